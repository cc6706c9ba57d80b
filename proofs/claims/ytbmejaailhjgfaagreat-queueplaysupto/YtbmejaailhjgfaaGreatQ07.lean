/- sort.symMerge over a list of entries, where the other side is a single entry: the plain function. No condition. sort.symMerge over a list of entries, the halves: the plain function. No condition. sort.symMerge over a list of entries, the halves (hi): the plain function. No condition. sort.symMerge over a list of entries, the halves (lo): the plain function. No condition. sort.symMerge over a list of entries: the plain function. No condition. -/
import Derived.Test.YtbmejaailhjgfaaGreatQ06
namespace Go.Proofs.YtbmejaailhjgfaaGreat
open Go.RowKit Go.Maps
set_option linter.unusedSimpArgs false

set_option maxRecDepth 100000 in
set_option maxHeartbeats 4000000 in
theorem sym_two {F : Where} {w : World} {g cap : Nat} {L : List It} (h : LsAt F w g cap L) (hL : L.length < 1099511627776) (a m b : Nat) (ham : a < m) (ham1 : ¬ m = a + 1) (hmb : b = m + 1) (hb : b ≤ L.length) :
    Calls Tryz.prog 118 #[.iface 99 (Lv g L.length cap), .int .i64 (a : Int), .int .i64 (m : Int), .int .i64 (b : Int)] w fun e w' => e = .returned (.tuple #[]) ∧ LsAt F w' g cap (swD (m - bs (fun h => !ahead (at_ L m) (at_ L h)) (m - a + 1) a m) m L) ∧ Turns F w w' := by
  have HH : Hid (LsAt F w g cap L) := h
  clear h
  have e1 : ((m : Int) - (a : Int) == 1) = false := by rw [beq_eq_false_iff_ne]; omega
  have e2 : (b : Int) - (m : Int) = 1 := by omega
  have HA : Hid (b = m + 1) := hmb
  have hmL : m < L.length := by omega
  clear hmb ham1
  go_enter Tryz.func118, Tryz.ntmps118
  go_wp2_with fail
  go_loopw [12, 13] (fun vi vj wr => ∃ (i j f : Nat), vi = .int .i64 (i : Int) ∧ vj = .int .i64 (j : Int) ∧ a ≤ i ∧ i ≤ j ∧ j ≤ m ∧ j - i < f ∧ Below w.heap.size w wr ∧ bs (fun h => !ahead (at_ L m) (at_ L h)) f i j = bs (fun h => !ahead (at_ L m) (at_ L h)) (m - a + 1) a m) (fun vi vj _ => (intOf vj).toNat - (intOf vi).toNat)
  case atStart => exact ⟨a, m, m - a + 1, rfl, rfl, Nat.le_refl _, by omega, Nat.le_refl _, by omega, Below.refl _ _, rfl⟩
  case round =>
    obtain ⟨i, j, f, rfl, rfl, hi0, hij, hjb, hf, hbw, h3⟩ := hrel
    have HE : Hid (Below w.heap.size w wr ∧ bs (fun h => !ahead (at_ L m) (at_ L h)) f i j = bs (fun h => !ahead (at_ L m) (at_ L h)) (m - a + 1) a m) := ⟨hbw, h3⟩
    clear hbw h3
    by_cases hlt : i < j
    · have hlt' : (i : Int) < (j : Int) := by omega
      obtain ⟨c, hc⟩ : ∃ c, c = (i + j) / 2 := ⟨_, rfl⟩
      have hce : ((i : Int) + (j : Int)) / 2 = (c : Int) := by omega
      have HC : Hid (c = (i + j) / 2) := hc
      have hci : i ≤ c ∧ c < j := by omega
      clear hc
      cases hah : ahead (at_ L m) (at_ L c) with
      | false =>
        have HLs := sLess (HH.out.grow HE.out.1) (i := m) (j := c) (by omega) (by omega) hah
        have HL : Hid (Calls Tryz.prog 141 #[Lv g L.length cap, .int .i64 (m : Int), .int .i64 (c : Int)] wr fun e w' => e = .returned (.bool false) ∧ Below wr.heap.size wr w') := HLs
        clear HLs
        go_wp2_with (go_at_call 141; refine HL.out.mono ?_; rintro e w1 ⟨rfl, hb1⟩)
        go_roundw
        case rel => exact ⟨c + 1, j, f - 1, by go_num, rfl, by omega, by omega, hjb, by omega, on2 HE.out.1 hb1, by rw [← HE.out.2, bs_yes (by omega) hlt HC.out (by simp [hah])]⟩
        case measure => simp [intOf]; omega
      | true =>
        have HLs := sLess (HH.out.grow HE.out.1) (i := m) (j := c) (by omega) (by omega) hah
        have HL : Hid (Calls Tryz.prog 141 #[Lv g L.length cap, .int .i64 (m : Int), .int .i64 (c : Int)] wr fun e w' => e = .returned (.bool true) ∧ Below wr.heap.size wr w') := HLs
        clear HLs
        go_wp2_with (go_at_call 141; refine HL.out.mono ?_; rintro e w1 ⟨rfl, hb1⟩)
        go_roundw
        case rel => exact ⟨i, c, f - 1, rfl, rfl, by omega, by omega, by omega, by omega, on2 HE.out.1 hb1, by rw [← HE.out.2, bs_no (by omega) hlt HC.out (by simp [hah])]⟩
        case measure => simp [intOf]; omega
    · have hlt' : ¬ (i : Int) < (j : Int) := by omega
      have HBS : Hid (bs (fun h => !ahead (at_ L m) (at_ L h)) (m - a + 1) a m = i) := by
        show _ = _
        rw [← HE.out.2, bs_end hlt]
      have HB : Hid (Below w.heap.size w wr) := HE.out.1
      have him : i ≤ m := by omega
      clear HE
      go_wp2_with fail
      go_loopw [15] (fun vk wq => ∃ (k : Nat) (M : List It), vk = .int .i64 (k : Int) ∧ i ≤ k ∧ k ≤ m ∧ M.length = L.length ∧ LsAt F wq g cap M ∧ Turns F w wq ∧ swD (k - i) k M = swD (m - i) m L) (fun vk _ => (intOf vk).toNat)
      case atStart => exact ⟨m, L, rfl, him, Nat.le_refl _, rfl, HH.out.grow HB.out, Turns.below HB.out, rfl⟩
      case round =>
        obtain ⟨k, M, rfl, hak, hkq, hM, k1, k2, k3⟩ := hrel
        have HR : Hid (LsAt F wr g cap M ∧ Turns F w wr ∧ swD (k - i) k M = swD (m - i) m L) := ⟨k1, k2, k3⟩
        clear k1 k2 k3 HH HB
        by_cases hkl : i < k
        · have hkl' : (i : Int) < (k : Int) := by omega
          obtain ⟨s, hs⟩ : ∃ s, k = s + 1 := ⟨k - 1, by omega⟩
          have hse : (k : Int) - 1 = (s : Int) := by omega
          have HS := sSwap HR.out.1 (i := k) (j := s) (by omega) (by omega) (by omega)
          rw [hM] at HS
          have HSw : Hid (Calls Tryz.prog 145 #[Lv g L.length cap, .int .i64 (k : Int), .int .i64 (s : Int)] wr fun e w' => e = .returned (.tuple #[]) ∧ LsAt F w' g cap (swapL M k s) ∧ Turns F wr w') := HS
          have HS2 : Hid (k = s + 1) := hs
          have hsq : s ≤ m := by omega
          have has : i ≤ s := by omega
          have hsk : s < k := by omega
          clear HS hs
          go_wp2_with (go_at_call 145; refine HSw.out.mono ?_; rintro e w1 ⟨rfl, k1, u1⟩)
          go_roundw
          case rel => exact ⟨s, swapL M k s, by first | rfl | go_num, has, hsq, by rw [swapL_length]; exact hM, k1, HR.out.2.1.trans u1, by have e3 := HS2.out; rw [← HR.out.2.2, show k - i = (s - i) + 1 by omega, swD, show k - 1 = s by omega]⟩
          case measure => simp [intOf]; omega
        · have hkl' : ¬ (i : Int) < (k : Int) := by omega
          go_wp2_with fail
          refine bodyPost_ret (results_none rfl _ _ _) rfl ?_
          have := HR.out.2.2
          rw [show k - i = 0 by omega] at this
          rw [HBS.out]
          exact ⟨rfl, this ▸ HR.out.1, HR.out.2.1⟩
end Go.Proofs.YtbmejaailhjgfaaGreat
namespace Go.Proofs.YtbmejaailhjgfaaGreat
open Go.RowKit Go.Maps
set_option linter.unusedSimpArgs false
set_option maxRecDepth 100000

/-- Which places are held against each other. -/
def symQ (n : Nat) (L : List It) (c : Nat) : Bool := !ahead (at_ L (n - 1 - c)) (at_ L c)
/-- What is done behind the search. -/
def symT (rec : Nat → Nat → Nat → List It → List It) (a m b mid e s : Nat) (L : List It) : List It :=
  let L1 := if s < m ∧ m < e then rotF (e - s) m (m - s) (e - m) L else L
  let L2 := if a < s ∧ s < mid then rec a s mid L1 else L1
  if mid < e ∧ e < b then rec mid e b L2 else L2
theorem symT_length {rec : Nat → Nat → Nat → List It → List It} (h : ∀ a m b L, (rec a m b L).length = L.length) (a m b mid e s : Nat) (L : List It) : (symT rec a m b mid e s L).length = L.length := by
  unfold symT
  simp only
  split <;> split <;> split <;> simp [h, rotF_length]
theorem rotate_as {F : Where} {w : World} {g cap n0 : Nat} {L : List It} (h : LsAt F w g cap L) (hn : L.length = n0) (hL : n0 < 1099511627776) (a m b : Nat) (ham : a < m) (hmb : m < b) (hb : b ≤ n0) :
    Calls Tryz.prog 120 #[.iface 99 (Lv g n0 cap), .int .i64 (a : Int), .int .i64 (m : Int), .int .i64 (b : Int)] w fun e w' => e = .returned (.tuple #[]) ∧ LsAt F w' g cap (rotF (b - a) m (m - a) (b - m) L) ∧ Turns F w w' := by
  subst hn
  exact rotate_calls h hL a m b ham hmb hb
theorem sLess_as {F : Where} {w : World} {g cap n0 : Nat} {L : List It} (h : LsAt F w g cap L) (hn : L.length = n0) {i j : Nat} (hi : i < n0) (hj : j < n0) {b : Bool} (e : ahead (at_ L i) (at_ L j) = b) :
    Calls Tryz.prog 141 #[Lv g n0 cap, .int .i64 (i : Int), .int .i64 (j : Int)] w fun e w' => e = .returned (.bool b) ∧ Below w.heap.size w w' := by
  subst hn
  exact sLess h hi hj e
end Go.Proofs.YtbmejaailhjgfaaGreat
namespace Go.Proofs.YtbmejaailhjgfaaGreat
open Go.RowKit Go.Maps
set_option linter.unusedSimpArgs false

set_option maxRecDepth 100000 in
set_option maxHeartbeats 8000000 in
theorem sym_hi {F : Where} {w : World} {g cap n0 : Nat} {L : List It} (rec : Nat → Nat → Nat → List It → List It) (hrec : ∀ a m b L, (rec a m b L).length = L.length) (k : Nat)
    (IH : Hid (∀ (w : World) (L : List It) (a m b : Nat), LsAt F w g cap L → L.length = n0 → a < m → m < b → b ≤ n0 → b - a < k → Calls Tryz.prog 118 #[.iface 99 (Lv g n0 cap), .int .i64 (a : Int), .int .i64 (m : Int), .int .i64 (b : Int)] w fun e w' => e = .returned (.tuple #[]) ∧ LsAt F w' g cap (rec a m b L) ∧ Turns F w w'))
    (h : LsAt F w g cap L) (hn : L.length = n0) (hL : n0 < 1099511627776) (a m b mid n st : Nat) (h1 : a + 1 < m) (h2 : m + 1 < b) (hb : b ≤ n0) (hk : b - a ≤ k) (hmid : mid = (a + b) / 2) (hnn : n = mid + m) (hmode : mid < m) (hst : st = n - b) :
    Calls Tryz.prog 118 #[.iface 99 (Lv g n0 cap), .int .i64 (a : Int), .int .i64 (m : Int), .int .i64 (b : Int)] w fun e w' => e = .returned (.tuple #[]) ∧ LsAt F w' g cap (symT rec a m b mid (n - bs (symQ n L) (mid - st + 1) st mid) (bs (symQ n L) (mid - st + 1) st mid) L) ∧ Turns F w w' := by
  have HH : Hid (LsAt F w g cap L) := h
  clear h
  have e1 : ((m : Int) - (a : Int) == 1) = false := by rw [beq_eq_false_iff_ne]; omega
  have e2 : ((b : Int) - (m : Int) == 1) = false := by rw [beq_eq_false_iff_ne]; omega
  have e3 : ((a : Int) + (b : Int)) / 2 = (mid : Int) := by omega
  have e4 : (mid : Int) + (m : Int) = (n : Int) := by omega
  have e5 : (n : Int) - (b : Int) = (st : Int) := by omega
  have e6 : (mid : Int) < (m : Int) := by omega
  obtain ⟨p, hp⟩ : ∃ p, n = p + 1 := ⟨n - 1, by omega⟩
  have e7 : (n : Int) - 1 = (p : Int) := by omega
  have HF : Hid (2 * mid ≤ a + b ∧ a + b ≤ 2 * mid + 1 ∧ n = mid + m ∧ n = p + 1 ∧ st = n - b) := ⟨by omega, by omega, hnn, hp, hst⟩
  have f1 : a < mid ∧ mid < b := by omega
  have f2 : st ≤ mid ∧ a ≤ st ∧ n ≤ st + b ∧ mid ≤ m ∧ mid ≤ mid := by omega
  clear hmid hnn hp hst
  
  go_enter Tryz.func118, Tryz.ntmps118
  go_wp2_with fail
  go_loopw [18, 19] (fun vi vj wr => ∃ (i j f : Nat), vi = .int .i64 (i : Int) ∧ vj = .int .i64 (j : Int) ∧ st ≤ i ∧ i ≤ j ∧ j ≤ mid ∧ j - i < f ∧ Below w.heap.size w wr ∧ bs (symQ n L) f i j = bs (symQ n L) (mid - st + 1) st mid) (fun vi vj _ => (intOf vj).toNat - (intOf vi).toNat)
  case atStart => exact ⟨st, mid, mid - st + 1, by first | rfl | (rw [e5b.out]), rfl, Nat.le_refl _, f2.1, Nat.le_refl _, by omega, Below.refl _ _, rfl⟩
  case round =>
    obtain ⟨i, j, f, rfl, rfl, hi0, hij, hjb, hf, hbw, h3⟩ := hrel
    have HE : Hid (Below w.heap.size w wr ∧ bs (symQ n L) f i j = bs (symQ n L) (mid - st + 1) st mid) := ⟨hbw, h3⟩
    clear hbw h3
    by_cases hlt : i < j
    · have hlt' : (i : Int) < (j : Int) := by omega
      obtain ⟨c, hc⟩ : ∃ c, c = (i + j) / 2 := ⟨_, rfl⟩
      have hce : ((i : Int) + (j : Int)) / 2 = (c : Int) := by omega
      have HC : Hid (c = (i + j) / 2) := hc
      have hci : i ≤ c ∧ c < j := by omega
      obtain ⟨d, hd⟩ : ∃ d, d = n - 1 - c := ⟨_, rfl⟩
      have hde : (p : Int) - (c : Int) = (d : Int) := by have := HF.out; omega
      have HD : Hid (d = n - 1 - c) := hd
      have hdn : d < n0 := by have := HF.out; omega
      clear hc hd
      cases hah : ahead (at_ L d) (at_ L c) with
      | false =>
        have HLs := sLess_as (HH.out.grow HE.out.1) hn (i := d) (j := c) hdn (by omega) hah
        have HL : Hid (Calls Tryz.prog 141 #[Lv g n0 cap, .int .i64 (d : Int), .int .i64 (c : Int)] wr fun e w' => e = .returned (.bool false) ∧ Below wr.heap.size wr w') := HLs
        clear HLs
        go_wp2_with (go_at_call 141; refine HL.out.mono ?_; rintro e w1 ⟨rfl, hb1⟩)
        go_roundw
        case rel => exact ⟨c + 1, j, f - 1, by go_num, rfl, by omega, by omega, hjb, by omega, on2 HE.out.1 hb1, by rw [← HE.out.2, bs_yes (by omega) hlt HC.out (by unfold symQ; rw [← HD.out, hah]; rfl)]⟩
        case measure => simp [intOf]; omega
      | true =>
        have HLs := sLess_as (HH.out.grow HE.out.1) hn (i := d) (j := c) hdn (by omega) hah
        have HL : Hid (Calls Tryz.prog 141 #[Lv g n0 cap, .int .i64 (d : Int), .int .i64 (c : Int)] wr fun e w' => e = .returned (.bool true) ∧ Below wr.heap.size wr w') := HLs
        clear HLs
        go_wp2_with (go_at_call 141; refine HL.out.mono ?_; rintro e w1 ⟨rfl, hb1⟩)
        go_roundw
        case rel => exact ⟨i, c, f - 1, rfl, rfl, by omega, by omega, by omega, by omega, on2 HE.out.1 hb1, by rw [← HE.out.2, bs_no (by omega) hlt HC.out (by unfold symQ; rw [← HD.out, hah]; rfl)]⟩
        case measure => simp [intOf]; omega
    · have hlt' : ¬ (i : Int) < (j : Int) := by omega
      have HBS : Hid (bs (symQ n L) (mid - st + 1) st mid = i) := by
        show _ = _
        rw [← HE.out.2, bs_end hlt]
      have HB : Hid (Below w.heap.size w wr) := HE.out.1
      clear HE
      obtain ⟨e, he⟩ : ∃ e, e = n - i := ⟨_, rfl⟩
      have hee : (n : Int) - (i : Int) = (e : Int) := by have := HF.out; omega
      have HEE : Hid (e = n - i) := he
      have f3 : e + i = n := by have := HF.out; omega
      have f4 : mid + m = n := by have := HF.out; omega
      have f5 : i ≤ m ∧ i ≤ mid ∧ a ≤ i ∧ e ≤ b := by omega
      clear he
      have HW := HH.out.grow HB.out
      have HG : Hid (LsAt F wr g cap L ∧ Turns F w wr) := ⟨HW, Turns.below HB.out⟩
      clear HW HH HB
      by_cases g1 : i < mid
      · by_cases g2 : a < i
        · by_cases g3 : e < b
          · skip
            have q1 : (i : Int) < (m : Int) := by omega
            have q2 : (m : Int) < (e : Int) := by omega
            have q3 : (i : Int) < (mid : Int) := by omega
            have q4 : (mid : Int) < (e : Int) := by omega
            have q5 : (a : Int) < (i : Int) := by omega
            have q6 : (e : Int) < (b : Int) := by omega
            have t1 : True := trivial
            go_wp2_with (first | (go_at_call 120; refine (rotate_as HG.out.1 hn hL i m e (by omega) (by omega) (by omega)).mono ?_; rintro e' w1 ⟨rfl, k1, u1⟩; have l1 := (rotF_length (e - i) m (m - i) (e - m) L).trans hn) | (go_at_call 118; have _t := t1; refine (IH.out _ _ a i mid k1 l1 (by omega) (by omega) (by omega) (by omega)).mono ?_; rintro e' w2 ⟨rfl, k2, u2⟩; have l2 := (hrec a i mid _).trans l1; clear t1) | (go_at_call 118; refine (IH.out _ _ mid e b k2 l2 (by omega) (by omega) (by omega) (by omega)).mono ?_; rintro e' w3 ⟨rfl, k3, u3⟩))
            go_end0
            rw [HBS.out, ← HEE.out]
            refine ⟨rfl, ?_, (((HG.out.2).trans u1).trans u2).trans u3⟩
            unfold symT
            simp only []
            rw [if_pos (show (i < m ∧ m < e) by omega), if_pos (show (a < i ∧ i < mid) by omega), if_pos (show (mid < e ∧ e < b) by omega)]
            exact k3
          · skip
            have q1 : (i : Int) < (m : Int) := by omega
            have q2 : (m : Int) < (e : Int) := by omega
            have q3 : (i : Int) < (mid : Int) := by omega
            have q4 : (mid : Int) < (e : Int) := by omega
            have q5 : (a : Int) < (i : Int) := by omega
            have q6 : ¬ (e : Int) < (b : Int) := by omega
            go_wp2_with (first | (go_at_call 120; refine (rotate_as HG.out.1 hn hL i m e (by omega) (by omega) (by omega)).mono ?_; rintro e' w1 ⟨rfl, k1, u1⟩; have l1 := (rotF_length (e - i) m (m - i) (e - m) L).trans hn) | (go_at_call 118; refine (IH.out _ _ a i mid k1 l1 (by omega) (by omega) (by omega) (by omega)).mono ?_; rintro e' w2 ⟨rfl, k2, u2⟩; have l2 := (hrec a i mid _).trans l1))
            go_end0
            rw [HBS.out, ← HEE.out]
            refine ⟨rfl, ?_, ((HG.out.2).trans u1).trans u2⟩
            unfold symT
            simp only []
            rw [if_pos (show (i < m ∧ m < e) by omega), if_pos (show (a < i ∧ i < mid) by omega), if_neg (show ¬ (mid < e ∧ e < b) by omega)]
            exact k2
        · by_cases g3 : e < b
          · skip
            have q1 : (i : Int) < (m : Int) := by omega
            have q2 : (m : Int) < (e : Int) := by omega
            have q3 : (i : Int) < (mid : Int) := by omega
            have q4 : (mid : Int) < (e : Int) := by omega
            have q5 : ¬ (a : Int) < (i : Int) := by omega
            have q6 : (e : Int) < (b : Int) := by omega
            go_wp2_with (first | (go_at_call 120; refine (rotate_as HG.out.1 hn hL i m e (by omega) (by omega) (by omega)).mono ?_; rintro e' w1 ⟨rfl, k1, u1⟩; have l1 := (rotF_length (e - i) m (m - i) (e - m) L).trans hn) | (go_at_call 118; refine (IH.out _ _ mid e b k1 l1 (by omega) (by omega) (by omega) (by omega)).mono ?_; rintro e' w3 ⟨rfl, k3, u3⟩))
            go_end0
            rw [HBS.out, ← HEE.out]
            refine ⟨rfl, ?_, ((HG.out.2).trans u1).trans u3⟩
            unfold symT
            simp only []
            rw [if_pos (show (i < m ∧ m < e) by omega), if_neg (show ¬ (a < i ∧ i < mid) by omega), if_pos (show (mid < e ∧ e < b) by omega)]
            exact k3
          · skip
            have q1 : (i : Int) < (m : Int) := by omega
            have q2 : (m : Int) < (e : Int) := by omega
            have q3 : (i : Int) < (mid : Int) := by omega
            have q4 : (mid : Int) < (e : Int) := by omega
            have q5 : ¬ (a : Int) < (i : Int) := by omega
            have q6 : ¬ (e : Int) < (b : Int) := by omega
            go_wp2_with (first | (go_at_call 120; refine (rotate_as HG.out.1 hn hL i m e (by omega) (by omega) (by omega)).mono ?_; rintro e' w1 ⟨rfl, k1, u1⟩; have l1 := (rotF_length (e - i) m (m - i) (e - m) L).trans hn))
            go_end0
            rw [HBS.out, ← HEE.out]
            refine ⟨rfl, ?_, (HG.out.2).trans u1⟩
            unfold symT
            simp only []
            rw [if_pos (show (i < m ∧ m < e) by omega), if_neg (show ¬ (a < i ∧ i < mid) by omega), if_neg (show ¬ (mid < e ∧ e < b) by omega)]
            exact k1
      · skip
        have q1 : (i : Int) < (m : Int) := by omega
        have q2 : ¬ (m : Int) < (e : Int) := by omega
        have q3 : ¬ (i : Int) < (mid : Int) := by omega
        have q4 : (mid : Int) < (e : Int) := by omega
        have q5 : (a : Int) < (i : Int) := by omega
        have q6 : (e : Int) < (b : Int) := by omega
        go_wp2_with (first | (go_at_call 118; refine (IH.out _ _ mid e b HG.out.1 hn (by omega) (by omega) (by omega) (by omega)).mono ?_; rintro e' w3 ⟨rfl, k3, u3⟩))
        go_end0
        rw [HBS.out, ← HEE.out]
        refine ⟨rfl, ?_, (HG.out.2).trans u3⟩
        unfold symT
        simp only []
        rw [if_neg (show ¬ (i < m ∧ m < e) by omega), if_neg (show ¬ (a < i ∧ i < mid) by omega), if_pos (show (mid < e ∧ e < b) by omega)]
        exact k3
end Go.Proofs.YtbmejaailhjgfaaGreat
namespace Go.Proofs.YtbmejaailhjgfaaGreat
open Go.RowKit Go.Maps
set_option linter.unusedSimpArgs false

set_option maxRecDepth 100000 in
set_option maxHeartbeats 8000000 in
theorem sym_lo {F : Where} {w : World} {g cap n0 : Nat} {L : List It} (rec : Nat → Nat → Nat → List It → List It) (hrec : ∀ a m b L, (rec a m b L).length = L.length) (k : Nat)
    (IH : Hid (∀ (w : World) (L : List It) (a m b : Nat), LsAt F w g cap L → L.length = n0 → a < m → m < b → b ≤ n0 → b - a < k → Calls Tryz.prog 118 #[.iface 99 (Lv g n0 cap), .int .i64 (a : Int), .int .i64 (m : Int), .int .i64 (b : Int)] w fun e w' => e = .returned (.tuple #[]) ∧ LsAt F w' g cap (rec a m b L) ∧ Turns F w w'))
    (h : LsAt F w g cap L) (hn : L.length = n0) (hL : n0 < 1099511627776) (a m b mid n st : Nat) (h1 : a + 1 < m) (h2 : m + 1 < b) (hb : b ≤ n0) (hk : b - a ≤ k) (hmid : mid = (a + b) / 2) (hnn : n = mid + m) (hmode : ¬ mid < m) (hst : st = a) :
    Calls Tryz.prog 118 #[.iface 99 (Lv g n0 cap), .int .i64 (a : Int), .int .i64 (m : Int), .int .i64 (b : Int)] w fun e w' => e = .returned (.tuple #[]) ∧ LsAt F w' g cap (symT rec a m b mid (n - bs (symQ n L) (m - st + 1) st m) (bs (symQ n L) (m - st + 1) st m) L) ∧ Turns F w w' := by
  have HH : Hid (LsAt F w g cap L) := h
  clear h
  have e1 : ((m : Int) - (a : Int) == 1) = false := by rw [beq_eq_false_iff_ne]; omega
  have e2 : ((b : Int) - (m : Int) == 1) = false := by rw [beq_eq_false_iff_ne]; omega
  have e3 : ((a : Int) + (b : Int)) / 2 = (mid : Int) := by omega
  have e4 : (mid : Int) + (m : Int) = (n : Int) := by omega
  have e5 : (a : Int) = (st : Int) := by omega
  have e6 : ¬ (mid : Int) < (m : Int) := by omega
  obtain ⟨p, hp⟩ : ∃ p, n = p + 1 := ⟨n - 1, by omega⟩
  have e7 : (n : Int) - 1 = (p : Int) := by omega
  have HF : Hid (2 * mid ≤ a + b ∧ a + b ≤ 2 * mid + 1 ∧ n = mid + m ∧ n = p + 1 ∧ st = a) := ⟨by omega, by omega, hnn, hp, hst⟩
  have f1 : a < mid ∧ mid < b := by omega
  have f2 : st ≤ m ∧ a ≤ st ∧ n ≤ st + b ∧ m ≤ m ∧ m ≤ mid := by omega
  clear hmid hnn hp hst
  have e5b : Hid ((a : Int) = (st : Int)) := e5
  clear e5
  go_enter Tryz.func118, Tryz.ntmps118
  go_wp2_with fail
  go_loopw [18, 19] (fun vi vj wr => ∃ (i j f : Nat), vi = .int .i64 (i : Int) ∧ vj = .int .i64 (j : Int) ∧ st ≤ i ∧ i ≤ j ∧ j ≤ m ∧ j - i < f ∧ Below w.heap.size w wr ∧ bs (symQ n L) f i j = bs (symQ n L) (m - st + 1) st m) (fun vi vj _ => (intOf vj).toNat - (intOf vi).toNat)
  case atStart => exact ⟨st, m, m - st + 1, by first | rfl | (rw [e5b.out]), rfl, Nat.le_refl _, f2.1, Nat.le_refl _, by omega, Below.refl _ _, rfl⟩
  case round =>
    obtain ⟨i, j, f, rfl, rfl, hi0, hij, hjb, hf, hbw, h3⟩ := hrel
    have HE : Hid (Below w.heap.size w wr ∧ bs (symQ n L) f i j = bs (symQ n L) (m - st + 1) st m) := ⟨hbw, h3⟩
    clear hbw h3
    by_cases hlt : i < j
    · have hlt' : (i : Int) < (j : Int) := by omega
      obtain ⟨c, hc⟩ : ∃ c, c = (i + j) / 2 := ⟨_, rfl⟩
      have hce : ((i : Int) + (j : Int)) / 2 = (c : Int) := by omega
      have HC : Hid (c = (i + j) / 2) := hc
      have hci : i ≤ c ∧ c < j := by omega
      obtain ⟨d, hd⟩ : ∃ d, d = n - 1 - c := ⟨_, rfl⟩
      have hde : (p : Int) - (c : Int) = (d : Int) := by have := HF.out; omega
      have HD : Hid (d = n - 1 - c) := hd
      have hdn : d < n0 := by have := HF.out; omega
      clear hc hd
      cases hah : ahead (at_ L d) (at_ L c) with
      | false =>
        have HLs := sLess_as (HH.out.grow HE.out.1) hn (i := d) (j := c) hdn (by omega) hah
        have HL : Hid (Calls Tryz.prog 141 #[Lv g n0 cap, .int .i64 (d : Int), .int .i64 (c : Int)] wr fun e w' => e = .returned (.bool false) ∧ Below wr.heap.size wr w') := HLs
        clear HLs
        go_wp2_with (go_at_call 141; refine HL.out.mono ?_; rintro e w1 ⟨rfl, hb1⟩)
        go_roundw
        case rel => exact ⟨c + 1, j, f - 1, by go_num, rfl, by omega, by omega, hjb, by omega, on2 HE.out.1 hb1, by rw [← HE.out.2, bs_yes (by omega) hlt HC.out (by unfold symQ; rw [← HD.out, hah]; rfl)]⟩
        case measure => simp [intOf]; omega
      | true =>
        have HLs := sLess_as (HH.out.grow HE.out.1) hn (i := d) (j := c) hdn (by omega) hah
        have HL : Hid (Calls Tryz.prog 141 #[Lv g n0 cap, .int .i64 (d : Int), .int .i64 (c : Int)] wr fun e w' => e = .returned (.bool true) ∧ Below wr.heap.size wr w') := HLs
        clear HLs
        go_wp2_with (go_at_call 141; refine HL.out.mono ?_; rintro e w1 ⟨rfl, hb1⟩)
        go_roundw
        case rel => exact ⟨i, c, f - 1, rfl, rfl, by omega, by omega, by omega, by omega, on2 HE.out.1 hb1, by rw [← HE.out.2, bs_no (by omega) hlt HC.out (by unfold symQ; rw [← HD.out, hah]; rfl)]⟩
        case measure => simp [intOf]; omega
    · have hlt' : ¬ (i : Int) < (j : Int) := by omega
      have HBS : Hid (bs (symQ n L) (m - st + 1) st m = i) := by
        show _ = _
        rw [← HE.out.2, bs_end hlt]
      have HB : Hid (Below w.heap.size w wr) := HE.out.1
      clear HE
      obtain ⟨e, he⟩ : ∃ e, e = n - i := ⟨_, rfl⟩
      have hee : (n : Int) - (i : Int) = (e : Int) := by have := HF.out; omega
      have HEE : Hid (e = n - i) := he
      have f3 : e + i = n := by have := HF.out; omega
      have f4 : mid + m = n := by have := HF.out; omega
      have f5 : i ≤ m ∧ i ≤ mid ∧ a ≤ i ∧ e ≤ b := by omega
      clear he
      have HW := HH.out.grow HB.out
      have HG : Hid (LsAt F wr g cap L ∧ Turns F w wr) := ⟨HW, Turns.below HB.out⟩
      clear HW HH HB
      by_cases g1 : i < m
      · by_cases g2 : a < i
        · by_cases g3 : e < b
          · skip
            have q1 : (i : Int) < (m : Int) := by omega
            have q2 : (m : Int) < (e : Int) := by omega
            have q3 : (i : Int) < (mid : Int) := by omega
            have q4 : (mid : Int) < (e : Int) := by omega
            have q5 : (a : Int) < (i : Int) := by omega
            have q6 : (e : Int) < (b : Int) := by omega
            have t1 : True := trivial
            go_wp2_with (first | (go_at_call 120; refine (rotate_as HG.out.1 hn hL i m e (by omega) (by omega) (by omega)).mono ?_; rintro e' w1 ⟨rfl, k1, u1⟩; have l1 := (rotF_length (e - i) m (m - i) (e - m) L).trans hn) | (go_at_call 118; have _t := t1; refine (IH.out _ _ a i mid k1 l1 (by omega) (by omega) (by omega) (by omega)).mono ?_; rintro e' w2 ⟨rfl, k2, u2⟩; have l2 := (hrec a i mid _).trans l1; clear t1) | (go_at_call 118; refine (IH.out _ _ mid e b k2 l2 (by omega) (by omega) (by omega) (by omega)).mono ?_; rintro e' w3 ⟨rfl, k3, u3⟩))
            go_end0
            rw [HBS.out, ← HEE.out]
            refine ⟨rfl, ?_, (((HG.out.2).trans u1).trans u2).trans u3⟩
            unfold symT
            simp only []
            rw [if_pos (show (i < m ∧ m < e) by omega), if_pos (show (a < i ∧ i < mid) by omega), if_pos (show (mid < e ∧ e < b) by omega)]
            exact k3
          · skip
            have q1 : (i : Int) < (m : Int) := by omega
            have q2 : (m : Int) < (e : Int) := by omega
            have q3 : (i : Int) < (mid : Int) := by omega
            have q4 : (mid : Int) < (e : Int) := by omega
            have q5 : (a : Int) < (i : Int) := by omega
            have q6 : ¬ (e : Int) < (b : Int) := by omega
            go_wp2_with (first | (go_at_call 120; refine (rotate_as HG.out.1 hn hL i m e (by omega) (by omega) (by omega)).mono ?_; rintro e' w1 ⟨rfl, k1, u1⟩; have l1 := (rotF_length (e - i) m (m - i) (e - m) L).trans hn) | (go_at_call 118; refine (IH.out _ _ a i mid k1 l1 (by omega) (by omega) (by omega) (by omega)).mono ?_; rintro e' w2 ⟨rfl, k2, u2⟩; have l2 := (hrec a i mid _).trans l1))
            go_end0
            rw [HBS.out, ← HEE.out]
            refine ⟨rfl, ?_, ((HG.out.2).trans u1).trans u2⟩
            unfold symT
            simp only []
            rw [if_pos (show (i < m ∧ m < e) by omega), if_pos (show (a < i ∧ i < mid) by omega), if_neg (show ¬ (mid < e ∧ e < b) by omega)]
            exact k2
        · by_cases g3 : e < b
          · skip
            have q1 : (i : Int) < (m : Int) := by omega
            have q2 : (m : Int) < (e : Int) := by omega
            have q3 : (i : Int) < (mid : Int) := by omega
            have q4 : (mid : Int) < (e : Int) := by omega
            have q5 : ¬ (a : Int) < (i : Int) := by omega
            have q6 : (e : Int) < (b : Int) := by omega
            go_wp2_with (first | (go_at_call 120; refine (rotate_as HG.out.1 hn hL i m e (by omega) (by omega) (by omega)).mono ?_; rintro e' w1 ⟨rfl, k1, u1⟩; have l1 := (rotF_length (e - i) m (m - i) (e - m) L).trans hn) | (go_at_call 118; refine (IH.out _ _ mid e b k1 l1 (by omega) (by omega) (by omega) (by omega)).mono ?_; rintro e' w3 ⟨rfl, k3, u3⟩))
            go_end0
            rw [HBS.out, ← HEE.out]
            refine ⟨rfl, ?_, ((HG.out.2).trans u1).trans u3⟩
            unfold symT
            simp only []
            rw [if_pos (show (i < m ∧ m < e) by omega), if_neg (show ¬ (a < i ∧ i < mid) by omega), if_pos (show (mid < e ∧ e < b) by omega)]
            exact k3
          · skip
            have q1 : (i : Int) < (m : Int) := by omega
            have q2 : (m : Int) < (e : Int) := by omega
            have q3 : (i : Int) < (mid : Int) := by omega
            have q4 : (mid : Int) < (e : Int) := by omega
            have q5 : ¬ (a : Int) < (i : Int) := by omega
            have q6 : ¬ (e : Int) < (b : Int) := by omega
            go_wp2_with (first | (go_at_call 120; refine (rotate_as HG.out.1 hn hL i m e (by omega) (by omega) (by omega)).mono ?_; rintro e' w1 ⟨rfl, k1, u1⟩; have l1 := (rotF_length (e - i) m (m - i) (e - m) L).trans hn))
            go_end0
            rw [HBS.out, ← HEE.out]
            refine ⟨rfl, ?_, (HG.out.2).trans u1⟩
            unfold symT
            simp only []
            rw [if_pos (show (i < m ∧ m < e) by omega), if_neg (show ¬ (a < i ∧ i < mid) by omega), if_neg (show ¬ (mid < e ∧ e < b) by omega)]
            exact k1
      · by_cases g2 : i < mid
        · skip
          have q1 : ¬ (i : Int) < (m : Int) := by omega
          have q3 : (i : Int) < (mid : Int) := by omega
          have q4 : ¬ (mid : Int) < (e : Int) := by omega
          have q5 : (a : Int) < (i : Int) := by omega
          go_wp2_with (first | (go_at_call 118; refine (IH.out _ _ a i mid HG.out.1 hn (by omega) (by omega) (by omega) (by omega)).mono ?_; rintro e' w2 ⟨rfl, k2, u2⟩; have l2 := (hrec a i mid _).trans hn))
          go_end0
          rw [HBS.out, ← HEE.out]
          refine ⟨rfl, ?_, (HG.out.2).trans u2⟩
          unfold symT
          simp only []
          rw [if_neg (show ¬ (i < m ∧ m < e) by omega), if_pos (show (a < i ∧ i < mid) by omega), if_neg (show ¬ (mid < e ∧ e < b) by omega)]
          exact k2
        · skip
          have q1 : ¬ (i : Int) < (m : Int) := by omega
          have q3 : ¬ (i : Int) < (mid : Int) := by omega
          have q4 : ¬ (mid : Int) < (e : Int) := by omega
          have q5 : (a : Int) < (i : Int) := by omega
          go_wp2_with fail
          go_end0
          rw [HBS.out, ← HEE.out]
          refine ⟨rfl, ?_, HG.out.2⟩
          unfold symT
          simp only []
          rw [if_neg (show ¬ (i < m ∧ m < e) by omega), if_neg (show ¬ (a < i ∧ i < mid) by omega), if_neg (show ¬ (mid < e ∧ e < b) by omega)]
          exact HG.out.1
end Go.Proofs.YtbmejaailhjgfaaGreat
namespace Go.Proofs.YtbmejaailhjgfaaGreat
open Go.RowKit Go.Maps
set_option linter.unusedSimpArgs false
set_option maxRecDepth 100000

theorem swU_length : ∀ (n k : Nat) (L : List It), (swU n k L).length = L.length
  | 0, _, _ => rfl
  | n + 1, k, L => by rw [swU, swU_length, swapL_length]
theorem swD_length : ∀ (n k : Nat) (L : List It), (swD n k L).length = L.length
  | 0, _, _ => rfl
  | n + 1, k, L => by rw [swD, swD_length, swapL_length]
/-- Where the search by halves ends. -/
def symS (a m b : Nat) (L : List It) : Nat :=
  if (a + b) / 2 < m then bs (symQ ((a + b) / 2 + m) L) ((a + b) / 2 - ((a + b) / 2 + m - b) + 1) ((a + b) / 2 + m - b) ((a + b) / 2) else bs (symQ ((a + b) / 2 + m) L) (m - a + 1) a m
def symF : Nat → Nat → Nat → Nat → List It → List It
  | 0, _, _, _, L => L
  | f + 1, a, m, b, L =>
    if m = a + 1 then swU (bs (fun h => ahead (at_ L h) (at_ L a)) (b - m + 1) m b - 1 - a) a L
    else if b = m + 1 then swD (m - bs (fun h => !ahead (at_ L m) (at_ L h)) (m - a + 1) a m) m L
    else symT (symF f) a m b ((a + b) / 2) ((a + b) / 2 + m - symS a m b L) (symS a m b L) L
theorem symF_length : ∀ (f a m b : Nat) (L : List It), (symF f a m b L).length = L.length
  | 0, _, _, _, _ => rfl
  | f + 1, a, m, b, L => by
    unfold symF
    split
    · rw [swU_length]
    · split
      · rw [swD_length]
      · exact symT_length (symF_length f) _ _ _ _ _ _ _
theorem symMerge_calls {F : Where} {g cap n0 : Nat} (hL : n0 < 1099511627776) : ∀ (f : Nat) (w : World) (L : List It) (a m b : Nat), LsAt F w g cap L → L.length = n0 → a < m → m < b → b ≤ n0 → b - a ≤ f →
    Calls Tryz.prog 118 #[.iface 99 (Lv g n0 cap), .int .i64 (a : Int), .int .i64 (m : Int), .int .i64 (b : Int)] w fun e w' => e = .returned (.tuple #[]) ∧ LsAt F w' g cap (symF f a m b L) ∧ Turns F w w'
  | 0, _, _, _, _, _, _, _, _, _, _, hf => absurd hf (by omega)
  | f + 1, w, L, a, m, b, h, hn, h1, h2, hb, hf => by
    unfold symF
    by_cases c1 : m = a + 1
    · rw [if_pos c1]
      subst hn
      exact sym_one h hL a m b c1 h2 hb
    · rw [if_neg c1]
      by_cases c2 : b = m + 1
      · rw [if_pos c2]
        subst hn
        exact sym_two h hL a m b h1 c1 c2 hb
      · rw [if_neg c2]
        have IH : Hid (∀ (w : World) (L : List It) (a' m b' : Nat), LsAt F w g cap L → L.length = n0 → a' < m → m < b' → b' ≤ n0 → b' - a' < b - a → Calls Tryz.prog 118 #[.iface 99 (Lv g n0 cap), .int .i64 (a' : Int), .int .i64 (m : Int), .int .i64 (b' : Int)] w fun e w' => e = .returned (.tuple #[]) ∧ LsAt F w' g cap (symF f a' m b' L) ∧ Turns F w w') :=
          fun w L a' m b' h hn h1 h2 hb hlt => symMerge_calls hL f w L a' m b' h hn h1 h2 hb (by omega)
        unfold symS
        by_cases c3 : (a + b) / 2 < m
        · rw [if_pos c3]
          exact sym_hi (symF f) (symF_length f) (b - a) IH h hn hL a m b ((a + b) / 2) ((a + b) / 2 + m) ((a + b) / 2 + m - b) (by omega) (by omega) hb (Nat.le_refl _) rfl rfl c3 rfl
        · rw [if_neg c3]
          exact sym_lo (symF f) (symF_length f) (b - a) IH h hn hL a m b ((a + b) / 2) ((a + b) / 2 + m) a (by omega) (by omega) hb (Nat.le_refl _) rfl rfl c3 rfl
end Go.Proofs.YtbmejaailhjgfaaGreat
