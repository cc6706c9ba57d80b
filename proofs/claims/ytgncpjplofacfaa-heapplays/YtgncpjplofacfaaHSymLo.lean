/- sort.symMerge over a list of entries, the halves (lo): the plain function. No condition. -/
import Derived.Test.YtgncpjplofacfaaHSymT
namespace Go.Proofs.Ytgncpjplofacfaa
open Go.RowKit Go.Maps
set_option linter.unusedSimpArgs false

set_option maxRecDepth 100000 in
set_option maxHeartbeats 8000000 in
theorem sym_lo {F : Where} {w : World} {g cap n0 : Nat} {L : List It} (rec : Nat → Nat → Nat → List It → List It) (hrec : ∀ a m b L, (rec a m b L).length = L.length) (k : Nat)
    (IH : Hid (∀ (w : World) (L : List It) (a m b : Nat), LsAt F w g cap L → L.length = n0 → a < m → m < b → b ≤ n0 → b - a < k → Calls Try.prog 46 #[.iface 58 (Lv g n0 cap), .int .i64 (a : Int), .int .i64 (m : Int), .int .i64 (b : Int)] w fun e w' => e = .returned (.tuple #[]) ∧ LsAt F w' g cap (rec a m b L) ∧ Turns F w w'))
    (h : LsAt F w g cap L) (hn : L.length = n0) (hL : n0 < 1099511627776) (a m b mid n st : Nat) (h1 : a + 1 < m) (h2 : m + 1 < b) (hb : b ≤ n0) (hk : b - a ≤ k) (hmid : mid = (a + b) / 2) (hnn : n = mid + m) (hmode : ¬ mid < m) (hst : st = a) :
    Calls Try.prog 46 #[.iface 58 (Lv g n0 cap), .int .i64 (a : Int), .int .i64 (m : Int), .int .i64 (b : Int)] w fun e w' => e = .returned (.tuple #[]) ∧ LsAt F w' g cap (symT rec a m b mid (n - bs (symQ n L) (m - st + 1) st m) (bs (symQ n L) (m - st + 1) st m) L) ∧ Turns F w w' := by
  have HH : Hid (LsAt F w g cap L) := h
  clear h
  have e1 : ((m : Int) - (a : Int) == 1) = false := by rw [beq_eq_false_iff_ne]; omega
  have e2 : ((b : Int) - (m : Int) == 1) = false := by rw [beq_eq_false_iff_ne]; omega
  have e3 : ((a : Int) + (b : Int)) / 2 = (mid : Int) := by omega
  have e4 : (mid : Int) + (m : Int) = (n : Int) := by omega
  have e5 : (a : Int) = (st : Int) := by omega
  have e6 : ¬ (mid : Int) < (m : Int) := by omega
  obtain ⟨p, hp⟩ : ∃ p, n = p + 1 := ⟨n - 1, by omega⟩
  have e7 : (n : Int) - 1 = (p : Int) := by omega
  have HF : Hid (2 * mid ≤ a + b ∧ a + b ≤ 2 * mid + 1 ∧ n = mid + m ∧ n = p + 1 ∧ st = a) := ⟨by omega, by omega, hnn, hp, hst⟩
  have f1 : a < mid ∧ mid < b := by omega
  have f2 : st ≤ m ∧ a ≤ st ∧ n ≤ st + b ∧ m ≤ m ∧ m ≤ mid := by omega
  clear hmid hnn hp hst
  have e5b : Hid ((a : Int) = (st : Int)) := e5
  clear e5
  go_enter Try.func46, Try.ntmps46
  go_wp2_with fail
  go_loopw [18, 19] (fun vi vj wr => ∃ (i j f : Nat), vi = .int .i64 (i : Int) ∧ vj = .int .i64 (j : Int) ∧ st ≤ i ∧ i ≤ j ∧ j ≤ m ∧ j - i < f ∧ Below w.heap.size w wr ∧ bs (symQ n L) f i j = bs (symQ n L) (m - st + 1) st m) (fun vi vj _ => (intOf vj).toNat - (intOf vi).toNat)
  case atStart => exact ⟨st, m, m - st + 1, by first | rfl | (rw [e5b.out]), rfl, Nat.le_refl _, f2.1, Nat.le_refl _, by omega, Below.refl _ _, rfl⟩
  case round =>
    obtain ⟨i, j, f, rfl, rfl, hi0, hij, hjb, hf, hbw, h3⟩ := hrel
    have HE : Hid (Below w.heap.size w wr ∧ bs (symQ n L) f i j = bs (symQ n L) (m - st + 1) st m) := ⟨hbw, h3⟩
    clear hbw h3
    by_cases hlt : i < j
    · have hlt' : (i : Int) < (j : Int) := by omega
      obtain ⟨c, hc⟩ : ∃ c, c = (i + j) / 2 := ⟨_, rfl⟩
      have hce : ((i : Int) + (j : Int)) / 2 = (c : Int) := by omega
      have HC : Hid (c = (i + j) / 2) := hc
      have hci : i ≤ c ∧ c < j := by omega
      obtain ⟨d, hd⟩ : ∃ d, d = n - 1 - c := ⟨_, rfl⟩
      have hde : (p : Int) - (c : Int) = (d : Int) := by have := HF.out; omega
      have HD : Hid (d = n - 1 - c) := hd
      have hdn : d < n0 := by have := HF.out; omega
      clear hc hd
      cases hah : ahead (at_ L d) (at_ L c) with
      | false =>
        have HLs := sLess_as (HH.out.grow HE.out.1) hn (i := d) (j := c) hdn (by omega) hah
        have HL : Hid (Calls Try.prog 66 #[Lv g n0 cap, .int .i64 (d : Int), .int .i64 (c : Int)] wr fun e w' => e = .returned (.bool false) ∧ Below wr.heap.size wr w') := HLs
        clear HLs
        go_wp2_with (go_at_call 66; refine HL.out.mono ?_; rintro e w1 ⟨rfl, hb1⟩)
        go_roundw
        case rel => exact ⟨c + 1, j, f - 1, by go_num, rfl, by omega, by omega, hjb, by omega, on2 HE.out.1 hb1, by rw [← HE.out.2, bs_yes (by omega) hlt HC.out (by unfold symQ; rw [← HD.out, hah]; rfl)]⟩
        case measure => simp [intOf]; omega
      | true =>
        have HLs := sLess_as (HH.out.grow HE.out.1) hn (i := d) (j := c) hdn (by omega) hah
        have HL : Hid (Calls Try.prog 66 #[Lv g n0 cap, .int .i64 (d : Int), .int .i64 (c : Int)] wr fun e w' => e = .returned (.bool true) ∧ Below wr.heap.size wr w') := HLs
        clear HLs
        go_wp2_with (go_at_call 66; refine HL.out.mono ?_; rintro e w1 ⟨rfl, hb1⟩)
        go_roundw
        case rel => exact ⟨i, c, f - 1, rfl, rfl, by omega, by omega, by omega, by omega, on2 HE.out.1 hb1, by rw [← HE.out.2, bs_no (by omega) hlt HC.out (by unfold symQ; rw [← HD.out, hah]; rfl)]⟩
        case measure => simp [intOf]; omega
    · have hlt' : ¬ (i : Int) < (j : Int) := by omega
      have HBS : Hid (bs (symQ n L) (m - st + 1) st m = i) := by
        show _ = _
        rw [← HE.out.2, bs_end hlt]
      have HB : Hid (Below w.heap.size w wr) := HE.out.1
      clear HE
      obtain ⟨e, he⟩ : ∃ e, e = n - i := ⟨_, rfl⟩
      have hee : (n : Int) - (i : Int) = (e : Int) := by have := HF.out; omega
      have HEE : Hid (e = n - i) := he
      have f3 : e + i = n := by have := HF.out; omega
      have f4 : mid + m = n := by have := HF.out; omega
      have f5 : i ≤ m ∧ i ≤ mid ∧ a ≤ i ∧ e ≤ b := by omega
      clear he
      have HW := HH.out.grow HB.out
      have HG : Hid (LsAt F wr g cap L ∧ Turns F w wr) := ⟨HW, Turns.below HB.out⟩
      clear HW HH HB
      by_cases g1 : i < m
      · by_cases g2 : a < i
        · by_cases g3 : e < b
          · skip
            have q1 : (i : Int) < (m : Int) := by omega
            have q2 : (m : Int) < (e : Int) := by omega
            have q3 : (i : Int) < (mid : Int) := by omega
            have q4 : (mid : Int) < (e : Int) := by omega
            have q5 : (a : Int) < (i : Int) := by omega
            have q6 : (e : Int) < (b : Int) := by omega
            have t1 : True := trivial
            go_wp2_with (first | (go_at_call 47; refine (rotate_as HG.out.1 hn hL i m e (by omega) (by omega) (by omega)).mono ?_; rintro e' w1 ⟨rfl, k1, u1⟩; have l1 := (rotF_length (e - i) m (m - i) (e - m) L).trans hn) | (go_at_call 46; have _t := t1; refine (IH.out _ _ a i mid k1 l1 (by omega) (by omega) (by omega) (by omega)).mono ?_; rintro e' w2 ⟨rfl, k2, u2⟩; have l2 := (hrec a i mid _).trans l1; clear t1) | (go_at_call 46; refine (IH.out _ _ mid e b k2 l2 (by omega) (by omega) (by omega) (by omega)).mono ?_; rintro e' w3 ⟨rfl, k3, u3⟩))
            go_end0
            rw [HBS.out, ← HEE.out]
            refine ⟨rfl, ?_, (((HG.out.2).trans u1).trans u2).trans u3⟩
            unfold symT
            simp only []
            rw [if_pos (show (i < m ∧ m < e) by omega), if_pos (show (a < i ∧ i < mid) by omega), if_pos (show (mid < e ∧ e < b) by omega)]
            exact k3
          · skip
            have q1 : (i : Int) < (m : Int) := by omega
            have q2 : (m : Int) < (e : Int) := by omega
            have q3 : (i : Int) < (mid : Int) := by omega
            have q4 : (mid : Int) < (e : Int) := by omega
            have q5 : (a : Int) < (i : Int) := by omega
            have q6 : ¬ (e : Int) < (b : Int) := by omega
            go_wp2_with (first | (go_at_call 47; refine (rotate_as HG.out.1 hn hL i m e (by omega) (by omega) (by omega)).mono ?_; rintro e' w1 ⟨rfl, k1, u1⟩; have l1 := (rotF_length (e - i) m (m - i) (e - m) L).trans hn) | (go_at_call 46; refine (IH.out _ _ a i mid k1 l1 (by omega) (by omega) (by omega) (by omega)).mono ?_; rintro e' w2 ⟨rfl, k2, u2⟩; have l2 := (hrec a i mid _).trans l1))
            go_end0
            rw [HBS.out, ← HEE.out]
            refine ⟨rfl, ?_, ((HG.out.2).trans u1).trans u2⟩
            unfold symT
            simp only []
            rw [if_pos (show (i < m ∧ m < e) by omega), if_pos (show (a < i ∧ i < mid) by omega), if_neg (show ¬ (mid < e ∧ e < b) by omega)]
            exact k2
        · by_cases g3 : e < b
          · skip
            have q1 : (i : Int) < (m : Int) := by omega
            have q2 : (m : Int) < (e : Int) := by omega
            have q3 : (i : Int) < (mid : Int) := by omega
            have q4 : (mid : Int) < (e : Int) := by omega
            have q5 : ¬ (a : Int) < (i : Int) := by omega
            have q6 : (e : Int) < (b : Int) := by omega
            go_wp2_with (first | (go_at_call 47; refine (rotate_as HG.out.1 hn hL i m e (by omega) (by omega) (by omega)).mono ?_; rintro e' w1 ⟨rfl, k1, u1⟩; have l1 := (rotF_length (e - i) m (m - i) (e - m) L).trans hn) | (go_at_call 46; refine (IH.out _ _ mid e b k1 l1 (by omega) (by omega) (by omega) (by omega)).mono ?_; rintro e' w3 ⟨rfl, k3, u3⟩))
            go_end0
            rw [HBS.out, ← HEE.out]
            refine ⟨rfl, ?_, ((HG.out.2).trans u1).trans u3⟩
            unfold symT
            simp only []
            rw [if_pos (show (i < m ∧ m < e) by omega), if_neg (show ¬ (a < i ∧ i < mid) by omega), if_pos (show (mid < e ∧ e < b) by omega)]
            exact k3
          · skip
            have q1 : (i : Int) < (m : Int) := by omega
            have q2 : (m : Int) < (e : Int) := by omega
            have q3 : (i : Int) < (mid : Int) := by omega
            have q4 : (mid : Int) < (e : Int) := by omega
            have q5 : ¬ (a : Int) < (i : Int) := by omega
            have q6 : ¬ (e : Int) < (b : Int) := by omega
            go_wp2_with (first | (go_at_call 47; refine (rotate_as HG.out.1 hn hL i m e (by omega) (by omega) (by omega)).mono ?_; rintro e' w1 ⟨rfl, k1, u1⟩; have l1 := (rotF_length (e - i) m (m - i) (e - m) L).trans hn))
            go_end0
            rw [HBS.out, ← HEE.out]
            refine ⟨rfl, ?_, (HG.out.2).trans u1⟩
            unfold symT
            simp only []
            rw [if_pos (show (i < m ∧ m < e) by omega), if_neg (show ¬ (a < i ∧ i < mid) by omega), if_neg (show ¬ (mid < e ∧ e < b) by omega)]
            exact k1
      · by_cases g2 : i < mid
        · skip
          have q1 : ¬ (i : Int) < (m : Int) := by omega
          have q3 : (i : Int) < (mid : Int) := by omega
          have q4 : ¬ (mid : Int) < (e : Int) := by omega
          have q5 : (a : Int) < (i : Int) := by omega
          go_wp2_with (first | (go_at_call 46; refine (IH.out _ _ a i mid HG.out.1 hn (by omega) (by omega) (by omega) (by omega)).mono ?_; rintro e' w2 ⟨rfl, k2, u2⟩; have l2 := (hrec a i mid _).trans hn))
          go_end0
          rw [HBS.out, ← HEE.out]
          refine ⟨rfl, ?_, (HG.out.2).trans u2⟩
          unfold symT
          simp only []
          rw [if_neg (show ¬ (i < m ∧ m < e) by omega), if_pos (show (a < i ∧ i < mid) by omega), if_neg (show ¬ (mid < e ∧ e < b) by omega)]
          exact k2
        · skip
          have q1 : ¬ (i : Int) < (m : Int) := by omega
          have q3 : ¬ (i : Int) < (mid : Int) := by omega
          have q4 : ¬ (mid : Int) < (e : Int) := by omega
          have q5 : (a : Int) < (i : Int) := by omega
          go_wp2_with fail
          go_end0
          rw [HBS.out, ← HEE.out]
          refine ⟨rfl, ?_, HG.out.2⟩
          unfold symT
          simp only []
          rw [if_neg (show ¬ (i < m ∧ m < e) by omega), if_neg (show ¬ (a < i ∧ i < mid) by omega), if_neg (show ¬ (mid < e ∧ e < b) by omega)]
          exact HG.out.1
end Go.Proofs.Ytgncpjplofacfaa
