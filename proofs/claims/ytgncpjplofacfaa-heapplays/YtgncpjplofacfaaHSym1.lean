/- sort.symMerge over a list of entries, where one side is a single entry: the plain function. No condition. -/
import Derived.Test.YtgncpjplofacfaaHRot
namespace Go.Proofs.Ytgncpjplofacfaa
open Go.RowKit Go.Maps
set_option linter.unusedSimpArgs false

/-- A search by halves. -/
def bs (t : Nat → Bool) : Nat → Nat → Nat → Nat
  | 0, i, _ => i
  | f + 1, i, j => if i < j then (if t ((i + j) / 2) then bs t f ((i + j) / 2 + 1) j else bs t f i ((i + j) / 2)) else i
theorem bs_end {t : Nat → Bool} {f i j : Nat} (h : ¬ i < j) : bs t f i j = i := by
  cases f with
  | zero => rfl
  | succ f => simp [bs, h]
theorem bs_yes {t : Nat → Bool} {f i j c : Nat} (hf : 0 < f) (h : i < j) (hc : c = (i + j) / 2) (ht : t c = true) : bs t f i j = bs t (f - 1) (c + 1) j := by
  cases f with
  | zero => omega
  | succ f => subst hc; simp [bs, h, ht]
theorem bs_no {t : Nat → Bool} {f i j c : Nat} (hf : 0 < f) (h : i < j) (hc : c = (i + j) / 2) (ht : t c = false) : bs t f i j = bs t (f - 1) i c := by
  cases f with
  | zero => omega
  | succ f => subst hc; simp [bs, h, ht]
theorem bs_in {t : Nat → Bool} : ∀ (f i j : Nat), i ≤ j → i ≤ bs t f i j ∧ bs t f i j ≤ j
  | 0, i, j, h => ⟨Nat.le_refl _, h⟩
  | f + 1, i, j, h => by
    unfold bs
    split
    · split
      · have := bs_in (t := t) f ((i + j) / 2 + 1) j (by omega)
        omega
      · have := bs_in (t := t) f i ((i + j) / 2) (by omega)
        omega
    · omega
/-- An entry goes up n places, or down. -/
def swU : Nat → Nat → List It → List It
  | 0, _, L => L
  | n + 1, k, L => swU n (k + 1) (swapL L k (k + 1))
def swD : Nat → Nat → List It → List It
  | 0, _, L => L
  | n + 1, k, L => swD n (k - 1) (swapL L k (k - 1))
set_option maxRecDepth 100000 in
set_option maxHeartbeats 4000000 in
theorem sym_one {F : Where} {w : World} {g cap : Nat} {L : List It} (h : LsAt F w g cap L) (hL : L.length < 1099511627776) (a m b : Nat) (ham : m = a + 1) (hmb : m < b) (hb : b ≤ L.length) :
    Calls Try.prog 46 #[.iface 58 (Lv g L.length cap), .int .i64 (a : Int), .int .i64 (m : Int), .int .i64 (b : Int)] w fun e w' => e = .returned (.tuple #[]) ∧ LsAt F w' g cap (swU (bs (fun h => ahead (at_ L h) (at_ L a)) (b - m + 1) m b - 1 - a) a L) ∧ Turns F w w' := by
  have HH : Hid (LsAt F w g cap L) := h
  clear h
  have e1 : (m : Int) - (a : Int) = 1 := by omega
  have HA : Hid (m = a + 1) := ham
  have hma : a < m := by omega
  clear ham
  go_enter Try.func46, Try.ntmps46
  go_wp2_with fail
  go_loopw [8, 9] (fun vi vj wr => ∃ (i j f : Nat), vi = .int .i64 (i : Int) ∧ vj = .int .i64 (j : Int) ∧ m ≤ i ∧ i ≤ j ∧ j ≤ b ∧ j - i < f ∧ Below w.heap.size w wr ∧ bs (fun h => ahead (at_ L h) (at_ L a)) f i j = bs (fun h => ahead (at_ L h) (at_ L a)) (b - m + 1) m b) (fun vi vj _ => (intOf vj).toNat - (intOf vi).toNat)
  case atStart => exact ⟨m, b, b - m + 1, rfl, rfl, Nat.le_refl _, by omega, Nat.le_refl _, by omega, Below.refl _ _, rfl⟩
  case round =>
    obtain ⟨i, j, f, rfl, rfl, hi0, hij, hjb, hf, hbw, h3⟩ := hrel
    have HE : Hid (Below w.heap.size w wr ∧ bs (fun h => ahead (at_ L h) (at_ L a)) f i j = bs (fun h => ahead (at_ L h) (at_ L a)) (b - m + 1) m b) := ⟨hbw, h3⟩
    clear hbw h3
    by_cases hlt : i < j
    · have hlt' : (i : Int) < (j : Int) := by omega
      obtain ⟨c, hc⟩ : ∃ c, c = (i + j) / 2 := ⟨_, rfl⟩
      have hce : ((i : Int) + (j : Int)) / 2 = (c : Int) := by omega
      have HC : Hid (c = (i + j) / 2) := hc
      have hci : i ≤ c ∧ c < j := by omega
      clear hc
      cases hah : ahead (at_ L c) (at_ L a) with
      | true =>
        have HLs := sLess (HH.out.grow HE.out.1) (i := c) (j := a) (by omega) (by omega) hah
        have HL : Hid (Calls Try.prog 66 #[Lv g L.length cap, .int .i64 (c : Int), .int .i64 (a : Int)] wr fun e w' => e = .returned (.bool true) ∧ Below wr.heap.size wr w') := HLs
        clear HLs
        go_wp2_with (go_at_call 66; refine HL.out.mono ?_; rintro e w1 ⟨rfl, hb1⟩)
        go_roundw
        case rel => exact ⟨c + 1, j, f - 1, by go_num, rfl, by omega, by omega, hjb, by omega, on2 HE.out.1 hb1, by rw [← HE.out.2, bs_yes (by omega) hlt HC.out (by simp [hah])]⟩
        case measure => simp [intOf]; omega
      | false =>
        have HLs := sLess (HH.out.grow HE.out.1) (i := c) (j := a) (by omega) (by omega) hah
        have HL : Hid (Calls Try.prog 66 #[Lv g L.length cap, .int .i64 (c : Int), .int .i64 (a : Int)] wr fun e w' => e = .returned (.bool false) ∧ Below wr.heap.size wr w') := HLs
        clear HLs
        go_wp2_with (go_at_call 66; refine HL.out.mono ?_; rintro e w1 ⟨rfl, hb1⟩)
        go_roundw
        case rel => exact ⟨i, c, f - 1, rfl, rfl, by omega, by omega, by omega, by omega, on2 HE.out.1 hb1, by rw [← HE.out.2, bs_no (by omega) hlt HC.out (by simp [hah])]⟩
        case measure => simp [intOf]; omega
    · have hlt' : ¬ (i : Int) < (j : Int) := by omega
      have HBS : Hid (bs (fun h => ahead (at_ L h) (at_ L a)) (b - m + 1) m b = i) := by
        show _ = _
        rw [← HE.out.2, bs_end hlt]
      obtain ⟨q, hq⟩ : ∃ q, i = q + 1 := ⟨i - 1, by omega⟩
      have hqe : (i : Int) - 1 = (q : Int) := by omega
      have HQ : Hid (i = q + 1) := hq
      have hqa : a ≤ q := by omega
      have hqL : q < L.length := by omega
      have HB : Hid (Below w.heap.size w wr) := HE.out.1
      have HN : Hid (i - 1 - a = q - a) := by show _ = _; omega
      clear HE hq
      go_wp2_with fail
      go_loopw [11] (fun vk wq => ∃ (k : Nat) (M : List It), vk = .int .i64 (k : Int) ∧ a ≤ k ∧ k ≤ q ∧ M.length = L.length ∧ LsAt F wq g cap M ∧ Turns F w wq ∧ swU (q - k) k M = swU (q - a) a L) (fun vk _ => q - (intOf vk).toNat)
      case atStart => exact ⟨a, L, rfl, Nat.le_refl _, hqa, rfl, HH.out.grow HB.out, Turns.below HB.out, rfl⟩
      case round =>
        obtain ⟨k, M, rfl, hak, hkq, hM, k1, k2, k3⟩ := hrel
        have HR : Hid (LsAt F wr g cap M ∧ Turns F w wr ∧ swU (q - k) k M = swU (q - a) a L) := ⟨k1, k2, k3⟩
        clear k1 k2 k3 HH HB
        by_cases hkl : k < q
        · have hkl' : (k : Int) < (q : Int) := by omega
          obtain ⟨s, hs⟩ : ∃ s, s = k + 1 := ⟨_, rfl⟩
          have hse : (k : Int) + 1 = (s : Int) := by omega
          have HS := sSwap HR.out.1 (i := k) (j := s) (by omega) (by omega) (by omega)
          rw [hM] at HS
          have HSw : Hid (Calls Try.prog 70 #[Lv g L.length cap, .int .i64 (k : Int), .int .i64 (s : Int)] wr fun e w' => e = .returned (.tuple #[]) ∧ LsAt F w' g cap (swapL M k s) ∧ Turns F wr w') := HS
          have HS2 : Hid (s = k + 1) := hs
          have hsq : s ≤ q := by omega
          have has : a ≤ s := by omega
          clear HS hs
          go_wp2_with (go_at_call 70; refine HSw.out.mono ?_; rintro e w1 ⟨rfl, k1, u1⟩)
          go_roundw
          case rel => exact ⟨s, swapL M k s, by first | rfl | go_num, has, hsq, by rw [swapL_length]; exact hM, k1, HR.out.2.1.trans u1, by have e3 := HS2.out; subst e3; rw [← HR.out.2.2, show q - k = (q - (k + 1)) + 1 by omega, swU]⟩
          case measure => simp [intOf]; omega
        · have hkl' : ¬ (k : Int) < (q : Int) := by omega
          go_wp2_with fail
          refine bodyPost_ret (results_none rfl _ _ _) rfl ?_
          have := HR.out.2.2
          rw [show q - k = 0 by omega] at this
          rw [HBS.out, HN.out]
          exact ⟨rfl, this ▸ HR.out.1, HR.out.2.1⟩
end Go.Proofs.Ytgncpjplofacfaa
