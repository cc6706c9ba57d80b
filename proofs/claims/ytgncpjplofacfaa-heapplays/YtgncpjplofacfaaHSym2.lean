/- sort.symMerge over a list of entries, where the other side is a single entry: the plain function. No condition. -/
import Derived.Test.YtgncpjplofacfaaHSym1
namespace Go.Proofs.Ytgncpjplofacfaa
open Go.RowKit Go.Maps
set_option linter.unusedSimpArgs false

set_option maxRecDepth 100000 in
set_option maxHeartbeats 4000000 in
theorem sym_two {F : Where} {w : World} {g cap : Nat} {L : List It} (h : LsAt F w g cap L) (hL : L.length < 1099511627776) (a m b : Nat) (ham : a < m) (ham1 : ¬ m = a + 1) (hmb : b = m + 1) (hb : b ≤ L.length) :
    Calls Try.prog 46 #[.iface 58 (Lv g L.length cap), .int .i64 (a : Int), .int .i64 (m : Int), .int .i64 (b : Int)] w fun e w' => e = .returned (.tuple #[]) ∧ LsAt F w' g cap (swD (m - bs (fun h => !ahead (at_ L m) (at_ L h)) (m - a + 1) a m) m L) ∧ Turns F w w' := by
  have HH : Hid (LsAt F w g cap L) := h
  clear h
  have e1 : ((m : Int) - (a : Int) == 1) = false := by rw [beq_eq_false_iff_ne]; omega
  have e2 : (b : Int) - (m : Int) = 1 := by omega
  have HA : Hid (b = m + 1) := hmb
  have hmL : m < L.length := by omega
  clear hmb ham1
  go_enter Try.func46, Try.ntmps46
  go_wp2_with fail
  go_loopw [12, 13] (fun vi vj wr => ∃ (i j f : Nat), vi = .int .i64 (i : Int) ∧ vj = .int .i64 (j : Int) ∧ a ≤ i ∧ i ≤ j ∧ j ≤ m ∧ j - i < f ∧ Below w.heap.size w wr ∧ bs (fun h => !ahead (at_ L m) (at_ L h)) f i j = bs (fun h => !ahead (at_ L m) (at_ L h)) (m - a + 1) a m) (fun vi vj _ => (intOf vj).toNat - (intOf vi).toNat)
  case atStart => exact ⟨a, m, m - a + 1, rfl, rfl, Nat.le_refl _, by omega, Nat.le_refl _, by omega, Below.refl _ _, rfl⟩
  case round =>
    obtain ⟨i, j, f, rfl, rfl, hi0, hij, hjb, hf, hbw, h3⟩ := hrel
    have HE : Hid (Below w.heap.size w wr ∧ bs (fun h => !ahead (at_ L m) (at_ L h)) f i j = bs (fun h => !ahead (at_ L m) (at_ L h)) (m - a + 1) a m) := ⟨hbw, h3⟩
    clear hbw h3
    by_cases hlt : i < j
    · have hlt' : (i : Int) < (j : Int) := by omega
      obtain ⟨c, hc⟩ : ∃ c, c = (i + j) / 2 := ⟨_, rfl⟩
      have hce : ((i : Int) + (j : Int)) / 2 = (c : Int) := by omega
      have HC : Hid (c = (i + j) / 2) := hc
      have hci : i ≤ c ∧ c < j := by omega
      clear hc
      cases hah : ahead (at_ L m) (at_ L c) with
      | false =>
        have HLs := sLess (HH.out.grow HE.out.1) (i := m) (j := c) (by omega) (by omega) hah
        have HL : Hid (Calls Try.prog 66 #[Lv g L.length cap, .int .i64 (m : Int), .int .i64 (c : Int)] wr fun e w' => e = .returned (.bool false) ∧ Below wr.heap.size wr w') := HLs
        clear HLs
        go_wp2_with (go_at_call 66; refine HL.out.mono ?_; rintro e w1 ⟨rfl, hb1⟩)
        go_roundw
        case rel => exact ⟨c + 1, j, f - 1, by go_num, rfl, by omega, by omega, hjb, by omega, on2 HE.out.1 hb1, by rw [← HE.out.2, bs_yes (by omega) hlt HC.out (by simp [hah])]⟩
        case measure => simp [intOf]; omega
      | true =>
        have HLs := sLess (HH.out.grow HE.out.1) (i := m) (j := c) (by omega) (by omega) hah
        have HL : Hid (Calls Try.prog 66 #[Lv g L.length cap, .int .i64 (m : Int), .int .i64 (c : Int)] wr fun e w' => e = .returned (.bool true) ∧ Below wr.heap.size wr w') := HLs
        clear HLs
        go_wp2_with (go_at_call 66; refine HL.out.mono ?_; rintro e w1 ⟨rfl, hb1⟩)
        go_roundw
        case rel => exact ⟨i, c, f - 1, rfl, rfl, by omega, by omega, by omega, by omega, on2 HE.out.1 hb1, by rw [← HE.out.2, bs_no (by omega) hlt HC.out (by simp [hah])]⟩
        case measure => simp [intOf]; omega
    · have hlt' : ¬ (i : Int) < (j : Int) := by omega
      have HBS : Hid (bs (fun h => !ahead (at_ L m) (at_ L h)) (m - a + 1) a m = i) := by
        show _ = _
        rw [← HE.out.2, bs_end hlt]
      have HB : Hid (Below w.heap.size w wr) := HE.out.1
      have him : i ≤ m := by omega
      clear HE
      go_wp2_with fail
      go_loopw [15] (fun vk wq => ∃ (k : Nat) (M : List It), vk = .int .i64 (k : Int) ∧ i ≤ k ∧ k ≤ m ∧ M.length = L.length ∧ LsAt F wq g cap M ∧ Turns F w wq ∧ swD (k - i) k M = swD (m - i) m L) (fun vk _ => (intOf vk).toNat)
      case atStart => exact ⟨m, L, rfl, him, Nat.le_refl _, rfl, HH.out.grow HB.out, Turns.below HB.out, rfl⟩
      case round =>
        obtain ⟨k, M, rfl, hak, hkq, hM, k1, k2, k3⟩ := hrel
        have HR : Hid (LsAt F wr g cap M ∧ Turns F w wr ∧ swD (k - i) k M = swD (m - i) m L) := ⟨k1, k2, k3⟩
        clear k1 k2 k3 HH HB
        by_cases hkl : i < k
        · have hkl' : (i : Int) < (k : Int) := by omega
          obtain ⟨s, hs⟩ : ∃ s, k = s + 1 := ⟨k - 1, by omega⟩
          have hse : (k : Int) - 1 = (s : Int) := by omega
          have HS := sSwap HR.out.1 (i := k) (j := s) (by omega) (by omega) (by omega)
          rw [hM] at HS
          have HSw : Hid (Calls Try.prog 70 #[Lv g L.length cap, .int .i64 (k : Int), .int .i64 (s : Int)] wr fun e w' => e = .returned (.tuple #[]) ∧ LsAt F w' g cap (swapL M k s) ∧ Turns F wr w') := HS
          have HS2 : Hid (k = s + 1) := hs
          have hsq : s ≤ m := by omega
          have has : i ≤ s := by omega
          have hsk : s < k := by omega
          clear HS hs
          go_wp2_with (go_at_call 70; refine HSw.out.mono ?_; rintro e w1 ⟨rfl, k1, u1⟩)
          go_roundw
          case rel => exact ⟨s, swapL M k s, by first | rfl | go_num, has, hsq, by rw [swapL_length]; exact hM, k1, HR.out.2.1.trans u1, by have e3 := HS2.out; rw [← HR.out.2.2, show k - i = (s - i) + 1 by omega, swD, show k - 1 = s by omega]⟩
          case measure => simp [intOf]; omega
        · have hkl' : ¬ (i : Int) < (k : Int) := by omega
          go_wp2_with fail
          refine bodyPost_ret (results_none rfl _ _ _) rfl ?_
          have := HR.out.2.2
          rw [show k - i = 0 by omega] at this
          rw [HBS.out]
          exact ⟨rfl, this ▸ HR.out.1, HR.out.2.1⟩
end Go.Proofs.Ytgncpjplofacfaa
