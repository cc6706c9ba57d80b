/- container/heap.up over a keyed list: the plain function. No condition. -/
import Derived.Test.YtgncpjplofacfaaHMeth
namespace Go.Proofs.Ytgncpjplofacfaa
open Go.RowKit Go.Maps
set_option linter.unusedSimpArgs false

def upF : Nat → List It → Nat → List It
  | 0, L, _ => L
  | f + 1, L, j => if j = 0 then L else if ahead (at_ L j) (at_ L ((j - 1) / 2)) then upF f (swapL L ((j - 1) / 2) j) ((j - 1) / 2) else L
theorem upF_stop {f : Nat} {M : List It} {k : Nat} (hf : 0 < f) (hk : ¬ k = 0) (h : ahead (at_ M k) (at_ M ((k - 1) / 2)) = false) : upF f M k = M := by
  cases f with
  | zero => omega
  | succ f => simp [upF, hk, h]
theorem upF_go {f : Nat} {M : List It} {k : Nat} (hf : 0 < f) (hk : ¬ k = 0) (h : ahead (at_ M k) (at_ M ((k - 1) / 2)) = true) : upF f M k = upF (f - 1) (swapL M ((k - 1) / 2) k) ((k - 1) / 2) := by
  cases f with
  | zero => omega
  | succ f => simp [upF, hk, h]
theorem upF_zero (f : Nat) (M : List It) : upF f M 0 = M := by cases f <;> simp [upF]
set_option maxHeartbeats 4000000 in
theorem up_calls {F : Where} {w : World} {kb : Nat} {L : List It} (h : HK F w kb L) (hL : L.length < 1099511627776) (j : Nat) (hj : j < L.length) :
    Calls Try.prog 42 #[.iface 50 (.pointer (some ⟨kb, 0, none⟩)), .int .i64 (j : Int)] w fun e w' => e = .returned (.tuple #[]) ∧ HK F w' kb (upF (j + 1) L j) ∧ Turns F w w' := by
  have HH : Hid (HK F w kb L) := h
  clear h
  go_enter Try.func42, Try.ntmps42
  go_wp2_with fail
  go_loopw [1] (fun vj wr => ∃ (k f : Nat) (M : List It), vj = .int .i64 (k : Int) ∧ k < M.length ∧ M.length = L.length ∧ k < f ∧ HK F wr kb M ∧ Turns F w wr ∧ upF f M k = upF (j + 1) L j) (fun vj _ => (intOf vj).toNat)
  case atStart => exact ⟨j, j + 1, L, rfl, hj, rfl, by omega, HH.out, Turns.refl _ _, rfl⟩
  case round =>
    obtain ⟨k, f, M, rfl, hk, hM, hf, h1, h2, h3⟩ := hrel
    have HR : Hid (HK F wr kb M ∧ Turns F w wr ∧ upF f M k = upF (j + 1) L j) := ⟨h1, h2, h3⟩
    clear h1 h2 h3
    by_cases hk0 : k = 0
    · subst hk0
      go_wp2_with fail
      go_end0
      have := HR.out.2.2
      rw [upF_zero] at this
      exact ⟨rfl, this ▸ HR.out.1, HR.out.2.1⟩
    · obtain ⟨p, hp⟩ : ∃ p, p = (k - 1) / 2 := ⟨_, rfl⟩
      have hpk : p < k := by omega
      have hpe : ((k : Int) - 1).tdiv 2 = (p : Int) := by rw [Int.tdiv_eq_ediv_of_nonneg (by omega)]; omega
      have hpn : ¬ (p : Int) = (k : Int) := by omega
      have HP : Hid (p = (k - 1) / 2) := hp
      clear hp
      obtain ⟨r, mL, hLs⟩ := kLess HR.out.1
      have HL := hLs k p hk (by omega)
      clear hLs
      cases hah : ahead (at_ M k) (at_ M p) with
      | false =>
        have HHL : Hid (Calls Try.prog 66 #[r, .int .i64 (k : Int), .int .i64 (p : Int)] wr fun e w' => e = .returned (.bool false) ∧ Below wr.heap.size wr w') := by
          rw [hah] at HL; exact HL
        clear HL
        go_wp2_with (go_at_call 66; go_loud (refine HHL.out.mono ?_; rintro e w1 ⟨rfl, hb1⟩))
        go_end0
        have := HR.out.2.2
        rw [upF_stop (by omega) hk0 (by rw [← HP.out]; exact hah)] at this
        exact ⟨rfl, this ▸ HR.out.1.grow hb1, HR.out.2.1.trans (Turns.below hb1)⟩
      | true =>
        have HHL : Hid (Calls Try.prog 66 #[r, .int .i64 (k : Int), .int .i64 (p : Int)] wr fun e w' => e = .returned (.bool true) ∧ Below wr.heap.size wr w') := by
          rw [hah] at HL; exact HL
        clear HL
        have HSw : Hid (∀ w1, Below wr.heap.size wr w1 → Calls Try.prog 69 #[.pointer (some ⟨kb, 0, none⟩), .int .i64 (p : Int), .int .i64 (k : Int)] w1 fun e w' => e = .returned (.tuple #[]) ∧ HK F w' kb (swapL M p k) ∧ Turns F w1 w') := fun w1 hb1 => kSwap' (HR.out.1.grow hb1) (by omega) (i := p) (j := k) (by omega) hk (by omega)
        go_wp2_with (first | (go_at_call 66; refine HHL.out.mono ?_; rintro e w1 ⟨rfl, hb1⟩) | (go_at_call 69; refine (HSw.out _ hb1).mono ?_; rintro e w2 ⟨rfl, hk2, ht2⟩))
        go_roundw
        case measure => simp [intOf]; omega
        case rel => exact ⟨p, f - 1, swapL M p k, rfl, by rw [swapL_length]; omega, by rw [swapL_length]; exact hM, by omega, hk2, HR.out.2.1.trans ((Turns.below hb1).trans ht2), by rw [← HR.out.2.2, upF_go (by omega) hk0 (by rw [← HP.out]; exact hah), ← HP.out]⟩
end Go.Proofs.Ytgncpjplofacfaa
