/- container/heap.down over a keyed list: the plain function. No condition. -/
import Derived.Test.YtgncpjplofacfaaHUp
namespace Go.Proofs.Ytgncpjplofacfaa
open Go.RowKit Go.Maps
set_option linter.unusedSimpArgs false

/-- Which child is held against the parent. -/
def child (n : Nat) (L : List It) (i : Nat) : Nat := if 2 * i + 2 < n ∧ ahead (at_ L (2 * i + 2)) (at_ L (2 * i + 1)) = true then 2 * i + 2 else 2 * i + 1
def downF : Nat → Nat → List It → Nat → List It × Nat
  | 0, _, L, i => (L, i)
  | f + 1, n, L, i => if n ≤ 2 * i + 1 then (L, i) else if ahead (at_ L (child n L i)) (at_ L i) then downF f n (swapL L i (child n L i)) (child n L i) else (L, i)
theorem downF_end {f n : Nat} {M : List It} {k : Nat} (h : n ≤ 2 * k + 1) : downF f n M k = (M, k) := by
  cases f with
  | zero => rfl
  | succ f => simp [downF, h]
theorem downF_stop {f n c : Nat} {M : List It} {k : Nat} (hk : ¬ n ≤ 2 * k + 1) (hc : child n M k = c) (h : ahead (at_ M c) (at_ M k) = false) : downF f n M k = (M, k) := by
  cases f with
  | zero => rfl
  | succ f => simp [downF, hk, hc, h]
theorem downF_go {f n c : Nat} {M : List It} {k : Nat} (hf : 0 < f) (hk : ¬ n ≤ 2 * k + 1) (hc : child n M k = c) (h : ahead (at_ M c) (at_ M k) = true) : downF f n M k = downF (f - 1) n (swapL M k c) c := by
  cases f with
  | zero => omega
  | succ f => simp [downF, hk, hc, h]
theorem kLessH {F : Where} {w : World} {kb : Nat} {L : List It} (h : HK F w kb L) : ∃ r, Sem.run Try.prog (method 202 50 (.pointer (some ⟨kb, 0, none⟩)) "Less") w = .ok (66, r) w ∧
    Hid (∀ (i j : Nat) (b : Bool), i < L.length → j < L.length → ahead (at_ L i) (at_ L j) = b → Calls Try.prog 66 #[r, .int .i64 (i : Int), .int .i64 (j : Int)] w fun e w' => e = .returned (.bool b) ∧ Below w.heap.size w w') := by
  obtain ⟨r, h1, h2⟩ := kLess h
  exact ⟨r, h1, fun i j b hi hj e => e ▸ h2 i j hi hj⟩
set_option maxHeartbeats 4000000 in
theorem down_calls {F : Where} {w : World} {kb : Nat} {L : List It} (h : HK F w kb L) (hL : L.length < 1099511627776) (i n : Nat) (hi : i < 1099511627776) (hn : n ≤ L.length) :
    Calls Try.prog 43 #[.iface 50 (.pointer (some ⟨kb, 0, none⟩)), .int .i64 (i : Int), .int .i64 (n : Int)] w fun e w' => e = .returned (.bool (decide (i < (downF (n + 1) n L i).2))) ∧ HK F w' kb (downF (n + 1) n L i).1 ∧ Turns F w w' := by
  have HH : Hid (HK F w kb L) := h
  clear h
  go_enter Try.func43, Try.ntmps43
  go_wp2_with fail
  go_loopw [7] (fun vj wr => ∃ (k f : Nat) (M : List It), vj = .int .i64 (k : Int) ∧ k < 1099511627776 ∧ M.length = L.length ∧ n < k + f ∧ HK F wr kb M ∧ Turns F w wr ∧ downF f n M k = downF (n + 1) n L i) (fun vj _ => n - (intOf vj).toNat)
  case atStart => exact ⟨i, n + 1, L, rfl, hi, rfl, by omega, HH.out, Turns.refl _ _, rfl⟩
  case round =>
    obtain ⟨k, f, M, rfl, hk, hM, hf, h1, h2, h3⟩ := hrel
    have HR : Hid (HK F wr kb M ∧ Turns F w wr ∧ downF f n M k = downF (n + 1) n L i) := ⟨h1, h2, h3⟩
    clear h1 h2 h3 HH
    have hkk : (k : Int) < 1099511627776 := by omega
    obtain ⟨a, hA⟩ : ∃ a, a = 2 * k + 1 := ⟨_, rfl⟩
    obtain ⟨b, hB⟩ : ∃ b, b = a + 1 := ⟨_, rfl⟩
    have hae : 2 * (k : Int) + 1 = (a : Int) := by omega
    have hbe : (a : Int) + 1 = (b : Int) := by omega
    have HA : Hid (a = 2 * k + 1 ∧ b = 2 * k + 2) := ⟨hA, by omega⟩
    have haa : (a : Int) < 4398046511104 := by omega
    have ha0 : ¬ (a : Int) < 0 := by omega
    have OUT : ∀ (w' : World), n ≤ a ∨ (∃ c, child n M k = c ∧ ahead (at_ M c) (at_ M k) = false) → Below wr.heap.size wr w' → (decide (i < (downF (n + 1) n L i).2) = decide (i < k)) ∧ HK F w' kb (downF (n + 1) n L i).1 ∧ Turns F w w' := by
      intro w' hor hb
      have e1 : downF f n M k = (M, k) := by
        rcases hor with h | ⟨c, h1, h2⟩
        · exact downF_end (by omega)
        · by_cases hx : n ≤ 2 * k + 1
          · exact downF_end hx
          · exact downF_stop hx h1 h2
      have e2 := HR.out.2.2
      rw [e1] at e2
      rw [← e2]
      exact ⟨rfl, HR.out.1.grow hb, HR.out.2.1.trans (Turns.below hb)⟩
    have HO : Hid (∀ (w' : World), n ≤ a ∨ (∃ c, child n M k = c ∧ ahead (at_ M c) (at_ M k) = false) → Below wr.heap.size wr w' → (decide (i < (downF (n + 1) n L i).2) = decide (i < k)) ∧ HK F w' kb (downF (n + 1) n L i).1 ∧ Turns F w w') := OUT
    clear OUT hA hB
    by_cases hna : n ≤ a
    · have hna' : (n : Int) ≤ (a : Int) := by omega
      go_wp2_with fail
      go_ret
      obtain ⟨e1, e2, e3⟩ := HO.out wr (.inl hna) (Below.refl _ _)
      exact ⟨retb e1.symm, e2, e3⟩
    · have hna' : ¬ (n : Int) ≤ (a : Int) := by omega
      have hak : k < a := by have := HA.out; omega
      have hab : b = a + 1 := by omega
      have HB : Hid (b = a + 1) := hab
      clear hab
      obtain ⟨r, mL, hLs⟩ := kLessH HR.out.1
      by_cases hbn : b < n
      · have hbn' : (b : Int) < (n : Int) := by omega
        have hkb : k < b := by have := HA.out; omega
        cases hx : ahead (at_ M b) (at_ M a) with
        | true =>
          have HC : Hid (child n M k = b) := by
            have := HA.out
            show child n M k = b
            unfold child
            rw [← this.1, ← this.2, if_pos ⟨hbn, hx⟩]
          cases hah : ahead (at_ M b) (at_ M k) with
          | false =>
            have t1 : True := trivial
            go_wp2_with (first | (go_at_call 66; have _t := t1; refine (hLs.out b a true (by omega) (by omega) hx).mono ?_; rintro e w1 ⟨rfl, hb1⟩; clear t1; obtain ⟨r2, mL2, hL2⟩ := kLessH (HR.out.1.grow hb1)) | (go_at_call 66; refine (hL2.out b k false (by omega) (by omega) hah).mono ?_; rintro e w2 ⟨rfl, hb2⟩))
            go_ret
            obtain ⟨e1, e2, e3⟩ := HO.out _ (.inr ⟨_, HC.out, hah⟩) (on2 hb1 hb2)
            exact ⟨retb e1.symm, e2, e3⟩
          | true =>
            have t1 : True := trivial
            go_wp2_with (first | (go_at_call 66; have _t := t1; refine (hLs.out b a true (by omega) (by omega) hx).mono ?_; rintro e w1 ⟨rfl, hb1⟩; clear t1; obtain ⟨r2, mL2, hL2⟩ := kLessH (HR.out.1.grow hb1)) | (go_at_call 66; refine (hL2.out b k true (by omega) (by omega) hah).mono ?_; rintro e w2 ⟨rfl, hb2⟩) | (go_at_call 69; refine (kSwap' (HR.out.1.grow (on2 hb1 hb2)) (by omega) (i := k) (j := b) (by omega) (by omega) (by omega)).mono ?_; rintro e w3 ⟨rfl, hk3, ht3⟩))
            go_roundw
            case rel => exact ⟨b, f - 1, swapL M k b, rfl, by omega, by rw [swapL_length]; exact hM, by omega, hk3, HR.out.2.1.trans ((Turns.below (on2 hb1 hb2)).trans ht3), by rw [← HR.out.2.2, downF_go (by omega) (by have := HA.out; omega) HC.out hah]⟩
            case measure => simp [intOf]; omega
        | false =>
          have HC : Hid (child n M k = a) := by
            have := HA.out
            show child n M k = a
            unfold child
            rw [← this.1, ← this.2, if_neg (fun h => by rw [hx] at h; exact absurd h.2 (by simp))]
          cases hah : ahead (at_ M a) (at_ M k) with
          | false =>
            have t1 : True := trivial
            go_wp2_with (first | (go_at_call 66; have _t := t1; refine (hLs.out b a false (by omega) (by omega) hx).mono ?_; rintro e w1 ⟨rfl, hb1⟩; clear t1; obtain ⟨r2, mL2, hL2⟩ := kLessH (HR.out.1.grow hb1)) | (go_at_call 66; refine (hL2.out a k false (by omega) (by omega) hah).mono ?_; rintro e w2 ⟨rfl, hb2⟩))
            go_ret
            obtain ⟨e1, e2, e3⟩ := HO.out _ (.inr ⟨_, HC.out, hah⟩) (on2 hb1 hb2)
            exact ⟨retb e1.symm, e2, e3⟩
          | true =>
            have t1 : True := trivial
            go_wp2_with (first | (go_at_call 66; have _t := t1; refine (hLs.out b a false (by omega) (by omega) hx).mono ?_; rintro e w1 ⟨rfl, hb1⟩; clear t1; obtain ⟨r2, mL2, hL2⟩ := kLessH (HR.out.1.grow hb1)) | (go_at_call 66; refine (hL2.out a k true (by omega) (by omega) hah).mono ?_; rintro e w2 ⟨rfl, hb2⟩) | (go_at_call 69; refine (kSwap' (HR.out.1.grow (on2 hb1 hb2)) (by omega) (i := k) (j := a) (by omega) (by omega) (by omega)).mono ?_; rintro e w3 ⟨rfl, hk3, ht3⟩))
            go_roundw
            case rel => exact ⟨a, f - 1, swapL M k a, rfl, by omega, by rw [swapL_length]; exact hM, by omega, hk3, HR.out.2.1.trans ((Turns.below (on2 hb1 hb2)).trans ht3), by rw [← HR.out.2.2, downF_go (by omega) (by have := HA.out; omega) HC.out hah]⟩
            case measure => simp [intOf]; omega
      · have hbn' : ¬ (b : Int) < (n : Int) := by omega
        have HC : Hid (child n M k = a) := by
          have := HA.out
          show child n M k = a
          unfold child
          rw [← this.1, ← this.2, if_neg (fun h => hbn h.1)]
        cases hah : ahead (at_ M a) (at_ M k) with
        | false =>
          go_wp2_with (first | (go_at_call 66; refine (hLs.out a k false (by omega) (by omega) hah).mono ?_; rintro e w1 ⟨rfl, hb1⟩))
          go_ret
          obtain ⟨e1, e2, e3⟩ := HO.out _ (.inr ⟨_, HC.out, hah⟩) hb1
          exact ⟨retb e1.symm, e2, e3⟩
        | true =>
          go_wp2_with (first | (go_at_call 66; refine (hLs.out a k true (by omega) (by omega) hah).mono ?_; rintro e w1 ⟨rfl, hb1⟩) | (go_at_call 69; refine (kSwap' (HR.out.1.grow hb1) (by omega) (i := k) (j := a) (by omega) (by omega) (by omega)).mono ?_; rintro e w3 ⟨rfl, hk3, ht3⟩))
          go_roundw
          case rel => exact ⟨a, f - 1, swapL M k a, rfl, by omega, by rw [swapL_length]; exact hM, by omega, hk3, HR.out.2.1.trans ((Turns.below hb1).trans ht3), by rw [← HR.out.2.2, downF_go (by omega) (by have := HA.out; omega) HC.out hah]⟩
          case measure => simp [intOf]; omega
end Go.Proofs.Ytgncpjplofacfaa
