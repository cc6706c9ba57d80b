/- label.allValues, oneNumber, rightValues, and the document's Has, SameTexts, over slices of texts. Condition: the slice holds what is said of it. -/
import Derived.Test.YtpehmobedcflnaaLAt
namespace Go.Proofs.Ytpehmobedcflnaa
open Go.RowKit
set_option linter.unusedSimpArgs false

set_option maxHeartbeats 1000000 in
theorem allValues_calls (a : Option Addr) (cap : Nat) (V : List ByteArray) (w : World) (hV : Hid (StrsAt w a V)) : Calls Try.prog 43 #[.slice a V.length cap] w fun e w' => e = .returned (.bool (allTo V.length fun i => valB (V.getD i default))) ∧ w' = w := by
  have hlen := hV.out.1
  go_enter Try.func43, Try.ntmps43
  go_wp2
  go_loop [7] (fun i => ∃ k : Nat, k ≤ V.length ∧ i = .int .i64 k ∧ Hid (∀ j, j < k → valB (V.getD j default) = true)) (fun i => V.length - (intOf i).toNat)
  case atStart => exact ⟨0, Nat.zero_le _, rfl, fun j hj => absurd hj (Nat.not_lt_zero _)⟩
  case round =>
    obtain ⟨k, hk, rfl, hall⟩ := hrel
    by_cases hlt : k < V.length
    · obtain ⟨B, off, rfl, hB, hc, hs⟩ := hV.out.get hlt
      have hin := isValue_calls (V.getD k default)
      cases hv : valB (V.getD k default)
      · rw [hv] at hin
        have HF : Hid (allTo V.length (fun i => valB (V.getD i default)) = false) := allTo_false hlt hv
        clear hv
        generalize V.getD k default = s at hin hc hs
        go_wp2_with (go_at_call 34; refine (hin _).mono ?_; rintro e w' ⟨rfl, rfl⟩)
        go_ret
        exact ⟨retb HF.out.symm, rfl⟩
      · rw [hv] at hin
        have HG : Hid (∀ j, j < k + 1 → valB (V.getD j default) = true) := fun j hj => by
          rcases Nat.lt_succ_iff_lt_or_eq.1 hj with h | rfl
          · exact hall.out j h
          · exact hv
        clear hv
        generalize V.getD k default = s at hin hc hs
        go_wp2_with (go_at_call 34; refine (hin _).mono ?_; rintro e w' ⟨rfl, rfl⟩)
        go_round
        case rel => exact ⟨k + 1, by omega, by go_num, HG⟩
        case measure => simp [intOf]; omega
    · have HF : Hid (allTo V.length (fun i => valB (V.getD i default)) = true) := allTo_true (fun j hj => hall.out j (by omega))
      go_wp2
      go_ret
      exact ⟨retb HF.out.symm, rfl⟩

theorem oneNumber_calls (a : Option Addr) (cap : Nat) (V : List ByteArray) (w : World) (hV : Hid (StrsAt w a V)) : Calls Try.prog 44 #[.slice a V.length cap] w fun e w' => e = .returned (.bool (decide (V.length = 1) && numB (V.getD 0 default))) ∧ w' = w := by
  by_cases h1 : (V.length : Int) = 1
  · have h1' : ((V.length : Int) == 1) = true := beq_iff_eq.2 h1
    obtain ⟨B, off, rfl, hB, hc, hs⟩ := hV.out.get (k := 0) (by omega)
    have hin := isNumber_calls (V.getD 0 default)
    have HF : Hid ((decide (V.length = 1) && numB (V.getD 0 default)) = numB (V.getD 0 default)) := by simp [Hid, show V.length = 1 by omega]
    rw [Nat.add_zero] at hc
    generalize V.getD 0 default = s at hin hc hs HF
    generalize numB s = b at hin HF
    go_enter Try.func44, Try.ntmps44
    go_wp2_with (go_at_call 55; refine (hin _).mono ?_; rintro e w' ⟨rfl, rfl⟩)
    go_ret
    exact ⟨retb HF.out.symm, rfl⟩
  · have h1' : ((V.length : Int) == 1) = false := beq_eq_false_iff_ne.2 h1
    have HF : Hid ((decide (V.length = 1) && numB (V.getD 0 default)) = false) := by simp [Hid]; omega
    go_enter Try.func44, Try.ntmps44
    go_wp2
    go_ret
    exact ⟨retb HF.out.symm, rfl⟩

theorem hasL_iff (V : List ByteArray) (s : ByteArray) : hasL V s = true ↔ ∃ j, j < V.length ∧ sEq (V.getD j default) s = true := by
  simp only [hasL, List.any_eq_true]
  constructor
  · rintro ⟨v, hv, h⟩
    obtain ⟨j, hj, rfl⟩ := List.mem_iff_getElem.1 hv
    exact ⟨j, hj, by rw [List.getD_eq_getElem?_getD, List.getElem?_eq_getElem hj]; exact h⟩
  · rintro ⟨j, hj, h⟩
    rw [List.getD_eq_getElem?_getD, List.getElem?_eq_getElem hj] at h
    exact ⟨_, List.getElem_mem hj, h⟩
theorem hasL_no {V : List ByteArray} {s : ByteArray} (h : ∀ j, j < V.length → sEq (V.getD j default) s = false) : hasL V s = false := by
  cases e : hasL V s
  · rfl
  · obtain ⟨j, hj, h'⟩ := (hasL_iff V s).1 e
    rw [h j hj] at h'; cases h'

set_option maxHeartbeats 1000000 in
theorem Has_calls (a : Option Addr) (cap : Nat) (V : List ByteArray) (s : ByteArray) (w : World) (hV : Hid (StrsAt w a V)) : Calls Try.prog 38 #[.slice a V.length cap, .string s] w fun e w' => e = .returned (.bool (hasL V s)) ∧ w' = w := by
  have hlen := hV.out.1
  go_enter Try.func38, Try.ntmps38
  go_wp2
  go_loop [5] (fun i => ∃ k : Nat, k ≤ V.length ∧ i = .int .i64 k ∧ Hid (∀ j, j < k → sEq (V.getD j default) s = false)) (fun i => V.length - (intOf i).toNat)
  case atStart => exact ⟨0, Nat.zero_le _, rfl, fun j hj => absurd hj (Nat.not_lt_zero _)⟩
  case round =>
    obtain ⟨k, hk, rfl, hall⟩ := hrel
    by_cases hlt : k < V.length
    · obtain ⟨B, off, rfl, hB, hc, hs⟩ := hV.out.get hlt
      cases hv : sEq (V.getD k default) s
      · have HG : Hid (∀ j, j < k + 1 → sEq (V.getD j default) s = false) := fun j hj => by
          rcases Nat.lt_succ_iff_lt_or_eq.1 hj with h | rfl
          · exact hall.out j h
          · exact hv
        unfold sEq at hv
        clear hall
        generalize V.getD k default = x at hv hc hs
        go_wp2
        go_round
        case rel => exact ⟨k + 1, by omega, by go_num, HG⟩
        case measure => simp [intOf]; omega
      · have HF : Hid (hasL V s = true) := (hasL_iff V s).2 ⟨k, hlt, hv⟩
        unfold sEq at hv
        clear hall
        generalize V.getD k default = x at hv hc hs
        go_wp2
        go_ret
        exact ⟨retb HF.out.symm, rfl⟩
    · have HF : Hid (hasL V s = false) := hasL_no (fun j hj => hall.out j (by omega))
      go_wp2
      go_ret
      exact ⟨retb HF.out.symm, rfl⟩
end Go.Proofs.Ytpehmobedcflnaa
