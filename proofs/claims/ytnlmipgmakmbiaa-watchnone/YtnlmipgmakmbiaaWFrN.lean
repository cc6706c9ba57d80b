/- Package fresh, at lists without members: nothing is made, nothing is written. What stays as it is when the same is written again. Plain facts; no condition. -/
import Derived.Test.YtnlmipgmakmbiaaOLaws
import Derived.Test.YtnlmipgmakmbiaaWOk
namespace Go.Proofs.Ytnlmipgmakmbiaa
open Go.RowKit
set_option linter.unusedSimpArgs false
set_option maxRecDepth 100000

/-- What is written over by the same is as it was. -/
theorem set_same13 {u : World} {b o : Nat} {v : Value} (h : u.cell? ⟨b, o, none⟩ = some v) : u.setCell ⟨b, o, none⟩ v = u := by
  unfold World.cell? at h
  split at h
  · rename_i c T f hb
    simp only [Option.isSome_none, Bool.false_eq_true, if_false] at h
    have hlt : b < u.heap.size := (Array.getElem?_eq_some_iff.1 hb).1
    have hbe : u.heap[b] = .cells c T f := (Array.getElem?_eq_some_iff.1 hb).2
    have ho : o < c.size := (Array.getElem?_eq_some_iff.1 h).1
    have hoe : c[o] = v := (Array.getElem?_eq_some_iff.1 h).2
    have hc : c.setIfInBounds o v = c := by
      apply Array.ext_getElem?
      intro i
      rw [Array.getElem?_setIfInBounds]
      split
      · rename_i e; subst e; exact h.symm
      · rfl
    have hh : u.heap.modify b (fun | .cells c elem frozen => .cells (if (none : Option Nat).isSome then c else c.setIfInBounds o v) elem frozen | o => o) = u.heap := by
      apply Array.ext_getElem?
      intro i
      rw [Array.getElem?_modify]
      split
      · rename_i e; subst e; rw [hb]; simp [hc]
      · rfl
    unfold World.setCell
    cases u
    simp only at hh ⊢
    congr 1
  · cases h
theorem sets_same13 {b : Nat} : ∀ (vs : List Value) (o : Nat) (u : World), u.rangeAt b o vs → u.setCells b o vs = u
  | [], _, _, _ => rfl
  | v :: r, o, u, h => by
    have h0 : u.cell? ⟨b, o, none⟩ = some v := h 0 v rfl
    rw [World.setCells, set_same13 h0]
    exact sets_same13 r (o + 1) u (fun j x hj => by have := h (j + 1) x hj; rwa [Nat.add_assoc, Nat.add_comm 1 j])
/-- Nothing is made of nothing. -/
abbrev NilOut (w : World) (e : Ending) (w' : World) : Prop := e = .returned (.slice none 0 0) ∧ w' = w

theorem flat_Label (w : World) : Calls Try.prog 42 #[.slice none 0 0] w (NilOut w) := by
  go_enter Try.func42, Try.ntmps42
  go_wp2_with fail
  go_ret
  exact ⟨rfl, rfl⟩

theorem flat_Bear (w : World) : Calls Try.prog 43 #[.slice none 0 0] w (NilOut w) := by
  go_enter Try.func43, Try.ntmps43
  go_wp2_with fail
  go_ret
  exact ⟨rfl, rfl⟩

theorem flat_int (w : World) : Calls Try.prog 44 #[.slice none 0 0] w (NilOut w) := by
  go_enter Try.func44, Try.ntmps44
  go_wp2_with fail
  go_ret
  exact ⟨rfl, rfl⟩

theorem flat_string (w : World) : Calls Try.prog 45 #[.slice none 0 0] w (NilOut w) := by
  go_enter Try.func45, Try.ntmps45
  go_wp2_with fail
  go_ret
  exact ⟨rfl, rfl⟩

theorem flat_Taint (w : World) : Calls Try.prog 54 #[.slice none 0 0] w (NilOut w) := by
  go_enter Try.func54, Try.ntmps54
  go_wp2_with fail
  go_ret
  exact ⟨rfl, rfl⟩

theorem flat_Req (w : World) : Calls Try.prog 59 #[.slice none 0 0] w (NilOut w) := by
  go_enter Try.func59, Try.ntmps59
  go_wp2_with fail
  go_ret
  exact ⟨rfl, rfl⟩

theorem flat_Prefer (w : World) : Calls Try.prog 60 #[.slice none 0 0] w (NilOut w) := by
  go_enter Try.func60, Try.ntmps60
  go_wp2_with fail
  go_ret
  exact ⟨rfl, rfl⟩

theorem flat_Term (w : World) : Calls Try.prog 61 #[.slice none 0 0] w (NilOut w) := by
  go_enter Try.func61, Try.ntmps61
  go_wp2_with fail
  go_ret
  exact ⟨rfl, rfl⟩

theorem flat_Spread (w : World) : Calls Try.prog 62 #[.slice none 0 0] w (NilOut w) := by
  go_enter Try.func62, Try.ntmps62
  go_wp2_with fail
  go_ret
  exact ⟨rfl, rfl⟩

theorem each_Req (w : World) : Calls Try.prog 46 #[.slice none 0 0, .func (.func 47) #[] #[]] w (NilOut w) := by
  have hC := flat_Req w
  go_enter Try.func46, Try.ntmps46
  go_wp2_with fail
  refine hC.mono ?_
  rintro e w2 ⟨rfl, rfl⟩
  clear hC
  go_wp2_with fail
  go_loopw [12] (fun i wr => i = .int .i64 0 ∧ wr = w2) (fun _ _ => 0)
  case atStart => exact ⟨rfl, rfl⟩
  case round =>
    obtain ⟨rfl, rfl⟩ := hrel
    go_wp2_with fail
    go_ret
    exact ⟨rfl, rfl⟩

theorem each_Prefer (w : World) : Calls Try.prog 48 #[.slice none 0 0, .func (.func 49) #[] #[]] w (NilOut w) := by
  have hC := flat_Prefer w
  go_enter Try.func48, Try.ntmps48
  go_wp2_with fail
  refine hC.mono ?_
  rintro e w2 ⟨rfl, rfl⟩
  clear hC
  go_wp2_with fail
  go_loopw [12] (fun i wr => i = .int .i64 0 ∧ wr = w2) (fun _ _ => 0)
  case atStart => exact ⟨rfl, rfl⟩
  case round =>
    obtain ⟨rfl, rfl⟩ := hrel
    go_wp2_with fail
    go_ret
    exact ⟨rfl, rfl⟩

theorem each_Term (w : World) : Calls Try.prog 50 #[.slice none 0 0, .func (.func 51) #[] #[]] w (NilOut w) := by
  have hC := flat_Term w
  go_enter Try.func50, Try.ntmps50
  go_wp2_with fail
  refine hC.mono ?_
  rintro e w2 ⟨rfl, rfl⟩
  clear hC
  go_wp2_with fail
  go_loopw [12] (fun i wr => i = .int .i64 0 ∧ wr = w2) (fun _ _ => 0)
  case atStart => exact ⟨rfl, rfl⟩
  case round =>
    obtain ⟨rfl, rfl⟩ := hrel
    go_wp2_with fail
    go_ret
    exact ⟨rfl, rfl⟩

theorem each_Spread (w : World) : Calls Try.prog 52 #[.slice none 0 0, .func (.func 53) #[] #[]] w (NilOut w) := by
  have hC := flat_Spread w
  go_enter Try.func52, Try.ntmps52
  go_wp2_with fail
  refine hC.mono ?_
  rintro e w2 ⟨rfl, rfl⟩
  clear hC
  go_wp2_with fail
  go_loopw [12] (fun i wr => i = .int .i64 0 ∧ wr = w2) (fun _ _ => 0)
  case atStart => exact ⟨rfl, rfl⟩
  case round =>
    obtain ⟨rfl, rfl⟩ := hrel
    go_wp2_with fail
    go_ret
    exact ⟨rfl, rfl⟩

end Go.Proofs.Ytnlmipgmakmbiaa
