/- A taint more: what it keeps off, and how many are shied at then. Condition: the slices hold what is said of them. -/
import Derived.Test.YtgffnkfiecieeaaTKeptR
import Derived.Test.YtgffnkfiecieeaaTMoreBase
namespace Go.Proofs.Ytgffnkfiecieeaa
open Go.RowKit
set_option linter.unusedSimpArgs false

theorem kept_one (L : List Tnt) (t : Tnt) (B : List Bear) : (keptT (L ++ [t]) B).2 = ((keptT L B).2 || ((t.2.2 == 1) && !borneB B t)) := by
  rw [kept_any, kept_any, List.any_append]
  simp [openT]
theorem shy_one (L : List Tnt) (t : Tnt) (B : List Bear) : shyN (L ++ [t]) B = shyN L B + (if (t.2.2 == 2) && !borneB B t then 1 else 0) := by
  simp only [shyN, List.countP_append, List.countP_cons, List.countP_nil, openT]
  simp
theorem shy_le (L : List Tnt) (B : List Bear) : shyN L B ≤ L.length := List.countP_le_length
theorem any_step {α : Type} [Inhabited α] {L : List α} {p : α → Bool} {k : Nat} (hk : k < L.length) : (L.take (k + 1)).any p = ((L.take k).any p || p (L.getD k default)) := by
  rw [take_succ hk, List.any_append]
  simp
theorem tnt_one (u : World) (ty : TypeId) (t : Tnt) (ht : okT t) : TntsAt (u.alloc (.cells #[.string t.1, .string t.2.1, .int .i64 t.2.2] ty)) (some ⟨u.heap.size, 0, none⟩) [t] := by
  refine ⟨by simp, fun x hx => ?_, fun _ => ⟨u.heap.size, 0, rfl, by simp, fun i hi j v hv => ?_⟩⟩
  · obtain rfl : x = t := by simpa using hx
    exact ht
  · obtain rfl : i = 0 := by simpa using hi
    match j, hv with
    | 0, hv => simp [encT] at hv; subst hv; simp [go_sem]
    | 1, hv => simp [encT] at hv; subst hv; simp [go_sem]
    | 2, hv => simp [encT] at hv; subst hv; simp [go_sem]
    | j + 3, hv => simp [encT] at hv
end Go.Proofs.Ytgffnkfiecieeaa
