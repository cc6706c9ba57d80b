/- base.Texts and base.Ints give rows of their own. Condition: the slice lies as is said of it. -/
import Derived.Test.YtpjgffcpjabghaaQ05
namespace Go.Proofs.Ytpjgffcpjabghaa
open Go.RowKit
set_option linter.unusedSimpArgs false
set_option maxRecDepth 100000

set_option maxHeartbeats 1000000 in
theorem Texts_row (a : Option Addr) (n cap : Nat) (A : Where) (L : List ByteArray) (w : World) (hL : Hid (SlAt RStr 1 16 A w a n cap L)) : Calls Try.prog 14 #[.slice a n cap] w fun e w' => ∃ v, e = .returned v ∧ Row RStr 1 (fun _ => False) w w' 9 v L := by
  have hb0 : Below w.heap.size w (w.alloc (.cells #[] 9)) := by go_grown
  have HR : Hid (Row RStr 1 (fun _ => False) w (w.alloc (.cells #[] 9)) 9 (.slice (some ⟨w.heap.size, 0, none⟩) 0 0) []) := Row.start _ w w _ (Below.refl _ _)
  have HN : Hid (Src RStr 1 (fun b => False ∧ Value.ownBlock (.slice (some ⟨w.heap.size, 0, none⟩) 0 0) ≠ some b) (w.alloc (.cells #[] 9)) a n L) := ((hL.out.on RStr.firm hb0).src RStr.firm).flat RStr.flat
  have HB : Hid ((([] : List ByteArray).length + L.length) * 16 ≤ 140737488355328) := by have h1 := hL.out.2.2.2.1; have h2 := hL.out.1; rw [Hid, h2]; simp; omega
  clear hb0 hL
  go_enter Try.func14, Try.ntmps14
  go_wp2_with (at_builtin; go_must (refine row_appendS RStr.firm (A := (fun _ => False)) (w0 := w) rfl _ _ 30 9 rfl _ 16 infostr Try.underlying30 rfl (by decide) (by decide) _ [] rfl HR.out a n cap L rfl HN.out HB.out ?_); intro v1 w1 hrow1 hg1)
  go_ret
  exact ⟨v1, rfl, by simpa using hrow1⟩
set_option maxHeartbeats 1000000 in
theorem Ints_row (a : Option Addr) (n cap : Nat) (A : Where) (L : List Int) (w : World) (hL : Hid (SlAt RInt 1 8 A w a n cap L)) : Calls Try.prog 39 #[.slice a n cap] w fun e w' => ∃ v, e = .returned v ∧ Row RInt 1 (fun _ => False) w w' 3 v L := by
  have hb0 : Below w.heap.size w (w.alloc (.cells #[] 3)) := by go_grown
  have HR : Hid (Row RInt 1 (fun _ => False) w (w.alloc (.cells #[] 3)) 3 (.slice (some ⟨w.heap.size, 0, none⟩) 0 0) []) := Row.start _ w w _ (Below.refl _ _)
  have HN : Hid (Src RInt 1 (fun b => False ∧ Value.ownBlock (.slice (some ⟨w.heap.size, 0, none⟩) 0 0) ≠ some b) (w.alloc (.cells #[] 3)) a n L) := ((hL.out.on RInt.firm hb0).src RInt.firm).flat RInt.flat
  have HB : Hid ((([] : List Int).length + L.length) * 8 ≤ 140737488355328) := by have h1 := hL.out.2.2.2.1; have h2 := hL.out.1; rw [Hid, h2]; simp; omega
  clear hb0 hL
  go_enter Try.func39, Try.ntmps39
  go_wp2_with (at_builtin; go_must (refine row_appendS RInt.firm (A := (fun _ => False)) (w0 := w) rfl _ _ 50 3 rfl _ 8 infoint Try.underlying50 rfl (by decide) (by decide) _ [] rfl HR.out a n cap L rfl HN.out HB.out ?_); intro v1 w1 hrow1 hg1)
  go_ret
  exact ⟨v1, rfl, by simpa using hrow1⟩
end Go.Proofs.Ytpjgffcpjabghaa
