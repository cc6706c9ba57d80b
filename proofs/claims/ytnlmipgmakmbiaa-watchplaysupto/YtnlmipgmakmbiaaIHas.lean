/- base.Has and base.HasInt tell whether it is in a list, and change nothing. Condition: the slice lies as is said of it. -/
import Derived.Test.YtnlmipgmakmbiaaDReqs
import Derived.Test.YtnlmipgmakmbiaaDSame
namespace Go.Proofs.Ytnlmipgmakmbiaa
open Go.RowKit
set_option linter.unusedSimpArgs false
set_option maxRecDepth 100000

def hasB {α : Type} (eq : α → α → Bool) (V : List α) (s : α) : Bool := V.any fun v => eq v s
theorem hasB_succ {α : Type} [Inhabited α] (eq : α → α → Bool) (L : List α) (s : α) {k : Nat} (hk : k < L.length) : hasB eq (L.take (k + 1)) s = (hasB eq (L.take k) s || eq (L.getD k default) s) := by
  rw [← take_at hk]; simp [hasB]
theorem hasB_found {α : Type} [Inhabited α] (eq : α → α → Bool) (L : List α) (s : α) {k : Nat} (hk : k < L.length) (h : eq (L.getD k default) s = true) : hasB eq L s = true := by
  simp only [hasB, List.any_eq_true]
  exact ⟨L.getD k default, by rw [getE _ _ hk]; exact List.getElem_mem hk, h⟩
def iEq (a b : Int) : Bool := a == b

end Go.Proofs.Ytnlmipgmakmbiaa
