/-
  No cell of these rows narrows 'for every input' (looked for: loops, veiled, ifaces, maps, wideKeys, modest, calm, conditions, laid).
  DERIVED. THE GIVEN ROWS OF THIS SEAT. 4 by the template 'for every input the law returns true; each argument reads behind the call as it read before'; 0 by the template 'total and deterministic' (their statements: YtpjgffcpjabghaaTotals.lean).
  GIVEN WITH THE SEED: the statements are not yours to turn. If you find one false, say at which input.
  Laid BY PROGRAM, IN A SANDBOX (cutbox-rows.mjs): the forced cells as the released guide's own fill.sh prints them over the translation e83203a6236a2950… (all of the seat's roots in one cut). By AI agents, Wed Nov 11 2026. No macro, syntax, notation, axiom, sorry.
-/
import Derived.Test.YtpjgffcpjabghaaChecked
import GoSem.Claim
import GoSem.ClaimJoined
import GoSem.ClaimMapViews
import Derived.JoinedTies
import Derived.KernelRfl
namespace Go.Proofs.Ytpjgffcpjabghaa
/- THE CELL 'sum', in the pinned program and in every row, IS THE sha256 OF THE DUMP (.gsa) THAT YtpjgffcpjabghaaProg.lean LOADS. Nothing in Lean hashes anything: it is a label: what it is worth is what the hold of that sum in a sandbox is worth. -/
noncomputable def Try.pinned : Pinned := { name := "ytpjgffcpjabghaa", sum := "e83203a6236a2950140e6dc7da62d5cceb8c97577fb3dff4581121a8cda5ef9d", checked := Try.checked }
namespace Rows
def none {H : Type} : Left H := { results := [], args := [] }

/-- 'stevedorelaw18.BudgetOne': WHATEVER THE INPUT: true; the input reads as it did. -/
def budgetOneSpec : ChangeSpec := { name := "budgetOne", fn := fun _ => fun
  | [d1, d2] => { results := [.lit (.bool true)], args := [d1, d2] }
  | _ => none }
def budgetOneRow : OpenClaim := { program := "ytpjgffcpjabghaa", sum := "e83203a6236a2950140e6dc7da62d5cceb8c97577fb3dff4581121a8cda5ef9d", func := "stevedore/stevedorelaw18.BudgetOne", spec := "budgetOne", inPlace := ["internal/bytealg.abigen_runtime_cmpstring"], unfollowed := true, recurses := true, apart := false }
def BudgetOneSaid : Prop := budgetOneRow.holds Try.pinned (OpenSpec.ofChange budgetOneSpec)

/-- ITS FALSE NEIGHBOUR: 'it returns false'. Refute it at one input. -/
def budgetOneWrong : ChangeSpec := { name := "budgetOne", fn := fun _ => fun
  | [d1, d2] => { results := [.lit (.bool false)], args := [d1, d2] }
  | _ => none }
def BudgetOneWrongFalsely : Prop := budgetOneRow.holds Try.pinned (OpenSpec.ofChange budgetOneWrong)

/-- 'stevedorelaw18.BudgetMore': WHATEVER THE INPUT: true; the input reads as it did. -/
def budgetMoreSpec : ChangeSpec := { name := "budgetMore", fn := fun _ => fun
  | [d1, d2, d3] => { results := [.lit (.bool true)], args := [d1, d2, d3] }
  | _ => none }
def budgetMoreRow : OpenClaim := { program := "ytpjgffcpjabghaa", sum := "e83203a6236a2950140e6dc7da62d5cceb8c97577fb3dff4581121a8cda5ef9d", func := "stevedore/stevedorelaw18.BudgetMore", spec := "budgetMore", inPlace := ["internal/bytealg.abigen_runtime_cmpstring"], unfollowed := true, recurses := true, apart := false }
def BudgetMoreSaid : Prop := budgetMoreRow.holds Try.pinned (OpenSpec.ofChange budgetMoreSpec)

/-- ITS FALSE NEIGHBOUR: 'it returns false'. Refute it at one input. -/
def budgetMoreWrong : ChangeSpec := { name := "budgetMore", fn := fun _ => fun
  | [d1, d2, d3] => { results := [.lit (.bool false)], args := [d1, d2, d3] }
  | _ => none }
def BudgetMoreWrongFalsely : Prop := budgetMoreRow.holds Try.pinned (OpenSpec.ofChange budgetMoreWrong)

/-- 'stevedorelaw18.BudgetLeaves': WHATEVER THE INPUT: true; the input reads as it did. -/
def budgetLeavesSpec : ChangeSpec := { name := "budgetLeaves", fn := fun _ => fun
  | [d1, d2] => { results := [.lit (.bool true)], args := [d1, d2] }
  | _ => none }
def budgetLeavesRow : OpenClaim := { program := "ytpjgffcpjabghaa", sum := "e83203a6236a2950140e6dc7da62d5cceb8c97577fb3dff4581121a8cda5ef9d", func := "stevedore/stevedorelaw18.BudgetLeaves", spec := "budgetLeaves", inPlace := ["internal/bytealg.abigen_runtime_cmpstring"], unfollowed := true, recurses := true, apart := false }
def BudgetLeavesSaid : Prop := budgetLeavesRow.holds Try.pinned (OpenSpec.ofChange budgetLeavesSpec)

/-- ITS FALSE NEIGHBOUR: 'it returns false'. Refute it at one input. -/
def budgetLeavesWrong : ChangeSpec := { name := "budgetLeaves", fn := fun _ => fun
  | [d1, d2] => { results := [.lit (.bool false)], args := [d1, d2] }
  | _ => none }
def BudgetLeavesWrongFalsely : Prop := budgetLeavesRow.holds Try.pinned (OpenSpec.ofChange budgetLeavesWrong)

/-- 'stevedorelaw18.BudgetOrder': WHATEVER THE INPUT: true; the input reads as it did. -/
def budgetOrderSpec : ChangeSpec := { name := "budgetOrder", fn := fun _ => fun
  | [d1, d2] => { results := [.lit (.bool true)], args := [d1, d2] }
  | _ => none }
def budgetOrderRow : OpenClaim := { program := "ytpjgffcpjabghaa", sum := "e83203a6236a2950140e6dc7da62d5cceb8c97577fb3dff4581121a8cda5ef9d", func := "stevedore/stevedorelaw18.BudgetOrder", spec := "budgetOrder", inPlace := ["internal/bytealg.abigen_runtime_cmpstring"], unfollowed := true, recurses := true, apart := false }
def BudgetOrderSaid : Prop := budgetOrderRow.holds Try.pinned (OpenSpec.ofChange budgetOrderSpec)

/-- ITS FALSE NEIGHBOUR: 'it returns false'. Refute it at one input. -/
def budgetOrderWrong : ChangeSpec := { name := "budgetOrder", fn := fun _ => fun
  | [d1, d2] => { results := [.lit (.bool false)], args := [d1, d2] }
  | _ => none }
def BudgetOrderWrongFalsely : Prop := budgetOrderRow.holds Try.pinned (OpenSpec.ofChange budgetOrderWrong)

/- THE SECOND FORM. 'bulk': how many values and letters a reading holds, each counted each time it is reached (what is shared counts as often as it is met; a slice's spare places count too). A statement '..UptoSaid' is the law's where the arguments, and the package variables that the reading takes, are together of bulk at most 1048576: NARROWER than '..Said'. Prove '..Said' where nothing that the law and all that it calls make is longer than what came in: it says more and counts as full. Else prove '..UptoSaid'. A law counts once. -/
mutual
def uptoBulk {H : Type} : DataW H → Nat
  | .lit (.string bytes) => bytes.length + 1
  | .lit _ => 1
  | .nil => 1
  | .ptr d => uptoBulk d + 1
  | .slice elems spare => uptoBulkAll elems + uptoBulkAll spare + 1
  | .agg parts => uptoBulkAll parts + 1
  | .iface _ d => uptoBulk d + 1
  | .map entries => uptoBulkEntries entries + 1
  | .held _ => 1
def uptoBulkAll {H : Type} : List (DataW H) → Nat
  | [] => 0
  | d :: r => uptoBulk d + uptoBulkAll r
def uptoBulkEntries {H : Type} : List (Lit × DataW H) → Nat
  | [] => 0
  | x :: r => uptoBulkEntry x + uptoBulkEntries r
def uptoBulkEntry {H : Type} : Lit × DataW H → Nat
  | (.string bytes, d) => bytes.length + uptoBulk d + 1
  | (_, d) => uptoBulk d + 1
 end
def uptoSmall : (H : Type) → List (DataW H) → Bool := fun _ ds => decide (uptoBulkAll ds ≤ 1048576)
def OpenSpec.upto (s : _root_.Go.ChangeSpec) : _root_.Go.OpenSpec := { _root_.Go.OpenSpec.ofChange s with cond := some uptoSmall }

/-- 'stevedorelaw18.BudgetOne', WHERE WHAT IT READS IS OF BULK AT MOST 1048576: true; the input reads as it did. -/
def budgetOneUptoRow : OpenClaim := { program := "ytpjgffcpjabghaa", sum := "e83203a6236a2950140e6dc7da62d5cceb8c97577fb3dff4581121a8cda5ef9d", func := "stevedore/stevedorelaw18.BudgetOne", spec := "budgetOne", inPlace := ["internal/bytealg.abigen_runtime_cmpstring"], unfollowed := true, recurses := true, apart := false, narrowed := true }
def BudgetOneUptoSaid : Prop := budgetOneUptoRow.holds Try.pinned (OpenSpec.upto budgetOneSpec)

/-- 'stevedorelaw18.BudgetMore', WHERE WHAT IT READS IS OF BULK AT MOST 1048576: true; the input reads as it did. -/
def budgetMoreUptoRow : OpenClaim := { program := "ytpjgffcpjabghaa", sum := "e83203a6236a2950140e6dc7da62d5cceb8c97577fb3dff4581121a8cda5ef9d", func := "stevedore/stevedorelaw18.BudgetMore", spec := "budgetMore", inPlace := ["internal/bytealg.abigen_runtime_cmpstring"], unfollowed := true, recurses := true, apart := false, narrowed := true }
def BudgetMoreUptoSaid : Prop := budgetMoreUptoRow.holds Try.pinned (OpenSpec.upto budgetMoreSpec)

/-- 'stevedorelaw18.BudgetLeaves', WHERE WHAT IT READS IS OF BULK AT MOST 1048576: true; the input reads as it did. -/
def budgetLeavesUptoRow : OpenClaim := { program := "ytpjgffcpjabghaa", sum := "e83203a6236a2950140e6dc7da62d5cceb8c97577fb3dff4581121a8cda5ef9d", func := "stevedore/stevedorelaw18.BudgetLeaves", spec := "budgetLeaves", inPlace := ["internal/bytealg.abigen_runtime_cmpstring"], unfollowed := true, recurses := true, apart := false, narrowed := true }
def BudgetLeavesUptoSaid : Prop := budgetLeavesUptoRow.holds Try.pinned (OpenSpec.upto budgetLeavesSpec)

/-- 'stevedorelaw18.BudgetOrder', WHERE WHAT IT READS IS OF BULK AT MOST 1048576: true; the input reads as it did. -/
def budgetOrderUptoRow : OpenClaim := { program := "ytpjgffcpjabghaa", sum := "e83203a6236a2950140e6dc7da62d5cceb8c97577fb3dff4581121a8cda5ef9d", func := "stevedore/stevedorelaw18.BudgetOrder", spec := "budgetOrder", inPlace := ["internal/bytealg.abigen_runtime_cmpstring"], unfollowed := true, recurses := true, apart := false, narrowed := true }
def BudgetOrderUptoSaid : Prop := budgetOrderUptoRow.holds Try.pinned (OpenSpec.upto budgetOrderSpec)

end Rows
end Go.Proofs.Ytpjgffcpjabghaa
