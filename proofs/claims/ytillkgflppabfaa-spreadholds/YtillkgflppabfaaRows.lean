/-
  No cell of these rows narrows 'for every input' (looked for: loops, veiled, ifaces, maps, wideKeys, modest, calm, conditions, laid).
  DERIVED. THE GIVEN ROWS OF THIS SEAT. 3 by the template 'for every input the law returns true; each argument reads behind the call as it read before'; 0 by the template 'total and deterministic' (their statements: YtillkgflppabfaaTotals.lean).
  GIVEN WITH THE SEED: the statements are not yours to turn. If you find one false, say at which input.
  Laid BY PROGRAM, IN A SANDBOX (cutbox-rows.mjs): the forced cells as the released guide's own fill.sh prints them over the translation 4e456d5fc1ba3dbb… (all of the seat's roots in one cut). By AI agents, Wed Nov 11 2026. No macro, syntax, notation, axiom, sorry.
-/
import Derived.Test.YtillkgflppabfaaChecked
import GoSem.Claim
import GoSem.ClaimJoined
import GoSem.ClaimMapViews
import Derived.JoinedTies
import Derived.KernelRfl
namespace Go.Proofs.Ytillkgflppabfaa
/- THE CELL 'sum', in the pinned program and in every row, IS THE sha256 OF THE DUMP (.gsa) THAT YtillkgflppabfaaProg.lean LOADS. Nothing in Lean hashes anything: it is a label: what it is worth is what the hold of that sum in a sandbox is worth. -/
noncomputable def Try.pinned : Pinned := { name := "ytillkgflppabfaa", sum := "4e456d5fc1ba3dbb425a33ffa116992d8fcd6c891df5d74f4f00b3658ddd981f", checked := Try.checked }
namespace Rows
def none {H : Type} : Left H := { results := [], args := [] }

/-- 'stevedorelaw09.SpreadChecks': WHATEVER THE INPUT: true; the input reads as it did. -/
def spreadChecksSpec : ChangeSpec := { name := "spreadChecks", fn := fun _ => fun
  | [d1, d2, d3, d4] => { results := [.lit (.bool true)], args := [d1, d2, d3, d4] }
  | _ => none }
def spreadChecksRow : OpenClaim := { program := "ytillkgflppabfaa", sum := "4e456d5fc1ba3dbb425a33ffa116992d8fcd6c891df5d74f4f00b3658ddd981f", func := "stevedore/stevedorelaw09.SpreadChecks", spec := "spreadChecks", inPlace := ["internal/bytealg.abigen_runtime_cmpstring"], unfollowed := true, recurses := true, apart := false }
def SpreadChecksSaid : Prop := spreadChecksRow.holds Try.pinned (OpenSpec.ofChange spreadChecksSpec)

/-- ITS FALSE NEIGHBOUR: 'it returns false'. Refute it at one input. -/
def spreadChecksWrong : ChangeSpec := { name := "spreadChecks", fn := fun _ => fun
  | [d1, d2, d3, d4] => { results := [.lit (.bool false)], args := [d1, d2, d3, d4] }
  | _ => none }
def SpreadChecksWrongFalsely : Prop := spreadChecksRow.holds Try.pinned (OpenSpec.ofChange spreadChecksWrong)

/-- 'stevedorelaw09.SpreadHolds': WHATEVER THE INPUT: true; the input reads as it did. -/
def spreadHoldsSpec : ChangeSpec := { name := "spreadHolds", fn := fun _ => fun
  | [d1, d2, d3, d4, d5] => { results := [.lit (.bool true)], args := [d1, d2, d3, d4, d5] }
  | _ => none }
def spreadHoldsRow : OpenClaim := { program := "ytillkgflppabfaa", sum := "4e456d5fc1ba3dbb425a33ffa116992d8fcd6c891df5d74f4f00b3658ddd981f", func := "stevedore/stevedorelaw09.SpreadHolds", spec := "spreadHolds", inPlace := ["internal/bytealg.abigen_runtime_cmpstring"], unfollowed := true, recurses := true, apart := false }
def SpreadHoldsSaid : Prop := spreadHoldsRow.holds Try.pinned (OpenSpec.ofChange spreadHoldsSpec)

/-- ITS FALSE NEIGHBOUR: 'it returns false'. Refute it at one input. -/
def spreadHoldsWrong : ChangeSpec := { name := "spreadHolds", fn := fun _ => fun
  | [d1, d2, d3, d4, d5] => { results := [.lit (.bool false)], args := [d1, d2, d3, d4, d5] }
  | _ => none }
def SpreadHoldsWrongFalsely : Prop := spreadHoldsRow.holds Try.pinned (OpenSpec.ofChange spreadHoldsWrong)

/-- 'stevedorelaw09.SpreadOrder': WHATEVER THE INPUT: true; the input reads as it did. -/
def spreadOrderSpec : ChangeSpec := { name := "spreadOrder", fn := fun _ => fun
  | [d1, d2, d3, d4, d5] => { results := [.lit (.bool true)], args := [d1, d2, d3, d4, d5] }
  | _ => none }
def spreadOrderRow : OpenClaim := { program := "ytillkgflppabfaa", sum := "4e456d5fc1ba3dbb425a33ffa116992d8fcd6c891df5d74f4f00b3658ddd981f", func := "stevedore/stevedorelaw09.SpreadOrder", spec := "spreadOrder", inPlace := ["internal/bytealg.abigen_runtime_cmpstring"], unfollowed := true, recurses := true, apart := false }
def SpreadOrderSaid : Prop := spreadOrderRow.holds Try.pinned (OpenSpec.ofChange spreadOrderSpec)

/-- ITS FALSE NEIGHBOUR: 'it returns false'. Refute it at one input. -/
def spreadOrderWrong : ChangeSpec := { name := "spreadOrder", fn := fun _ => fun
  | [d1, d2, d3, d4, d5] => { results := [.lit (.bool false)], args := [d1, d2, d3, d4, d5] }
  | _ => none }
def SpreadOrderWrongFalsely : Prop := spreadOrderRow.holds Try.pinned (OpenSpec.ofChange spreadOrderWrong)

/- THE SECOND FORM. 'bulk': how many values and letters a reading holds, each counted each time it is reached (what is shared counts as often as it is met; a slice's spare places count too). A statement '..UptoSaid' is the law's where the arguments, and the package variables that the reading takes, are together of bulk at most 1048576: NARROWER than '..Said'. Prove '..Said' where nothing that the law and all that it calls make is longer than what came in: it says more and counts as full. Else prove '..UptoSaid'. A law counts once. -/
mutual
def uptoBulk {H : Type} : DataW H → Nat
  | .lit (.string bytes) => bytes.length + 1
  | .lit _ => 1
  | .nil => 1
  | .ptr d => uptoBulk d + 1
  | .slice elems spare => uptoBulkAll elems + uptoBulkAll spare + 1
  | .agg parts => uptoBulkAll parts + 1
  | .iface _ d => uptoBulk d + 1
  | .map entries => uptoBulkEntries entries + 1
  | .held _ => 1
def uptoBulkAll {H : Type} : List (DataW H) → Nat
  | [] => 0
  | d :: r => uptoBulk d + uptoBulkAll r
def uptoBulkEntries {H : Type} : List (Lit × DataW H) → Nat
  | [] => 0
  | x :: r => uptoBulkEntry x + uptoBulkEntries r
def uptoBulkEntry {H : Type} : Lit × DataW H → Nat
  | (.string bytes, d) => bytes.length + uptoBulk d + 1
  | (_, d) => uptoBulk d + 1
 end
def uptoSmall : (H : Type) → List (DataW H) → Bool := fun _ ds => decide (uptoBulkAll ds ≤ 1048576)
def OpenSpec.upto (s : _root_.Go.ChangeSpec) : _root_.Go.OpenSpec := { _root_.Go.OpenSpec.ofChange s with cond := some uptoSmall }

/-- 'stevedorelaw09.SpreadChecks', WHERE WHAT IT READS IS OF BULK AT MOST 1048576: true; the input reads as it did. -/
def spreadChecksUptoRow : OpenClaim := { program := "ytillkgflppabfaa", sum := "4e456d5fc1ba3dbb425a33ffa116992d8fcd6c891df5d74f4f00b3658ddd981f", func := "stevedore/stevedorelaw09.SpreadChecks", spec := "spreadChecks", inPlace := ["internal/bytealg.abigen_runtime_cmpstring"], unfollowed := true, recurses := true, apart := false, narrowed := true }
def SpreadChecksUptoSaid : Prop := spreadChecksUptoRow.holds Try.pinned (OpenSpec.upto spreadChecksSpec)

/-- 'stevedorelaw09.SpreadHolds', WHERE WHAT IT READS IS OF BULK AT MOST 1048576: true; the input reads as it did. -/
def spreadHoldsUptoRow : OpenClaim := { program := "ytillkgflppabfaa", sum := "4e456d5fc1ba3dbb425a33ffa116992d8fcd6c891df5d74f4f00b3658ddd981f", func := "stevedore/stevedorelaw09.SpreadHolds", spec := "spreadHolds", inPlace := ["internal/bytealg.abigen_runtime_cmpstring"], unfollowed := true, recurses := true, apart := false, narrowed := true }
def SpreadHoldsUptoSaid : Prop := spreadHoldsUptoRow.holds Try.pinned (OpenSpec.upto spreadHoldsSpec)

/-- 'stevedorelaw09.SpreadOrder', WHERE WHAT IT READS IS OF BULK AT MOST 1048576: true; the input reads as it did. -/
def spreadOrderUptoRow : OpenClaim := { program := "ytillkgflppabfaa", sum := "4e456d5fc1ba3dbb425a33ffa116992d8fcd6c891df5d74f4f00b3658ddd981f", func := "stevedore/stevedorelaw09.SpreadOrder", spec := "spreadOrder", inPlace := ["internal/bytealg.abigen_runtime_cmpstring"], unfollowed := true, recurses := true, apart := false, narrowed := true }
def SpreadOrderUptoSaid : Prop := spreadOrderUptoRow.holds Try.pinned (OpenSpec.upto spreadOrderSpec)

end Rows
end Go.Proofs.Ytillkgflppabfaa
