/-
  No cell of these rows narrows 'for every input' (looked for: loops, veiled, ifaces, maps, wideKeys, modest, calm, conditions, laid).
  DERIVED. THE GIVEN ROWS OF THIS SEAT. 5 by the template 'for every input the law returns true; each argument reads behind the call as it read before'; 0 by the template 'total and deterministic' (their statements: YtgffnkfiecieeaaTotals.lean).
  GIVEN WITH THE SEED: the statements are not yours to turn. If you find one false, say at which input.
  Laid BY PROGRAM, IN A SANDBOX (cutbox-rows.mjs): the forced cells as the released guide's own fill.sh prints them over the translation 584b067f05d79d51… (all of the seat's roots in one cut). By AI agents, Wed Nov 11 2026. No macro, syntax, notation, axiom, sorry.
-/
import Derived.Test.YtgffnkfiecieeaaChecked
import GoSem.Claim
import GoSem.ClaimJoined
import GoSem.ClaimMapViews
import Derived.JoinedTies
import Derived.KernelRfl
namespace Go.Proofs.Ytgffnkfiecieeaa
/- THE CELL 'sum', in the pinned program and in every row, IS THE sha256 OF THE DUMP (.gsa) THAT YtgffnkfiecieeaaProg.lean LOADS. Nothing in Lean hashes anything: it is a label: what it is worth is what the hold of that sum in a sandbox is worth. -/
noncomputable def Try.pinned : Pinned := { name := "ytgffnkfiecieeaa", sum := "584b067f05d79d51251c4149a46a1f9b8531e8dbda280f2de7e6ff8c87e02ff0", checked := Try.checked }
namespace Rows
def none {H : Type} : Left H := { results := [], args := [] }

/-- 'stevedorelaw03.TaintChecks': WHATEVER THE INPUT: true; the input reads as it did. -/
def taintChecksSpec : ChangeSpec := { name := "taintChecks", fn := fun _ => fun
  | [d1, d2] => { results := [.lit (.bool true)], args := [d1, d2] }
  | _ => none }
def taintChecksRow : OpenClaim := { program := "ytgffnkfiecieeaa", sum := "584b067f05d79d51251c4149a46a1f9b8531e8dbda280f2de7e6ff8c87e02ff0", func := "stevedore/stevedorelaw03.TaintChecks", spec := "taintChecks", unfollowed := true, recurses := true, apart := false }
def TaintChecksSaid : Prop := taintChecksRow.holds Try.pinned (OpenSpec.ofChange taintChecksSpec)

/-- ITS FALSE NEIGHBOUR: 'it returns false'. Refute it at one input. -/
def taintChecksWrong : ChangeSpec := { name := "taintChecks", fn := fun _ => fun
  | [d1, d2] => { results := [.lit (.bool false)], args := [d1, d2] }
  | _ => none }
def TaintChecksWrongFalsely : Prop := taintChecksRow.holds Try.pinned (OpenSpec.ofChange taintChecksWrong)

/-- 'stevedorelaw03.TaintBears': WHATEVER THE INPUT: true; the input reads as it did. -/
def taintBearsSpec : ChangeSpec := { name := "taintBears", fn := fun _ => fun
  | [d1, d2] => { results := [.lit (.bool true)], args := [d1, d2] }
  | _ => none }
def taintBearsRow : OpenClaim := { program := "ytgffnkfiecieeaa", sum := "584b067f05d79d51251c4149a46a1f9b8531e8dbda280f2de7e6ff8c87e02ff0", func := "stevedore/stevedorelaw03.TaintBears", spec := "taintBears", unfollowed := true, recurses := true, apart := false }
def TaintBearsSaid : Prop := taintBearsRow.holds Try.pinned (OpenSpec.ofChange taintBearsSpec)

/-- ITS FALSE NEIGHBOUR: 'it returns false'. Refute it at one input. -/
def taintBearsWrong : ChangeSpec := { name := "taintBears", fn := fun _ => fun
  | [d1, d2] => { results := [.lit (.bool false)], args := [d1, d2] }
  | _ => none }
def TaintBearsWrongFalsely : Prop := taintBearsRow.holds Try.pinned (OpenSpec.ofChange taintBearsWrong)

/-- 'stevedorelaw03.TaintMore': WHATEVER THE INPUT: true; the input reads as it did. -/
def taintMoreSpec : ChangeSpec := { name := "taintMore", fn := fun _ => fun
  | [d1, d2, d3] => { results := [.lit (.bool true)], args := [d1, d2, d3] }
  | _ => none }
def taintMoreRow : OpenClaim := { program := "ytgffnkfiecieeaa", sum := "584b067f05d79d51251c4149a46a1f9b8531e8dbda280f2de7e6ff8c87e02ff0", func := "stevedore/stevedorelaw03.TaintMore", spec := "taintMore", unfollowed := true, recurses := true, apart := false }
def TaintMoreSaid : Prop := taintMoreRow.holds Try.pinned (OpenSpec.ofChange taintMoreSpec)

/-- ITS FALSE NEIGHBOUR: 'it returns false'. Refute it at one input. -/
def taintMoreWrong : ChangeSpec := { name := "taintMore", fn := fun _ => fun
  | [d1, d2, d3] => { results := [.lit (.bool false)], args := [d1, d2, d3] }
  | _ => none }
def TaintMoreWrongFalsely : Prop := taintMoreRow.holds Try.pinned (OpenSpec.ofChange taintMoreWrong)

/-- 'stevedorelaw03.TaintAll': WHATEVER THE INPUT: true; the input reads as it did. -/
def taintAllSpec : ChangeSpec := { name := "taintAll", fn := fun _ => fun
  | [d1, d2, d3] => { results := [.lit (.bool true)], args := [d1, d2, d3] }
  | _ => none }
def taintAllRow : OpenClaim := { program := "ytgffnkfiecieeaa", sum := "584b067f05d79d51251c4149a46a1f9b8531e8dbda280f2de7e6ff8c87e02ff0", func := "stevedore/stevedorelaw03.TaintAll", spec := "taintAll", unfollowed := true, recurses := true, apart := false }
def TaintAllSaid : Prop := taintAllRow.holds Try.pinned (OpenSpec.ofChange taintAllSpec)

/-- ITS FALSE NEIGHBOUR: 'it returns false'. Refute it at one input. -/
def taintAllWrong : ChangeSpec := { name := "taintAll", fn := fun _ => fun
  | [d1, d2, d3] => { results := [.lit (.bool false)], args := [d1, d2, d3] }
  | _ => none }
def TaintAllWrongFalsely : Prop := taintAllRow.holds Try.pinned (OpenSpec.ofChange taintAllWrong)

/-- 'stevedorelaw03.TaintOne': WHATEVER THE INPUT: true; the input reads as it did. -/
def taintOneSpec : ChangeSpec := { name := "taintOne", fn := fun _ => fun
  | [d1, d2, d3] => { results := [.lit (.bool true)], args := [d1, d2, d3] }
  | _ => none }
def taintOneRow : OpenClaim := { program := "ytgffnkfiecieeaa", sum := "584b067f05d79d51251c4149a46a1f9b8531e8dbda280f2de7e6ff8c87e02ff0", func := "stevedore/stevedorelaw03.TaintOne", spec := "taintOne", unfollowed := true, recurses := true, apart := false }
def TaintOneSaid : Prop := taintOneRow.holds Try.pinned (OpenSpec.ofChange taintOneSpec)

/-- ITS FALSE NEIGHBOUR: 'it returns false'. Refute it at one input. -/
def taintOneWrong : ChangeSpec := { name := "taintOne", fn := fun _ => fun
  | [d1, d2, d3] => { results := [.lit (.bool false)], args := [d1, d2, d3] }
  | _ => none }
def TaintOneWrongFalsely : Prop := taintOneRow.holds Try.pinned (OpenSpec.ofChange taintOneWrong)

/- THE SECOND FORM. 'bulk': how many values and letters a reading holds, each counted each time it is reached (what is shared counts as often as it is met; a slice's spare places count too). A statement '..UptoSaid' is the law's where the arguments, and the package variables that the reading takes, are together of bulk at most 1048576: NARROWER than '..Said'. Prove '..Said' where nothing that the law and all that it calls make is longer than what came in: it says more and counts as full. Else prove '..UptoSaid'. A law counts once. -/
mutual
def uptoBulk {H : Type} : DataW H → Nat
  | .lit (.string bytes) => bytes.length + 1
  | .lit _ => 1
  | .nil => 1
  | .ptr d => uptoBulk d + 1
  | .slice elems spare => uptoBulkAll elems + uptoBulkAll spare + 1
  | .agg parts => uptoBulkAll parts + 1
  | .iface _ d => uptoBulk d + 1
  | .map entries => uptoBulkEntries entries + 1
  | .held _ => 1
def uptoBulkAll {H : Type} : List (DataW H) → Nat
  | [] => 0
  | d :: r => uptoBulk d + uptoBulkAll r
def uptoBulkEntries {H : Type} : List (Lit × DataW H) → Nat
  | [] => 0
  | x :: r => uptoBulkEntry x + uptoBulkEntries r
def uptoBulkEntry {H : Type} : Lit × DataW H → Nat
  | (.string bytes, d) => bytes.length + uptoBulk d + 1
  | (_, d) => uptoBulk d + 1
 end
def uptoSmall : (H : Type) → List (DataW H) → Bool := fun _ ds => decide (uptoBulkAll ds ≤ 1048576)
def OpenSpec.upto (s : _root_.Go.ChangeSpec) : _root_.Go.OpenSpec := { _root_.Go.OpenSpec.ofChange s with cond := some uptoSmall }

/-- 'stevedorelaw03.TaintChecks', WHERE WHAT IT READS IS OF BULK AT MOST 1048576: true; the input reads as it did. -/
def taintChecksUptoRow : OpenClaim := { program := "ytgffnkfiecieeaa", sum := "584b067f05d79d51251c4149a46a1f9b8531e8dbda280f2de7e6ff8c87e02ff0", func := "stevedore/stevedorelaw03.TaintChecks", spec := "taintChecks", unfollowed := true, recurses := true, apart := false, narrowed := true }
def TaintChecksUptoSaid : Prop := taintChecksUptoRow.holds Try.pinned (OpenSpec.upto taintChecksSpec)

/-- 'stevedorelaw03.TaintBears', WHERE WHAT IT READS IS OF BULK AT MOST 1048576: true; the input reads as it did. -/
def taintBearsUptoRow : OpenClaim := { program := "ytgffnkfiecieeaa", sum := "584b067f05d79d51251c4149a46a1f9b8531e8dbda280f2de7e6ff8c87e02ff0", func := "stevedore/stevedorelaw03.TaintBears", spec := "taintBears", unfollowed := true, recurses := true, apart := false, narrowed := true }
def TaintBearsUptoSaid : Prop := taintBearsUptoRow.holds Try.pinned (OpenSpec.upto taintBearsSpec)

/-- 'stevedorelaw03.TaintMore', WHERE WHAT IT READS IS OF BULK AT MOST 1048576: true; the input reads as it did. -/
def taintMoreUptoRow : OpenClaim := { program := "ytgffnkfiecieeaa", sum := "584b067f05d79d51251c4149a46a1f9b8531e8dbda280f2de7e6ff8c87e02ff0", func := "stevedore/stevedorelaw03.TaintMore", spec := "taintMore", unfollowed := true, recurses := true, apart := false, narrowed := true }
def TaintMoreUptoSaid : Prop := taintMoreUptoRow.holds Try.pinned (OpenSpec.upto taintMoreSpec)

/-- 'stevedorelaw03.TaintAll', WHERE WHAT IT READS IS OF BULK AT MOST 1048576: true; the input reads as it did. -/
def taintAllUptoRow : OpenClaim := { program := "ytgffnkfiecieeaa", sum := "584b067f05d79d51251c4149a46a1f9b8531e8dbda280f2de7e6ff8c87e02ff0", func := "stevedore/stevedorelaw03.TaintAll", spec := "taintAll", unfollowed := true, recurses := true, apart := false, narrowed := true }
def TaintAllUptoSaid : Prop := taintAllUptoRow.holds Try.pinned (OpenSpec.upto taintAllSpec)

/-- 'stevedorelaw03.TaintOne', WHERE WHAT IT READS IS OF BULK AT MOST 1048576: true; the input reads as it did. -/
def taintOneUptoRow : OpenClaim := { program := "ytgffnkfiecieeaa", sum := "584b067f05d79d51251c4149a46a1f9b8531e8dbda280f2de7e6ff8c87e02ff0", func := "stevedore/stevedorelaw03.TaintOne", spec := "taintOne", unfollowed := true, recurses := true, apart := false, narrowed := true }
def TaintOneUptoSaid : Prop := taintOneUptoRow.holds Try.pinned (OpenSpec.upto taintOneSpec)

end Rows
end Go.Proofs.Ytgffnkfiecieeaa
