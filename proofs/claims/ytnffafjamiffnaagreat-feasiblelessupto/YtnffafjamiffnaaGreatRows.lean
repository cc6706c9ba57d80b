/-
  No cell of these rows narrows 'for every input' (looked for: loops, veiled, ifaces, maps, wideKeys, modest, calm, conditions, laid).
  DERIVED. THE GIVEN ROWS OF THIS SEAT. 5 by the template 'for every input the law returns true; each argument reads behind the call as it read before'; 0 by the template 'total and deterministic' (their statements: YtnffafjamiffnaaGreatTotals.lean).
  GIVEN WITH THE SEED: the statements are not yours to turn. If you find one false, say at which input.
  Laid BY PROGRAM, IN A SANDBOX (cutbox-rows.mjs): the forced cells as the released guide's own fill.sh prints them over the translation e5a6cde066aad1e1… (all of the seat's roots in one cut). By AI agents, Wed Nov 11 2026. No macro, syntax, notation, axiom, sorry.
-/
import Derived.Test.YtnffafjamiffnaaGreatChecked
import GoSem.Claim
import GoSem.ClaimJoined
import GoSem.ClaimMapViews
import Derived.JoinedTies
import Derived.KernelRfl
namespace Go.Proofs.YtnffafjamiffnaaGreat
/- THE CELL 'sum', in the pinned program and in every row, IS THE sha256 OF THE DUMP (.gsa) THAT YtnffafjamiffnaaGreatProg.lean LOADS. Nothing in Lean hashes anything: it is a label: what it is worth is what the hold of that sum in a sandbox is worth. -/
noncomputable def Tryz.pinned : Pinned := { name := "ytnffafjamiffnaagreat", sum := "e5a6cde066aad1e107f43561f6f510c88dc4f544efc6fdb3a00c4ee28ea17283", checked := Tryz.checked }
namespace Rows
def none {H : Type} : Left H := { results := [], args := [] }

/-- 'stevedorelaw11.FeasibleBinds': WHATEVER THE INPUT: true; the input reads as it did. -/
def feasibleBindsSpec : ChangeSpec := { name := "feasibleBinds", fn := fun _ => fun
  | [d1, d2, d3, d4, d5] => { results := [.lit (.bool true)], args := [d1, d2, d3, d4, d5] }
  | _ => none }
def feasibleBindsRow : OpenClaim := { program := "ytnffafjamiffnaagreat", sum := "e5a6cde066aad1e107f43561f6f510c88dc4f544efc6fdb3a00c4ee28ea17283", func := "stevedore/stevedorelaw11.FeasibleBinds", spec := "feasibleBinds", inPlace := ["internal/bytealg.abigen_runtime_cmpstring"], unfollowed := true, recurses := true, plainKeys := false, apart := false }
def FeasibleBindsSaid : Prop := feasibleBindsRow.holds Tryz.pinned (OpenSpec.ofChange feasibleBindsSpec)

/-- ITS FALSE NEIGHBOUR: 'it returns false'. Refute it at one input. -/
def feasibleBindsWrong : ChangeSpec := { name := "feasibleBinds", fn := fun _ => fun
  | [d1, d2, d3, d4, d5] => { results := [.lit (.bool false)], args := [d1, d2, d3, d4, d5] }
  | _ => none }
def FeasibleBindsWrongFalsely : Prop := feasibleBindsRow.holds Tryz.pinned (OpenSpec.ofChange feasibleBindsWrong)

/-- 'stevedorelaw11.FeasibleFits': WHATEVER THE INPUT: true; the input reads as it did. -/
def feasibleFitsSpec : ChangeSpec := { name := "feasibleFits", fn := fun _ => fun
  | [d1, d2] => { results := [.lit (.bool true)], args := [d1, d2] }
  | _ => none }
def feasibleFitsRow : OpenClaim := { program := "ytnffafjamiffnaagreat", sum := "e5a6cde066aad1e107f43561f6f510c88dc4f544efc6fdb3a00c4ee28ea17283", func := "stevedore/stevedorelaw11.FeasibleFits", spec := "feasibleFits", inPlace := ["internal/bytealg.abigen_runtime_cmpstring"], unfollowed := true, recurses := true, plainKeys := false, apart := false }
def FeasibleFitsSaid : Prop := feasibleFitsRow.holds Tryz.pinned (OpenSpec.ofChange feasibleFitsSpec)

/-- ITS FALSE NEIGHBOUR: 'it returns false'. Refute it at one input. -/
def feasibleFitsWrong : ChangeSpec := { name := "feasibleFits", fn := fun _ => fun
  | [d1, d2] => { results := [.lit (.bool false)], args := [d1, d2] }
  | _ => none }
def FeasibleFitsWrongFalsely : Prop := feasibleFitsRow.holds Tryz.pinned (OpenSpec.ofChange feasibleFitsWrong)

/-- 'stevedorelaw11.FeasibleApart': WHATEVER THE INPUT: true; the input reads as it did. -/
def feasibleApartSpec : ChangeSpec := { name := "feasibleApart", fn := fun _ => fun
  | [d1, d2, d3, d4] => { results := [.lit (.bool true)], args := [d1, d2, d3, d4] }
  | _ => none }
def feasibleApartRow : OpenClaim := { program := "ytnffafjamiffnaagreat", sum := "e5a6cde066aad1e107f43561f6f510c88dc4f544efc6fdb3a00c4ee28ea17283", func := "stevedore/stevedorelaw11.FeasibleApart", spec := "feasibleApart", inPlace := ["internal/bytealg.abigen_runtime_cmpstring"], unfollowed := true, recurses := true, plainKeys := false, apart := false }
def FeasibleApartSaid : Prop := feasibleApartRow.holds Tryz.pinned (OpenSpec.ofChange feasibleApartSpec)

/-- ITS FALSE NEIGHBOUR: 'it returns false'. Refute it at one input. -/
def feasibleApartWrong : ChangeSpec := { name := "feasibleApart", fn := fun _ => fun
  | [d1, d2, d3, d4] => { results := [.lit (.bool false)], args := [d1, d2, d3, d4] }
  | _ => none }
def FeasibleApartWrongFalsely : Prop := feasibleApartRow.holds Tryz.pinned (OpenSpec.ofChange feasibleApartWrong)

/-- 'stevedorelaw11.FeasibleElse': WHATEVER THE INPUT: true; the input reads as it did. -/
def feasibleElseSpec : ChangeSpec := { name := "feasibleElse", fn := fun _ => fun
  | [d1, d2, d3, d4] => { results := [.lit (.bool true)], args := [d1, d2, d3, d4] }
  | _ => none }
def feasibleElseRow : OpenClaim := { program := "ytnffafjamiffnaagreat", sum := "e5a6cde066aad1e107f43561f6f510c88dc4f544efc6fdb3a00c4ee28ea17283", func := "stevedore/stevedorelaw11.FeasibleElse", spec := "feasibleElse", inPlace := ["internal/bytealg.abigen_runtime_cmpstring"], unfollowed := true, recurses := true, plainKeys := false, apart := false }
def FeasibleElseSaid : Prop := feasibleElseRow.holds Tryz.pinned (OpenSpec.ofChange feasibleElseSpec)

/-- ITS FALSE NEIGHBOUR: 'it returns false'. Refute it at one input. -/
def feasibleElseWrong : ChangeSpec := { name := "feasibleElse", fn := fun _ => fun
  | [d1, d2, d3, d4] => { results := [.lit (.bool false)], args := [d1, d2, d3, d4] }
  | _ => none }
def FeasibleElseWrongFalsely : Prop := feasibleElseRow.holds Tryz.pinned (OpenSpec.ofChange feasibleElseWrong)

/-- 'stevedorelaw11.FeasibleLess': WHATEVER THE INPUT: true; the input reads as it did. -/
def feasibleLessSpec : ChangeSpec := { name := "feasibleLess", fn := fun _ => fun
  | [d1, d2, d3, d4] => { results := [.lit (.bool true)], args := [d1, d2, d3, d4] }
  | _ => none }
def feasibleLessRow : OpenClaim := { program := "ytnffafjamiffnaagreat", sum := "e5a6cde066aad1e107f43561f6f510c88dc4f544efc6fdb3a00c4ee28ea17283", func := "stevedore/stevedorelaw11.FeasibleLess", spec := "feasibleLess", inPlace := ["internal/bytealg.abigen_runtime_cmpstring"], unfollowed := true, recurses := true, plainKeys := false, apart := false }
def FeasibleLessSaid : Prop := feasibleLessRow.holds Tryz.pinned (OpenSpec.ofChange feasibleLessSpec)

/-- ITS FALSE NEIGHBOUR: 'it returns false'. Refute it at one input. -/
def feasibleLessWrong : ChangeSpec := { name := "feasibleLess", fn := fun _ => fun
  | [d1, d2, d3, d4] => { results := [.lit (.bool false)], args := [d1, d2, d3, d4] }
  | _ => none }
def FeasibleLessWrongFalsely : Prop := feasibleLessRow.holds Tryz.pinned (OpenSpec.ofChange feasibleLessWrong)

/- THE SECOND FORM. 'bulk': how many values and letters a reading holds, each counted each time it is reached (what is shared counts as often as it is met; a slice's spare places count too). A statement '..UptoSaid' is the law's where the arguments, and the package variables that the reading takes, are together of bulk at most 1048576: NARROWER than '..Said'. Prove '..Said' where nothing that the law and all that it calls make is longer than what came in: it says more and counts as full. Else prove '..UptoSaid'. A law counts once. -/
mutual
def uptoBulk {H : Type} : DataW H → Nat
  | .lit (.string bytes) => bytes.length + 1
  | .lit _ => 1
  | .nil => 1
  | .ptr d => uptoBulk d + 1
  | .slice elems spare => uptoBulkAll elems + uptoBulkAll spare + 1
  | .agg parts => uptoBulkAll parts + 1
  | .iface _ d => uptoBulk d + 1
  | .map entries => uptoBulkEntries entries + 1
  | .held _ => 1
def uptoBulkAll {H : Type} : List (DataW H) → Nat
  | [] => 0
  | d :: r => uptoBulk d + uptoBulkAll r
def uptoBulkEntries {H : Type} : List (Lit × DataW H) → Nat
  | [] => 0
  | x :: r => uptoBulkEntry x + uptoBulkEntries r
def uptoBulkEntry {H : Type} : Lit × DataW H → Nat
  | (.string bytes, d) => bytes.length + uptoBulk d + 1
  | (_, d) => uptoBulk d + 1
 end
def uptoSmall : (H : Type) → List (DataW H) → Bool := fun _ ds => decide (uptoBulkAll ds ≤ 1048576)
def OpenSpec.upto (s : _root_.Go.ChangeSpec) : _root_.Go.OpenSpec := { _root_.Go.OpenSpec.ofChange s with cond := some uptoSmall }

/-- 'stevedorelaw11.FeasibleBinds', WHERE WHAT IT READS IS OF BULK AT MOST 1048576: true; the input reads as it did. -/
def feasibleBindsUptoRow : OpenClaim := { program := "ytnffafjamiffnaagreat", sum := "e5a6cde066aad1e107f43561f6f510c88dc4f544efc6fdb3a00c4ee28ea17283", func := "stevedore/stevedorelaw11.FeasibleBinds", spec := "feasibleBinds", inPlace := ["internal/bytealg.abigen_runtime_cmpstring"], unfollowed := true, recurses := true, plainKeys := false, apart := false, narrowed := true }
def FeasibleBindsUptoSaid : Prop := feasibleBindsUptoRow.holds Tryz.pinned (OpenSpec.upto feasibleBindsSpec)

/-- 'stevedorelaw11.FeasibleFits', WHERE WHAT IT READS IS OF BULK AT MOST 1048576: true; the input reads as it did. -/
def feasibleFitsUptoRow : OpenClaim := { program := "ytnffafjamiffnaagreat", sum := "e5a6cde066aad1e107f43561f6f510c88dc4f544efc6fdb3a00c4ee28ea17283", func := "stevedore/stevedorelaw11.FeasibleFits", spec := "feasibleFits", inPlace := ["internal/bytealg.abigen_runtime_cmpstring"], unfollowed := true, recurses := true, plainKeys := false, apart := false, narrowed := true }
def FeasibleFitsUptoSaid : Prop := feasibleFitsUptoRow.holds Tryz.pinned (OpenSpec.upto feasibleFitsSpec)

/-- 'stevedorelaw11.FeasibleApart', WHERE WHAT IT READS IS OF BULK AT MOST 1048576: true; the input reads as it did. -/
def feasibleApartUptoRow : OpenClaim := { program := "ytnffafjamiffnaagreat", sum := "e5a6cde066aad1e107f43561f6f510c88dc4f544efc6fdb3a00c4ee28ea17283", func := "stevedore/stevedorelaw11.FeasibleApart", spec := "feasibleApart", inPlace := ["internal/bytealg.abigen_runtime_cmpstring"], unfollowed := true, recurses := true, plainKeys := false, apart := false, narrowed := true }
def FeasibleApartUptoSaid : Prop := feasibleApartUptoRow.holds Tryz.pinned (OpenSpec.upto feasibleApartSpec)

/-- 'stevedorelaw11.FeasibleElse', WHERE WHAT IT READS IS OF BULK AT MOST 1048576: true; the input reads as it did. -/
def feasibleElseUptoRow : OpenClaim := { program := "ytnffafjamiffnaagreat", sum := "e5a6cde066aad1e107f43561f6f510c88dc4f544efc6fdb3a00c4ee28ea17283", func := "stevedore/stevedorelaw11.FeasibleElse", spec := "feasibleElse", inPlace := ["internal/bytealg.abigen_runtime_cmpstring"], unfollowed := true, recurses := true, plainKeys := false, apart := false, narrowed := true }
def FeasibleElseUptoSaid : Prop := feasibleElseUptoRow.holds Tryz.pinned (OpenSpec.upto feasibleElseSpec)

/-- 'stevedorelaw11.FeasibleLess', WHERE WHAT IT READS IS OF BULK AT MOST 1048576: true; the input reads as it did. -/
def feasibleLessUptoRow : OpenClaim := { program := "ytnffafjamiffnaagreat", sum := "e5a6cde066aad1e107f43561f6f510c88dc4f544efc6fdb3a00c4ee28ea17283", func := "stevedore/stevedorelaw11.FeasibleLess", spec := "feasibleLess", inPlace := ["internal/bytealg.abigen_runtime_cmpstring"], unfollowed := true, recurses := true, plainKeys := false, apart := false, narrowed := true }
def FeasibleLessUptoSaid : Prop := feasibleLessUptoRow.holds Tryz.pinned (OpenSpec.upto feasibleLessSpec)

end Rows
end Go.Proofs.YtnffafjamiffnaaGreat
