/-
  No cell of these rows narrows 'for every input' (looked for: loops, veiled, ifaces, maps, wideKeys, modest, calm, conditions, laid).
  DERIVED. THE GIVEN ROWS OF THIS SEAT. 6 by the template 'for every input the law returns true; each argument reads behind the call as it read before'; 0 by the template 'total and deterministic' (their statements: YteihniiacfghoaaTotals.lean).
  GIVEN WITH THE SEED: the statements are not yours to turn. If you find one false, say at which input.
  Laid BY PROGRAM, IN A SANDBOX (cutbox-rows.mjs): the forced cells as the released guide's own fill.sh prints them over the translation 8466544f2f7cb7f1… (all of the seat's roots in one cut). By AI agents, Wed Nov 11 2026. No macro, syntax, notation, axiom, sorry.
-/
import Derived.Test.YteihniiacfghoaaChecked
import GoSem.Claim
import GoSem.ClaimJoined
import GoSem.ClaimMapViews
import Derived.JoinedTies
import Derived.KernelRfl
namespace Go.Proofs.Yteihniiacfghoaa
/- THE CELL 'sum', in the pinned program and in every row, IS THE sha256 OF THE DUMP (.gsa) THAT YteihniiacfghoaaProg.lean LOADS. Nothing in Lean hashes anything: it is a label: what it is worth is what the hold of that sum in a sandbox is worth. -/
noncomputable def Try.pinned : Pinned := { name := "yteihniiacfghoaa", sum := "8466544f2f7cb7f197be7647e9a059cb33150f3f59d1f25888b8a64b37798068", checked := Try.checked }
namespace Rows
def none {H : Type} : Left H := { results := [], args := [] }

/-- 'stevedorelaw16.ScoreMeasures': WHATEVER THE INPUT: true; the input reads as it did. -/
def scoreMeasuresSpec : ChangeSpec := { name := "scoreMeasures", fn := fun _ => fun
  | [d1, d2, d3, d4] => { results := [.lit (.bool true)], args := [d1, d2, d3, d4] }
  | _ => none }
def scoreMeasuresRow : OpenClaim := { program := "yteihniiacfghoaa", sum := "8466544f2f7cb7f197be7647e9a059cb33150f3f59d1f25888b8a64b37798068", func := "stevedore/stevedorelaw16.ScoreMeasures", spec := "scoreMeasures", inPlace := ["internal/bytealg.abigen_runtime_cmpstring"], unfollowed := true, recurses := true, apart := false }
def ScoreMeasuresSaid : Prop := scoreMeasuresRow.holds Try.pinned (OpenSpec.ofChange scoreMeasuresSpec)

/-- ITS FALSE NEIGHBOUR: 'it returns false'. Refute it at one input. -/
def scoreMeasuresWrong : ChangeSpec := { name := "scoreMeasures", fn := fun _ => fun
  | [d1, d2, d3, d4] => { results := [.lit (.bool false)], args := [d1, d2, d3, d4] }
  | _ => none }
def ScoreMeasuresWrongFalsely : Prop := scoreMeasuresRow.holds Try.pinned (OpenSpec.ofChange scoreMeasuresWrong)

/-- 'stevedorelaw16.ScoreTotals': WHATEVER THE INPUT: true; the input reads as it did. -/
def scoreTotalsSpec : ChangeSpec := { name := "scoreTotals", fn := fun _ => fun
  | [d1, d2, d3] => { results := [.lit (.bool true)], args := [d1, d2, d3] }
  | _ => none }
def scoreTotalsRow : OpenClaim := { program := "yteihniiacfghoaa", sum := "8466544f2f7cb7f197be7647e9a059cb33150f3f59d1f25888b8a64b37798068", func := "stevedore/stevedorelaw16.ScoreTotals", spec := "scoreTotals", inPlace := ["internal/bytealg.abigen_runtime_cmpstring"], unfollowed := true, recurses := true, apart := false }
def ScoreTotalsSaid : Prop := scoreTotalsRow.holds Try.pinned (OpenSpec.ofChange scoreTotalsSpec)

/-- ITS FALSE NEIGHBOUR: 'it returns false'. Refute it at one input. -/
def scoreTotalsWrong : ChangeSpec := { name := "scoreTotals", fn := fun _ => fun
  | [d1, d2, d3] => { results := [.lit (.bool false)], args := [d1, d2, d3] }
  | _ => none }
def ScoreTotalsWrongFalsely : Prop := scoreTotalsRow.holds Try.pinned (OpenSpec.ofChange scoreTotalsWrong)

/-- 'stevedorelaw16.ScorePicks': WHATEVER THE INPUT: true; the input reads as it did. -/
def scorePicksSpec : ChangeSpec := { name := "scorePicks", fn := fun _ => fun
  | [d1, d2, d3] => { results := [.lit (.bool true)], args := [d1, d2, d3] }
  | _ => none }
def scorePicksRow : OpenClaim := { program := "yteihniiacfghoaa", sum := "8466544f2f7cb7f197be7647e9a059cb33150f3f59d1f25888b8a64b37798068", func := "stevedore/stevedorelaw16.ScorePicks", spec := "scorePicks", unfollowed := true, recurses := true, apart := false }
def ScorePicksSaid : Prop := scorePicksRow.holds Try.pinned (OpenSpec.ofChange scorePicksSpec)

/-- ITS FALSE NEIGHBOUR: 'it returns false'. Refute it at one input. -/
def scorePicksWrong : ChangeSpec := { name := "scorePicks", fn := fun _ => fun
  | [d1, d2, d3] => { results := [.lit (.bool false)], args := [d1, d2, d3] }
  | _ => none }
def ScorePicksWrongFalsely : Prop := scorePicksRow.holds Try.pinned (OpenSpec.ofChange scorePicksWrong)

/-- 'stevedorelaw16.ScoreWithin': WHATEVER THE INPUT: true; the input reads as it did. -/
def scoreWithinSpec : ChangeSpec := { name := "scoreWithin", fn := fun _ => fun
  | [d1, d2, d3] => { results := [.lit (.bool true)], args := [d1, d2, d3] }
  | _ => none }
def scoreWithinRow : OpenClaim := { program := "yteihniiacfghoaa", sum := "8466544f2f7cb7f197be7647e9a059cb33150f3f59d1f25888b8a64b37798068", func := "stevedore/stevedorelaw16.ScoreWithin", spec := "scoreWithin", inPlace := ["internal/bytealg.abigen_runtime_cmpstring"], unfollowed := true, recurses := true, apart := false }
def ScoreWithinSaid : Prop := scoreWithinRow.holds Try.pinned (OpenSpec.ofChange scoreWithinSpec)

/-- ITS FALSE NEIGHBOUR: 'it returns false'. Refute it at one input. -/
def scoreWithinWrong : ChangeSpec := { name := "scoreWithin", fn := fun _ => fun
  | [d1, d2, d3] => { results := [.lit (.bool false)], args := [d1, d2, d3] }
  | _ => none }
def ScoreWithinWrongFalsely : Prop := scoreWithinRow.holds Try.pinned (OpenSpec.ofChange scoreWithinWrong)

/-- 'stevedorelaw16.ScoreBest': WHATEVER THE INPUT: true; the input reads as it did. -/
def scoreBestSpec : ChangeSpec := { name := "scoreBest", fn := fun _ => fun
  | [d1, d2, d3] => { results := [.lit (.bool true)], args := [d1, d2, d3] }
  | _ => none }
def scoreBestRow : OpenClaim := { program := "yteihniiacfghoaa", sum := "8466544f2f7cb7f197be7647e9a059cb33150f3f59d1f25888b8a64b37798068", func := "stevedore/stevedorelaw16.ScoreBest", spec := "scoreBest", unfollowed := true, recurses := true, apart := false }
def ScoreBestSaid : Prop := scoreBestRow.holds Try.pinned (OpenSpec.ofChange scoreBestSpec)

/-- ITS FALSE NEIGHBOUR: 'it returns false'. Refute it at one input. -/
def scoreBestWrong : ChangeSpec := { name := "scoreBest", fn := fun _ => fun
  | [d1, d2, d3] => { results := [.lit (.bool false)], args := [d1, d2, d3] }
  | _ => none }
def ScoreBestWrongFalsely : Prop := scoreBestRow.holds Try.pinned (OpenSpec.ofChange scoreBestWrong)

/-- 'stevedorelaw16.ScoreMore': WHATEVER THE INPUT: true; the input reads as it did. -/
def scoreMoreSpec : ChangeSpec := { name := "scoreMore", fn := fun _ => fun
  | [d1, d2, d3] => { results := [.lit (.bool true)], args := [d1, d2, d3] }
  | _ => none }
def scoreMoreRow : OpenClaim := { program := "yteihniiacfghoaa", sum := "8466544f2f7cb7f197be7647e9a059cb33150f3f59d1f25888b8a64b37798068", func := "stevedore/stevedorelaw16.ScoreMore", spec := "scoreMore", unfollowed := true, recurses := true, apart := false }
def ScoreMoreSaid : Prop := scoreMoreRow.holds Try.pinned (OpenSpec.ofChange scoreMoreSpec)

/-- ITS FALSE NEIGHBOUR: 'it returns false'. Refute it at one input. -/
def scoreMoreWrong : ChangeSpec := { name := "scoreMore", fn := fun _ => fun
  | [d1, d2, d3] => { results := [.lit (.bool false)], args := [d1, d2, d3] }
  | _ => none }
def ScoreMoreWrongFalsely : Prop := scoreMoreRow.holds Try.pinned (OpenSpec.ofChange scoreMoreWrong)

/- THE SECOND FORM. 'bulk': how many values and letters a reading holds, each counted each time it is reached (what is shared counts as often as it is met; a slice's spare places count too). A statement '..UptoSaid' is the law's where the arguments, and the package variables that the reading takes, are together of bulk at most 1048576: NARROWER than '..Said'. Prove '..Said' where nothing that the law and all that it calls make is longer than what came in: it says more and counts as full. Else prove '..UptoSaid'. A law counts once. -/
mutual
def uptoBulk {H : Type} : DataW H → Nat
  | .lit (.string bytes) => bytes.length + 1
  | .lit _ => 1
  | .nil => 1
  | .ptr d => uptoBulk d + 1
  | .slice elems spare => uptoBulkAll elems + uptoBulkAll spare + 1
  | .agg parts => uptoBulkAll parts + 1
  | .iface _ d => uptoBulk d + 1
  | .map entries => uptoBulkEntries entries + 1
  | .held _ => 1
def uptoBulkAll {H : Type} : List (DataW H) → Nat
  | [] => 0
  | d :: r => uptoBulk d + uptoBulkAll r
def uptoBulkEntries {H : Type} : List (Lit × DataW H) → Nat
  | [] => 0
  | x :: r => uptoBulkEntry x + uptoBulkEntries r
def uptoBulkEntry {H : Type} : Lit × DataW H → Nat
  | (.string bytes, d) => bytes.length + uptoBulk d + 1
  | (_, d) => uptoBulk d + 1
 end
def uptoSmall : (H : Type) → List (DataW H) → Bool := fun _ ds => decide (uptoBulkAll ds ≤ 1048576)
def OpenSpec.upto (s : _root_.Go.ChangeSpec) : _root_.Go.OpenSpec := { _root_.Go.OpenSpec.ofChange s with cond := some uptoSmall }

/-- 'stevedorelaw16.ScoreMeasures', WHERE WHAT IT READS IS OF BULK AT MOST 1048576: true; the input reads as it did. -/
def scoreMeasuresUptoRow : OpenClaim := { program := "yteihniiacfghoaa", sum := "8466544f2f7cb7f197be7647e9a059cb33150f3f59d1f25888b8a64b37798068", func := "stevedore/stevedorelaw16.ScoreMeasures", spec := "scoreMeasures", inPlace := ["internal/bytealg.abigen_runtime_cmpstring"], unfollowed := true, recurses := true, apart := false, narrowed := true }
def ScoreMeasuresUptoSaid : Prop := scoreMeasuresUptoRow.holds Try.pinned (OpenSpec.upto scoreMeasuresSpec)

/-- 'stevedorelaw16.ScoreTotals', WHERE WHAT IT READS IS OF BULK AT MOST 1048576: true; the input reads as it did. -/
def scoreTotalsUptoRow : OpenClaim := { program := "yteihniiacfghoaa", sum := "8466544f2f7cb7f197be7647e9a059cb33150f3f59d1f25888b8a64b37798068", func := "stevedore/stevedorelaw16.ScoreTotals", spec := "scoreTotals", inPlace := ["internal/bytealg.abigen_runtime_cmpstring"], unfollowed := true, recurses := true, apart := false, narrowed := true }
def ScoreTotalsUptoSaid : Prop := scoreTotalsUptoRow.holds Try.pinned (OpenSpec.upto scoreTotalsSpec)

/-- 'stevedorelaw16.ScorePicks', WHERE WHAT IT READS IS OF BULK AT MOST 1048576: true; the input reads as it did. -/
def scorePicksUptoRow : OpenClaim := { program := "yteihniiacfghoaa", sum := "8466544f2f7cb7f197be7647e9a059cb33150f3f59d1f25888b8a64b37798068", func := "stevedore/stevedorelaw16.ScorePicks", spec := "scorePicks", unfollowed := true, recurses := true, apart := false, narrowed := true }
def ScorePicksUptoSaid : Prop := scorePicksUptoRow.holds Try.pinned (OpenSpec.upto scorePicksSpec)

/-- 'stevedorelaw16.ScoreWithin', WHERE WHAT IT READS IS OF BULK AT MOST 1048576: true; the input reads as it did. -/
def scoreWithinUptoRow : OpenClaim := { program := "yteihniiacfghoaa", sum := "8466544f2f7cb7f197be7647e9a059cb33150f3f59d1f25888b8a64b37798068", func := "stevedore/stevedorelaw16.ScoreWithin", spec := "scoreWithin", inPlace := ["internal/bytealg.abigen_runtime_cmpstring"], unfollowed := true, recurses := true, apart := false, narrowed := true }
def ScoreWithinUptoSaid : Prop := scoreWithinUptoRow.holds Try.pinned (OpenSpec.upto scoreWithinSpec)

/-- 'stevedorelaw16.ScoreBest', WHERE WHAT IT READS IS OF BULK AT MOST 1048576: true; the input reads as it did. -/
def scoreBestUptoRow : OpenClaim := { program := "yteihniiacfghoaa", sum := "8466544f2f7cb7f197be7647e9a059cb33150f3f59d1f25888b8a64b37798068", func := "stevedore/stevedorelaw16.ScoreBest", spec := "scoreBest", unfollowed := true, recurses := true, apart := false, narrowed := true }
def ScoreBestUptoSaid : Prop := scoreBestUptoRow.holds Try.pinned (OpenSpec.upto scoreBestSpec)

/-- 'stevedorelaw16.ScoreMore', WHERE WHAT IT READS IS OF BULK AT MOST 1048576: true; the input reads as it did. -/
def scoreMoreUptoRow : OpenClaim := { program := "yteihniiacfghoaa", sum := "8466544f2f7cb7f197be7647e9a059cb33150f3f59d1f25888b8a64b37798068", func := "stevedore/stevedorelaw16.ScoreMore", spec := "scoreMore", unfollowed := true, recurses := true, apart := false, narrowed := true }
def ScoreMoreUptoSaid : Prop := scoreMoreUptoRow.holds Try.pinned (OpenSpec.upto scoreMoreSpec)

end Rows
end Go.Proofs.Yteihniiacfghoaa
