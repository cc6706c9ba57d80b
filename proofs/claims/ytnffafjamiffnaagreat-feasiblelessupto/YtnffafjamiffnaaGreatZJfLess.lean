/- The closed facts of the row of FeasibleLess, each by itself. Condition: none. -/
import Derived.Test.YtnffafjamiffnaaGreatRows
import Derived.Test.YtnffafjamiffnaaGreatChecked
import Derived.JoinedCond
set_option linter.unusedSimpArgs false
set_option maxRecDepth 100000
set_option maxHeartbeats 32000000
namespace Go.Proofs.YtnffafjamiffnaaGreat.feasibleLess
open Go.ChangeShapes Go.WideShapes Go.ChangeAt
theorem jf1 : (Rows.feasibleLessUptoRow.wf (OpenSpec.ofChange ((Rows.OpenSpec.upto Rows.feasibleLessSpec).bare))) = true := by kernel_rfl
theorem jf2 : (laidOutB Tryz.pinned.checked.prog) = true := by kernel_rfl
theorem jf3 : (mapsRowed Tryz.pinned.checked.prog) = true := by kernel_rfl
theorem jf4 : (Tryz.f7.params.all (Tryz.pinned.checked.prog.readableRec ·)) = true := by kernel_rfl
theorem jf5 : (namedTie Tryz.pinned.checked.prog Rows.feasibleLessUptoRow.named ((Rows.OpenSpec.upto Rows.feasibleLessSpec).bare).vars) = true := by kernel_rfl
theorem jf6 : ((Rows.feasibleLessUptoRow.stops == [])) = true := by kernel_rfl
theorem jf7 : ((Tryz.pinned.checked.prog.stops == [])) = true := by kernel_rfl
theorem jf8 : ((Rows.feasibleLessUptoRow.knobs == [])) = true := by kernel_rfl
theorem jf9 : ((Tryz.pinned.checked.prog.stopKnobs == [])) = true := by kernel_rfl
theorem jf10 : ((Rows.feasibleLessUptoRow.inPlace == Tryz.pinned.checked.prog.inPlace 7)) = true := by kernel_rfl
theorem jf11 : ((Rows.feasibleLessUptoRow.unfollowed == Tryz.pinned.checked.prog.unfollowed 7)) = true := by kernel_rfl
theorem jf12 : ((Rows.feasibleLessUptoRow.recurses == Tryz.pinned.checked.prog.recurses 7)) = true := by kernel_rfl
theorem jf13 : ((Rows.feasibleLessUptoRow.named == Tryz.pinned.checked.prog.varsNamed 7)) = true := by kernel_rfl
theorem jf14 : ((Rows.feasibleLessUptoRow.maps == (Tryz.f7.params.toList ++ ((Rows.OpenSpec.upto Rows.feasibleLessSpec).bare).plain.varTypes Tryz.pinned.checked.prog).any (Tryz.pinned.checked.prog.mapsRec ·))) = true := by kernel_rfl
theorem jf15 : ((Rows.feasibleLessUptoRow.ifaces == (Tryz.f7.params.toList ++ ((Rows.OpenSpec.upto Rows.feasibleLessSpec).bare).plain.varTypes Tryz.pinned.checked.prog).any (Tryz.pinned.checked.prog.ifacesRec ·))) = true := by kernel_rfl
theorem jf16 : ((Rows.feasibleLessUptoRow.mapsOut == Tryz.pinned.checked.prog.mapsAmong Tryz.f7.resultTypes.toList)) = true := by kernel_rfl
theorem jf17 : ((Rows.feasibleLessUptoRow.loops == (Tryz.f7.params.toList ++ ((Rows.OpenSpec.upto Rows.feasibleLessSpec).bare).plain.varTypes Tryz.pinned.checked.prog).any (Tryz.pinned.checked.prog.loopsFrom ·))) = true := by kernel_rfl
theorem jf18 : ((Rows.feasibleLessUptoRow.wideKeys == (Tryz.f7.params.toList ++ ((Rows.OpenSpec.upto Rows.feasibleLessSpec).bare).plain.varTypes Tryz.pinned.checked.prog ++ Tryz.f7.resultTypes.toList).any (Tryz.pinned.checked.prog.wideKeysFrom ·))) = true := by kernel_rfl
theorem jf19 : (((Rows.OpenSpec.upto Rows.feasibleLessSpec).bare).vars.all (Tryz.pinned.checked.prog.varReadable ·)) = true := by kernel_rfl
theorem jf20 : (Tryz.f7.resultTypes.all (fun t => Tryz.pinned.checked.prog.readableRec t && decide (t < Tryz.pinned.checked.prog.types.size))) = true := by kernel_rfl
theorem jf21 : ((Rows.feasibleLessUptoRow.ifacesOut == Tryz.f7.resultTypes.toList.any (Tryz.pinned.checked.prog.ifacesRec ·))) = true := by kernel_rfl
theorem jf22 : ((Rows.feasibleLessUptoRow.loopsOut == Tryz.f7.resultTypes.toList.any (Tryz.pinned.checked.prog.loopsFrom ·))) = true := by kernel_rfl
theorem jf23 : ((Rows.feasibleLessUptoRow.plainKeys == Tryz.pinned.checked.prog.plainKeys)) = true := by kernel_rfl
theorem jf24 : (Rows.feasibleLessUptoRow.shortTexts.isNone) = true := by kernel_rfl
theorem jf25 : (Tryz.pinned.checked.prog.stopsHeard) = true := by kernel_rfl
theorem jf26 : (Tryz.pinned.checked.prog.mayEnter) = true := by kernel_rfl
theorem jf27 : ((Rows.feasibleLessUptoRow.lifted == Tryz.pinned.checked.prog.liftsFinal)) = true := by kernel_rfl
theorem jf28 : ((Tryz.pinned.checked.prog.make == some Rows.feasibleLessUptoRow.make)) = true := by kernel_rfl
theorem jf29 : ((Rows.feasibleLessUptoRow.kinds == (if Rows.feasibleLessUptoRow.domain.isEmpty then [] else Tryz.f7.params.toList.map fun t => match Tryz.pinned.checked.prog.underlying t with | some (.int k) => some k | _ => none))) = true := by kernel_rfl
theorem jf30 : ((Rows.feasibleLessUptoRow.pinned == Rows.feasibleLessUptoRow.pinnedBy)) = true := by kernel_rfl
theorem jf31 : ((Rows.feasibleLessUptoRow.veiled == (Tryz.f7.params.toList ++ ((Rows.OpenSpec.upto Rows.feasibleLessSpec).bare).plain.varTypes Tryz.pinned.checked.prog ++ Tryz.f7.resultTypes.toList).any (Tryz.pinned.checked.prog.veiledRec ·))) = true := by kernel_rfl
theorem jf32 : (Rows.feasibleLessUptoRow.veiledFits Tryz.pinned.checked.prog Tryz.f7.params.toList (Tryz.f7.params.toList ++ ((Rows.OpenSpec.upto Rows.feasibleLessSpec).bare).plain.varTypes Tryz.pinned.checked.prog ++ Tryz.f7.resultTypes.toList)) = true := by kernel_rfl
theorem andT {a b : Bool} (h : a = true) (k : b = true) : (a && b) = true := by rw [h, k]; rfl
theorem closed : joinedFacts Tryz.pinned.checked.prog 7 Tryz.f7 ((Rows.OpenSpec.upto Rows.feasibleLessSpec).bare) Rows.feasibleLessUptoRow = true := by
 unfold joinedFacts
 refine andT ?_ jf32
 refine andT ?_ jf31
 refine andT ?_ jf30
 refine andT ?_ jf29
 refine andT ?_ jf28
 refine andT ?_ jf27
 refine andT ?_ jf26
 refine andT ?_ jf25
 refine andT ?_ jf24
 refine andT ?_ jf23
 refine andT ?_ jf22
 refine andT ?_ jf21
 refine andT ?_ jf20
 refine andT ?_ jf19
 refine andT ?_ jf18
 refine andT ?_ jf17
 refine andT ?_ jf16
 refine andT ?_ jf15
 refine andT ?_ jf14
 refine andT ?_ jf13
 refine andT ?_ jf12
 refine andT ?_ jf11
 refine andT ?_ jf10
 refine andT ?_ jf9
 refine andT ?_ jf8
 refine andT ?_ jf7
 refine andT ?_ jf6
 refine andT ?_ jf5
 refine andT ?_ jf4
 refine andT ?_ jf3
 refine andT ?_ jf2
 exact jf1
theorem named : Tryz.pinned.checked.prog.funcNamed Rows.feasibleLessUptoRow.func = some 7 := by kernel_rfl
end Go.Proofs.YtnffafjamiffnaaGreat.feasibleLess
