/- The closed facts of the row of FeasibleElse, each by itself. Condition: none. -/
import Derived.Test.YtgikfenllgldoaaGreatRows
import Derived.Test.YtgikfenllgldoaaGreatChecked
import Derived.JoinedCond
set_option linter.unusedSimpArgs false
set_option maxRecDepth 100000
set_option maxHeartbeats 32000000
namespace Go.Proofs.YtgikfenllgldoaaGreat.feasibleElse
open Go.Proofs.Tryz
open Go.ChangeShapes Go.WideShapes Go.ChangeAt
theorem jf1:(Rows.feasibleElseUptoRow.wf (OpenSpec.ofChange ((Rows.OpenSpec.upto Rows.feasibleElseSpec).bare)))=true:=by kernel_rfl
theorem jf2:(laidOutB Tryz.pinned.checked.prog)=true:=by kernel_rfl
theorem jf3:(mapsRowed Tryz.pinned.checked.prog)=true:=by kernel_rfl
theorem jf4:(Tryz.f3.params.all (Tryz.pinned.checked.prog.readableRec ·))=true:=by kernel_rfl
theorem jf5:(namedTie Tryz.pinned.checked.prog Rows.feasibleElseUptoRow.named ((Rows.OpenSpec.upto Rows.feasibleElseSpec).bare).vars)=true:=by kernel_rfl
theorem jf6:((Rows.feasibleElseUptoRow.stops == []))=true:=by kernel_rfl
theorem jf7:((Tryz.pinned.checked.prog.stops == []))=true:=by kernel_rfl
theorem jf8:((Rows.feasibleElseUptoRow.knobs == []))=true:=by kernel_rfl
theorem jf9:((Tryz.pinned.checked.prog.stopKnobs == []))=true:=by kernel_rfl
theorem aaZ:((Rows.feasibleElseUptoRow.inPlace == Tryz.pinned.checked.prog.inPlace 3))=true:=by kernel_rfl
theorem aaY:((Rows.feasibleElseUptoRow.unfollowed == Tryz.pinned.checked.prog.unfollowed 3))=true:=by kernel_rfl
theorem aaX:((Rows.feasibleElseUptoRow.recurses == Tryz.pinned.checked.prog.recurses 3))=true:=by kernel_rfl
theorem aaW:((Rows.feasibleElseUptoRow.named == Tryz.pinned.checked.prog.varsNamed 3))=true:=by kernel_rfl
theorem aaV:((Rows.feasibleElseUptoRow.maps == (Tryz.f3.params.toList++((Rows.OpenSpec.upto Rows.feasibleElseSpec).bare).plain.varTypes Tryz.pinned.checked.prog).any (Tryz.pinned.checked.prog.mapsRec ·)))=true:=by kernel_rfl
theorem aaU:((Rows.feasibleElseUptoRow.ifaces == (Tryz.f3.params.toList++((Rows.OpenSpec.upto Rows.feasibleElseSpec).bare).plain.varTypes Tryz.pinned.checked.prog).any (Tryz.pinned.checked.prog.ifacesRec ·)))=true:=by kernel_rfl
theorem aaT:((Rows.feasibleElseUptoRow.mapsOut == Tryz.pinned.checked.prog.mapsAmong Tryz.f3.resultTypes.toList))=true:=by kernel_rfl
theorem aaS:((Rows.feasibleElseUptoRow.loops == (Tryz.f3.params.toList++((Rows.OpenSpec.upto Rows.feasibleElseSpec).bare).plain.varTypes Tryz.pinned.checked.prog).any (Tryz.pinned.checked.prog.loopsFrom ·)))=true:=by kernel_rfl
theorem aaR:((Rows.feasibleElseUptoRow.wideKeys == (Tryz.f3.params.toList++((Rows.OpenSpec.upto Rows.feasibleElseSpec).bare).plain.varTypes Tryz.pinned.checked.prog++Tryz.f3.resultTypes.toList).any (Tryz.pinned.checked.prog.wideKeysFrom ·)))=true:=by kernel_rfl
theorem aaQ:(((Rows.OpenSpec.upto Rows.feasibleElseSpec).bare).vars.all (Tryz.pinned.checked.prog.varReadable ·))=true:=by kernel_rfl
theorem aaP:(Tryz.f3.resultTypes.all (fun t=>Tryz.pinned.checked.prog.readableRec t && decide (t<Tryz.pinned.checked.prog.types.size)))=true:=by kernel_rfl
theorem aaO:((Rows.feasibleElseUptoRow.ifacesOut == Tryz.f3.resultTypes.toList.any (Tryz.pinned.checked.prog.ifacesRec ·)))=true:=by kernel_rfl
theorem aaN:((Rows.feasibleElseUptoRow.loopsOut == Tryz.f3.resultTypes.toList.any (Tryz.pinned.checked.prog.loopsFrom ·)))=true:=by kernel_rfl
theorem aaM:((Rows.feasibleElseUptoRow.plainKeys == Tryz.pinned.checked.prog.plainKeys))=true:=by kernel_rfl
theorem aaL:(Rows.feasibleElseUptoRow.shortTexts.isNone)=true:=by kernel_rfl
theorem aaK:(Tryz.pinned.checked.prog.stopsHeard)=true:=by kernel_rfl
theorem aaJ:(Tryz.pinned.checked.prog.mayEnter)=true:=by kernel_rfl
theorem aaI:((Rows.feasibleElseUptoRow.lifted == Tryz.pinned.checked.prog.liftsFinal))=true:=by kernel_rfl
theorem aaH:((Tryz.pinned.checked.prog.make == some Rows.feasibleElseUptoRow.make))=true:=by kernel_rfl
theorem aaG:((Rows.feasibleElseUptoRow.kinds == (if Rows.feasibleElseUptoRow.domain.isEmpty then [] else Tryz.f3.params.toList.map fun t=>match Tryz.pinned.checked.prog.underlying t with | some (.int k)=>some k | _=>none)))=true:=by kernel_rfl
theorem aaF:((Rows.feasibleElseUptoRow.pinned == Rows.feasibleElseUptoRow.pinnedBy))=true:=by kernel_rfl
theorem aaE:((Rows.feasibleElseUptoRow.veiled == (Tryz.f3.params.toList++((Rows.OpenSpec.upto Rows.feasibleElseSpec).bare).plain.varTypes Tryz.pinned.checked.prog++Tryz.f3.resultTypes.toList).any (Tryz.pinned.checked.prog.veiledRec ·)))=true:=by kernel_rfl
theorem aaD:(Rows.feasibleElseUptoRow.veiledFits Tryz.pinned.checked.prog Tryz.f3.params.toList (Tryz.f3.params.toList++((Rows.OpenSpec.upto Rows.feasibleElseSpec).bare).plain.varTypes Tryz.pinned.checked.prog++Tryz.f3.resultTypes.toList))=true:=by kernel_rfl
theorem gm {a b:Bool} (h:a=true) (k:b=true):(a && b)=true:=by rw [h,k];rfl
theorem closed:joinedFacts Tryz.pinned.checked.prog 3 Tryz.f3 ((Rows.OpenSpec.upto Rows.feasibleElseSpec).bare) Rows.feasibleElseUptoRow=true:=by
 unfold joinedFacts
 refine gm ?_ aaD
 refine gm ?_ aaE
 refine gm ?_ aaF
 refine gm ?_ aaG
 refine gm ?_ aaH
 refine gm ?_ aaI
 refine gm ?_ aaJ
 refine gm ?_ aaK
 refine gm ?_ aaL
 refine gm ?_ aaM
 refine gm ?_ aaN
 refine gm ?_ aaO
 refine gm ?_ aaP
 refine gm ?_ aaQ
 refine gm ?_ aaR
 refine gm ?_ aaS
 refine gm ?_ aaT
 refine gm ?_ aaU
 refine gm ?_ aaV
 refine gm ?_ aaW
 refine gm ?_ aaX
 refine gm ?_ aaY
 refine gm ?_ aaZ
 refine gm ?_ jf9
 refine gm ?_ jf8
 refine gm ?_ jf7
 refine gm ?_ jf6
 refine gm ?_ jf5
 refine gm ?_ jf4
 refine gm ?_ jf3
 refine gm ?_ jf2
 exact jf1
theorem named:Tryz.pinned.checked.prog.funcNamed Rows.feasibleElseUptoRow.func=some 3:=by kernel_rfl
end Go.Proofs.YtgikfenllgldoaaGreat.feasibleElse
