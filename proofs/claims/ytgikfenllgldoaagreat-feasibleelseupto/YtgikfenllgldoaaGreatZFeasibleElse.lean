/- The law FeasibleElse holds of the program (second form: what is handed in holds little enough): a pod that is not bound, or whose own name it is, changes nothing of why another one may not stand somewhere; the chapter's example comes out. Condition: none. -/
import Derived.Test.YtgikfenllgldoaaGreatRows
import Derived.Test.YtgikfenllgldoaaGreatQ53
import Derived.Test.YtgikfenllgldoaaGreatZJfElse
set_option linter.unusedSimpArgs false
set_option maxRecDepth 100000
set_option maxHeartbeats 32000000
namespace Go.Proofs.YtgikfenllgldoaaGreat.feasibleElse
open Go.Proofs.Tryz
open Go.ChangeShapes Go.WideShapes Go.ChangeAt Go.RowKit
theorem walk (c0:List Value) (y0:aP) (c1:List Value) (y1:aB) (c2:List Value) (y2:aB) (s3:ByteArray) (W:World) (h0:aK (fun _=>True) W c0 y0) (h1:aj (fun _=>True) W c1 y1) (h2:aj (fun _=>True) W c2 y2) (h3:s3.size<=140737488355328) (hm:rJ y0+oZ y1+oZ y2<=1048576):Calls prog 3 #[.agg c0.toArray,.agg c1.toArray,.agg c2.toArray,.string s3] W fun e w'=>e=.returned (.bool true)/\Below W.heap.size W w' :=
 Gz c0 y0 c1 y1 c2 y2 s3 W h0 h1 h2 h3 (by have h4:=He y0;have h5:=PR y1;have h6:=PR y2;omega)
theorem reads (os:Os) {H:Type} (enc:TypeId×Value->H):∃ places,DataW.whole enc prog ((World.holding prog os ⟨#[],#[],[]⟩).forCall (fun _ _=>0) ⟨#[],#[.agg #[.slice none 0 0,.slice none 0 0,.slice none 0 0,.slice none 0 0,.slice none 0 0,.slice none 0 0],.agg #[.string ByteArray.empty,.int .i64 0,.slice none 0 0,.int .i64 0,.int .i64 0,.int .i64 0,.slice none 0 0,.slice none 0 0,.slice none 0 0,.slice none 0 0,.slice none 0 0,.slice none 0 0,.slice none 0 0,.slice none 0 0,.string ByteArray.empty,.string ByteArray.empty],.agg #[.string ByteArray.empty,.int .i64 0,.slice none 0 0,.int .i64 0,.int .i64 0,.int .i64 0,.slice none 0 0,.slice none 0 0,.slice none 0 0,.slice none 0 0,.slice none 0 0,.slice none 0 0,.slice none 0 0,.slice none 0 0,.string ByteArray.empty,.string ByteArray.empty],.string ByteArray.empty],[]⟩).memory Tryz.f3.params.toList Rows.feasibleElseSpec.vars false #[(.agg #[.slice none 0 0,.slice none 0 0,.slice none 0 0,.slice none 0 0,.slice none 0 0,.slice none 0 0]:Value),(.agg #[.string ByteArray.empty,.int .i64 0,.slice none 0 0,.int .i64 0,.int .i64 0,.int .i64 0,.slice none 0 0,.slice none 0 0,.slice none 0 0,.slice none 0 0,.slice none 0 0,.slice none 0 0,.slice none 0 0,.slice none 0 0,.string ByteArray.empty,.string ByteArray.empty]:Value),(.agg #[.string ByteArray.empty,.int .i64 0,.slice none 0 0,.int .i64 0,.int .i64 0,.int .i64 0,.slice none 0 0,.slice none 0 0,.slice none 0 0,.slice none 0 0,.slice none 0 0,.slice none 0 0,.slice none 0 0,.slice none 0 0,.string ByteArray.empty,.string ByteArray.empty]:Value),(.string ByteArray.empty:Value)].toList 8=some ([.agg [.nil,.nil,.nil,.nil,.nil,.nil],.agg [.lit (.string []),.lit (.int .i64 0),.nil,.agg [.lit (.int .i64 0),.lit (.int .i64 0),.lit (.int .i64 0)],.nil,.nil,.nil,.nil,.nil,.nil,.nil,.nil,.lit (.string []),.lit (.string [])],.agg [.lit (.string []),.lit (.int .i64 0),.nil,.agg [.lit (.int .i64 0),.lit (.int .i64 0),.lit (.int .i64 0)],.nil,.nil,.nil,.nil,.nil,.nil,.nil,.nil,.lit (.string []),.lit (.string [])],.lit (.string [])],[],places) :=
 ⟨[],by kernel_rfl⟩
theorem Fu:∀ t∈Tryz.f3.params.toList,prog.readableRec t=true/\t<prog.types.size:=by
 rw [Tryz.params3]
 have hall:([29,41,41,9].all fun u=>prog.readableRec u && decide (u<prog.types.size))=true:=by kernel_rfl
 intro t ht
 simpa using List.all_eq_true.1 hall t (by simpa using ht)
theorem contract (H:Type) (enc:TypeId×Value->H) (W:World) (base:Nat) (args:Array Value) (ds gs:List (DataW H)) (before:List MemPlace)
  (hval:∀ (j:Nat) t v,Tryz.f3.params[j]?=some t->args[j]?=some v->Value.okWide prog W .any base t v)
  (hW:DataW.Whole enc prog Tryz.f3.params.toList Rows.feasibleElseSpec.vars false W args.toList ds gs before) (hsz:(DataW.weightsEach prog (Tryz.f3.params.toList++Rows.feasibleElseSpec.plain.varTypes prog) (ds++gs)).all (·<=reachBytes)=true) (hup:Rows.uptoBulkAll (ds++gs)<=1048576) :
  Calls prog 3 args W fun e W'=>∃ v,e=.returned v/\Rows.feasibleElseSpec.post enc prog Tryz.f3 false true false false W args v W':=by
 have hW':=hW
 obtain ⟨p,q,hA0,hV,rfl,hfz,hnd⟩:=hW
 have hA:DataW.TrodAll enc prog W 0 (fun _=>true) true Tryz.f3.params.toList args.toList ds p:=hA0
 rw [Tryz.params3] at hA hval
 obtain ⟨v0,vs0,d0,ds0,p0,q0,hargs,rfl,rfl,h0,r0⟩:=trodAll_cons hA
 obtain ⟨v1,vs1,d1,ds1,p1,q1,rfl,rfl,rfl,h1,r1⟩:=trodAll_cons r0
 obtain ⟨v2,vs2,d2,ds2,p2,q2,rfl,rfl,rfl,h2,r2⟩:=trodAll_cons r1
 obtain ⟨v3,vs3,d3,ds3,p3,q3,rfl,rfl,rfl,h3,r3⟩:=trodAll_cons r2
 obtain ⟨rfl,rfl,rfl⟩:=trodAll_nil r3
 obtain rfl:args=#[v0,v1,v2,v3]:=by cases args;simp_all
 obtain ⟨rfl,rfl⟩:=trodVars_none hV
 have l0:=LP hsz (j:=0) (t:=29) (by rw [Tryz.params3];rfl) rfl
 obtain ⟨cc0,y0,rfl,hy0,m0⟩:=Qj underlying29 zEE (hval 0 29 v0 rfl rfl) h0 l0
 obtain ⟨c0,rfl⟩:∃ c:List Value,cc0=c.toArray:=⟨cc0.toList,by simp⟩
 have m0:rJ y0<=Rows.uptoBulk d0:=m0
 have l1:=LP hsz (j:=1) (t:=41) (by rw [Tryz.params3];rfl) rfl
 obtain ⟨cc1,y1,rfl,hy1,m1⟩:=Qj underlying41 Qn (hval 1 41 v1 rfl rfl) h1 l1
 obtain ⟨c1,rfl⟩:∃ c:List Value,cc1=c.toArray:=⟨cc1.toList,by simp⟩
 have m1:oZ y1<=Rows.uptoBulk d1:=m1
 have l2:=LP hsz (j:=2) (t:=41) (by rw [Tryz.params3];rfl) rfl
 obtain ⟨cc2,y2,rfl,hy2,m2⟩:=Qj underlying41 Qn (hval 2 41 v2 rfl rfl) h2 l2
 obtain ⟨c2,rfl⟩:∃ c:List Value,cc2=c.toArray:=⟨cc2.toList,by simp⟩
 have m2:oZ y2<=Rows.uptoBulk d2:=m2
 have l3:=LP hsz (j:=3) (t:=9) (by rw [Tryz.params3];rfl) rfl
 obtain ⟨s3,rfl,rfl,rfl,w3⟩:=Go.ChangeMaps.open_string underlying9 (hval 3 9 v3 rfl rfl) h3
 have z3:s3.size<=140737488355328:=by have:=l3 s3.data.toList.length (by simp [DataW.weights]);simp at this;omega
 simp only [List.cons_append,List.nil_append,Rows.uptoBulkAll] at hup
 refine (walk c0 y0 c1 y1 c2 y2 s3 W hy0 hy1 hy2 z3 (by omega)).mono fun e W' ⟨he,hb⟩=>?_
 subst he
 exact ⟨_,rfl,Jl laidOut Fu rfl (tb:=4) (by kernel_rfl) underlying4 rfl hW' hb⟩
theorem lifted (os:Os) (started:os.Started) (H:Type) (enc:TypeId×Value->H) (F:Stop.Interp) :
  ReturnsInHanded {} Tryz.checked os 3 .any ((Rows.OpenSpec.upto Rows.feasibleElseSpec).preRow enc prog Tryz.f3 Rows.feasibleElseUptoRow.domain false Rows.feasibleElseUptoRow.laid) (((Rows.OpenSpec.upto Rows.feasibleElseSpec).at F).post enc prog Tryz.f3 false true false false):=by
 obtain ⟨places,hx⟩:=reads os enc
 refine returnsInHanded_of_row (C:=Tryz.checked) (s:=(Rows.OpenSpec.upto Rows.feasibleElseSpec)) own started (by kernel_rfl) func3
  (witness_row_at (enc:=enc) (C:=Tryz.checked) false (World.holding prog os ⟨#[],#[],[]⟩) #[.agg #[.slice none 0 0,.slice none 0 0,.slice none 0 0,.slice none 0 0,.slice none 0 0,.slice none 0 0],.agg #[.string ByteArray.empty,.int .i64 0,.slice none 0 0,.int .i64 0,.int .i64 0,.int .i64 0,.slice none 0 0,.slice none 0 0,.slice none 0 0,.slice none 0 0,.slice none 0 0,.slice none 0 0,.slice none 0 0,.slice none 0 0,.string ByteArray.empty,.string ByteArray.empty],.agg #[.string ByteArray.empty,.int .i64 0,.slice none 0 0,.int .i64 0,.int .i64 0,.int .i64 0,.slice none 0 0,.slice none 0 0,.slice none 0 0,.slice none 0 0,.slice none 0 0,.slice none 0 0,.slice none 0 0,.slice none 0 0,.string ByteArray.empty,.string ByteArray.empty],.string ByteArray.empty] rfl (by kernel_rfl) (by kernel_rfl) (by kernel_rfl)
   (OpenSpec.preRow_of_cond 8 hx (by kernel_rfl) (fun k hk=>by cases hk;rfl) (by kernel_rfl) ⟨[],rfl,List.Pairwise.nil,fun _ _ h=>by cases h⟩)) ?_
 intro W base args ds gs before hval hW _ hcond hsz _ _ _
 exact contract H enc W base args ds gs before hval hW hsz (of_decide_eq_true (hcond _ rfl))
theorem said:Rows.FeasibleElseUptoSaid :=
 OpenClaim.holds_of_cond 3 Tryz.f3 rfl rfl rfl rfl rfl rfl rfl ⟨rfl,rfl,rfl,rfl,rfl⟩ rfl rfl rfl rfl rfl named func3 closed
  (of_decide_eq_true (by kernel_rfl)) (by unfold Func.isWrapper;first | (rw [if_pos (by decide +kernel)];kernel_rfl) | (rw [if_neg (by decide +kernel)];exact ⟨rfl,rfl⟩))
  (fun os started H enc _ F=>by rw [OpenClaim.pre_eq_preRow];exact lifted os started H enc F)
end Go.Proofs.YtgikfenllgldoaaGreat.feasibleElse
namespace Go.Proofs.YtgikfenllgldoaaGreat
open Go.Proofs.Tryz
theorem feasibleElse_holds:Rows.FeasibleElseUptoSaid:=feasibleElse.said
end Go.Proofs.YtgikfenllgldoaaGreat
