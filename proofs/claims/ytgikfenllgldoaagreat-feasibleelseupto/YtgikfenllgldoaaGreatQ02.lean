/- Functions of the program, each walked under the conditions that its theorem names. -/
import Derived.StillTail
import Derived.WalkLawsBesides
import Derived.Lib.ItoaNum
import Derived.Lib.OwnBridge
import Derived.Lib.AppendIntMem
import Derived.OrdersIn
import Derived.TacticsIn
import Derived.RangeFuncCalls
import Derived.Deep.Slices
import Derived.Deep.Strs
import Derived.SizedLaws
import Derived.Maps.AppendAt
import Derived.Deep.QuietTactic
import Derived.BigQuiet
import Derived.BigRegion
import Derived.Deep.RegionHeld3
import Derived.Deep.DeepCutAuto
import Derived.Outline
import Derived.Handy
import Derived.Test.YtgikfenllgldoaaGreatQ01
set_option linter.unusedSimpArgs false
set_option maxRecDepth 100000
set_option maxHeartbeats 32000000
namespace Go.Proofs.YtgikfenllgldoaaGreat
open Go.Proofs.Tryz
open Go.RowKit
section
variable {P:Program} {md:Region.Mode} {ops:Array Oper} {Q:Exit->Act->World->Prop} {S:World->Prop} {oi:Oper} {d n fuel:Nat} {listed:Array Bool} {a:Act} {w:World}
def um (P:Program) (md:Region.Mode) (ops:Array Oper) (Q:Exit->Act->World->Prop) (S:World->Prop) (n:Nat):Nat->Array Bool->Act->World->Prop
 | 0,listed,a,w=>Region.ready md ops listed=[]/\Q .normal a w
 | fuel+1,listed,a,w =>
  (Region.ready md ops listed=[]->Q .normal a w) /\
  ∀ i∈Region.ready md ops listed,wpOp P ops Q i (fun a' w'=>(i<n->S w')/\um P md ops Q S n fuel (listed.setIfInBounds i true) a' w') a w
theorem X8:∀ (fuel:Nat) (listed:Array Bool) (a:Act) (w:World),um P md ops Q S n fuel listed a w->wpAny P md ops Q fuel listed a w
 | 0,_,_,_,h=>h
 | fuel+1,_,_,_,h=>⟨h.1,fun i hi=>wpOp_mono (fun a' w' h'=>X8 fuel _ a' w' h'.2) (h.2 i hi)⟩
theorem zFW {i:Nat} {v:Value} (hi:ops[i]?=some oi) (hsel:∀ (j:Nat) (o:Oper) cs b,ops[j]?=some o->o.op≠.select cs b)
  (hQ:∀ c a w,Q (.panic c) (a.put oi.dst v) w->Q (.panic c) a w)
  (hs:Region.sinkB md ops n=true) (hc:Region.chainB md ops n=true) (hn:n<ops.size) (hin:i<n) :
  ∀ (fuel:Nat) (listed:Array Bool) (a:Act) (w:World),HeadInv md ops n listed ->
   (∀ j oj,ops[j]?=some oj->j≠i->listed.getD j true=false->(∀ e∈oj.after,Region.binds md e=true->e.on≠i)->oi.apart ops oj=true) ->
   i∈Region.ready md ops listed->YieldsIf P ops S oi v a->S w ->
   um P md ops Q S n fuel (listed.setIfInBounds i true) (a.put oi.dst v) w->um P md ops Q S n (fuel+1) listed a w:=by
 intro fuel
 induction fuel with
 | zero =>
  intro listed a w _ _ hr hy hS H
  refine ⟨fun h=>(by rw [h] at hr;cases hr),fun j hj=>?_⟩
  by_cases hji:j=i
  ·subst hji;exact hy.wpOp hi hS ⟨fun _=>hS,H⟩
  ·have:=ready_mono hj hji
   rw [H.1] at this
   cases this
 | succ fuel ih =>
  intro listed a w inv hfree hr hy hS H
  have hun:=(mem_ready.1 hr).1
  refine ⟨fun h=>(by rw [h] at hr;cases hr),fun j hj=>?_⟩
  have hjn:j<n:=by
   rcases Nat.lt_or_ge j n with h | h
   ·exact h
   ·exact absurd hj (tail_waits hs hc hn inv _ i rfl hin hun j h)
  by_cases hji:j=i
  ·subst hji;exact hy.wpOp hi hS ⟨fun _=>hS,H⟩
  ·have h1:=H.2 j (ready_mono hj hji)
   obtain ⟨hjun,oj,hoj,hall⟩:=mem_ready.1 hj
   have hnot:∀ e∈oj.after,Region.binds md e=true->e.on≠i:=fun e he hb heq=>by
    have h1:=hall e he hb
    rw [heq,getD_both hun] at h1
    cases h1
   have h2:=wpOp_putIf hoj (hfree j oj hoj hji hjun hnot) (fun cs b=>hsel i oi cs b hi) (fun cs b=>hsel j oj cs b hoj) hQ hy h1
   have hfree':∀ k ok,ops[k]?=some ok->k≠i->(listed.setIfInBounds j true).getD k true=false ->
     (∀ e∈ok.after,Region.binds md e=true->e.on≠i)->oi.apart ops ok=true:=fun k ok hk hki hun hno=>by
    refine hfree k ok hk hki ?_ hno
    by_cases hjk:j=k
    ·subst hjk;exact hjun
    ·rw [getD_set_ne true hjk] at hun;exact hun
   refine wpOp_mono (fun a' w' h3=>⟨h3.2.1,ih (listed.setIfInBounds j true) a' w' (inv.set hj hjn) hfree' (ready_mono hr (Ne.symm hji)) h3.1 (h3.2.1 hjn) ?_⟩) h2
   rw [Array.setIfInBounds_comm _ _ hji]
   exact h3.2.2
def wN (P:Program) (md:Region.Mode) (ops:Array Oper) (Q:Exit->Act->World->Prop) (S:World->Prop) (n fuel:Nat) (listed:Array Bool) (a:Act) (w:World):Prop :=
 Region.sinkB md ops n=true->Region.chainB md ops n=true->n<ops.size->HeadInv md ops n listed->um P md ops Q S n fuel listed a w
theorem uq (i:Nat) (v:Value) (hy:YieldsIf P ops S oi v a) (h:wN P md ops (NoPanic Q) S n fuel (listed.setIfInBounds i true) (a.put (some d) v) w)
  (hi:ops[i]?=some oi:=by rfl) (hd:oi.dst=some d:=by rfl) (hb:(decide (i<n) && (Region.noSelect ops && (Region.free md ops listed i && (Region.ready md ops listed).contains i)))=true:=by kernel_rfl) (hS:S w:=by assumption):wN P md ops (NoPanic Q) S n (fuel+1) listed a w:=by
 intro hs hc hn inv
 simp only [Bool.and_eq_true,decide_eq_true_eq] at hb
 obtain ⟨b1,b2,b3,b4⟩:=hb
 have hr:i∈Region.ready md ops listed:=by simpa using b4
 exact zFW hi (Region.noSelect_spec b2) (fun _ _ _ h=>h) hs hc hn b1 fuel listed a w inv (Region.free_spec hi b3) hr hy hS (hd ▸ h hs hc hn (inv.set hr b1))
theorem uk (i:Nat) {v:Value} (hy:∀ u,S u->(execOp a.eval oi).run P u=.ok (.value v) u) (h:wN P md ops (NoPanic Q) S n fuel (listed.setIfInBounds i true) (a.put (some d) v) w)
  (hi:ops[i]?=some oi:=by rfl) (hd:oi.dst=some d:=by rfl) (hb:(decide (i<n) && (Region.noSelect ops && (Region.free md ops listed i && (Region.ready md ops listed).contains i)))=true:=by kernel_rfl) (hw:Region.wanted oi (yielded ops a.tmps)=true:=by rfl) (hS:S w:=by assumption):wN P md ops (NoPanic Q) S n (fuel+1) listed a w :=
 uq i v (.inl ⟨hw,hy⟩) h hi hd hb hS
theorem ur (i:Nat) (h:∀ K':Act->World->Prop,Shut (∀ v w,S w->(S w->wN P md ops Q S n fuel (listed.setIfInBounds i true) (a.put (some d) v) w)->K' (a.put oi.dst v) w)->if Region.wanted oi (yielded ops a.tmps)=true then Oper.wp P oi a w K' Q else K' (a.put oi.dst undef) w)
  (hi:ops[i]?=some oi:=by rfl) (hd:oi.dst=some d:=by rfl) (hr:Region.ready md ops listed=[i]:=by kernel_rfl) (hin:i<n:=by decide):wN P md ops Q S n (fuel+1) listed a w:=by
 intro hs hc hn inv
 have hir:i∈Region.ready md ops listed:=by rw [hr];simp
 refine ⟨fun h0=>(by rw [hr] at h0;cases h0),fun j hj=>?_⟩
 obtain rfl:j=i:=by rw [hr] at hj;simpa using hj
 exact wpOp_step hi (fun K' hK=>h K' (fun v w h1 h2=>hK _ w ⟨fun _=>h1,hd ▸ h2 h1 hs hc hn (inv.set hir hin)⟩))
theorem uz (i:Nat) (h:∀ K':Act->World->Prop,Shut (∀ w,Q .normal a w->K' a w)->if Region.wanted oi (yielded ops a.tmps)=true then Oper.wp P oi a w K' Q else K' (a.put oi.dst undef) w)
  (hi:ops[i]?=some oi:=by rfl) (hr:Region.ready md ops listed=[i]:=by kernel_rfl) (hr':Region.ready md ops (listed.setIfInBounds i true)=[]:=by kernel_rfl) (hin:n<=i:=by decide):wN P md ops Q S n (fuel+1) listed a w:=by
 intro _ _ _ _
 refine ⟨fun h0=>(by rw [hr] at h0;cases h0),fun j hj=>?_⟩
 obtain rfl:j=i:=by rw [hr] at hj;simpa using hj
 refine wpOp_step hi (fun K' hK=>h K' (fun w h1=>hK _ w ⟨fun h2=>absurd h2 (by omega),?_⟩))
 cases fuel with
 | zero=>exact ⟨hr',h1⟩
 | succ f=>exact ⟨fun _=>h1,by rw [hr'];simp⟩
theorem tb (i j:Nat) {oj:Oper} {e:Nat} (h:∀ K':Act->World->Prop,Shut (∀ v w,S w->(S w->wpAnyH P md ops Q S fuel (listed.setIfInBounds i true) (a.put (some d) v) w)->K' (a.put oi.dst v) w)->if Region.wanted oi (yielded ops a.tmps)=true then Oper.wp P oi a w K' Q else K' (a.put oi.dst undef) w)
  (h':∀ K':Act->World->Prop,Shut (∀ v w,S w->(S w->wpAnyH P md ops Q S fuel (listed.setIfInBounds j true) (a.put (some e) v) w)->K' (a.put oj.dst v) w)->if Region.wanted oj (yielded ops a.tmps)=true then Oper.wp P oj a w K' Q else K' (a.put oj.dst undef) w)
  (hi:ops[i]?=some oi:=by rfl) (hd:oi.dst=some d:=by rfl) (hj:ops[j]?=some oj:=by rfl) (he:oj.dst=some e:=by rfl) (hr:Region.ready md ops listed=[i,j]:=by kernel_rfl):wpAnyH P md ops Q S (fuel+1) listed a w :=
 wpAnyH_ready hr (by simp) (AllReadyH.cons hi (fun K' hK=>h K' (fun v w h1 h2=>hK.out _ w h1 (fun h3=>hd ▸ h2 h3))) (AllReadyH.cons hj (fun K' hK=>h' K' (fun v w h1 h2=>hK.out _ w h1 (fun h3=>he ▸ h2 h3))) AllReadyH.nil))
theorem u0 (n:Nat) (S:World->Prop) {id:Nat} (hS:S w.drew) (h:S w.drew->wN P .any ops (NoPanic Q) S n ops.size (Array.replicate ops.size false) a w.drew)
  (hm:P.follows .mixedOrders=true:=by kernel_rfl) (hb:(Region.sinkB .any ops n && (Region.chainB .any ops n && decide (n<ops.size)))=true:=by kernel_rfl):(Code.region id ops true).wp P Q a w:=by
 simp only [Bool.and_eq_true,decide_eq_true_eq] at hb
 refine wp_region_noPanic (wp_region_any hm (X8 (S:=S) (n:=n) _ _ _ _ (h hS hb.1 hb.2.1 hb.2.2 ⟨by simp,fun j oj _ hl=>?_,fun t _ ht=>by simp [ht]⟩)))
 rw [getD_replicate_false] at hl
 cases hl
end
theorem PQ {k:IntKind} {a b:Int} (h:a=b):Ending.returned (.int k a)=.returned (.int k b):=by rw [h]
theorem YI (a:Int) (w:World):Calls prog 146 #[.int .i64 a] w fun e w'=>e=.returned (.int .i64 (aQ a))/\w'=w:=by
 go_enter func146,ntmps146
 go_wp2
 all_goals (go_ret;exact ⟨PQ (by unfold aQ;omega),rfl⟩)
theorem Hw (a b:Int) (w:World):Calls prog 125 #[.int .i64 a,.int .i64 b] w fun e w'=>e=.returned (.int .i64 (dX a b))/\w'=w:=by
 have h1:=EA a;have h2:=EA b;have h3:=Ez a;have h4:=Ez b
 go_enter func125,ntmps125
 go_wp2_with (go_at_call 146;refine (YI _ _).mono ?_;rintro e w' ⟨rfl,rfl⟩)
 go_ret
 exact ⟨rfl,rfl⟩
theorem EM (a b:Int) (w:World):Calls prog 191 #[.int .i64 a,.int .i64 b] w fun e w'=>e=.returned (.int .i64 (jL a b))/\w'=w:=by
 have h1:=EA a;have h2:=EA b;have h3:=Ez a;have h4:=Ez b
 go_enter func191,ntmps191
 go_wp2_with (go_at_call 146;refine (YI _ _).mono ?_;rintro e w' ⟨rfl,rfl⟩)
 go_ret
 exact ⟨rfl,rfl⟩
end Go.Proofs.YtgikfenllgldoaaGreat
namespace Go.Proofs.YtgikfenllgldoaaGreat
open Go.Proofs.Tryz
theorem xM (a b:UInt8) (xs ys:List UInt8):(a.toNat<b.toNat/\Lib.compareBytes (a :: xs) (b :: ys)=-1)\/(b.toNat<a.toNat/\Lib.compareBytes (a :: xs) (b :: ys)=1)\/(a.toNat=b.toNat/\Lib.compareBytes (a :: xs) (b :: ys)=Lib.compareBytes xs ys):=by
 simp only [Lib.compareBytes]
 by_cases h1:a<b
 ·exact .inl ⟨h1,by rw [if_pos h1]⟩
 ·by_cases h2:b<a
  ·exact .inr (.inl ⟨h2,by rw [if_neg h1,if_pos h2]⟩)
  ·have h1':¬ a.toNat<b.toNat:=h1
   have h2':¬ b.toNat<a.toNat:=h2
   exact .inr (.inr ⟨by omega,by rw [if_neg h1,if_neg h2]⟩)
theorem Cr:∀ (a b:List UInt8),(Lib.compareBytes a b<0)↔Op.bytesLess a b=true
 | [],[]=>by simp [Lib.compareBytes,Op.bytesLess]
 | [],_ :: _=>by simp [Lib.compareBytes,Op.bytesLess]
 | _ :: _,[]=>by simp [Lib.compareBytes,Op.bytesLess]
 | a :: xs,b :: ys=>by
  have ih:=Cr xs ys
  rcases xM a b xs ys with ⟨h,e⟩ | ⟨h,e⟩ | ⟨h,e⟩ <;> rw [e] <;> simp only [Op.bytesLess,Bool.or_eq_true,Bool.and_eq_true,decide_eq_true_eq,beq_iff_eq]
  ·have:a<b:=h
   simp [this]
  ·have h1:¬ a<b:=fun x=>by have:a.toNat<b.toNat:=x;omega
   have h2:¬ a=b:=fun x=>by rw [x] at h;omega
   simp [h1,h2]
  ·have h1:¬ a<b:=fun x=>by have:a.toNat<b.toNat:=x;omega
   have h2:a=b:=UInt8.toNat_inj.1 h
   simp [h1,h2,ih]
theorem AZ:∀ a:List UInt8,Lib.compareBytes a a=0
 | []=>rfl
 | a :: xs=>by rcases xM a a xs xs with ⟨h,_⟩ | ⟨h,_⟩ | ⟨_,e⟩;omega;omega;rw [e];exact AZ xs
theorem Xw:∀ (a b c:List UInt8),Lib.compareBytes a b<0->Lib.compareBytes b c<0->Lib.compareBytes a c<0
 | [],[],_,h,_=>by simp [Lib.compareBytes] at h
 | _ :: _,[],_,h,_=>by simp [Lib.compareBytes] at h
 | _,_ :: _,[],_,h=>by simp [Lib.compareBytes] at h
 | [],_ :: _,_ :: _,_,_=>by simp [Lib.compareBytes]
 | a :: xs,b :: ys,c :: zs,h1,h2=>by
  rcases xM a b xs ys with ⟨p,e⟩ | ⟨p,e⟩ | ⟨p,e⟩ <;> rw [e] at h1 <;> rcases xM b c ys zs with ⟨q,f⟩ | ⟨q,f⟩ | ⟨q,f⟩ <;> rw [f] at h2 <;> rcases xM a c xs zs with ⟨r,g⟩ | ⟨r,g⟩ | ⟨r,g⟩ <;> rw [g] <;> first | omega | exact Xw xs ys zs h1 h2
theorem uh (a b:ByteArray):dh a b=true↔Lib.compareBytes a.data.toList b.data.toList<0:=by
 unfold dh
 rw [ByteArray.toList_eq,ByteArray.toList_eq]
 exact (Cr _ _).symm
theorem Ev (a b:ByteArray):dh a b=false↔¬ Lib.compareBytes a.data.toList b.data.toList<0:=by
 rw [<- uh];simp
theorem XE {a b c:ByteArray} (h1:dh a b=true) (h2:dh b c=true):dh a c=true:=by
 rw [uh] at *;exact Xw _ _ _ h1 h2
theorem Ed:∀ a b:List UInt8,(Lib.compareBytes a b<0/\0<Lib.compareBytes b a)\/(Lib.compareBytes a b=0/\a=b)\/(0<Lib.compareBytes a b/\Lib.compareBytes b a<0)
 | [],[]=>.inr (.inl ⟨rfl,rfl⟩)
 | [],_ :: _=>.inl ⟨by simp [Lib.compareBytes],by simp [Lib.compareBytes]⟩
 | _ :: _,[]=>.inr (.inr ⟨by simp [Lib.compareBytes],by simp [Lib.compareBytes]⟩)
 | a :: xs,b :: ys=>by
  have ih:=Ed xs ys
  rcases xM a b xs ys with ⟨h,e⟩ | ⟨h,e⟩ | ⟨h,e⟩ <;> rcases xM b a ys xs with ⟨h',e'⟩ | ⟨h',e'⟩ | ⟨h',e'⟩ <;> rw [e,e'] <;> first | omega | skip
  have:a=b:=UInt8.toNat_inj.1 h
  subst this
  rcases ih with h | ⟨h1,h2⟩ | h
  ·exact .inl h
  ·exact .inr (.inl ⟨h1,by rw [h2]⟩)
  ·exact .inr (.inr h)
theorem ab4 (a b:ByteArray):(!(Op.bytesLess a.toList b.toList || a.toList == b.toList))=dh b a:=by
 have h1:Op.bytesLess a.toList b.toList=dh a b:=rfl
 have h2:(a.toList == b.toList)=ay a b:=rfl
 rw [h1,h2]
 rcases Ed a.data.toList b.data.toList with ⟨h,h'⟩ | ⟨h,h'⟩ | ⟨h,h'⟩
 ·rw [(uh a b).2 h,(Ev b a).2 (by omega)];rfl
 ·obtain rfl:a=b:=by obtain ⟨⟨a⟩⟩:=a;obtain ⟨⟨b⟩⟩:=b;simp_all
  rw [LF,(Ev a a).2 (by rw [AZ];omega)];simp
 ·rw [(Ev a b).2 (by omega),(uh b a).2 h',XF (fun e=>by rw [e] at h';rw [AZ] at h';omega)];rfl
theorem ET {a b:ByteArray} (h:dh a b=true):dh b a=false:=by
 rw [Ev];rw [uh] at h
 rcases Ed a.data.toList b.data.toList with ⟨_,h'⟩ | ⟨h',_⟩ | ⟨h',_⟩ <;> omega
end Go.Proofs.YtgikfenllgldoaaGreat
namespace Go.Proofs.YtgikfenllgldoaaGreat
open Go.Proofs.Tryz
open Go.RowKit
theorem lC {a b:Bool} (h:a=b):Ending.returned (.bool a)=.returned (.bool b):=by rw [h]
theorem Bd (c:UInt8):iM c=true↔48<=c.toNat/\c.toNat<=57:=by simp [iM]
theorem Xl {c:UInt8} (h:¬(48<=c.toNat/\c.toNat<=57)):iM c=false:=by
 cases e:iM c
 ·rfl
 ·exact absurd ((Bd c).1 e) h
theorem zE7 (c:UInt8) (w:World):Calls prog 224 #[.int .u8 (c.toNat:Int)] w fun e w'=>e=.returned (.bool (iM c))/\w'=w:=by
 by_cases h1:(48:Int)<=(c.toNat:Int)
 ·by_cases h2:(c.toNat:Int)<=57
  ·have HF:Hid (iM c=true):=(Bd c).2 ⟨by omega,by omega⟩
   go_enter func224,ntmps224
   go_wp2
   go_ret
   exact ⟨lC HF.out.symm,rfl⟩
  ·have HF:Hid (iM c=false):=Xl (by omega)
   go_enter func224,ntmps224
   go_wp2
   go_ret
   exact ⟨lC HF.out.symm,rfl⟩
 ·have HF:Hid (iM c=false):=Xl (by omega)
  go_enter func224,ntmps224
  go_wp2
  go_ret
  exact ⟨lC HF.out.symm,rfl⟩
section
variable {P:Program} {md:Region.Mode} {ops:Array Oper} {Q:Exit->Act->World->Prop} {S:World->Prop} {l n:Nat}
theorem YJ {f:FuncId} {args:Array Value} {w:World} {R:Ending->World->Prop} (h:Calls P f args w R):CallsIn (Fence.wide.inRound l) n P f args w R :=
 CallsIn.inRound l (callsIn_wide.2 h)
theorem zHg {row:String} {args:Array Value} {w:World} {R:Value->World->Prop} (h:Rows P row args w R):RowsIn (Fence.wide.inRound l) n P row args w R :=
 fun c cs _=>let ⟨v,w',r,s⟩:=h c cs;⟨v,w',r,stepsIn_wide.2 s⟩
theorem zHY {o:Oper} {a:Act} {w:World} {K:Act->World->Prop} (hd:∀ c,o.op≠.defer c) (h:o.wp P a w K Q):o.wpIn (Fence.wide.inRound l) n P a w K Q:=by
 refine ⟨fun _ _=>trivial,?_⟩
 rw [Oper.semAt_eq _ _ _ hd]
 unfold Oper.wp at h
 generalize (execOp a.eval o).run P w=r at h
 have hn:(Fence.wide.inRound l).depth.isSome=true->1<=n:=fun h=>by simp [Fence.wide] at h
 cases r with
 | ok x w' =>
  cases x <;> simp only [Oper.upon,Oper.uponIn] at h |- <;>
   first
    | exact h
    | exact ⟨hn,YJ h⟩
    | exact ⟨hn,zHg h⟩
    | exact h.elim
 | halt x w'=>cases x <;> simp only [Oper.upon,Oper.uponIn] at h |- <;> exact h
theorem Ja {i:Nat} {a:Act} {w:World} {K:Act->World->Prop} (hL:¬ LetsOut Q) (hd:∀ o∈ops,∀ c,o.op≠.defer c) (h:wpOp P ops Q i K a w):wpOpIn (Fence.wide.inRound l) n P ops Q i K a w:=by
 unfold wpOp at h
 unfold wpOpIn
 split
 ·rename_i ho;simpa [ho] using h
 ·rename_i o ho
  simp only [ho] at h
  split
  ·rename_i hw;simp only [hw,if_true] at h
   exact zHY (hd o (Array.mem_of_getElem? ho)) (h.resolve_right fun x=>hL x.2)
  ·rename_i hw;simp only [hw] at h
   exact ⟨fun _ _=>trivial,h⟩
theorem X4 (hL:¬ LetsOut Q) (hd:∀ o∈ops,∀ c,o.op≠.defer c):∀ (fuel:Nat) (listed:Array Bool) (a:Act) (w:World),wpAny P md ops Q fuel listed a w->wpAnyIn (Fence.wide.inRound l) n P md ops Q fuel listed a w
 | 0,_,_,_,h=>h
 | fuel+1,_,_,_,h=>⟨h.1,fun i hi=>wpOpIn_mono (fun a' w' h'=>X4 hL hd fuel _ a' w' h') (Ja hL hd (h.2 i hi))⟩
def BP (ops:Array Oper):Bool:=ops.all fun o=>match o.op with | .defer _=>false | _=>true
theorem zHU (h:BP ops=true):∀ o∈ops,∀ c,o.op≠.defer c:=by
 intro o ho c hc
 have:=Array.all_eq_true_iff_forall_mem.1 h o ho
 rw [hc] at this
 exact absurd this (by simp)
theorem zDC (hL:¬ LetsOut Q):¬ LetsOut (NoPanic Q):=by
 rintro ⟨a,w,h⟩
 exact hL ⟨a,w,h⟩
theorem t0R {id:Nat} {a:Act} {w:World} (S:World->Prop) (hL:¬ LetsOut Q) (hS:S w.drew) (h:S w.drew->wpAnyH P .any ops (NoPanic Q) S ops.size (Array.replicate ops.size false) a w.drew) (hm:P.follows .mixedOrders=true:=by kernel_rfl) (hd:BP ops=true:=by kernel_rfl):(Code.region id ops true).wpIn (Fence.wide.inRound l) n P Q a w:=by
 refine wpIn_mono (Q:=NoPanic Q) (wpIn_region_any hm (X4 (zDC hL) (zHU hd) _ _ _ _ (wpAny_of_held _ _ _ _ (h hS)))) NoPanic.imp
end
end Go.Proofs.YtgikfenllgldoaaGreat
namespace Go.Proofs.YtgikfenllgldoaaGreat
open Go.Proofs.Tryz
open Go.ChangeShapes Go.WideShapes Go.ChangeAt Go.RowKit
def Light {H:Type} (d:DataW H) (t:TypeId):Prop:=∀ n∈d.weights prog t,n<=140737488351232
theorem XP {H:Type} {e:TypeId}:∀ {ds:List (DataW H)} {d:DataW H},d∈ds->(∀ n∈DataW.weightsAll prog e ds,n<=140737488351232)->Light d e
 | [],_,h,_=>by simp at h
 | x :: ds,d,h,hw=>by
  rcases List.mem_cons.1 h with rfl | h
  ·intro n hn;exact hw n (by simp [DataW.weightsAll,hn])
  ·exact XP h (fun n hn=>hw n (by simp [DataW.weightsAll,hn]))
theorem YC {H:Type} {t e:TypeId} {elems spare:List (DataW H)} (hu:prog.underlying t=some (.slice e)) (h:Light (.slice elems spare) t):elems.length*prog.bytesOf e<=140737488351232/\∀ d∈elems,Light d e:=by
 unfold Light at h
 simp only [DataW.weights,hu,List.mem_cons,List.mem_append] at h
 refine ⟨?_,fun d hd=>XP hd (fun n hn=>h n (.inr (.inl hn)))⟩
 have:=h _ (.inl rfl)
 rw [Nat.add_mul] at this
 omega
theorem YR {H:Type} {t:TypeId} {fs:Array Field} {parts:List (DataW H)} (hu:prog.underlying t=some (.struct fs)) (h:Light (.agg parts) t) {j:Nat} {tj:TypeId} {d:DataW H} (ht:(fs.toList.map (·.type))[j]?=some tj) (hd:parts[j]?=some d):Light d tj:=by
 intro n hn
 refine h n ?_
 simp only [DataW.weights,hu]
 exact DataW.weights_mem_each ht hd n hn
theorem LP {H:Type} {ts:List TypeId} {ds:List (DataW H)} (h:(DataW.weightsEach prog ts ds).all (·<=reachBytes)=true) {j:Nat} {t:TypeId} {d:DataW H} (ht:ts[j]?=some t) (hd:ds[j]?=some d):Light d t:=by
 intro n hn
 have:=List.all_eq_true.1 h _ (DataW.weights_mem_each ht hd n hn)
 have hre:reachBytes=140737488351232:=by decide
 rw [hre] at this
 simpa using this
section
variable {H:Type} {enc:TypeId×Value->H} {W:World} {base n:Nat} {sp:Nat->Bool} {held:Bool}
theorem Cv {B off:Nat} {spot:Option _} {v:Value} (h:W.cell? ⟨B,off,spot⟩=some v):B<W.heap.size:=by
 rcases Nat.lt_or_ge B W.heap.size with h2 | h2
 ·exact h2
 ·simp [World.cell?,Array.getElem?_eq_none h2] at h
theorem Yl {α:Type} [Inhabited α] (f:Nat->α) (len i:Nat) (h:i<len):((List.range len).map f).getD i default=f i:=by
 rw [gK _ _ (by simpa using h)];simp
end
end Go.Proofs.YtgikfenllgldoaaGreat
namespace Go.Proofs.YtgikfenllgldoaaGreat
open Go.Proofs.Tryz
open Go.RowKit
def az (w:World):Where:=fun b=>w.heap.size<=b
theorem az.not {w:World} {D:Nat} (h:D<w.heap.size):¬ az w D:=fun k=>absurd h (Nat.not_lt.2 k)
theorem PY (i l k j:Nat) (h:l<=i):i*k+j - l*k=(i - l)*k+j:=by
 have:l*k<=i*k:=Nat.mul_le_mul_right k h
 rw [Nat.sub_mul]
 omega
section
variable {α:Type} [Inhabited α] {R:bI α} {k:Nat}
def Row (R:bI α) (k:Nat) (A:Where) (w0 u:World) (e:TypeId) (v:Value) (L:List α):Prop :=
 ∃ xs,Own w0 u e k v L.length xs/\aW R k (fun b=>A b/\v.ownBlock≠some b) u xs L
theorem Row.below {A:Where} {w0 u:World} {e:TypeId} {v:Value} {L:List α} (h:Row R k A w0 u e v L):Below w0.heap.size w0 u:=by
 obtain ⟨xs,h,_⟩:=h;exact h.1
theorem Row.nil (A:Where) (w:World) (e:TypeId):Row R k A w w e (.slice none 0 0) []:=⟨[],⟨Below.refl _ _,by simp,.inl ⟨rfl,rfl⟩⟩,aW.nil _ _⟩
theorem Row.start (A:Where) (w u:World) (e:TypeId) (hb:Below w.heap.size w u):Row R k A w (u.alloc (.cells #[] e)) e (.slice (some ⟨u.heap.size,0,none⟩) 0 0) [] :=
 ⟨[],Own.start w u e k hb,aW.nil _ _⟩
theorem Row.on (hR:aJ R k) {A:Where} {w0 u u':World} {e:TypeId} {v:Value} {L:List α} (h:Row R k A w0 u e v L) (hb:Below u.heap.size u u'):Row R k A w0 u' e v L:=by
 obtain ⟨xs,h1,h2⟩:=h
 exact ⟨xs,h1.on hb,h2.kept hR (Kept.below hb)⟩
theorem Row.from {A A':Where} (hR:aJ R k) {w0 w1 u:World} {e:TypeId} {v:Value} {L:List α} (h:Row R k A w1 u e v L) (hb:Below w0.heap.size w0 w1) (hA:∀ b,A b->A' b):Row R k A' w0 u e v L:=by
 obtain ⟨xs,h1,h2⟩:=h
 exact ⟨xs,⟨ah hb h1.1,Go.Joins.ownsRow_le h1.2 hb.size⟩,h2.weak hR (fun b _ h=>⟨hA b h.1,h.2⟩)⟩
theorem Row.sl (hR:aJ R k) {bytes:Nat} {A:Where} {w0 u:World} {e:TypeId} {v:Value} {L:List α} (h:Row R k A w0 u e v L) (hb:L.length*bytes<=140737488351232) :
  ∃ a cap,v=.slice a L.length cap/\ag R k bytes (fun b=>A b\/az w0 b) u a L.length cap L:=by
 obtain ⟨xs,h1,h2⟩:=h
 obtain ⟨a,cap,e1,h3⟩:=yZ (bytes:=bytes) hR h1.2 h2 hb
 refine ⟨a,cap,e1,h3.weak hR (fun b _ hb=>?_)⟩
 rcases hb with hb | hb
 ·exact .inl hb.1
 ·exact .inr (h1.2.lt b hb).1
theorem Row.lD (hR:aJ R k) {bytes:Nat} {w0 u:World} {e:TypeId} {v:Value} {L:List α} (h:Row R k (az w0) w0 u e v L) (hb:L.length*bytes<=140737488351232) :
  ∃ a cap,v=.slice a L.length cap/\ag R k bytes (az w0) u a L.length cap L:=by
 obtain ⟨a,cap,e1,h3⟩:=h.sl hR hb
 exact ⟨a,cap,e1,h3.weak hR (fun b _ hb=>by rcases hb with hb | hb <;> exact hb)⟩
theorem xO (hR:aJ R k) {o:Oper} {a:Act} {K:Act->World->Prop} {Q:Exit->Act->World->Prop} {A:Where} {w0 u:World} (s x:Operand) (t e:TypeId)
  (ho:o.op=.call { callee:=.builtin .append,args:=#[s,x],argTypes:=#[t,t] }) (z:Value) (bytes:Nat) (hinfo:(prog.info? e).map (fun i=>(i.zero,i.size,i.bytes))=some (some z,k,bytes)) (ht:prog.underlying t=some (.slice e)) (hzs:z.cells.size=k) (hk0:0<k) (hby:1<=bytes)
  (v:Value) (L:List α) (hs:a.eval s=v) (hrow:Row R k A w0 u e v L)
  (ad:Addr) (m c:Nat) (news:List Value) (N:List α) (hm:N.length=m) (hx:a.eval x=.slice (some ad) m c) (hN:aW R k (fun b=>A b/\v.ownBlock≠some b) u news N) (hcells:∀ j y,news[j]?=some y->u.cell? (ad.add j)=some y) (h1:∀ y∈news,y.oneCell'=true) (hb:(L.length+N.length)*bytes<=140737488355328)
  (h:∀ v' u',Row R k A w0 u' e v' (L++N)->u.grownBy u' v.ownBlock->K (a.put o.dst v') u'):o.wp prog a u K Q:=by
 subst hm
 obtain ⟨i0,hi,hz0,hz1,hz2⟩:=info_parts hinfo
 obtain ⟨xs,hown,hch⟩:=hrow
 have hmul:(L.length+N.length)*1<=(L.length+N.length)*bytes:=Nat.mul_le_mul_left _ hby
 obtain ⟨v',u',hr,h2,h3,h4,h5⟩:=run_append_own_at (P:=prog) u w0.heap.size t o.type e i0 z k bytes ht hi hz0 hz1 hz2 hzs hk0 v L.length xs hown.2 ad N.length c news hN.1 hcells h1 (by unfold maxLen;omega) hb hown.1.size
 unfold Oper.wp execOp
 simp only [ho,resolve,invoke,builtin,Sem.run_bind,Sem.run_pure,Result.andThen_ok,List.map_toArray,List.map_cons,List.map_nil,hs,hx,hr]
 refine (h v' u' ⟨xs++news,⟨hown.row h3,by rw [List.length_append];exact h2⟩,?_⟩ h3)
 have put:∀ {ys:List Value} {M:List α},aW R k (fun b=>A b/\v.ownBlock≠some b) u ys M->aW R k (fun b=>A b/\v'.ownBlock≠some b) u' ys M:=fun {ys M} hc=>by
  have c1:=hc.weak hR (A':=fun b=>(A b/\v.ownBlock≠some b)/\b<u.heap.size) (fun b hb h=>⟨h,hb⟩)
  have c2:=c1.kept hR (Kept.grown h3 (fun b e=>fun h=>h.1.2 e))
  refine c2.weak hR (fun b _ h=>⟨h.1.1,fun e=>?_⟩)
  rcases h5 with h5 | h5
  ·rw [h5] at e;exact h.1.2 e
  ·rw [h5] at e
   have:u.heap.size=b:=by simpa using e
   exact absurd h.2 (by omega)
 obtain ⟨l1,c1⟩:=put hch
 obtain ⟨l2,c2⟩:=put hN
 refine ⟨by rw [List.length_append,List.length_append,l1,l2,Nat.add_mul],fun i hi=>?_⟩
 rcases Nat.lt_or_ge i L.length with h' | h'
 ·obtain ⟨cs,q1,q2⟩:=c1 i h'
  have e:(L++N).getD i default=L.getD i default:=by rw [gK _ _ hi,gK _ _ h',List.getElem_append_left h']
  refine ⟨cs,by rw [e];exact q1,fun j hj=>?_⟩
  rw [List.getElem?_append_left (by have:(i+1)*k<=L.length*k:=Nat.mul_le_mul_right k h';rw [Nat.add_mul] at this;omega)]
  exact q2 j hj
 ·have h'':i - L.length<N.length:=by simp at hi;omega
  obtain ⟨cs,q1,q2⟩:=c2 (i - L.length) h''
  have e:(L++N).getD i default=N.getD (i - L.length) default:=by rw [gK _ _ hi,gK _ _ h'',List.getElem_append_right h']
  refine ⟨cs,by rw [e];exact q1,fun j hj=>?_⟩
  have hle:L.length*k<=i*k:=Nat.mul_le_mul_right k h'
  rw [List.getElem?_append_right (by omega),l1,PY i L.length k j h',<- q2 j hj]
theorem mh (hR:aJ R k) {ops:Array Oper} {rest:List Oper} {o:Oper} {a:Act} {Q:Exit->Act->World->Prop} {A:Where} {w0 u:World} (hgd:Region.wanted o (yielded ops a.tmps)=true) (s x:Operand) (t e:TypeId)
  (ho:o.op=.call { callee:=.builtin .append,args:=#[s,x],argTypes:=#[t,t] }) (z:Value) (bytes:Nat) (hinfo:(prog.info? e).map (fun i=>(i.zero,i.size,i.bytes))=some (some z,k,bytes)) (ht:prog.underlying t=some (.slice e)) (hzs:z.cells.size=k) (hk0:0<k) (hby:1<=bytes)
  (v:Value) (L:List α) (hs:a.eval s=v) (hrow:Row R k A w0 u e v L)
  (ad:Addr) (m c:Nat) (news:List Value) (N:List α) (hm:N.length=m) (hx:a.eval x=.slice (some ad) m c) (hN:aW R k (fun b=>A b/\v.ownBlock≠some b) u news N) (hcells:∀ j y,news[j]?=some y->u.cell? (ad.add j)=some y) (h1:∀ y∈news,y.oneCell'=true) (hb:(L.length+N.length)*bytes<=140737488355328)
  (h:∀ v' u',Row R k A w0 u' e v' (L++N)->u.grownBy u' v.ownBlock->wpList prog ops Q rest (a.put o.dst v') u'):wpList prog ops Q (o :: rest) a u :=
 BigFrame.wpList_want hgd (fun _ hK=>xO hR s x t e ho z bytes hinfo ht hzs hk0 hby v L hs hrow ad m c news N hm hx hN hcells h1 hb (fun v' u' h2 h3=>hK _ _ (h v' u' h2 h3)))
theorem nJ (hR:aJ R k) {A:Where} {u:World} {cs:List Value} {x:α} (h:R A u cs x):aW R k A u cs [x]:=by
 simpa using (aW.nil (R:=R) (k:=k) A u).snoc hR h
theorem nY (u:World) (cs:List Value) (t:TypeId):∀ j y,cs[j]?=some y->(u.alloc (.cells cs.toArray t)).cell? ((⟨u.heap.size,0,none⟩:Addr).add j)=some y:=by
 intro j y hj
 rw [add_lit]
 have:(u.alloc (.cells cs.toArray t)).heap[u.heap.size]?=some (.cells cs.toArray t):=PZ u _ _ rfl
 generalize u.alloc (.cells cs.toArray t)=u' at this |-
 simp [World.cell?,this,hj]
end
def af (u:World) (D:Nat) (cs:List Value):Prop:=D<u.heap.size/\∀ j v,cs[j]?=some v->u.cell? ⟨D,j,none⟩=some v/\u.frozen? ⟨D,j,none⟩=false
theorem af.on {u u':World} {D:Nat} {cs:List Value} (h:af u D cs) (hb:Below u.heap.size u u'):af u' D cs :=
 ⟨Nat.lt_of_lt_of_le h.1 hb.size,fun j v hj=>⟨(hb.cell h.1).trans (h.2 j v hj).1,(hb.frozen h.1).trans (h.2 j v hj).2⟩⟩
theorem af.kept {A:Where} {u u':World} {D:Nat} {cs:List Value} (h:af u D cs) (hk:Kept A u u') (hA:A D):af u' D cs :=
 ⟨Nat.lt_of_lt_of_le h.1 hk.1,fun j v hj=>⟨(hk.cell hA h.1).trans (h.2 j v hj).1,(World.frozen?_of_block (w:=u) (hk.2 D hA h.1)).trans (h.2 j v hj).2⟩⟩
theorem af.new (u:World) (t:TypeId) (cs:List Value):af (u.alloc (.cells cs.toArray t)) u.heap.size cs:=by
 refine ⟨by simp,fun j v hj=>?_⟩
 have:(u.alloc (.cells cs.toArray t)).heap[u.heap.size]?=some (.cells cs.toArray t):=PZ u _ _ rfl
 generalize u.alloc (.cells cs.toArray t)=u' at this |-
 simp [World.cell?,World.frozen?,this,hj]
theorem af.set {u:World} {D:Nat} {cs:List Value} (h:af u D cs) (i:Nat) (v:Value) (hi:i<cs.length):af (u.setCell ⟨D,i,none⟩ v) D (cs.set i v):=by
 refine ⟨by simpa using h.1,fun j y hj=>?_⟩
 rw [List.getElem?_set] at hj
 by_cases e:i=j
 ·subst e
  simp [hi] at hj
  subst hj
  have h0:=h.2 i cs[i] (List.getElem?_eq_getElem hi)
  exact ⟨World.cell?_setCell_same (h:=h0.1) ..,by simpa using h0.2⟩
 ·simp only [e,if_false] at hj
  have h0:=h.2 j y hj
  have hne:(⟨D,i,none⟩:Addr)≠⟨D,j,none⟩:=by simp [e]
  exact ⟨(World.cell?_setCell_other (h:=hne) ..).trans h0.1,by simpa using h0.2⟩
theorem af.other {u:World} {D:Nat} {cs:List Value} (h:af u D cs) {p:Addr} (hp:p.block≠D) (v:Value):af (u.setCell p v) D cs :=
 h.kept (A:=fun b=>b≠p.block) (Kept.set (fun h=>h rfl) v) (fun e=>hp e.symm)
theorem Yx (a b c:Int) (w:World):Calls prog 123 #[.agg #[.int .i64 a,.int .i64 b,.int .i64 c]] w fun e w'=>e=.returned (.agg #[.int .i64 a,.int .i64 b,.int .i64 c])/\w'=((w.alloc (.cells #[.int .i64 a,.int .i64 b,.int .i64 c] 32)).alloc (.cells #[.int .i64 a,.int .i64 b,.int .i64 c] 212)):=by
 go_enter func123,ntmps123
 go_wp2
 exact bodyPost_ret (v:=.agg #[.int .i64 a,.int .i64 b,.int .i64 c]) (by simp [results,Tryz.results123,go_sem]) rfl ⟨rfl,rfl⟩
theorem zHP (a b c:Int) (w:World):Calls prog 124 #[.agg #[.int .i64 a,.int .i64 b,.int .i64 c]] w fun e w'=>e=.returned (.agg #[.int .i64 a,.int .i64 b,.int .i64 c])/\w'=((w.alloc (.cells #[.int .i64 a,.int .i64 b,.int .i64 c] 212)).alloc (.cells #[.int .i64 a,.int .i64 b,.int .i64 c] 32)):=by
 go_enter func124,ntmps124
 go_wp2
 exact bodyPost_ret (v:=.agg #[.int .i64 a,.int .i64 b,.int .i64 c]) (by simp [results,Tryz.results124,go_sem]) rfl ⟨rfl,rfl⟩
theorem Yg (a b c:Int) (w:World):Calls prog 124 #[.agg #[.int .i64 a,.int .i64 b,.int .i64 c]] w fun e w'=>e=.returned (.agg #[.int .i64 a,.int .i64 b,.int .i64 c])/\Below w.heap.size w w' :=
 (zHP a b c w).mono fun e w' ⟨he,hw⟩=>⟨he,by rw [hw];exact ((Below.refl _ _).alloc (Nat.le_refl _) _).alloc (by simp) _⟩
theorem Qh (a b:Int) (w:World):Calls prog 87 #[.int .i64 a,.int .i64 b] w fun e w'=>e=.returned (.int .i64 (dX a b))/\w'=w:=by
 go_enter func87,ntmps87
 go_wp2_with (go_at_call 125;refine (Hw _ _ _).mono ?_;rintro e w' ⟨rfl,rfl⟩)
 go_ret
 exact ⟨rfl,rfl⟩
theorem Qo (a b:Int) (w:World):Calls prog 167 #[.int .i64 a,.int .i64 b] w fun e w'=>e=.returned (.int .i64 (jL a b))/\w'=w:=by
 go_enter func167,ntmps167
 go_wp2_with (go_at_call 191;refine (EM _ _ _).mono ?_;rintro e w' ⟨rfl,rfl⟩)
 go_ret
 exact ⟨rfl,rfl⟩
def qo (w:World) (B:Nat) (a b c:Int):Prop:=w.cell? ⟨B,0,none⟩=some (.int .i64 a)/\w.cell? ⟨B,1,none⟩=some (.int .i64 b)/\w.cell? ⟨B,2,none⟩=some (.int .i64 c)
end Go.Proofs.YtgikfenllgldoaaGreat
