/- Functions of the program, each walked under the conditions that its theorem names. -/
import Derived.Test.YtgikfenllgldoaaGreatProg
import Derived.WalkKit
import Derived.ProofKit
import Derived.OpenShut
import Derived.ShutString
import Derived.ChangeOld
import Derived.Below
import Derived.WalkSmall
import Derived.Deep.DeepHandedRow
import Derived.BigQuiet
import Derived.Deep.RegionHeld3
import Derived.Lib.Bytealg
import Derived.Deep.QuietTactic
import Derived.BigRegion
import Derived.Deep.DeepCutAuto
import Derived.Outline
import Derived.Handy
import Derived.Test.YtgikfenllgldoaaGreatQ00
import Derived.WalkSpells
import Derived.Lib.SmallJoins
import Derived.Maps.RangeWalk
set_option linter.unusedSimpArgs false
set_option maxRecDepth 100000
set_option maxHeartbeats 32000000
namespace Go.Proofs.YtgikfenllgldoaaGreat
open Go.Proofs.Tryz
open Go.ChangeShapes Go.WideShapes Go.ChangeAt Go.RowKit
theorem own:ownKnob prog.godebug=none:=by kernel_rfl
theorem laidOut:laidOutB prog=true:=by kernel_rfl
theorem YW {H:Type} {enc:TypeId×Value->H} {P:Program} (hl:laidOutB P=true) {W W':World} (hb:Below W.heap.size W W') :
  ∀ {ts:List TypeId} {vs:List Value} {ds:List (DataW H)} {p:List MemPlace},(∀ t∈ts,P.readableRec t=true/\t<P.types.size)->(∀ x∈p,x.block<W.heap.size) ->
   DataW.TrodAll enc P W 0 (fun _=>true) true ts vs ds p->DataW.TrodAll enc P W' 0 (fun b=>decide (b<W.heap.size)) true ts vs ds p
 | [],_,_,_,_,_,h=>by
  obtain ⟨rfl,rfl,rfl⟩:=trodAll_nil h
  exact trodAll_mk0
 | t :: ts,_,_,_,hts,hlt,h=>by
  obtain ⟨v,vs,d,ds,p,q,rfl,rfl,rfl,h1,h2⟩:=trodAll_cons h
  exact trodAll_cons_mk (Below.trod hl (hts t (by simp)).1 (hts t (by simp)).2 h1 hb (fun x hx=>hlt x (by simp [hx])))
   (YW hl hb (fun u hu=>hts u (by simp [hu])) (fun x hx=>hlt x (by simp [hx])) h2)
theorem Jl {H:Type} {enc:TypeId×Value->H} {P:Program} {f:Func} {s:ChangeSpec} {tb:TypeId} {W W':World} {args:Array Value} {ds gs:List (DataW H)} {before:List MemPlace}
  (hl:laidOutB P=true) (hts:∀ t∈f.params.toList,P.readableRec t=true/\t<P.types.size) (hv:s.vars=[]) (hr:f.resultTypes=#[tb]) (htb:P.underlying tb=some .bool)
  (hfn:s.fn H (ds++gs)={ results:=[.lit (.bool true)],args:=ds })
  (hW:DataW.Whole enc P f.params.toList s.vars false W args.toList ds gs before) (hb:Below W.heap.size W W') :
  s.post enc P f false true false false W args (.bool true) W':=by
 have hlt:=hW.lt
 have hW':=hW
 obtain ⟨p,q,hA,hV,rfl,_,_⟩:=hW
 refine ⟨ds,gs,_,[],p,[],hW',?_,?_,?_,hb.frame _,fun h=>by cases h⟩
 ·rw [hfn,hr]
  exact trodAll_mk1 (shut_bool htb _)
 ·rw [hfn]
  exact YW hl hb hts (fun x hx=>hlt x (by simp [hx])) hA
 ·rw [hv,hfn]
  rfl
end Go.Proofs.YtgikfenllgldoaaGreat
namespace Go.Proofs.YtgikfenllgldoaaGreat
open Go.Proofs.Tryz
def aQ (a:Int):Int:=if a<0 then 0 else if 1125899906842624<a then 1125899906842624 else a
theorem EA (a:Int):0<=aQ a:=by unfold aQ;split <;> (try split) <;> omega
theorem Ez (a:Int):aQ a<=1125899906842624:=by unfold aQ;split <;> (try split) <;> omega
theorem GL {a:Int} (h0:0<=a) (h1:a<=1125899906842624):aQ a=a:=by unfold aQ;rw [if_neg (by omega),if_neg (by omega)]
def dX (a b:Int):Int:=aQ (aQ a+aQ b)
def jL (a b:Int):Int:=aQ (aQ a - aQ b)
theorem zDu (a:Int):aQ (aQ a)=aQ a:=GL (EA a) (Ez a)
end Go.Proofs.YtgikfenllgldoaaGreat
namespace Go.Proofs.YtgikfenllgldoaaGreat
open Go.Proofs.Tryz
open Go.RowKit Go.Sort Go.Lib
theorem nS:Tryz.laysSort_ren.f 6=88:=rfl
theorem nI:Tryz.laysSortV_ren.f 5=90:=rfl
theorem Nn (blk off cap:Nat) (ss:List (List UInt8)) (w:World) (hH:Holds encStr w blk off ss.toArray) (hblk:blk<w.heap.size) (hsz:ss.length<4611686018427387904) :
  Calls prog 88 #[.slice (some ⟨blk,off,none⟩) ss.length cap] w fun e w' =>
   e=.returned (.tuple #[])/\∃ n os,w'=grow (putRow encStr (Sort.ahead w n) blk off (ss.mergeSort fun x y=>decide (x<=y)).toArray) os:=by
 have h:=AnyM.slices_Sort_string Tryz.laysSort blk off cap ss w hH hblk hsz
 rw [nS] at h
 exact h
theorem Yq (p:Option Addr) (cap:Nat) (w:World):Calls prog 88 #[.slice p 0 cap] w fun e w'=>e=.returned (.tuple #[])/\w'=w:=by
 have h:=AnyM.slices_Sort_string_none Tryz.laysSort p cap w
 rw [nS] at h
 exact h
theorem SortI (blk off cap:Nat) (ss:List Int) (w:World) (hH:Holds (Value.int .i64) w blk off ss.toArray) (hblk:blk<w.heap.size) (hsz:ss.length<4611686018427387904) :
  Calls prog 90 #[.slice (some ⟨blk,off,none⟩) ss.length cap] w fun e w' =>
   e=.returned (.tuple #[])/\∃ n os,w'=grow (putRow (Value.int .i64) (Sort.ahead w n) blk off (ss.mergeSort fun x y=>decide (x<=y)).toArray) os:=by
 have h:=AnyM.slices_Sort_int Tryz.laysSortV blk off cap ss w hH hblk hsz
 rw [nI] at h
 exact h
theorem Yr (p:Option Addr) (cap:Nat) (w:World):Calls prog 90 #[.slice p 0 cap] w fun e w'=>e=.returned (.tuple #[])/\w'=w:=by
 have h:=AnyM.slices_Sort_int_none Tryz.laysSortV p cap w
 rw [nI] at h
 exact h
end Go.Proofs.YtgikfenllgldoaaGreat
namespace Go.Proofs.YtgikfenllgldoaaGreat
open Go.Proofs.Tryz
open Go.RowKit
theorem ah {w u v:World} (h:Below w.heap.size w u) (k:Below u.heap.size u v):Below w.heap.size w v:=h.trans (k.mono h.size)
theorem gK {α:Type} [Inhabited α] (L:List α) (i:Nat) (h:i<L.length):L.getD i default=L[i]:=by
 rw [List.getD_eq_getElem?_getD,List.getElem?_eq_getElem h];rfl
theorem add_lit (B off i:Nat):(⟨B,off,none⟩:Addr).add i=⟨B,off+i,none⟩:=by unfold Addr.add;split <;> simp_all
def Own (w0 u:World) (e:TypeId) (size:Nat) (v:Value) (n:Nat) (xs:List Value):Prop:=Below w0.heap.size w0 u/\u.ownsRow w0.heap.size e size v n xs
theorem PZ (u:World) (o:Obj) (n:Nat) (hn:u.heap.size=n):(u.alloc o).heap[n]?=some o:=by
 subst hn
 exact (MapKept.heap_alloc u o).1
theorem OZ {w w':World} {B:Nat} {e:TypeId} {size:Nat} {v:Value} {n:Nat} {xs:List Value} (h:w.ownsRow B e size v n xs) (hb:Below w.heap.size w w'):w'.ownsRow B e size v n xs:=by
 obtain ⟨h1,h2 | ⟨g,cap,cur,hv,hB,hg,h3⟩⟩:=h
 ·exact ⟨h1,.inl h2⟩
 ·refine ⟨h1,.inr ⟨g,cap,cur,hv,hB,?_,h3⟩⟩
  have hlt:g<w.heap.size:=by
   rcases Nat.lt_or_ge g w.heap.size with h4 | h4
   ·exact h4
   ·rw [Array.getElem?_eq_none h4] at hg;cases hg
  rw [hb.block g hlt];exact hg
theorem Own.on {w0 u u':World} {e:TypeId} {size:Nat} {v:Value} {n:Nat} {xs:List Value} (h:Own w0 u e size v n xs) (hb:Below u.heap.size u u'):Own w0 u' e size v n xs :=
 ⟨ah h.1 hb,OZ h.2 hb⟩
theorem Own.start (w u:World) (e:TypeId) (size:Nat) (hb:Below w.heap.size w u):Own w (u.alloc (.cells #[] e)) e size (.slice (some ⟨u.heap.size,0,none⟩) 0 0) 0 [] :=
 ⟨ah hb (by go_grown),by simp,.inr ⟨u.heap.size,0,#[],rfl,hb.size,PZ u _ _ rfl,Nat.le_refl _,by unfold maxLen;omega,by simp,by simp⟩⟩
theorem Own.row {w0 u u':World} {e:TypeId} {size:Nat} {v:Value} {n:Nat} {xs:List Value} (h:Own w0 u e size v n xs) (hg:u.grownBy u' v.ownBlock):Below w0.heap.size w0 u':=by
 refine h.1.grown hg h.1.size (fun k hk=>?_)
 obtain ⟨_,⟨rfl,_⟩ | ⟨g,cap,cur,rfl,hB,_⟩⟩:=h.2
 ·simp [Value.ownBlock] at hk
 ·simp [Value.ownBlock] at hk
  omega
theorem Fw {w:World} {B:Nat} {e:TypeId} {size:Nat} {v:Value} {n:Nat} {xs:List Value} (h:w.ownsRow B e size v n xs) :
  (v=.slice none 0 0/\n=0)\/∃ g cap,v=.slice (some ⟨g,0,none⟩) n cap/\n<=cap/\B<=g/\g<w.heap.size/\∀ j,j<n*size->w.cell? ⟨g,j,none⟩=xs[j]?/\w.frozen? ⟨g,j,none⟩=false:=by
 obtain ⟨hx,h0 | ⟨g,cap,cur,hv,hb,hg,hcp,_,hsz,htk⟩⟩:=h
 ·exact .inl h0
 ·refine .inr ⟨g,cap,hv,hcp,hb,?_,fun j hj=>⟨?_,?_⟩⟩
  ·rcases Nat.lt_or_ge g w.heap.size with h1 | h1
   ·exact h1
   ·rw [Array.getElem?_eq_none h1] at hg;cases hg
  ·have e1:w.cell? ⟨g,j,none⟩=cur[j]?:=by simp [World.cell?,hg]
   rw [e1,<- htk,List.getElem?_take,if_pos hj,Array.getElem?_toList]
  ·simp [World.frozen?,hg]
section
variable {α:Type} [Inhabited α]
def nU (enc:α->List Value) (k:Nat) (ok:α->Prop) (w:World) (a:Option Addr) (L:List α):Prop :=
 L.length<=140737488355328/\(∀ x∈L,ok x)/\(L≠[]->∃ B off,a=some ⟨B,off,none⟩/\B<w.heap.size/\∀ i,i<L.length->∀ j v,(enc (L.getD i default))[j]?=some v->w.cell? ⟨B,off+i*k+j,none⟩=some v)
variable {enc:α->List Value} {k:Nat} {ok:α->Prop}
theorem nU.on {w w':World} {a:Option Addr} {L:List α} (h:nU enc k ok w a L) (hb:Below w.heap.size w w'):nU enc k ok w' a L:=by
 obtain ⟨h1,h2,h3⟩:=h
 refine ⟨h1,h2,fun hn=>?_⟩
 obtain ⟨B,off,rfl,hB,hc⟩:=h3 hn
 exact ⟨B,off,rfl,Nat.lt_of_lt_of_le hB hb.size,fun i hi j v hv=>(hb.cell hB).trans (hc i hi j v hv)⟩
theorem nU.get {w:World} {a:Option Addr} {L:List α} (h:nU enc k ok w a L) {i:Nat} (hi:i<L.length):∃ B off,a=some ⟨B,off,none⟩/\B<w.heap.size/\(∀ j v,(enc (L.getD i default))[j]?=some v->w.cell? ⟨B,off+i*k+j,none⟩=some v)/\ok (L.getD i default):=by
 obtain ⟨h1,h2,h3⟩:=h
 obtain ⟨B,off,rfl,hB,hc⟩:=h3 (by intro e;rw [e] at hi;simp at hi)
 refine ⟨B,off,rfl,hB,hc i hi,h2 _ ?_⟩
 rw [gK _ _ hi]
 exact List.getElem_mem hi
end
end Go.Proofs.YtgikfenllgldoaaGreat
namespace Go.Proofs.YtgikfenllgldoaaGreat
open Go.Proofs.Tryz
abbrev aG:=ByteArray×ByteArray
abbrev Ask:=ByteArray×Int×List ByteArray
abbrev Ask.key (r:Ask):ByteArray:=r.1
abbrev Ask.op (r:Ask):Int:=r.2.1
abbrev Ask.vals (r:Ask):List ByteArray:=r.2.2
def lS (n:Nat) (p:Nat->Bool):Bool:=(List.range n).all p
theorem Yo {n:Nat} {p:Nat->Bool} (h:∀ j,j<n->p j=true):lS n p=true:=by
 simp only [lS,List.all_eq_true,List.mem_range];exact h
theorem YL {n k:Nat} {p:Nat->Bool} (hk:k<n) (h:p k=false):lS n p=false:=by
 cases e:lS n p
 ·rfl
 ·simp only [lS,List.all_eq_true,List.mem_range] at e
  rw [e k hk] at h;cases h
theorem Hu {n:Nat} {p:Nat->Bool}:lS n p=true↔∀ j,j<n->p j=true:=by
 simp [lS,List.all_eq_true,List.mem_range]
def iM (c:UInt8):Bool:=decide (48<=c.toNat) && decide (c.toNat<=57)
def gT (s:ByteArray) (i:Nat):UInt8:=s.data.toList.getD i 0
def dm (s:ByteArray):Bool:=decide (1<=s.size) && decide (s.size<=15) && !(decide (1<s.size) && decide ((gT s 0).toNat=48)) && lS s.size fun i=>iM (gT s i)
def numTo (s:ByteArray):Nat->Nat
 | 0=>0
 | k+1=>10*numTo s k+((gT s k).toNat - 48)
def jE (s:ByteArray):Nat:=numTo s s.size
def dh (a b:ByteArray):Bool:=Op.bytesLess a.toList b.toList
def ay (a b:ByteArray):Bool:=a.toList == b.toList
theorem LZ (s:ByteArray) (k:Nat) (h:k<s.size):gT s k=s[k]:=by
 unfold gT
 rw [List.getD_eq_getElem?_getD,List.getElem?_eq_getElem (by simpa using h)]
 rfl
theorem eZ (a b:ByteArray):ay a b=true↔a=b:=by
 unfold ay
 rw [beq_iff_eq,ByteArray.toList_eq,ByteArray.toList_eq]
 constructor
 ·intro h;obtain ⟨⟨a⟩⟩:=a;obtain ⟨⟨b⟩⟩:=b;simp_all
 ·intro h;rw [h]
theorem LF (a:ByteArray):ay a a=true:=(eZ a a).2 rfl
theorem XF {a b:ByteArray} (h:a≠b):ay a b=false:=by
 cases e:ay a b
 ·rfl
 ·exact absurd ((eZ a b).1 e) h
def getL (L:List aG) (key:ByteArray):ByteArray×Bool:=match L.find? (fun x=>ay x.1 key) with | some x=>(x.2,true) | none=>(default,false)
def sM (V:List ByteArray) (s:ByteArray):Bool:=V.any fun v=>ay v s
def iC (v:ByteArray) (there:Bool) (op:Int) (V:List ByteArray):Bool :=
 if op=1 then there && sM V v
 else if op=2 then !(there && sM V v)
 else if op=3 then there
 else if op=4 then !there
 else if op=5 then there && dm v && (decide (V.length=1) && dm (V.getD 0 default)) && decide (jE (V.getD 0 default)<jE v)
 else if op=6 then there && dm v && (decide (V.length=1) && dm (V.getD 0 default)) && decide (jE v<jE (V.getD 0 default))
 else false
def rH (L:List aG) (r:Ask):Bool:=iC (getL L r.key).1 (getL L r.key).2 r.op r.vals
def bE (L:List aG) (R:List Ask):Bool:=lS R.length fun i=>rH L (R.getD i default)
end Go.Proofs.YtgikfenllgldoaaGreat
namespace Go.Proofs.YtgikfenllgldoaaGreat
open Go.Proofs.Tryz
open Go.RowKit
section
variable {P:Program} {md:Region.Mode} {ops:Array Oper} {Q:Exit->Act->World->Prop} {S:World->Prop} {oi:Oper} {d fuel:Nat} {listed:Array Bool} {a:Act} {w:World}
theorem tq (i:Nat) (v:Value) (hy:YieldsIf P ops S oi v a) (h:wpAnyH P md ops (NoPanic Q) S fuel (listed.setIfInBounds i true) (a.put (some d) v) w)
  (hi:ops[i]?=some oi:=by rfl) (hd:oi.dst=some d:=by rfl) (hb:(Region.noSelect ops && (Region.free md ops listed i && (Region.ready md ops listed).contains i))=true:=by kernel_rfl) (hS:S w:=by assumption):wpAnyH P md ops (NoPanic Q) S (fuel+1) listed a w :=
 wpAnyH_take hi (Bool.and_eq_true _ _ ▸ hb).1 (Bool.and_eq_true _ _ ▸ (Bool.and_eq_true _ _ ▸ hb).2).1 (Bool.and_eq_true _ _ ▸ (Bool.and_eq_true _ _ ▸ hb).2).2 (fun _ _ _ h=>h) hy hS (hd ▸ h)
theorem tk (i:Nat) {v:Value} (hy:∀ u,S u->(execOp a.eval oi).run P u=.ok (.value v) u) (h:wpAnyH P md ops (NoPanic Q) S fuel (listed.setIfInBounds i true) (a.put (some d) v) w)
  (hi:ops[i]?=some oi:=by rfl) (hd:oi.dst=some d:=by rfl) (hb:(Region.noSelect ops && (Region.free md ops listed i && (Region.ready md ops listed).contains i))=true:=by kernel_rfl) (hw:Region.wanted oi (yielded ops a.tmps)=true:=by rfl) (hS:S w:=by assumption):wpAnyH P md ops (NoPanic Q) S (fuel+1) listed a w :=
 tq i v (.inl ⟨hw,hy⟩) h hi hd hb hS
theorem tn (i:Nat) (h:wpAnyH P md ops (NoPanic Q) S fuel (listed.setIfInBounds i true) (a.put (some d) undef) w)
  (hi:ops[i]?=some oi:=by rfl) (hd:oi.dst=some d:=by rfl) (hb:(Region.noSelect ops && (Region.free md ops listed i && (Region.ready md ops listed).contains i))=true:=by kernel_rfl) (hw:Region.wanted oi (yielded ops a.tmps)=false:=by rfl) (hS:S w:=by assumption):wpAnyH P md ops (NoPanic Q) S (fuel+1) listed a w :=
 tq i undef (.inr ⟨hw,rfl⟩) h hi hd hb hS
theorem tp (i:Nat) {v:Value} (h:wpAnyH P md ops (NoPanic Q) S fuel (listed.setIfInBounds i true) (a.put (some d) v) w)
  (hi:ops[i]?=some oi:=by rfl) (hd:oi.dst=some d:=by rfl) (hb:(Region.noSelect ops && (Region.free md ops listed i && (Region.ready md ops listed).contains i))=true:=by kernel_rfl) (hw:Region.wanted oi (yielded ops a.tmps)=true:=by rfl)
  (hy:∀ u,(execOp a.eval oi).run P u=.ok (.value v) u:=by intro u;go_simp;try with_reducible rfl) (hS:S w:=by assumption):wpAnyH P md ops (NoPanic Q) S (fuel+1) listed a w :=
 tk i (fun u _=>hy u) h hi hd hb hw hS
theorem tr (i:Nat) (h:∀ K':Act->World->Prop,Shut (∀ v w,S w->(S w->wpAnyH P md ops Q S fuel (listed.setIfInBounds i true) (a.put (some d) v) w)->K' (a.put oi.dst v) w)->if Region.wanted oi (yielded ops a.tmps)=true then Oper.wp P oi a w K' Q else K' (a.put oi.dst undef) w)
  (hi:ops[i]?=some oi:=by rfl) (hd:oi.dst=some d:=by rfl) (hr:Region.ready md ops listed=[i]:=by kernel_rfl):wpAnyH P md ops Q S (fuel+1) listed a w :=
 wpAnyH_ready hr (by simp) (AllReadyH.cons hi (fun K' hK=>h K' (fun v w h1 h2=>hK.out _ w h1 (fun h3=>hd ▸ h2 h3))) AllReadyH.nil)
theorem ts (i:Nat) (h:∀ K':Act->World->Prop,Shut (∀ v w,S w->(S w->wpAnyH P md ops Q S fuel (listed.setIfInBounds i true) a w)->K' (a.put oi.dst v) w)->if Region.wanted oi (yielded ops a.tmps)=true then Oper.wp P oi a w K' Q else K' (a.put oi.dst undef) w)
  (hi:ops[i]?=some oi:=by rfl) (hd:oi.dst=none:=by rfl) (hr:Region.ready md ops listed=[i]:=by kernel_rfl):wpAnyH P md ops Q S (fuel+1) listed a w :=
 wpAnyH_ready hr (by simp) (AllReadyH.cons hi (fun K' hK=>h K' (fun v w h1 h2=>hK.out _ w h1 (fun h3=>by rw [hd];exact h2 h3))) AllReadyH.nil)
theorem tz (h:Q .normal a w) (hr:Region.ready md ops listed=[]:=by kernel_rfl):wpAnyH P md ops (NoPanic Q) S fuel listed a w:=wpAnyH_done hr (NoPanic.normal h) _
theorem t0 {id:Nat} (S:World->Prop) (hS:S w.drew) (h:S w.drew->wpAnyH P .any ops (NoPanic Q) S ops.size (Array.replicate ops.size false) a w.drew) (hm:P.follows .mixedOrders=true:=by kernel_rfl):(Code.region id ops true).wp P Q a w :=
 wp_region_noPanic (wp_region_held_drew hm hS h)
end
abbrev Where:=Nat->Prop
def Kept (A:Where) (w w':World):Prop:=w.heap.size<=w'.heap.size/\∀ b,A b->b<w.heap.size->w'.heap[b]?=w.heap[b]?
theorem Kept.refl (A:Where) (w:World):Kept A w w:=⟨Nat.le_refl _,fun _ _ _=>rfl⟩
theorem Kept.trans {A:Where} {u v w:World} (h:Kept A u v) (k:Kept A v w):Kept A u w :=
 ⟨Nat.le_trans h.1 k.1,fun b ha hb=>(k.2 b ha (Nat.lt_of_lt_of_le hb h.1)).trans (h.2 b ha hb)⟩
theorem Kept.below {A:Where} {w w':World} (h:Below w.heap.size w w'):Kept A w w':=⟨h.size,fun b _ hb=>h.block b hb⟩
theorem Kept.alloc (A:Where) (w:World) (o:Obj):Kept A w (w.alloc o):=Kept.below ((Below.refl _ w).alloc (Nat.le_refl _) o)
theorem Kept.drew (A:Where) (w:World):Kept A w w.drew:=Kept.below (Below.refl _ w).drew
theorem Kept.set {A:Where} {w:World} {p:Addr} (h:¬ A p.block) (v:Value):Kept A w (w.setCell p v):=by
 refine ⟨by simp,fun b ha _=>Below.heap_setCell w p v b (fun e=>h (e ▸ ha))⟩
theorem Kept.weak {A A':Where} {w w':World} (h:Kept A w w') (k:∀ b,A' b->A b):Kept A' w w':=⟨h.1,fun b ha hb=>h.2 b (k b ha) hb⟩
theorem Kept.grown {A:Where} {w w':World} {row:Option Nat} (hg:w.grownBy w' row) (h:∀ k,row=some k->¬ A k):Kept A w w' :=
 ⟨hg.size,fun b ha hb=>hg.block b hb (fun e=>h b e.symm ha)⟩
theorem Kept.cell {A:Where} {w w':World} (h:Kept A w w') {p:Addr} (ha:A p.block) (hb:p.block<w.heap.size):w'.cell? p=w.cell? p:=World.cell?_of_block (w:=w) (h.2 p.block ha hb)
abbrev bI (α:Type):=Where->World->List Value->α->Prop
structure aJ {α:Type} (R:bI α) (k:Nat):Prop where
 len:∀ {A w cs x},R A w cs x->cs.length=k
 one:∀ {A w cs x},R A w cs x->∀ u∈cs,u.oneCell'=true
 kept:∀ {A w w' cs x},R A w cs x->Kept A w w'->R A w' cs x
 weak:∀ {A A' w cs x},R A w cs x->(∀ b,b<w.heap.size->A b->A' b)->R A' w cs x
def au:bI ByteArray:=fun _ _ cs s=>cs=[.string s]/\s.size<=140737488355328
def aC:bI Int:=fun _ _ cs n=>cs=[.int .i64 n]
def kR:bI Bool:=fun _ _ cs b=>cs=[.bool b]
def bf {α β:Type} (R:bI α) (S:bI β):bI (α×β):=fun A w cs x=>∃ c d,cs=c++d/\R A w c x.1/\S A w d x.2
theorem au.ae:aJ au 1:={
 len:=(by rintro A w cs x ⟨rfl,_⟩;rfl),
 one:=(by rintro A w cs x ⟨rfl,_⟩ u hu;simp at hu;subst hu;rfl),
 kept:=fun h _=>h,
 weak:=fun h _=>h }
theorem aC.ae:aJ aC 1:={
 len:=(by rintro A w cs x rfl;rfl),
 one:=(by rintro A w cs x rfl u hu;simp at hu;subst hu;rfl),
 kept:=fun h _=>h,
 weak:=fun h _=>h }
theorem kR.ae:aJ kR 1:={
 len:=(by rintro A w cs x rfl;rfl),
 one:=(by rintro A w cs x rfl u hu;simp at hu;subst hu;rfl),
 kept:=fun h _=>h,
 weak:=fun h _=>h }
theorem aJ.pair {α β:Type} {R:bI α} {S:bI β} {k m:Nat} (hR:aJ R k) (hS:aJ S m):aJ (bf R S) (k+m):={
 len:=(by rintro A w cs x ⟨c,d,rfl,h1,h2⟩;rw [List.length_append,hR.len h1,hS.len h2]),
 one:=(by
  rintro A w cs x ⟨c,d,rfl,h1,h2⟩ u hu
  rcases List.mem_append.1 hu with hu | hu
  ·exact hR.one h1 u hu
  ·exact hS.one h2 u hu),
 kept:=(by rintro A w w' cs x ⟨c,d,rfl,h1,h2⟩ k;exact ⟨c,d,rfl,hR.kept h1 k,hS.kept h2 k⟩),
 weak:=(by rintro A A' w cs x ⟨c,d,rfl,h1,h2⟩ k;exact ⟨c,d,rfl,hR.weak h1 k,hS.weak h2 k⟩) }
section
variable {α:Type} [Inhabited α]
def ag (R:bI α) (k bytes:Nat) (A:Where) (w:World) (a:Option Addr) (n cap:Nat) (L:List α):Prop :=
 L.length=n/\n<=cap/\(a=none->cap=0)/\n*bytes<=140737488351232 /\
  (0<n->∃ B off,a=some ⟨B,off,none⟩/\B<w.heap.size/\A B/\∀ i,i<n->∃ cs,R A w cs (L.getD i default)/\∀ j v,cs[j]?=some v->w.cell? ⟨B,off+i*k+j,none⟩=some v)
def bN (R:bI α) (k bytes:Nat):bI (List α):=fun A w cs L=>∃ a n cap,cs=[.slice a n cap]/\ag R k bytes A w a n cap L
variable {R:bI α} {k bytes:Nat}
theorem ag.kept (hR:aJ R k) {A:Where} {w w':World} {a:Option Addr} {n cap:Nat} {L:List α} (h:ag R k bytes A w a n cap L) (hk:Kept A w w'):ag R k bytes A w' a n cap L:=by
 obtain ⟨h1,h2,h3,h4,h5⟩:=h
 refine ⟨h1,h2,h3,h4,fun hn=>?_⟩
 obtain ⟨B,off,rfl,hB,hA,hc⟩:=h5 hn
 refine ⟨B,off,rfl,Nat.lt_of_lt_of_le hB hk.1,hA,fun i hi=>?_⟩
 obtain ⟨cs,hr,hv⟩:=hc i hi
 exact ⟨cs,hR.kept hr hk,fun j v hj=>(hk.cell hA hB).trans (hv j v hj)⟩
theorem ag.weak (hR:aJ R k) {A A':Where} {w:World} {a:Option Addr} {n cap:Nat} {L:List α} (h:ag R k bytes A w a n cap L) (hk:∀ b,b<w.heap.size->A b->A' b):ag R k bytes A' w a n cap L:=by
 obtain ⟨h1,h2,h3,h4,h5⟩:=h
 refine ⟨h1,h2,h3,h4,fun hn=>?_⟩
 obtain ⟨B,off,rfl,hB,hA,hc⟩:=h5 hn
 refine ⟨B,off,rfl,hB,hk B hB hA,fun i hi=>?_⟩
 obtain ⟨cs,hr,hv⟩:=hc i hi
 exact ⟨cs,hR.weak hr hk,hv⟩
theorem ag.on (hR:aJ R k) {A:Where} {w w':World} {a:Option Addr} {n cap:Nat} {L:List α} (h:ag R k bytes A w a n cap L) (hb:Below w.heap.size w w'):ag R k bytes A w' a n cap L:=h.kept hR (Kept.below hb)
theorem ag.nil (A:Where) (w:World) (a:Option Addr) (cap:Nat) (h:a=none->cap=0):ag R k bytes A w a 0 cap ([]:List α) :=
 ⟨rfl,Nat.zero_le _,h,by simp,fun h=>absurd h (Nat.lt_irrefl _)⟩
theorem ag.get {A:Where} {w:World} {a:Option Addr} {n cap:Nat} {L:List α} (h:ag R k bytes A w a n cap L) {i:Nat} (hi:i<n) :
  ∃ B off,a=some ⟨B,off,none⟩/\B<w.heap.size/\A B/\∃ cs,R A w cs (L.getD i default)/\∀ j v,cs[j]?=some v->w.cell? ⟨B,off+i*k+j,none⟩=some v:=by
 obtain ⟨B,off,e,hB,hA,hc⟩:=h.2.2.2.2 (by omega)
 exact ⟨B,off,e,hB,hA,hc i hi⟩
theorem bN.ae (hR:aJ R k):aJ (bN R k bytes) 1:={
 len:=(by rintro A w cs x ⟨a,n,cap,rfl,_⟩;rfl),
 one:=(by rintro A w cs x ⟨a,n,cap,rfl,_⟩ u hu;simp at hu;subst hu;rfl),
 kept:=(by rintro A w w' cs x ⟨a,n,cap,rfl,h⟩ hk;exact ⟨a,n,cap,rfl,h.kept hR hk⟩),
 weak:=(by rintro A A' w cs x ⟨a,n,cap,rfl,h⟩ hk;exact ⟨a,n,cap,rfl,h.weak hR hk⟩) }
def aW (R:bI α) (k:Nat) (A:Where) (u:World) (xs:List Value) (L:List α):Prop :=
 xs.length=L.length*k/\∀ i,i<L.length->∃ cs,R A u cs (L.getD i default)/\∀ j,j<k->xs[i*k+j]?=cs[j]?
theorem aW.nil (A:Where) (u:World):aW R k A u [] []:=⟨by simp,fun i hi=>absurd hi (Nat.not_lt_zero _)⟩
theorem aW.kept (hR:aJ R k) {A:Where} {u u':World} {xs:List Value} {L:List α} (h:aW R k A u xs L) (hk:Kept A u u'):aW R k A u' xs L :=
 ⟨h.1,fun i hi=>by obtain ⟨cs,h1,h2⟩:=h.2 i hi;exact ⟨cs,hR.kept h1 hk,h2⟩⟩
theorem aW.weak (hR:aJ R k) {A A':Where} {u:World} {xs:List Value} {L:List α} (h:aW R k A u xs L) (hk:∀ b,b<u.heap.size->A b->A' b):aW R k A' u xs L :=
 ⟨h.1,fun i hi=>by obtain ⟨cs,h1,h2⟩:=h.2 i hi;exact ⟨cs,hR.weak h1 hk,h2⟩⟩
theorem aW.snoc (hR:aJ R k) {A:Where} {u:World} {xs cs:List Value} {L:List α} {x:α} (h:aW R k A u xs L) (hx:R A u cs x):aW R k A u (xs++cs) (L++[x]):=by
 obtain ⟨hl,hc⟩:=h
 refine ⟨by rw [List.length_append,List.length_append,hl,hR.len hx,Nat.add_mul];simp,fun i hi=>?_⟩
 rcases Nat.lt_or_ge i L.length with h' | h'
 ·obtain ⟨cs',h1,h2⟩:=hc i h'
  have e:(L++[x]).getD i default=L.getD i default:=by rw [gK _ _ hi,gK _ _ h',List.getElem_append_left h']
  refine ⟨cs',by rw [e];exact h1,fun j hj=>?_⟩
  rw [List.getElem?_append_left (by have:(i+1)*k<=L.length*k:=Nat.mul_le_mul_right k h';rw [Nat.add_mul] at this;omega)]
  exact h2 j hj
 ·obtain rfl:i=L.length:=by simp at hi;omega
  have e:(L++[x]).getD L.length default=x:=by rw [gK _ _ hi];simp
  refine ⟨cs,by rw [e];exact hx,fun j hj=>?_⟩
  rw [List.getElem?_append_right (by omega),hl,show L.length*k+j - L.length*k=j by omega]
theorem ag.chunks (hR:aJ R k) {A:Where} {w:World} {ad:Addr} {n cap:Nat} {L:List α} (h:ag R k bytes A w (some ad) n cap L):∃ xs,aW R k A w xs L/\(∀ j y,xs[j]?=some y->w.cell? (ad.add j)=some y)/\∀ y∈xs,y.oneCell'=true:=by
 obtain ⟨hn,h2,h3,h4,h5⟩:=h
 suffices H:∀ m,m<=n->∃ xs,aW R k A w xs (L.take m)/\(∀ j y,xs[j]?=some y->w.cell? (ad.add j)=some y)/\∀ y∈xs,y.oneCell'=true by
  obtain ⟨xs,h6⟩:=H n (Nat.le_refl _)
  rw [List.take_of_length_le (by omega)] at h6
  exact ⟨xs,h6⟩
 intro m
 induction m with
 | zero=>intro _;exact ⟨[],by simpa using aW.nil A w,by simp,by simp⟩
 | succ m ih =>
  intro hm
  obtain ⟨xs,hc,hv,ho⟩:=ih (by omega)
  obtain ⟨B,off,e,hB,hA,hall⟩:=h5 (by omega)
  obtain rfl:ad=⟨B,off,none⟩:=by simpa using e
  obtain ⟨cs,hr,hcell⟩:=hall m (by omega)
  have ZR:m<L.length:=by omega
  have et:L.take (m+1)=L.take m++[L.getD m default]:=by rw [List.take_succ_eq_append_getElem ZR,gK _ _ ZR]
  have hl:xs.length=m*k:=by rw [hc.1,List.length_take];congr 1;omega
  refine ⟨xs++cs,by rw [et];exact hc.snoc hR hr,fun j y hj=>?_,fun y hy=>?_⟩
  ·rcases Nat.lt_or_ge j (m*k) with h' | h'
   ·rw [List.getElem?_append_left (by omega)] at hj
    exact hv j y hj
   ·rw [List.getElem?_append_right (by omega),hl] at hj
    have:=hcell _ _ hj
    rw [add_lit]
    rwa [show off+m*k+(j - m*k)=off+j by omega] at this
  ·rcases List.mem_append.1 hy with hy | hy
   ·exact ho y hy
   ·exact hR.one hr y hy
theorem yZ (hR:aJ R k) {A:Where} {u:World} {g0:Nat} {e:TypeId} {v:Value} {xs:List Value} {L:List α} (h:u.ownsRow g0 e k v L.length xs) (hc:aW R k A u xs L) (hb:L.length*bytes<=140737488351232) :
  ∃ a cap,v=.slice a L.length cap/\ag R k bytes (fun b=>A b\/v.ownBlock=some b) u a L.length cap L:=by
 rcases Fw h with ⟨rfl,h0⟩ | ⟨g,cap,rfl,hcp,hB,hg,hcell⟩
 ·obtain rfl:L=[]:=List.length_eq_zero_iff.1 h0
  exact ⟨none,0,rfl,ag.nil _ _ _ _ (fun _=>rfl)⟩
 ·refine ⟨some ⟨g,0,none⟩,cap,rfl,rfl,hcp,(fun h=>by cases h),hb,fun _=>⟨g,0,rfl,hg,.inr rfl,fun i hi=>?_⟩⟩
  obtain ⟨cs,h1,h2⟩:=hc.2 i hi
  refine ⟨cs,hR.weak h1 (fun _ _ h=>.inl h),fun j y hj=>?_⟩
  have hjk:j<k:=by
   have:=(List.getElem?_eq_some_iff.1 hj).1
   rwa [hR.len h1] at this
  have hlt:i*k+j<L.length*k:=by
   have:(i+1)*k<=L.length*k:=Nat.mul_le_mul_right k hi
   rw [Nat.add_mul] at this
   omega
  rw [Nat.zero_add,(hcell (i*k+j) hlt).1,h2 j hjk,hj]
end
abbrev jg:=ByteArray×ByteArray×Int
abbrev gN:=ByteArray×ByteArray×Bool×Int
def abA (x:jg):List Value:=[.string x.1,.string x.2.1,.int .i64 x.2.2]
def abB (b:gN):List Value:=[.string b.1,.string b.2.1,.bool b.2.2.1,.int .i64 b.2.2.2]
def ZB (x:jg):Prop:=x.1.size<=140737488355328/\x.2.1.size<=140737488355328
def okB (b:gN):Prop:=b.1.size<=140737488355328/\b.2.1.size<=140737488355328
abbrev mY:=nU abA 3 ZB
abbrev kv:=nU abB 4 okB
theorem mY.get {w:World} {a:Option Addr} {L:List jg} (h:mY w a L) {k:Nat} (hk:k<L.length):∃ B off,a=some ⟨B,off,none⟩/\B<w.heap.size/\w.cell? ⟨B,off+k*3,none⟩=some (.string (L.getD k default).1)/\w.cell? ⟨B,off+k*3+1,none⟩=some (.string (L.getD k default).2.1)/\w.cell? ⟨B,off+k*3+2,none⟩=some (.int .i64 (L.getD k default).2.2)/\ZB (L.getD k default):=by
 obtain ⟨B,off,e,hB,hc,ho⟩:=nU.get h hk
 exact ⟨B,off,e,hB,hc 0 _ rfl,hc 1 _ rfl,hc 2 _ rfl,ho⟩
theorem kv.get {w:World} {a:Option Addr} {L:List gN} (h:kv w a L) {k:Nat} (hk:k<L.length):∃ B off,a=some ⟨B,off,none⟩/\B<w.heap.size/\w.cell? ⟨B,off+k*4,none⟩=some (.string (L.getD k default).1)/\w.cell? ⟨B,off+k*4+1,none⟩=some (.string (L.getD k default).2.1)/\w.cell? ⟨B,off+k*4+2,none⟩=some (.bool (L.getD k default).2.2.1)/\w.cell? ⟨B,off+k*4+3,none⟩=some (.int .i64 (L.getD k default).2.2.2)/\okB (L.getD k default):=by
 obtain ⟨B,off,e,hB,hc,ho⟩:=nU.get h hk
 exact ⟨B,off,e,hB,hc 0 _ rfl,hc 1 _ rfl,hc 2 _ rfl,hc 3 _ rfl,ho⟩
def IZ (s:ByteArray):Bool:=s.toList.isEmpty
def Mk (x y:jg):Bool:=ay x.1 y.1 && (ay x.2.1 y.2.1 && (x.2.2 == y.2.2))
def lM (b:gN) (t:jg):Bool :=
 (b.2.2.2 == 0 || b.2.2.2 == t.2.2) && (ay b.1 t.1 || (IZ b.1 && b.2.2.1)) && (b.2.2.1 || ay b.2.1 t.2.1)
def mR (b:gN) (t:jg):jg :=
 (if b.2.2.1 && IZ b.1 then t.1 else b.1,if b.2.2.1 then t.2.1 else b.2.1,if b.2.2.2 == 0 then t.2.2 else b.2.2.2)
theorem zG1 (b:gN) (t:jg):Mk (mR b t) t=lM b t:=by
 obtain ⟨bk,bv,ba,be⟩:=b
 obtain ⟨tk,tv,te⟩:=t
 simp only [mR,Mk,lM]
 cases ba <;> cases hn:IZ bk <;> cases h0:(be == 0) <;> simp [LF,Bool.and_comm,Bool.and_assoc,Bool.and_left_comm]
def rT (B:List gN) (t:jg):Bool:=B.any fun b=>lM b t
def qH (e:Int) (B:List gN) (t:jg):Bool:=(t.2.2 == e) && !rT B t
def jw (L:List jg) (B:List gN):jg×Bool:=match L.find? (qH 1 B) with | some t=>(t,true) | none=>(default,false)
theorem Pf {α:Type} [Inhabited α] {L:List α} {p:α->Bool} (h:∀ j,j<L.length->p (L.getD j default)=false):L.find? p=none:=by
 rw [List.find?_eq_none]
 intro x hx
 obtain ⟨j,hj,rfl⟩:=List.mem_iff_getElem.1 hx
 have:=h j hj
 rw [gK _ _ hj] at this
 simp [this]
theorem J9 {α:Type} [Inhabited α] {L:List α} {p:α->Bool} {k:Nat} (hk:k<L.length) (h:∀ j,j<k->p (L.getD j default)=false) (hy:p (L.getD k default)=true):L.find? p=some (L.getD k default):=by
 rw [List.find?_eq_some_iff_getElem]
 refine ⟨hy,k,hk,?_,?_⟩
 ·rw [gK _ _ hk]
 ·intro j hj
  have:=h j hj
  rw [gK _ _ (by omega)] at this
  simp [this]
theorem TS {α:Type} [Inhabited α] {L:List α} {p:α->Bool} (h:∀ j,j<L.length->p (L.getD j default)=false):L.any p=false:=by
 rw [List.any_eq_false]
 intro x hx
 obtain ⟨j,hj,rfl⟩:=List.mem_iff_getElem.1 hx
 have:=h j hj
 rw [gK _ _ hj] at this
 simp [this]
theorem PG {α:Type} [Inhabited α] {L:List α} {p:α->Bool} {k:Nat} (hk:k<L.length) (hy:p (L.getD k default)=true):L.any p=true:=by
 rw [List.any_eq_true]
 rw [gK _ _ hk] at hy
 exact ⟨_,List.getElem_mem hk,hy⟩
theorem take_succ {α:Type} [Inhabited α] {L:List α} {k:Nat} (hk:k<L.length):L.take (k+1)=L.take k++[L.getD k default]:=by
 rw [List.take_succ_eq_append_getElem hk,gK _ _ hk]
end Go.Proofs.YtgikfenllgldoaaGreat
