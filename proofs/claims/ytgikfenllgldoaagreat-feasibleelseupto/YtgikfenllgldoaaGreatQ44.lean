/- volume.done: something is done to the claim and the volume of each pick that an iterator gives, in turn. Conditions: the state lies as is said of it; the iterator gives its picks, and what is done does as is said of it. -/
import Derived.RangeFuncLeaves
import Derived.RangeFuncNested
import Derived.Test.YtgikfenllgldoaaGreatQ41
set_option linter.unusedSimpArgs false
set_option maxRecDepth 100000
set_option maxHeartbeats 32000000
namespace Go.Proofs.YtgikfenllgldoaaGreat
open Go.Proofs.Tryz
open Go.RowKit Go.Shelf Go.Maps
attribute [local go_sem] Oper.semAt_some
def WX (ok:aT->aD->Bool) (tc tv:aT->aD->ByteArray) (u:World) (Bc oc Bv ov:Nat) (c:aT) (v:aD) (e:Ending) (u':World):Prop :=
 ∃ z,Below u.heap.size u z/\((ok c v=false/\e=.returned (.bool false)/\u'=z)\/(ok c v=true/\e=.returned (.bool true)/\u'=(z.setCell ⟨Bc,oc+3,none⟩ (.string (tc c v))).setCell ⟨Bv,ov+4,none⟩ (.string (tv c v))))
def WY (f:VC->bH->Except Int VC) (S Sp:List (Nat×jJ)->Prop) (m:Where) (w:World) (x:aP) (e:Ending) (u:World):Prop :=
 (∃ ys st g0 g1 g2 g3 g4 g5,S ys/\runD f (gL x,iR x) (ys.map (fun y=>y.2.1))=.ok st/\e=.returned (.tuple #[.agg #[g0,g1,g2,g3,g4,g5],.int .i64 0])/\vX m w u g0 g1 g2 g3 g4 g5 x st) \/
 (∃ ys k,Sp ys/\runD f (gL x,iR x) (ys.map (fun y=>y.2.1))=.error k/\e=.returned (.tuple #[.agg Z6.toArray,.int .i64 k])/\(k=2\/k=5)/\Below w.heap.size w u)
def su (W2:World) (b2:Option Addr) (k2 c2:Nat) (b3:Option Addr) (k3 c3:Nat) (x:aP) (X Y mc mv:Nat) (u:World):Prop :=
 aV u mc ((iR x).map Prod.fst)/\aV u mv ((gL x).map Prod.fst)/\af u X [.slice b3 k3 c3,.map (some mc)]/\af u Y [.slice b2 k2 c2,.map (some mv)]/\X≠Y/\X≠mc/\X≠mv/\Y≠mc/\Y≠mv/\Below W2.heap.size W2 u/\W2.heap.size<=X/\W2.heap.size<=Y/\W2.heap.size<=mc/\W2.heap.size<=mv
theorem Row.Mm {α:Type} [Inhabited α] {R:bI α} {k:Nat} (hR:aJ R k) {bytes:Nat} {A:Where} {w0 u:World} {e:TypeId} {a:Option Addr} {n c:Nat} {L:List α} (h:Row R k A w0 u e (.slice a n c) L) (hb:L.length*bytes<=140737488351232):ag R k bytes (fun b=>A b\/az w0 b) u a n c L:=by
 obtain ⟨a',cap,e1,h3⟩:=h.sl hR hb
 simp only [Value.slice.injEq] at e1
 obtain ⟨e1,e2,e3⟩:=e1
 rw [e1,e2,e3]
 exact h3
theorem zHC (gf fd:Nat) (lb:Array Value) (ok:aT->aD->Bool) (tc tv:aT->aD->ByteArray) (S Sp:List (Nat×jJ)->Prop) (N:Nat) (m:Where) (cs:List Value) (x:aP) (w:World) (hm:∀ b,m b->b<w.heap.size) (h:Hid (aK m w cs x))
  (hen:∀ args w,(callFunc gf args).run prog w=.ok (.enter gf args) w) (hed:∀ args w,(callFunc fd args).run prog w=.ok (.enter fd args) w)
  (hseq:Hid (∀ W,Below w.heap.size w W->SeqStopsK Fence.wide 8 prog gf lb Kk (Below w.heap.size) S Sp N W))
  (hdo:Hid (∀ Bc oc Bv ov cs A c vs A' v u,aA A u cs c->ai A' u vs v->u.rangeAt Bc oc cs->u.rangeAt Bv ov vs->Bc<u.heap.size->Bv<u.heap.size->Bc≠Bv->u.frozen? ⟨Bc,oc+3,none⟩=false->u.frozen? ⟨Bv,ov+4,none⟩=false->Calls prog fd #[.pointer (some ⟨Bc,oc,none⟩),.pointer (some ⟨Bv,ov,none⟩)] u (WX ok tc tv u Bc oc Bv ov c v)))
  (hts:Hid (∀ c v,c.1.size<=140737488355328->v.1.size<=140737488355328->(tc c v).size<=140737488355328/\(tv c v).size<=140737488355328)) :
  Calls prog 35 #[.agg cs.toArray,.func (.func gf) #[] lb,.func (.func fd) #[] #[]] w (WY (stepD ok tc tv) S Sp m w x):=by
 obtain ⟨⟨a0,n0,m0⟩,⟨a1,n1,m1⟩,⟨a2,n2,m2⟩,⟨a3,n3,m3⟩,⟨a4,n4,m4⟩,⟨a5,n5,m5⟩,rfl,s0,s1,s2,s3,s4,s5⟩:=h.out.out
 simp only at s0 s1 s2 s3 s4 s5
 obtain ⟨W1,hW1⟩:∃ W,W=(((w.alloc (.cells #[.slice a0 n0 m0,.slice a1 n1 m1,.slice a2 n2 m2,.slice a3 n3 m3,.slice a4 n4 m4,.slice a5 n5 m5] 29)).alloc (.cells #[.func (.func fd) #[] #[]] 101)).alloc (.cells #[.slice none 0 0,.slice none 0 0,.slice none 0 0,.slice none 0 0,.slice none 0 0,.slice none 0 0] 29)).alloc (.cells #[.int .i64 0] 50):=⟨_,rfl⟩
 have B1:Below w.heap.size w W1:=by rw [hW1];go_grown
 have HS:Hid (aK m W1 [.slice a0 n0 m0,.slice a1 n1 m1,.slice a2 n2 m2,.slice a3 n3 m3,.slice a4 n4 m4,.slice a5 n5 m5] x):=aK.ae.kept h.out (Kept.below B1)
 have hz1:W1.heap.size=w.heap.size+1+1+1+1:=by rw [hW1];simp
 have q1:af W1 w.heap.size [.slice a0 n0 m0,.slice a1 n1 m1,.slice a2 n2 m2,.slice a3 n3 m3,.slice a4 n4 m4,.slice a5 n5 m5]:=by rw [hW1];exact (af.new w 29 _).on (by go_grown)
 obtain ⟨f0,f1,f2,f3,f4,f5⟩:W1.cell? ⟨w.heap.size,0,none⟩=some (.slice a0 n0 m0)/\W1.cell? ⟨w.heap.size,1,none⟩=some (.slice a1 n1 m1)/\W1.cell? ⟨w.heap.size,2,none⟩=some (.slice a2 n2 m2)/\W1.cell? ⟨w.heap.size,3,none⟩=some (.slice a3 n3 m3)/\W1.cell? ⟨w.heap.size,4,none⟩=some (.slice a4 n4 m4)/\W1.cell? ⟨w.heap.size,5,none⟩=some (.slice a5 n5 m5):=⟨(q1.2 0 _ rfl).1,(q1.2 1 _ rfl).1,(q1.2 2 _ rfl).1,(q1.2 3 _ rfl).1,(q1.2 4 _ rfl).1,(q1.2 5 _ rfl).1⟩
 have HQ:Hid (af W1 w.heap.size [.slice a0 n0 m0,.slice a1 n1 m1,.slice a2 n2 m2,.slice a3 n3 m3,.slice a4 n4 m4,.slice a5 n5 m5]/\af W1 (w.heap.size+1) [.func (.func fd) #[] #[]]/\af W1 (w.heap.size+1+1) [.slice none 0 0,.slice none 0 0,.slice none 0 0,.slice none 0 0,.slice none 0 0,.slice none 0 0]/\af W1 (w.heap.size+1+1+1) [.int .i64 0]):=by
  refine ⟨q1,?_,?_,?_⟩
  ·rw [hW1];have:=(af.new (w.alloc (.cells #[.slice a0 n0 m0,.slice a1 n1 m1,.slice a2 n2 m2,.slice a3 n3 m3,.slice a4 n4 m4,.slice a5 n5 m5] 29))  101 [.func (.func fd) #[] #[]]).on (((Below.refl _ _).alloc (Nat.le_refl _) (.cells #[.slice none 0 0,.slice none 0 0,.slice none 0 0,.slice none 0 0,.slice none 0 0,.slice none 0 0] 29)).alloc (by simp) (.cells #[.int .i64 0] 50));simpa using this
  ·rw [hW1];have:=(af.new ((w.alloc (.cells #[.slice a0 n0 m0,.slice a1 n1 m1,.slice a2 n2 m2,.slice a3 n3 m3,.slice a4 n4 m4,.slice a5 n5 m5] 29)).alloc (.cells #[.func (.func fd) #[] #[]] 101)) 29 [.slice none 0 0,.slice none 0 0,.slice none 0 0,.slice none 0 0,.slice none 0 0,.slice none 0 0]).on ((Below.refl _ _).alloc (Nat.le_refl _) (.cells #[.int .i64 0] 50));simpa using this
  ·rw [hW1];have:=af.new (((w.alloc (.cells #[.slice a0 n0 m0,.slice a1 n1 m1,.slice a2 n2 m2,.slice a3 n3 m3,.slice a4 n4 m4,.slice a5 n5 m5] 29)).alloc (.cells #[.func (.func fd) #[] #[]] 101)).alloc (.cells #[.slice none 0 0,.slice none 0 0,.slice none 0 0,.slice none 0 0,.slice none 0 0,.slice none 0 0] 29))  50 [.int .i64 0];simpa using this
 have HC:=zHb _ _ x W1 HS
 have hlt1:w.heap.size<W1.heap.size:=by omega
 have y2:(gL x).length*72<=140737488351232:=by have h1:=s2.2.2.2.1;have h2:(gL x).length=n2:=s2.1;omega
 have y3:(iR x).length*56<=140737488351232:=by have h1:=s3.2.2.2.1;have h2:(iR x).length=n3:=s3.1;omega
 clear h s0 s1 s2 s3 s4 s5 q1
 let QQ:Exit->Act->World->Prop:=bodyPost prog Tryz.f35 (fun _ _=>True)
 refine (callsIn_wide (n:=9)).1 ?_
 refine callsIn_of_wp_marks func35 rfl trivial ?_
 refine (wpIn_wide (n:=9)).2 ?_
 simp only [ntmps35,List.size_toArray,List.length_cons,List.length_nil,Nat.reduceAdd,Nat.reduceSub,Array.replicate_succ,Array.replicate_zero,List.push_toArray,List.append_toArray,List.nil_append,List.cons_append]
 go_upto_region 1 with fail
 rw [<- hW1]
 clear hW1
 go_wp2_with fail
 refine HC.mono ?_
 rintro e u ⟨g0,g1,g2,g3,g4,g5,rfl,hSt⟩
 clear HC f0 f1 f2 f3 f4 f5
 have d1:Below W1.heap.size W1 u:=hSt.1.below
 obtain ⟨b0,k0,c0,rfl⟩:=hSt.1.head
 obtain ⟨b1,k1,c1,rfl⟩:=hSt.2.1.head
 obtain ⟨b2,k2,c2,rfl⟩:=hSt.2.2.1.head
 obtain ⟨b3,k3,c3,rfl⟩:=hSt.2.2.2.1.head
 obtain ⟨b4,k4,c4,rfl⟩:=hSt.2.2.2.2.1.head
 obtain ⟨b5,k5,c5,rfl⟩:=hSt.2.2.2.2.2.1.head
 have qu:=HQ.out.1.on d1
 obtain ⟨f0,f1,f2,f3,f4,f5⟩:(u.cell? ⟨w.heap.size,0,none⟩=some (.slice a0 n0 m0)/\u.frozen? ⟨w.heap.size,0,none⟩=false)/\(u.cell? ⟨w.heap.size,1,none⟩=some (.slice a1 n1 m1)/\u.frozen? ⟨w.heap.size,1,none⟩=false)/\(u.cell? ⟨w.heap.size,2,none⟩=some (.slice a2 n2 m2)/\u.frozen? ⟨w.heap.size,2,none⟩=false)/\(u.cell? ⟨w.heap.size,3,none⟩=some (.slice a3 n3 m3)/\u.frozen? ⟨w.heap.size,3,none⟩=false)/\(u.cell? ⟨w.heap.size,4,none⟩=some (.slice a4 n4 m4)/\u.frozen? ⟨w.heap.size,4,none⟩=false)/\(u.cell? ⟨w.heap.size,5,none⟩=some (.slice a5 n5 m5)/\u.frozen? ⟨w.heap.size,5,none⟩=false):=⟨qu.2 0 _ rfl,qu.2 1 _ rfl,qu.2 2 _ rfl,qu.2 3 _ rfl,qu.2 4 _ rfl,qu.2 5 _ rfl⟩
 have aa8:w.heap.size<u.heap.size:=Nat.lt_of_lt_of_le hlt1 d1.size
 have HT:Hid (Nk m W1 u (.slice b0 k0 c0) (.slice b1 k1 c1) (.slice b2 k2 c2) (.slice b3 k3 c3) (.slice b4 k4 c4) (.slice b5 k5 c5) x):=hSt
 clear hSt
 go_upto_region 2 with fail
 clear f0 f1 f2 f3 f4 f5
 obtain ⟨W2,hW2⟩:∃ W,W=u.setCells w.heap.size 0 [.slice b0 k0 c0,.slice b1 k1 c1,.slice b2 k2 c2,.slice b3 k3 c3,.slice b4 k4 c4,.slice b5 k5 c5]:=⟨_,rfl⟩
 have kU:Kept (fun b=>b≠w.heap.size) u W2:=by rw [hW2];exact dP (fun h=>h rfl)
 have bU:Below w.heap.size w W2:=by rw [hW2];exact cu (ah B1 d1) (Nat.le_refl _)
 have p0:af W2 w.heap.size [.slice b0 k0 c0,.slice b1 k1 c1,.slice b2 k2 c2,.slice b3 k3 c3,.slice b4 k4 c4,.slice b5 k5 c5]:=by rw [hW2];exact dL qu rfl
 have HT2:Hid (Nk m w W2 (.slice b0 k0 c0) (.slice b1 k1 c1) (.slice b2 k2 c2) (.slice b3 k3 c3) (.slice b4 k4 c4) (.slice b5 k5 c5) x):=⟨(HT.out.1.from aj.ae B1 (fun b hb=>⟨hb.1,hm b hb.1⟩)).bO aj.ae bU (kU.weak (fun b hb e=>hb.elim (fun h9=>by have:=h9.2;omega) (fun h9=>by have:=HT.out.1.lt h9;omega))),(HT.out.2.1.from av.ae B1 (fun b hb=>⟨hb.1,hm b hb.1⟩)).bO av.ae bU (kU.weak (fun b hb e=>hb.elim (fun h9=>by have:=h9.2;omega) (fun h9=>by have:=HT.out.2.1.lt h9;omega))),(HT.out.2.2.1.from ai.ae B1 (fun b hb=>⟨hb.1,hm b hb.1⟩)).bO ai.ae bU (kU.weak (fun b hb e=>hb.elim (fun h9=>by have:=h9.2;omega) (fun h9=>by have:=HT.out.2.2.1.lt h9;omega))),(HT.out.2.2.2.1.from aA.ae B1 (fun b hb=>⟨hb.1,hm b hb.1⟩)).bO aA.ae bU (kU.weak (fun b hb e=>hb.elim (fun h9=>by have:=h9.2;omega) (fun h9=>by have:=HT.out.2.2.2.1.lt h9;omega))),(HT.out.2.2.2.2.1.from aH.ae B1 (fun b hb=>⟨hb.1,hm b hb.1⟩)).bO aH.ae bU (kU.weak (fun b hb e=>hb.elim (fun h9=>by have:=h9.2;omega) (fun h9=>by have:=HT.out.2.2.2.2.1.lt h9;omega))),(HT.out.2.2.2.2.2.1.from aI.ae B1 (fun b hb=>⟨hb.1,hm b hb.1⟩)).bO aI.ae bU (kU.weak (fun b hb e=>hb.elim (fun h9=>by have:=h9.2;omega) (fun h9=>by have:=HT.out.2.2.2.2.2.1.lt h9;omega))),HT.out.2.2.2.2.2.2.1,HT.out.2.2.2.2.2.2.2⟩
 have qQ:Hid (af W2 w.heap.size [.slice b0 k0 c0,.slice b1 k1 c1,.slice b2 k2 c2,.slice b3 k3 c3,.slice b4 k4 c4,.slice b5 k5 c5]/\af W2 (w.heap.size+1) [.func (.func fd) #[] #[]]/\af W2 (w.heap.size+1+1) [.slice none 0 0,.slice none 0 0,.slice none 0 0,.slice none 0 0,.slice none 0 0,.slice none 0 0]/\af W2 (w.heap.size+1+1+1) [.int .i64 0]):=⟨p0,(HQ.out.2.1.on d1).kept kU (by omega),(HQ.out.2.2.1.on d1).kept kU (by omega),(HQ.out.2.2.2.on d1).kept kU (by omega)⟩
 have HB2:Hid (Below w.heap.size w W2):=bU
 have HF:Hid (∀ g∈[Value.slice b0 k0 c0,.slice b1 k1 c1,.slice b2 k2 c2,.slice b3 k3 c3,.slice b4 k4 c4,.slice b5 k5 c5],∀ b,g.ownBlock=some b->w.heap.size+4<=b/\b<W2.heap.size):=by
  intro g hg b hb
  simp only [List.mem_cons,List.not_mem_nil,or_false] at hg
  rcases hg with rfl | rfl | rfl | rfl | rfl | rfl
  ·have h1:=HT.out.1.lt hb;have h2:=HT2.out.1.lt hb;omega
  ·have h1:=HT.out.2.1.lt hb;have h2:=HT2.out.2.1.lt hb;omega
  ·have h1:=HT.out.2.2.1.lt hb;have h2:=HT2.out.2.2.1.lt hb;omega
  ·have h1:=HT.out.2.2.2.1.lt hb;have h2:=HT2.out.2.2.2.1.lt hb;omega
  ·have h1:=HT.out.2.2.2.2.1.lt hb;have h2:=HT2.out.2.2.2.2.1.lt hb;omega
  ·have h1:=HT.out.2.2.2.2.2.1.lt hb;have h2:=HT2.out.2.2.2.2.2.1.lt hb;omega
 have h4W:w.heap.size+4<=W2.heap.size:=by have:=d1.size;have:=kU.1;omega
 have eW:((((((u.setCell ⟨w.heap.size,0,none⟩ (.slice b0 k0 c0)).setCell ⟨w.heap.size,1,none⟩ (.slice b1 k1 c1)).setCell ⟨w.heap.size,2,none⟩ (.slice b2 k2 c2)).setCell ⟨w.heap.size,3,none⟩ (.slice b3 k3 c3)).setCell ⟨w.heap.size,4,none⟩ (.slice b4 k4 c4)).setCell ⟨w.heap.size,5,none⟩ (.slice b5 k5 c5))=W2:=hW2.symm
 rw [eW]
 clear eW hW2 HQ HT kU qu d1 aa8 HS
 have nM:Hid (∀ z,Below W2.heap.size W2 z->ag ai 5 72 (fun b=>(m b/\b<w.heap.size)\/az w b) z b2 k2 c2 (gL x)):=fun z hz=>(HT2.out.2.2.1.Mm ai.ae y2).on ai.ae hz
 have vO:Hid (∀ z,Below W2.heap.size W2 z->ag aA 4 56 (fun b=>(m b/\b<w.heap.size)\/az w b) z b3 k3 c3 (iR x)):=fun z hz=>(HT2.out.2.2.2.1.Mm aA.ae y3).on aA.ae hz
 have HL:Hid (∀ z,Below W2.heap.size W2 z->z.cell? ⟨w.heap.size,2,none⟩=some (.slice b2 k2 c2)/\z.cell? ⟨w.heap.size,3,none⟩=some (.slice b3 k3 c3)):=fun z hz=>⟨((p0.on hz).2 2 _ rfl).1,((p0.on hz).2 3 _ rfl).1⟩
 clear p0 bU
 go_cut [8,9,16,17,18,19,20,21] (fun x8 x9 _ _ _ _ _ _ wx=>∃ X Y mc mv:Nat,x8=.pointer (some ⟨X,0,none⟩)/\x9=.pointer (some ⟨Y,0,none⟩)/\Hid (su W2 b2 k2 c2 b3 k3 c3 x X Y mc mv wx))
 case first =>
  refine t0 (fun z=>Below W2.heap.size W2 z) (Below.refl _ _).drew (fun gH=>?_)
  have hb0:Below W2.heap.size W2 W2.drew:=(Below.refl _ _).drew
  generalize hwd:W2.drew=wd at gH hb0 |-
  clear hwd
  try go_frame
  refine' tk 0 ?_ ?_;rotate_left
  ·intro u hu;obtain ⟨f2,f3⟩:=HL.out u hu;clear hu;go_simp;try with_reducible rfl
  try go_frame
  refine' tk 1 ?_ ?_;rotate_left
  ·intro u hu;obtain ⟨f2,f3⟩:=HL.out u hu;clear hu;go_simp;try with_reducible rfl
  try go_frame
  refine' tk 3 ?_ ?_;rotate_left
  ·intro u hu;obtain ⟨f2,f3⟩:=HL.out u hu;clear hu;go_simp;try with_reducible rfl
  try go_frame
  refine' tk 4 ?_ ?_;rotate_left
  ·intro u hu;obtain ⟨f2,f3⟩:=HL.out u hu;clear hu;go_simp;try with_reducible rfl
  try go_frame
  refine Zj 2 6 7 (fun K hK=>?_) (fun K hK=>?_) (fun K hK=>?_)
  ·
   have hC:=y8 b3 k3 c3 _ (iR x) wd (vO.out wd hb0)
   go_simp
   refine hC.mono ?_
   rintro e u1 ⟨mc,rfl,nc,loc,d1⟩
   clear hC
   have hb1:Below W2.heap.size W2 u1:=ah hb0 d1
   have fG:W2.heap.size<=mc:=Nat.le_trans hb0.size loc
   go_wp2_with fail
   refine hK.out _ _ hb1 (fun gI=>?_)
   clear hK K gH;have gH:=gI;clear gI
   try go_frame
   clear d1 loc
   refine Zj 5 6 7 (fun K hK=>?_) (fun K hK=>?_) (fun K hK=>?_)
   ·
    have hC:=qE b2 k2 c2 _ (gL x) u1 (nM.out u1 hb1)
    go_simp
    refine hC.mono ?_
    rintro e u2 ⟨mv,rfl,nv,fQ,d2⟩
    clear hC
    have hb2:Below W2.heap.size W2 u2:=ah hb1 d2
    have eO:W2.heap.size<=mv:=Nat.le_trans hb1.size fQ
    have nc:=nc.on d2
    go_wp2_with fail
    refine hK.out _ _ hb2 (fun gI=>?_)
    clear hK K gH;have gH:=gI;clear gI
    try go_frame
    clear d2 fQ
    refine tb 6 7 (fun K hK=>?_) (fun K hK=>?_)
    ·
     go_simp
     obtain ⟨u3,hu3⟩:∃ u3,u3=u2.alloc (.cells #[.slice none 0 0,.map none] 121):=⟨_,rfl⟩
     have d3:Below u2.heap.size u2 u3:=by rw [hu3];exact (Below.refl _ _).alloc (Nat.le_refl _) _
     have hb3:Below W2.heap.size W2 u3:=ah hb2 d3
     have iy:af u3 u2.heap.size [.slice none 0 0,.map none]:=by rw [hu3];exact af.new u2 121 [.slice none 0 0,.map none]
     have xc:u2.heap.size≠mc:=by have:=nc.lt;omega
     have xv:u2.heap.size≠mv:=by have:=nv.lt;omega
     have hX1:W2.heap.size<=u2.heap.size:=hb2.size
     have nc:=nc.on d3
     have nv:=nv.on d3
     refine hK.out _ _ (hu3 ▸ hb3) (fun gI=>?_)
     rw [<- hu3] at gI |-
     clear hK K gH;have gH:=gI;clear gI
     try go_frame
     clear hu3 d3
     generalize u2.heap.size=X at iy hX1 xc xv |-
     have zX:=iy
     clear iy
     refine tr 7 (fun K hK=>?_)
     go_simp
     obtain ⟨u4,kJ⟩:∃ u4,u4=u3.alloc (.cells #[.slice none 0 0,.map none] 127):=⟨_,rfl⟩
     have d4:Below u3.heap.size u3 u4:=by rw [kJ];exact (Below.refl _ _).alloc (Nat.le_refl _) _
     have hb4:Below W2.heap.size W2 u4:=ah hb3 d4
     have iw:af u4 u3.heap.size [.slice none 0 0,.map none]:=by rw [kJ];exact af.new u3 127 [.slice none 0 0,.map none]
     have yc:u3.heap.size≠mc:=by have:=nc.lt;omega
     have yv:u3.heap.size≠mv:=by have:=nv.lt;omega
     have xy:X≠u3.heap.size:=by have:=zX.1;omega
     have dV:W2.heap.size<=u3.heap.size:=hb3.size
     have nc:=nc.on d4
     have nv:=nv.on d4
     have zX:=zX.on d4
     refine hK.out _ _ (kJ ▸ hb4) (fun gI=>?_)
     rw [<- kJ] at gI |-
     clear hK K gH;have gH:=gI;clear gI
     try go_frame
     clear kJ d4
     generalize u3.heap.size=Y at iw dV yc yv xy |-
     have zY:=iw
     clear iw
     obtain ⟨UX,dC⟩:∃ U,U=u4.setCells X 0 [.slice b3 k3 c3,.map (some mc)]:=⟨_,rfl⟩
     refine ts 8 (fun K hK=>?_)
     refine fP (by rfl) (wp_store_mid 121 _ _ rfl X 0 #[.slice b3 k3 c3,.map (some mc)] rfl rfl zX.there (by kernel_rfl) (by simp [Value.oneCell']) ?_)
     have dS:Kept (fun b=>b≠X) u4 UX:=by rw [dC];exact dP (fun h=>h rfl)
     have fq:Below W2.heap.size W2 UX:=by rw [dC];exact cu hb4 hX1
     have zX:af UX X [.slice b3 k3 c3,.map (some mc)]:=by rw [dC];exact dL zX rfl
     have zY:=zY.kept dS (fun e=>xy e.symm)
     have nc:=nc.kept dS (fun e=>xc e.symm)
     have nv:=nv.kept dS (fun e=>xv e.symm)
     have iE:UX=u4.setCells X 0 (#[.slice b3 k3 c3,.map (some mc)]:Array Value).toList:=by rw [dC]
     rw [<- iE]
     refine hK.out undef _ fq (fun gI=>?_)
     clear hK K gH;have gH:=gI;clear gI
     try go_frame
     clear dC iE dS
     obtain ⟨UY,dB⟩:∃ U,U=UX.setCells Y 0 [.slice b2 k2 c2,.map (some mv)]:=⟨_,rfl⟩
     refine ts 9 (fun K hK=>?_)
     refine fP (by rfl) (wp_store_mid 127 _ _ rfl Y 0 #[.slice b2 k2 c2,.map (some mv)] rfl rfl zY.there (by kernel_rfl) (by simp [Value.oneCell']) ?_)
     have dR:Kept (fun b=>b≠Y) UX UY:=by rw [dB];exact dP (fun h=>h rfl)
     have fe:Below W2.heap.size W2 UY:=by rw [dB];exact cu fq dV
     have zY:af UY Y [.slice b2 k2 c2,.map (some mv)]:=by rw [dB];exact dL zY rfl
     have zX:=zX.kept dR (fun e=>xy e)
     have nc:=nc.kept dR (fun e=>yc e.symm)
     have nv:=nv.kept dR (fun e=>yv e.symm)
     have iD:UY=UX.setCells Y 0 (#[.slice b2 k2 c2,.map (some mv)]:Array Value).toList:=by rw [dB]
     rw [<- iD]
     refine hK.out undef _ fe (fun gI=>?_)
     clear hK K gH;have gH:=gI;clear gI
     try go_frame
     clear dB iD dR
     refine tz ?_
     have HG:Hid (su W2 b2 k2 c2 b3 k3 c3 x X Y mc mv UY):=⟨nc,nv,zX,zY,xy,xc,xv,yc,yv,fe,hX1,dV,fG,eO⟩
     clear zX zY nc nv xy xc xv yc yv fq fe hX1 dV fG eO gH
     go_wp2_with fail
     go_meet
     exact ⟨X,Y,mc,mv,rfl,rfl,HG⟩
    ·
     go_simp
     obtain ⟨u5,uF⟩:∃ u5,u5=u2.alloc (.cells #[.slice none 0 0,.map none] 127):=⟨_,rfl⟩
     have d5:Below u2.heap.size u2 u5:=by rw [uF];exact (Below.refl _ _).alloc (Nat.le_refl _) _
     have hb5:Below W2.heap.size W2 u5:=ah hb2 d5
     have iw:af u5 u2.heap.size [.slice none 0 0,.map none]:=by rw [uF];exact af.new u2 127 [.slice none 0 0,.map none]
     have yc:u2.heap.size≠mc:=by have:=nc.lt;omega
     have yv:u2.heap.size≠mv:=by have:=nv.lt;omega
     have dV:W2.heap.size<=u2.heap.size:=hb2.size
     have nc:=nc.on d5
     have nv:=nv.on d5
     refine hK.out _ _ (uF ▸ hb5) (fun gI=>?_)
     rw [<- uF] at gI |-
     clear hK K gH;have gH:=gI;clear gI
     try go_frame
     clear uF d5
     generalize u2.heap.size=Y at iw dV yc yv |-
     have zY:=iw
     clear iw
     refine tr 6 (fun K hK=>?_)
     go_simp
     obtain ⟨u6,Ga⟩:∃ u6,u6=u5.alloc (.cells #[.slice none 0 0,.map none] 121):=⟨_,rfl⟩
     have d6:Below u5.heap.size u5 u6:=by rw [Ga];exact (Below.refl _ _).alloc (Nat.le_refl _) _
     have hb6:Below W2.heap.size W2 u6:=ah hb5 d6
     have iy:af u6 u5.heap.size [.slice none 0 0,.map none]:=by rw [Ga];exact af.new u5 121 [.slice none 0 0,.map none]
     have xc:u5.heap.size≠mc:=by have:=nc.lt;omega
     have xv:u5.heap.size≠mv:=by have:=nv.lt;omega
     have xy:u5.heap.size≠Y:=by have:=zY.1;omega
     have hX1:W2.heap.size<=u5.heap.size:=hb5.size
     have nc:=nc.on d6
     have nv:=nv.on d6
     have zY:=zY.on d6
     refine hK.out _ _ (Ga ▸ hb6) (fun gI=>?_)
     rw [<- Ga] at gI |-
     clear hK K gH;have gH:=gI;clear gI
     try go_frame
     clear Ga d6
     generalize u5.heap.size=X at iy hX1 xc xv xy |-
     have zX:=iy
     clear iy
     obtain ⟨UX,dC⟩:∃ U,U=u6.setCells X 0 [.slice b3 k3 c3,.map (some mc)]:=⟨_,rfl⟩
     refine ts 8 (fun K hK=>?_)
     refine fP (by rfl) (wp_store_mid 121 _ _ rfl X 0 #[.slice b3 k3 c3,.map (some mc)] rfl rfl zX.there (by kernel_rfl) (by simp [Value.oneCell']) ?_)
     have dS:Kept (fun b=>b≠X) u6 UX:=by rw [dC];exact dP (fun h=>h rfl)
     have fq:Below W2.heap.size W2 UX:=by rw [dC];exact cu hb6 hX1
     have zX:af UX X [.slice b3 k3 c3,.map (some mc)]:=by rw [dC];exact dL zX rfl
     have zY:=zY.kept dS (fun e=>xy e.symm)
     have nc:=nc.kept dS (fun e=>xc e.symm)
     have nv:=nv.kept dS (fun e=>xv e.symm)
     have iE:UX=u6.setCells X 0 (#[.slice b3 k3 c3,.map (some mc)]:Array Value).toList:=by rw [dC]
     rw [<- iE]
     refine hK.out undef _ fq (fun gI=>?_)
     clear hK K gH;have gH:=gI;clear gI
     try go_frame
     clear dC iE dS
     obtain ⟨UY,dB⟩:∃ U,U=UX.setCells Y 0 [.slice b2 k2 c2,.map (some mv)]:=⟨_,rfl⟩
     refine ts 9 (fun K hK=>?_)
     refine fP (by rfl) (wp_store_mid 127 _ _ rfl Y 0 #[.slice b2 k2 c2,.map (some mv)] rfl rfl zY.there (by kernel_rfl) (by simp [Value.oneCell']) ?_)
     have dR:Kept (fun b=>b≠Y) UX UY:=by rw [dB];exact dP (fun h=>h rfl)
     have fe:Below W2.heap.size W2 UY:=by rw [dB];exact cu fq dV
     have zY:af UY Y [.slice b2 k2 c2,.map (some mv)]:=by rw [dB];exact dL zY rfl
     have zX:=zX.kept dR (fun e=>xy e)
     have nc:=nc.kept dR (fun e=>yc e.symm)
     have nv:=nv.kept dR (fun e=>yv e.symm)
     have iD:UY=UX.setCells Y 0 (#[.slice b2 k2 c2,.map (some mv)]:Array Value).toList:=by rw [dB]
     rw [<- iD]
     refine hK.out undef _ fe (fun gI=>?_)
     clear hK K gH;have gH:=gI;clear gI
     try go_frame
     clear dB iD dR
     refine tz ?_
     have HG:Hid (su W2 b2 k2 c2 b3 k3 c3 x X Y mc mv UY):=⟨nc,nv,zX,zY,xy,xc,xv,yc,yv,fe,hX1,dV,fG,eO⟩
     clear zX zY nc nv xy xc xv yc yv fq fe hX1 dV fG eO gH
     go_wp2_with fail
     go_meet
     exact ⟨X,Y,mc,mv,rfl,rfl,HG⟩
   ·
    go_simp
    obtain ⟨u7,uE⟩:∃ u7,u7=u1.alloc (.cells #[.slice none 0 0,.map none] 121):=⟨_,rfl⟩
    have d7:Below u1.heap.size u1 u7:=by rw [uE];exact (Below.refl _ _).alloc (Nat.le_refl _) _
    have iK:Below W2.heap.size W2 u7:=ah hb1 d7
    have iy:af u7 u1.heap.size [.slice none 0 0,.map none]:=by rw [uE];exact af.new u1 121 [.slice none 0 0,.map none]
    have xc:u1.heap.size≠mc:=by have:=nc.lt;omega
    have hX1:W2.heap.size<=u1.heap.size:=hb1.size
    have nc:=nc.on d7
    refine hK.out _ _ (uE ▸ iK) (fun gI=>?_)
    rw [<- uE] at gI |-
    clear hK K gH;have gH:=gI;clear gI
    try go_frame
    clear uE d7
    generalize u1.heap.size=X at iy hX1 xc |-
    have zX:=iy
    clear iy
    refine tb 5 7 (fun K hK=>?_) (fun K hK=>?_)
    ·
     have hC:=qE b2 k2 c2 _ (gL x) u7 (nM.out u7 iK)
     go_simp
     refine hC.mono ?_
     rintro e u8 ⟨mv,rfl,nv,fQ,d8⟩
     clear hC
     have yf:Below W2.heap.size W2 u8:=ah iK d8
     have eO:W2.heap.size<=mv:=Nat.le_trans iK.size fQ
     have xv:X≠mv:=by have:=zX.1;omega
     have zX:=zX.on d8
     have nc:=nc.on d8
     go_wp2_with fail
     refine hK.out _ _ yf (fun gI=>?_)
     clear hK K gH;have gH:=gI;clear gI
     try go_frame
     clear d8 fQ
     refine tr 7 (fun K hK=>?_)
     go_simp
     obtain ⟨u9,F9⟩:∃ u9,u9=u8.alloc (.cells #[.slice none 0 0,.map none] 127):=⟨_,rfl⟩
     have d9:Below u8.heap.size u8 u9:=by rw [F9];exact (Below.refl _ _).alloc (Nat.le_refl _) _
     have ou:Below W2.heap.size W2 u9:=ah yf d9
     have iw:af u9 u8.heap.size [.slice none 0 0,.map none]:=by rw [F9];exact af.new u8 127 [.slice none 0 0,.map none]
     have yc:u8.heap.size≠mc:=by have:=nc.lt;omega
     have yv:u8.heap.size≠mv:=by have:=nv.lt;omega
     have xy:X≠u8.heap.size:=by have:=zX.1;omega
     have dV:W2.heap.size<=u8.heap.size:=yf.size
     have nc:=nc.on d9
     have nv:=nv.on d9
     have zX:=zX.on d9
     refine hK.out _ _ (F9 ▸ ou) (fun gI=>?_)
     rw [<- F9] at gI |-
     clear hK K gH;have gH:=gI;clear gI
     try go_frame
     clear F9 d9
     generalize u8.heap.size=Y at iw dV yc yv xy |-
     have zY:=iw
     clear iw
     obtain ⟨UX,dC⟩:∃ U,U=u9.setCells X 0 [.slice b3 k3 c3,.map (some mc)]:=⟨_,rfl⟩
     refine ts 8 (fun K hK=>?_)
     refine fP (by rfl) (wp_store_mid 121 _ _ rfl X 0 #[.slice b3 k3 c3,.map (some mc)] rfl rfl zX.there (by kernel_rfl) (by simp [Value.oneCell']) ?_)
     have dS:Kept (fun b=>b≠X) u9 UX:=by rw [dC];exact dP (fun h=>h rfl)
     have fq:Below W2.heap.size W2 UX:=by rw [dC];exact cu ou hX1
     have zX:af UX X [.slice b3 k3 c3,.map (some mc)]:=by rw [dC];exact dL zX rfl
     have zY:=zY.kept dS (fun e=>xy e.symm)
     have nc:=nc.kept dS (fun e=>xc e.symm)
     have nv:=nv.kept dS (fun e=>xv e.symm)
     have iE:UX=u9.setCells X 0 (#[.slice b3 k3 c3,.map (some mc)]:Array Value).toList:=by rw [dC]
     rw [<- iE]
     refine hK.out undef _ fq (fun gI=>?_)
     clear hK K gH;have gH:=gI;clear gI
     try go_frame
     clear dC iE dS
     obtain ⟨UY,dB⟩:∃ U,U=UX.setCells Y 0 [.slice b2 k2 c2,.map (some mv)]:=⟨_,rfl⟩
     refine ts 9 (fun K hK=>?_)
     refine fP (by rfl) (wp_store_mid 127 _ _ rfl Y 0 #[.slice b2 k2 c2,.map (some mv)] rfl rfl zY.there (by kernel_rfl) (by simp [Value.oneCell']) ?_)
     have dR:Kept (fun b=>b≠Y) UX UY:=by rw [dB];exact dP (fun h=>h rfl)
     have fe:Below W2.heap.size W2 UY:=by rw [dB];exact cu fq dV
     have zY:af UY Y [.slice b2 k2 c2,.map (some mv)]:=by rw [dB];exact dL zY rfl
     have zX:=zX.kept dR (fun e=>xy e)
     have nc:=nc.kept dR (fun e=>yc e.symm)
     have nv:=nv.kept dR (fun e=>yv e.symm)
     have iD:UY=UX.setCells Y 0 (#[.slice b2 k2 c2,.map (some mv)]:Array Value).toList:=by rw [dB]
     rw [<- iD]
     refine hK.out undef _ fe (fun gI=>?_)
     clear hK K gH;have gH:=gI;clear gI
     try go_frame
     clear dB iD dR
     refine tz ?_
     have HG:Hid (su W2 b2 k2 c2 b3 k3 c3 x X Y mc mv UY):=⟨nc,nv,zX,zY,xy,xc,xv,yc,yv,fe,hX1,dV,fG,eO⟩
     clear zX zY nc nv xy xc xv yc yv fq fe hX1 dV fG eO gH
     go_wp2_with fail
     go_meet
     exact ⟨X,Y,mc,mv,rfl,rfl,HG⟩
    ·
     go_simp
     obtain ⟨u10,pQ⟩:∃ u10,u10=u7.alloc (.cells #[.slice none 0 0,.map none] 127):=⟨_,rfl⟩
     have d10:Below u7.heap.size u7 u10:=by rw [pQ];exact (Below.refl _ _).alloc (Nat.le_refl _) _
     have oH:Below W2.heap.size W2 u10:=ah iK d10
     have iw:af u10 u7.heap.size [.slice none 0 0,.map none]:=by rw [pQ];exact af.new u7 127 [.slice none 0 0,.map none]
     have yc:u7.heap.size≠mc:=by have:=nc.lt;omega
     have xy:X≠u7.heap.size:=by have:=zX.1;omega
     have dV:W2.heap.size<=u7.heap.size:=iK.size
     have nc:=nc.on d10
     have zX:=zX.on d10
     refine hK.out _ _ (pQ ▸ oH) (fun gI=>?_)
     rw [<- pQ] at gI |-
     clear hK K gH;have gH:=gI;clear gI
     try go_frame
     clear pQ d10
     generalize u7.heap.size=Y at iw dV yc xy |-
     have zY:=iw
     clear iw
     refine tr 5 (fun K hK=>?_)
     have hC:=qE b2 k2 c2 _ (gL x) u10 (nM.out u10 oH)
     go_simp
     refine hC.mono ?_
     rintro e u11 ⟨mv,rfl,nv,fQ,d11⟩
     clear hC
     have oG:Below W2.heap.size W2 u11:=ah oH d11
     have eO:W2.heap.size<=mv:=Nat.le_trans oH.size fQ
     have xv:X≠mv:=by have:=zX.1;omega
     have zX:=zX.on d11
     have yv:Y≠mv:=by have:=zY.1;omega
     have zY:=zY.on d11
     have nc:=nc.on d11
     go_wp2_with fail
     refine hK.out _ _ oG (fun gI=>?_)
     clear hK K gH;have gH:=gI;clear gI
     try go_frame
     clear d11 fQ
     obtain ⟨UX,dC⟩:∃ U,U=u11.setCells X 0 [.slice b3 k3 c3,.map (some mc)]:=⟨_,rfl⟩
     refine ts 8 (fun K hK=>?_)
     refine fP (by rfl) (wp_store_mid 121 _ _ rfl X 0 #[.slice b3 k3 c3,.map (some mc)] rfl rfl zX.there (by kernel_rfl) (by simp [Value.oneCell']) ?_)
     have dS:Kept (fun b=>b≠X) u11 UX:=by rw [dC];exact dP (fun h=>h rfl)
     have fq:Below W2.heap.size W2 UX:=by rw [dC];exact cu oG hX1
     have zX:af UX X [.slice b3 k3 c3,.map (some mc)]:=by rw [dC];exact dL zX rfl
     have zY:=zY.kept dS (fun e=>xy e.symm)
     have nc:=nc.kept dS (fun e=>xc e.symm)
     have nv:=nv.kept dS (fun e=>xv e.symm)
     have iE:UX=u11.setCells X 0 (#[.slice b3 k3 c3,.map (some mc)]:Array Value).toList:=by rw [dC]
     rw [<- iE]
     refine hK.out undef _ fq (fun gI=>?_)
     clear hK K gH;have gH:=gI;clear gI
     try go_frame
     clear dC iE dS
     obtain ⟨UY,dB⟩:∃ U,U=UX.setCells Y 0 [.slice b2 k2 c2,.map (some mv)]:=⟨_,rfl⟩
     refine ts 9 (fun K hK=>?_)
     refine fP (by rfl) (wp_store_mid 127 _ _ rfl Y 0 #[.slice b2 k2 c2,.map (some mv)] rfl rfl zY.there (by kernel_rfl) (by simp [Value.oneCell']) ?_)
     have dR:Kept (fun b=>b≠Y) UX UY:=by rw [dB];exact dP (fun h=>h rfl)
     have fe:Below W2.heap.size W2 UY:=by rw [dB];exact cu fq dV
     have zY:af UY Y [.slice b2 k2 c2,.map (some mv)]:=by rw [dB];exact dL zY rfl
     have zX:=zX.kept dR (fun e=>xy e)
     have nc:=nc.kept dR (fun e=>yc e.symm)
     have nv:=nv.kept dR (fun e=>yv e.symm)
     have iD:UY=UX.setCells Y 0 (#[.slice b2 k2 c2,.map (some mv)]:Array Value).toList:=by rw [dB]
     rw [<- iD]
     refine hK.out undef _ fe (fun gI=>?_)
     clear hK K gH;have gH:=gI;clear gI
     try go_frame
     clear dB iD dR
     refine tz ?_
     have HG:Hid (su W2 b2 k2 c2 b3 k3 c3 x X Y mc mv UY):=⟨nc,nv,zX,zY,xy,xc,xv,yc,yv,fe,hX1,dV,fG,eO⟩
     clear zX zY nc nv xy xc xv yc yv fq fe hX1 dV fG eO gH
     go_wp2_with fail
     go_meet
     exact ⟨X,Y,mc,mv,rfl,rfl,HG⟩
   ·
    go_simp
    obtain ⟨u12,zN⟩:∃ u12,u12=u1.alloc (.cells #[.slice none 0 0,.map none] 127):=⟨_,rfl⟩
    have d12:Below u1.heap.size u1 u12:=by rw [zN];exact (Below.refl _ _).alloc (Nat.le_refl _) _
    have pV:Below W2.heap.size W2 u12:=ah hb1 d12
    have iw:af u12 u1.heap.size [.slice none 0 0,.map none]:=by rw [zN];exact af.new u1 127 [.slice none 0 0,.map none]
    have yc:u1.heap.size≠mc:=by have:=nc.lt;omega
    have dV:W2.heap.size<=u1.heap.size:=hb1.size
    have nc:=nc.on d12
    refine hK.out _ _ (zN ▸ pV) (fun gI=>?_)
    rw [<- zN] at gI |-
    clear hK K gH;have gH:=gI;clear gI
    try go_frame
    clear zN d12
    generalize u1.heap.size=Y at iw dV yc |-
    have zY:=iw
    clear iw
    refine tb 5 6 (fun K hK=>?_) (fun K hK=>?_)
    ·
     have hC:=qE b2 k2 c2 _ (gL x) u12 (nM.out u12 pV)
     go_simp
     refine hC.mono ?_
     rintro e u13 ⟨mv,rfl,nv,fQ,d13⟩
     clear hC
     have rq:Below W2.heap.size W2 u13:=ah pV d13
     have eO:W2.heap.size<=mv:=Nat.le_trans pV.size fQ
     have yv:Y≠mv:=by have:=zY.1;omega
     have zY:=zY.on d13
     have nc:=nc.on d13
     go_wp2_with fail
     refine hK.out _ _ rq (fun gI=>?_)
     clear hK K gH;have gH:=gI;clear gI
     try go_frame
     clear d13 fQ
     refine tr 6 (fun K hK=>?_)
     go_simp
     obtain ⟨u14,zM⟩:∃ u14,u14=u13.alloc (.cells #[.slice none 0 0,.map none] 121):=⟨_,rfl⟩
     have d14:Below u13.heap.size u13 u14:=by rw [zM];exact (Below.refl _ _).alloc (Nat.le_refl _) _
     have SS:Below W2.heap.size W2 u14:=ah rq d14
     have iy:af u14 u13.heap.size [.slice none 0 0,.map none]:=by rw [zM];exact af.new u13 121 [.slice none 0 0,.map none]
     have xc:u13.heap.size≠mc:=by have:=nc.lt;omega
     have xv:u13.heap.size≠mv:=by have:=nv.lt;omega
     have xy:u13.heap.size≠Y:=by have:=zY.1;omega
     have hX1:W2.heap.size<=u13.heap.size:=rq.size
     have nc:=nc.on d14
     have nv:=nv.on d14
     have zY:=zY.on d14
     refine hK.out _ _ (zM ▸ SS) (fun gI=>?_)
     rw [<- zM] at gI |-
     clear hK K gH;have gH:=gI;clear gI
     try go_frame
     clear zM d14
     generalize u13.heap.size=X at iy hX1 xc xv xy |-
     have zX:=iy
     clear iy
     obtain ⟨UX,dC⟩:∃ U,U=u14.setCells X 0 [.slice b3 k3 c3,.map (some mc)]:=⟨_,rfl⟩
     refine ts 8 (fun K hK=>?_)
     refine fP (by rfl) (wp_store_mid 121 _ _ rfl X 0 #[.slice b3 k3 c3,.map (some mc)] rfl rfl zX.there (by kernel_rfl) (by simp [Value.oneCell']) ?_)
     have dS:Kept (fun b=>b≠X) u14 UX:=by rw [dC];exact dP (fun h=>h rfl)
     have fq:Below W2.heap.size W2 UX:=by rw [dC];exact cu SS hX1
     have zX:af UX X [.slice b3 k3 c3,.map (some mc)]:=by rw [dC];exact dL zX rfl
     have zY:=zY.kept dS (fun e=>xy e.symm)
     have nc:=nc.kept dS (fun e=>xc e.symm)
     have nv:=nv.kept dS (fun e=>xv e.symm)
     have iE:UX=u14.setCells X 0 (#[.slice b3 k3 c3,.map (some mc)]:Array Value).toList:=by rw [dC]
     rw [<- iE]
     refine hK.out undef _ fq (fun gI=>?_)
     clear hK K gH;have gH:=gI;clear gI
     try go_frame
     clear dC iE dS
     obtain ⟨UY,dB⟩:∃ U,U=UX.setCells Y 0 [.slice b2 k2 c2,.map (some mv)]:=⟨_,rfl⟩
     refine ts 9 (fun K hK=>?_)
     refine fP (by rfl) (wp_store_mid 127 _ _ rfl Y 0 #[.slice b2 k2 c2,.map (some mv)] rfl rfl zY.there (by kernel_rfl) (by simp [Value.oneCell']) ?_)
     have dR:Kept (fun b=>b≠Y) UX UY:=by rw [dB];exact dP (fun h=>h rfl)
     have fe:Below W2.heap.size W2 UY:=by rw [dB];exact cu fq dV
     have zY:af UY Y [.slice b2 k2 c2,.map (some mv)]:=by rw [dB];exact dL zY rfl
     have zX:=zX.kept dR (fun e=>xy e)
     have nc:=nc.kept dR (fun e=>yc e.symm)
     have nv:=nv.kept dR (fun e=>yv e.symm)
     have iD:UY=UX.setCells Y 0 (#[.slice b2 k2 c2,.map (some mv)]:Array Value).toList:=by rw [dB]
     rw [<- iD]
     refine hK.out undef _ fe (fun gI=>?_)
     clear hK K gH;have gH:=gI;clear gI
     try go_frame
     clear dB iD dR
     refine tz ?_
     have HG:Hid (su W2 b2 k2 c2 b3 k3 c3 x X Y mc mv UY):=⟨nc,nv,zX,zY,xy,xc,xv,yc,yv,fe,hX1,dV,fG,eO⟩
     clear zX zY nc nv xy xc xv yc yv fq fe hX1 dV fG eO gH
     go_wp2_with fail
     go_meet
     exact ⟨X,Y,mc,mv,rfl,rfl,HG⟩
    ·
     go_simp
     obtain ⟨u15,zL⟩:∃ u15,u15=u12.alloc (.cells #[.slice none 0 0,.map none] 121):=⟨_,rfl⟩
     have d15:Below u12.heap.size u12 u15:=by rw [zL];exact (Below.refl _ _).alloc (Nat.le_refl _) _
     have DN:Below W2.heap.size W2 u15:=ah pV d15
     have iy:af u15 u12.heap.size [.slice none 0 0,.map none]:=by rw [zL];exact af.new u12 121 [.slice none 0 0,.map none]
     have xc:u12.heap.size≠mc:=by have:=nc.lt;omega
     have xy:u12.heap.size≠Y:=by have:=zY.1;omega
     have hX1:W2.heap.size<=u12.heap.size:=pV.size
     have nc:=nc.on d15
     have zY:=zY.on d15
     refine hK.out _ _ (zL ▸ DN) (fun gI=>?_)
     rw [<- zL] at gI |-
     clear hK K gH;have gH:=gI;clear gI
     try go_frame
     clear zL d15
     generalize u12.heap.size=X at iy hX1 xc xy |-
     have zX:=iy
     clear iy
     refine tr 5 (fun K hK=>?_)
     have hC:=qE b2 k2 c2 _ (gL x) u15 (nM.out u15 DN)
     go_simp
     refine hC.mono ?_
     rintro e u16 ⟨mv,rfl,nv,fQ,d16⟩
     clear hC
     have SQ:Below W2.heap.size W2 u16:=ah DN d16
     have eO:W2.heap.size<=mv:=Nat.le_trans DN.size fQ
     have yv:Y≠mv:=by have:=zY.1;omega
     have zY:=zY.on d16
     have xv:X≠mv:=by have:=zX.1;omega
     have zX:=zX.on d16
     have nc:=nc.on d16
     go_wp2_with fail
     refine hK.out _ _ SQ (fun gI=>?_)
     clear hK K gH;have gH:=gI;clear gI
     try go_frame
     clear d16 fQ
     obtain ⟨UX,dC⟩:∃ U,U=u16.setCells X 0 [.slice b3 k3 c3,.map (some mc)]:=⟨_,rfl⟩
     refine ts 8 (fun K hK=>?_)
     refine fP (by rfl) (wp_store_mid 121 _ _ rfl X 0 #[.slice b3 k3 c3,.map (some mc)] rfl rfl zX.there (by kernel_rfl) (by simp [Value.oneCell']) ?_)
     have dS:Kept (fun b=>b≠X) u16 UX:=by rw [dC];exact dP (fun h=>h rfl)
     have fq:Below W2.heap.size W2 UX:=by rw [dC];exact cu SQ hX1
     have zX:af UX X [.slice b3 k3 c3,.map (some mc)]:=by rw [dC];exact dL zX rfl
     have zY:=zY.kept dS (fun e=>xy e.symm)
     have nc:=nc.kept dS (fun e=>xc e.symm)
     have nv:=nv.kept dS (fun e=>xv e.symm)
     have iE:UX=u16.setCells X 0 (#[.slice b3 k3 c3,.map (some mc)]:Array Value).toList:=by rw [dC]
     rw [<- iE]
     refine hK.out undef _ fq (fun gI=>?_)
     clear hK K gH;have gH:=gI;clear gI
     try go_frame
     clear dC iE dS
     obtain ⟨UY,dB⟩:∃ U,U=UX.setCells Y 0 [.slice b2 k2 c2,.map (some mv)]:=⟨_,rfl⟩
     refine ts 9 (fun K hK=>?_)
     refine fP (by rfl) (wp_store_mid 127 _ _ rfl Y 0 #[.slice b2 k2 c2,.map (some mv)] rfl rfl zY.there (by kernel_rfl) (by simp [Value.oneCell']) ?_)
     have dR:Kept (fun b=>b≠Y) UX UY:=by rw [dB];exact dP (fun h=>h rfl)
     have fe:Below W2.heap.size W2 UY:=by rw [dB];exact cu fq dV
     have zY:af UY Y [.slice b2 k2 c2,.map (some mv)]:=by rw [dB];exact dL zY rfl
     have zX:=zX.kept dR (fun e=>xy e)
     have nc:=nc.kept dR (fun e=>yc e.symm)
     have nv:=nv.kept dR (fun e=>yv e.symm)
     have iD:UY=UX.setCells Y 0 (#[.slice b2 k2 c2,.map (some mv)]:Array Value).toList:=by rw [dB]
     rw [<- iD]
     refine hK.out undef _ fe (fun gI=>?_)
     clear hK K gH;have gH:=gI;clear gI
     try go_frame
     clear dB iD dR
     refine tz ?_
     have HG:Hid (su W2 b2 k2 c2 b3 k3 c3 x X Y mc mv UY):=⟨nc,nv,zX,zY,xy,xc,xv,yc,yv,fe,hX1,dV,fG,eO⟩
     clear zX zY nc nv xy xc xv yc yv fq fe hX1 dV fG eO gH
     go_wp2_with fail
     go_meet
     exact ⟨X,Y,mc,mv,rfl,rfl,HG⟩
  ·
   go_simp
   obtain ⟨u17,zK⟩:∃ u17,u17=wd.alloc (.cells #[.slice none 0 0,.map none] 121):=⟨_,rfl⟩
   have d17:Below wd.heap.size wd u17:=by rw [zK];exact (Below.refl _ _).alloc (Nat.le_refl _) _
   have xE:Below W2.heap.size W2 u17:=ah hb0 d17
   have iy:af u17 wd.heap.size [.slice none 0 0,.map none]:=by rw [zK];exact af.new wd 121 [.slice none 0 0,.map none]
   have hX1:W2.heap.size<=wd.heap.size:=hb0.size
   refine hK.out _ _ (zK ▸ xE) (fun gI=>?_)
   rw [<- zK] at gI |-
   clear hK K gH;have gH:=gI;clear gI
   try go_frame
   clear zK d17
   generalize wd.heap.size=X at iy hX1  |-
   have zX:=iy
   clear iy
   refine tb 2 7 (fun K hK=>?_) (fun K hK=>?_)
   ·
    have hC:=y8 b3 k3 c3 _ (iR x) u17 (vO.out u17 xE)
    go_simp
    refine hC.mono ?_
    rintro e u18 ⟨mc,rfl,nc,loc,d18⟩
    clear hC
    have xD:Below W2.heap.size W2 u18:=ah xE d18
    have fG:W2.heap.size<=mc:=Nat.le_trans xE.size loc
    have xc:X≠mc:=by have:=zX.1;omega
    have zX:=zX.on d18
    go_wp2_with fail
    refine hK.out _ _ xD (fun gI=>?_)
    clear hK K gH;have gH:=gI;clear gI
    try go_frame
    clear d18 loc
    refine tb 5 7 (fun K hK=>?_) (fun K hK=>?_)
    ·
     have hC:=qE b2 k2 c2 _ (gL x) u18 (nM.out u18 xD)
     go_simp
     refine hC.mono ?_
     rintro e u19 ⟨mv,rfl,nv,fQ,d19⟩
     clear hC
     have JY:Below W2.heap.size W2 u19:=ah xD d19
     have eO:W2.heap.size<=mv:=Nat.le_trans xD.size fQ
     have xv:X≠mv:=by have:=zX.1;omega
     have zX:=zX.on d19
     have nc:=nc.on d19
     go_wp2_with fail
     refine hK.out _ _ JY (fun gI=>?_)
     clear hK K gH;have gH:=gI;clear gI
     try go_frame
     clear d19 fQ
     refine tr 7 (fun K hK=>?_)
     go_simp
     obtain ⟨u20,zJ⟩:∃ u20,u20=u19.alloc (.cells #[.slice none 0 0,.map none] 127):=⟨_,rfl⟩
     have d20:Below u19.heap.size u19 u20:=by rw [zJ];exact (Below.refl _ _).alloc (Nat.le_refl _) _
     have SN:Below W2.heap.size W2 u20:=ah JY d20
     have iw:af u20 u19.heap.size [.slice none 0 0,.map none]:=by rw [zJ];exact af.new u19 127 [.slice none 0 0,.map none]
     have yc:u19.heap.size≠mc:=by have:=nc.lt;omega
     have yv:u19.heap.size≠mv:=by have:=nv.lt;omega
     have xy:X≠u19.heap.size:=by have:=zX.1;omega
     have dV:W2.heap.size<=u19.heap.size:=JY.size
     have nc:=nc.on d20
     have nv:=nv.on d20
     have zX:=zX.on d20
     refine hK.out _ _ (zJ ▸ SN) (fun gI=>?_)
     rw [<- zJ] at gI |-
     clear hK K gH;have gH:=gI;clear gI
     try go_frame
     clear zJ d20
     generalize u19.heap.size=Y at iw dV yc yv xy |-
     have zY:=iw
     clear iw
     obtain ⟨UX,dC⟩:∃ U,U=u20.setCells X 0 [.slice b3 k3 c3,.map (some mc)]:=⟨_,rfl⟩
     refine ts 8 (fun K hK=>?_)
     refine fP (by rfl) (wp_store_mid 121 _ _ rfl X 0 #[.slice b3 k3 c3,.map (some mc)] rfl rfl zX.there (by kernel_rfl) (by simp [Value.oneCell']) ?_)
     have dS:Kept (fun b=>b≠X) u20 UX:=by rw [dC];exact dP (fun h=>h rfl)
     have fq:Below W2.heap.size W2 UX:=by rw [dC];exact cu SN hX1
     have zX:af UX X [.slice b3 k3 c3,.map (some mc)]:=by rw [dC];exact dL zX rfl
     have zY:=zY.kept dS (fun e=>xy e.symm)
     have nc:=nc.kept dS (fun e=>xc e.symm)
     have nv:=nv.kept dS (fun e=>xv e.symm)
     have iE:UX=u20.setCells X 0 (#[.slice b3 k3 c3,.map (some mc)]:Array Value).toList:=by rw [dC]
     rw [<- iE]
     refine hK.out undef _ fq (fun gI=>?_)
     clear hK K gH;have gH:=gI;clear gI
     try go_frame
     clear dC iE dS
     obtain ⟨UY,dB⟩:∃ U,U=UX.setCells Y 0 [.slice b2 k2 c2,.map (some mv)]:=⟨_,rfl⟩
     refine ts 9 (fun K hK=>?_)
     refine fP (by rfl) (wp_store_mid 127 _ _ rfl Y 0 #[.slice b2 k2 c2,.map (some mv)] rfl rfl zY.there (by kernel_rfl) (by simp [Value.oneCell']) ?_)
     have dR:Kept (fun b=>b≠Y) UX UY:=by rw [dB];exact dP (fun h=>h rfl)
     have fe:Below W2.heap.size W2 UY:=by rw [dB];exact cu fq dV
     have zY:af UY Y [.slice b2 k2 c2,.map (some mv)]:=by rw [dB];exact dL zY rfl
     have zX:=zX.kept dR (fun e=>xy e)
     have nc:=nc.kept dR (fun e=>yc e.symm)
     have nv:=nv.kept dR (fun e=>yv e.symm)
     have iD:UY=UX.setCells Y 0 (#[.slice b2 k2 c2,.map (some mv)]:Array Value).toList:=by rw [dB]
     rw [<- iD]
     refine hK.out undef _ fe (fun gI=>?_)
     clear hK K gH;have gH:=gI;clear gI
     try go_frame
     clear dB iD dR
     refine tz ?_
     have HG:Hid (su W2 b2 k2 c2 b3 k3 c3 x X Y mc mv UY):=⟨nc,nv,zX,zY,xy,xc,xv,yc,yv,fe,hX1,dV,fG,eO⟩
     clear zX zY nc nv xy xc xv yc yv fq fe hX1 dV fG eO gH
     go_wp2_with fail
     go_meet
     exact ⟨X,Y,mc,mv,rfl,rfl,HG⟩
    ·
     go_simp
     obtain ⟨u21,hu21⟩:∃ u21,u21=u18.alloc (.cells #[.slice none 0 0,.map none] 127):=⟨_,rfl⟩
     have d21:Below u18.heap.size u18 u21:=by rw [hu21];exact (Below.refl _ _).alloc (Nat.le_refl _) _
     have DL:Below W2.heap.size W2 u21:=ah xD d21
     have iw:af u21 u18.heap.size [.slice none 0 0,.map none]:=by rw [hu21];exact af.new u18 127 [.slice none 0 0,.map none]
     have yc:u18.heap.size≠mc:=by have:=nc.lt;omega
     have xy:X≠u18.heap.size:=by have:=zX.1;omega
     have dV:W2.heap.size<=u18.heap.size:=xD.size
     have nc:=nc.on d21
     have zX:=zX.on d21
     refine hK.out _ _ (hu21 ▸ DL) (fun gI=>?_)
     rw [<- hu21] at gI |-
     clear hK K gH;have gH:=gI;clear gI
     try go_frame
     clear hu21 d21
     generalize u18.heap.size=Y at iw dV yc xy |-
     have zY:=iw
     clear iw
     refine tr 5 (fun K hK=>?_)
     have hC:=qE b2 k2 c2 _ (gL x) u21 (nM.out u21 DL)
     go_simp
     refine hC.mono ?_
     rintro e u22 ⟨mv,rfl,nv,fQ,d22⟩
     clear hC
     have SL:Below W2.heap.size W2 u22:=ah DL d22
     have eO:W2.heap.size<=mv:=Nat.le_trans DL.size fQ
     have xv:X≠mv:=by have:=zX.1;omega
     have zX:=zX.on d22
     have yv:Y≠mv:=by have:=zY.1;omega
     have zY:=zY.on d22
     have nc:=nc.on d22
     go_wp2_with fail
     refine hK.out _ _ SL (fun gI=>?_)
     clear hK K gH;have gH:=gI;clear gI
     try go_frame
     clear d22 fQ
     obtain ⟨UX,dC⟩:∃ U,U=u22.setCells X 0 [.slice b3 k3 c3,.map (some mc)]:=⟨_,rfl⟩
     refine ts 8 (fun K hK=>?_)
     refine fP (by rfl) (wp_store_mid 121 _ _ rfl X 0 #[.slice b3 k3 c3,.map (some mc)] rfl rfl zX.there (by kernel_rfl) (by simp [Value.oneCell']) ?_)
     have dS:Kept (fun b=>b≠X) u22 UX:=by rw [dC];exact dP (fun h=>h rfl)
     have fq:Below W2.heap.size W2 UX:=by rw [dC];exact cu SL hX1
     have zX:af UX X [.slice b3 k3 c3,.map (some mc)]:=by rw [dC];exact dL zX rfl
     have zY:=zY.kept dS (fun e=>xy e.symm)
     have nc:=nc.kept dS (fun e=>xc e.symm)
     have nv:=nv.kept dS (fun e=>xv e.symm)
     have iE:UX=u22.setCells X 0 (#[.slice b3 k3 c3,.map (some mc)]:Array Value).toList:=by rw [dC]
     rw [<- iE]
     refine hK.out undef _ fq (fun gI=>?_)
     clear hK K gH;have gH:=gI;clear gI
     try go_frame
     clear dC iE dS
     obtain ⟨UY,dB⟩:∃ U,U=UX.setCells Y 0 [.slice b2 k2 c2,.map (some mv)]:=⟨_,rfl⟩
     refine ts 9 (fun K hK=>?_)
     refine fP (by rfl) (wp_store_mid 127 _ _ rfl Y 0 #[.slice b2 k2 c2,.map (some mv)] rfl rfl zY.there (by kernel_rfl) (by simp [Value.oneCell']) ?_)
     have dR:Kept (fun b=>b≠Y) UX UY:=by rw [dB];exact dP (fun h=>h rfl)
     have fe:Below W2.heap.size W2 UY:=by rw [dB];exact cu fq dV
     have zY:af UY Y [.slice b2 k2 c2,.map (some mv)]:=by rw [dB];exact dL zY rfl
     have zX:=zX.kept dR (fun e=>xy e)
     have nc:=nc.kept dR (fun e=>yc e.symm)
     have nv:=nv.kept dR (fun e=>yv e.symm)
     have iD:UY=UX.setCells Y 0 (#[.slice b2 k2 c2,.map (some mv)]:Array Value).toList:=by rw [dB]
     rw [<- iD]
     refine hK.out undef _ fe (fun gI=>?_)
     clear hK K gH;have gH:=gI;clear gI
     try go_frame
     clear dB iD dR
     refine tz ?_
     have HG:Hid (su W2 b2 k2 c2 b3 k3 c3 x X Y mc mv UY):=⟨nc,nv,zX,zY,xy,xc,xv,yc,yv,fe,hX1,dV,fG,eO⟩
     clear zX zY nc nv xy xc xv yc yv fq fe hX1 dV fG eO gH
     go_wp2_with fail
     go_meet
     exact ⟨X,Y,mc,mv,rfl,rfl,HG⟩
   ·
    go_simp
    obtain ⟨u23,zI⟩:∃ u23,u23=u17.alloc (.cells #[.slice none 0 0,.map none] 127):=⟨_,rfl⟩
    have d23:Below u17.heap.size u17 u23:=by rw [zI];exact (Below.refl _ _).alloc (Nat.le_refl _) _
    have DK:Below W2.heap.size W2 u23:=ah xE d23
    have iw:af u23 u17.heap.size [.slice none 0 0,.map none]:=by rw [zI];exact af.new u17 127 [.slice none 0 0,.map none]
    have xy:X≠u17.heap.size:=by have:=zX.1;omega
    have dV:W2.heap.size<=u17.heap.size:=xE.size
    have zX:=zX.on d23
    refine hK.out _ _ (zI ▸ DK) (fun gI=>?_)
    rw [<- zI] at gI |-
    clear hK K gH;have gH:=gI;clear gI
    try go_frame
    clear zI d23
    generalize u17.heap.size=Y at iw dV xy |-
    have zY:=iw
    clear iw
    refine tr 2 (fun K hK=>?_)
    have hC:=y8 b3 k3 c3 _ (iR x) u23 (vO.out u23 DK)
    go_simp
    refine hC.mono ?_
    rintro e u24 ⟨mc,rfl,nc,loc,d24⟩
    clear hC
    have DJ:Below W2.heap.size W2 u24:=ah DK d24
    have fG:W2.heap.size<=mc:=Nat.le_trans DK.size loc
    have xc:X≠mc:=by have:=zX.1;omega
    have zX:=zX.on d24
    have yc:Y≠mc:=by have:=zY.1;omega
    have zY:=zY.on d24
    go_wp2_with fail
    refine hK.out _ _ DJ (fun gI=>?_)
    clear hK K gH;have gH:=gI;clear gI
    try go_frame
    clear d24 loc
    refine tr 5 (fun K hK=>?_)
    have hC:=qE b2 k2 c2 _ (gL x) u24 (nM.out u24 DJ)
    go_simp
    refine hC.mono ?_
    rintro e u25 ⟨mv,rfl,nv,fQ,d25⟩
    clear hC
    have SK:Below W2.heap.size W2 u25:=ah DJ d25
    have eO:W2.heap.size<=mv:=Nat.le_trans DJ.size fQ
    have xv:X≠mv:=by have:=zX.1;omega
    have zX:=zX.on d25
    have yv:Y≠mv:=by have:=zY.1;omega
    have zY:=zY.on d25
    have nc:=nc.on d25
    go_wp2_with fail
    refine hK.out _ _ SK (fun gI=>?_)
    clear hK K gH;have gH:=gI;clear gI
    try go_frame
    clear d25 fQ
    obtain ⟨UX,dC⟩:∃ U,U=u25.setCells X 0 [.slice b3 k3 c3,.map (some mc)]:=⟨_,rfl⟩
    refine ts 8 (fun K hK=>?_)
    refine fP (by rfl) (wp_store_mid 121 _ _ rfl X 0 #[.slice b3 k3 c3,.map (some mc)] rfl rfl zX.there (by kernel_rfl) (by simp [Value.oneCell']) ?_)
    have dS:Kept (fun b=>b≠X) u25 UX:=by rw [dC];exact dP (fun h=>h rfl)
    have fq:Below W2.heap.size W2 UX:=by rw [dC];exact cu SK hX1
    have zX:af UX X [.slice b3 k3 c3,.map (some mc)]:=by rw [dC];exact dL zX rfl
    have zY:=zY.kept dS (fun e=>xy e.symm)
    have nc:=nc.kept dS (fun e=>xc e.symm)
    have nv:=nv.kept dS (fun e=>xv e.symm)
    have iE:UX=u25.setCells X 0 (#[.slice b3 k3 c3,.map (some mc)]:Array Value).toList:=by rw [dC]
    rw [<- iE]
    refine hK.out undef _ fq (fun gI=>?_)
    clear hK K gH;have gH:=gI;clear gI
    try go_frame
    clear dC iE dS
    obtain ⟨UY,dB⟩:∃ U,U=UX.setCells Y 0 [.slice b2 k2 c2,.map (some mv)]:=⟨_,rfl⟩
    refine ts 9 (fun K hK=>?_)
    refine fP (by rfl) (wp_store_mid 127 _ _ rfl Y 0 #[.slice b2 k2 c2,.map (some mv)] rfl rfl zY.there (by kernel_rfl) (by simp [Value.oneCell']) ?_)
    have dR:Kept (fun b=>b≠Y) UX UY:=by rw [dB];exact dP (fun h=>h rfl)
    have fe:Below W2.heap.size W2 UY:=by rw [dB];exact cu fq dV
    have zY:af UY Y [.slice b2 k2 c2,.map (some mv)]:=by rw [dB];exact dL zY rfl
    have zX:=zX.kept dR (fun e=>xy e)
    have nc:=nc.kept dR (fun e=>yc e.symm)
    have nv:=nv.kept dR (fun e=>yv e.symm)
    have iD:UY=UX.setCells Y 0 (#[.slice b2 k2 c2,.map (some mv)]:Array Value).toList:=by rw [dB]
    rw [<- iD]
    refine hK.out undef _ fe (fun gI=>?_)
    clear hK K gH;have gH:=gI;clear gI
    try go_frame
    clear dB iD dR
    refine tz ?_
    have HG:Hid (su W2 b2 k2 c2 b3 k3 c3 x X Y mc mv UY):=⟨nc,nv,zX,zY,xy,xc,xv,yc,yv,fe,hX1,dV,fG,eO⟩
    clear zX zY nc nv xy xc xv yc yv fq fe hX1 dV fG eO gH
    go_wp2_with fail
    go_meet
    exact ⟨X,Y,mc,mv,rfl,rfl,HG⟩
  ·
   go_simp
   obtain ⟨u26,zH⟩:∃ u26,u26=wd.alloc (.cells #[.slice none 0 0,.map none] 127):=⟨_,rfl⟩
   have d26:Below wd.heap.size wd u26:=by rw [zH];exact (Below.refl _ _).alloc (Nat.le_refl _) _
   have xC:Below W2.heap.size W2 u26:=ah hb0 d26
   have iw:af u26 wd.heap.size [.slice none 0 0,.map none]:=by rw [zH];exact af.new wd 127 [.slice none 0 0,.map none]
   have dV:W2.heap.size<=wd.heap.size:=hb0.size
   refine hK.out _ _ (zH ▸ xC) (fun gI=>?_)
   rw [<- zH] at gI |-
   clear hK K gH;have gH:=gI;clear gI
   try go_frame
   clear zH d26
   generalize wd.heap.size=Y at iw dV  |-
   have zY:=iw
   clear iw
   refine tb 2 6 (fun K hK=>?_) (fun K hK=>?_)
   ·
    have hC:=y8 b3 k3 c3 _ (iR x) u26 (vO.out u26 xC)
    go_simp
    refine hC.mono ?_
    rintro e u27 ⟨mc,rfl,nc,loc,d27⟩
    clear hC
    have xB:Below W2.heap.size W2 u27:=ah xC d27
    have fG:W2.heap.size<=mc:=Nat.le_trans xC.size loc
    have yc:Y≠mc:=by have:=zY.1;omega
    have zY:=zY.on d27
    go_wp2_with fail
    refine hK.out _ _ xB (fun gI=>?_)
    clear hK K gH;have gH:=gI;clear gI
    try go_frame
    clear d27 loc
    refine tb 5 6 (fun K hK=>?_) (fun K hK=>?_)
    ·
     have hC:=qE b2 k2 c2 _ (gL x) u27 (nM.out u27 xB)
     go_simp
     refine hC.mono ?_
     rintro e u28 ⟨mv,rfl,nv,fQ,d28⟩
     clear hC
     have JX:Below W2.heap.size W2 u28:=ah xB d28
     have eO:W2.heap.size<=mv:=Nat.le_trans xB.size fQ
     have yv:Y≠mv:=by have:=zY.1;omega
     have zY:=zY.on d28
     have nc:=nc.on d28
     go_wp2_with fail
     refine hK.out _ _ JX (fun gI=>?_)
     clear hK K gH;have gH:=gI;clear gI
     try go_frame
     clear d28 fQ
     refine tr 6 (fun K hK=>?_)
     go_simp
     obtain ⟨u29,zG⟩:∃ u29,u29=u28.alloc (.cells #[.slice none 0 0,.map none] 121):=⟨_,rfl⟩
     have d29:Below u28.heap.size u28 u29:=by rw [zG];exact (Below.refl _ _).alloc (Nat.le_refl _) _
     have SI:Below W2.heap.size W2 u29:=ah JX d29
     have iy:af u29 u28.heap.size [.slice none 0 0,.map none]:=by rw [zG];exact af.new u28 121 [.slice none 0 0,.map none]
     have xc:u28.heap.size≠mc:=by have:=nc.lt;omega
     have xv:u28.heap.size≠mv:=by have:=nv.lt;omega
     have xy:u28.heap.size≠Y:=by have:=zY.1;omega
     have hX1:W2.heap.size<=u28.heap.size:=JX.size
     have nc:=nc.on d29
     have nv:=nv.on d29
     have zY:=zY.on d29
     refine hK.out _ _ (zG ▸ SI) (fun gI=>?_)
     rw [<- zG] at gI |-
     clear hK K gH;have gH:=gI;clear gI
     try go_frame
     clear zG d29
     generalize u28.heap.size=X at iy hX1 xc xv xy |-
     have zX:=iy
     clear iy
     obtain ⟨UX,dC⟩:∃ U,U=u29.setCells X 0 [.slice b3 k3 c3,.map (some mc)]:=⟨_,rfl⟩
     refine ts 8 (fun K hK=>?_)
     refine fP (by rfl) (wp_store_mid 121 _ _ rfl X 0 #[.slice b3 k3 c3,.map (some mc)] rfl rfl zX.there (by kernel_rfl) (by simp [Value.oneCell']) ?_)
     have dS:Kept (fun b=>b≠X) u29 UX:=by rw [dC];exact dP (fun h=>h rfl)
     have fq:Below W2.heap.size W2 UX:=by rw [dC];exact cu SI hX1
     have zX:af UX X [.slice b3 k3 c3,.map (some mc)]:=by rw [dC];exact dL zX rfl
     have zY:=zY.kept dS (fun e=>xy e.symm)
     have nc:=nc.kept dS (fun e=>xc e.symm)
     have nv:=nv.kept dS (fun e=>xv e.symm)
     have iE:UX=u29.setCells X 0 (#[.slice b3 k3 c3,.map (some mc)]:Array Value).toList:=by rw [dC]
     rw [<- iE]
     refine hK.out undef _ fq (fun gI=>?_)
     clear hK K gH;have gH:=gI;clear gI
     try go_frame
     clear dC iE dS
     obtain ⟨UY,dB⟩:∃ U,U=UX.setCells Y 0 [.slice b2 k2 c2,.map (some mv)]:=⟨_,rfl⟩
     refine ts 9 (fun K hK=>?_)
     refine fP (by rfl) (wp_store_mid 127 _ _ rfl Y 0 #[.slice b2 k2 c2,.map (some mv)] rfl rfl zY.there (by kernel_rfl) (by simp [Value.oneCell']) ?_)
     have dR:Kept (fun b=>b≠Y) UX UY:=by rw [dB];exact dP (fun h=>h rfl)
     have fe:Below W2.heap.size W2 UY:=by rw [dB];exact cu fq dV
     have zY:af UY Y [.slice b2 k2 c2,.map (some mv)]:=by rw [dB];exact dL zY rfl
     have zX:=zX.kept dR (fun e=>xy e)
     have nc:=nc.kept dR (fun e=>yc e.symm)
     have nv:=nv.kept dR (fun e=>yv e.symm)
     have iD:UY=UX.setCells Y 0 (#[.slice b2 k2 c2,.map (some mv)]:Array Value).toList:=by rw [dB]
     rw [<- iD]
     refine hK.out undef _ fe (fun gI=>?_)
     clear hK K gH;have gH:=gI;clear gI
     try go_frame
     clear dB iD dR
     refine tz ?_
     have HG:Hid (su W2 b2 k2 c2 b3 k3 c3 x X Y mc mv UY):=⟨nc,nv,zX,zY,xy,xc,xv,yc,yv,fe,hX1,dV,fG,eO⟩
     clear zX zY nc nv xy xc xv yc yv fq fe hX1 dV fG eO gH
     go_wp2_with fail
     go_meet
     exact ⟨X,Y,mc,mv,rfl,rfl,HG⟩
    ·
     go_simp
     obtain ⟨u30,zF⟩:∃ u30,u30=u27.alloc (.cells #[.slice none 0 0,.map none] 121):=⟨_,rfl⟩
     have d30:Below u27.heap.size u27 u30:=by rw [zF];exact (Below.refl _ _).alloc (Nat.le_refl _) _
     have DI:Below W2.heap.size W2 u30:=ah xB d30
     have iy:af u30 u27.heap.size [.slice none 0 0,.map none]:=by rw [zF];exact af.new u27 121 [.slice none 0 0,.map none]
     have xc:u27.heap.size≠mc:=by have:=nc.lt;omega
     have xy:u27.heap.size≠Y:=by have:=zY.1;omega
     have hX1:W2.heap.size<=u27.heap.size:=xB.size
     have nc:=nc.on d30
     have zY:=zY.on d30
     refine hK.out _ _ (zF ▸ DI) (fun gI=>?_)
     rw [<- zF] at gI |-
     clear hK K gH;have gH:=gI;clear gI
     try go_frame
     clear zF d30
     generalize u27.heap.size=X at iy hX1 xc xy |-
     have zX:=iy
     clear iy
     refine tr 5 (fun K hK=>?_)
     have hC:=qE b2 k2 c2 _ (gL x) u30 (nM.out u30 DI)
     go_simp
     refine hC.mono ?_
     rintro e u31 ⟨mv,rfl,nv,fQ,d31⟩
     clear hC
     have SH:Below W2.heap.size W2 u31:=ah DI d31
     have eO:W2.heap.size<=mv:=Nat.le_trans DI.size fQ
     have yv:Y≠mv:=by have:=zY.1;omega
     have zY:=zY.on d31
     have xv:X≠mv:=by have:=zX.1;omega
     have zX:=zX.on d31
     have nc:=nc.on d31
     go_wp2_with fail
     refine hK.out _ _ SH (fun gI=>?_)
     clear hK K gH;have gH:=gI;clear gI
     try go_frame
     clear d31 fQ
     obtain ⟨UX,dC⟩:∃ U,U=u31.setCells X 0 [.slice b3 k3 c3,.map (some mc)]:=⟨_,rfl⟩
     refine ts 8 (fun K hK=>?_)
     refine fP (by rfl) (wp_store_mid 121 _ _ rfl X 0 #[.slice b3 k3 c3,.map (some mc)] rfl rfl zX.there (by kernel_rfl) (by simp [Value.oneCell']) ?_)
     have dS:Kept (fun b=>b≠X) u31 UX:=by rw [dC];exact dP (fun h=>h rfl)
     have fq:Below W2.heap.size W2 UX:=by rw [dC];exact cu SH hX1
     have zX:af UX X [.slice b3 k3 c3,.map (some mc)]:=by rw [dC];exact dL zX rfl
     have zY:=zY.kept dS (fun e=>xy e.symm)
     have nc:=nc.kept dS (fun e=>xc e.symm)
     have nv:=nv.kept dS (fun e=>xv e.symm)
     have iE:UX=u31.setCells X 0 (#[.slice b3 k3 c3,.map (some mc)]:Array Value).toList:=by rw [dC]
     rw [<- iE]
     refine hK.out undef _ fq (fun gI=>?_)
     clear hK K gH;have gH:=gI;clear gI
     try go_frame
     clear dC iE dS
     obtain ⟨UY,dB⟩:∃ U,U=UX.setCells Y 0 [.slice b2 k2 c2,.map (some mv)]:=⟨_,rfl⟩
     refine ts 9 (fun K hK=>?_)
     refine fP (by rfl) (wp_store_mid 127 _ _ rfl Y 0 #[.slice b2 k2 c2,.map (some mv)] rfl rfl zY.there (by kernel_rfl) (by simp [Value.oneCell']) ?_)
     have dR:Kept (fun b=>b≠Y) UX UY:=by rw [dB];exact dP (fun h=>h rfl)
     have fe:Below W2.heap.size W2 UY:=by rw [dB];exact cu fq dV
     have zY:af UY Y [.slice b2 k2 c2,.map (some mv)]:=by rw [dB];exact dL zY rfl
     have zX:=zX.kept dR (fun e=>xy e)
     have nc:=nc.kept dR (fun e=>yc e.symm)
     have nv:=nv.kept dR (fun e=>yv e.symm)
     have iD:UY=UX.setCells Y 0 (#[.slice b2 k2 c2,.map (some mv)]:Array Value).toList:=by rw [dB]
     rw [<- iD]
     refine hK.out undef _ fe (fun gI=>?_)
     clear hK K gH;have gH:=gI;clear gI
     try go_frame
     clear dB iD dR
     refine tz ?_
     have HG:Hid (su W2 b2 k2 c2 b3 k3 c3 x X Y mc mv UY):=⟨nc,nv,zX,zY,xy,xc,xv,yc,yv,fe,hX1,dV,fG,eO⟩
     clear zX zY nc nv xy xc xv yc yv fq fe hX1 dV fG eO gH
     go_wp2_with fail
     go_meet
     exact ⟨X,Y,mc,mv,rfl,rfl,HG⟩
   ·
    go_simp
    obtain ⟨u32,zC⟩:∃ u32,u32=u26.alloc (.cells #[.slice none 0 0,.map none] 121):=⟨_,rfl⟩
    have d32:Below u26.heap.size u26 u32:=by rw [zC];exact (Below.refl _ _).alloc (Nat.le_refl _) _
    have DF:Below W2.heap.size W2 u32:=ah xC d32
    have iy:af u32 u26.heap.size [.slice none 0 0,.map none]:=by rw [zC];exact af.new u26 121 [.slice none 0 0,.map none]
    have xy:u26.heap.size≠Y:=by have:=zY.1;omega
    have hX1:W2.heap.size<=u26.heap.size:=xC.size
    have zY:=zY.on d32
    refine hK.out _ _ (zC ▸ DF) (fun gI=>?_)
    rw [<- zC] at gI |-
    clear hK K gH;have gH:=gI;clear gI
    try go_frame
    clear zC d32
    generalize u26.heap.size=X at iy hX1 xy |-
    have zX:=iy
    clear iy
    refine tr 2 (fun K hK=>?_)
    have hC:=y8 b3 k3 c3 _ (iR x) u32 (vO.out u32 DF)
    go_simp
    refine hC.mono ?_
    rintro e u33 ⟨mc,rfl,nc,loc,d33⟩
    clear hC
    have DD:Below W2.heap.size W2 u33:=ah DF d33
    have fG:W2.heap.size<=mc:=Nat.le_trans DF.size loc
    have yc:Y≠mc:=by have:=zY.1;omega
    have zY:=zY.on d33
    have xc:X≠mc:=by have:=zX.1;omega
    have zX:=zX.on d33
    go_wp2_with fail
    refine hK.out _ _ DD (fun gI=>?_)
    clear hK K gH;have gH:=gI;clear gI
    try go_frame
    clear d33 loc
    refine tr 5 (fun K hK=>?_)
    have hC:=qE b2 k2 c2 _ (gL x) u33 (nM.out u33 DD)
    go_simp
    refine hC.mono ?_
    rintro e u34 ⟨mv,rfl,nv,fQ,d34⟩
    clear hC
    have SG:Below W2.heap.size W2 u34:=ah DD d34
    have eO:W2.heap.size<=mv:=Nat.le_trans DD.size fQ
    have yv:Y≠mv:=by have:=zY.1;omega
    have zY:=zY.on d34
    have xv:X≠mv:=by have:=zX.1;omega
    have zX:=zX.on d34
    have nc:=nc.on d34
    go_wp2_with fail
    refine hK.out _ _ SG (fun gI=>?_)
    clear hK K gH;have gH:=gI;clear gI
    try go_frame
    clear d34 fQ
    obtain ⟨UX,dC⟩:∃ U,U=u34.setCells X 0 [.slice b3 k3 c3,.map (some mc)]:=⟨_,rfl⟩
    refine ts 8 (fun K hK=>?_)
    refine fP (by rfl) (wp_store_mid 121 _ _ rfl X 0 #[.slice b3 k3 c3,.map (some mc)] rfl rfl zX.there (by kernel_rfl) (by simp [Value.oneCell']) ?_)
    have dS:Kept (fun b=>b≠X) u34 UX:=by rw [dC];exact dP (fun h=>h rfl)
    have fq:Below W2.heap.size W2 UX:=by rw [dC];exact cu SG hX1
    have zX:af UX X [.slice b3 k3 c3,.map (some mc)]:=by rw [dC];exact dL zX rfl
    have zY:=zY.kept dS (fun e=>xy e.symm)
    have nc:=nc.kept dS (fun e=>xc e.symm)
    have nv:=nv.kept dS (fun e=>xv e.symm)
    have iE:UX=u34.setCells X 0 (#[.slice b3 k3 c3,.map (some mc)]:Array Value).toList:=by rw [dC]
    rw [<- iE]
    refine hK.out undef _ fq (fun gI=>?_)
    clear hK K gH;have gH:=gI;clear gI
    try go_frame
    clear dC iE dS
    obtain ⟨UY,dB⟩:∃ U,U=UX.setCells Y 0 [.slice b2 k2 c2,.map (some mv)]:=⟨_,rfl⟩
    refine ts 9 (fun K hK=>?_)
    refine fP (by rfl) (wp_store_mid 127 _ _ rfl Y 0 #[.slice b2 k2 c2,.map (some mv)] rfl rfl zY.there (by kernel_rfl) (by simp [Value.oneCell']) ?_)
    have dR:Kept (fun b=>b≠Y) UX UY:=by rw [dB];exact dP (fun h=>h rfl)
    have fe:Below W2.heap.size W2 UY:=by rw [dB];exact cu fq dV
    have zY:af UY Y [.slice b2 k2 c2,.map (some mv)]:=by rw [dB];exact dL zY rfl
    have zX:=zX.kept dR (fun e=>xy e)
    have nc:=nc.kept dR (fun e=>yc e.symm)
    have nv:=nv.kept dR (fun e=>yv e.symm)
    have iD:UY=UX.setCells Y 0 (#[.slice b2 k2 c2,.map (some mv)]:Array Value).toList:=by rw [dB]
    rw [<- iD]
    refine hK.out undef _ fe (fun gI=>?_)
    clear hK K gH;have gH:=gI;clear gI
    try go_frame
    clear dB iD dR
    refine tz ?_
    have HG:Hid (su W2 b2 k2 c2 b3 k3 c3 x X Y mc mv UY):=⟨nc,nv,zX,zY,xy,xc,xv,yc,yv,fe,hX1,dV,fG,eO⟩
    clear zX zY nc nv xy xc xv yc yv fq fe hX1 dV fG eO gH
    go_wp2_with fail
    go_meet
    exact ⟨X,Y,mc,mv,rfl,rfl,HG⟩
 case rest =>
  obtain ⟨X,Y,mc,mv,rfl,rfl,HA⟩:=hcut
  obtain ⟨nc,nv,zX,zY,_,_,_,_,_,bV,hX1,dV,fG,eO⟩:=HA.out
  obtain ⟨T0,T1,T2,T3,T4,T5,T6,T7⟩:=HT2.out
  have F:xn w W2.heap.size wc.heap.size (.slice b0 k0 c0) (.slice b1 k1 c1) (.slice b2 k2 c2) (.slice b3 k3 c3) (.slice b4 k4 c4) (.slice b5 k5 c5) X Y mc mv:=⟨HF.out,T6,T7,h4W,⟨hX1,zX.1⟩,⟨dV,zY.1⟩,⟨fG,nc.lt⟩,⟨eO,nv.lt⟩⟩
  have Nc:Below w.heap.size w wc:=ah HB2.out bV
  have I0:nQ m w (.slice b0 k0 c0) (.slice b1 k1 c1) (.slice b2 k2 c2) (.slice b3 k3 c3) (.slice b4 k4 c4) (.slice b5 k5 c5) x X Y mc mv fd (gL x,iR x) wc:=⟨⟨(T2.from ai.ae (Below.refl _ _) (fun b hb=>hb.1)).on ai.ae bV,(T3.from aA.ae (Below.refl _ _) (fun b hb=>hb.1)).on aA.ae bV,fun b hb=>(T6 b hb).2.2.1,hm⟩,⟨(T0.from aj.ae (Below.refl _ _) (fun b hb=>hb.1)).on aj.ae bV,(T1.from av.ae (Below.refl _ _) (fun b hb=>hb.1)).on av.ae bV,(T4.from aH.ae (Below.refl _ _) (fun b hb=>hb.1)).on aH.ae bV,(T5.from aI.ae (Below.refl _ _) (fun b hb=>hb.1)).on aI.ae bV⟩,⟨nc,nv⟩,⟨zX,zY⟩,⟨qQ.out.1.on bV,qQ.out.2.1.on bV⟩,Nc⟩
  have J0:uf w wc:=⟨qQ.out.2.2.1.on bV,qQ.out.2.2.2.on bV⟩
  have HI0:Hid (nQ m w (.slice b0 k0 c0) (.slice b1 k1 c1) (.slice b2 k2 c2) (.slice b3 k3 c3) (.slice b4 k4 c4) (.slice b5 k5 c5) x X Y mc mv fd (gL x,iR x) wc/\uf w wc):=⟨I0,J0⟩
  have CR:Hid (xn w W2.heap.size wc.heap.size (.slice b0 k0 c0) (.slice b1 k1 c1) (.slice b2 k2 c2) (.slice b3 k3 c3) (.slice b4 k4 c4) (.slice b5 k5 c5) X Y mc mv):=F
  have xZ:=hseq.out wc Nc
  have hwl:w.heap.size<=wc.heap.size:=Nc.size
  have hbx:w.heap.size+4<wc.heap.size:=by have:=zX.1;omega
  have hyl:Hid ((gL x).length*72<=140737488351232/\(iR x).length*56<=140737488351232):=⟨y2,y3⟩
  have hsl:W2.heap.size<=wc.heap.size:=bV.size
  clear I0 J0 F T0 T1 T2 T3 T4 T5 T6 T7 nc nv zX zY bV Nc hX1 dV fG eO HA HF h4W HT2 qQ HB2 hseq nM vO HL y2 y3 B1 hz1 hlt1
  go_wp2_with fail
  refine (wpIn_wide (n:=9)).1 ?_
  refine wpIn_rangeFunc_ownH rfl (by decide) (gf:=gf) (lb:=lb) rfl trivial hen xZ belowK_t (belowK_b hwl) (Below.refl _ _) (fun _=>rfl)
   (fun pre W=>∃ st,runD (stepD ok tc tv) (gL x,iR x) (pre.map (fun y=>y.2.1))=.ok st/\nQ m w (.slice b0 k0 c0) (.slice b1 k1 c1) (.slice b2 k2 c2) (.slice b3 k3 c3) (.slice b4 k4 c4) (.slice b5 k5 c5) x X Y mc mv fd st W/\uf w W/\wc.heap.size<=W.heap.size)
   (fun c pre W=>c=.ret/\∃ k,runD (stepD ok tc tv) (gL x,iR x) (pre.map (fun y=>y.2.1))=.error k/\(k=2\/k=5)/\af W (w.heap.size+1+1) Z6/\af W (w.heap.size+1+1+1) [.int .i64 k]/\Below w.heap.size w W)
   ?own ?ownx ⟨_,rfl,HI0.out.1,HI0.out.2,Nat.le_refl _⟩
   (fun y a' W=>∃ D,wc.heap.size<=D/\af W D [.string y.2.1.1,.string y.2.1.2]/\a'={ tmps:=List.toArray ((.agg #[.slice a0 n0 m0,.slice a1 n1 m1,.slice a2 n2 m2,.slice a3 n3 m3,.slice a4 n4 m4,.slice a5 n5 m5]:Value) :: .func (.func gf) #[] lb :: .func (.func fd) #[] #[] :: .pointer (some ⟨w.heap.size,0,none⟩) :: undef :: .pointer (some ⟨w.heap.size+1,0,none⟩) :: .pointer (some ⟨w.heap.size+1+1,0,none⟩) :: .pointer (some ⟨w.heap.size+1+1+1,0,none⟩) :: .pointer (some ⟨X,0,none⟩) :: .pointer (some ⟨Y,0,none⟩) :: undef :: .pointer (some ⟨D,0,none⟩) :: undef :: undef :: u14 :: u15 :: u16 :: u17 :: u18 :: u19 :: u20 :: u21 :: .func (.func gf) #[] lb :: .int .i64 y.1 :: .agg #[.string y.2.1.1,.string y.2.1.2] :: u25 :: u26 :: u27 :: u28 :: u29 :: u30 :: u31 :: u32 :: u33 :: u34 :: u35 :: u36 :: u37 :: u38 :: u39 :: u40 :: u41 :: u42 :: u43 :: u44 :: u45 :: u46 :: []),defers:=[] })
   ?ax ?assign ?body ?done ?stop
  case own =>
   rintro pre W W' row ⟨st,h1,h2,h3,h5⟩ hg hr
   have hk:Kept (fun b=>b<wc.heap.size) W W':=Kept.grown hg (fun k e hk=>by have:=(hr k e).1;omega)
   exact ⟨st,h1,h2.kept CR.out (h2.2.2.2.2.2.grown hg h2.2.2.2.2.2.size (fun k e=>by have:=(hr k e).1;omega)) hk,h3.kept CR.out hk,Nat.le_trans h5 hk.1⟩
  case ownx =>
   rintro c pre W W' row ⟨hc,k,h1,h2,z1,z2,hb⟩ hg hr
   have hk:Kept (fun b=>b<wc.heap.size) W W':=Kept.grown hg (fun k e hk=>by have:=(hr k e).1;omega)
   exact ⟨hc,k,h1,h2,z1.kept hk (by omega),z2.kept hk (by omega),hb.grown hg hb.size (fun k e=>by have:=(hr k e).1;omega)⟩
  case ax =>
   rintro y a' u W W' row ⟨D,h1,h2,h3⟩ hg hr
   refine ⟨D,h1,h2.kept (A:=fun b=>b=D) (Kept.grown hg (fun k e hk=>?_)) rfl,h3⟩
   obtain ⟨_,o,ho,hc⟩:=hr k e
   have hk:k=D:=hk
   subst hk
   have:=h2.cells ho
   rw [this] at hc
   cases hc
  case assign =>
   rintro l pre y W K ⟨st,h1,h2,h3,h5⟩ hK
   have hWs:w.heap.size<=W.heap.size:=h2.2.2.2.2.2.size
   gi_wp2
   have bA:Below W.heap.size W (W.alloc (.cells #[.string y.2.1.1,.string y.2.1.2] 73)):=(Below.refl _ _).alloc (Nat.le_refl _) _
   exact hK _ _ (Qu bA) (bA.mono hWs) ⟨st,h1,h2.on CR.out bA,h3.on bA,Nat.le_trans h5 bA.size⟩ ⟨W.heap.size,h5,af.new W 73 _,rfl⟩
  case body =>
   rintro l pre ⟨yi,⟨⟨s1,s2⟩,hs1,hs2⟩⟩ a' W hl hrec ⟨st,h1,h2,h3,h5⟩ ⟨D,hD,zD,rfl⟩ hlt
   simp only at zD hs1 hs2
   have hln:=Xf h1
   simp only at hln
   have hWs:w.heap.size<=W.heap.size:=h2.2.2.2.2.2.size
   have HS:Hid (∀ z,Below W.heap.size W z->(z.cell? ⟨X,0,none⟩=some (.slice b3 k3 c3)/\z.cell? ⟨X,1,none⟩=some (.map (some mc)))/\(z.cell? ⟨Y,0,none⟩=some (.slice b2 k2 c2)/\z.cell? ⟨Y,1,none⟩=some (.map (some mv)))/\z.cell? ⟨D,0,none⟩=some (.string s1)/\z.cell? ⟨D,1,none⟩=some (.string s2)):=fun z hz=>⟨⟨((h2.2.2.2.1.1.on hz).2 0 _ rfl).1,((h2.2.2.2.1.1.on hz).2 1 _ rfl).1⟩,⟨((h2.2.2.2.1.2.on hz).2 0 _ rfl).1,((h2.2.2.2.1.2.on hz).2 1 _ rfl).1⟩,((zD.on hz).2 0 _ rfl).1,((zD.on hz).2 1 _ rfl).1⟩
   have HC:Hid (∀ z,Below W.heap.size W z->Calls prog 61 #[.agg #[.slice b3 k3 c3,.map (some mc)],.string s1] z fun e w'=>e=.returned (.pointer (pAt 4 b3 (fI (st.2.map Prod.fst) s1)))/\Below z.heap.size z w'):=fun z hz=>Za b3 k3 c3 _ st.2 mc s1 z ((h2.1.2.1.Mm aA.ae (by rw [hln.2];exact hyl.out.2)).on aA.ae hz) (h2.2.2.1.1.on hz) hs1
   have HV:Hid (∀ z,Below W.heap.size W z->Calls prog 62 #[.agg #[.slice b2 k2 c2,.map (some mv)],.string s2] z fun e w'=>e=.returned (.pointer (pAt 5 b2 (fI (st.1.map Prod.fst) s2)))/\Below z.heap.size z w'):=fun z hz=>Zf b2 k2 c2 _ st.1 mv s2 z ((h2.1.1.Mm ai.ae (by rw [hln.1];exact hyl.out.1)).on ai.ae hz) (h2.2.2.1.2.on hz) hs2
   obtain ⟨pc,hpc⟩:∃ p,pAt 4 b3 (fI (st.2.map Prod.fst) s1)=p:=⟨_,rfl⟩
   obtain ⟨pv,hpv⟩:∃ p,pAt 5 b2 (fI (st.1.map Prod.fst) s2)=p:=⟨_,rfl⟩
   rw [hpc] at HC
   rw [hpv] at HV
   have yB:Hid (pAt 4 b3 (fI (st.2.map Prod.fst) s1)=pc/\pAt 5 b2 (fI (st.1.map Prod.fst) s2)=pv):=⟨hpc,hpv⟩
   have HN:Hid (runD (stepD ok tc tv) (gL x,iR x) ((pre++[(yi,(⟨(s1,s2),hs1,hs2⟩:jJ))]).map (fun y=>y.2.1))=stepD ok tc tv st (s1,s2)):=by
    show _=_
    rw [List.map_append,List.map_cons,List.map_nil,XG,h1]
   have HX:Hid (∀ z k,Below W.heap.size W z->(k=2\/k=5)->stepD ok tc tv st (s1,s2)=.error k->KeepsFrom wc.heap.size W ((z.setCells (w.heap.size+1+1) 0 Z6).setCell ⟨w.heap.size+1+1+1,0,none⟩ (.int .i64 k))/\af ((z.setCells (w.heap.size+1+1) 0 Z6).setCell ⟨w.heap.size+1+1+1,0,none⟩ (.int .i64 k)) (w.heap.size+1+1) Z6/\af ((z.setCells (w.heap.size+1+1) 0 Z6).setCell ⟨w.heap.size+1+1+1,0,none⟩ (.int .i64 k)) (w.heap.size+1+1+1) [.int .i64 k]/\Below w.heap.size w ((z.setCells (w.heap.size+1+1) 0 Z6).setCell ⟨w.heap.size+1+1+1,0,none⟩ (.int .i64 k))):=by
    intro z k hz hk he
    have q1:=dL (h3.1.on hz) (cs:=Z6) rfl
    have K1:Kept (fun b=>b≠w.heap.size+1+1) z (z.setCells (w.heap.size+1+1) 0 Z6):=dP (fun h=>h rfl)
    have q2:=(h3.2.on hz).kept K1 (by omega)
    have K2:Kept (fun b=>b≠w.heap.size+1+1+1) (z.setCells (w.heap.size+1+1) 0 Z6) ((z.setCells (w.heap.size+1+1) 0 Z6).setCell ⟨w.heap.size+1+1+1,0,none⟩ (.int .i64 k)):=Kept.set (p:=⟨w.heap.size+1+1+1,0,none⟩) (fun h=>h rfl) _
    have q3:=q2.set 0 (.int .i64 k) (by simp)
    exact ⟨(Qu hz).trans (Y8 ((K1.weak (fun b (hb:b≠w.heap.size+1+1/\b≠w.heap.size+1+1+1)=>hb.1)).trans (K2.weak (fun b hb=>hb.2))) (by omega) (by omega)),q1.kept K2 (by omega),q3,(cu (ah h2.2.2.2.2.2 hz) (by omega)).setCell (by simp;omega) _⟩
   have HR:Hid (∀ z,Below W.heap.size W z->af z (w.heap.size+1+1) Z6/\af z (w.heap.size+1+1+1) [.int .i64 0]/\z.cell? ⟨w.heap.size+1,0,none⟩=some (.func (.func fd) #[] #[])):=fun z hz=>⟨h3.1.on hz,h3.2.on hz,((h2.2.2.2.2.1.2.on hz).2 0 _ rfl).1⟩
   have HI:Hid (nQ m w (.slice b0 k0 c0) (.slice b1 k1 c1) (.slice b2 k2 c2) (.slice b3 k3 c3) (.slice b4 k4 c4) (.slice b5 k5 c5) x X Y mc mv fd st W/\uf w W):=⟨h2,h3⟩
   clear h2 h3 zD hpc hpv xZ HI0 hln
   dsimp only
   refine wpIn_block ?_
   refine wpIn_seq_k (fun K1 hK1=>?_)
   refine t0R (fun z=>Below W.heap.size W z) ?lets (Below.refl _ _).drew (fun gH=>?_)
   case lets=>rintro ⟨a,w,h⟩;exact h
   have hb0:Below W.heap.size W W.drew:=(Below.refl _ _).drew
   generalize hwd:W.drew=wd at gH hb0 |-
   clear hwd
   try go_frame
   refine' tk 0 ?_ ?_;rotate_left
   ·intro u hu;obtain ⟨⟨f0,f1⟩,⟨f2,f3⟩,f4,f5⟩:=HS.out u hu;clear hu;go_simp;try with_reducible rfl
   try go_frame
   refine' tk 1 ?_ ?_;rotate_left
   ·intro u hu;obtain ⟨⟨f0,f1⟩,⟨f2,f3⟩,f4,f5⟩:=HS.out u hu;clear hu;go_simp;try with_reducible rfl
   try go_frame
   refine' tk 2 ?_ ?_;rotate_left
   ·intro u hu;obtain ⟨⟨f0,f1⟩,⟨f2,f3⟩,f4,f5⟩:=HS.out u hu;clear hu;go_simp;try with_reducible rfl
   try go_frame
   refine' tk 4 ?_ ?_;rotate_left
   ·intro u hu;obtain ⟨⟨f0,f1⟩,⟨f2,f3⟩,f4,f5⟩:=HS.out u hu;clear hu;go_simp;try with_reducible rfl
   try go_frame
   refine' tk 5 ?_ ?_;rotate_left
   ·intro u hu;obtain ⟨⟨f0,f1⟩,⟨f2,f3⟩,f4,f5⟩:=HS.out u hu;clear hu;go_simp;try with_reducible rfl
   try go_frame
   refine' tk 6 ?_ ?_;rotate_left
   ·intro u hu;obtain ⟨⟨f0,f1⟩,⟨f2,f3⟩,f4,f5⟩:=HS.out u hu;clear hu;go_simp;try with_reducible rfl
   try go_frame
   refine tr 3 (fun K hK=>?_)
   have uN:=HC.out wd hb0
   go_simp
   refine uN.mono ?_
   rintro e z1 ⟨rfl,d1⟩
   clear uN
   have hb1:Below W.heap.size W z1:=ah hb0 d1
   go_wp2_with fail
   refine hK.out _ _ hb1 (fun gI=>?_)
   clear hK K gH;have gH:=gI;clear gI
   try go_frame
   refine tr 7 (fun K hK=>?_)
   have hC2:=HV.out z1 hb1
   go_simp
   refine hC2.mono ?_
   rintro e z2 ⟨rfl,d2⟩
   clear hC2
   have hb2:Below W.heap.size W z2:=ah hb1 d2
   go_wp2_with fail
   refine hK.out _ _ hb2 (fun gI=>?_)
   clear hK K gH;have gH:=gI;clear gI
   try go_frame
   refine' tk 8 ?_ ?_;rotate_left
   ·intro u hu;go_simp;try with_reducible rfl
   try go_frame
   refine' tk 9 ?_ ?_;rotate_left
   ·intro u hu;go_simp;try with_reducible rfl
   try go_frame
   refine tz ?_
   refine hK1 _ _ ?_
   clear hK1 K1 gH HS HC HV d1 d2 hb0 hb1
   cases hfc:fI (st.2.map Prod.fst) s1 with
   | none =>
    have hp:pc=none:=by rw [<- yB.out.1,hfc];cases b3 <;> rfl
    have he:=Xb (ok:=ok) (tc:=tc) (tv:=tv) (st:=st) (pk:=(s1,s2)) (.inl hfc)
    subst hp
    clear hfc yB HI hdo hts
    have hx:=HX.out z2 5 hb2 (.inr rfl) he
    have qP:Hid (KeepsFrom wc.heap.size W ((z2.setCells (w.heap.size+1+1) 0 Z6).setCell ⟨w.heap.size+1+1+1,0,none⟩ (.int .i64 5))/\_):=⟨hx.1,hx.2⟩
    obtain ⟨bz,bn,cf⟩:=HR.out z2 hb2
    have e0:=bz.2 0 _ rfl
    have e1:=bz.2 1 _ rfl
    have e2:=bz.2 2 _ rfl
    have e3:=bz.2 3 _ rfl
    have e4:=bz.2 4 _ rfl
    have e5:=bz.2 5 _ rfl
    have e6:=bn.2 0 _ rfl
    have l1:=bz.1
    have l2:=bn.1
    clear bz bn hx HX HR
    gi_wp2
    exact ⟨qP.out.1,rfl,5,by rw [HN.out];exact he,(.inr rfl),qP.out.2.1,qP.out.2.2.1,qP.out.2.2.2⟩
   | some c =>
    have hc:=(jl hfc).1
    rw [List.length_map] at hc
    cases rP:fI (st.1.map Prod.fst) s2 with
    | none =>
     obtain ⟨g,cc,cs,eg,_⟩:=HI.out.1.1.2.1.wV aA.ae hc
     simp only [Value.slice.injEq] at eg
     have hp:pc=some ⟨g,c*4,none⟩:=by rw [<- yB.out.1,hfc,eg.1];simp [pAt]
     have hq:pv=none:=by rw [<- yB.out.2,rP];cases b2 <;> rfl
     have he:=Xb (ok:=ok) (tc:=tc) (tv:=tv) (st:=st) (pk:=(s1,s2)) (.inr rP)
     subst hp
     subst hq
     clear hfc rP yB HI hdo hts eg hc
     have hx:=HX.out z2 5 hb2 (.inr rfl) he
     have qP:Hid (KeepsFrom wc.heap.size W ((z2.setCells (w.heap.size+1+1) 0 Z6).setCell ⟨w.heap.size+1+1+1,0,none⟩ (.int .i64 5))/\_):=⟨hx.1,hx.2⟩
     obtain ⟨bz,bn,cf⟩:=HR.out z2 hb2
     have e0:=bz.2 0 _ rfl
     have e1:=bz.2 1 _ rfl
     have e2:=bz.2 2 _ rfl
     have e3:=bz.2 3 _ rfl
     have e4:=bz.2 4 _ rfl
     have e5:=bz.2 5 _ rfl
     have e6:=bn.2 0 _ rfl
     have l1:=bz.1
     have l2:=bn.1
     clear bz bn hx HX HR
     gi_wp2
     exact ⟨qP.out.1,rfl,5,by rw [HN.out];exact he,(.inr rfl),qP.out.2.1,qP.out.2.2.1,qP.out.2.2.2⟩
    | some v =>
     have hv:=(jl rP).1
     rw [List.length_map] at hv
     have hI2:=HI.out.1.on CR.out hb2
     have hB2:Below w.heap.size w z2:=hI2.2.2.2.2.2
     obtain ⟨Bc,sS,Bv,oK,cs,vs,A,A',TA,TB,q1,q2,q3,q4,q5,q6,q7,q8,q9,BK,Fg,BJ,Rm,hS⟩:=hI2.step CR.out hc hv
     simp only [Value.slice.injEq] at TA TB
     have hp:pc=some ⟨Bc,c*4,none⟩:=by rw [<- yB.out.1,hfc,TA.1];simp [pAt]
     have hq:pv=some ⟨Bv,v*5,none⟩:=by rw [<- yB.out.2,rP,TB.1];simp [pAt]
     have DU:=hdo.out Bc (c*4) Bv (v*5) cs A _ vs A' _ z2 q1 q2 q3 q4 q5 q6 q7 q8 q9
     have hsz:=hts.out _ _ q1.jZ.2 q2.jZ.2
     have HE:Hid (∀ z,Below z2.heap.size z2 z->ok (st.2.getD c default) (st.1.getD v default)=false->stepD ok tc tv st (s1,s2)=.error 2):=fun _ _ h=>EO hfc rP h
     have HY:Hid (∀ z u,Below z2.heap.size z2 z->ok (st.2.getD c default) (st.1.getD v default)=true->u=(z.setCell ⟨Bc,c*4+3,none⟩ (.string (tc (st.2.getD c default) (st.1.getD v default)))).setCell ⟨Bv,v*5+4,none⟩ (.string (tv (st.2.getD c default) (st.1.getD v default)))->KeepsFrom wc.heap.size W u/\Below w.heap.size W u/\∃ st',stepD ok tc tv st (s1,s2)=.ok st'/\nQ m w (.slice b0 k0 c0) (.slice b1 k1 c1) (.slice b2 k2 c2) (.slice b3 k3 c3) (.slice b4 k4 c4) (.slice b5 k5 c5) x X Y mc mv fd st' u/\uf w u/\wc.heap.size<=u.heap.size):=by
      intro z u hz hok hu
      obtain ⟨t1,t2⟩:=hS z _ _ hz hsz.1 hsz.2
      rw [<- hu] at t1 t2
      have Gm:=ah hb2 hz
      refine ⟨(Qu Gm).trans (Y8 t2 Fg Rm),?_,_,EN hfc rP hok,t1,⟨(HI.out.2.1.on Gm).kept t2 ⟨by omega,by omega⟩,(HI.out.2.2.on Gm).kept t2 ⟨by omega,by omega⟩⟩,Nat.le_trans h5 (Nat.le_trans Gm.size t2.1)⟩
      rw [hu]
      exact ((Gm.mono hWs).setCell (by simp;omega) _).setCell (by simp;omega) _
     subst hp
     subst hq
     obtain ⟨_,_,cf⟩:=HR.out z2 hb2
     have HBZ:Hid (Below W.heap.size W z2):=hb2
     clear hfc rP yB HI hdo hts TA TB hc hv hS q1 q2 q3 q4 q7 q8 q9 hI2 hB2 hsz BK Fg BJ Rm hb2
     gi_wp2_with fail
     refine ⟨trivial,(YJ DU).mono ?_⟩
     rintro e z3 ⟨z4,pO,hz⟩
     have hb4:Below W.heap.size W z4:=ah HBZ.out pO
     rcases hz with ⟨hok,rfl,rfl⟩ | ⟨hok,rfl,hu⟩
     ·have he:=HE.out _ pO hok
      clear HE HY pO hok DU cf q5 q6
      have hx:=HX.out z3 2 hb4 (.inl rfl) he
      have qP:Hid (KeepsFrom wc.heap.size W ((z3.setCells (w.heap.size+1+1) 0 Z6).setCell ⟨w.heap.size+1+1+1,0,none⟩ (.int .i64 2))/\_):=⟨hx.1,hx.2⟩
      obtain ⟨bz,bn,cf⟩:=HR.out z3 hb4
      have e0:=bz.2 0 _ rfl
      have e1:=bz.2 1 _ rfl
      have e2:=bz.2 2 _ rfl
      have e3:=bz.2 3 _ rfl
      have e4:=bz.2 4 _ rfl
      have e5:=bz.2 5 _ rfl
      have e6:=bn.2 0 _ rfl
      have l1:=bz.1
      have l2:=bn.1
      clear bz bn hx HX HR
      gi_wp2
      exact ⟨qP.out.1,rfl,2,by rw [HN.out];exact he,(.inl rfl),qP.out.2.1,qP.out.2.2.1,qP.out.2.2.2⟩
     ·have hy:=HY.out z4 z3 pO hok hu
      clear HE HX HR hok DU cf hu pO hb4 q5 q6
      have HYE:Hid (KeepsFrom wc.heap.size W z3/\_):=⟨hy.1,hy.2⟩
      clear hy HY
      gi_wp2
      obtain ⟨r1,r2,st',r3,r4,r5,r6⟩:=HYE.out
      exact ⟨r1,r2,st',by rw [HN.out];exact r3,r4,r5,r6⟩
  case stop =>
   rintro D c pre W hD hSp ⟨rfl,k,h1,h2,z1,z2,hb⟩ Cm
   have KP:Kept (fun b=>b≠D) W (W.putObj D (.deferred none)):=Kept.grown (grownBy_putObj' W D _) (fun k e hk=>hk (by cases e;rfl))
   have y1:=z1.kept KP (by omega)
   have y2:=z2.kept KP (by omega)
   have e0:=(y1.2 0 _ rfl).1
   have e1:=(y1.2 1 _ rfl).1
   have e2:=(y1.2 2 _ rfl).1
   have e3:=(y1.2 3 _ rfl).1
   have e4:=(y1.2 4 _ rfl).1
   have e5:=(y1.2 5 _ rfl).1
   have e6:=(y2.2 0 _ rfl).1
   have vV:Hid (Below w.heap.size w (W.putObj D (.deferred none))):=hb.trans (belowK_b (w:=wc) hwl W D _ _ hD Cm rfl rfl)
   have Im:Hid ((Instr.takeDeferred D).run prog W=.ok [] (W.putObj D (.deferred none))):=run_takeDeferred Cm
   clear KP z1 z2 hb Cm
   generalize W.putObj D (.deferred none)=WP at y1 y2 e0 e1 e2 e3 e4 e5 e6 vV Im
   clear y1 y2
   gi_wp2
   refine ⟨by simp,.inl ⟨D,WP,rfl,Im.out,?_⟩⟩
   refine ⟨.tuple #[.agg Z6.toArray,.int .i64 k],by simp [results,Tryz.results35,go_sem,e0,e1,e2,e3,e4,e5,e6],?_⟩
   exact .inr ⟨pre,k,hSp,h1,rfl,h2,vV.out⟩
  case done =>
   rintro D ys W hD hSy ⟨st,h1,h2,h3,h5⟩ Cm
   have a0':=(h2.2.2.2.2.1.1.2 0 _ rfl).1
   have a1':=(h2.2.2.2.2.1.1.2 1 _ rfl).1
   have jf:=(h2.2.2.2.2.1.1.2 2 _ rfl).1
   have a3':=(h2.2.2.2.2.1.1.2 3 _ rfl).1
   have a4':=(h2.2.2.2.2.1.1.2 4 _ rfl).1
   have a5':=(h2.2.2.2.2.1.1.2 5 _ rfl).1
   have t0':=h3.1.2 0 _ rfl
   have t1':=h3.1.2 1 _ rfl
   have t2':=h3.1.2 2 _ rfl
   have rG:=h3.1.2 3 _ rfl
   have rF:=h3.1.2 4 _ rfl
   have rE:=h3.1.2 5 _ rfl
   have QF:=h3.2.2 0 _ rfl
   have l0:=h2.2.2.2.2.1.1.1
   have l1:=h3.1.1
   have l2:=h3.2.1
   have Oa:Hid (nQ m w (.slice b0 k0 c0) (.slice b1 k1 c1) (.slice b2 k2 c2) (.slice b3 k3 c3) (.slice b4 k4 c4) (.slice b5 k5 c5) x X Y mc mv fd st W/\uf w W):=⟨h2,h3⟩
   have Im:Hid (W.heap[D]?=some (.deferred (some []))):=Cm
   clear h2 h3 Cm xZ HI0
   go_wp2_with fail
   obtain ⟨W5,tV⟩:∃ W5,W5=(W.setCells (w.heap.size+1+1) 0 [.slice b0 k0 c0,.slice b1 k1 c1,.slice b2 k2 c2,.slice b3 k3 c3,.slice b4 k4 c4,.slice b5 k5 c5]).setCell ⟨w.heap.size+1+1+1,0,none⟩ (.int .i64 0):=⟨_,rfl⟩
   have eW:((((((W.setCell ⟨w.heap.size+1+1,0,none⟩ (.slice b0 k0 c0)).setCell ⟨w.heap.size+1+1,1,none⟩ (.slice b1 k1 c1)).setCell ⟨w.heap.size+1+1,2,none⟩ (.slice b2 k2 c2)).setCell ⟨w.heap.size+1+1,3,none⟩ (.slice b3 k3 c3)).setCell ⟨w.heap.size+1+1,4,none⟩ (.slice b4 k4 c4)).setCell ⟨w.heap.size+1+1,5,none⟩ (.slice b5 k5 c5)).setCell ⟨w.heap.size+1+1+1,0,none⟩ (.int .i64 0)=W5:=tV.symm
   rw [eW]
   clear eW a0' a1' jf a3' a4' a5' t0' t1' t2' rG rF rE QF l0 l1 l2
   have q1:=dL Oa.out.2.1 (cs:=[.slice b0 k0 c0,.slice b1 k1 c1,.slice b2 k2 c2,.slice b3 k3 c3,.slice b4 k4 c4,.slice b5 k5 c5]) rfl
   have K1:Kept (fun b=>b≠w.heap.size+1+1) W (W.setCells (w.heap.size+1+1) 0 [.slice b0 k0 c0,.slice b1 k1 c1,.slice b2 k2 c2,.slice b3 k3 c3,.slice b4 k4 c4,.slice b5 k5 c5]):=dP (fun h=>h rfl)
   have q2:=Oa.out.2.2.kept K1 (by omega)
   have K2:Kept (fun b=>b≠w.heap.size+1+1+1) (W.setCells (w.heap.size+1+1) 0 [.slice b0 k0 c0,.slice b1 k1 c1,.slice b2 k2 c2,.slice b3 k3 c3,.slice b4 k4 c4,.slice b5 k5 c5]) ((W.setCells (w.heap.size+1+1) 0 [.slice b0 k0 c0,.slice b1 k1 c1,.slice b2 k2 c2,.slice b3 k3 c3,.slice b4 k4 c4,.slice b5 k5 c5]).setCell ⟨w.heap.size+1+1+1,0,none⟩ (.int .i64 0)):=Kept.set (p:=⟨w.heap.size+1+1+1,0,none⟩) (fun h=>h rfl) _
   have q3:=q2.set 0 (.int .i64 0) (by simp)
   have q1':=q1.kept K2 (by omega)
   have KW:Kept (fun b=>b≠w.heap.size+1+1/\b≠w.heap.size+1+1+1) W W5:=by rw [tV];exact (K1.weak (fun b hb=>hb.1)).trans (K2.weak (fun b hb=>hb.2))
   have bW5:Below w.heap.size w W5:=by rw [tV];exact (cu Oa.out.1.2.2.2.2.2 (by omega)).setCell (by simp;omega) _
   rw [<- tV] at q1' q3
   have Tj:W5.heap[D]?=some (.deferred (some [])):=(KW.2 D ⟨by omega,by omega⟩ (Array.getElem?_eq_some_iff.1 Im.out).1).trans Im.out
   have KP:Kept (fun b=>b≠D) W5 (W5.putObj D (.deferred none)):=Kept.grown (grownBy_putObj' W5 D _) (fun k e hk=>hk (by cases e;rfl))
   have y1:=q1'.kept KP (by omega)
   have y2:=q3.kept KP (by omega)
   have vV:Below w.heap.size w (W5.putObj D (.deferred none)):=bW5.trans (belowK_b (w:=wc) hwl W5 D _ _ hD Tj rfl rfl)
   have KA:Kept (fun b=>(b≠w.heap.size+1+1/\b≠w.heap.size+1+1+1)/\b<wc.heap.size) W (W5.putObj D (.deferred none)):=(KW.weak (fun b hb=>hb.1)).trans (KP.weak (fun b hb e=>by omega))
   have HTK:Hid ((Instr.takeDeferred D).run prog W5=.ok [] (W5.putObj D (.deferred none))):=run_takeDeferred Tj
   have HSE:vX m w (W5.putObj D (.deferred none)) (.slice b0 k0 c0) (.slice b1 k1 c1) (.slice b2 k2 c2) (.slice b3 k3 c3) (.slice b4 k4 c4) (.slice b5 k5 c5) x st:=Oa.out.1.toS CR.out vV KA
   generalize W5.putObj D (.deferred none)=WP at y1 y2 vV HTK HSE
   have e0:=(y1.2 0 _ rfl).1
   have e1:=(y1.2 1 _ rfl).1
   have e2:=(y1.2 2 _ rfl).1
   have e3:=(y1.2 3 _ rfl).1
   have e4:=(y1.2 4 _ rfl).1
   have e5:=(y1.2 5 _ rfl).1
   have e6:=(y2.2 0 _ rfl).1
   refine ⟨by simp,.inl ⟨D,WP,rfl,HTK.out,?_⟩⟩
   refine ⟨.tuple #[.agg #[.slice b0 k0 c0,.slice b1 k1 c1,.slice b2 k2 c2,.slice b3 k3 c3,.slice b4 k4 c4,.slice b5 k5 c5],.int .i64 0],by simp [results,Tryz.results35,go_sem,e0,e1,e2,e3,e4,e5,e6],?_⟩
   exact .inl ⟨ys,st,_,_,_,_,_,_,hSy,h1,rfl,HSE⟩
end Go.Proofs.YtgikfenllgldoaaGreat
