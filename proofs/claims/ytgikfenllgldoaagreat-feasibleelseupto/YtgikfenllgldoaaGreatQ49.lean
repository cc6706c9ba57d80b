/- feasible.Bind. Conditions: the state and the picks lie as is said of them; the node's name is within bounds. -/
import Derived.Test.YtgikfenllgldoaaGreatQ47
import Derived.Test.YtgikfenllgldoaaGreatQ46
set_option linter.unusedSimpArgs false
set_option maxRecDepth 100000
set_option maxHeartbeats 32000000
namespace Go.Proofs.YtgikfenllgldoaaGreat
open Go.Proofs.Tryz
open Go.RowKit Go.Maps
def BdS (m:Where) (w u:World) (g0 g1 g2 g3 g4 g5:Value) (x:aP) (st:VC):Prop :=
 Row ai 5 m w u 59 g2 st.1/\Row aA 4 m w u 124 g3 st.2/\(∀ b,g2.ownBlock=some b->g3.ownBlock≠some b)/\Row aj 16 m w u 41 g0 x.1/\Row av 9 m w u 56 g1 x.2.1/\Row aH 2 m w u 180 g4 (tN x)/\Row aI 3 m w u 62 g5 x.2.2.2.2.2
theorem vX.toB {m:Where} {w w1 u u':World} {g0 g1 g2 g3 g4 g5:Value} {x:aP} {st:VC} (h:vX m w1 u g0 g1 g2 g3 g4 g5 x st) (hw:Below w.heap.size w w1) (hb:Below w.heap.size w u') (hk:Kept (fun b=>m b\/w1.heap.size<=b) u u'):BdS m w u' g0 g1 g2 g3 g4 g5 x st:=by
 obtain ⟨⟨hV,hC,hne,_⟩,⟨r0,r1,r4,r5⟩,_⟩:=h
 exact ⟨(hV.from ai.ae hw (fun _ h=>h)).bO ai.ae hb (hk.weak (fun b h=>h.imp id (fun h=>(hV.lt h).1))),(hC.from aA.ae hw (fun _ h=>h)).bO aA.ae hb (hk.weak (fun b h=>h.imp id (fun h=>(hC.lt h).1))),hne,(r0.from aj.ae hw (fun _ h=>h)).bO aj.ae hb (hk.weak (fun b h=>h.imp id (fun h=>(r0.lt h).1))),(r1.from av.ae hw (fun _ h=>h)).bO av.ae hb (hk.weak (fun b h=>h.imp id (fun h=>(r1.lt h).1))),(r4.from aH.ae hw (fun _ h=>h)).bO aH.ae hb (hk.weak (fun b h=>h.imp id (fun h=>(r4.lt h).1))),(r5.from aI.ae hw (fun _ h=>h)).bO aI.ae hb (hk.weak (fun b h=>h.imp id (fun h=>(r5.lt h).1)))⟩
def abV (x y:aP) (L:List bH) (w:World) (e:Ending) (u:World):Prop :=
 (∃ v st g0 g1 g2 g3 g4 g5,Below w.heap.size w v/\applyP (gL x,iR x) L=.ok st/\e=.returned (.tuple #[.agg #[g0,g1,g2,g3,g4,g5],.int .i64 0])/\BdS (fun b=>(b<w.heap.size\/w.heap.size+2<=b)/\b<v.heap.size) w u g0 g1 g2 g3 g4 g5 y st) \/
 (∃ k,applyP (gL x,iR x) L=.error k/\e=.returned (.tuple #[.agg #[.slice none 0 0,.slice none 0 0,.slice none 0 0,.slice none 0 0,.slice none 0 0,.slice none 0 0],.int .i64 k])/\(k=2\/k=5)/\Below w.heap.size w u)
def tH (x:aP) (pod node:ByteArray) (L:List bH) (w:World) (e:Ending) (u:World):Prop :=
 ((fI (x.1.map Prod.fst) pod=none\/fI (x.2.1.map Prod.fst) node=none)/\e=.returned (.tuple #[.agg #[.slice none 0 0,.slice none 0 0,.slice none 0 0,.slice none 0 0,.slice none 0 0,.slice none 0 0],.int .i64 5])/\Below w.heap.size w u) \/
 (∃ k j,fI (x.1.map Prod.fst) pod=some k/\fI (x.2.1.map Prod.fst) node=some j /\
  ((ay (aF (x.1.getD k default)) ⟨#[]⟩=false/\e=.returned (.tuple #[.agg #[.slice none 0 0,.slice none 0 0,.slice none 0 0,.slice none 0 0,.slice none 0 0,.slice none 0 0],.int .i64 2])/\Below w.heap.size w u)\/(ay (aF (x.1.getD k default)) ⟨#[]⟩=true/\abV x (pg x k node) L w e u)))
theorem zH4 (cs:List Value) (x:aP) (pod node:ByteArray) (a:Option Addr) (n c:Nat) (L:List bH) (w:World) (h:Hid (aK (fun _=>True) w cs x)) (VI:node.size<=140737488355328) (hL:Hid (ag ak 2 32 (fun _=>True) w a n c L)) :
  Calls prog 9 #[.agg cs.toArray,.string pod,.string node,.slice a n c] w (tH x pod node L w):=by
 obtain ⟨⟨a0,n0,m0⟩,⟨a1,n1,m1⟩,⟨a2,n2,m2⟩,⟨a3,n3,m3⟩,⟨a4,n4,m4⟩,⟨a5,n5,m5⟩,rfl,s0,s1,s2,s3,s4,s5⟩:=h.out.out
 simp only at s0 s1 s2 s3 s4 s5
 obtain ⟨W1,hW1⟩:∃ W,W=(w.alloc (.cells #[.slice a0 n0 m0,.slice a1 n1 m1,.slice a2 n2 m2,.slice a3 n3 m3,.slice a4 n4 m4,.slice a5 n5 m5] 29)).alloc (.cells #[.slice none 0 0,.slice none 0 0,.slice none 0 0,.slice none 0 0,.slice none 0 0,.slice none 0 0] 29):=⟨_,rfl⟩
 have B1:Below w.heap.size w W1:=by rw [hW1];go_grown
 have q1:af W1 w.heap.size [.slice a0 n0 m0,.slice a1 n1 m1,.slice a2 n2 m2,.slice a3 n3 m3,.slice a4 n4 m4,.slice a5 n5 m5]:=by rw [hW1];exact (af.new w 29 _).on ((Below.refl _ _).alloc (Nat.le_refl _) _)
 have q2:af W1 (w.heap.size+1) [.slice none 0 0,.slice none 0 0,.slice none 0 0,.slice none 0 0,.slice none 0 0,.slice none 0 0]:=by rw [hW1];have:=af.new (w.alloc (.cells #[.slice a0 n0 m0,.slice a1 n1 m1,.slice a2 n2 m2,.slice a3 n3 m3,.slice a4 n4 m4,.slice a5 n5 m5] 29)) 29 [.slice none 0 0,.slice none 0 0,.slice none 0 0,.slice none 0 0,.slice none 0 0,.slice none 0 0];simpa using this
 have HB1:Hid (Below w.heap.size w W1/\af W1 (w.heap.size+1) [.slice none 0 0,.slice none 0 0,.slice none 0 0,.slice none 0 0,.slice none 0 0,.slice none 0 0]/\af W1 w.heap.size [.slice a0 n0 m0,.slice a1 n1 m1,.slice a2 n2 m2,.slice a3 n3 m3,.slice a4 n4 m4,.slice a5 n5 m5]):=⟨B1,q2,q1⟩
 have HS:Hid (∀ z,Below W1.heap.size W1 z->aK (fun b=>b<w.heap.size) z [.slice a0 n0 m0,.slice a1 n1 m1,.slice a2 n2 m2,.slice a3 n3 m3,.slice a4 n4 m4,.slice a5 n5 m5] x/\ag ak 2 32 (fun b=>b<w.heap.size) z a n c L):=fun z hz=>⟨aK.ae.kept (aK.ae.weak h.out (A':=fun b=>b<w.heap.size) (fun b hb _=>hb)) (Kept.below (ah B1 hz)),(hL.out.weak ak.ae (fun b hb _=>hb)).on ak.ae (ah B1 hz)⟩
 have hC:=zHe a0 n0 m0 x.1 pod W1 (s0.on aj.ae B1)
 have HN:Hid (∀ z,Below W1.heap.size W1 z->ag av 9 112 (fun _=>True) z a1 n1 m1 x.2.1/\ag aj 16 296 (fun _=>True) z a0 n0 m0 x.1):=fun z hz=>⟨s1.on av.ae (ah B1 hz),s0.on aj.ae (ah B1 hz)⟩
 have HP:Hid (ag aj 16 296 (fun b=>b<w.heap.size) w a0 n0 m0 x.1/\ag av 9 112 (fun b=>b<w.heap.size) w a1 n1 m1 x.2.1/\ag ai 5 80 (fun b=>b<w.heap.size) w a2 n2 m2 x.2.2.1/\ag aA 4 56 (fun b=>b<w.heap.size) w a3 n3 m3 x.2.2.2.1/\ag aH 2 24 (fun b=>b<w.heap.size) w a4 n4 m4 x.2.2.2.2.1/\ag aI 3 48 (fun b=>b<w.heap.size) w a5 n5 m5 x.2.2.2.2.2/\ag ak 2 32 (fun b=>b<w.heap.size) w a n c L):=⟨s0.weak aj.ae (fun b hb _=>hb),s1.weak av.ae (fun b hb _=>hb),s2.weak ai.ae (fun b hb _=>hb),s3.weak aA.ae (fun b hb _=>hb),s4.weak aH.ae (fun b hb _=>hb),s5.weak aI.ae (fun b hb _=>hb),hL.out.weak ak.ae (fun b hb _=>hb)⟩
 have y0:=(q1.2 0 _ rfl).1
 have l1:=q1.1
 clear h hL s0 s1 s2 s3 s4 s5 B1 q1 q2
 go_enter func9,ntmps9
 go_upto_region 1 with fail
 rw [<- hW1]
 clear hW1
 go_wp2_with fail
 refine hC.mono ?_
 rintro e u1 ⟨rfl,d1⟩
 clear hC y0 l1
 cases hfi:fI (x.1.map Prod.fst) pod with
 | none =>
  rw [show jN (x.1.map Prod.fst) pod=-1 by unfold jN;rw [hfi]]
  have HF:Hid (fI (x.1.map Prod.fst) pod=none):=hfi
  clear hfi
  have z5:af u1 (w.heap.size+1) [.slice none 0 0,.slice none 0 0,.slice none 0 0,.slice none 0 0,.slice none 0 0,.slice none 0 0]:=HB1.out.2.1.on d1
  obtain ⟨U,hU⟩:∃ U,U=u1.setCells (w.heap.size+1) 0 [.slice none 0 0,.slice none 0 0,.slice none 0 0,.slice none 0 0,.slice none 0 0,.slice none 0 0]:=⟨_,rfl⟩
  have HU:Hid (U=u1.setCells (w.heap.size+1) 0 (([.slice none 0 0,.slice none 0 0,.slice none 0 0,.slice none 0 0,.slice none 0 0,.slice none 0 0]:List Value).toArray).toList):=hU
  have eD:Hid (u1.there (w.heap.size+1) 0 6):=z5.there
  have qU:af U (w.heap.size+1) [.slice none 0 0,.slice none 0 0,.slice none 0 0,.slice none 0 0,.slice none 0 0,.slice none 0 0]:=by rw [hU];exact dL z5 rfl
  have HE:Hid (tH x pod node L w (.returned (.tuple #[.agg #[.slice none 0 0,.slice none 0 0,.slice none 0 0,.slice none 0 0,.slice none 0 0,.slice none 0 0],.int .i64 5])) U):=.inl ⟨.inl HF.out,rfl,  by rw [hU];exact cu (ah HB1.out.1 d1) (by omega)⟩
  have fE:Hid (U.rangeAt (w.heap.size+1) 0 [.slice none 0 0,.slice none 0 0,.slice none 0 0,.slice none 0 0,.slice none 0 0,.slice none 0 0]):=qU.range
  have lU:=qU.1
  have l5:=z5.1
  clear hU qU z5
  go_wp2_with (first | (refine wpList_store_mid rfl 29 _ _ rfl (w.heap.size+1) 0 (([.slice none 0 0,.slice none 0 0,.slice none 0 0,.slice none 0 0,.slice none 0 0,.slice none 0 0]:List Value).toArray) rfl rfl eD.out (by kernel_rfl) (by simp [Value.oneCell']) ?_;refine iJ HU.out ?_) | fail)
  refine bodyPost_ret (v:=.tuple #[.agg ([.slice none 0 0,.slice none 0 0,.slice none 0 0,.slice none 0 0,.slice none 0 0,.slice none 0 0]:List Value).toArray,.int .i64 5]) (Ew (p:=8) (q:=9) (ty:=29) rfl _ _ (w.heap.size+1) [.slice none 0 0,.slice none 0 0,.slice none 0 0,.slice none 0 0,.slice none 0 0,.slice none 0 0] _ _ rfl rfl fE.out underlying29 rfl (by kernel_rfl)) rfl HE.out
 | some k =>
  rw [show jN (x.1.map Prod.fst) pod=(k:Int) by unfold jN;rw [hfi]]
  have HF:Hid (fI (x.1.map Prod.fst) pod=some k):=hfi
  have hkx:k<x.1.length:=by have:=(jl hfi).1;rwa [List.length_map] at this
  clear hfi
  have hk0:k<n0:=by have:=(HN.out u1 d1).2.1;omega
  have hkz:¬ ((k:Int)<0):=by omega
  have y1:=((HB1.out.2.2.on d1).2 1 _ rfl).1
  have l1:=(HB1.out.2.2.on d1).1
  have hC:=zGE a1 n1 m1 x.2.1 node u1 (HN.out u1 d1).1
  go_wp2_with fail
  refine hC.mono ?_
  rintro e u2 ⟨rfl,d2⟩
  have b2:Below W1.heap.size W1 u2:=ah d1 d2
  clear hC y1 l1
  cases hfn:fI (x.2.1.map Prod.fst) node with
  | none =>
   rw [show jN (x.2.1.map Prod.fst) node=-1 by unfold jN;rw [hfn]]
   have HG:Hid (fI (x.2.1.map Prod.fst) node=none):=hfn
   clear hfn
   have z5:af u2 (w.heap.size+1) [.slice none 0 0,.slice none 0 0,.slice none 0 0,.slice none 0 0,.slice none 0 0,.slice none 0 0]:=HB1.out.2.1.on b2
   obtain ⟨U,hU⟩:∃ U,U=u2.setCells (w.heap.size+1) 0 [.slice none 0 0,.slice none 0 0,.slice none 0 0,.slice none 0 0,.slice none 0 0,.slice none 0 0]:=⟨_,rfl⟩
   have HU:Hid (U=u2.setCells (w.heap.size+1) 0 (([.slice none 0 0,.slice none 0 0,.slice none 0 0,.slice none 0 0,.slice none 0 0,.slice none 0 0]:List Value).toArray).toList):=hU
   have eD:Hid (u2.there (w.heap.size+1) 0 6):=z5.there
   have qU:af U (w.heap.size+1) [.slice none 0 0,.slice none 0 0,.slice none 0 0,.slice none 0 0,.slice none 0 0,.slice none 0 0]:=by rw [hU];exact dL z5 rfl
   have HE:Hid (tH x pod node L w (.returned (.tuple #[.agg #[.slice none 0 0,.slice none 0 0,.slice none 0 0,.slice none 0 0,.slice none 0 0,.slice none 0 0],.int .i64 5])) U):=.inl ⟨.inr HG.out,rfl,  by rw [hU];exact cu (ah HB1.out.1 b2) (by omega)⟩
   have fE:Hid (U.rangeAt (w.heap.size+1) 0 [.slice none 0 0,.slice none 0 0,.slice none 0 0,.slice none 0 0,.slice none 0 0,.slice none 0 0]):=qU.range
   have lU:=qU.1
   have l5:=z5.1
   clear hU qU z5
   go_wp2_with (first | (refine wpList_store_mid rfl 29 _ _ rfl (w.heap.size+1) 0 (([.slice none 0 0,.slice none 0 0,.slice none 0 0,.slice none 0 0,.slice none 0 0,.slice none 0 0]:List Value).toArray) rfl rfl eD.out (by kernel_rfl) (by simp [Value.oneCell']) ?_;refine iJ HU.out ?_) | fail)
   refine bodyPost_ret (v:=.tuple #[.agg ([.slice none 0 0,.slice none 0 0,.slice none 0 0,.slice none 0 0,.slice none 0 0,.slice none 0 0]:List Value).toArray,.int .i64 5]) (Ew (p:=8) (q:=9) (ty:=29) rfl _ _ (w.heap.size+1) [.slice none 0 0,.slice none 0 0,.slice none 0 0,.slice none 0 0,.slice none 0 0,.slice none 0 0] _ _ rfl rfl fE.out underlying29 rfl (by kernel_rfl)) rfl HE.out
  | some j =>
   rw [show jN (x.2.1.map Prod.fst) node=(j:Int) by unfold jN;rw [hfn]]
   have HG:Hid (fI (x.2.1.map Prod.fst) node=some j):=hfn
   clear hfn
   have hjz:¬ ((j:Int)<0):=by omega
   have y0:=((HB1.out.2.2.on b2).2 0 _ rfl).1
   have l0:=(HB1.out.2.2.on b2).1
   obtain ⟨B,off,wU,hBl,wT,xs,vN,hv⟩:=(HN.out u2 b2).2.get hk0
   subst wU
   generalize F7:x.1.getD k default=q at vN
   have Az:Hid (x.1.getD k default=q):=F7
   clear F7
   obtain ⟨hsz,hsn,v1,v2,v3,v4,v5,v6,v7,v8,v9,v10,v11,v12,v13,v15,rfl⟩:=vN.wQ
   have HV:Hid (u2.rangeAt B (off+k*16) [.string q.1,v1,v2,v3,v4,v5,v6,v7,v8,v9,v10,v11,v12,v13,.string (aF q),v15]):=hv
   have hi:(prog.info? 41).map (·.size)=some ([.string q.1,v1,v2,v3,v4,v5,v6,v7,v8,v9,v10,v11,v12,v13,.string (aF q),v15]:List Value).length:=kY
   have hC:=Zb [.string q.1,v1,v2,v3,v4,v5,v6,v7,v8,v9,v10,v11,v12,v13,.string (aF q),v15] _ q u2 vN
   obtain ⟨bo,pU⟩:∃ b,ay (aF q) ⟨#[]⟩=b:=⟨_,rfl⟩
   rw [pU] at hC
   have vU:Hid (ay (aF q) ⟨#[]⟩=bo):=pU
   clear pU vN hv
   have hltz:(k:Int)<(n0:Int):=by omega
   go_wp2_with (first | (refine wpList_load_mid rfl 41 _ rfl B (off+k*16) rfl [.string q.1,v1,v2,v3,v4,v5,v6,v7,v8,v9,v10,v11,v12,v13,.string (aF q),v15] _ HV.out underlying41 rfl hi ?_) | fail)
   refine hC.mono ?_
   rintro e u3 ⟨rfl,d3⟩
   have b3:Below W1.heap.size W1 u3:=ah b2 d3
   clear hC y0 l0 HV hi
   cases bo
   ·--M6
    have z5:af u3 (w.heap.size+1) [.slice none 0 0,.slice none 0 0,.slice none 0 0,.slice none 0 0,.slice none 0 0,.slice none 0 0]:=HB1.out.2.1.on b3
    obtain ⟨U,hU⟩:∃ U,U=u3.setCells (w.heap.size+1) 0 [.slice none 0 0,.slice none 0 0,.slice none 0 0,.slice none 0 0,.slice none 0 0,.slice none 0 0]:=⟨_,rfl⟩
    have HU:Hid (U=u3.setCells (w.heap.size+1) 0 (([.slice none 0 0,.slice none 0 0,.slice none 0 0,.slice none 0 0,.slice none 0 0,.slice none 0 0]:List Value).toArray).toList):=hU
    have eD:Hid (u3.there (w.heap.size+1) 0 6):=z5.there
    have qU:af U (w.heap.size+1) [.slice none 0 0,.slice none 0 0,.slice none 0 0,.slice none 0 0,.slice none 0 0,.slice none 0 0]:=by rw [hU];exact dL z5 rfl
    have HE:Hid (tH x pod node L w (.returned (.tuple #[.agg #[.slice none 0 0,.slice none 0 0,.slice none 0 0,.slice none 0 0,.slice none 0 0,.slice none 0 0],.int .i64 2])) U):=.inr ⟨k,j,HF.out,HG.out,.inl ⟨by rw [Az.out];exact vU.out,rfl,  by rw [hU];exact cu (ah HB1.out.1 b3) (by omega)⟩⟩
    have fE:Hid (U.rangeAt (w.heap.size+1) 0 [.slice none 0 0,.slice none 0 0,.slice none 0 0,.slice none 0 0,.slice none 0 0,.slice none 0 0]):=qU.range
    have lU:=qU.1
    have l5:=z5.1
    clear hU qU z5
    go_wp2_with (first | (refine wpList_store_mid rfl 29 _ _ rfl (w.heap.size+1) 0 (([.slice none 0 0,.slice none 0 0,.slice none 0 0,.slice none 0 0,.slice none 0 0,.slice none 0 0]:List Value).toArray) rfl rfl eD.out (by kernel_rfl) (by simp [Value.oneCell']) ?_;refine iJ HU.out ?_) | fail)
    refine bodyPost_ret (v:=.tuple #[.agg ([.slice none 0 0,.slice none 0 0,.slice none 0 0,.slice none 0 0,.slice none 0 0,.slice none 0 0]:List Value).toArray,.int .i64 2]) (Ew (p:=8) (q:=9) (ty:=29) rfl _ _ (w.heap.size+1) [.slice none 0 0,.slice none 0 0,.slice none 0 0,.slice none 0 0,.slice none 0 0,.slice none 0 0] _ _ rfl rfl fE.out underlying29 rfl (by kernel_rfl)) rfl HE.out
   ·--M7
    have b3w:=ah HB1.out.1 b3
    have c0:=(HB1.out.2.2.on b3).2 0 _ rfl
    have l0:=(HB1.out.2.2.on b3).1
    have hC:=Yu (some ⟨B,off,none⟩) n0 m0 (fun b=>b<w.heap.size) x.1 u3 (HP.out.1.on aj.ae b3w)
    go_wp2_with fail
    refine hC.mono ?_
    rintro e u4 ⟨v,rfl,r4⟩
    clear hC c0 l0
    have d4:=r4.below
    have b4:Below W1.heap.size W1 u4:=ah b3 d4
    have b4w:Below w.heap.size w u4:=ah HB1.out.1 b4
    have lW:w.heap.size+2<=u3.heap.size:=by have h1:=HB1.out.2.1.1;have h2:=b3.size;omega
    obtain ⟨g,cg,cs4,rfl,hg4,hgl,_,_⟩:=r4.wV aj.ae hkx
    have Zr:Row aj 16 (fun b=>b<w.heap.size) w u4 41 (.slice (some ⟨g,0,none⟩) x.1.length cg) x.1:=r4.from aj.ae b3w (fun b hb=>hb.1)
    clear r4
    obtain ⟨pl,hpl⟩:∃ l,x.1.length=l:=⟨_,rfl⟩
    have HPL:Hid (x.1.length=pl):=hpl
    obtain ⟨U5,ow⟩:∃ U,U=u4.setCell ⟨w.heap.size,0,none⟩ (.slice (some ⟨g,0,none⟩) pl cg):=⟨_,rfl⟩
    have HU5:Hid (U5=u4.setCell ⟨w.heap.size,0,none⟩ (.slice (some ⟨g,0,none⟩) pl cg)):=ow
    have k5:Kept (fun b=>b≠w.heap.size) u4 U5:=by rw [ow];exact Kept.set (p:=⟨w.heap.size,0,none⟩) (fun h=>h rfl) _
    have TP:Below w.heap.size w U5:=by rw [ow];exact b4w.setCell (p:=⟨w.heap.size,0,none⟩) (Nat.le_refl _) _
    have q5:af U5 w.heap.size [.slice (some ⟨g,0,none⟩) pl cg,.slice a1 n1 m1,.slice a2 n2 m2,.slice a3 n3 m3,.slice a4 n4 m4,.slice a5 n5 m5]:=by rw [ow];exact (HB1.out.2.2.on b4).set 0 (.slice (some ⟨g,0,none⟩) pl cg) (by simp)
    have q5z:af U5 (w.heap.size+1) [.slice none 0 0,.slice none 0 0,.slice none 0 0,.slice none 0 0,.slice none 0 0,.slice none 0 0]:=(HB1.out.2.1.on b4).kept k5 (by omega)
    have r5:Row aj 16 (fun b=>b<w.heap.size) w U5 41 (.slice (some ⟨g,0,none⟩) x.1.length cg) x.1:=Zr.bO aj.ae TP (k5.weak (fun b hb e=>hb.elim (fun h9=>by have h8:b<w.heap.size:=h9;omega) (fun h9=>by simp only [Value.ownBlock,Option.some.injEq] at h9;omega)))
    have c0:=(HB1.out.2.2.on b4).2 0 _ rfl
    have l0:=(HB1.out.2.2.on b4).1
    clear Zr k5
    go_upto_region 7 with fail
    rw [<- HU5.out]
    clear ow HU5 c0 l0
    have bD:Below U5.heap.size U5 U5.drew:=(Below.refl _ _).drew
    refine t0 (fun z=>z.cell? ⟨w.heap.size,0,none⟩=some (.slice (some ⟨g,0,none⟩) pl cg)/\w.heap.size<z.heap.size) ⟨((q5.on bD).2 0 _ rfl).1,(q5.on bD).1⟩ (fun gH=>?_)
    have qd:=q5.on bD
    have Rj:=q5z.on bD
    have rd:=r5.on aj.ae bD
    have TM:Below w.heap.size w U5.drew:=ah TP bD
    generalize hwd:U5.drew=wd at gH qd Rj rd TM |-
    clear hwd bD q5 q5z r5 TP
    try go_frame
    have hkp:k<pl:=by omega
    have acS:(k:Int)<(pl:Int):=by omega
    have acY:(0:Int)<=(k:Int):=by omega
    refine' tk 0 ?_ ?_;rotate_left
    ·intro u hu;obtain ⟨f1,f2⟩:=hu;go_simp;try with_reducible rfl
    try go_frame
    refine' tk 1 ?_ ?_;rotate_left
    ·intro u hu;obtain ⟨f1,f2⟩:=hu;go_simp;try with_reducible rfl
    try go_frame
    refine' tk 2 ?_ ?_;rotate_left
    ·intro u hu;obtain ⟨f1,f2⟩:=hu;go_simp;try with_reducible rfl
    try go_frame
    refine' tk 3 ?_ ?_;rotate_left
    ·intro u hu;obtain ⟨f1,f2⟩:=hu;go_simp;try with_reducible rfl
    try go_frame
    refine' tk 4 ?_ ?_;rotate_left
    ·intro u hu;obtain ⟨f1,f2⟩:=hu;go_simp;try with_reducible rfl
    try go_frame
    refine' tk 5 ?_ ?_;rotate_left
    ·intro u hu;obtain ⟨f1,f2⟩:=hu;go_simp;try with_reducible rfl
    try go_frame
    refine' tk 6 ?_ ?_;rotate_left
    ·intro u hu;obtain ⟨f1,f2⟩:=hu;go_simp;try with_reducible rfl
    try go_frame
    refine' tk 7 ?_ ?_;rotate_left
    ·intro u hu;obtain ⟨f1,f2⟩:=hu;go_simp;try with_reducible rfl
    try go_frame
    refine' tk 8 ?_ ?_;rotate_left
    ·intro u hu;obtain ⟨f1,f2⟩:=hu;go_simp;try with_reducible rfl
    try go_frame
    obtain ⟨g',cg',cs9,hge,qJ,_,zP,ML⟩:=rd.wV aj.ae hkx
    obtain ⟨rfl,rfl⟩:g=g'/\cg=cg':=by simp only [Value.slice.injEq,Option.some.injEq,Addr.mk.injEq] at hge;exact ⟨hge.1.1,hge.2.2⟩
    obtain ⟨_,_,z1,z2,z3,z4,z5,z6,z7,z8,z9,z10,z11,z12,Br,z15,rfl⟩:=zP.wQ
    have e14:=ML 14 _ rfl
    have e15:=ML 15 _ rfl
    have f14:wd.frozen? ⟨g,k*16+14,none⟩=false:=rd.yO
    have f15:wd.frozen? ⟨g,k*16+15,none⟩=false:=rd.yO
    have hgw:g≠w.heap.size:=by omega
    have hgz:g≠w.heap.size+1:=by omega
    clear zP ML hge
    obtain ⟨U6,zW⟩:∃ U,U=wd.setCell ⟨g,k*16+14,none⟩ (.string node):=⟨_,rfl⟩
    have s6:U6.cell? ⟨w.heap.size,0,none⟩=some (.slice (some ⟨g,0,none⟩) pl cg)/\w.heap.size<U6.heap.size:=by rw [zW];exact ⟨(World.cell?_setCell_far _ _ _ _ hgw).trans gH.1,by simpa using gH.2⟩
    have h15:U6.cell? ⟨g,k*16+15,none⟩=some z15:=by rw [zW];exact (World.cell?_setCell_other _ _ _ _ (fun e=>by have:=congrArg Addr.off e;simp at this)).trans e15
    have i15:U6.frozen? ⟨g,k*16+15,none⟩=false:=by rw [zW,World.frozen?_setCell];exact f15
    have lg6:g<U6.heap.size:=by rw [zW];simpa using qJ
    refine ts 9 (fun K hK=>?_)
    go_simp
    rw [<- zW]
    refine hK.out undef _ s6 (fun gI=>?_)
    have NN:Hid (U6=wd.setCell ⟨g,k*16+14,none⟩ (.string node)):=zW
    clear zW
    clear hK K gH;have gH:=gI;clear gI
    try go_frame
    refine tp 10 ?_
    try go_frame
    refine tp 11 ?_
    try go_frame
    obtain ⟨U7,Cg⟩:∃ U,U=U6.setCell ⟨g,k*16+15,none⟩ (.string ⟨#[]⟩):=⟨_,rfl⟩
    have s7:U7.cell? ⟨w.heap.size,0,none⟩=some (.slice (some ⟨g,0,none⟩) pl cg)/\w.heap.size<U7.heap.size:=by rw [Cg];exact ⟨(World.cell?_setCell_far _ _ _ _ hgw).trans s6.1,by simpa using s6.2⟩
    have xY:Kept (fun b=>b≠g) wd U7:=by rw [Cg,NN.out];exact (Kept.set (p:=⟨g,k*16+14,none⟩) (fun h=>h rfl) _).trans (Kept.set (p:=⟨g,k*16+15,none⟩) (fun h=>h rfl) _)
    have Nf:Below w.heap.size w U7:=by rw [Cg,NN.out];exact (TM.setCell (p:=⟨g,k*16+14,none⟩) (show w.heap.size<=g by omega) _).setCell (p:=⟨g,k*16+15,none⟩) (show w.heap.size<=g by omega) _
    have q7:=qd.kept xY (Ne.symm hgw)
    have Rl:=Rj.kept xY (Ne.symm hgz)
    have R6:=rd.set1 aj.ae hkx (j:=14) (val:=.string node) (x:=setNode (x.1.getD k default) node) (by omega) (fun B cs h=>h.za VI)
    rw [<- NN.out] at R6
    have R6':Row aj 16 (fun b=>b<w.heap.size) w U6 41 (.slice (some ⟨g,0,none⟩) (x.1.set k (setNode (x.1.getD k default) node)).length cg) (x.1.set k (setNode (x.1.getD k default) node)):=by rw [List.length_set];exact R6
    have R7:=R6'.set1 aj.ae (i:=k) (by rw [List.length_set];exact hkx) (j:=15) (val:=.string ⟨#[]⟩) (x:=vB (setNode (x.1.getD k default) node) ⟨#[]⟩) (by omega) (fun B cs h=>by
     rw [show (x.1.set k (setNode (x.1.getD k default) node)).getD k default=setNode (x.1.getD k default) node by rw [List.getD_eq_getElem?_getD,List.getElem?_set_self hkx];rfl] at h
     exact h.QN (by decide))
    rw [<- Cg,List.length_set,List.set_set,hpl] at R7
    have HR7:Hid (Row aj 16 (fun b=>b<w.heap.size) w U7 41 (.slice (some ⟨g,0,none⟩) pl cg) (pg x k node).1):=R7
    have HU7:Hid (U7=U6.setCell ⟨g,k*16+15,none⟩ (.string ⟨#[]⟩)):=Cg
    clear Cg
    refine ts 12 (fun K hK=>?_)
    go_simp
    rw [<- HU7.out]
    refine hK.out undef _ s7 (fun gI=>?_)
    clear hK K gH;have gH:=gI;clear gI
    try go_frame
    refine tz ?_
    have hbn:pl*296<=140737488351232:=by have h1:=HP.out.1.2.2.2.1;have h2:=HP.out.1.1;omega
    have HRS:Hid (aK (fun b=>b<w.heap.size\/w.heap.size+2<=b) U7 [.slice (some ⟨g,0,none⟩) pl cg,.slice a1 n1 m1,.slice a2 n2 m2,.slice a3 n3 m3,.slice a4 n4 m4,.slice a5 n5 m5] (pg x k node)):=by
     have sP:ag aj 16 296 (fun b=>b<w.heap.size\/w.heap.size+2<=b) U7 (some ⟨g,0,none⟩) pl cg (pg x k node).1:=by
      have hlb:(pg x k node).1.length=pl:=by unfold pg;rw [List.length_set];exact hpl
      obtain ⟨xs,h1,h2⟩:=HR7.out
      obtain ⟨a',cap',e1,h4⟩:=yZ (bytes:=296) aj.ae h1.2 h2 (by rw [hlb];exact hbn)
      rw [hlb] at e1 h4
      simp only [Value.slice.injEq] at e1
      obtain ⟨e1,_,e3⟩:=e1
      rw [<- e1,<- e3] at h4
      refine h4.weak aj.ae (fun b _ hb=>?_)
      rcases hb with hb | hb
      ·exact .inl hb.1
      ·simp only [Value.ownBlock,Option.some.injEq] at hb;exact .inr (by omega)
     have kw:∀ A:Where,Kept A w U7:=fun A=>Kept.below Nf
     exact aK.mk (x:=pg x k node) (h0:=(some ⟨g,0,none⟩,pl,cg)) (h1:=(a1,n1,m1)) (h2:=(a2,n2,m2)) (h3:=(a3,n3,m3)) (h4:=(a4,n4,m4)) (h5:=(a5,n5,m5)) sP ((HP.out.2.1.kept av.ae (kw _)).weak av.ae (fun b _ h=>.inl h)) ((HP.out.2.2.1.kept ai.ae (kw _)).weak ai.ae (fun b _ h=>.inl h)) ((HP.out.2.2.2.1.kept aA.ae (kw _)).weak aA.ae (fun b _ h=>.inl h)) ((HP.out.2.2.2.2.1.kept aH.ae (kw _)).weak aH.ae (fun b _ h=>.inl h)) ((HP.out.2.2.2.2.2.1.kept aI.ae (kw _)).weak aI.ae (fun b _ h=>.inl h))
    have HRL:Hid (ag ak 2 32 (fun _=>True) U7 a n c L):=(HP.out.2.2.2.2.2.2.kept ak.ae (Kept.below Nf)).weak ak.ae (fun _ _ _=>trivial)
    have hC:=zFH (fun b=>b<w.heap.size\/w.heap.size+2<=b) [.slice (some ⟨g,0,none⟩) pl cg,.slice a1 n1 m1,.slice a2 n2 m2,.slice a3 n3 m3,.slice a4 n4 m4,.slice a5 n5 m5] (pg x k node) a n c L U7 HRS HRL
    have HQ7:Hid (af U7 (w.heap.size+1) [.slice none 0 0,.slice none 0 0,.slice none 0 0,.slice none 0 0,.slice none 0 0,.slice none 0 0]):=Rl
    have HR8:Hid (U7.rangeAt w.heap.size 0 [.slice (some ⟨g,0,none⟩) pl cg,.slice a1 n1 m1,.slice a2 n2 m2,.slice a3 n3 m3,.slice a4 n4 m4,.slice a5 n5 m5]):=q7.range
    have CV:Hid (Below w.heap.size w U7):=Nf
    have HL7:Hid (w.heap.size+2<=U7.heap.size):=Rl.1
    have l7:=q7.1
    have HX:Hid (ay (aF (x.1.getD k default)) ⟨#[]⟩=true):=by rw [Hid,Az.out];exact vU.out
    have mG:(prog.info? 29).map (·.size)=some 6:=oN
    clear NN HU7 s6 s7 xY Nf q7 Rl R6 R6' R7 HR7 HRS HRL h15 i15 lg6 e14 e15 f14 f15 qd Rj rd TM gH Az vU
    go_wp2_with (first | (refine wpList_load_mid rfl 29 _ rfl w.heap.size 0 rfl [.slice (some ⟨g,0,none⟩) pl cg,.slice a1 n1 m1,.slice a2 n2 m2,.slice a3 n3 m3,.slice a4 n4 m4,.slice a5 n5 m5] _ HR8.out underlying29 rfl mG ?_) | fail)
    refine hC.mono ?_
    clear hC HR8 l7
    rintro e u8 (⟨st,g0,g1,g2,g3,g4,g5,hr,rfl,hd⟩ | ⟨kk,hr,rfl,hkk,d8⟩)
    ·have d8:Below U7.heap.size U7 u8:=hd.2.2
     obtain ⟨b0,k0,c0,rfl⟩:=hd.2.1.1.head
     obtain ⟨b1,k1,c1,rfl⟩:=hd.2.1.2.1.head
     obtain ⟨bb2,k2,c2,rfl⟩:=hd.1.1.head
     obtain ⟨bb3,k3,c3,rfl⟩:=hd.1.2.1.head
     obtain ⟨vQ,k4,c4,rfl⟩:=hd.2.1.2.2.1.head
     obtain ⟨b5,k5,c5,rfl⟩:=hd.2.1.2.2.2.head
     have z5:=HQ7.out.on d8
     obtain ⟨U,hU⟩:∃ U,U=u8.setCells (w.heap.size+1) 0 [.slice b0 k0 c0,.slice b1 k1 c1,.slice bb2 k2 c2,.slice bb3 k3 c3,.slice vQ k4 c4,.slice b5 k5 c5]:=⟨_,rfl⟩
     have HU:Hid (U=u8.setCells (w.heap.size+1) 0 (([.slice b0 k0 c0,.slice b1 k1 c1,.slice bb2 k2 c2,.slice bb3 k3 c3,.slice vQ k4 c4,.slice b5 k5 c5]:List Value).toArray).toList):=hU
     have eD:Hid (u8.there (w.heap.size+1) 0 6):=z5.there
     have qU:af U (w.heap.size+1) [.slice b0 k0 c0,.slice b1 k1 c1,.slice bb2 k2 c2,.slice bb3 k3 c3,.slice vQ k4 c4,.slice b5 k5 c5]:=by rw [hU];exact dL z5 rfl
     have kU:Kept (fun b=>b≠w.heap.size+1) u8 U:=by rw [hU];exact dP (fun h=>h rfl)
     have bU:Below w.heap.size w U:=by rw [hU];exact cu (ah CV.out d8) (by omega)
     have HE:Hid (tH x pod node L w (.returned (.tuple #[.agg #[.slice b0 k0 c0,.slice b1 k1 c1,.slice bb2 k2 c2,.slice bb3 k3 c3,.slice vQ k4 c4,.slice b5 k5 c5],.int .i64 0])) U):=.inr ⟨k,j,HF.out,HG.out,.inr ⟨HX.out,.inl ⟨U7,st,_,_,_,_,_,_,CV.out,hr,rfl,hd.toB CV.out bU (kU.weak (fun b hb=>by have h9:=HL7.out;rcases hb with ⟨hb | hb,_⟩ | hb <;> omega))⟩⟩⟩
     have fE:Hid (U.rangeAt (w.heap.size+1) 0 [.slice b0 k0 c0,.slice b1 k1 c1,.slice bb2 k2 c2,.slice bb3 k3 c3,.slice vQ k4 c4,.slice b5 k5 c5]):=qU.range
     have lU:=qU.1
     have l5:=z5.1
     clear hU qU z5 kU bU hd hr d8
     go_wp2_with (first | (refine wpList_store_mid rfl 29 _ _ rfl (w.heap.size+1) 0 (([.slice b0 k0 c0,.slice b1 k1 c1,.slice bb2 k2 c2,.slice bb3 k3 c3,.slice vQ k4 c4,.slice b5 k5 c5]:List Value).toArray) rfl rfl eD.out mG (by simp [Value.oneCell']) ?_;refine iJ HU.out ?_) | fail)
     refine bodyPost_ret (v:=.tuple #[.agg ([.slice b0 k0 c0,.slice b1 k1 c1,.slice bb2 k2 c2,.slice bb3 k3 c3,.slice vQ k4 c4,.slice b5 k5 c5]:List Value).toArray,.int .i64 0]) (Ew (p:=8) (q:=9) (ty:=29) rfl _ _ (w.heap.size+1) [.slice b0 k0 c0,.slice b1 k1 c1,.slice bb2 k2 c2,.slice bb3 k3 c3,.slice vQ k4 c4,.slice b5 k5 c5] _ _ rfl rfl fE.out underlying29 rfl mG) rfl HE.out
    ·have z5:=HQ7.out.on d8
     obtain ⟨U,hU⟩:∃ U,U=u8.setCells (w.heap.size+1) 0 [.slice none 0 0,.slice none 0 0,.slice none 0 0,.slice none 0 0,.slice none 0 0,.slice none 0 0]:=⟨_,rfl⟩
     have HU:Hid (U=u8.setCells (w.heap.size+1) 0 (([.slice none 0 0,.slice none 0 0,.slice none 0 0,.slice none 0 0,.slice none 0 0,.slice none 0 0]:List Value).toArray).toList):=hU
     have eD:Hid (u8.there (w.heap.size+1) 0 6):=z5.there
     have qU:af U (w.heap.size+1) [.slice none 0 0,.slice none 0 0,.slice none 0 0,.slice none 0 0,.slice none 0 0,.slice none 0 0]:=by rw [hU];exact dL z5 rfl
     have HE:Hid (tH x pod node L w (.returned (.tuple #[.agg #[.slice none 0 0,.slice none 0 0,.slice none 0 0,.slice none 0 0,.slice none 0 0,.slice none 0 0],.int .i64 kk])) U):=.inr ⟨k,j,HF.out,HG.out,.inr ⟨HX.out,.inr ⟨kk,hr,rfl,hkk,by rw [hU];exact cu (ah CV.out d8) (by omega)⟩⟩⟩
     have fE:Hid (U.rangeAt (w.heap.size+1) 0 [.slice none 0 0,.slice none 0 0,.slice none 0 0,.slice none 0 0,.slice none 0 0,.slice none 0 0]):=qU.range
     have lU:=qU.1
     have l5:=z5.1
     clear hU qU z5 hr d8 hkk
     go_wp2_with (first | (refine wpList_store_mid rfl 29 _ _ rfl (w.heap.size+1) 0 (([.slice none 0 0,.slice none 0 0,.slice none 0 0,.slice none 0 0,.slice none 0 0,.slice none 0 0]:List Value).toArray) rfl rfl eD.out mG (by simp [Value.oneCell']) ?_;refine iJ HU.out ?_) | fail)
     refine bodyPost_ret (v:=.tuple #[.agg ([.slice none 0 0,.slice none 0 0,.slice none 0 0,.slice none 0 0,.slice none 0 0,.slice none 0 0]:List Value).toArray,.int .i64 kk]) (Ew (p:=8) (q:=9) (ty:=29) rfl _ _ (w.heap.size+1) [.slice none 0 0,.slice none 0 0,.slice none 0 0,.slice none 0 0,.slice none 0 0,.slice none 0 0] _ _ rfl rfl fE.out underlying29 rfl mG) rfl HE.out
end Go.Proofs.YtgikfenllgldoaaGreat
