/- volume.own: a state with lists of its own. Condition: the state lies as is said of it. -/
import Derived.Test.YtgikfenllgldoaaGreatQ22
import Derived.Test.YtgikfenllgldoaaGreatQ21
set_option linter.unusedSimpArgs false
set_option maxRecDepth 100000
set_option maxHeartbeats 32000000
namespace Go.Proofs.YtgikfenllgldoaaGreat
open Go.Proofs.Tryz
open Go.RowKit Go.Maps
def Nk (D:Where) (w u:World) (g0 g1 g2 g3 g4 g5:Value) (x:aP):Prop :=
 Row aj 16 (fun b=>D b/\b<w.heap.size) w u 41 g0 x.1/\Row av 9 (fun b=>D b/\b<w.heap.size) w u 56 g1 x.2.1/\Row ai 5 (fun b=>D b/\b<w.heap.size) w u 59 g2 (gL x)/\Row aA 4 (fun b=>D b/\b<w.heap.size) w u 124 g3 (iR x)/\Row aH 2 (fun b=>D b/\b<w.heap.size) w u 180 g4 (tN x)/\Row aI 3 (fun b=>D b/\b<w.heap.size) w u 62 g5 x.2.2.2.2.2/\(∀ b,g2.ownBlock=some b->g0.ownBlock≠some b/\g1.ownBlock≠some b/\g3.ownBlock≠some b/\g4.ownBlock≠some b/\g5.ownBlock≠some b)/\(∀ b,g3.ownBlock=some b->g0.ownBlock≠some b/\g1.ownBlock≠some b/\g2.ownBlock≠some b/\g4.ownBlock≠some b/\g5.ownBlock≠some b)
def WU (D:Where) (w:World) (x:aP) (e:Ending) (u:World):Prop:=∃ g0 g1 g2 g3 g4 g5,e=.returned (.agg #[g0,g1,g2,g3,g4,g5])/\Nk D w u g0 g1 g2 g3 g4 g5 x
theorem zHb (D:Where) (cs:List Value) (x:aP) (w:World) (h:Hid (aK D w cs x)):Calls prog 56 #[.agg cs.toArray] w (WU D w x):=by
 obtain ⟨⟨a0,n0,m0⟩,⟨a1,n1,m1⟩,⟨a2,n2,m2⟩,⟨a3,n3,m3⟩,⟨a4,n4,m4⟩,⟨a5,n5,m5⟩,rfl,s0,s1,s2,s3,s4,s5⟩:=h.out.out
 simp only at s0 s1 s2 s3 s4 s5
 obtain ⟨W1,hW1⟩:∃ W,W=(w.alloc (.cells #[.slice a0 n0 m0,.slice a1 n1 m1,.slice a2 n2 m2,.slice a3 n3 m3,.slice a4 n4 m4,.slice a5 n5 m5] 29)).alloc (.cells #[.slice none 0 0,.slice none 0 0,.slice none 0 0,.slice none 0 0,.slice none 0 0,.slice none 0 0] 29):=⟨_,rfl⟩
 have B1:Below w.heap.size w W1:=by rw [hW1];go_grown
 have q1:af W1 w.heap.size [.slice a0 n0 m0,.slice a1 n1 m1,.slice a2 n2 m2,.slice a3 n3 m3,.slice a4 n4 m4,.slice a5 n5 m5]:=by rw [hW1];exact (af.new w 29 _).on ((Below.refl _ _).alloc (Nat.le_refl _) _)
 have q2:af W1 (w.heap.size+1) [.slice none 0 0,.slice none 0 0,.slice none 0 0,.slice none 0 0,.slice none 0 0,.slice none 0 0]:=by rw [hW1];have:=af.new (w.alloc (.cells #[.slice a0 n0 m0,.slice a1 n1 m1,.slice a2 n2 m2,.slice a3 n3 m3,.slice a4 n4 m4,.slice a5 n5 m5] 29)) 29 [.slice none 0 0,.slice none 0 0,.slice none 0 0,.slice none 0 0,.slice none 0 0,.slice none 0 0];simpa using this
 have HQ:Hid (∀ z,Kept (fun b=>b=w.heap.size) W1 z->z.cell? ⟨w.heap.size,0,none⟩=some (.slice a0 n0 m0)/\z.cell? ⟨w.heap.size,1,none⟩=some (.slice a1 n1 m1)/\z.cell? ⟨w.heap.size,2,none⟩=some (.slice a2 n2 m2)/\z.cell? ⟨w.heap.size,3,none⟩=some (.slice a3 n3 m3)/\z.cell? ⟨w.heap.size,4,none⟩=some (.slice a4 n4 m4)/\z.cell? ⟨w.heap.size,5,none⟩=some (.slice a5 n5 m5)):=fun z hb=>⟨((q1.kept hb rfl).2 0 _ rfl).1,((q1.kept hb rfl).2 1 _ rfl).1,((q1.kept hb rfl).2 2 _ rfl).1,((q1.kept hb rfl).2 3 _ rfl).1,((q1.kept hb rfl).2 4 _ rfl).1,((q1.kept hb rfl).2 5 _ rfl).1⟩
 have S0:Hid (∀ z,Below W1.heap.size W1 z->ag aj 16 296 (fun b=>D b/\b<w.heap.size) z a0 n0 m0 x.1):=fun z hb=>(s0.weak aj.ae (fun b hb hd=>⟨hd,hb⟩)).on aj.ae (ah B1 hb)
 have S1:Hid (∀ z,Below W1.heap.size W1 z->ag av 9 112 (fun b=>D b/\b<w.heap.size) z a1 n1 m1 x.2.1):=fun z hb=>(s1.weak av.ae (fun b hb hd=>⟨hd,hb⟩)).on av.ae (ah B1 hb)
 have S2:Hid (∀ z,Below W1.heap.size W1 z->ag ai 5 80 (fun b=>D b/\b<w.heap.size) z a2 n2 m2 (gL x)):=fun z hb=>(s2.weak ai.ae (fun b hb hd=>⟨hd,hb⟩)).on ai.ae (ah B1 hb)
 have S3:Hid (∀ z,Below W1.heap.size W1 z->ag aA 4 56 (fun b=>D b/\b<w.heap.size) z a3 n3 m3 (iR x)):=fun z hb=>(s3.weak aA.ae (fun b hb hd=>⟨hd,hb⟩)).on aA.ae (ah B1 hb)
 have S4:Hid (∀ z,Below W1.heap.size W1 z->ag aH 2 24 (fun b=>D b/\b<w.heap.size) z a4 n4 m4 (tN x)):=fun z hb=>(s4.weak aH.ae (fun b hb hd=>⟨hd,hb⟩)).on aH.ae (ah B1 hb)
 have S5:Hid (∀ z,Below W1.heap.size W1 z->ag aI 3 48 (fun b=>D b/\b<w.heap.size) z a5 n5 m5 x.2.2.2.2.2):=fun z hb=>(s5.weak aI.ae (fun b hb hd=>⟨hd,hb⟩)).on aI.ae (ah B1 hb)
 have HB1:Hid (Below w.heap.size w W1/\af W1 (w.heap.size+1) [.slice none 0 0,.slice none 0 0,.slice none 0 0,.slice none 0 0,.slice none 0 0,.slice none 0 0]/\w.heap.size+1<W1.heap.size):=⟨B1,q2,q2.1⟩
 clear h s0 s1 s2 s3 s4 s5 B1 q1 q2
 go_enter func56,ntmps56
 go_upto_region 1 with fail
 rw [<- hW1]
 clear hW1
 refine t0 (fun z=>Kept (fun b=>b=w.heap.size) W1 z) (Kept.drew _ _) (fun gH=>?_)
 have hb0:Below W1.heap.size W1 W1.drew:=(Below.refl _ _).drew
 generalize hwd:W1.drew=wd at gH hb0 |-
 clear hwd
 try go_frame
 refine' tk 0 ?_ ?_;rotate_left
 ·intro u hu;obtain ⟨f0,f1,f2,f3,f4,f5⟩:=HQ.out u hu;clear hu;go_simp;try with_reducible rfl
 try go_frame
 refine' tk 1 ?_ ?_;rotate_left
 ·intro u hu;obtain ⟨f0,f1,f2,f3,f4,f5⟩:=HQ.out u hu;clear hu;go_simp;try with_reducible rfl
 try go_frame
 refine' tk 3 ?_ ?_;rotate_left
 ·intro u hu;obtain ⟨f0,f1,f2,f3,f4,f5⟩:=HQ.out u hu;clear hu;go_simp;try with_reducible rfl
 try go_frame
 refine' tk 4 ?_ ?_;rotate_left
 ·intro u hu;obtain ⟨f0,f1,f2,f3,f4,f5⟩:=HQ.out u hu;clear hu;go_simp;try with_reducible rfl
 try go_frame
 refine' tk 6 ?_ ?_;rotate_left
 ·intro u hu;obtain ⟨f0,f1,f2,f3,f4,f5⟩:=HQ.out u hu;clear hu;go_simp;try with_reducible rfl
 try go_frame
 refine' tk 7 ?_ ?_;rotate_left
 ·intro u hu;obtain ⟨f0,f1,f2,f3,f4,f5⟩:=HQ.out u hu;clear hu;go_simp;try with_reducible rfl
 try go_frame
 refine' tk 9 ?_ ?_;rotate_left
 ·intro u hu;obtain ⟨f0,f1,f2,f3,f4,f5⟩:=HQ.out u hu;clear hu;go_simp;try with_reducible rfl
 try go_frame
 refine' tk 10 ?_ ?_;rotate_left
 ·intro u hu;obtain ⟨f0,f1,f2,f3,f4,f5⟩:=HQ.out u hu;clear hu;go_simp;try with_reducible rfl
 try go_frame
 refine' tk 12 ?_ ?_;rotate_left
 ·intro u hu;obtain ⟨f0,f1,f2,f3,f4,f5⟩:=HQ.out u hu;clear hu;go_simp;try with_reducible rfl
 try go_frame
 refine' tk 13 ?_ ?_;rotate_left
 ·intro u hu;obtain ⟨f0,f1,f2,f3,f4,f5⟩:=HQ.out u hu;clear hu;go_simp;try with_reducible rfl
 try go_frame
 refine' tk 15 ?_ ?_;rotate_left
 ·intro u hu;obtain ⟨f0,f1,f2,f3,f4,f5⟩:=HQ.out u hu;clear hu;go_simp;try with_reducible rfl
 try go_frame
 refine' tk 16 ?_ ?_;rotate_left
 ·intro u hu;obtain ⟨f0,f1,f2,f3,f4,f5⟩:=HQ.out u hu;clear hu;go_simp;try with_reducible rfl
 try go_frame
 have hC:=Yu a0 n0 m0 _ x.1 wd (S0.out wd hb0)
 refine tr 2 (fun K hK=>?_)
 go_simp
 refine hC.mono ?_
 rintro e u0 ⟨g0,rfl,r0⟩
 clear hC
 have d0:=r0.below
 have hc0:Below W1.heap.size W1 u0:=ah hb0 d0
 have o0:∀ b,g0.ownBlock=some b->wd.heap.size<=b/\b<u0.heap.size:=fun b hb=>r0.lt hb
 have r0:Row aj 16 (fun b=>D b/\b<w.heap.size) w u0 41 g0 x.1:=r0.from aj.ae (ah HB1.out.1 hb0) (fun b hb=>hb.1)
 obtain ⟨b0,k0,c0,rfl⟩:=r0.head
 go_wp2_with fail
 refine hK.out _ _ (Kept.below hc0) (fun gI=>?_)
 clear hK K gH;have gH:=gI;clear gI
 try go_frame
 have hC:=zFb a1 n1 m1 _ x.2.1 u0 (S1.out u0 hc0)
 refine tr 5 (fun K hK=>?_)
 go_simp
 refine hC.mono ?_
 rintro e u1 ⟨g1,rfl,r1⟩
 clear hC
 have d1:=r1.below
 have hc1:Below W1.heap.size W1 u1:=ah hc0 d1
 have o1:∀ b,g1.ownBlock=some b->u0.heap.size<=b/\b<u1.heap.size:=fun b hb=>r1.lt hb
 have r1:Row av 9 (fun b=>D b/\b<w.heap.size) w u1 56 g1 x.2.1:=r1.from av.ae (ah HB1.out.1 hc0) (fun b hb=>hb.1)
 have r0:=r0.on aj.ae d1
 obtain ⟨b1,k1,c1,rfl⟩:=r1.head
 go_wp2_with fail
 refine hK.out _ _ (Kept.below hc1) (fun gI=>?_)
 clear hK K gH;have gH:=gI;clear gI
 try go_frame
 have hC:=zDp a2 n2 m2 _ (gL x) u1 (S2.out u1 hc1)
 refine tr 8 (fun K hK=>?_)
 go_simp
 refine hC.mono ?_
 rintro e u2 ⟨g2,rfl,r2⟩
 clear hC
 have d2:=r2.below
 have hc2:Below W1.heap.size W1 u2:=ah hc1 d2
 have o2:∀ b,g2.ownBlock=some b->u1.heap.size<=b/\b<u2.heap.size:=fun b hb=>r2.lt hb
 have r2:Row ai 5 (fun b=>D b/\b<w.heap.size) w u2 59 g2 (gL x):=r2.from ai.ae (ah HB1.out.1 hc1) (fun b hb=>hb.1)
 have r0:=r0.on aj.ae d2
 have r1:=r1.on av.ae d2
 obtain ⟨b2,k2,c2,rfl⟩:=r2.head
 go_wp2_with fail
 refine hK.out _ _ (Kept.below hc2) (fun gI=>?_)
 clear hK K gH;have gH:=gI;clear gI
 try go_frame
 have hC:=zEW a3 n3 m3 _ (iR x) u2 (S3.out u2 hc2)
 refine tr 11 (fun K hK=>?_)
 go_simp
 refine hC.mono ?_
 rintro e u3 ⟨g3,rfl,r3⟩
 clear hC
 have d3:=r3.below
 have hc3:Below W1.heap.size W1 u3:=ah hc2 d3
 have o3:∀ b,g3.ownBlock=some b->u2.heap.size<=b/\b<u3.heap.size:=fun b hb=>r3.lt hb
 have r3:Row aA 4 (fun b=>D b/\b<w.heap.size) w u3 124 g3 (iR x):=r3.from aA.ae (ah HB1.out.1 hc2) (fun b hb=>hb.1)
 have r0:=r0.on aj.ae d3
 have r1:=r1.on av.ae d3
 have r2:=r2.on ai.ae d3
 obtain ⟨b3,k3,c3,rfl⟩:=r3.head
 go_wp2_with fail
 refine hK.out _ _ (Kept.below hc3) (fun gI=>?_)
 clear hK K gH;have gH:=gI;clear gI
 try go_frame
 have hC:=zEX a4 n4 m4 _ (tN x) u3 (S4.out u3 hc3)
 refine tr 14 (fun K hK=>?_)
 go_simp
 refine hC.mono ?_
 rintro e u4 ⟨g4,rfl,r4⟩
 clear hC
 have d4:=r4.below
 have hc4:Below W1.heap.size W1 u4:=ah hc3 d4
 have o4:∀ b,g4.ownBlock=some b->u3.heap.size<=b/\b<u4.heap.size:=fun b hb=>r4.lt hb
 have r4:Row aH 2 (fun b=>D b/\b<w.heap.size) w u4 180 g4 (tN x):=r4.from aH.ae (ah HB1.out.1 hc3) (fun b hb=>hb.1)
 have r0:=r0.on aj.ae d4
 have r1:=r1.on av.ae d4
 have r2:=r2.on ai.ae d4
 have r3:=r3.on aA.ae d4
 obtain ⟨b4,k4,c4,rfl⟩:=r4.head
 go_wp2_with fail
 refine hK.out _ _ (Kept.below hc4) (fun gI=>?_)
 clear hK K gH;have gH:=gI;clear gI
 try go_frame
 have hC:=zDo a5 n5 m5 _ x.2.2.2.2.2 u4 (S5.out u4 hc4)
 refine tr 17 (fun K hK=>?_)
 go_simp
 refine hC.mono ?_
 rintro e u5 ⟨g5,rfl,r5⟩
 clear hC
 have d5:=r5.below
 have Gj:Below W1.heap.size W1 u5:=ah hc4 d5
 have o5:∀ b,g5.ownBlock=some b->u4.heap.size<=b/\b<u5.heap.size:=fun b hb=>r5.lt hb
 have r5:Row aI 3 (fun b=>D b/\b<w.heap.size) w u5 62 g5 x.2.2.2.2.2:=r5.from aI.ae (ah HB1.out.1 hc4) (fun b hb=>hb.1)
 have r0:=r0.on aj.ae d5
 have r1:=r1.on av.ae d5
 have r2:=r2.on ai.ae d5
 have r3:=r3.on aA.ae d5
 have r4:=r4.on aH.ae d5
 obtain ⟨b5,k5,c5,rfl⟩:=r5.head
 go_wp2_with fail
 refine hK.out _ _ (Kept.below Gj) (fun gI=>?_)
 clear hK K gH;have gH:=gI;clear gI
 try go_frame
 refine tp 18 ?_
 try go_frame
 obtain ⟨U,hU⟩:∃ U,U=u5.setCells (w.heap.size+1) 0 [.slice b0 k0 c0,.slice b1 k1 c1,.slice b2 k2 c2,.slice b3 k3 c3,.slice b4 k4 c4,.slice b5 k5 c5]:=⟨_,rfl⟩
 have z5:af u5 (w.heap.size+1) _:=HB1.out.2.1.on Gj
 refine ts 19 (fun K hK=>?_)
 refine fP (by rfl) (wp_store_mid 29 _ _ rfl (w.heap.size+1) 0 #[.slice b0 k0 c0,.slice b1 k1 c1,.slice b2 k2 c2,.slice b3 k3 c3,.slice b4 k4 c4,.slice b5 k5 c5] rfl rfl z5.there oN (by simp [Value.oneCell']) ?_)
 have kU:Kept (fun b=>b≠w.heap.size+1) u5 U:=by rw [hU];exact dP (fun h=>h rfl)
 have hl1:=HB1.out.2.2
 have bU:Below w.heap.size w U:=by rw [hU];exact cu (ah HB1.out.1 Gj) (by omega)
 have qU:af U (w.heap.size+1) [.slice b0 k0 c0,.slice b1 k1 c1,.slice b2 k2 c2,.slice b3 k3 c3,.slice b4 k4 c4,.slice b5 k5 c5]:=by rw [hU];exact dL z5 rfl
 have eU:U=u5.setCells (w.heap.size+1) 0 (#[.slice b0 k0 c0,.slice b1 k1 c1,.slice b2 k2 c2,.slice b3 k3 c3,.slice b4 k4 c4,.slice b5 k5 c5]:Array Value).toList:=by rw [hU]
 have e0:=hb0.size
 have e1:=d0.size
 have e2:=d1.size
 have e3:=d2.size
 have e4:=d3.size
 have e5:=d4.size
 have e6:=d5.size
 have HF:Hid (Nk D w U (.slice b0 k0 c0) (.slice b1 k1 c1) (.slice b2 k2 c2) (.slice b3 k3 c3) (.slice b4 k4 c4) (.slice b5 k5 c5) x):=⟨r0.bO aj.ae bU (kU.weak (fun b hb e=>hb.elim (fun h9=>by have h8:b<w.heap.size:=h9.2;omega) (fun h9=>by have:=o0 b h9;omega))),r1.bO av.ae bU (kU.weak (fun b hb e=>hb.elim (fun h9=>by have h8:b<w.heap.size:=h9.2;omega) (fun h9=>by have:=o1 b h9;omega))),r2.bO ai.ae bU (kU.weak (fun b hb e=>hb.elim (fun h9=>by have h8:b<w.heap.size:=h9.2;omega) (fun h9=>by have:=o2 b h9;omega))),r3.bO aA.ae bU (kU.weak (fun b hb e=>hb.elim (fun h9=>by have h8:b<w.heap.size:=h9.2;omega) (fun h9=>by have:=o3 b h9;omega))),r4.bO aH.ae bU (kU.weak (fun b hb e=>hb.elim (fun h9=>by have h8:b<w.heap.size:=h9.2;omega) (fun h9=>by have:=o4 b h9;omega))),r5.bO aI.ae bU (kU.weak (fun b hb e=>hb.elim (fun h9=>by have h8:b<w.heap.size:=h9.2;omega) (fun h9=>by have:=o5 b h9;omega))),fun b hb=>by have h0:=o2 b hb;exact ⟨fun e=>by have:=o0 b e;omega,fun e=>by have:=o1 b e;omega,fun e=>by have:=o3 b e;omega,fun e=>by have:=o4 b e;omega,fun e=>by have:=o5 b e;omega⟩,fun b hb=>by have h0:=o3 b hb;exact ⟨fun e=>by have:=o0 b e;omega,fun e=>by have:=o1 b e;omega,fun e=>by have:=o2 b e;omega,fun e=>by have:=o4 b e;omega,fun e=>by have:=o5 b e;omega⟩⟩
 rw [<- eU]
 refine hK.out _ _ ((Kept.below Gj).trans (kU.weak (fun b e=>by omega))) (fun gI=>?_)
 clear hK K gH;have gH:=gI;clear gI
 try go_frame
 refine tz ?_
 have t0':=(qU.2 0 _ rfl).1
 have t1':=(qU.2 1 _ rfl).1
 have t2':=(qU.2 2 _ rfl).1
 have rG:=(qU.2 3 _ rfl).1
 have rF:=(qU.2 4 _ rfl).1
 have rE:=(qU.2 5 _ rfl).1
 clear hU eU kU bU qU z5 r0 o0 d0 hc0 r1 o1 d1 hc1 r2 o2 d2 hc2 r3 o3 d3 hc3 r4 o4 d4 hc4 r5 o5 d5 Gj
 go_wp2_with fail
 refine bodyPost_ret (v:=.agg #[.slice b0 k0 c0,.slice b1 k1 c1,.slice b2 k2 c2,.slice b3 k3 c3,.slice b4 k4 c4,.slice b5 k5 c5]) (by simp [results,Tryz.results56,go_sem,t0',t1',t2',rG,rF,rE,Result.andThen]) rfl ?_
 exact ⟨_,_,_,_,_,_,rfl,HF.out⟩
end Go.Proofs.YtgikfenllgldoaaGreat
