/- Functions of the program, each walked under the conditions that its theorem names. -/
import Derived.Laws.MakeOwn
import Derived.Test.YtnffafjamiffnaaGreatQ35
set_option linter.unusedSimpArgs false
set_option maxRecDepth 100000
set_option maxHeartbeats 32000000
namespace Go.Proofs.YtnffafjamiffnaaGreat
open Go.RowKit Go.Maps
def withoutP (x : StateD) (nms : List ByteArray) : StateD := (x.1.filter (fun q : PodD => !hasB sEq nms q.1), x.2)
def WtOut (D : Where) (w : World) (x : StateD) (e : Ending) (u : World) : Prop := ∃ g0 g1 g2 g3 g4 g5, e = .returned (.agg #[g0, g1, g2, g3, g4, g5]) /\ StR D w u g0 g1 g2 g3 g4 g5 x /\ (∀ b, g0.ownBlock = some b -> g1.ownBlock ≠ some b /\ g2.ownBlock ≠ some b /\ g3.ownBlock ≠ some b /\ g4.ownBlock ≠ some b /\ g5.ownBlock ≠ some b)
theorem zEN (D : Where) (cs : List Value) (x : StateD) (a9 : Option Addr) (n9 m9 : Nat) (nms : List ByteArray) (w : World) (h : Hid (RState D w cs x)) (hNm : Hid (SlAt RStr 1 16 (fun _ => True) w a9 n9 m9 nms)) : Calls Tryz.prog 11 #[.agg cs.toArray, .slice a9 n9 m9] w (WtOut D w (withoutP x nms)) := by
 obtain ⟨⟨a0, n0, m0⟩, ⟨a1, n1, m1⟩, ⟨a2, n2, m2⟩, ⟨a3, n3, m3⟩, ⟨a4, n4, m4⟩, ⟨a5, n5, m5⟩, rfl, s0, s1, s2, s3, s4, s5⟩ := h.out.out
 simp only at s0 s1 s2 s3 s4 s5
 obtain ⟨W1, hW1⟩ : ∃ W, W = (w.alloc (.cells #[.slice a0 n0 m0, .slice a1 n1 m1, .slice a2 n2 m2, .slice a3 n3 m3, .slice a4 n4 m4, .slice a5 n5 m5] 29)).alloc (.cells #[.slice none 0 0, .slice none 0 0, .slice none 0 0, .slice none 0 0, .slice none 0 0, .slice none 0 0] 29) := ⟨_, rfl⟩
 have B1 : Below w.heap.size w W1 := by rw [hW1]; go_grown
 have q1 : BoxL W1 w.heap.size [.slice a0 n0 m0, .slice a1 n1 m1, .slice a2 n2 m2, .slice a3 n3 m3, .slice a4 n4 m4, .slice a5 n5 m5] := by rw [hW1]; exact (BoxL.new w 29 _).on ((Below.refl _ _).alloc (Nat.le_refl _) _)
 have q2 : BoxL W1 (w.heap.size + 1) [.slice none 0 0, .slice none 0 0, .slice none 0 0, .slice none 0 0, .slice none 0 0, .slice none 0 0] := by rw [hW1]; have := BoxL.new (w.alloc (.cells #[.slice a0 n0 m0, .slice a1 n1 m1, .slice a2 n2 m2, .slice a3 n3 m3, .slice a4 n4 m4, .slice a5 n5 m5] 29)) 29 [.slice none 0 0, .slice none 0 0, .slice none 0 0, .slice none 0 0, .slice none 0 0, .slice none 0 0]; simpa using this
 have HQ : Hid (∀ z, Kept (fun b => b = w.heap.size) W1 z -> z.cell? ⟨w.heap.size, 0, none⟩ = some (.slice a0 n0 m0) /\ z.cell? ⟨w.heap.size, 1, none⟩ = some (.slice a1 n1 m1) /\ z.cell? ⟨w.heap.size, 2, none⟩ = some (.slice a2 n2 m2) /\ z.cell? ⟨w.heap.size, 3, none⟩ = some (.slice a3 n3 m3) /\ z.cell? ⟨w.heap.size, 4, none⟩ = some (.slice a4 n4 m4) /\ z.cell? ⟨w.heap.size, 5, none⟩ = some (.slice a5 n5 m5)) := fun z hb => ⟨((q1.kept hb rfl).2 0 _ rfl).1, ((q1.kept hb rfl).2 1 _ rfl).1, ((q1.kept hb rfl).2 2 _ rfl).1, ((q1.kept hb rfl).2 3 _ rfl).1, ((q1.kept hb rfl).2 4 _ rfl).1, ((q1.kept hb rfl).2 5 _ rfl).1⟩
 have S0 : Hid (∀ z, Below W1.heap.size W1 z -> SlAt RPod 16 296 (fun b => D b /\ b < w.heap.size) z a0 n0 m0 x.1) := fun z hb => (s0.weak RPod.firm (fun b hb hd => ⟨hd, hb⟩)).on RPod.firm (on2 B1 hb)
 have S1 : Hid (∀ z, Below W1.heap.size W1 z -> SlAt RNode 9 112 (fun b => D b /\ b < w.heap.size) z a1 n1 m1 x.2.1) := fun z hb => (s1.weak RNode.firm (fun b hb hd => ⟨hd, hb⟩)).on RNode.firm (on2 B1 hb)
 have S2 : Hid (∀ z, Below W1.heap.size W1 z -> SlAt RVolume 5 80 (fun b => D b /\ b < w.heap.size) z a2 n2 m2 (sVs x)) := fun z hb => (s2.weak RVolume.firm (fun b hb hd => ⟨hd, hb⟩)).on RVolume.firm (on2 B1 hb)
 have S3 : Hid (∀ z, Below W1.heap.size W1 z -> SlAt RClaim 4 56 (fun b => D b /\ b < w.heap.size) z a3 n3 m3 (sCs x)) := fun z hb => (s3.weak RClaim.firm (fun b hb hd => ⟨hd, hb⟩)).on RClaim.firm (on2 B1 hb)
 have S4 : Hid (∀ z, Below W1.heap.size W1 z -> SlAt RClass 2 24 (fun b => D b /\ b < w.heap.size) z a4 n4 m4 (sKs x)) := fun z hb => (s4.weak RClass.firm (fun b hb hd => ⟨hd, hb⟩)).on RClass.firm (on2 B1 hb)
 have S5 : Hid (∀ z, Below W1.heap.size W1 z -> SlAt RBudget 3 48 (fun b => D b /\ b < w.heap.size) z a5 n5 m5 x.2.2.2.2.2) := fun z hb => (s5.weak RBudget.firm (fun b hb hd => ⟨hd, hb⟩)).on RBudget.firm (on2 B1 hb)
 have S9 : Hid (∀ z, Below W1.heap.size W1 z -> SlAt RStr 1 16 (fun b => b < w.heap.size) z a9 n9 m9 nms) := fun z hb => (hNm.out.weak RStr.firm (fun b hb _ => hb)).on RStr.firm (on2 B1 hb)
 have HB1 : Hid (Below w.heap.size w W1 /\ BoxL W1 (w.heap.size + 1) [.slice none 0 0, .slice none 0 0, .slice none 0 0, .slice none 0 0, .slice none 0 0, .slice none 0 0] /\ w.heap.size + 1 < W1.heap.size) := ⟨B1, q2, q2.1⟩
 clear h hNm s0 s1 s2 s3 s4 s5 B1 q1 q2
 go_enter Tryz.func11, Tryz.ntmps11
 go_upto_region 1 with fail
 rw [<- hW1]
 clear hW1
 refine t0 (fun z => Kept (fun b => b = w.heap.size) W1 z) (Kept.drew _ _) (fun gH => ?_)
 have hb0 : Below W1.heap.size W1 W1.drew := (Below.refl _ _).drew
 generalize hwd : W1.drew = wd at gH hb0 |-
 clear hwd
 try go_frame
 refine' tk 0 ?_ ?_; rotate_left
 ·intro u hu; obtain ⟨f0, f1, f2, f3, f4, f5⟩ := HQ.out u hu; clear hu; go_simp; try with_reducible rfl
 try go_frame
 refine' tk 1 ?_ ?_; rotate_left
 ·intro u hu; obtain ⟨f0, f1, f2, f3, f4, f5⟩ := HQ.out u hu; clear hu; go_simp; try with_reducible rfl
 try go_frame
 refine' tk 2 ?_ ?_; rotate_left
 ·intro u hu; obtain ⟨f0, f1, f2, f3, f4, f5⟩ := HQ.out u hu; clear hu; go_simp; try with_reducible rfl
 try go_frame
 refine' tk 4 ?_ ?_; rotate_left
 ·intro u hu; obtain ⟨f0, f1, f2, f3, f4, f5⟩ := HQ.out u hu; clear hu; go_simp; try with_reducible rfl
 try go_frame
 refine' tk 5 ?_ ?_; rotate_left
 ·intro u hu; obtain ⟨f0, f1, f2, f3, f4, f5⟩ := HQ.out u hu; clear hu; go_simp; try with_reducible rfl
 try go_frame
 refine' tk 7 ?_ ?_; rotate_left
 ·intro u hu; obtain ⟨f0, f1, f2, f3, f4, f5⟩ := HQ.out u hu; clear hu; go_simp; try with_reducible rfl
 try go_frame
 refine' tk 8 ?_ ?_; rotate_left
 ·intro u hu; obtain ⟨f0, f1, f2, f3, f4, f5⟩ := HQ.out u hu; clear hu; go_simp; try with_reducible rfl
 try go_frame
 refine' tk 10 ?_ ?_; rotate_left
 ·intro u hu; obtain ⟨f0, f1, f2, f3, f4, f5⟩ := HQ.out u hu; clear hu; go_simp; try with_reducible rfl
 try go_frame
 refine' tk 11 ?_ ?_; rotate_left
 ·intro u hu; obtain ⟨f0, f1, f2, f3, f4, f5⟩ := HQ.out u hu; clear hu; go_simp; try with_reducible rfl
 try go_frame
 refine' tk 13 ?_ ?_; rotate_left
 ·intro u hu; obtain ⟨f0, f1, f2, f3, f4, f5⟩ := HQ.out u hu; clear hu; go_simp; try with_reducible rfl
 try go_frame
 refine' tk 14 ?_ ?_; rotate_left
 ·intro u hu; obtain ⟨f0, f1, f2, f3, f4, f5⟩ := HQ.out u hu; clear hu; go_simp; try with_reducible rfl
 try go_frame
 refine' tk 16 ?_ ?_; rotate_left
 ·intro u hu; obtain ⟨f0, f1, f2, f3, f4, f5⟩ := HQ.out u hu; clear hu; go_simp; try with_reducible rfl
 try go_frame
 refine' tk 17 ?_ ?_; rotate_left
 ·intro u hu; obtain ⟨f0, f1, f2, f3, f4, f5⟩ := HQ.out u hu; clear hu; go_simp; try with_reducible rfl
 try go_frame
 have hC := zBz a9 n9 m9 _ nms a0 n0 m0 _ x.1 wd (S9.out wd hb0) (S0.out wd hb0)
 refine tr 3 (fun K hK => ?_)
 go_simp
 refine hC.mono ?_
 rintro e u0 ⟨g0, rfl, r0⟩
 clear hC
 have d0 := r0.below
 have hc0 : Below W1.heap.size W1 u0 := on2 hb0 d0
 have o0 : ∀ b, g0.ownBlock = some b -> wd.heap.size <= b /\ b < u0.heap.size := fun b hb => r0.lt hb
 have r0 : Row RPod 16 (fun b => D b /\ b < w.heap.size) w u0 49 g0 (withoutP x nms).1 := r0.from RPod.firm (on2 HB1.out.1 hb0) (fun b hb => hb.1)
 obtain ⟨b0, k0, c0, rfl⟩ := r0.head
 go_wp2_with fail
 refine hK.out _ _ (Kept.below hc0) (fun gI => ?_)
 clear hK K gH; have gH := gI; clear gI
 try go_frame
 have hC := zCn a1 n1 m1 _ x.2.1 u0 (S1.out u0 hc0)
 refine tr 6 (fun K hK => ?_)
 go_simp
 refine hC.mono ?_
 rintro e u1 ⟨g1, rfl, r1⟩
 clear hC
 have d1 := r1.below
 have hc1 : Below W1.heap.size W1 u1 := on2 hc0 d1
 have o1 : ∀ b, g1.ownBlock = some b -> u0.heap.size <= b /\ b < u1.heap.size := fun b hb => r1.lt hb
 have r1 : Row RNode 9 (fun b => D b /\ b < w.heap.size) w u1 54 g1 x.2.1 := r1.from RNode.firm (on2 HB1.out.1 hc0) (fun b hb => hb.1)
 have r0 := r0.on RPod.firm d1
 obtain ⟨b1, k1, c1, rfl⟩ := r1.head
 go_wp2_with fail
 refine hK.out _ _ (Kept.below hc1) (fun gI => ?_)
 clear hK K gH; have gH := gI; clear gI
 try go_frame
 have hC := zBy a2 n2 m2 _ (sVs x) u1 (S2.out u1 hc1)
 refine tr 9 (fun K hK => ?_)
 go_simp
 refine hC.mono ?_
 rintro e u2 ⟨g2, rfl, r2⟩
 clear hC
 have d2 := r2.below
 have hc2 : Below W1.heap.size W1 u2 := on2 hc1 d2
 have o2 : ∀ b, g2.ownBlock = some b -> u1.heap.size <= b /\ b < u2.heap.size := fun b hb => r2.lt hb
 have r2 : Row RVolume 5 (fun b => D b /\ b < w.heap.size) w u2 79 g2 (sVs x) := r2.from RVolume.firm (on2 HB1.out.1 hc1) (fun b hb => hb.1)
 have r0 := r0.on RPod.firm d2
 have r1 := r1.on RNode.firm d2
 obtain ⟨b2, k2, c2, rfl⟩ := r2.head
 go_wp2_with fail
 refine hK.out _ _ (Kept.below hc2) (fun gI => ?_)
 clear hK K gH; have gH := gI; clear gI
 try go_frame
 have hC := zCH a3 n3 m3 _ (sCs x) u2 (S3.out u2 hc2)
 refine tr 12 (fun K hK => ?_)
 go_simp
 refine hC.mono ?_
 rintro e u3 ⟨g3, rfl, r3⟩
 clear hC
 have d3 := r3.below
 have hc3 : Below W1.heap.size W1 u3 := on2 hc2 d3
 have o3 : ∀ b, g3.ownBlock = some b -> u2.heap.size <= b /\ b < u3.heap.size := fun b hb => r3.lt hb
 have r3 : Row RClaim 4 (fun b => D b /\ b < w.heap.size) w u3 96 g3 (sCs x) := r3.from RClaim.firm (on2 HB1.out.1 hc2) (fun b hb => hb.1)
 have r0 := r0.on RPod.firm d3
 have r1 := r1.on RNode.firm d3
 have r2 := r2.on RVolume.firm d3
 obtain ⟨b3, k3, c3, rfl⟩ := r3.head
 go_wp2_with fail
 refine hK.out _ _ (Kept.below hc3) (fun gI => ?_)
 clear hK K gH; have gH := gI; clear gI
 try go_frame
 have hC := zCN a4 n4 m4 _ (sKs x) u3 (S4.out u3 hc3)
 refine tr 15 (fun K hK => ?_)
 go_simp
 refine hC.mono ?_
 rintro e u4 ⟨g4, rfl, r4⟩
 clear hC
 have d4 := r4.below
 have hc4 : Below W1.heap.size W1 u4 := on2 hc3 d4
 have o4 : ∀ b, g4.ownBlock = some b -> u3.heap.size <= b /\ b < u4.heap.size := fun b hb => r4.lt hb
 have r4 : Row RClass 2 (fun b => D b /\ b < w.heap.size) w u4 99 g4 (sKs x) := r4.from RClass.firm (on2 HB1.out.1 hc3) (fun b hb => hb.1)
 have r0 := r0.on RPod.firm d4
 have r1 := r1.on RNode.firm d4
 have r2 := r2.on RVolume.firm d4
 have r3 := r3.on RClaim.firm d4
 obtain ⟨b4, k4, c4, rfl⟩ := r4.head
 go_wp2_with fail
 refine hK.out _ _ (Kept.below hc4) (fun gI => ?_)
 clear hK K gH; have gH := gI; clear gI
 try go_frame
 have hC := zC1 a5 n5 m5 _ x.2.2.2.2.2 u4 (S5.out u4 hc4)
 refine tr 18 (fun K hK => ?_)
 go_simp
 refine hC.mono ?_
 rintro e u5 ⟨g5, rfl, r5⟩
 clear hC
 have d5 := r5.below
 have hc5 : Below W1.heap.size W1 u5 := on2 hc4 d5
 have o5 : ∀ b, g5.ownBlock = some b -> u4.heap.size <= b /\ b < u5.heap.size := fun b hb => r5.lt hb
 have r5 : Row RBudget 3 (fun b => D b /\ b < w.heap.size) w u5 82 g5 x.2.2.2.2.2 := r5.from RBudget.firm (on2 HB1.out.1 hc4) (fun b hb => hb.1)
 have r0 := r0.on RPod.firm d5
 have r1 := r1.on RNode.firm d5
 have r2 := r2.on RVolume.firm d5
 have r3 := r3.on RClaim.firm d5
 have r4 := r4.on RClass.firm d5
 obtain ⟨b5, k5, c5, rfl⟩ := r5.head
 go_wp2_with fail
 refine hK.out _ _ (Kept.below hc5) (fun gI => ?_)
 clear hK K gH; have gH := gI; clear gI
 try go_frame
 refine tp 19 ?_
 try go_frame
 obtain ⟨U, hU⟩ : ∃ U, U = u5.setCells (w.heap.size + 1) 0 [.slice b0 k0 c0, .slice b1 k1 c1, .slice b2 k2 c2, .slice b3 k3 c3, .slice b4 k4 c4, .slice b5 k5 c5] := ⟨_, rfl⟩
 have z5 : BoxL u5 (w.heap.size + 1) _ := HB1.out.2.1.on hc5
 refine ts 20 (fun K hK => ?_)
 refine zA4 (by rfl) (wp_store_mid 29 _ _ rfl (w.heap.size + 1) 0 #[.slice b0 k0 c0, .slice b1 k1 c1, .slice b2 k2 c2, .slice b3 k3 c3, .slice b4 k4 c4, .slice b5 k5 c5] rfl rfl z5.there zAS (by simp [Value.oneCell']) ?_)
 have kU : Kept (fun b => b ≠ w.heap.size + 1) u5 U := by rw [hU]; exact zA1 (fun h => h rfl)
 have hl1 := HB1.out.2.2
 have bU : Below w.heap.size w U := by rw [hU]; exact zA0 (on2 HB1.out.1 hc5) (by omega)
 have qU : BoxL U (w.heap.size + 1) [.slice b0 k0 c0, .slice b1 k1 c1, .slice b2 k2 c2, .slice b3 k3 c3, .slice b4 k4 c4, .slice b5 k5 c5] := by rw [hU]; exact zA2 z5 rfl
 have eU : U = u5.setCells (w.heap.size + 1) 0 (#[.slice b0 k0 c0, .slice b1 k1 c1, .slice b2 k2 c2, .slice b3 k3 c3, .slice b4 k4 c4, .slice b5 k5 c5] : Array Value).toList := by rw [hU]
 have e0 := hb0.size
 have e1 := d0.size
 have e2 := d1.size
 have e3 := d2.size
 have e4 := d3.size
 have e5 := d4.size
 have e6 := d5.size
 have HF : Hid (StR D w U (.slice b0 k0 c0) (.slice b1 k1 c1) (.slice b2 k2 c2) (.slice b3 k3 c3) (.slice b4 k4 c4) (.slice b5 k5 c5) (withoutP x nms)) := ⟨r0.keptX RPod.firm bU (kU.weak (fun b hb e => hb.elim (fun h9 => by have h8 : b < w.heap.size := h9.2; omega) (fun h9 => by have := o0 b h9; omega))), r1.keptX RNode.firm bU (kU.weak (fun b hb e => hb.elim (fun h9 => by have h8 : b < w.heap.size := h9.2; omega) (fun h9 => by have := o1 b h9; omega))), r2.keptX RVolume.firm bU (kU.weak (fun b hb e => hb.elim (fun h9 => by have h8 : b < w.heap.size := h9.2; omega) (fun h9 => by have := o2 b h9; omega))), r3.keptX RClaim.firm bU (kU.weak (fun b hb e => hb.elim (fun h9 => by have h8 : b < w.heap.size := h9.2; omega) (fun h9 => by have := o3 b h9; omega))), r4.keptX RClass.firm bU (kU.weak (fun b hb e => hb.elim (fun h9 => by have h8 : b < w.heap.size := h9.2; omega) (fun h9 => by have := o4 b h9; omega))), r5.keptX RBudget.firm bU (kU.weak (fun b hb e => hb.elim (fun h9 => by have h8 : b < w.heap.size := h9.2; omega) (fun h9 => by have := o5 b h9; omega))), fun b hb => by have h0 := o2 b hb; exact ⟨fun e => by have := o0 b e; omega, fun e => by have := o1 b e; omega, fun e => by have := o3 b e; omega, fun e => by have := o4 b e; omega, fun e => by have := o5 b e; omega⟩, fun b hb => by have h0 := o3 b hb; exact ⟨fun e => by have := o0 b e; omega, fun e => by have := o1 b e; omega, fun e => by have := o2 b e; omega, fun e => by have := o4 b e; omega, fun e => by have := o5 b e; omega⟩⟩
 have HD : Hid (∀ b, (Value.slice b0 k0 c0).ownBlock = some b -> (Value.slice b1 k1 c1).ownBlock ≠ some b /\ (Value.slice b2 k2 c2).ownBlock ≠ some b /\ (Value.slice b3 k3 c3).ownBlock ≠ some b /\ (Value.slice b4 k4 c4).ownBlock ≠ some b /\ (Value.slice b5 k5 c5).ownBlock ≠ some b) := fun b hb => by have h0 := o0 b hb; exact ⟨fun e => by have := o1 b e; omega, fun e => by have := o2 b e; omega, fun e => by have := o3 b e; omega, fun e => by have := o4 b e; omega, fun e => by have := o5 b e; omega⟩
 rw [<- eU]
 refine hK.out _ _ ((Kept.below hc5).trans (kU.weak (fun b e => by omega))) (fun gI => ?_)
 clear hK K gH; have gH := gI; clear gI
 try go_frame
 refine tz ?_
 have t0' := (qU.2 0 _ rfl).1
 have t1' := (qU.2 1 _ rfl).1
 have t2' := (qU.2 2 _ rfl).1
 have t3' := (qU.2 3 _ rfl).1
 have t4' := (qU.2 4 _ rfl).1
 have t5' := (qU.2 5 _ rfl).1
 clear hU eU kU bU qU z5 r0 o0 d0 hc0 r1 o1 d1 hc1 r2 o2 d2 hc2 r3 o3 d3 hc3 r4 o4 d4 hc4 r5 o5 d5 hc5
 go_wp2_with fail
 refine bodyPost_ret (v := .agg #[.slice b0 k0 c0, .slice b1 k1 c1, .slice b2 k2 c2, .slice b3 k3 c3, .slice b4 k4 c4, .slice b5 k5 c5]) (by simp [results, Tryz.results11, go_sem, t0', t1', t2', t3', t4', t5', Result.andThen]) rfl ?_
 exact ⟨_, _, _, _, _, _, rfl, HF.out, HD.out⟩
def infosP (x : StateD) : List InfoD := (firstsN x.2.1).map (fun n => allP n (grpP (firstsP x.1) n.1))
theorem zGq : (Tryz.prog.info? 63).map (fun i => (i.zero, i.size, i.bytes)) = some (some (.agg #[.string ⟨#[]⟩, .slice none 0 0, .slice none 0 0, .bool false, .int .i64 0, .int .i64 0, .int .i64 0, .int .i64 0, .int .i64 0, .slice none 0 0, .int .i64 0, .int .i64 0, .int .i64 0, .slice none 0 0, .slice none 0 0]), 15, 208) := by kernel_rfl
theorem zCU {α : Type} [Inhabited α] {R : Rep α} {k : Nat} (hR : Firm R k) {A : Where} {u : World} {B : Nat} {cs : List Value} {x : α} (hb : BoxL u B cs) (hr : R A u cs x) : Src R k A u (some ⟨B, 0, none⟩) 1 [x] := by
 refine ⟨rfl, .inr ⟨⟨B, 0, none⟩, cs, rfl, ⟨by rw [hR.len hr]; simp, fun i hi => ?_⟩, fun j y hj => ?_, hR.one hr⟩⟩
 ·obtain rfl : i = 0 := by simpa using hi
  exact ⟨cs, hr, fun j _ => by rw [Nat.zero_mul, Nat.zero_add]⟩
 ·have := (hb.2 j y hj).1
  by_cases h0 : j = 0
  ·subst h0; simpa [Addr.add] using this
  ·simpa [Addr.add, h0] using this
theorem RInfo.lit12 {A : Where} {w : World} {cs : List Value} {q : InfoD} (h : RInfo A w cs q) : ∃ i0 i1 i2 i3 i4 i5 i6 i7 i8 i9 i10 i11 i12 i13 i14 : Value, cs = [i0, i1, i2, i3, i4, i5, i6, i7, i8, i9, i10, i11, i12, i13, i14] := by
 obtain ⟨_, _, _, _, _, rfl, _⟩ := h.out
 exact ⟨_, _, _, _, _, _, _, _, _, _, _, _, _, _, _, rfl⟩
theorem zBT : (Tryz.prog.info? 63).map (·.size) = some 15 := by kernel_rfl
theorem zHR {α β : Type} [Inhabited α] (f : α -> β) {L : List α} {k : Nat} (h : k < L.length) : (L.map f).take (k + 1) = (L.map f).take k ++ [f (L.getD k default)] := by
 rw [<- List.map_take, <- List.map_take, List.take_succ_eq_append_getElem h, List.map_append, List.getD_eq_getElem?_getD, List.getElem?_eq_getElem h]; rfl
def OrF (D : Where) (w : World) : Where := fun b => D b \/ w.heap.size <= b
theorem zHc (D : Where) (cs : List Value) (x : StateD) (w : World) (h : Hid (RState D w cs x)) (hF : Hid (∀ s, FitsP (grpP (firstsP x.1) s))) (hb : (firstsN x.2.1).length * 208 <= 140737488351232) :
  Calls Tryz.prog 18 #[.agg cs.toArray] w fun e w' => ∃ v, e = .returned v /\ Row RInfo 15 (OrF D w) w w' 63 v (infosP x) := by
 obtain ⟨⟨a0, n0, m0⟩, ⟨a1, n1, m1⟩, ⟨a2, n2, m2⟩, ⟨a3, n3, m3⟩, ⟨a4, n4, m4⟩, ⟨a5, n5, m5⟩, rfl, s0, s1, _⟩ := h.out.out
 simp only at s0 s1
 have hl0 : Hid (x.1.length = n0 /\ n0 * 296 <= 140737488351232) := ⟨s0.1, s0.2.2.2.1⟩
 have hl1 : Hid (x.2.1.length = n1 /\ n1 * 112 <= 140737488351232) := ⟨s1.1, s1.2.2.2.1⟩
 obtain ⟨W1, hW1⟩ : ∃ W, W = w.alloc (.cells #[.slice a0 n0 m0, .slice a1 n1 m1, .slice a2 n2 m2, .slice a3 n3 m3, .slice a4 n4 m4, .slice a5 n5 m5] 29) := ⟨_, rfl⟩
 have B1 : Below w.heap.size w W1 := by rw [hW1]; go_grown
 have q1 : BoxL W1 w.heap.size [.slice a0 n0 m0, .slice a1 n1 m1, .slice a2 n2 m2, .slice a3 n3 m3, .slice a4 n4 m4, .slice a5 n5 m5] := by rw [hW1]; exact BoxL.new w 29 _
 have f0 := (q1.2 0 _ rfl).1
 have hlt1 := q1.1
 have HB1 : Hid (Below w.heap.size w W1) := B1
 have HS1 : Hid (∀ u, Below W1.heap.size W1 u -> SlAt RNode 9 112 D u a1 n1 m1 x.2.1 /\ u.cell? ⟨w.heap.size, 1, none⟩ = some (.slice a1 n1 m1) /\ w.heap.size < u.heap.size) := fun u hu => ⟨s1.on RNode.firm (on2 B1 hu), ((q1.on hu).2 1 _ rfl).1, (q1.on hu).1⟩
 have hC := zFW a0 n0 m0 _ x.1 W1 (s0.on RPod.firm B1)
 clear h s0 s1 B1 q1
 go_enter Tryz.func18, Tryz.ntmps18
 go_upto_region 1 with fail
 rw [<- hW1]
 clear hW1
 go_wp2_with fail
 refine hC.mono ?_
 rintro e u1 ⟨v, rfl, hr⟩
 clear hC f0
 have d1 : Below W1.heap.size W1 u1 := hr.below
 obtain ⟨ga, gc, rfl, sg⟩ := hr.sl (bytes := 296) RPod.firm (by have h1 := hl0.out; have h2 := zCj x.1; omega)
 have hC := zFa ga _ gc _ (firstsP x.1) u1 sg
 have HI : Hid (infosP x = (firstsN x.2.1).map (fun n => allP n (grpP (firstsP x.1) n.1))) := rfl
 have hPl : (firstsP x.1).length <= n0 := by have h1 := hl0.out; have h2 := zCj x.1; omega
 clear hr sg
 have hPF : Hid ((firstsP x.1).length <= n0) := hPl
 generalize firstsP x.1 = PF at hC HI hF hPF hPl |-
 obtain ⟨gl, hgl⟩ : ∃ l, PF.length = l := ⟨_, rfl⟩
 rw [hgl] at hC hPl |-
 clear hgl
 go_wp2_with fail
 refine hC.mono ?_
 rintro e u2 ⟨mb, f, rfl, hg⟩
 clear hC
 have d2 : Below u1.heap.size u1 u2 := hg.below
 have bu2 : Below W1.heap.size W1 u2 := on2 d1 d2
 obtain ⟨sN, f1, hlt2⟩ := HS1.out u2 bu2
 have hC := zEW a1 n1 m1 _ x.2.1 u2 sN
 have HG : Hid (GrpSt (fun b => ((D b /\ b < W1.heap.size) \/ Fresh W1 b) /\ b < u1.heap.size) u1 u2 mb gl f PF) := hg
 clear sN hg d1 d2 HS1
 go_wp2_with fail
 refine hC.mono ?_
 rintro e W3 ⟨v, rfl, hr⟩
 clear hC f1
 have d3 : Below u2.heap.size u2 W3 := hr.below
 obtain ⟨na, nc, rfl, sn⟩ := hr.sl (bytes := 112) RNode.firm (by have h1 := hl1.out; have h2 := zAr x.2.1; omega)
 have hnl : (firstsN x.2.1).length <= n1 := by have h1 := hl1.out; have h2 := zAr x.2.1; omega
 have hnb : n1 <= 140737488351232 := by have h1 := hl1.out; omega
 have HB3 : Hid (Below w.heap.size w W3) := on2 (on2 HB1.out bu2) d3
 have HGr : Hid (GrpSt (fun b => ((D b /\ b < W1.heap.size) \/ Fresh W1 b) /\ b < u1.heap.size) u1 W3 mb gl f PF) := HG.out.on d3
 have hsz2 : w.heap.size <= u2.heap.size := Nat.le_trans HB1.out.size bu2.size
 have HNs : Hid (SlAt RNode 9 112 (fun b => OrF D w b /\ b < W3.heap.size) W3 na (firstsN x.2.1).length nc (firstsN x.2.1)) := sn.weak RNode.firm (fun b hb ha => ⟨by
  rcases ha with ha | ha
  ·exact .inl ha.1
  ·exact .inr (Nat.le_trans hsz2 ha), hb⟩)
 have HS2 : Hid (w.heap.size <= W3.heap.size) := HB3.out.size
 clear hsz2
 have hNl : Hid ((firstsN x.2.1).length = (firstsN x.2.1).length) := rfl
 clear hr sn HG bu2 hlt2
 generalize hNF : firstsN x.2.1 = NF at HI HNs hb hnl hNl |-
 clear hNF
 have hll : Hid (NF.length = NF.length) := rfl
 obtain ⟨nl, hnlE⟩ : ∃ l, NF.length = l := ⟨_, rfl⟩
 have HNL : Hid (NF.length = nl) := hnlE
 rw [hnlE] at HNs hb hnl |-
 clear hnlE hNl hll
 obtain ⟨i0, hi0, hz0, hz1, hz2⟩ := info_parts zGq
 obtain ⟨W4, hmk, hown, hg4⟩ := run_make_own (P := Tryz.prog) W3 W3.heap.size 59 63 i0 _ 15 Tryz.underlying59 hi0 hz0 hz1 .i64 .i64 nl (by rw [hz2]; omega) (by unfold maxLen; omega) (Nat.le_refl _)
 have B4 : Below W3.heap.size W3 W4 := (Below.refl _ _).grown hg4 (Nat.le_refl _) (fun k e => by cases e)
 obtain ⟨M, hM⟩ : ∃ M, NF.map (fun n => allP n (grpP PF n.1)) = M := ⟨_, rfl⟩
 have HM : Hid (∀ k, k < nl -> M.take (k + 1) = M.take k ++ [allP (NF.getD k default) (grpP PF (NF.getD k default).1)]) := fun k hk => by rw [<- hM]; exact zHR _ (by rw [HNL.out]; exact hk)
 have HML : Hid (M.length = nl) := by rw [Hid, <- hM, List.length_map]; exact HNL.out
 rw [hM] at HI
 clear hM
 have H4 : Hid (Row RInfo 15 (OrF D w) W3 W4 63 (.slice (some ⟨W3.heap.size, 0, none⟩) 0 nl) (M.take 0)) := ⟨[], ⟨B4, hown⟩, Chunks.nil _ _⟩
 clear hown hg4 B4 hi0 hz0 hz1 hz2
 go_upto_region 4 with fail
 clear hmk
 go_wp2_with fail
 go_loopw [5, 20] (fun o i wr => ∃ k : Nat, k <= nl /\ i = .int .i64 k /\ Hid (Row RInfo 15 (OrF D w) W3 wr 63 o (M.take k))) (fun _ i _ => nl - (intOf i).toNat)
 case atStart => exact ⟨0, Nat.zero_le _, rfl, H4⟩
 case round =>
  obtain ⟨k, hk, rfl, hrow⟩ := hrel
  have hbw : Below W3.heap.size W3 wr := hrow.out.below
  by_cases hlt : k < nl
  ·have hltz : (k : Int) < (nl : Int) := by omega
   obtain ⟨B, off, hBe, hBl, hBs, xs, hrn, hv⟩ := (HNs.out.kept RNode.firm (Kept.below hbw)).get hlt
   subst hBe
   have HT : Hid (M.take (k + 1) = M.take k ++ [allP (NF.getD k default) (grpP PF (NF.getD k default).1)]) := HM.out k hlt
   generalize NF.getD k default = x9 at hrn HT
   obtain ⟨hsz, v1, v2, v3, v4, v5, v6, v7, v8, rfl⟩ := hrn.lit0
   have HV : Hid (wr.rangeAt B (off + k * 9) [.string x9.1, v1, v2, v3, v4, v5, v6, v7, v8]) := hv
   have hi : (Tryz.prog.info? 54).map (·.size) = some ([.string x9.1, v1, v2, v3, v4, v5, v6, v7, v8] : List Value).length := zBN
   have H1 : Hid ((([.string x9.1, v1, v2, v3, v4, v5, v6, v7, v8] : List Value).toArray).all (·.oneCell') = true) := all_oneCell_toArray (RNode.firm.one hrn)
   have HA : Hid (RNode (fun b => OrF D w b /\ b < W3.heap.size) wr [.string x9.1, v1, v2, v3, v4, v5, v6, v7, v8] x9) := hrn
   clear hrn hv
   obtain ⟨wb, hwb⟩ : ∃ wb, wb = (wr.alloc (.cells #[.string ⟨#[]⟩, .slice none 0 0, .slice none 0 0, .bool false, .int .i64 0, .int .i64 0, .int .i64 0, .int .i64 0, .int .i64 0] 54)).setCells wr.heap.size 0 [.string x9.1, v1, v2, v3, v4, v5, v6, v7, v8] := ⟨_, rfl⟩
   have HTH : Hid ((wr.alloc (.cells #[.string ⟨#[]⟩, .slice none 0 0, .slice none 0 0, .bool false, .int .i64 0, .int .i64 0, .int .i64 0, .int .i64 0, .int .i64 0] 54)).there wr.heap.size 0 9) := (BoxL.new wr 54 [.string ⟨#[]⟩, .slice none 0 0, .slice none 0 0, .bool false, .int .i64 0, .int .i64 0, .int .i64 0, .int .i64 0, .int .i64 0]).there
   have HBX : Hid (BoxL wb wr.heap.size [.string x9.1, v1, v2, v3, v4, v5, v6, v7, v8]) := by rw [hwb]; exact zAz wr 54 [.string ⟨#[]⟩, .slice none 0 0, .slice none 0 0, .bool false, .int .i64 0, .int .i64 0, .int .i64 0, .int .i64 0, .int .i64 0] [.string x9.1, v1, v2, v3, v4, v5, v6, v7, v8] rfl
   have HBB : Hid (Below wr.heap.size wr wb) := by rw [hwb]; exact zA0 ((Below.refl _ _).alloc (Nat.le_refl _) _) (Nat.le_refl _)
   have HWB : Hid (wb = (wr.alloc (.cells #[.string ⟨#[]⟩, .slice none 0 0, .slice none 0 0, .bool false, .int .i64 0, .int .i64 0, .int .i64 0, .int .i64 0, .int .i64 0] 54)).setCells wr.heap.size 0 (([.string x9.1, v1, v2, v3, v4, v5, v6, v7, v8] : List Value).toArray).toList) := hwb
   clear hwb
   have c0 := (HBX.out.2 0 _ rfl).1
   have HRG : Hid (wb.rangeAt wr.heap.size 0 [.string x9.1, v1, v2, v3, v4, v5, v6, v7, v8]) := HBX.out.range
   have g9 : GrpSt (fun b => ((D b /\ b < W1.heap.size) \/ Fresh W1 b) /\ b < u1.heap.size) u1 wb mb gl f PF := HGr.out.on (on2 hbw HBB.out)
   have hlk := g9.map.look 109 Tryz.underlying109 hsz
   obtain ⟨fa, fc, hfe, sf⟩ := (g9.row x9.1).sl (bytes := 296) RPod.firm (by have h1 := hl0.out; have h2 : (grpP PF x9.1).length <= PF.length := List.length_filter_le _ _; have h3 := hPF.out; omega)
   rw [hfe] at hlk
   have hC := of_calls [.string x9.1, v1, v2, v3, v4, v5, v6, v7, v8] fa (grpP PF x9.1).length fc (fun b => OrF D w b /\ b < W3.heap.size) _ x9 (grpP PF x9.1) wb (RNode.firm.kept HA.out (Kept.below HBB.out)) sf (hF.out x9.1)
   clear g9 sf hfe
   have hlb := HBX.out.1
   generalize allP x9 (grpP PF x9.1) = iv at hC HT
   generalize (grpP PF x9.1).length = fl at hC hlk
   go_wp2_with (first | (refine wpList_load_mid rfl 54 _ rfl B (off + k * 9) rfl [.string x9.1, v1, v2, v3, v4, v5, v6, v7, v8] _ HV.out Tryz.underlying54 rfl hi ?_) | (refine wpList_store_mid rfl 54 _ _ rfl wr.heap.size 0 (([.string x9.1, v1, v2, v3, v4, v5, v6, v7, v8] : List Value).toArray) rfl rfl HTH.out hi H1.out ?_; refine zAH HWB.out ?_) | (refine wpList_load_mid rfl 54 _ rfl wr.heap.size 0 rfl [.string x9.1, v1, v2, v3, v4, v5, v6, v7, v8] _ HRG.out Tryz.underlying54 rfl hi ?_) | fail)
   refine hC.mono ?_
   rintro e z5 ⟨is, rfl, hin, _, d5⟩
   clear hC hlk c0 HV HTH HWB H1
   have b5 : Below wr.heap.size wr z5 := on2 HBB.out d5
   obtain ⟨i0, i1, i2, i3, i4, i5, i6, i7, i8, i9, i10, i11, i12, i13, i14, rfl⟩ := hin.info.lit12
   obtain ⟨z6, hz6⟩ : ∃ z6, z6 = z5.alloc (.cells #[i0, i1, i2, i3, i4, i5, i6, i7, i8, i9, i10, i11, i12, i13, i14] 63) := ⟨_, rfl⟩
   have d6 : Below z5.heap.size z5 z6 := by rw [hz6]; exact (Below.refl _ _).alloc (Nat.le_refl _) _
   have q6 : BoxL z6 z5.heap.size [i0, i1, i2, i3, i4, i5, i6, i7, i8, i9, i10, i11, i12, i13, i14] := by rw [hz6]; exact BoxL.new z5 63 [i0, i1, i2, i3, i4, i5, i6, i7, i8, i9, i10, i11, i12, i13, i14]
   have hrow6 : Row RInfo 15 (OrF D w) W3 z6 63 u5 (M.take k) := hrow.out.on RInfo.firm (on2 b5 d6)
   have hin6 : RInfo (fun b => OrF D w b /\ u5.ownBlock ≠ some b) z6 [i0, i1, i2, i3, i4, i5, i6, i7, i8, i9, i10, i11, i12, i13, i14] iv := RInfo.firm.weak (hin.on d6).info (fun b _ hb => ⟨by
    rcases hb with hb | hb
    ·exact hb.1
    ·exact .inr (Nat.le_trans HS2.out (Nat.le_trans hbw.size (Nat.le_trans HBB.out.size hb))), fun e => by
    have h1 := hrow.out.lt e
    have h2 := HBB.out.size
    rcases hb with hb | hb
    ·have h3 : b < W3.heap.size := hb.2; omega
    ·have h3 : wb.heap.size <= b := hb; omega⟩)
   have HSr : Hid (Src RInfo 15 (fun b => OrF D w b /\ u5.ownBlock ≠ some b) z6 (some ⟨z5.heap.size, 0, none⟩) 1 [iv]) := zCU RInfo.firm q6 hin6
   have HRw : Hid (Row RInfo 15 (OrF D w) W3 z6 63 u5 (M.take k)) := hrow6
   have HOb : Hid (((M.take k).length + [iv].length) * 208 <= 140737488355328) := by rw [Hid, List.length_singleton, List.length_take]; omega
   have HZ6 : Hid (z6 = z5.alloc (.cells #[i0, i1, i2, i3, i4, i5, i6, i7, i8, i9, i10, i11, i12, i13, i14] 63)) := hz6
   have H1i : Hid ((([i0, i1, i2, i3, i4, i5, i6, i7, i8, i9, i10, i11, i12, i13, i14] : List Value).toArray).all (·.oneCell') = true) := all_oneCell_toArray hin.one
   clear hz6 d6 q6 hrow6 hin6 hin b5 d5 hrow HRG HBX HBB HA hbw
   go_wp2_with (at_builtin; refine zAH HZ6.out ?_; go_must (refine zAL RInfo.firm (A := OrF D w) (w0 := W3) rfl _ _ 59 63 rfl _ 208 zGq Tryz.underlying59 rfl (by decide) (by decide) u5 (M.take k) rfl HRw.out (some ⟨_, 0, none⟩) 1 1 [iv] rfl HSr.out HOb.out ?_); intro v7 u7 hr7 hg7 hw7)
   have HN : Hid (Row RInfo 15 (OrF D w) W3 u7 63 v7 (M.take (k + 1))) := by rw [Hid, HT.out]; exact hr7
   clear hr7 hg7 hw7 HT HSr HRw HOb HZ6 H1i
   go_roundw
   case rel => exact ⟨k + 1, by omega, by go_num, HN⟩
   case measure => simp [intOf]; omega
  ·obtain rfl : nl = k := by omega
   have htk : M.take nl = M := List.take_of_length_le (by rw [HML.out]; exact Nat.le_refl _)
   rw [htk] at hrow
   have HE : Hid (Row RInfo 15 (OrF D w) w wr 63 u5 (infosP x)) := by rw [Hid, HI.out]; exact hrow.out.from RInfo.firm HB3.out (fun _ h => h)
   clear hrow hbw htk
   go_wp2_with fail
   go_ret
   exact ⟨_, rfl, HE.out⟩
end Go.Proofs.YtnffafjamiffnaaGreat
