/- volume.Apply: the picks are applied, in rows of its own. Conditions: the state and the picks lie as is said of them. -/
import Derived.Test.YtnffafjamiffnaaGreatQ38
set_option linter.unusedSimpArgs false
set_option maxRecDepth 100000
set_option maxHeartbeats 32000000
namespace Go.Proofs.YtnffafjamiffnaaGreat
open Go.RowKit Go.Shelf Go.Maps
def ApOut (D : Where) (r : Except Int VC) (w : World) (x : StateD) (e : Ending) (u : World) : Prop :=
 (∃ st g0 g1 g2 g3 g4 g5, r = .ok st /\ e = .returned (.tuple #[.agg #[g0, g1, g2, g3, g4, g5], .int .i64 0]) /\ DnS (fun b => D b /\ b < w.heap.size) w u g0 g1 g2 g3 g4 g5 x st) \/
 (∃ k, r = .error k /\ e = .returned (.tuple #[.agg Z6.toArray, .int .i64 k]) /\ (k = 2 \/ k = 5) /\ Below w.heap.size w u)
theorem DnS.rebase {m : Where} {w w1 u u' : World} {g0 g1 g2 g3 g4 g5 : Value} {x : StateD} {st : VC} (h : DnS m w1 u g0 g1 g2 g3 g4 g5 x st) (hw : Below w.heap.size w w1) (hm : ∀ b, m b -> b < w.heap.size) (hb : Below w.heap.size w u') (hk : Kept (fun b => m b \/ w1.heap.size <= b) u u') : DnS m w u' g0 g1 g2 g3 g4 g5 x st := by
 obtain ⟨⟨hV, hC, hne, _⟩, ⟨r0, r1, r4, r5⟩, _⟩ := h
 exact ⟨⟨(hV.from RVolume.firm hw (fun _ h => h)).keptX RVolume.firm hb (hk.weak (fun b h => h.imp id (fun h => (hV.lt h).1))), (hC.from RClaim.firm hw (fun _ h => h)).keptX RClaim.firm hb (hk.weak (fun b h => h.imp id (fun h => (hC.lt h).1))), hne, hm⟩, ⟨(r0.from RPod.firm hw (fun _ h => h)).keptX RPod.firm hb (hk.weak (fun b h => h.imp id (fun h => (r0.lt h).1))), (r1.from RNode.firm hw (fun _ h => h)).keptX RNode.firm hb (hk.weak (fun b h => h.imp id (fun h => (r1.lt h).1))), (r4.from RClass.firm hw (fun _ h => h)).keptX RClass.firm hb (hk.weak (fun b h => h.imp id (fun h => (r4.lt h).1))), (r5.from RBudget.firm hw (fun _ h => h)).keptX RBudget.firm hb (hk.weak (fun b h => h.imp id (fun h => (r5.lt h).1)))⟩, hb⟩
theorem upto_all (L : List PickS) : (upto10 L L.length).map (fun x => x.2.1) = L.map Subtype.val := by
 rw [zCl L _ (Nat.le_refl _)]; exact List.take_of_length_le (by simp)
theorem zEw (D : Where) (cs : List Value) (x : StateD) (a : Option Addr) (n c : Nat) (L : List PickD) (w : World) (h : Hid (RState D w cs x)) (hL : Hid (SlAt RLabel 2 32 (fun _ => True) w a n c L)) :
  Calls Tryz.prog 35 #[.agg cs.toArray, .slice a n c] w (ApOut D (applyP (sVs x, sCs x) L) w x) := by
 obtain ⟨⟨a0, n0, m0⟩, ⟨a1, n1, m1⟩, ⟨a2, n2, m2⟩, ⟨a3, n3, m3⟩, ⟨a4, n4, m4⟩, ⟨a5, n5, m5⟩, rfl, _⟩ := h.out.out
 simp only at h
 obtain ⟨L, rfl⟩ := picks_S hL.out
 have hlen : Hid (L.length = n) := by have := hL.out.1; rwa [List.length_map] at this
 obtain ⟨W1, hW1⟩ : ∃ W, W = (w.alloc (.cells #[.slice a0 n0 m0, .slice a1 n1 m1, .slice a2 n2 m2, .slice a3 n3 m3, .slice a4 n4 m4, .slice a5 n5 m5] 29)).alloc (.cells #[.slice none 0 0, .slice none 0 0, .slice none 0 0, .slice none 0 0, .slice none 0 0, .slice none 0 0] 29) := ⟨_, rfl⟩
 have B1 : Below w.heap.size w W1 := by rw [hW1]; go_grown
 have hz1 : W1.heap.size = w.heap.size + 1 + 1 := by rw [hW1]; simp
 have q1 : BoxL W1 w.heap.size [.slice a0 n0 m0, .slice a1 n1 m1, .slice a2 n2 m2, .slice a3 n3 m3, .slice a4 n4 m4, .slice a5 n5 m5] := by rw [hW1]; exact (BoxL.new w 29 _).on ((Below.refl _ _).alloc (Nat.le_refl _) _)
 have q2 : BoxL W1 (w.heap.size + 1) Z6 := by rw [hW1]; have := BoxL.new (w.alloc (.cells #[.slice a0 n0 m0, .slice a1 n1 m1, .slice a2 n2 m2, .slice a3 n3 m3, .slice a4 n4 m4, .slice a5 n5 m5] 29)) 29 [.slice none 0 0, .slice none 0 0, .slice none 0 0, .slice none 0 0, .slice none 0 0, .slice none 0 0]; simpa using this
 have HQ : Hid (∀ z, Kept (fun b => b = w.heap.size) W1 z -> z.cell? ⟨w.heap.size, 0, none⟩ = some (.slice a0 n0 m0) /\ z.cell? ⟨w.heap.size, 1, none⟩ = some (.slice a1 n1 m1) /\ z.cell? ⟨w.heap.size, 2, none⟩ = some (.slice a2 n2 m2) /\ z.cell? ⟨w.heap.size, 3, none⟩ = some (.slice a3 n3 m3) /\ z.cell? ⟨w.heap.size, 4, none⟩ = some (.slice a4 n4 m4) /\ z.cell? ⟨w.heap.size, 5, none⟩ = some (.slice a5 n5 m5)) := fun z hb => ⟨((q1.kept hb rfl).2 0 _ rfl).1, ((q1.kept hb rfl).2 1 _ rfl).1, ((q1.kept hb rfl).2 2 _ rfl).1, ((q1.kept hb rfl).2 3 _ rfl).1, ((q1.kept hb rfl).2 4 _ rfl).1, ((q1.kept hb rfl).2 5 _ rfl).1⟩
 have HS : Hid (∀ z, Below W1.heap.size W1 z -> RState (fun b => D b /\ b < w.heap.size) z [.slice a0 n0 m0, .slice a1 n1 m1, .slice a2 n2 m2, .slice a3 n3 m3, .slice a4 n4 m4, .slice a5 n5 m5] x /\ SlAt RLabel 2 32 (fun b => b < w.heap.size) z a n c (L.map Subtype.val) /\ BoxL z (w.heap.size + 1) Z6) := fun z hz => ⟨RState.firm.kept (RState.firm.weak h.out (A' := fun b => D b /\ b < w.heap.size) (fun b hb hd => ⟨hd, hb⟩)) (Kept.below (on2 B1 hz)), (hL.out.weak RLabel.firm (fun b hb _ => hb)).on RLabel.firm (on2 B1 hz), q2.on hz⟩
 have HB1 : Hid (Below w.heap.size w W1) := B1
 clear h hL q1 q2 B1
 go_enter Tryz.func35, Tryz.ntmps35
 go_upto_region 1 with fail
 rw [<- hW1]
 clear hW1
 refine t0 (fun z => Kept (fun b => b = w.heap.size) W1 z) (Kept.drew _ _) (fun gH => ?_)
 have hb0 : Below W1.heap.size W1 W1.drew := (Below.refl _ _).drew
 generalize hwd : W1.drew = wd at gH hb0 |-
 clear hwd
 try go_frame
 refine' tk 0 ?_ ?_; rotate_left
 ·intro u hu; obtain ⟨f0, f1, f2, f3, f4, f5⟩ := HQ.out u hu; clear hu; go_simp; try with_reducible rfl
 try go_frame
 refine' tk 1 ?_ ?_; rotate_left
 ·intro u hu; obtain ⟨f0, f1, f2, f3, f4, f5⟩ := HQ.out u hu; clear hu; go_simp; try with_reducible rfl
 try go_frame
 have hC := (callsIn_wide (n := 9)).1 (all_in Fence.wide 9 trivial rfl a n c wd)
 refine tr 2 (fun K hK => ?_)
 go_simp
 refine hC.mono ?_
 rintro e u1 ⟨rfl, hu1⟩
 clear hC
 have d1 : Below wd.heap.size wd u1 := by rw [hu1]; exact (Below.refl _ _).alloc (Nat.le_refl _) _
 have hb1 : Below W1.heap.size W1 u1 := on2 hb0 d1
 have qb : BoxL u1 wd.heap.size [.slice a n c] := by rw [hu1]; exact BoxL.new wd _ _
 have hwl : w.heap.size <= wd.heap.size := Nat.le_trans (by omega) hb0.size
 clear hu1
 go_wp2_with fail
 refine hK.out _ _ (Kept.below hb1) (fun gI => ?_)
 clear hK K gH; have gH := gI; clear gI
 try go_frame
 obtain ⟨s1, s2, s3⟩ := HS.out u1 hb1
 have hlw : w.heap.size <= u1.heap.size := Nat.le_trans hwl d1.size
 have hC := zHV 91 71 #[.pointer (some ⟨wd.heap.size, 0, none⟩)] okA (fun _ v => v.1) (fun c _ => c.1) (fun ys => ys = upto10 L n) (fun pre => ∃ k, k <= n /\ pre = upto10 L k) n (fun b => D b /\ b < w.heap.size) [.slice a0 n0 m0, .slice a1 n1 m1, .slice a2 n2 m2, .slice a3 n3 m3, .slice a4 n4 m4, .slice a5 n5 m5] x u1 (fun b hb => Nat.lt_of_lt_of_le hb.2 hlw) s1 (enters_of Tryz.func91 (by kernel_rfl) rfl) (enters_of Tryz.func71 (by kernel_rfl) rfl)
  (fun W hW => all_stops Fence.wide 8 trivial rfl (by decide) wd.heap.size u1.heap.size a n c L W (Nat.lt_of_lt_of_le qb.1 hW.size) hW.size ((qb.on hW).2 0 _ rfl).1 ((s2.weak RLabel.firm (fun b hb _ => hb)).on RLabel.firm hW)) (fun Bc oc Bv ov cs A c vs A' v u h1 h2 h3 h4 h5 h6 h7 h8 h9 => zHT Bc oc Bv ov cs A c vs A' v u h1 h2 h3 h4 h5 h6 h7 h8 h9) (fun c v h1 h2 => ⟨h2, h1⟩)
 refine tr 3 (fun K hK => ?_)
 go_simp
 refine hC.mono ?_
 rintro e u2 hz
 clear hC
 rw [show stepD okA (fun _ v => v.1) (fun c _ => c.1) = stepA from rfl] at hz
 rcases hz with ⟨ys, st, g0, g1, g2, g3, g4, g5, rfl, hr, rfl, hd⟩ | ⟨ys, k, ⟨j, hj, rfl⟩, hr, rfl, hk, hd⟩
 ·have bu2 : Below u1.heap.size u1 u2 := hd.2.2
  have bw2 : Below w.heap.size w u2 := on2 (on2 HB1.out hb1) bu2
  have zb := s3.on bu2
  obtain ⟨b0, k0, c0, rfl⟩ := hd.2.1.1.head
  obtain ⟨b1, k1, c1, rfl⟩ := hd.2.1.2.1.head
  obtain ⟨b2, k2, c2, rfl⟩ := hd.1.1.head
  obtain ⟨b3, k3, c3, rfl⟩ := hd.1.2.1.head
  obtain ⟨b4, k4, c4, rfl⟩ := hd.2.1.2.2.1.head
  obtain ⟨b5, k5, c5, rfl⟩ := hd.2.1.2.2.2.head
  have HR : Hid (applyP (sVs x, sCs x) (L.map Subtype.val) = .ok st) := by have h8 := hr; rw [<- hlen.out, upto_all, zCA] at h8; exact h8
  clear hr
  go_wp2_with fail
  refine hK.out _ _ ((Kept.below hb1).trans (Kept.weak (A := fun b => b < u1.heap.size) (Kept.below bu2) (fun b hb => by have h8 : b = w.heap.size := hb; have h9 := qb.1; show b < u1.heap.size; omega))) (fun gI => ?_)
  clear hK K gH; have gH := gI; clear gI
  try go_frame
  refine tp 4 ?_
  try go_frame
  refine tp 5 ?_
  try go_frame
  obtain ⟨U, hU⟩ : ∃ U, U = u2.setCells (w.heap.size + 1) 0 [.slice b0 k0 c0, .slice b1 k1 c1, .slice b2 k2 c2, .slice b3 k3 c3, .slice b4 k4 c4, .slice b5 k5 c5] := ⟨_, rfl⟩
  refine ts 6 (fun K hK => ?_)
  refine zA4 (by rfl) (wp_store_mid 29 _ _ rfl (w.heap.size + 1) 0 #[.slice b0 k0 c0, .slice b1 k1 c1, .slice b2 k2 c2, .slice b3 k3 c3, .slice b4 k4 c4, .slice b5 k5 c5] rfl rfl zb.there zAS (by simp [Value.oneCell']) ?_)
  have kU : Kept (fun b => b ≠ w.heap.size + 1) u2 U := by rw [hU]; exact zA1 (fun h => h rfl)
  have bU : Below w.heap.size w U := by rw [hU]; exact zA0 bw2 (by omega)
  have qU : BoxL U (w.heap.size + 1) [.slice b0 k0 c0, .slice b1 k1 c1, .slice b2 k2 c2, .slice b3 k3 c3, .slice b4 k4 c4, .slice b5 k5 c5] := by rw [hU]; exact zA2 zb rfl
  have eU : U = u2.setCells (w.heap.size + 1) 0 (#[.slice b0 k0 c0, .slice b1 k1 c1, .slice b2 k2 c2, .slice b3 k3 c3, .slice b4 k4 c4, .slice b5 k5 c5] : Array Value).toList := by rw [hU]
  have HE : Hid (DnS (fun b => D b /\ b < w.heap.size) w U (.slice b0 k0 c0) (.slice b1 k1 c1) (.slice b2 k2 c2) (.slice b3 k3 c3) (.slice b4 k4 c4) (.slice b5 k5 c5) x st) := hd.rebase (on2 HB1.out hb1) (fun b hb => hb.2) bU (kU.weak (fun b hb => by have := hb1.size; rcases hb with hb | hb; have := hb.2; omega; omega))
  rw [<- eU]
  refine hK.out _ _ (((Kept.below hb1).trans (Kept.weak (A := fun b => b < u1.heap.size) (Kept.below bu2) (fun b hb => by have h8 : b = w.heap.size := hb; have h9 := qb.1; show b < u1.heap.size; omega))).trans (kU.weak (fun b hb => by have h8 : b = w.heap.size := hb; show b ≠ w.heap.size + 1; omega))) (fun gI => ?_)
  clear hK K gH; have gH := gI; clear gI
  try go_frame
  refine tp 7 ?_
  try go_frame
  refine tz ?_
  have t0' := (qU.2 0 _ rfl).1
  have t1' := (qU.2 1 _ rfl).1
  have t2' := (qU.2 2 _ rfl).1
  have t3' := (qU.2 3 _ rfl).1
  have t4' := (qU.2 4 _ rfl).1
  have t5' := (qU.2 5 _ rfl).1
  clear hU eU kU bU qU zb bw2
  go_wp2_with fail
  clear hd bu2
  refine bodyPost_ret (v := .tuple #[.agg #[.slice b0 k0 c0, .slice b1 k1 c1, .slice b2 k2 c2, .slice b3 k3 c3, .slice b4 k4 c4, .slice b5 k5 c5], .int .i64 0]) (by simp [results, Tryz.results35, go_sem, t0', t1', t2', t3', t4', t5', Result.andThen]) rfl ?_
  exact .inl ⟨st, _, _, _, _, _, _, HR.out, rfl, HE.out⟩
 ·have bu2 : Below u1.heap.size u1 u2 := hd
  have bw2 : Below w.heap.size w u2 := on2 (on2 HB1.out hb1) bu2
  have zb := s3.on bu2
  have HR : Hid (applyP (sVs x, sCs x) (L.map Subtype.val) = .error k) := by have h8 := hr; rw [zCl L j (by rw [hlen.out]; exact hj)] at h8; have h9 := runD_take h8; rw [zCA] at h9; exact h9
  clear hr hj
  go_wp2_with fail
  refine hK.out _ _ ((Kept.below hb1).trans (Kept.weak (A := fun b => b < u1.heap.size) (Kept.below bu2) (fun b hb => by have h8 : b = w.heap.size := hb; have h9 := qb.1; show b < u1.heap.size; omega))) (fun gI => ?_)
  clear hK K gH; have gH := gI; clear gI
  try go_frame
  refine tp 4 ?_
  try go_frame
  refine tp 5 ?_
  try go_frame
  obtain ⟨U, hU⟩ : ∃ U, U = u2.setCells (w.heap.size + 1) 0 [.slice none 0 0, .slice none 0 0, .slice none 0 0, .slice none 0 0, .slice none 0 0, .slice none 0 0] := ⟨_, rfl⟩
  refine ts 6 (fun K hK => ?_)
  refine zA4 (by rfl) (wp_store_mid 29 _ _ rfl (w.heap.size + 1) 0 #[.slice none 0 0, .slice none 0 0, .slice none 0 0, .slice none 0 0, .slice none 0 0, .slice none 0 0] rfl rfl zb.there zAS (by simp [Value.oneCell']) ?_)
  have kU : Kept (fun b => b ≠ w.heap.size + 1) u2 U := by rw [hU]; exact zA1 (fun h => h rfl)
  have bU : Below w.heap.size w U := by rw [hU]; exact zA0 bw2 (by omega)
  have qU : BoxL U (w.heap.size + 1) [.slice none 0 0, .slice none 0 0, .slice none 0 0, .slice none 0 0, .slice none 0 0, .slice none 0 0] := by rw [hU]; exact zA2 zb rfl
  have eU : U = u2.setCells (w.heap.size + 1) 0 (#[.slice none 0 0, .slice none 0 0, .slice none 0 0, .slice none 0 0, .slice none 0 0, .slice none 0 0] : Array Value).toList := by rw [hU]
  have HE : Hid (Below w.heap.size w U) := bU
  rw [<- eU]
  refine hK.out _ _ (((Kept.below hb1).trans (Kept.weak (A := fun b => b < u1.heap.size) (Kept.below bu2) (fun b hb => by have h8 : b = w.heap.size := hb; have h9 := qb.1; show b < u1.heap.size; omega))).trans (kU.weak (fun b hb => by have h8 : b = w.heap.size := hb; show b ≠ w.heap.size + 1; omega))) (fun gI => ?_)
  clear hK K gH; have gH := gI; clear gI
  try go_frame
  refine tp 7 ?_
  try go_frame
  refine tz ?_
  have t0' := (qU.2 0 _ rfl).1
  have t1' := (qU.2 1 _ rfl).1
  have t2' := (qU.2 2 _ rfl).1
  have t3' := (qU.2 3 _ rfl).1
  have t4' := (qU.2 4 _ rfl).1
  have t5' := (qU.2 5 _ rfl).1
  clear hU eU kU bU qU zb bw2
  go_wp2_with fail
  clear hd bu2
  refine bodyPost_ret (v := .tuple #[.agg #[.slice none 0 0, .slice none 0 0, .slice none 0 0, .slice none 0 0, .slice none 0 0, .slice none 0 0], .int .i64 k]) (by simp [results, Tryz.results35, go_sem, t0', t1', t2', t3', t4', t5', Result.andThen]) rfl ?_
  exact .inr ⟨k, HR.out, rfl, hk, HE.out⟩
end Go.Proofs.YtnffafjamiffnaaGreat
