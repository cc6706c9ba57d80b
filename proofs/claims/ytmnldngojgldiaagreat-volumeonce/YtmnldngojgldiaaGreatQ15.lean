/- Tables of names: small facts. Plain. No condition. volume.own: a state with lists of its own. Condition: the state lies as is said of it. The document's Check and Free of layer 10. Condition: the state lies as is said of it. isFree, hasVolume, suits; cmp.Or of two; MinFunc over places; what stands behind 'smallest'. Condition: the arguments lie as is said of them. One cell of one member of a row of one's own is written over; a claim's volume and a volume's claim so. Plain facts on worlds. No condition. The claims and the volumes while picks are applied or taken back, as they lie: one step. Plain facts on worlds. No condition. -/
import Derived.Test.YtmnldngojgldiaaGreatQ13
import Derived.Test.YtmnldngojgldiaaGreatQ14
import Derived.Test.YtmnldngojgldiaaGreatQ04
import Derived.Test.YtmnldngojgldiaaGreatQ07
import Derived.Test.YtmnldngojgldiaaGreatQ09
import Derived.Test.YtmnldngojgldiaaGreatQ08
import Derived.BigQuiet
import Derived.Deep.QuietTactic
import Derived.Test.YtmnldngojgldiaaGreatQ06
namespace Go.Proofs.YtmnldngojgldiaaGreat
open Go.RowKit Go.Maps
set_option linter.unusedSimpArgs false
set_option maxRecDepth 100000

theorem makeMap_hint10 (n : Nat) (w : World) : (Instr.makeMap 80 (some (.int .i64 (n : Int)))).run Tryz.prog w = .ok (.map (some w.heap.size)) (w.alloc (.map #[] 0)) := by
  simp [Instr.makeMap, run_underlying Tryz.underlying80, asInt, asIntOf, Result.andThen]
theorem all_oneCell10 {cs : List Value} (h : ∀ v ∈ cs, v.oneCell' = true) : cs.toArray.all (·.oneCell') = true := by
  simp only [List.all_toArray, List.all_eq_true]
  exact h
/-- What tableOf hands back. -/
def TabOut (w : World) (s : Value) (N : List ByteArray) (e : Ending) (w' : World) : Prop := ∃ mb, e = .returned (.agg #[s, .map (some mb)]) ∧ NmAt w' mb N ∧ w.heap.size ≤ mb ∧ Below w.heap.size w w'
theorem RClaim.head10 {A : Where} {w : World} {cs : List Value} {x : ClaimD} (h : RClaim A w cs x) : cs[0]? = some (.string x.1) ∧ x.1.size ≤ 140737488355328 := by
  obtain ⟨rfl, h1, _⟩ := h.out
  exact ⟨rfl, h1⟩
theorem RVolume.head10 {A : Where} {w : World} {cs : List Value} {x : VolumeD} (h : RVolume A w cs x) : cs[0]? = some (.string x.1) ∧ x.1.size ≤ 140737488355328 := by
  obtain ⟨_, rfl, h1, _⟩ := h.out
  exact ⟨rfl, h1⟩
theorem RClass.head10 {A : Where} {w : World} {cs : List Value} {x : ClassD} (h : RClass A w cs x) : cs[0]? = some (.string x.1) ∧ x.1.size ≤ 140737488355328 := by
  obtain ⟨rfl, h1⟩ := h.out
  exact ⟨rfl, h1⟩
theorem take_map10 {α : Type} [Inhabited α] (f : α → ByteArray) {L : List α} {k : Nat} (h : k < L.length) : (L.map f).take (k + 1) = (L.map f).take k ++ [f (L.getD k default)] := by
  rw [List.take_succ_eq_append_getElem (by rw [List.length_map]; exact h), List.getElem_map, List.getD_eq_getElem?_getD, List.getElem?_eq_getElem h]
  rfl
theorem BoxL.grown10 {u u' : World} {D m : Nat} {cs : List Value} (h : BoxL u D cs) (hg : u.grownBy u' (some m)) (hm : D ≠ m) : BoxL u' D cs := h.kept (A := fun b => b ≠ m) (Kept.grown hg (fun k e hk => hk (by simpa using e.symm))) hm
theorem below_grown10 {w u u' : World} {m : Nat} (h : Below w.heap.size w u) (hg : u.grownBy u' (some m)) (hm : w.heap.size ≤ m) : Below w.heap.size w u' := h.grown hg h.size (fun k e => by cases e; exact hm)
end Go.Proofs.YtmnldngojgldiaaGreat
namespace Go.Proofs.YtmnldngojgldiaaGreat
open Go.RowKit Go.Maps
set_option linter.unusedSimpArgs false
set_option maxRecDepth 100000

/-- A state whose lists are rows of their own; what they hold lies where it lay. -/
def StR (D : Where) (w u : World) (g0 g1 g2 g3 g4 g5 : Value) (x : StateD) : Prop :=
  Row RPod 16 (fun b => D b ∧ b < w.heap.size) w u 61 g0 x.1 ∧ Row RNode 9 (fun b => D b ∧ b < w.heap.size) w u 64 g1 x.2.1 ∧ Row RVolume 5 (fun b => D b ∧ b < w.heap.size) w u 49 g2 (sVs x) ∧ Row RClaim 4 (fun b => D b ∧ b < w.heap.size) w u 44 g3 (sCs x) ∧ Row RClass 2 (fun b => D b ∧ b < w.heap.size) w u 46 g4 (sKs x) ∧ Row RBudget 3 (fun b => D b ∧ b < w.heap.size) w u 79 g5 x.2.2.2.2.2 ∧ (∀ b, g2.ownBlock = some b → g0.ownBlock ≠ some b ∧ g1.ownBlock ≠ some b ∧ g3.ownBlock ≠ some b ∧ g4.ownBlock ≠ some b ∧ g5.ownBlock ≠ some b) ∧ (∀ b, g3.ownBlock = some b → g0.ownBlock ≠ some b ∧ g1.ownBlock ≠ some b ∧ g2.ownBlock ≠ some b ∧ g4.ownBlock ≠ some b ∧ g5.ownBlock ≠ some b)
/-- What own hands back. -/
def OwOut (D : Where) (w : World) (x : StateD) (e : Ending) (u : World) : Prop := ∃ g0 g1 g2 g3 g4 g5, e = .returned (.agg #[g0, g1, g2, g3, g4, g5]) ∧ StR D w u g0 g1 g2 g3 g4 g5 x
set_option maxHeartbeats 16000000 in
theorem own_calls (D : Where) (cs : List Value) (x : StateD) (w : World) (h : Hid (RState D w cs x)) : Calls Tryz.prog 37 #[.agg cs.toArray] w (OwOut D w x) := by
  obtain ⟨⟨a0, n0, m0⟩, ⟨a1, n1, m1⟩, ⟨a2, n2, m2⟩, ⟨a3, n3, m3⟩, ⟨a4, n4, m4⟩, ⟨a5, n5, m5⟩, rfl, s0, s1, s2, s3, s4, s5⟩ := h.out.out
  simp only at s0 s1 s2 s3 s4 s5
  obtain ⟨W1, hW1⟩ : ∃ W, W = (w.alloc (.cells #[.slice a0 n0 m0, .slice a1 n1 m1, .slice a2 n2 m2, .slice a3 n3 m3, .slice a4 n4 m4, .slice a5 n5 m5] 29)).alloc (.cells #[.slice none 0 0, .slice none 0 0, .slice none 0 0, .slice none 0 0, .slice none 0 0, .slice none 0 0] 29) := ⟨_, rfl⟩
  have B1 : Below w.heap.size w W1 := by rw [hW1]; go_grown
  have q1 : BoxL W1 w.heap.size [.slice a0 n0 m0, .slice a1 n1 m1, .slice a2 n2 m2, .slice a3 n3 m3, .slice a4 n4 m4, .slice a5 n5 m5] := by rw [hW1]; exact (BoxL.new w 29 _).on ((Below.refl _ _).alloc (Nat.le_refl _) _)
  have q2 : BoxL W1 (w.heap.size + 1) [.slice none 0 0, .slice none 0 0, .slice none 0 0, .slice none 0 0, .slice none 0 0, .slice none 0 0] := by rw [hW1]; have := BoxL.new (w.alloc (.cells #[.slice a0 n0 m0, .slice a1 n1 m1, .slice a2 n2 m2, .slice a3 n3 m3, .slice a4 n4 m4, .slice a5 n5 m5] 29)) 29 [.slice none 0 0, .slice none 0 0, .slice none 0 0, .slice none 0 0, .slice none 0 0, .slice none 0 0]; simpa using this
  have HQ : Hid (∀ z, Kept (fun b => b = w.heap.size) W1 z → z.cell? ⟨w.heap.size, 0, none⟩ = some (.slice a0 n0 m0) ∧ z.cell? ⟨w.heap.size, 1, none⟩ = some (.slice a1 n1 m1) ∧ z.cell? ⟨w.heap.size, 2, none⟩ = some (.slice a2 n2 m2) ∧ z.cell? ⟨w.heap.size, 3, none⟩ = some (.slice a3 n3 m3) ∧ z.cell? ⟨w.heap.size, 4, none⟩ = some (.slice a4 n4 m4) ∧ z.cell? ⟨w.heap.size, 5, none⟩ = some (.slice a5 n5 m5)) := fun z hb => ⟨((q1.kept hb rfl).2 0 _ rfl).1, ((q1.kept hb rfl).2 1 _ rfl).1, ((q1.kept hb rfl).2 2 _ rfl).1, ((q1.kept hb rfl).2 3 _ rfl).1, ((q1.kept hb rfl).2 4 _ rfl).1, ((q1.kept hb rfl).2 5 _ rfl).1⟩
  have S0 : Hid (∀ z, Below W1.heap.size W1 z → SlAt RPod 16 296 (fun b => D b ∧ b < w.heap.size) z a0 n0 m0 x.1) := fun z hb => (s0.weak RPod.firm (fun b hb hd => ⟨hd, hb⟩)).on RPod.firm (on2 B1 hb)
  have S1 : Hid (∀ z, Below W1.heap.size W1 z → SlAt RNode 9 112 (fun b => D b ∧ b < w.heap.size) z a1 n1 m1 x.2.1) := fun z hb => (s1.weak RNode.firm (fun b hb hd => ⟨hd, hb⟩)).on RNode.firm (on2 B1 hb)
  have S2 : Hid (∀ z, Below W1.heap.size W1 z → SlAt RVolume 5 80 (fun b => D b ∧ b < w.heap.size) z a2 n2 m2 (sVs x)) := fun z hb => (s2.weak RVolume.firm (fun b hb hd => ⟨hd, hb⟩)).on RVolume.firm (on2 B1 hb)
  have S3 : Hid (∀ z, Below W1.heap.size W1 z → SlAt RClaim 4 56 (fun b => D b ∧ b < w.heap.size) z a3 n3 m3 (sCs x)) := fun z hb => (s3.weak RClaim.firm (fun b hb hd => ⟨hd, hb⟩)).on RClaim.firm (on2 B1 hb)
  have S4 : Hid (∀ z, Below W1.heap.size W1 z → SlAt RClass 2 24 (fun b => D b ∧ b < w.heap.size) z a4 n4 m4 (sKs x)) := fun z hb => (s4.weak RClass.firm (fun b hb hd => ⟨hd, hb⟩)).on RClass.firm (on2 B1 hb)
  have S5 : Hid (∀ z, Below W1.heap.size W1 z → SlAt RBudget 3 48 (fun b => D b ∧ b < w.heap.size) z a5 n5 m5 x.2.2.2.2.2) := fun z hb => (s5.weak RBudget.firm (fun b hb hd => ⟨hd, hb⟩)).on RBudget.firm (on2 B1 hb)
  have HB1 : Hid (Below w.heap.size w W1 ∧ BoxL W1 (w.heap.size + 1) [.slice none 0 0, .slice none 0 0, .slice none 0 0, .slice none 0 0, .slice none 0 0, .slice none 0 0] ∧ w.heap.size + 1 < W1.heap.size) := ⟨B1, q2, q2.1⟩
  clear h s0 s1 s2 s3 s4 s5 B1 q1 q2
  go_enter Tryz.func37, Tryz.ntmps37
  go_upto_region 1 with fail
  rw [← hW1]
  clear hW1
  refine t0 (fun z => Kept (fun b => b = w.heap.size) W1 z) (Kept.drew _ _) (fun hHeld => ?_)
  have hb0 : Below W1.heap.size W1 W1.drew := (Below.refl _ _).drew
  generalize hwd : W1.drew = wd at hHeld hb0 ⊢
  clear hwd
  try go_frame
  refine' tk 0 ?_ ?_; rotate_left
  · intro u hu; obtain ⟨f0, f1, f2, f3, f4, f5⟩ := HQ.out u hu; clear hu; go_simp; try with_reducible rfl
  try go_frame
  refine' tk 1 ?_ ?_; rotate_left
  · intro u hu; obtain ⟨f0, f1, f2, f3, f4, f5⟩ := HQ.out u hu; clear hu; go_simp; try with_reducible rfl
  try go_frame
  refine' tk 3 ?_ ?_; rotate_left
  · intro u hu; obtain ⟨f0, f1, f2, f3, f4, f5⟩ := HQ.out u hu; clear hu; go_simp; try with_reducible rfl
  try go_frame
  refine' tk 4 ?_ ?_; rotate_left
  · intro u hu; obtain ⟨f0, f1, f2, f3, f4, f5⟩ := HQ.out u hu; clear hu; go_simp; try with_reducible rfl
  try go_frame
  refine' tk 6 ?_ ?_; rotate_left
  · intro u hu; obtain ⟨f0, f1, f2, f3, f4, f5⟩ := HQ.out u hu; clear hu; go_simp; try with_reducible rfl
  try go_frame
  refine' tk 7 ?_ ?_; rotate_left
  · intro u hu; obtain ⟨f0, f1, f2, f3, f4, f5⟩ := HQ.out u hu; clear hu; go_simp; try with_reducible rfl
  try go_frame
  refine' tk 9 ?_ ?_; rotate_left
  · intro u hu; obtain ⟨f0, f1, f2, f3, f4, f5⟩ := HQ.out u hu; clear hu; go_simp; try with_reducible rfl
  try go_frame
  refine' tk 10 ?_ ?_; rotate_left
  · intro u hu; obtain ⟨f0, f1, f2, f3, f4, f5⟩ := HQ.out u hu; clear hu; go_simp; try with_reducible rfl
  try go_frame
  refine' tk 12 ?_ ?_; rotate_left
  · intro u hu; obtain ⟨f0, f1, f2, f3, f4, f5⟩ := HQ.out u hu; clear hu; go_simp; try with_reducible rfl
  try go_frame
  refine' tk 13 ?_ ?_; rotate_left
  · intro u hu; obtain ⟨f0, f1, f2, f3, f4, f5⟩ := HQ.out u hu; clear hu; go_simp; try with_reducible rfl
  try go_frame
  refine' tk 15 ?_ ?_; rotate_left
  · intro u hu; obtain ⟨f0, f1, f2, f3, f4, f5⟩ := HQ.out u hu; clear hu; go_simp; try with_reducible rfl
  try go_frame
  refine' tk 16 ?_ ?_; rotate_left
  · intro u hu; obtain ⟨f0, f1, f2, f3, f4, f5⟩ := HQ.out u hu; clear hu; go_simp; try with_reducible rfl
  try go_frame
  have hC := ClonePod10 a0 n0 m0 _ x.1 wd (S0.out wd hb0)
  refine tr 2 (fun K hK => ?_)
  go_simp
  refine hC.mono ?_
  rintro e u0 ⟨g0, rfl, r0⟩
  clear hC
  have d0 := r0.below
  have hc0 : Below W1.heap.size W1 u0 := on2 hb0 d0
  have o0 : ∀ b, g0.ownBlock = some b → wd.heap.size ≤ b ∧ b < u0.heap.size := fun b hb => r0.lt hb
  have r0 : Row RPod 16 (fun b => D b ∧ b < w.heap.size) w u0 61 g0 x.1 := r0.from RPod.firm (on2 HB1.out.1 hb0) (fun b hb => hb.1)
  obtain ⟨b0, k0, c0, rfl⟩ := r0.head
  go_wp2_with fail
  refine hK.out _ _ (Kept.below hc0) (fun hHeld2 => ?_)
  clear hK K hHeld; have hHeld := hHeld2; clear hHeld2
  try go_frame
  have hC := CloneNode10 a1 n1 m1 _ x.2.1 u0 (S1.out u0 hc0)
  refine tr 5 (fun K hK => ?_)
  go_simp
  refine hC.mono ?_
  rintro e u1 ⟨g1, rfl, r1⟩
  clear hC
  have d1 := r1.below
  have hc1 : Below W1.heap.size W1 u1 := on2 hc0 d1
  have o1 : ∀ b, g1.ownBlock = some b → u0.heap.size ≤ b ∧ b < u1.heap.size := fun b hb => r1.lt hb
  have r1 : Row RNode 9 (fun b => D b ∧ b < w.heap.size) w u1 64 g1 x.2.1 := r1.from RNode.firm (on2 HB1.out.1 hc0) (fun b hb => hb.1)
  have r0 := r0.on RPod.firm d1
  obtain ⟨b1, k1, c1, rfl⟩ := r1.head
  go_wp2_with fail
  refine hK.out _ _ (Kept.below hc1) (fun hHeld2 => ?_)
  clear hK K hHeld; have hHeld := hHeld2; clear hHeld2
  try go_frame
  have hC := CloneVolume10 a2 n2 m2 _ (sVs x) u1 (S2.out u1 hc1)
  refine tr 8 (fun K hK => ?_)
  go_simp
  refine hC.mono ?_
  rintro e u2 ⟨g2, rfl, r2⟩
  clear hC
  have d2 := r2.below
  have hc2 : Below W1.heap.size W1 u2 := on2 hc1 d2
  have o2 : ∀ b, g2.ownBlock = some b → u1.heap.size ≤ b ∧ b < u2.heap.size := fun b hb => r2.lt hb
  have r2 : Row RVolume 5 (fun b => D b ∧ b < w.heap.size) w u2 49 g2 (sVs x) := r2.from RVolume.firm (on2 HB1.out.1 hc1) (fun b hb => hb.1)
  have r0 := r0.on RPod.firm d2
  have r1 := r1.on RNode.firm d2
  obtain ⟨b2, k2, c2, rfl⟩ := r2.head
  go_wp2_with fail
  refine hK.out _ _ (Kept.below hc2) (fun hHeld2 => ?_)
  clear hK K hHeld; have hHeld := hHeld2; clear hHeld2
  try go_frame
  have hC := CloneClaim10 a3 n3 m3 _ (sCs x) u2 (S3.out u2 hc2)
  refine tr 11 (fun K hK => ?_)
  go_simp
  refine hC.mono ?_
  rintro e u3 ⟨g3, rfl, r3⟩
  clear hC
  have d3 := r3.below
  have hc3 : Below W1.heap.size W1 u3 := on2 hc2 d3
  have o3 : ∀ b, g3.ownBlock = some b → u2.heap.size ≤ b ∧ b < u3.heap.size := fun b hb => r3.lt hb
  have r3 : Row RClaim 4 (fun b => D b ∧ b < w.heap.size) w u3 44 g3 (sCs x) := r3.from RClaim.firm (on2 HB1.out.1 hc2) (fun b hb => hb.1)
  have r0 := r0.on RPod.firm d3
  have r1 := r1.on RNode.firm d3
  have r2 := r2.on RVolume.firm d3
  obtain ⟨b3, k3, c3, rfl⟩ := r3.head
  go_wp2_with fail
  refine hK.out _ _ (Kept.below hc3) (fun hHeld2 => ?_)
  clear hK K hHeld; have hHeld := hHeld2; clear hHeld2
  try go_frame
  have hC := CloneClass10 a4 n4 m4 _ (sKs x) u3 (S4.out u3 hc3)
  refine tr 14 (fun K hK => ?_)
  go_simp
  refine hC.mono ?_
  rintro e u4 ⟨g4, rfl, r4⟩
  clear hC
  have d4 := r4.below
  have hc4 : Below W1.heap.size W1 u4 := on2 hc3 d4
  have o4 : ∀ b, g4.ownBlock = some b → u3.heap.size ≤ b ∧ b < u4.heap.size := fun b hb => r4.lt hb
  have r4 : Row RClass 2 (fun b => D b ∧ b < w.heap.size) w u4 46 g4 (sKs x) := r4.from RClass.firm (on2 HB1.out.1 hc3) (fun b hb => hb.1)
  have r0 := r0.on RPod.firm d4
  have r1 := r1.on RNode.firm d4
  have r2 := r2.on RVolume.firm d4
  have r3 := r3.on RClaim.firm d4
  obtain ⟨b4, k4, c4, rfl⟩ := r4.head
  go_wp2_with fail
  refine hK.out _ _ (Kept.below hc4) (fun hHeld2 => ?_)
  clear hK K hHeld; have hHeld := hHeld2; clear hHeld2
  try go_frame
  have hC := CloneBudget10 a5 n5 m5 _ x.2.2.2.2.2 u4 (S5.out u4 hc4)
  refine tr 17 (fun K hK => ?_)
  go_simp
  refine hC.mono ?_
  rintro e u5 ⟨g5, rfl, r5⟩
  clear hC
  have d5 := r5.below
  have hc5 : Below W1.heap.size W1 u5 := on2 hc4 d5
  have o5 : ∀ b, g5.ownBlock = some b → u4.heap.size ≤ b ∧ b < u5.heap.size := fun b hb => r5.lt hb
  have r5 : Row RBudget 3 (fun b => D b ∧ b < w.heap.size) w u5 79 g5 x.2.2.2.2.2 := r5.from RBudget.firm (on2 HB1.out.1 hc4) (fun b hb => hb.1)
  have r0 := r0.on RPod.firm d5
  have r1 := r1.on RNode.firm d5
  have r2 := r2.on RVolume.firm d5
  have r3 := r3.on RClaim.firm d5
  have r4 := r4.on RClass.firm d5
  obtain ⟨b5, k5, c5, rfl⟩ := r5.head
  go_wp2_with fail
  refine hK.out _ _ (Kept.below hc5) (fun hHeld2 => ?_)
  clear hK K hHeld; have hHeld := hHeld2; clear hHeld2
  try go_frame
  refine' tk 18 ?_ ?_; rotate_left
  · intro u hu; clear hu; go_simp; try with_reducible rfl
  try go_frame
  obtain ⟨U, hU⟩ : ∃ U, U = u5.setCells (w.heap.size + 1) 0 [.slice b0 k0 c0, .slice b1 k1 c1, .slice b2 k2 c2, .slice b3 k3 c3, .slice b4 k4 c4, .slice b5 k5 c5] := ⟨_, rfl⟩
  have z5 : BoxL u5 (w.heap.size + 1) _ := HB1.out.2.1.on hc5
  refine ts 19 (fun K hK => ?_)
  refine want_yes (by rfl) (wp_store_mid 29 _ _ rfl (w.heap.size + 1) 0 #[.slice b0 k0 c0, .slice b1 k1 c1, .slice b2 k2 c2, .slice b3 k3 c3, .slice b4 k4 c4, .slice b5 k5 c5] rfl rfl z5.there infoSta (by simp [Value.oneCell']) ?_)
  have kU : Kept (fun b => b ≠ w.heap.size + 1) u5 U := by rw [hU]; exact kept_setCells (fun h => h rfl)
  have hl1 := HB1.out.2.2
  have bU : Below w.heap.size w U := by rw [hU]; exact below_setCells (on2 HB1.out.1 hc5) (by omega)
  have qU : BoxL U (w.heap.size + 1) [.slice b0 k0 c0, .slice b1 k1 c1, .slice b2 k2 c2, .slice b3 k3 c3, .slice b4 k4 c4, .slice b5 k5 c5] := by rw [hU]; exact box_over8 z5 rfl
  have eU : U = u5.setCells (w.heap.size + 1) 0 (#[.slice b0 k0 c0, .slice b1 k1 c1, .slice b2 k2 c2, .slice b3 k3 c3, .slice b4 k4 c4, .slice b5 k5 c5] : Array Value).toList := by rw [hU]
  have e0 := hb0.size
  have e1 := d0.size
  have e2 := d1.size
  have e3 := d2.size
  have e4 := d3.size
  have e5 := d4.size
  have e6 := d5.size
  have HF : Hid (StR D w U (.slice b0 k0 c0) (.slice b1 k1 c1) (.slice b2 k2 c2) (.slice b3 k3 c3) (.slice b4 k4 c4) (.slice b5 k5 c5) x) := ⟨r0.keptX RPod.firm bU (kU.weak (fun b hb e => hb.elim (fun h9 => by have h8 : b < w.heap.size := h9.2; omega) (fun h9 => by have := o0 b h9; omega))), r1.keptX RNode.firm bU (kU.weak (fun b hb e => hb.elim (fun h9 => by have h8 : b < w.heap.size := h9.2; omega) (fun h9 => by have := o1 b h9; omega))), r2.keptX RVolume.firm bU (kU.weak (fun b hb e => hb.elim (fun h9 => by have h8 : b < w.heap.size := h9.2; omega) (fun h9 => by have := o2 b h9; omega))), r3.keptX RClaim.firm bU (kU.weak (fun b hb e => hb.elim (fun h9 => by have h8 : b < w.heap.size := h9.2; omega) (fun h9 => by have := o3 b h9; omega))), r4.keptX RClass.firm bU (kU.weak (fun b hb e => hb.elim (fun h9 => by have h8 : b < w.heap.size := h9.2; omega) (fun h9 => by have := o4 b h9; omega))), r5.keptX RBudget.firm bU (kU.weak (fun b hb e => hb.elim (fun h9 => by have h8 : b < w.heap.size := h9.2; omega) (fun h9 => by have := o5 b h9; omega))), fun b hb => by have h0 := o2 b hb; exact ⟨fun e => by have := o0 b e; omega, fun e => by have := o1 b e; omega, fun e => by have := o3 b e; omega, fun e => by have := o4 b e; omega, fun e => by have := o5 b e; omega⟩, fun b hb => by have h0 := o3 b hb; exact ⟨fun e => by have := o0 b e; omega, fun e => by have := o1 b e; omega, fun e => by have := o2 b e; omega, fun e => by have := o4 b e; omega, fun e => by have := o5 b e; omega⟩⟩
  rw [← eU]
  refine hK.out _ _ ((Kept.below hc5).trans (kU.weak (fun b e => by omega))) (fun hHeld2 => ?_)
  clear hK K hHeld; have hHeld := hHeld2; clear hHeld2
  try go_frame
  refine tz ?_
  have t0' := (qU.2 0 _ rfl).1
  have t1' := (qU.2 1 _ rfl).1
  have t2' := (qU.2 2 _ rfl).1
  have t3' := (qU.2 3 _ rfl).1
  have t4' := (qU.2 4 _ rfl).1
  have t5' := (qU.2 5 _ rfl).1
  clear hU eU kU bU qU z5 r0 o0 d0 hc0 r1 o1 d1 hc1 r2 o2 d2 hc2 r3 o3 d3 hc3 r4 o4 d4 hc4 r5 o5 d5 hc5
  go_wp2_with fail
  refine bodyPost_ret (v := .agg #[.slice b0 k0 c0, .slice b1 k1 c1, .slice b2 k2 c2, .slice b3 k3 c3, .slice b4 k4 c4, .slice b5 k5 c5]) (by simp [results, Tryz.results37, go_sem, t0', t1', t2', t3', t4', t5', Result.andThen]) rfl ?_
  exact ⟨_, _, _, _, _, _, rfl, HF.out⟩
end Go.Proofs.YtmnldngojgldiaaGreat
namespace Go.Proofs.YtmnldngojgldiaaGreat
open Go.RowKit
set_option linter.unusedSimpArgs false
set_option maxRecDepth 100000

theorem filter_take9 {α : Type} [Inhabited α] (f : α → Bool) {L : List α} {k : Nat} (h : k < L.length) : ((L.take (k + 1)).filter f).length = ((L.take k).filter f).length + (if f (L.getD k default) = true then 1 else 0) := by
  rw [List.take_succ_eq_append_getElem h, List.filter_append, List.length_append, List.getD_eq_getElem?_getD, List.getElem?_eq_getElem h]
  simp only [Option.getD_some]
  generalize L[k] = y
  congr 1
  simp only [List.filter_cons, List.filter_nil]
  split <;> rfl
theorem below_drewN9 (u : World) (n : Nat) : Below u.heap.size u (u.drewN n) := ⟨rfl, rfl, rfl, Nat.le_refl _, fun _ _ => rfl⟩
theorem isE9 (a : ByteArray) : a.toList.isEmpty = sEq a B0 := by
  unfold sEq
  rw [show (B0 : ByteArray).toList = [] by rw [ByteArray.toList_eq]]
  cases a.toList <;> rfl
/-- A state's box: its six lists. -/
def StC (D : Nat) (a0 a1 a2 a3 a4 a5 : Option Addr) (n0 n1 n2 n3 n4 n5 m0 m1 m2 m3 m4 m5 : Nat) (u : World) : Prop :=
  u.cell? ⟨D, 0, none⟩ = some (.slice a0 n0 m0) ∧ u.cell? ⟨D, 1, none⟩ = some (.slice a1 n1 m1) ∧ u.cell? ⟨D, 2, none⟩ = some (.slice a2 n2 m2) ∧ u.cell? ⟨D, 3, none⟩ = some (.slice a3 n3 m3) ∧ u.cell? ⟨D, 4, none⟩ = some (.slice a4 n4 m4) ∧ u.cell? ⟨D, 5, none⟩ = some (.slice a5 n5 m5)
theorem StC.of {D : Nat} {a0 a1 a2 a3 a4 a5 : Option Addr} {n0 n1 n2 n3 n4 n5 m0 m1 m2 m3 m4 m5 : Nat} {u : World} (h : BoxL u D [.slice a0 n0 m0, .slice a1 n1 m1, .slice a2 n2 m2, .slice a3 n3 m3, .slice a4 n4 m4, .slice a5 n5 m5]) : StC D a0 a1 a2 a3 a4 a5 n0 n1 n2 n3 n4 n5 m0 m1 m2 m3 m4 m5 u :=
  ⟨(h.2 0 _ rfl).1, (h.2 1 _ rfl).1, (h.2 2 _ rfl).1, (h.2 3 _ rfl).1, (h.2 4 _ rfl).1, (h.2 5 _ rfl).1⟩
theorem RClaim.four {A : Where} {w : World} {cs : List Value} {c : ClaimD} (h : RClaim A w cs c) : cs[0]? = some (.string c.1) ∧ cs[1]? = some (.int .i64 c.2.1) ∧ cs[2]? = some (.string c.2.2.1) ∧ cs[3]? = some (.string (cVo c)) := by
  obtain ⟨rfl, _⟩ := h.out
  exact ⟨rfl, rfl, rfl, rfl⟩
theorem RVolume.five {A : Where} {w : World} {cs : List Value} {v : VolumeD} (h : RVolume A w cs v) : cs[0]? = some (.string v.1) ∧ cs[1]? = some (.int .i64 v.2.1) ∧ cs[2]? = some (.string v.2.2.1) ∧ cs[4]? = some (.string (vCl v)) := by
  obtain ⟨_, rfl, _⟩ := h.out
  exact ⟨rfl, rfl, rfl, rfl⟩
abbrev stVC (x : StateD) : VC := (sVs x, sCs x)
end Go.Proofs.YtmnldngojgldiaaGreat
namespace Go.Proofs.YtmnldngojgldiaaGreat
open Go.RowKit Go.Maps
set_option linter.unusedSimpArgs false
set_option maxRecDepth 100000

theorem RVolume.all10 {A : Where} {w : World} {cs : List Value} {v : VolumeD} (h : RVolume A w cs v) : cs[0]? = some (.string v.1) ∧ cs[1]? = some (.int .i64 v.2.1) ∧ cs[2]? = some (.string v.2.2.1) ∧ (∃ h3 : Hd, cs[3]? = some (.slice h3.1 h3.2.1 h3.2.2) ∧ SlAt RReq 3 48 A w h3.1 h3.2.1 h3.2.2 (vRq v)) ∧ cs[4]? = some (.string (vCl v)) := by
  obtain ⟨⟨a, b, c⟩, rfl, _, _, h4, _⟩ := h.out
  exact ⟨rfl, rfl, rfl, ⟨(a, b, c), rfl, h4⟩, rfl⟩
theorem RClaim.all10 {A : Where} {w : World} {cs : List Value} {c : ClaimD} (h : RClaim A w cs c) : cs[0]? = some (.string c.1) ∧ cs[1]? = some (.int .i64 c.2.1) ∧ cs[2]? = some (.string c.2.2.1) ∧ cs[3]? = some (.string (cVo c)) ∧ c.1.size ≤ 140737488355328 ∧ c.2.2.1.size ≤ 140737488355328 ∧ (cVo c).size ≤ 140737488355328 := by
  obtain ⟨rfl, h1, h2, h3⟩ := h.out
  exact ⟨rfl, rfl, rfl, rfl, h1, h2, h3⟩
set_option maxHeartbeats 1000000 in
theorem isFree_calls (cs : List Value) (A : Where) (v : VolumeD) (w : World) (h : RVolume A w cs v) : Calls Tryz.prog 33 #[.agg cs.toArray] w fun e w' => e = .returned (.bool (sEq (vCl v) B0)) ∧ Below w.heap.size w w' := by
  obtain ⟨W1, hW1⟩ : ∃ W, W = w.alloc (.cells cs.toArray 49) := ⟨_, rfl⟩
  have B1 : Below w.heap.size w W1 := by rw [hW1]; go_grown
  have c4 : W1.cell? ⟨w.heap.size, 4, none⟩ = some (.string (vCl v)) := by rw [hW1]; exact ((BoxL.new w 49 cs).2 4 _ h.all10.2.2.2.2).1
  clear h
  generalize vCl v = s at c4
  have hq : s.toList.isEmpty = sEq s B0 := isE9 s
  generalize sEq s B0 = b at hq
  go_enter Tryz.func33, Tryz.ntmps33
  go_upto_region 1 with fail
  rw [← hW1]
  clear hW1
  go_wp2_with fail
  go_ret
  exact ⟨by simp [hq], B1⟩
set_option maxHeartbeats 1000000 in
theorem hasVolume_calls (cs : List Value) (A : Where) (c : ClaimD) (w : World) (h : RClaim A w cs c) : Calls Tryz.prog 30 #[.agg cs.toArray] w fun e w' => e = .returned (.bool (!sEq (cVo c) B0)) ∧ Below w.heap.size w w' := by
  obtain ⟨W1, hW1⟩ : ∃ W, W = w.alloc (.cells cs.toArray 44) := ⟨_, rfl⟩
  have B1 : Below w.heap.size w W1 := by rw [hW1]; go_grown
  have c4 : W1.cell? ⟨w.heap.size, 3, none⟩ = some (.string (cVo c)) := by rw [hW1]; exact ((BoxL.new w 44 cs).2 3 _ h.all10.2.2.2.1).1
  clear h
  generalize cVo c = s at c4
  have hq : s.toList.isEmpty = sEq s B0 := isE9 s
  generalize sEq s B0 = b at hq
  go_enter Tryz.func30, Tryz.ntmps30
  go_upto_region 1 with fail
  rw [← hW1]
  clear hW1
  go_wp2_with fail
  go_ret
  exact ⟨by simp [hq], B1⟩
set_option maxHeartbeats 2000000 in
theorem suits_calls (vs : List Value) (A : Where) (v : VolumeD) (cs : List Value) (A' : Where) (c : ClaimD) (w : World) (h : RVolume A w vs v) (hc : RClaim A' w cs c) : Calls Tryz.prog 39 #[.agg vs.toArray, .agg cs.toArray] w fun e w' => e = .returned (.bool (suitP c v)) ∧ Below w.heap.size w w' := by
  obtain ⟨W1, hW1⟩ : ∃ W, W = (w.alloc (.cells vs.toArray 49)).alloc (.cells cs.toArray 44) := ⟨_, rfl⟩
  have B1 : Below w.heap.size w W1 := by rw [hW1]; go_grown
  have q1 : BoxL W1 w.heap.size vs := by rw [hW1]; exact (BoxL.new w 49 vs).on ((Below.refl _ _).alloc (Nat.le_refl _) _)
  have q2 : BoxL W1 (w.heap.size + 1) cs := by rw [hW1]; have := BoxL.new (w.alloc (.cells vs.toArray 49)) 44 cs; simpa using this
  obtain ⟨_, v1, v2, _, _⟩ := h.all10
  obtain ⟨_, c1, c2, _, _⟩ := hc.all10
  have d1 := (q1.2 1 _ v1).1
  have d2 := (q1.2 2 _ v2).1
  have e1 := (q2.2 1 _ c1).1
  have e2 := (q2.2 2 _ c2).1
  have hS : Hid (suitP c v = (sEq v.2.2.1 c.2.2.1 && decide (c.2.1 ≤ v.2.1))) := rfl
  clear h hc q1 q2 v1 v2 c1 c2
  generalize suitP c v = r at hS
  generalize v.2.2.1 = s at d2 hS
  generalize c.2.2.1 = t at e2 hS
  generalize v.2.1 = x at d1 hS
  generalize c.2.1 = y at e1 hS
  have hq : (s.toList == t.toList) = sEq s t := rfl
  cases hb : sEq s t
  · rw [hb] at hq hS
    obtain rfl : r = false := by simpa using hS.out
    go_enter Tryz.func39, Tryz.ntmps39
    go_upto_region 1 with fail
    rw [← hW1]
    clear hW1
    go_wp2_with fail
    go_ret
    exact ⟨rfl, B1⟩
  · rw [hb] at hq hS
    have hr : r = decide (y ≤ x) := by simpa using hS.out
    clear hS
    go_enter Tryz.func39, Tryz.ntmps39
    go_upto_region 1 with fail
    rw [← hW1]
    clear hW1
    go_wp2_with fail
    go_ret
    exact ⟨by rw [hr]; rfl, B1⟩
end Go.Proofs.YtmnldngojgldiaaGreat
namespace Go.Proofs.YtmnldngojgldiaaGreat
open Go.RowKit
set_option linter.unusedSimpArgs false

section
variable {α : Type} [Inhabited α] {R : Rep α} {k : Nat}
/-- A block's cells behind a store. -/
theorem heap_setCell10 {u : World} {g o : Nat} {cur : Array Value} {T : TypeId} {val : Value} (hg : u.heap[g]? = some (.cells cur T (0, 0))) : (u.setCell ⟨g, o, none⟩ val).heap[g]? = some (.cells (cur.setIfInBounds o val) T (0, 0)) := by
  have hlt : g < u.heap.size := (Array.getElem?_eq_some_iff.1 hg).1
  have hge : u.heap[g] = .cells cur T (0, 0) := (Array.getElem?_eq_some_iff.1 hg).2
  simp [World.setCell, hg, hlt, World.putObj, Array.getElem_modify, hge]
/-- One cell of a member. -/
theorem Row.set1 (hR : Firm R k) {A : Where} {w0 u : World} {e : TypeId} {g cap i j : Nat} {L : List α} {val : Value} {x : α} (h : Row R k A w0 u e (.slice (some ⟨g, 0, none⟩) L.length cap) L) (hi : i < L.length) (hj : j < k)
    (hx : ∀ B cs, R B u cs (L.getD i default) → R B u (cs.set j val) x) : Row R k A w0 (u.setCell ⟨g, i * k + j, none⟩ val) e (.slice (some ⟨g, 0, none⟩) L.length cap) (L.set i x) := by
  obtain ⟨xs, ⟨hb, hl, ⟨e1, _⟩ | ⟨g', cap', cur, e1, hBg, hg, hcp, hcm, hsz, htk⟩⟩, hch⟩ := h
  · cases e1
  simp only [Value.slice.injEq, Option.some.injEq, Addr.mk.injEq, and_true, true_and] at e1
  obtain ⟨rfl, rfl⟩ := e1
  have hkn : (i + 1) * k ≤ L.length * k := Nat.mul_le_mul_right k hi
  have hkc : L.length * k ≤ cap * k := Nat.mul_le_mul_right k hcp
  rw [Nat.add_mul, Nat.one_mul] at hkn
  have hxl : xs.length = L.length * k := hl
  refine ⟨xs.set (i * k + j) val, ⟨hb.setCell (p := ⟨g, i * k + j, none⟩) hBg val, ?_⟩, ?_⟩
  · rw [List.length_set]
    refine ⟨by rw [List.length_set]; exact hl, .inr ⟨g, cap, cur.setIfInBounds (i * k + j) val, rfl, hBg, heap_setCell10 hg, hcp, hcm, by simpa using hsz, ?_⟩⟩
    rw [Array.toList_setIfInBounds, List.take_set, htk]
  · have k1 : Kept (fun b => A b ∧ Value.ownBlock (.slice (some ⟨g, 0, none⟩) L.length cap) ≠ some b) u (u.setCell ⟨g, i * k + j, none⟩ val) := Kept.set (p := ⟨g, i * k + j, none⟩) (fun h => h.2 rfl) val
    refine ⟨by simp only [List.length_set]; exact hxl, fun m hm => ?_⟩
    rw [List.length_set] at hm
    obtain ⟨cs, h1, h2⟩ := hch.2 m hm
    by_cases hmi : m = i
    · subst hmi
      refine ⟨cs.set j val, ?_, fun q hq => ?_⟩
      · have e3 : (L.set m x).getD m default = x := by simp [List.getD_eq_getElem?_getD, hm]
        rw [e3]
        exact hR.kept (hx _ cs h1) k1
      · have hcl := hR.len h1
        rw [List.getElem?_set, List.getElem?_set]
        by_cases hqj : j = q
        · subst hqj
          rw [if_pos rfl, if_pos rfl, if_pos (by omega), if_pos (by omega)]
        · rw [if_neg (by omega), if_neg hqj]; exact h2 q hq
    · refine ⟨cs, ?_, fun q hq => ?_⟩
      · have e3 : (L.set i x).getD m default = L.getD m default := by simp [List.getD_eq_getElem?_getD, List.getElem?_set, Ne.symm hmi]
        rw [e3]
        exact hR.kept h1 k1
      · rw [List.getElem?_set, if_neg]
        · exact h2 q hq
        · intro e
          rcases Nat.lt_or_gt_of_ne hmi with hl | hl
          · have := Nat.mul_le_mul_right k (show m + 1 ≤ i from hl); rw [Nat.add_mul, Nat.one_mul] at this; omega
          · have := Nat.mul_le_mul_right k (show i + 1 ≤ m from hl); rw [Nat.add_mul, Nat.one_mul] at this; omega
/-- A row's block may be written. -/
theorem Row.melts {A : Where} {w0 u : World} {e : TypeId} {g n cap o : Nat} {L : List α} (h : Row R k A w0 u e (.slice (some ⟨g, 0, none⟩) n cap) L) : u.frozen? ⟨g, o, none⟩ = false := by
  obtain ⟨xs, ⟨hb, hl, ⟨e1, _⟩ | ⟨g', cap', cur, e1, hBg, hg, hcp, hcm, hsz, htk⟩⟩, hch⟩ := h
  · cases e1
  simp only [Value.slice.injEq, Option.some.injEq, Addr.mk.injEq, and_true, true_and] at e1
  obtain ⟨rfl, _, rfl⟩ := e1
  simp [World.frozen?, hg]
end
theorem RClaim.set10 {B : Where} {u : World} {cs : List Value} {c : ClaimD} {s : ByteArray} (h : RClaim B u cs c) (hs : s.size ≤ 140737488355328) : RClaim B u (cs.set 3 (.string s)) (setVo c s) := by
  obtain ⟨rfl, h1, h2, h3⟩ := h.out
  exact ⟨[_], _, rfl, ⟨rfl, h1⟩, [_], _, rfl, rfl, [_], _, rfl, ⟨rfl, h2⟩, rfl, hs⟩
theorem RVolume.set10 {B : Where} {u : World} {cs : List Value} {v : VolumeD} {s : ByteArray} (h : RVolume B u cs v) (hs : s.size ≤ 140737488355328) : RVolume B u (cs.set 4 (.string s)) (setCl v s) := by
  obtain ⟨⟨a, b, c⟩, rfl, h1, h2, h4, h5⟩ := h.out
  exact ⟨[_], _, rfl, ⟨rfl, h1⟩, [_], _, rfl, rfl, [_], _, rfl, ⟨rfl, h2⟩, [_], _, rfl, ⟨a, b, c, rfl, h4⟩, rfl, hs⟩
end Go.Proofs.YtmnldngojgldiaaGreat
namespace Go.Proofs.YtmnldngojgldiaaGreat
open Go.RowKit
set_option linter.unusedSimpArgs false

/-- A member of a row, and where it lies. -/
theorem Row.get11 {α : Type} [Inhabited α] {R : Rep α} {k : Nat} (hR : Firm R k) {A : Where} {w0 u : World} {e : TypeId} {v : Value} {L : List α} (h : Row R k A w0 u e v L) {i : Nat} (hi : i < L.length) : ∃ g c cs, v = .slice (some ⟨g, 0, none⟩) L.length c ∧ g < u.heap.size ∧ w0.heap.size ≤ g ∧ R (fun b => A b ∧ v.ownBlock ≠ some b) u cs (L.getD i default) ∧ u.rangeAt g (i * k) cs := by
  obtain ⟨xs, h1, h2⟩ := h
  obtain ⟨cs, hr, hc⟩ := h2.2 i hi
  have h12 := h1.2
  obtain ⟨_, ⟨_, h0⟩ | ⟨g, cap, cur, rfl, hg, hh, hnc, _, hcs, htk⟩⟩ := h1.2
  · omega
  refine ⟨g, cap, cs, rfl, (Array.getElem?_eq_some_iff.1 hh).1, hg, hr, fun j y hj => ?_⟩
  have hjk : j < k := by have := (List.getElem?_eq_some_iff.1 hj).1; rwa [hR.len hr] at this
  have hle : (i + 1) * k ≤ L.length * k := Nat.mul_le_mul_right k hi
  rw [Nat.add_mul, Nat.one_mul] at hle
  rw [h12.cellAt (i * k + j) (by omega), hc j hjk]
  exact hj
/-- How the volumes and the claims lie. -/
def DnR (m : Nat) (w0 u : World) (g2 g3 : Value) (st : VC) : Prop :=
  Row RVolume 5 (fun b => b < m) w0 u 49 g2 st.1 ∧ Row RClaim 4 (fun b => b < m) w0 u 44 g3 st.2 ∧ (∀ b, g2.ownBlock = some b → g3.ownBlock ≠ some b) ∧ m ≤ w0.heap.size
theorem DnR.on {m : Nat} {w0 u u' : World} {g2 g3 : Value} {st : VC} (h : DnR m w0 u g2 g3 st) (hb : Below u.heap.size u u') : DnR m w0 u' g2 g3 st := ⟨h.1.on RVolume.firm hb, h.2.1.on RClaim.firm hb, h.2.2⟩
/-- What a step wants, and what it leaves. -/
theorem DnR.step {m : Nat} {w0 u : World} {g2 g3 : Value} {st : VC} (h : DnR m w0 u g2 g3 st) {c v : Nat} (hc : c < st.2.length) (hv : v < st.1.length) :
    ∃ Bc capc Bv capv cs vs A A', g3 = .slice (some ⟨Bc, 0, none⟩) st.2.length capc ∧ g2 = .slice (some ⟨Bv, 0, none⟩) st.1.length capv ∧
      RClaim A u cs (st.2.getD c default) ∧ RVolume A' u vs (st.1.getD v default) ∧ u.rangeAt Bc (c * 4) cs ∧ u.rangeAt Bv (v * 5) vs ∧ Bc < u.heap.size ∧ Bv < u.heap.size ∧ Bc ≠ Bv ∧
      u.frozen? ⟨Bc, c * 4 + 3, none⟩ = false ∧ u.frozen? ⟨Bv, v * 5 + 4, none⟩ = false ∧ w0.heap.size ≤ Bc ∧ w0.heap.size ≤ Bv ∧
      ∀ z s s', Below u.heap.size u z → s.size ≤ 140737488355328 → s'.size ≤ 140737488355328 →
        DnR m w0 ((z.setCell ⟨Bc, c * 4 + 3, none⟩ (.string s)).setCell ⟨Bv, v * 5 + 4, none⟩ (.string s')) g2 g3 (st.1.set v (setCl (st.1.getD v default) s'), st.2.set c (setVo (st.2.getD c default) s)) ∧
        Kept (fun b => b ≠ Bc ∧ b ≠ Bv) z ((z.setCell ⟨Bc, c * 4 + 3, none⟩ (.string s)).setCell ⟨Bv, v * 5 + 4, none⟩ (.string s')) ∧
        Below w0.heap.size w0 ((z.setCell ⟨Bc, c * 4 + 3, none⟩ (.string s)).setCell ⟨Bv, v * 5 + 4, none⟩ (.string s')) := by
  obtain ⟨hV, hC, hne, hm⟩ := h
  obtain ⟨Bc, capc, cs, rfl, lc, wc, rc, gc⟩ := hC.get11 RClaim.firm hc
  obtain ⟨Bv, capv, vs, rfl, lv, wv, rv, gv⟩ := hV.get11 RVolume.firm hv
  have hB : Bc ≠ Bv := fun e => hne Bv rfl (by rw [← e]; rfl)
  refine ⟨Bc, capc, Bv, capv, cs, vs, _, _, rfl, rfl, rc, rv, gc, gv, lc, lv, hB, hC.melts, hV.melts, wc, wv, fun z s s' hz hs hs' => ?_⟩
  have C1 := (hC.on RClaim.firm hz).set1 RClaim.firm hc (j := 3) (val := .string s) (x := setVo (st.2.getD c default) s) (by omega) (fun B cs h => h.set10 hs)
  have K1 : Kept (fun b => b ≠ Bc) z (z.setCell ⟨Bc, c * 4 + 3, none⟩ (.string s)) := Kept.set (p := ⟨Bc, c * 4 + 3, none⟩) (fun h => h rfl) _
  have V1 := (hV.on RVolume.firm hz).keptX RVolume.firm C1.below (K1.weak (fun b hb => ?_))
  · have V2 := V1.set1 RVolume.firm hv (j := 4) (val := .string s') (x := setCl (st.1.getD v default) s') (by omega) (fun B cs h => h.set10 hs')
    have K2 : Kept (fun b => b ≠ Bv) (z.setCell ⟨Bc, c * 4 + 3, none⟩ (.string s)) ((z.setCell ⟨Bc, c * 4 + 3, none⟩ (.string s)).setCell ⟨Bv, v * 5 + 4, none⟩ (.string s')) := Kept.set (p := ⟨Bv, v * 5 + 4, none⟩) (fun h => h rfl) _
    refine ⟨⟨by simpa using V2, ?_, hne, hm⟩, (K1.weak (fun b hb => hb.1)).trans (K2.weak (fun b hb => hb.2)), V2.below⟩
    have C2 := C1.keptX RClaim.firm V2.below (K2.weak (fun b hb => ?_))
    · simpa using C2
    · rcases hb with hb | hb
      · intro e; omega
      · simp only [Value.ownBlock, Option.some.injEq] at hb; omega
  · rcases hb with hb | hb
    · intro e; omega
    · simp only [Value.ownBlock, Option.some.injEq] at hb; omega
end Go.Proofs.YtmnldngojgldiaaGreat
