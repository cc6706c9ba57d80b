/- Package fresh, at structs without members in their lists: the same comes back. Condition: none. -/
import Derived.Test.YtnlmipgmakmbiaaWFrN
namespace Go.Proofs.Ytnlmipgmakmbiaa
open Go.RowKit
set_option linter.unusedSimpArgs false
set_option maxRecDepth 100000

abbrev podZ : List Value := [.string ⟨#[]⟩, .int .i64 0, .slice none 0 0, .int .i64 0, .int .i64 0, .int .i64 0, .slice none 0 0, .slice none 0 0, .slice none 0 0, .slice none 0 0, .slice none 0 0, .slice none 0 0, .slice none 0 0, .slice none 0 0, .string ⟨#[]⟩, .string ⟨#[]⟩]
abbrev nodeZ : List Value := [.string ⟨#[]⟩, .slice none 0 0, .slice none 0 0, .bool false, .int .i64 0, .int .i64 0, .int .i64 0, .int .i64 0, .int .i64 0]
abbrev volumeZ : List Value := [.string ⟨#[]⟩, .int .i64 0, .string ⟨#[]⟩, .slice none 0 0, .string ⟨#[]⟩]
abbrev budgetZ : List Value := [.string ⟨#[]⟩, .slice none 0 0, .int .i64 0]
set_option maxHeartbeats 4000000 in
theorem fr_volume (w : World) : Calls Try.prog 40 #[.agg volumeZ.toArray] w fun e w' => e = .returned (.agg volumeZ.toArray) ∧ Below w.heap.size w w' := by
  go_enter Try.func40, Try.ntmps40
  go_wp2_with fail
  --M1
  refine (each_Req _).mono ?_
  rintro e w2 ⟨rfl, rfl⟩
  go_wp2_with fail
  --M2
  have q : BoxL ((w.alloc (.cells volumeZ.toArray 66)).alloc (.cells volumeZ.toArray 66)) (w.heap.size + 1) volumeZ := by have h := BoxL.new (w.alloc (.cells volumeZ.toArray 66)) 66 volumeZ; rwa [World.size_alloc] at h
  exact bodyPost_ret (v := .agg volumeZ.toArray) (res_cell (p := 2) (ty := 66) rfl _ _ (w.heap.size + 1) volumeZ _ rfl q.range Try.underlying66 rfl (by kernel_rfl)) rfl ⟨rfl, ((Below.refl _ _).alloc (Nat.le_refl _) _).alloc (by simp) _⟩

set_option maxHeartbeats 4000000 in
theorem fr_budget (w : World) : Calls Try.prog 41 #[.agg budgetZ.toArray] w fun e w' => e = .returned (.agg budgetZ.toArray) ∧ Below w.heap.size w w' := by
  go_enter Try.func41, Try.ntmps41
  go_wp2_with fail
  --M1
  refine (each_Req _).mono ?_
  rintro e w2 ⟨rfl, rfl⟩
  go_wp2_with fail
  --M2
  have q : BoxL ((w.alloc (.cells budgetZ.toArray 72)).alloc (.cells budgetZ.toArray 72)) (w.heap.size + 1) budgetZ := by have h := BoxL.new (w.alloc (.cells budgetZ.toArray 72)) 72 budgetZ; rwa [World.size_alloc] at h
  exact bodyPost_ret (v := .agg budgetZ.toArray) (res_cell (p := 2) (ty := 72) rfl _ _ (w.heap.size + 1) budgetZ _ rfl q.range Try.underlying72 rfl (by kernel_rfl)) rfl ⟨rfl, ((Below.refl _ _).alloc (Nat.le_refl _) _).alloc (by simp) _⟩

set_option maxHeartbeats 8000000 in
theorem fr_node (w : World) : Calls Try.prog 39 #[.agg nodeZ.toArray] w fun e w' => e = .returned (.agg nodeZ.toArray) ∧ Below w.heap.size w w' := by
  obtain ⟨W2, hW2⟩ : ∃ W, W = (w.alloc (.cells nodeZ.toArray 64)).alloc (.cells nodeZ.toArray 64) := ⟨_, rfl⟩
  have q2 : BoxL W2 w.heap.size nodeZ := by rw [hW2]; exact (BoxL.new w 64 nodeZ).on ((Below.refl _ _).alloc (Nat.le_refl _) _)
  have z2 : BoxL W2 (w.heap.size + 1) nodeZ := by have h := BoxL.new (w.alloc (.cells nodeZ.toArray 64)) 64 nodeZ; rw [World.size_alloc] at h; rw [hW2]; exact h
  have b2 : Below w.heap.size w W2 := by rw [hW2]; exact ((Below.refl _ _).alloc (Nat.le_refl _) _).alloc (by simp) _
  have HS : Hid (∀ z, Below W2.heap.size W2 z → z.cell? ⟨w.heap.size, 1, none⟩ = some (.slice none 0 0) ∧ z.cell? ⟨w.heap.size, 2, none⟩ = some (.slice none 0 0)) := fun z hz => ⟨((q2.on hz).2 1 _ rfl).1, ((q2.on hz).2 2 _ rfl).1⟩
  have HB : Hid (∀ z, Below W2.heap.size W2 z → BoxL z w.heap.size nodeZ ∧ BoxL z (w.heap.size + 1) nodeZ ∧ Below w.heap.size w z) := fun z hz => ⟨q2.on hz, z2.on hz, on2 b2 hz⟩
  clear q2 z2 b2
  go_enter Try.func39, Try.ntmps39
  go_wp2_with fail
  rw [← hW2]
  clear hW2
  obtain ⟨wz, hwz⟩ : ∃ z, z = W2 := ⟨_, rfl⟩
  have hb : Below W2.heap.size W2 wz := by rw [hwz]; exact Below.refl _ _
  rw [← hwz]
  clear hwz
  --R0
  have hb0 : Below W2.heap.size W2 wz.drew := on2 hb (Below.refl _ _).drew
  refine t0 (fun z => Below W2.heap.size W2 z) hb0 (fun hHeld => ?_)
  generalize hwd : wz.drew = wd at hHeld hb0 ⊢
  clear hwd hb
  try go_frame
  refine' tk 0 ?_ ?_; rotate_left
  · intro u hu; obtain ⟨f1, f2⟩ := HS.out u hu; clear hu; go_simp; try with_reducible rfl
  try go_frame
  refine' tk 1 ?_ ?_; rotate_left
  · intro u hu; obtain ⟨f1, f2⟩ := HS.out u hu; clear hu; go_simp; try with_reducible rfl
  try go_frame
  refine' tk 3 ?_ ?_; rotate_left
  · intro u hu; obtain ⟨f1, f2⟩ := HS.out u hu; clear hu; go_simp; try with_reducible rfl
  try go_frame
  refine' tk 4 ?_ ?_; rotate_left
  · intro u hu; obtain ⟨f1, f2⟩ := HS.out u hu; clear hu; go_simp; try with_reducible rfl
  try go_frame
  refine tr 2 (fun K hK => ?_)
  go_simp
  refine (flat_Label _).mono ?_
  rintro e z ⟨rfl, rfl⟩
  go_wp2_with fail
  refine hK.out _ _ hb0 (fun hHeld2 => ?_)
  clear hK K hHeld; have hHeld := hHeld2; clear hHeld2
  try go_frame
  refine' tk 6 ?_ ?_; rotate_left
  · intro u hu; obtain ⟨f1, f2⟩ := HS.out u hu; clear hu; go_simp; try with_reducible rfl
  try go_frame
  refine tr 5 (fun K hK => ?_)
  go_simp
  refine (flat_Taint _).mono ?_
  rintro e z ⟨rfl, rfl⟩
  go_wp2_with fail
  refine hK.out _ _ hb0 (fun hHeld2 => ?_)
  clear hK K hHeld; have hHeld := hHeld2; clear hHeld2
  try go_frame
  refine ts 7 (fun K hK => ?_)
  obtain ⟨d0, d1⟩ := (HB.out _ hb0).1.2 1 _ rfl
  go_simp
  rw [set_same13 d0]
  refine hK.out undef _ hb0 (fun hHeld2 => ?_)
  clear d0 d1
  clear hK K hHeld; have hHeld := hHeld2; clear hHeld2
  try go_frame
  refine' tk 8 ?_ ?_; rotate_left
  · intro u hu; obtain ⟨f1, f2⟩ := HS.out u hu; clear hu; go_simp; try with_reducible rfl
  try go_frame
  refine ts 9 (fun K hK => ?_)
  obtain ⟨d0, d1⟩ := (HB.out _ hb0).1.2 2 _ rfl
  go_simp
  rw [set_same13 d0]
  refine hK.out undef _ hb0 (fun hHeld2 => ?_)
  clear d0 d1
  clear hK K hHeld; have hHeld := hHeld2; clear hHeld2
  try go_frame
  refine tz ?_
  have hb := hb0
  clear hb0 hHeld
  --E
  have HQ : Hid (z.rangeAt w.heap.size 0 nodeZ) := (HB.out z hb).1.range
  have HZ : Hid (z.there (w.heap.size + 1) 0 nodeZ.toArray.size) := (HB.out z hb).2.1.there
  have HE : Hid (z.setCells (w.heap.size + 1) 0 nodeZ.toArray.toList = z) := sets_same13 _ _ _ (HB.out z hb).2.1.range
  have HR : Hid (z.rangeAt (w.heap.size + 1) 0 nodeZ) := (HB.out z hb).2.1.range
  have HW : Hid (Below w.heap.size w z) := (HB.out z hb).2.2
  clear HS HB hb
  go_wp2_with (first | (refine wpList_load_mid rfl 64 _ rfl w.heap.size 0 rfl nodeZ _ HQ.out Try.underlying64 rfl (by kernel_rfl) ?_) | (refine wpList_store_mid rfl 64 _ _ rfl (w.heap.size + 1) 0 nodeZ.toArray rfl rfl HZ.out (by kernel_rfl) (by simp [Value.oneCell']) ?_; rw [HE.out]) | fail)
  --F
  exact bodyPost_ret (v := .agg nodeZ.toArray) (res_cell (p := 2) (ty := 64) rfl _ _ (w.heap.size + 1) nodeZ _ rfl HR.out Try.underlying64 rfl (by kernel_rfl)) rfl ⟨rfl, HW.out⟩

set_option maxHeartbeats 8000000 in
theorem fr_pod (w : World) : Calls Try.prog 38 #[.agg podZ.toArray] w fun e w' => e = .returned (.agg podZ.toArray) ∧ Below w.heap.size w w' := by
  obtain ⟨W2, hW2⟩ : ∃ W, W = (w.alloc (.cells podZ.toArray 61)).alloc (.cells podZ.toArray 61) := ⟨_, rfl⟩
  have q2 : BoxL W2 w.heap.size podZ := by rw [hW2]; exact (BoxL.new w 61 podZ).on ((Below.refl _ _).alloc (Nat.le_refl _) _)
  have z2 : BoxL W2 (w.heap.size + 1) podZ := by have h := BoxL.new (w.alloc (.cells podZ.toArray 61)) 61 podZ; rw [World.size_alloc] at h; rw [hW2]; exact h
  have b2 : Below w.heap.size w W2 := by rw [hW2]; exact ((Below.refl _ _).alloc (Nat.le_refl _) _).alloc (by simp) _
  have HS : Hid (∀ z, Below W2.heap.size W2 z → z.cell? ⟨w.heap.size, 2, none⟩ = some (.slice none 0 0) ∧ z.cell? ⟨w.heap.size, 6, none⟩ = some (.slice none 0 0) ∧ z.cell? ⟨w.heap.size, 7, none⟩ = some (.slice none 0 0) ∧ z.cell? ⟨w.heap.size, 8, none⟩ = some (.slice none 0 0) ∧ z.cell? ⟨w.heap.size, 9, none⟩ = some (.slice none 0 0) ∧ z.cell? ⟨w.heap.size, 10, none⟩ = some (.slice none 0 0) ∧ z.cell? ⟨w.heap.size, 11, none⟩ = some (.slice none 0 0) ∧ z.cell? ⟨w.heap.size, 12, none⟩ = some (.slice none 0 0) ∧ z.cell? ⟨w.heap.size, 13, none⟩ = some (.slice none 0 0)) := fun z hz => ⟨((q2.on hz).2 2 _ rfl).1, ((q2.on hz).2 6 _ rfl).1, ((q2.on hz).2 7 _ rfl).1, ((q2.on hz).2 8 _ rfl).1, ((q2.on hz).2 9 _ rfl).1, ((q2.on hz).2 10 _ rfl).1, ((q2.on hz).2 11 _ rfl).1, ((q2.on hz).2 12 _ rfl).1, ((q2.on hz).2 13 _ rfl).1⟩
  have HB : Hid (∀ z, Below W2.heap.size W2 z → BoxL z w.heap.size podZ ∧ BoxL z (w.heap.size + 1) podZ ∧ Below w.heap.size w z) := fun z hz => ⟨q2.on hz, z2.on hz, on2 b2 hz⟩
  clear q2 z2 b2
  go_enter Try.func38, Try.ntmps38
  go_wp2_with fail
  rw [← hW2]
  clear hW2
  obtain ⟨wz, hwz⟩ : ∃ z, z = W2 := ⟨_, rfl⟩
  have hb : Below W2.heap.size W2 wz := by rw [hwz]; exact Below.refl _ _
  rw [← hwz]
  clear hwz
  --R0
  have hb0 : Below W2.heap.size W2 wz.drew := on2 hb (Below.refl _ _).drew
  refine t0 (fun z => Below W2.heap.size W2 z) hb0 (fun hHeld => ?_)
  generalize hwd : wz.drew = wd at hHeld hb0 ⊢
  clear hwd hb
  try go_frame
  refine' tk 0 ?_ ?_; rotate_left
  · intro u hu; obtain ⟨f2, f6, f7, f8, f9, f10, f11, f12, f13⟩ := HS.out u hu; clear hu; go_simp; try with_reducible rfl
  try go_frame
  refine' tk 1 ?_ ?_; rotate_left
  · intro u hu; obtain ⟨f2, f6, f7, f8, f9, f10, f11, f12, f13⟩ := HS.out u hu; clear hu; go_simp; try with_reducible rfl
  try go_frame
  refine' tk 3 ?_ ?_; rotate_left
  · intro u hu; obtain ⟨f2, f6, f7, f8, f9, f10, f11, f12, f13⟩ := HS.out u hu; clear hu; go_simp; try with_reducible rfl
  try go_frame
  refine' tk 4 ?_ ?_; rotate_left
  · intro u hu; obtain ⟨f2, f6, f7, f8, f9, f10, f11, f12, f13⟩ := HS.out u hu; clear hu; go_simp; try with_reducible rfl
  try go_frame
  refine' tk 6 ?_ ?_; rotate_left
  · intro u hu; obtain ⟨f2, f6, f7, f8, f9, f10, f11, f12, f13⟩ := HS.out u hu; clear hu; go_simp; try with_reducible rfl
  try go_frame
  refine' tk 7 ?_ ?_; rotate_left
  · intro u hu; obtain ⟨f2, f6, f7, f8, f9, f10, f11, f12, f13⟩ := HS.out u hu; clear hu; go_simp; try with_reducible rfl
  try go_frame
  refine' tk 9 ?_ ?_; rotate_left
  · intro u hu; obtain ⟨f2, f6, f7, f8, f9, f10, f11, f12, f13⟩ := HS.out u hu; clear hu; go_simp; try with_reducible rfl
  try go_frame
  refine' tk 10 ?_ ?_; rotate_left
  · intro u hu; obtain ⟨f2, f6, f7, f8, f9, f10, f11, f12, f13⟩ := HS.out u hu; clear hu; go_simp; try with_reducible rfl
  try go_frame
  refine tr 2 (fun K hK => ?_)
  go_simp
  refine (flat_Label _).mono ?_
  rintro e z ⟨rfl, rfl⟩
  go_wp2_with fail
  refine hK.out _ _ hb0 (fun hHeld2 => ?_)
  clear hK K hHeld; have hHeld := hHeld2; clear hHeld2
  try go_frame
  refine' tk 12 ?_ ?_; rotate_left
  · intro u hu; obtain ⟨f2, f6, f7, f8, f9, f10, f11, f12, f13⟩ := HS.out u hu; clear hu; go_simp; try with_reducible rfl
  try go_frame
  refine tr 5 (fun K hK => ?_)
  go_simp
  refine (flat_Bear _).mono ?_
  rintro e z ⟨rfl, rfl⟩
  go_wp2_with fail
  refine hK.out _ _ hb0 (fun hHeld2 => ?_)
  clear hK K hHeld; have hHeld := hHeld2; clear hHeld2
  try go_frame
  refine tr 8 (fun K hK => ?_)
  go_simp
  refine (flat_int _).mono ?_
  rintro e z ⟨rfl, rfl⟩
  go_wp2_with fail
  refine hK.out _ _ hb0 (fun hHeld2 => ?_)
  clear hK K hHeld; have hHeld := hHeld2; clear hHeld2
  try go_frame
  refine tr 11 (fun K hK => ?_)
  go_simp
  refine (flat_string _).mono ?_
  rintro e z ⟨rfl, rfl⟩
  go_wp2_with fail
  refine hK.out _ _ hb0 (fun hHeld2 => ?_)
  clear hK K hHeld; have hHeld := hHeld2; clear hHeld2
  try go_frame
  refine ts 13 (fun K hK => ?_)
  obtain ⟨d0, d1⟩ := (HB.out _ hb0).1.2 2 _ rfl
  go_simp
  rw [set_same13 d0]
  refine hK.out undef _ hb0 (fun hHeld2 => ?_)
  clear d0 d1
  clear hK K hHeld; have hHeld := hHeld2; clear hHeld2
  try go_frame
  refine' tk 14 ?_ ?_; rotate_left
  · intro u hu; obtain ⟨f2, f6, f7, f8, f9, f10, f11, f12, f13⟩ := HS.out u hu; clear hu; go_simp; try with_reducible rfl
  try go_frame
  refine ts 15 (fun K hK => ?_)
  obtain ⟨d0, d1⟩ := (HB.out _ hb0).1.2 6 _ rfl
  go_simp
  rw [set_same13 d0]
  refine hK.out undef _ hb0 (fun hHeld2 => ?_)
  clear d0 d1
  clear hK K hHeld; have hHeld := hHeld2; clear hHeld2
  try go_frame
  refine' tk 16 ?_ ?_; rotate_left
  · intro u hu; obtain ⟨f2, f6, f7, f8, f9, f10, f11, f12, f13⟩ := HS.out u hu; clear hu; go_simp; try with_reducible rfl
  try go_frame
  refine ts 17 (fun K hK => ?_)
  obtain ⟨d0, d1⟩ := (HB.out _ hb0).1.2 9 _ rfl
  go_simp
  rw [set_same13 d0]
  refine hK.out undef _ hb0 (fun hHeld2 => ?_)
  clear d0 d1
  clear hK K hHeld; have hHeld := hHeld2; clear hHeld2
  try go_frame
  refine' tk 18 ?_ ?_; rotate_left
  · intro u hu; obtain ⟨f2, f6, f7, f8, f9, f10, f11, f12, f13⟩ := HS.out u hu; clear hu; go_simp; try with_reducible rfl
  try go_frame
  refine ts 19 (fun K hK => ?_)
  obtain ⟨d0, d1⟩ := (HB.out _ hb0).1.2 13 _ rfl
  go_simp
  rw [set_same13 d0]
  refine hK.out undef _ hb0 (fun hHeld2 => ?_)
  clear d0 d1
  clear hK K hHeld; have hHeld := hHeld2; clear hHeld2
  try go_frame
  refine tz ?_
  have hb := hb0
  clear hb0 hHeld
  --R1
  go_wp2_with fail
  have hb0 : Below W2.heap.size W2 z.drew := on2 hb (Below.refl _ _).drew
  refine t0 (fun z => Below W2.heap.size W2 z) hb0 (fun hHeld => ?_)
  generalize hwd : z.drew = wd at hHeld hb0 ⊢
  clear hwd hb
  try go_frame
  refine' tk 0 ?_ ?_; rotate_left
  · intro u hu; obtain ⟨f2, f6, f7, f8, f9, f10, f11, f12, f13⟩ := HS.out u hu; clear hu; go_simp; try with_reducible rfl
  try go_frame
  refine' tk 1 ?_ ?_; rotate_left
  · intro u hu; obtain ⟨f2, f6, f7, f8, f9, f10, f11, f12, f13⟩ := HS.out u hu; clear hu; go_simp; try with_reducible rfl
  try go_frame
  refine' tk 3 ?_ ?_; rotate_left
  · intro u hu; obtain ⟨f2, f6, f7, f8, f9, f10, f11, f12, f13⟩ := HS.out u hu; clear hu; go_simp; try with_reducible rfl
  try go_frame
  refine' tk 4 ?_ ?_; rotate_left
  · intro u hu; obtain ⟨f2, f6, f7, f8, f9, f10, f11, f12, f13⟩ := HS.out u hu; clear hu; go_simp; try with_reducible rfl
  try go_frame
  refine tr 2 (fun K hK => ?_)
  go_simp
  refine (each_Req _).mono ?_
  rintro e z ⟨rfl, rfl⟩
  go_wp2_with fail
  refine hK.out _ _ hb0 (fun hHeld2 => ?_)
  clear hK K hHeld; have hHeld := hHeld2; clear hHeld2
  try go_frame
  refine' tk 6 ?_ ?_; rotate_left
  · intro u hu; obtain ⟨f2, f6, f7, f8, f9, f10, f11, f12, f13⟩ := HS.out u hu; clear hu; go_simp; try with_reducible rfl
  try go_frame
  refine tr 5 (fun K hK => ?_)
  go_simp
  refine (each_Prefer _).mono ?_
  rintro e z ⟨rfl, rfl⟩
  go_wp2_with fail
  refine hK.out _ _ hb0 (fun hHeld2 => ?_)
  clear hK K hHeld; have hHeld := hHeld2; clear hHeld2
  try go_frame
  refine ts 7 (fun K hK => ?_)
  obtain ⟨d0, d1⟩ := (HB.out _ hb0).1.2 7 _ rfl
  go_simp
  rw [set_same13 d0]
  refine hK.out undef _ hb0 (fun hHeld2 => ?_)
  clear d0 d1
  clear hK K hHeld; have hHeld := hHeld2; clear hHeld2
  try go_frame
  refine' tk 8 ?_ ?_; rotate_left
  · intro u hu; obtain ⟨f2, f6, f7, f8, f9, f10, f11, f12, f13⟩ := HS.out u hu; clear hu; go_simp; try with_reducible rfl
  try go_frame
  refine ts 9 (fun K hK => ?_)
  obtain ⟨d0, d1⟩ := (HB.out _ hb0).1.2 8 _ rfl
  go_simp
  rw [set_same13 d0]
  refine hK.out undef _ hb0 (fun hHeld2 => ?_)
  clear d0 d1
  clear hK K hHeld; have hHeld := hHeld2; clear hHeld2
  try go_frame
  refine tz ?_
  have hb := hb0
  clear hb0 hHeld
  --R2
  go_wp2_with fail
  have hb0 : Below W2.heap.size W2 z.drew := on2 hb (Below.refl _ _).drew
  refine t0 (fun z => Below W2.heap.size W2 z) hb0 (fun hHeld => ?_)
  generalize hwd : z.drew = wd at hHeld hb0 ⊢
  clear hwd hb
  try go_frame
  refine' tk 0 ?_ ?_; rotate_left
  · intro u hu; obtain ⟨f2, f6, f7, f8, f9, f10, f11, f12, f13⟩ := HS.out u hu; clear hu; go_simp; try with_reducible rfl
  try go_frame
  refine' tk 1 ?_ ?_; rotate_left
  · intro u hu; obtain ⟨f2, f6, f7, f8, f9, f10, f11, f12, f13⟩ := HS.out u hu; clear hu; go_simp; try with_reducible rfl
  try go_frame
  refine' tk 3 ?_ ?_; rotate_left
  · intro u hu; obtain ⟨f2, f6, f7, f8, f9, f10, f11, f12, f13⟩ := HS.out u hu; clear hu; go_simp; try with_reducible rfl
  try go_frame
  refine' tk 4 ?_ ?_; rotate_left
  · intro u hu; obtain ⟨f2, f6, f7, f8, f9, f10, f11, f12, f13⟩ := HS.out u hu; clear hu; go_simp; try with_reducible rfl
  try go_frame
  refine' tk 6 ?_ ?_; rotate_left
  · intro u hu; obtain ⟨f2, f6, f7, f8, f9, f10, f11, f12, f13⟩ := HS.out u hu; clear hu; go_simp; try with_reducible rfl
  try go_frame
  refine' tk 7 ?_ ?_; rotate_left
  · intro u hu; obtain ⟨f2, f6, f7, f8, f9, f10, f11, f12, f13⟩ := HS.out u hu; clear hu; go_simp; try with_reducible rfl
  try go_frame
  refine tr 2 (fun K hK => ?_)
  go_simp
  refine (each_Term _).mono ?_
  rintro e z ⟨rfl, rfl⟩
  go_wp2_with fail
  refine hK.out _ _ hb0 (fun hHeld2 => ?_)
  clear hK K hHeld; have hHeld := hHeld2; clear hHeld2
  try go_frame
  refine' tk 9 ?_ ?_; rotate_left
  · intro u hu; obtain ⟨f2, f6, f7, f8, f9, f10, f11, f12, f13⟩ := HS.out u hu; clear hu; go_simp; try with_reducible rfl
  try go_frame
  refine tr 5 (fun K hK => ?_)
  go_simp
  refine (each_Term _).mono ?_
  rintro e z ⟨rfl, rfl⟩
  go_wp2_with fail
  refine hK.out _ _ hb0 (fun hHeld2 => ?_)
  clear hK K hHeld; have hHeld := hHeld2; clear hHeld2
  try go_frame
  refine tr 8 (fun K hK => ?_)
  go_simp
  refine (each_Spread _).mono ?_
  rintro e z ⟨rfl, rfl⟩
  go_wp2_with fail
  refine hK.out _ _ hb0 (fun hHeld2 => ?_)
  clear hK K hHeld; have hHeld := hHeld2; clear hHeld2
  try go_frame
  refine ts 10 (fun K hK => ?_)
  obtain ⟨d0, d1⟩ := (HB.out _ hb0).1.2 10 _ rfl
  go_simp
  rw [set_same13 d0]
  refine hK.out undef _ hb0 (fun hHeld2 => ?_)
  clear d0 d1
  clear hK K hHeld; have hHeld := hHeld2; clear hHeld2
  try go_frame
  refine' tk 11 ?_ ?_; rotate_left
  · intro u hu; obtain ⟨f2, f6, f7, f8, f9, f10, f11, f12, f13⟩ := HS.out u hu; clear hu; go_simp; try with_reducible rfl
  try go_frame
  refine ts 12 (fun K hK => ?_)
  obtain ⟨d0, d1⟩ := (HB.out _ hb0).1.2 11 _ rfl
  go_simp
  rw [set_same13 d0]
  refine hK.out undef _ hb0 (fun hHeld2 => ?_)
  clear d0 d1
  clear hK K hHeld; have hHeld := hHeld2; clear hHeld2
  try go_frame
  refine' tk 13 ?_ ?_; rotate_left
  · intro u hu; obtain ⟨f2, f6, f7, f8, f9, f10, f11, f12, f13⟩ := HS.out u hu; clear hu; go_simp; try with_reducible rfl
  try go_frame
  refine ts 14 (fun K hK => ?_)
  obtain ⟨d0, d1⟩ := (HB.out _ hb0).1.2 12 _ rfl
  go_simp
  rw [set_same13 d0]
  refine hK.out undef _ hb0 (fun hHeld2 => ?_)
  clear d0 d1
  clear hK K hHeld; have hHeld := hHeld2; clear hHeld2
  try go_frame
  refine tz ?_
  have hb := hb0
  clear hb0 hHeld
  --E
  have HQ : Hid (z.rangeAt w.heap.size 0 podZ) := (HB.out z hb).1.range
  have HZ : Hid (z.there (w.heap.size + 1) 0 podZ.toArray.size) := (HB.out z hb).2.1.there
  have HE : Hid (z.setCells (w.heap.size + 1) 0 podZ.toArray.toList = z) := sets_same13 _ _ _ (HB.out z hb).2.1.range
  have HR : Hid (z.rangeAt (w.heap.size + 1) 0 podZ) := (HB.out z hb).2.1.range
  have HW : Hid (Below w.heap.size w z) := (HB.out z hb).2.2
  clear HS HB hb
  go_wp2_with (first | (refine wpList_load_mid rfl 61 _ rfl w.heap.size 0 rfl podZ _ HQ.out Try.underlying61 rfl (by kernel_rfl) ?_) | (refine wpList_store_mid rfl 61 _ _ rfl (w.heap.size + 1) 0 podZ.toArray rfl rfl HZ.out (by kernel_rfl) (by simp [Value.oneCell']) ?_; rw [HE.out]) | fail)
  --F
  exact bodyPost_ret (v := .agg podZ.toArray) (res_cell (p := 2) (ty := 61) rfl _ _ (w.heap.size + 1) podZ _ rfl HR.out Try.underlying61 rfl (by kernel_rfl)) rfl ⟨rfl, HW.out⟩

end Go.Proofs.Ytnlmipgmakmbiaa
