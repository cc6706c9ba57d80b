/- Package fresh: an object of a kind that holds nothing else, a change of such a one: the same comes back. Condition: none. -/
import Derived.Test.YtnlmipgmakmbiaaWFrS
namespace Go.Proofs.Ytnlmipgmakmbiaa
open Go.RowKit
set_option linter.unusedSimpArgs false
set_option maxRecDepth 100000

abbrev objC (k : Int) : List Value := [.int .i64 k, .string ⟨#[]⟩, .int .i64 0, .slice none 0 0, .int .i64 0, .int .i64 0, .int .i64 0, .slice none 0 0, .slice none 0 0, .slice none 0 0, .slice none 0 0, .slice none 0 0, .slice none 0 0, .slice none 0 0, .slice none 0 0, .string ⟨#[]⟩, .string ⟨#[]⟩, .string ⟨#[]⟩, .slice none 0 0, .slice none 0 0, .bool false, .int .i64 0, .int .i64 0, .int .i64 0, .int .i64 0, .int .i64 0, .string ⟨#[]⟩, .int .i64 0, .string ⟨#[]⟩, .slice none 0 0, .string ⟨#[]⟩, .string ⟨#[]⟩, .int .i64 0, .string ⟨#[]⟩, .string ⟨#[]⟩, .string ⟨#[]⟩, .bool false, .string ⟨#[]⟩, .slice none 0 0, .int .i64 0]
theorem want_yes13 {c : Prop} [Decidable c] {A B : Prop} (h : c) (k : A) : if c then A else B := by rw [if_pos h]; exact k
theorem box_mid13 {u : World} {D : Nat} {A B C : List Value} (h : BoxL u D (A ++ B ++ C)) : u.rangeAt D A.length B ∧ u.there D A.length B.length := by
  have hg : ∀ j v, B[j]? = some v → (A ++ B ++ C)[A.length + j]? = some v := fun j v hj => by
    have hl : j < B.length := (List.getElem?_eq_some_iff.1 hj).1
    rw [List.getElem?_append_left (by rw [List.length_append]; omega), List.getElem?_append_right (by omega), Nat.add_sub_cancel_left]
    exact hj
  refine ⟨fun j v hj => (h.2 _ v (hg j v hj)).1, fun j hj => ?_⟩
  obtain ⟨x, hx⟩ : ∃ x, B[j]? = some x := ⟨_, List.getElem?_eq_getElem hj⟩
  have := h.2 _ x (hg j x hx)
  exact ⟨by rw [this.1]; rfl, this.2⟩

theorem obj_pod {u : World} {D : Nat} {k : Int} (h : BoxL u D (objC k)) : u.rangeAt D 1 podZ ∧ u.there D 1 podZ.length := box_mid13 (A := [.int .i64 k]) (B := podZ) (C := (objC k).drop 17) h
theorem obj_node {u : World} {D : Nat} {k : Int} (h : BoxL u D (objC k)) : u.rangeAt D 17 nodeZ ∧ u.there D 17 nodeZ.length := box_mid13 (A := ([.int .i64 k] ++ podZ)) (B := nodeZ) (C := (objC k).drop 26) h
theorem obj_volume {u : World} {D : Nat} {k : Int} (h : BoxL u D (objC k)) : u.rangeAt D 26 volumeZ ∧ u.there D 26 volumeZ.length := box_mid13 (A := ([.int .i64 k] ++ podZ ++ nodeZ)) (B := volumeZ) (C := (objC k).drop 31) h
theorem obj_budget {u : World} {D : Nat} {k : Int} (h : BoxL u D (objC k)) : u.rangeAt D 37 budgetZ ∧ u.there D 37 budgetZ.length := box_mid13 (A := ([.int .i64 k] ++ podZ ++ nodeZ ++ volumeZ ++ [.string ⟨#[]⟩, .int .i64 0, .string ⟨#[]⟩, .string ⟨#[]⟩, .string ⟨#[]⟩, .bool false])) (B := budgetZ) (C := (objC k).drop 40) h
set_option maxHeartbeats 16000000 in
theorem fr_Object (k : Int) (w : World) : Calls Try.prog 36 #[.agg (objC k).toArray] w fun e w' => e = .returned (.agg (objC k).toArray) ∧ Below w.heap.size w w' := by
  obtain ⟨W2, hW2⟩ : ∃ W, W = (w.alloc (.cells (objC k).toArray 74)).alloc (.cells (objC 0).toArray 74) := ⟨_, rfl⟩
  have q2 : BoxL W2 w.heap.size (objC k) := by rw [hW2]; exact (BoxL.new w 74 (objC k)).on ((Below.refl _ _).alloc (Nat.le_refl _) _)
  have z2 : BoxL W2 (w.heap.size + 1) (objC 0) := by have h := BoxL.new (w.alloc (.cells (objC k).toArray 74)) 74 (objC 0); rw [World.size_alloc] at h; rw [hW2]; exact h
  have b2 : Below w.heap.size w W2 := by rw [hW2]; exact ((Below.refl _ _).alloc (Nat.le_refl _) _).alloc (by simp) _
  have HB : Hid (∀ z, Below W2.heap.size W2 z → BoxL z w.heap.size (objC k) ∧ BoxL z (w.heap.size + 1) (objC 0) ∧ Below w.heap.size w z) := fun z hz => ⟨q2.on hz, z2.on hz, on2 b2 hz⟩
  clear q2 z2 b2
  go_enter Try.func36, Try.ntmps36
  go_wp2_with fail
  rw [← hW2]
  clear hW2
  --R0
  have hb0 : Below W2.heap.size W2 W2.drew := (Below.refl _ _).drew
  refine t0 (fun z => Below W2.heap.size W2 z) hb0 (fun hHeld => ?_)
  generalize hwd : W2.drew = wd at hHeld hb0 ⊢
  clear hwd
  try go_frame
  refine' tk 0 ?_ ?_; rotate_left
  · intro u hu; clear hu; go_simp; try with_reducible rfl
  try go_frame
  refine tq 1 (.agg podZ.toArray) (yieldsIf_load_mid (by rfl) 61 _ rfl w.heap.size 1 rfl podZ _ (fun u hu => (obj_pod (HB.out u hu).1).1) Try.underlying61 rfl (by kernel_rfl)) ?_ (hi := rfl)
  try go_frame
  refine' tk 3 ?_ ?_; rotate_left
  · intro u hu; clear hu; go_simp; try with_reducible rfl
  try go_frame
  refine tq 4 (.agg nodeZ.toArray) (yieldsIf_load_mid (by rfl) 64 _ rfl w.heap.size 17 rfl nodeZ _ (fun u hu => (obj_node (HB.out u hu).1).1) Try.underlying64 rfl (by kernel_rfl)) ?_ (hi := rfl)
  try go_frame
  refine' tk 6 ?_ ?_; rotate_left
  · intro u hu; clear hu; go_simp; try with_reducible rfl
  try go_frame
  refine tq 7 (.agg volumeZ.toArray) (yieldsIf_load_mid (by rfl) 66 _ rfl w.heap.size 26 rfl volumeZ _ (fun u hu => (obj_volume (HB.out u hu).1).1) Try.underlying66 rfl (by kernel_rfl)) ?_ (hi := rfl)
  try go_frame
  refine' tk 9 ?_ ?_; rotate_left
  · intro u hu; clear hu; go_simp; try with_reducible rfl
  try go_frame
  refine tq 10 (.agg budgetZ.toArray) (yieldsIf_load_mid (by rfl) 72 _ rfl w.heap.size 37 rfl budgetZ _ (fun u hu => (obj_budget (HB.out u hu).1).1) Try.underlying72 rfl (by kernel_rfl)) ?_ (hi := rfl)
  try go_frame
  refine tr 2 (fun K hK => ?_)
  go_simp
  refine (fr_pod _).mono ?_
  rintro e z1 ⟨rfl, dz⟩
  have hb1 : Below W2.heap.size W2 z1 := on2 hb0 dz
  clear dz
  go_wp2_with fail
  refine hK.out _ _ hb1 (fun hHeld2 => ?_)
  clear hK K hHeld; have hHeld := hHeld2; clear hHeld2
  try go_frame
  refine' tk 12 ?_ ?_; rotate_left
  · intro u hu; clear hu; go_simp; try with_reducible rfl
  try go_frame
  refine tr 5 (fun K hK => ?_)
  go_simp
  refine (fr_node _).mono ?_
  rintro e z2 ⟨rfl, dz⟩
  have hb2 : Below W2.heap.size W2 z2 := on2 hb1 dz
  clear dz
  go_wp2_with fail
  refine hK.out _ _ hb2 (fun hHeld2 => ?_)
  clear hK K hHeld; have hHeld := hHeld2; clear hHeld2
  try go_frame
  refine tr 8 (fun K hK => ?_)
  go_simp
  refine (fr_volume _).mono ?_
  rintro e z3 ⟨rfl, dz⟩
  have hb3 : Below W2.heap.size W2 z3 := on2 hb2 dz
  clear dz
  go_wp2_with fail
  refine hK.out _ _ hb3 (fun hHeld2 => ?_)
  clear hK K hHeld; have hHeld := hHeld2; clear hHeld2
  try go_frame
  refine tr 11 (fun K hK => ?_)
  go_simp
  refine (fr_budget _).mono ?_
  rintro e z4 ⟨rfl, dz⟩
  have hb4 : Below W2.heap.size W2 z4 := on2 hb3 dz
  clear dz
  go_wp2_with fail
  refine hK.out _ _ hb4 (fun hHeld2 => ?_)
  clear hK K hHeld; have hHeld := hHeld2; clear hHeld2
  try go_frame
  refine ts 13 (fun K hK => ?_)
  refine want_yes13 (by rfl) (wp_store_mid 61 _ _ rfl w.heap.size 1 podZ.toArray rfl rfl (obj_pod (HB.out _ hb4).1).2 (by kernel_rfl) (by simp [Value.oneCell']) ?_)
  have hE : z4.setCells w.heap.size 1 podZ.toArray.toList = z4 := sets_same13 _ _ _ (obj_pod (HB.out _ hb4).1).1
  rw [hE]
  clear hE
  refine hK.out undef _ hb4 (fun hHeld2 => ?_)
  clear hK K hHeld; have hHeld := hHeld2; clear hHeld2
  try go_frame
  refine' tk 14 ?_ ?_; rotate_left
  · intro u hu; clear hu; go_simp; try with_reducible rfl
  try go_frame
  refine ts 15 (fun K hK => ?_)
  refine want_yes13 (by rfl) (wp_store_mid 64 _ _ rfl w.heap.size 17 nodeZ.toArray rfl rfl (obj_node (HB.out _ hb4).1).2 (by kernel_rfl) (by simp [Value.oneCell']) ?_)
  have hE : z4.setCells w.heap.size 17 nodeZ.toArray.toList = z4 := sets_same13 _ _ _ (obj_node (HB.out _ hb4).1).1
  rw [hE]
  clear hE
  refine hK.out undef _ hb4 (fun hHeld2 => ?_)
  clear hK K hHeld; have hHeld := hHeld2; clear hHeld2
  try go_frame
  refine' tk 16 ?_ ?_; rotate_left
  · intro u hu; clear hu; go_simp; try with_reducible rfl
  try go_frame
  refine ts 17 (fun K hK => ?_)
  refine want_yes13 (by rfl) (wp_store_mid 66 _ _ rfl w.heap.size 26 volumeZ.toArray rfl rfl (obj_volume (HB.out _ hb4).1).2 (by kernel_rfl) (by simp [Value.oneCell']) ?_)
  have hE : z4.setCells w.heap.size 26 volumeZ.toArray.toList = z4 := sets_same13 _ _ _ (obj_volume (HB.out _ hb4).1).1
  rw [hE]
  clear hE
  refine hK.out undef _ hb4 (fun hHeld2 => ?_)
  clear hK K hHeld; have hHeld := hHeld2; clear hHeld2
  try go_frame
  refine' tk 18 ?_ ?_; rotate_left
  · intro u hu; clear hu; go_simp; try with_reducible rfl
  try go_frame
  refine ts 19 (fun K hK => ?_)
  refine want_yes13 (by rfl) (wp_store_mid 72 _ _ rfl w.heap.size 37 budgetZ.toArray rfl rfl (obj_budget (HB.out _ hb4).1).2 (by kernel_rfl) (by simp [Value.oneCell']) ?_)
  have hE : z4.setCells w.heap.size 37 budgetZ.toArray.toList = z4 := sets_same13 _ _ _ (obj_budget (HB.out _ hb4).1).1
  rw [hE]
  clear hE
  refine hK.out undef _ hb4 (fun hHeld2 => ?_)
  clear hK K hHeld; have hHeld := hHeld2; clear hHeld2
  try go_frame
  refine tz ?_
  have hb := hb4
  obtain ⟨z, hz⟩ : ∃ z, z = z4 := ⟨_, rfl⟩
  rw [← hz] at hb ⊢
  clear hz hb4 hb3 hb2 hb1 hb0 hHeld
  --E
  have HQ : Hid (z.rangeAt w.heap.size 0 (objC k)) := (HB.out z hb).1.range
  have HZ : Hid (z.there (w.heap.size + 1) 0 (objC k).toArray.size) := (HB.out z hb).2.1.there
  obtain ⟨Y, hY⟩ : ∃ Y, Y = z.setCells (w.heap.size + 1) 0 (objC k) := ⟨_, rfl⟩
  have HE : Hid (z.setCells (w.heap.size + 1) 0 (objC k).toArray.toList = Y) := hY.symm
  have HR : Hid (Y.rangeAt (w.heap.size + 1) 0 (objC k)) := by rw [hY]; exact World.rangeAt_setCells_same _ _ _ _ HZ.out
  have HW : Hid (Below w.heap.size w Y) := by rw [hY]; exact below_setCells (HB.out z hb).2.2 (by omega)
  clear HB hb hY
  go_wp2_with (first | (refine wpList_load_mid rfl 74 _ rfl w.heap.size 0 rfl (objC k) _ HQ.out Try.underlying74 rfl (by kernel_rfl) ?_) | (refine wpList_store_mid rfl 74 _ _ rfl (w.heap.size + 1) 0 (objC k).toArray rfl rfl HZ.out (by kernel_rfl) (by simp [Value.oneCell']) ?_; rw [HE.out]) | fail)
  --F
  exact bodyPost_ret (v := .agg (objC k).toArray) (res_cell (p := 2) (ty := 74) rfl _ _ (w.heap.size + 1) (objC k) _ rfl HR.out Try.underlying74 rfl (by kernel_rfl)) rfl ⟨rfl, HW.out⟩

theorem ch_obj13 {u : World} {D : Nat} {v k : Int} (h : BoxL u D (chC v k)) : u.rangeAt D 2 (objC k) ∧ u.there D 2 (objC k).length := box_mid13 (A := [.int .i64 v, .int .i64 1]) (B := objC k) (C := []) h
set_option maxHeartbeats 16000000 in
theorem fr_change (v k : Int) (w : World) : Calls Try.prog 34 #[.agg (chC v k).toArray] w fun e w' => e = .returned (.agg (chC v k).toArray) ∧ Below w.heap.size w w' := by
  obtain ⟨zs, hzs⟩ : ∃ zs : List Value, zs = .int .i64 0 :: .int .i64 0 :: objC 0 := ⟨_, rfl⟩
  obtain ⟨W2, hW2⟩ : ∃ W, W = (w.alloc (.cells (chC v k).toArray 76)).alloc (.cells zs.toArray 76) := ⟨_, rfl⟩
  have q2 : BoxL W2 w.heap.size (chC v k) := by rw [hW2]; exact (BoxL.new w 76 (chC v k)).on ((Below.refl _ _).alloc (Nat.le_refl _) _)
  have z2 : BoxL W2 (w.heap.size + 1) zs := by have h := BoxL.new (w.alloc (.cells (chC v k).toArray 76)) 76 zs; rw [World.size_alloc] at h; rw [hW2]; exact h
  have b2 : Below w.heap.size w W2 := by rw [hW2]; exact ((Below.refl _ _).alloc (Nat.le_refl _) _).alloc (by simp) _
  have HQ : Hid (W2.rangeAt w.heap.size 2 (objC k)) := (ch_obj13 q2).1
  have HB : Hid (∀ z, Below W2.heap.size W2 z → BoxL z w.heap.size (chC v k) ∧ BoxL z (w.heap.size + 1) zs ∧ Below w.heap.size w z) := fun z hz => ⟨q2.on hz, z2.on hz, on2 b2 hz⟩
  have hzl : Hid (zs.length = 42) := by rw [hzs]; rfl
  rw [hzs] at hW2
  clear q2 z2 b2 hzs
  have hC := fr_Object k W2
  go_enter Try.func34, Try.ntmps34
  go_wp2_with (rw [← hW2]; clear hW2; refine wpList_load_mid rfl 74 _ rfl w.heap.size 2 rfl (objC k) _ HQ.out Try.underlying74 rfl (by kernel_rfl) ?_)
  refine hC.mono ?_
  rintro e z ⟨rfl, dz⟩
  clear hC
  --E
  have HZ0 : Hid (z.there w.heap.size 2 (objC k).toArray.size) := (ch_obj13 (HB.out z dz).1).2
  have HE0 : Hid (z.setCells w.heap.size 2 (objC k).toArray.toList = z) := sets_same13 _ _ _ (ch_obj13 (HB.out z dz).1).1
  have HQ1 : Hid (z.rangeAt w.heap.size 0 (chC v k)) := (HB.out z dz).1.range
  have HZ : Hid (z.there (w.heap.size + 1) 0 (chC v k).toArray.size) := by have h := (HB.out z dz).2.1.there; rw [hzl.out] at h; exact h
  obtain ⟨Y, hY⟩ : ∃ Y, Y = z.setCells (w.heap.size + 1) 0 (chC v k) := ⟨_, rfl⟩
  have HE : Hid (z.setCells (w.heap.size + 1) 0 (chC v k).toArray.toList = Y) := hY.symm
  have HR : Hid (Y.rangeAt (w.heap.size + 1) 0 (chC v k)) := by rw [hY]; exact World.rangeAt_setCells_same _ _ _ _ HZ.out
  have HW : Hid (Below w.heap.size w Y) := by rw [hY]; exact below_setCells (HB.out z dz).2.2 (by omega)
  clear HB dz hY HQ
  go_wp2_with (first | (refine wpList_store_mid rfl 74 _ _ rfl w.heap.size 2 (objC k).toArray rfl rfl HZ0.out (by kernel_rfl) (by simp [Value.oneCell']) ?_; rw [HE0.out]) | (refine wpList_load_mid rfl 76 _ rfl w.heap.size 0 rfl (chC v k) _ HQ1.out Try.underlying76 rfl (by kernel_rfl) ?_) | (refine wpList_store_mid rfl 76 _ _ rfl (w.heap.size + 1) 0 (chC v k).toArray rfl rfl HZ.out (by kernel_rfl) (by simp [Value.oneCell']) ?_; rw [HE.out]) | fail)
  --F
  exact bodyPost_ret (v := .agg (chC v k).toArray) (res_cell (p := 2) (ty := 76) rfl _ _ (w.heap.size + 1) (chC v k) _ rfl HR.out Try.underlying76 rfl (by kernel_rfl)) rfl ⟨rfl, HW.out⟩

end Go.Proofs.Ytnlmipgmakmbiaa
