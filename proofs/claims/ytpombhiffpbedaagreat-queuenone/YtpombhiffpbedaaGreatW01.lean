/- A queue that no call made: each call refuses. No condition. -/
import Derived.Test.YtpombhiffpbedaaGreatQ18
namespace Go.Proofs.YtpombhiffpbedaaGreat
open Go.RowKit Go.Maps
set_option linter.unusedSimpArgs false
set_option maxRecDepth 100000

/-- No call made it. -/
def NoQ (w : World) (v : Value) : Prop := ∀ z, Below w.heap.size w z → Calls Tryz.prog 37 #[v] z fun e w' => e = .returned (.bool false) ∧ w' = z
theorem noq_nil (w : World) : NoQ w (.pointer none) := by
  intro z _
  go_enter Tryz.func37, Tryz.ntmps37
  go_wp2
  go_ret
  exact ⟨rfl, rfl⟩
theorem noq_zero {w : World} {p : Nat} (h : w.cell? ⟨p, 0, none⟩ = some (.pointer none)) (hp : p < w.heap.size) : NoQ w (.pointer (some ⟨p, 0, none⟩)) := by
  intro z hz
  have c0 := (hz.cell (p := ⟨p, 0, none⟩) hp).trans h
  clear h hz hp
  go_enter Tryz.func37, Tryz.ntmps37
  go_wp2
  go_ret
  exact ⟨rfl, rfl⟩
section
variable {w z : World} {v : Value}
theorem n_against (h : NoQ w v) (hz : Below w.heap.size w z) (s : ByteArray) : Calls Tryz.prog 34 #[v, .string s] z fun e w' => e = .returned (.int .i64 1) ∧ w' = z := by
  have hM := h z hz
  clear h hz
  go_enter Tryz.func34, Tryz.ntmps34
  go_wp2_with fail
  refine hM.mono ?_
  rintro e w' ⟨rfl, hw'⟩
  obtain rfl := hw'.symm
  clear hM
  go_wp2_with fail
  go_ret
  exact ⟨rfl, rfl⟩
theorem n_agNow (h : NoQ w v) (hz : Below w.heap.size w z) (t : Int) : Calls Tryz.prog 42 #[v, .int .i64 t] z fun e w' => e = .returned (.int .i64 1) ∧ w' = z := by
  have hM := h z hz
  clear h hz
  go_enter Tryz.func42, Tryz.ntmps42
  go_wp2_with fail
  refine hM.mono ?_
  rintro e w' ⟨rfl, hw'⟩
  obtain rfl := hw'.symm
  clear hM
  go_wp2_with fail
  go_ret
  exact ⟨rfl, rfl⟩
theorem n_add (h : NoQ w v) (hz : Below w.heap.size w z) (s : ByteArray) (pr : Int) : Calls Tryz.prog 7 #[v, .string s, .int .i64 pr] z fun e w' => e = .returned (.int .i64 1) ∧ Below z.heap.size z w' := by
  have hM := n_against h hz s
  clear h hz
  go_enter Tryz.func7, Tryz.ntmps7
  go_wp2_with fail
  refine hM.mono ?_
  rintro e w' ⟨rfl, hw'⟩
  obtain rfl := hw'.symm
  clear hM
  go_wp2_with fail
  go_ret
  exact ⟨rfl, Below.refl _ _⟩
theorem n_drop (h : NoQ w v) (hz : Below w.heap.size w z) (s : ByteArray) : Calls Tryz.prog 17 #[v, .string s] z fun e w' => e = .returned (.int .i64 1) ∧ Below z.heap.size z w' := by
  have hM := h z hz
  clear h hz
  go_enter Tryz.func17, Tryz.ntmps17
  go_wp2_with fail
  refine hM.mono ?_
  rintro e w' ⟨rfl, hw'⟩
  obtain rfl := hw'.symm
  clear hM
  go_wp2_with fail
  go_ret
  exact ⟨rfl, Below.refl _ _⟩
theorem n_hope (h : NoQ w v) (hz : Below w.heap.size w z) (s t : ByteArray) : Calls Tryz.prog 19 #[v, .string s, .string t] z fun e w' => e = .returned (.int .i64 1) ∧ Below z.heap.size z w' := by
  have hM := h z hz
  clear h hz
  go_enter Tryz.func19, Tryz.ntmps19
  go_wp2_with fail
  refine hM.mono ?_
  rintro e w' ⟨rfl, hw'⟩
  obtain rfl := hw'.symm
  clear hM
  go_wp2_with fail
  go_ret
  exact ⟨rfl, Below.refl _ _⟩
theorem n_move (h : NoQ w v) (hz : Below w.heap.size w z) (t : Int) : Calls Tryz.prog 13 #[v, .int .i64 t] z fun e w' => e = .returned (.tuple #[.int .i64 0, .int .i64 1]) ∧ Below z.heap.size z w' := by
  have hM := n_agNow h hz t
  clear h hz
  go_enter Tryz.func13, Tryz.ntmps13
  go_wp2_with fail
  refine hM.mono ?_
  rintro e w' ⟨rfl, hw'⟩
  obtain rfl := hw'.symm
  clear hM
  go_wp2_with fail
  go_ret2
  exact ⟨rfl, Below.refl _ _⟩
theorem n_tick (h : NoQ w v) (hz : Below w.heap.size w z) (t : Int) : Calls Tryz.prog 15 #[v, .int .i64 t] z fun e w' => e = .returned (.tuple #[.int .i64 0, .int .i64 1]) ∧ Below z.heap.size z w' := by
  obtain ⟨W1, hW1⟩ : ∃ Z, Z = z.alloc (.cells #[.int .i64 t] 3) := ⟨_, rfl⟩
  have b1 : Below z.heap.size z W1 := by rw [hW1]; exact (Below.refl _ _).alloc (Nat.le_refl _) _
  have HW1 : Hid (z.alloc (.cells #[.int .i64 t] 3) = W1) := hW1.symm
  have HB1 : Hid (Below z.heap.size z W1) := b1
  have hcb : W1.cell? ⟨z.heap.size, 0, none⟩ = some (.int .i64 t) := by rw [hW1]; exact ((BoxL.new z 3 [.int .i64 t]).2 0 _ rfl).1
  have hM := n_agNow h (on2 hz b1) t
  clear h hz hW1 b1
  go_enter Tryz.func15, Tryz.ntmps15
  go_upto_region 1 with fail
  rw [HW1.out]
  go_wp2_with fail
  refine hM.mono ?_
  rintro e w' ⟨rfl, hw'⟩
  obtain rfl := hw'.symm
  clear hM
  go_wp2_with fail
  go_ret2
  exact ⟨rfl, HB1.out⟩
theorem n_back (h : NoQ w v) (hz : Below w.heap.size w z) (x : WtD) (t : Int) (b : Bool) : Calls Tryz.prog 11 #[v, .agg (wtC x).toArray, .int .i64 t, .bool b] z fun e w' => e = .returned (.int .i64 1) ∧ Below z.heap.size z w' := by
  obtain ⟨W1, hW1⟩ : ∃ Z, Z = z.alloc (.cells (wtC x).toArray 31) := ⟨_, rfl⟩
  have b1 : Below z.heap.size z W1 := by rw [hW1]; exact (Below.refl _ _).alloc (Nat.le_refl _) _
  have HW1 : Hid (z.alloc (.cells (wtC x).toArray 31) = W1) := hW1.symm
  have HB1 : Hid (Below z.heap.size z W1) := b1
  have hM := n_agNow h (on2 hz b1) t
  clear h hz hW1 b1
  go_enter Tryz.func11, Tryz.ntmps11
  go_upto_region 1 with fail
  rw [HW1.out]
  go_wp2_with fail
  refine hM.mono ?_
  rintro e w' ⟨rfl, hw'⟩
  obtain rfl := hw'.symm
  clear hM
  go_wp2_with fail
  go_ret
  exact ⟨rfl, HB1.out⟩
theorem n_nom (h : NoQ w v) (hz : Below w.heap.size w z) (s : ByteArray) : Calls Tryz.prog 25 #[v, .string s] z fun e w' => e = .returned (.slice none 0 0) ∧ Below z.heap.size z w' := by
  have hM := h z hz
  clear h hz
  go_enter Tryz.func25, Tryz.ntmps25
  go_wp2_with fail
  refine hM.mono ?_
  rintro e w' ⟨rfl, hw'⟩
  obtain rfl := hw'.symm
  clear hM
  go_wp2_with fail
  go_ret
  exact ⟨rfl, Below.refl _ _⟩
theorem n_all (h : NoQ w v) (hz : Below w.heap.size w z) (t : Int) : Calls Tryz.prog 28 #[v, .int .i64 t] z fun e w' => e = .returned (.slice none 0 0) ∧ Below z.heap.size z w' := by
  have hM := h z hz
  clear h hz
  go_enter Tryz.func28, Tryz.ntmps28
  go_wp2_with fail
  refine hM.mono ?_
  rintro e w' ⟨rfl, hw'⟩
  obtain rfl := hw'.symm
  clear hM
  go_wp2_with fail
  go_ret
  exact ⟨rfl, Below.refl _ _⟩
theorem n_clone (h : NoQ w v) (hz : Below w.heap.size w z)  : Calls Tryz.prog 21 #[v] z fun e w' => e = .returned (.pointer none) ∧ Below z.heap.size z w' := by
  have hM := h z hz
  clear h hz
  go_enter Tryz.func21, Tryz.ntmps21
  go_wp2_with fail
  refine hM.mono ?_
  rintro e w' ⟨rfl, hw'⟩
  obtain rfl := hw'.symm
  clear hM
  go_wp2_with fail
  go_ret
  exact ⟨rfl, Below.refl _ _⟩
theorem n_pop (h : NoQ w v) (hz : Below w.heap.size w z) : Calls Tryz.prog 9 #[v] z fun e w' => e = .returned (.tuple #[.agg (wtC zWtY).toArray, .int .i64 1]) ∧ Below z.heap.size z w' := by
  obtain ⟨W1, hW1⟩ : ∃ Z, Z = z.alloc (.cells #[.string ⟨#[]⟩, .int .i64 0, .int .i64 0, .int .i64 0, .int .i64 0] 31) := ⟨_, rfl⟩
  have b1 : Below z.heap.size z W1 := by rw [hW1]; exact (Below.refl _ _).alloc (Nat.le_refl _) _
  have q1 : BoxL W1 z.heap.size (wtC zWtY) := by rw [hW1]; exact BoxL.new z 31 _
  have hM := h W1 (on2 hz b1)
  have HW1 : Hid (z.alloc (.cells #[.string ⟨#[]⟩, .int .i64 0, .int .i64 0, .int .i64 0, .int .i64 0] 31) = W1) := hW1.symm
  obtain ⟨W4, hW4⟩ : ∃ Z, Z = W1.setCells z.heap.size 0 (wtC zWtY) := ⟨_, rfl⟩
  have HTh : Hid (W1.there z.heap.size 0 (wtC zWtY).toArray.size) := q1.there
  have HW4 : Hid (W1.setCells z.heap.size 0 (wtC zWtY).toArray.toList = W4) := hW4.symm
  have HQ : Hid (W4.rangeAt z.heap.size 0 (wtC zWtY)) := by rw [hW4]; exact World.rangeAt_setCells_same _ _ _ _ q1.there
  have HB4 : Hid (Below z.heap.size z W4) := by rw [hW4]; exact below_setCells b1 (Nat.le_refl _)
  clear h hz hW1 b1 q1 hW4
  go_enter Tryz.func9, Tryz.ntmps9
  go_upto_region 1 with fail
  rw [HW1.out]
  go_wp2_with fail
  refine hM.mono ?_
  rintro e w' ⟨rfl, hw'⟩
  obtain rfl := hw'.symm
  clear hM
  go_wp2_with (first | (refine wpList_store_mid rfl 31 _ _ rfl z.heap.size 0 (wtC zWtY).toArray rfl rfl HTh.out (by kernel_rfl) (by simp [Value.oneCell']) ?_; refine wpl_atG HW4.out.symm ?_) | fail)
  refine bodyPost_ret (v := .tuple #[.agg (wtC zWtY).toArray, .int .i64 1]) (res_cell2 (p := 2) (q := 3) (ty := 31) rfl _ _ z.heap.size (wtC zWtY) _ _ rfl rfl HQ.out Tryz.underlying31 rfl (by kernel_rfl)) rfl ?_
  exact ⟨rfl, HB4.out⟩
theorem n_place (h : NoQ w v) (hz : Below w.heap.size w z) (s : ByteArray) : Calls Tryz.prog 22 #[v, .string s] z fun e w' => e = .returned (.tuple #[.int .i64 0, .agg (wtC zWtY).toArray, .int .i64 1]) ∧ Below z.heap.size z w' := by
  obtain ⟨W1, hW1⟩ : ∃ Z, Z = z.alloc (.cells #[.string ⟨#[]⟩, .int .i64 0, .int .i64 0, .int .i64 0, .int .i64 0] 31) := ⟨_, rfl⟩
  have b1 : Below z.heap.size z W1 := by rw [hW1]; exact (Below.refl _ _).alloc (Nat.le_refl _) _
  have q1 : BoxL W1 z.heap.size (wtC zWtY) := by rw [hW1]; exact BoxL.new z 31 _
  have hM := h W1 (on2 hz b1)
  have HW1 : Hid (z.alloc (.cells #[.string ⟨#[]⟩, .int .i64 0, .int .i64 0, .int .i64 0, .int .i64 0] 31) = W1) := hW1.symm
  obtain ⟨W4, hW4⟩ : ∃ Z, Z = W1.setCells z.heap.size 0 (wtC zWtY) := ⟨_, rfl⟩
  have HTh : Hid (W1.there z.heap.size 0 (wtC zWtY).toArray.size) := q1.there
  have HW4 : Hid (W1.setCells z.heap.size 0 (wtC zWtY).toArray.toList = W4) := hW4.symm
  have HQ : Hid (W4.rangeAt z.heap.size 0 (wtC zWtY)) := by rw [hW4]; exact World.rangeAt_setCells_same _ _ _ _ q1.there
  have HB4 : Hid (Below z.heap.size z W4) := by rw [hW4]; exact below_setCells b1 (Nat.le_refl _)
  clear h hz hW1 b1 q1 hW4
  go_enter Tryz.func22, Tryz.ntmps22
  go_upto_region 1 with fail
  rw [HW1.out]
  go_wp2_with fail
  refine hM.mono ?_
  rintro e w' ⟨rfl, hw'⟩
  obtain rfl := hw'.symm
  clear hM
  go_wp2_with (first | (refine wpList_store_mid rfl 31 _ _ rfl z.heap.size 0 (wtC zWtY).toArray rfl rfl HTh.out (by kernel_rfl) (by simp [Value.oneCell']) ?_; refine wpl_atG HW4.out.symm ?_) | fail)
  refine bodyPost_ret (v := .tuple #[.int .i64 0, .agg (wtC zWtY).toArray, .int .i64 1]) (res_tctY (p := 5) (q := 4) (r := 6) (ty := 31) rfl _ _ z.heap.size (wtC zWtY) _ _ _ rfl rfl rfl HQ.out Tryz.underlying31 rfl (by kernel_rfl)) rfl ?_
  exact ⟨rfl, HB4.out⟩
end
end Go.Proofs.YtpombhiffpbedaaGreat
