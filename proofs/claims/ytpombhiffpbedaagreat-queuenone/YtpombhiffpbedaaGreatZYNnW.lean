/- QueueNone's walk. No condition. -/
import Derived.Test.YtpombhiffpbedaaGreatW01
namespace Go.Proofs.YtpombhiffpbedaaGreat
open Go.RowKit Go.Maps
set_option linter.unusedSimpArgs false
set_option maxRecDepth 100000

set_option maxHeartbeats 32000000 in
theorem none14_walk (s : ByteArray) (x : WtD) (w : World) (_hs : s.size ≤ 140737488355328) (_hx : okS x.1) : Calls Tryz.prog 4 #[.string s, .agg (wtC x).toArray] w fun e w' => e = .returned (.bool true) ∧ Below w.heap.size w w' := by
  obtain ⟨W1, hW1⟩ : ∃ Z, Z = w.alloc (.cells (wtC x).toArray 31) := ⟨_, rfl⟩
  have b1 : Below w.heap.size w W1 := by rw [hW1]; exact (Below.refl _ _).alloc (Nat.le_refl _) _
  have q1 : BoxL W1 w.heap.size (wtC x) := by rw [hW1]; exact BoxL.new w 31 (wtC x)
  have hW := works14_calls W1
  have HW1 : Hid (w.alloc (.cells (wtC x).toArray 31) = W1) := hW1.symm
  have H1 : Hid (BoxL W1 w.heap.size (wtC x) ∧ Below w.heap.size w W1) := ⟨q1, b1⟩
  clear hW1 b1 q1
  go_enter Tryz.func4, Tryz.ntmps4
  go_upto_region 1 with fail
  rw [HW1.out]
  go_upto_region 4 with (go_at_call 32; refine hW.mono ?_; rintro e w2 ⟨rfl, b2⟩)
  obtain ⟨W3, hW3⟩ : ∃ Z, Z = w2.alloc (.cells #[.pointer none, .map none, .map none, .int .i64 0] 59) := ⟨_, rfl⟩
  have b3 : Below w2.heap.size w2 W3 := by rw [hW3]; exact (Below.refl _ _).alloc (Nat.le_refl _) _
  have q3 : BoxL W3 w2.heap.size [.pointer none, .map none, .map none, .int .i64 0] := by rw [hW3]; exact BoxL.new w2 59 _
  have HZ : Hid (NoQ W3 (.pointer (some ⟨w2.heap.size, 0, none⟩)) ∧ NoQ W3 (.pointer none) ∧ BoxL W3 w.heap.size (wtC x) ∧ Below w.heap.size w W3) := ⟨noq_zero (q3.2 0 _ rfl).1 q3.1, noq_nil W3, (H1.out.1.on b2).on b3, on2 H1.out.2 (on2 b2 b3)⟩
  have HW3 : Hid (w2.alloc (.cells #[.pointer none, .map none, .map none, .int .i64 0] 59) = W3) := hW3.symm
  clear hW hW3 b2 b3 q3 HW1 H1
  go_upto_region 5 with fail
  rw [HW3.out]
  clear HW3
  have HB3 : Hid (Below W3.heap.size W3 W3) := Below.refl _ _
  --M1
  have hC := n_pop HZ.out.2.1 HB3.out
  go_wp2_with fail
  refine hC.mono ?_
  rintro e v3 ⟨rfl, c3⟩
  clear hC
  obtain ⟨W4, hW4⟩ : ∃ Z, Z = v3.alloc (.cells #[.string ⟨#[]⟩, .int .i64 0, .int .i64 0, .int .i64 0, .int .i64 0] 31) := ⟨_, rfl⟩
  have HB4 : Hid (Below W3.heap.size W3 W4) := on2 HB3.out (on2 c3 (by rw [hW4]; exact (Below.refl _ _).alloc (Nat.le_refl _) _))
  have HW4 : Hid (v3.alloc (.cells #[.string ⟨#[]⟩, .int .i64 0, .int .i64 0, .int .i64 0, .int .i64 0] 31) = W4) := hW4.symm
  clear hW4 c3 HB3
  go_upto_region 6 with fail
  rw [HW4.out]
  clear HW4
  have hC := n_pop HZ.out.1 HB4.out
  go_wp2_with fail
  refine hC.mono ?_
  rintro e v4 ⟨rfl, c4⟩
  clear hC
  obtain ⟨W5, hW5⟩ : ∃ Z, Z = v4.alloc (.cells #[.string ⟨#[]⟩, .int .i64 0, .int .i64 0, .int .i64 0, .int .i64 0] 31) := ⟨_, rfl⟩
  have HB5 : Hid (Below W3.heap.size W3 W5) := on2 HB4.out (on2 c4 (by rw [hW5]; exact (Below.refl _ _).alloc (Nat.le_refl _) _))
  have HW5 : Hid (v4.alloc (.cells #[.string ⟨#[]⟩, .int .i64 0, .int .i64 0, .int .i64 0, .int .i64 0] 31) = W5) := hW5.symm
  clear hW5 c4 HB4
  go_upto_region 7 with fail
  rw [HW5.out]
  clear HW5
  have hC := n_move HZ.out.2.1 HB5.out 1
  go_wp2_with fail
  refine hC.mono ?_
  rintro e v5 ⟨rfl, c5⟩
  clear hC
  have HB6 : Hid (Below W3.heap.size W3 v5) := on2 HB5.out c5
  clear c5 HB5
  have hC := n_move HZ.out.1 HB6.out 1
  go_wp2_with fail
  refine hC.mono ?_
  rintro e v6 ⟨rfl, c6⟩
  clear hC
  have HB7 : Hid (Below W3.heap.size W3 v6) := on2 HB6.out c6
  clear c6 HB6
  have hC := n_tick HZ.out.2.1 HB7.out 1
  go_wp2_with fail
  refine hC.mono ?_
  rintro e v7 ⟨rfl, c7⟩
  clear hC
  have HB8 : Hid (Below W3.heap.size W3 v7) := on2 HB7.out c7
  clear c7 HB7
  have hC := n_tick HZ.out.1 HB8.out 1
  go_wp2_with fail
  refine hC.mono ?_
  rintro e v8 ⟨rfl, c8⟩
  clear hC
  have HB9 : Hid (Below W3.heap.size W3 v8) := on2 HB8.out c8
  clear c8 HB8
  have hC := n_place HZ.out.2.1 HB9.out s
  go_wp2_with fail
  refine hC.mono ?_
  rintro e v9 ⟨rfl, c9⟩
  clear hC
  obtain ⟨W10, hW10⟩ : ∃ Z, Z = v9.alloc (.cells #[.string ⟨#[]⟩, .int .i64 0, .int .i64 0, .int .i64 0, .int .i64 0] 31) := ⟨_, rfl⟩
  have HB10 : Hid (Below W3.heap.size W3 W10) := on2 HB9.out (on2 c9 (by rw [hW10]; exact (Below.refl _ _).alloc (Nat.le_refl _) _))
  have HW10 : Hid (v9.alloc (.cells #[.string ⟨#[]⟩, .int .i64 0, .int .i64 0, .int .i64 0, .int .i64 0] 31) = W10) := hW10.symm
  clear hW10 c9 HB9
  go_upto_region 12 with fail
  rw [HW10.out]
  clear HW10
  have hC := n_place HZ.out.1 HB10.out s
  go_wp2_with fail
  refine hC.mono ?_
  rintro e v10 ⟨rfl, c10⟩
  clear hC
  obtain ⟨W11, hW11⟩ : ∃ Z, Z = v10.alloc (.cells #[.string ⟨#[]⟩, .int .i64 0, .int .i64 0, .int .i64 0, .int .i64 0] 31) := ⟨_, rfl⟩
  have HB11 : Hid (Below W3.heap.size W3 W11) := on2 HB10.out (on2 c10 (by rw [hW11]; exact (Below.refl _ _).alloc (Nat.le_refl _) _))
  have HW11 : Hid (v10.alloc (.cells #[.string ⟨#[]⟩, .int .i64 0, .int .i64 0, .int .i64 0, .int .i64 0] 31) = W11) := hW11.symm
  clear hW11 c10 HB10
  go_upto_region 13 with fail
  rw [HW11.out]
  clear HW11
  have hC := n_add HZ.out.2.1 HB11.out s 1
  go_wp2_with fail
  refine hC.mono ?_
  rintro e v11 ⟨rfl, c11⟩
  clear hC
  have HB12 : Hid (Below W3.heap.size W3 v11) := on2 HB11.out c11
  clear c11 HB11
  have hC := n_add HZ.out.1 HB12.out s 1
  go_wp2_with fail
  refine hC.mono ?_
  rintro e v12 ⟨rfl, c12⟩
  clear hC
  have HB13 : Hid (Below W3.heap.size W3 v12) := on2 HB12.out c12
  clear c12 HB12
  obtain ⟨f0, f1, f2, f3, f4⟩ : v12.cell? ⟨w.heap.size, 0, none⟩ = some (.string x.1) ∧ v12.cell? ⟨w.heap.size, 1, none⟩ = some (.int .i64 x.2.1) ∧ v12.cell? ⟨w.heap.size, 2, none⟩ = some (.int .i64 x.2.2.1) ∧ v12.cell? ⟨w.heap.size, 3, none⟩ = some (.int .i64 x.2.2.2.1) ∧ v12.cell? ⟨w.heap.size, 4, none⟩ = some (.int .i64 x.2.2.2.2) := by have q := HZ.out.2.2.1.on HB13.out; exact ⟨(q.2 0 _ rfl).1, (q.2 1 _ rfl).1, (q.2 2 _ rfl).1, (q.2 3 _ rfl).1, (q.2 4 _ rfl).1⟩
  have hC := n_back HZ.out.2.1 HB13.out x 1 true
  go_wp2_with fail
  refine hC.mono ?_
  rintro e v13 ⟨rfl, c13⟩
  clear hC
  have HB14 : Hid (Below W3.heap.size W3 v13) := on2 HB13.out c13
  clear c13 HB13
  clear f0 f1 f2 f3 f4
  obtain ⟨f0, f1, f2, f3, f4⟩ : v13.cell? ⟨w.heap.size, 0, none⟩ = some (.string x.1) ∧ v13.cell? ⟨w.heap.size, 1, none⟩ = some (.int .i64 x.2.1) ∧ v13.cell? ⟨w.heap.size, 2, none⟩ = some (.int .i64 x.2.2.1) ∧ v13.cell? ⟨w.heap.size, 3, none⟩ = some (.int .i64 x.2.2.2.1) ∧ v13.cell? ⟨w.heap.size, 4, none⟩ = some (.int .i64 x.2.2.2.2) := by have q := HZ.out.2.2.1.on HB14.out; exact ⟨(q.2 0 _ rfl).1, (q.2 1 _ rfl).1, (q.2 2 _ rfl).1, (q.2 3 _ rfl).1, (q.2 4 _ rfl).1⟩
  have hC := n_back HZ.out.1 HB14.out x 1 true
  go_wp2_with fail
  refine hC.mono ?_
  rintro e v14 ⟨rfl, c14⟩
  clear hC
  have HB15 : Hid (Below W3.heap.size W3 v14) := on2 HB14.out c14
  clear c14 HB14
  clear f0 f1 f2 f3 f4
  have hC := n_drop HZ.out.2.1 HB15.out s
  go_wp2_with fail
  refine hC.mono ?_
  rintro e v15 ⟨rfl, c15⟩
  clear hC
  have HB16 : Hid (Below W3.heap.size W3 v15) := on2 HB15.out c15
  clear c15 HB15
  have hC := n_drop HZ.out.1 HB16.out s
  go_wp2_with fail
  refine hC.mono ?_
  rintro e v16 ⟨rfl, c16⟩
  clear hC
  have HB17 : Hid (Below W3.heap.size W3 v16) := on2 HB16.out c16
  clear c16 HB16
  have hC := n_hope HZ.out.2.1 HB17.out s ⟨#[110]⟩
  go_wp2_with fail
  refine hC.mono ?_
  rintro e v17 ⟨rfl, c17⟩
  clear hC
  have HB18 : Hid (Below W3.heap.size W3 v17) := on2 HB17.out c17
  clear c17 HB17
  have hC := n_hope HZ.out.1 HB18.out s ⟨#[110]⟩
  go_wp2_with fail
  refine hC.mono ?_
  rintro e v18 ⟨rfl, c18⟩
  clear hC
  have HB19 : Hid (Below W3.heap.size W3 v18) := on2 HB18.out c18
  clear c18 HB18
  have hC := n_nom HZ.out.2.1 HB19.out ⟨#[110]⟩
  go_wp2_with fail
  refine hC.mono ?_
  rintro e v19 ⟨rfl, c19⟩
  clear hC
  have HB20 : Hid (Below W3.heap.size W3 v19) := on2 HB19.out c19
  clear c19 HB19
  have hC := n_nom HZ.out.1 HB20.out ⟨#[110]⟩
  go_wp2_with fail
  refine hC.mono ?_
  rintro e v20 ⟨rfl, c20⟩
  clear hC
  have HB21 : Hid (Below W3.heap.size W3 v20) := on2 HB20.out c20
  clear c20 HB20
  have hC := n_all HZ.out.2.1 HB21.out 1
  go_wp2_with fail
  refine hC.mono ?_
  rintro e v21 ⟨rfl, c21⟩
  clear hC
  have HB22 : Hid (Below W3.heap.size W3 v21) := on2 HB21.out c21
  clear c21 HB21
  have hC := n_all HZ.out.1 HB22.out 1
  go_wp2_with fail
  refine hC.mono ?_
  rintro e v22 ⟨rfl, c22⟩
  clear hC
  have HB23 : Hid (Below W3.heap.size W3 v22) := on2 HB22.out c22
  clear c22 HB22
  have hC := n_clone HZ.out.2.1 HB23.out
  go_wp2_with fail
  refine hC.mono ?_
  rintro e v23 ⟨rfl, c23⟩
  clear hC
  have HB24 : Hid (Below W3.heap.size W3 v23) := on2 HB23.out c23
  clear c23 HB23
  have hC := n_clone HZ.out.1 HB24.out
  go_wp2_with fail
  refine hC.mono ?_
  rintro e v24 ⟨rfl, c24⟩
  clear hC
  have HB25 : Hid (Below W3.heap.size W3 v24) := on2 HB24.out c24
  clear c24 HB24
  go_wp2_with fail
  --M9
  go_ret
  exact ⟨rfl, on2 HZ.out.2.2.2 HB25.out⟩
end Go.Proofs.YtpombhiffpbedaaGreat
