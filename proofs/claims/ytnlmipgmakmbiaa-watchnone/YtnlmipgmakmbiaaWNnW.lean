/- A watcher that no call made: every call refuses; the law WatchNone, walked. Condition: none. -/
import Derived.Test.YtnlmipgmakmbiaaWPg
import Derived.Test.YtnlmipgmakmbiaaWWk
namespace Go.Proofs.Ytnlmipgmakmbiaa
open Go.RowKit
set_option linter.unusedSimpArgs false
set_option maxRecDepth 100000

theorem made_n (w : World) : Calls Try.prog 30 #[.pointer none] w fun e w' => e = .returned (.bool false) ∧ w' = w := by
  go_enter Try.func30, Try.ntmps30
  go_wp2_with fail
  go_ret
  exact ⟨rfl, rfl⟩
theorem of_n (k : Int) (w : World) : Calls Try.prog 25 #[.pointer none, .int .i64 k] w fun e w' => e = .returned (.tuple #[.pointer none, .int .i64 1]) ∧ w' = w := by
  have hC := made_n w
  go_enter Try.func25, Try.ntmps25
  go_wp2_with fail
  refine hC.mono ?_
  rintro e w2 ⟨rfl, rfl⟩
  clear hC
  go_wp2_with fail
  go_ret2
  exact ⟨rfl, rfl⟩
theorem Seen_n (k : Int) (w : World) : Calls Try.prog 21 #[.pointer none, .int .i64 k] w fun e w' => e = .returned (.tuple #[.int .i64 0, .int .i64 1]) ∧ w' = w := by
  have hC := of_n k w
  go_enter Try.func21, Try.ntmps21
  go_wp2_with fail
  refine hC.mono ?_
  rintro e w2 ⟨rfl, rfl⟩
  clear hC
  go_wp2_with fail
  go_ret2
  exact ⟨rfl, rfl⟩
theorem Cut_n (k : Int) (w : World) : Calls Try.prog 16 #[.pointer none, .int .i64 k] w fun e w' => e = .returned (.int .i64 1) ∧ w' = w := by
  have hC := of_n k w
  go_enter Try.func16, Try.ntmps16
  go_wp2_with fail
  refine hC.mono ?_
  rintro e w2 ⟨rfl, rfl⟩
  clear hC
  go_wp2_with fail
  go_ret
  exact ⟨rfl, rfl⟩
theorem List_n (k v : Int) (w : World) : Calls Try.prog 18 #[.pointer none, .int .i64 k, .int .i64 v] w fun e w' => e = .returned (.int .i64 1) ∧ w' = w := by
  have hC := of_n k w
  go_enter Try.func18, Try.ntmps18
  go_wp2_with fail
  refine hC.mono ?_
  rintro e w2 ⟨rfl, rfl⟩
  clear hC
  go_wp2_with fail
  go_ret
  exact ⟨rfl, rfl⟩
theorem Behind_n (k : Int) (w : World) : Calls Try.prog 22 #[.pointer none, .int .i64 k, .slice none 0 0] w fun e w' => e = .returned (.tuple #[.int .i64 0, .int .i64 1]) ∧ w' = w := by
  have hC := of_n k w
  go_enter Try.func22, Try.ntmps22
  go_wp2_with fail
  refine hC.mono ?_
  rintro e w2 ⟨rfl, rfl⟩
  clear hC
  go_wp2_with fail
  go_ret2
  exact ⟨rfl, rfl⟩
theorem Clone_n (w : World) : Calls Try.prog 20 #[.pointer none] w fun e w' => e = .returned (.pointer none) ∧ w' = w := by
  have hC := made_n w
  go_enter Try.func20, Try.ntmps20
  go_wp2_with fail
  refine hC.mono ?_
  rintro e w2 ⟨rfl, rfl⟩
  clear hC
  go_wp2_with fail
  go_ret
  exact ⟨rfl, rfl⟩
theorem Next_n (k n : Int) (w : World) : Calls Try.prog 13 #[.pointer none, .int .i64 k, .int .i64 n, .slice none 0 0] w fun e w' => e = .returned (.tuple #[.slice none 0 0, .int .i64 1]) ∧ Below w.heap.size w w' := by
  obtain ⟨W0, hW0⟩ : ∃ W, W = w.alloc (.cells #[.int .i64 n] 3) := ⟨_, rfl⟩
  have b0 : Below w.heap.size w W0 := by rw [hW0]; exact (Below.refl _ _).alloc (Nat.le_refl _) _
  have hC := of_n k W0
  have HW0 : Hid (w.alloc (.cells #[.int .i64 n] 3) = W0) := hW0.symm
  have HB : Hid (Below w.heap.size w W0) := b0
  clear hW0 b0
  go_enter Try.func13, Try.ntmps13
  go_upto_region 1 with fail
  rw [HW0.out]
  go_wp2_with fail
  refine hC.mono ?_
  rintro e w2 ⟨rfl, rfl⟩
  clear hC
  go_wp2_with fail
  go_ret2
  exact ⟨rfl, HB.out⟩
theorem cell_lt13 {w : World} {p : Addr} {v : Value} (h : w.cell? p = some v) : p.block < w.heap.size := by
  unfold World.cell? at h
  split at h
  · rename_i hb; exact (Array.getElem?_eq_some_iff.1 hb).1
  · cases h
theorem made_z (z : Nat) (w : World) (h : w.cell? ⟨z, 0, none⟩ = some (.bool false)) : Calls Try.prog 30 #[.pointer (some ⟨z, 0, none⟩)] w fun e w' => e = .returned (.bool false) ∧ w' = w := by
  go_enter Try.func30, Try.ntmps30
  go_wp2_with fail
  go_ret
  exact ⟨rfl, rfl⟩
theorem of_z (z : Nat) (k : Int) (w : World) (h : w.cell? ⟨z, 0, none⟩ = some (.bool false)) : Calls Try.prog 25 #[.pointer (some ⟨z, 0, none⟩), .int .i64 k] w fun e w' => e = .returned (.tuple #[.pointer none, .int .i64 1]) ∧ w' = w := by
  have hC := made_z z w h
  go_enter Try.func25, Try.ntmps25
  go_wp2_with fail
  refine hC.mono ?_
  rintro e w2 ⟨rfl, rfl⟩
  clear hC
  go_wp2_with fail
  go_ret2
  exact ⟨rfl, rfl⟩
theorem Seen_z (z : Nat) (k : Int) (w : World) (h : w.cell? ⟨z, 0, none⟩ = some (.bool false)) : Calls Try.prog 21 #[.pointer (some ⟨z, 0, none⟩), .int .i64 k] w fun e w' => e = .returned (.tuple #[.int .i64 0, .int .i64 1]) ∧ w' = w := by
  have hC := of_z z k w h
  go_enter Try.func21, Try.ntmps21
  go_wp2_with fail
  refine hC.mono ?_
  rintro e w2 ⟨rfl, rfl⟩
  clear hC
  go_wp2_with fail
  go_ret2
  exact ⟨rfl, rfl⟩
theorem Cut_z (z : Nat) (k : Int) (w : World) (h : w.cell? ⟨z, 0, none⟩ = some (.bool false)) : Calls Try.prog 16 #[.pointer (some ⟨z, 0, none⟩), .int .i64 k] w fun e w' => e = .returned (.int .i64 1) ∧ w' = w := by
  have hC := of_z z k w h
  go_enter Try.func16, Try.ntmps16
  go_wp2_with fail
  refine hC.mono ?_
  rintro e w2 ⟨rfl, rfl⟩
  clear hC
  go_wp2_with fail
  go_ret
  exact ⟨rfl, rfl⟩
theorem List_z (z : Nat) (k v : Int) (w : World) (h : w.cell? ⟨z, 0, none⟩ = some (.bool false)) : Calls Try.prog 18 #[.pointer (some ⟨z, 0, none⟩), .int .i64 k, .int .i64 v] w fun e w' => e = .returned (.int .i64 1) ∧ w' = w := by
  have hC := of_z z k w h
  go_enter Try.func18, Try.ntmps18
  go_wp2_with fail
  refine hC.mono ?_
  rintro e w2 ⟨rfl, rfl⟩
  clear hC
  go_wp2_with fail
  go_ret
  exact ⟨rfl, rfl⟩
theorem Behind_z (z : Nat) (k : Int) (w : World) (h : w.cell? ⟨z, 0, none⟩ = some (.bool false)) : Calls Try.prog 22 #[.pointer (some ⟨z, 0, none⟩), .int .i64 k, .slice none 0 0] w fun e w' => e = .returned (.tuple #[.int .i64 0, .int .i64 1]) ∧ w' = w := by
  have hC := of_z z k w h
  go_enter Try.func22, Try.ntmps22
  go_wp2_with fail
  refine hC.mono ?_
  rintro e w2 ⟨rfl, rfl⟩
  clear hC
  go_wp2_with fail
  go_ret2
  exact ⟨rfl, rfl⟩
theorem Clone_z (z : Nat) (w : World) (h : w.cell? ⟨z, 0, none⟩ = some (.bool false)) : Calls Try.prog 20 #[.pointer (some ⟨z, 0, none⟩)] w fun e w' => e = .returned (.pointer none) ∧ w' = w := by
  have hC := made_z z w h
  go_enter Try.func20, Try.ntmps20
  go_wp2_with fail
  refine hC.mono ?_
  rintro e w2 ⟨rfl, rfl⟩
  clear hC
  go_wp2_with fail
  go_ret
  exact ⟨rfl, rfl⟩
theorem Next_z (z : Nat) (k n : Int) (w : World) (h : w.cell? ⟨z, 0, none⟩ = some (.bool false)) : Calls Try.prog 13 #[.pointer (some ⟨z, 0, none⟩), .int .i64 k, .int .i64 n, .slice none 0 0] w fun e w' => e = .returned (.tuple #[.slice none 0 0, .int .i64 1]) ∧ Below w.heap.size w w' := by
  obtain ⟨W0, hW0⟩ : ∃ W, W = w.alloc (.cells #[.int .i64 n] 3) := ⟨_, rfl⟩
  have b0 : Below w.heap.size w W0 := by rw [hW0]; exact (Below.refl _ _).alloc (Nat.le_refl _) _
  have hC := of_z z k W0 ((b0.cell (p := ⟨z, 0, none⟩) (cell_lt13 h)).trans h)
  have HW0 : Hid (w.alloc (.cells #[.int .i64 n] 3) = W0) := hW0.symm
  have HB : Hid (Below w.heap.size w W0) := b0
  clear hW0 b0 h
  go_enter Try.func13, Try.ntmps13
  go_upto_region 1 with fail
  rw [HW0.out]
  go_wp2_with fail
  refine hC.mono ?_
  rintro e w2 ⟨rfl, rfl⟩
  clear hC
  go_wp2_with fail
  go_ret2
  exact ⟨rfl, HB.out⟩
set_option maxHeartbeats 8000000 in
theorem none_walk (x0 x1 x2 : Int) (w : World) : Calls Try.prog 7 #[.agg #[.int .i64 x0, .int .i64 x1, .int .i64 x2]] w fun e w' => e = .returned (.bool true) ∧ Below w.heap.size w w' := by
  obtain ⟨W1, hW1⟩ : ∃ W, W = w.alloc (.cells #[.int .i64 x0, .int .i64 x1, .int .i64 x2] 31) := ⟨_, rfl⟩
  have q1 : BoxL W1 w.heap.size [.int .i64 x0, .int .i64 x1, .int .i64 x2] := by rw [hW1]; exact BoxL.new w _ _
  have b1 : Below w.heap.size w W1 := by rw [hW1]; exact (Below.refl _ _).alloc (Nat.le_refl _) _
  have hC := works13_calls watchOK W1
  have HW1 : Hid (w.alloc (.cells #[.int .i64 x0, .int .i64 x1, .int .i64 x2] 31) = W1) := hW1.symm
  clear hW1
  go_enter Try.func7, Try.ntmps7
  go_upto_region 1 with fail
  rw [HW1.out]
  go_wp2_with fail
  refine hC.mono ?_
  rintro e W2 ⟨rfl, b2⟩
  clear hC
  go_upto_region 5 with fail
  --M1
  obtain ⟨W3, hW3⟩ : ∃ W, W = W2.alloc (.cells #[.bool false, .int .i64 0, .bool false, .int .i64 0, .bool false, .int .i64 0, .bool false, .int .i64 0, .bool false, .int .i64 0, .bool false, .int .i64 0, .bool false, .int .i64 0, .bool false] 82) := ⟨_, rfl⟩
  have b3 : Below W2.heap.size W2 W3 := by rw [hW3]; exact (Below.refl _ _).alloc (Nat.le_refl _) _
  have q3 : BoxL W3 W2.heap.size [.bool false, .int .i64 0, .bool false, .int .i64 0, .bool false, .int .i64 0, .bool false, .int .i64 0, .bool false, .int .i64 0, .bool false, .int .i64 0, .bool false, .int .i64 0, .bool false] := by rw [hW3]; exact BoxL.new W2 _ _
  obtain ⟨z, hz⟩ : ∃ z, z = W2.heap.size := ⟨_, rfl⟩
  rw [← hW3, ← hz]
  rw [← hz] at q3
  have HZ : Hid (∀ y, Below W3.heap.size W3 y → y.cell? ⟨z, 0, none⟩ = some (.bool false) ∧ y.cell? ⟨w.heap.size, 1, none⟩ = some (.int .i64 x1) ∧ y.cell? ⟨w.heap.size, 2, none⟩ = some (.int .i64 x2) ∧ Below w.heap.size w y) := fun y hy => ⟨((q3.on hy).2 0 _ rfl).1, ((((q1.on b2).on b3).on hy).2 1 _ rfl).1, ((((q1.on b2).on b3).on hy).2 2 _ rfl).1, on2 b1 (on2 b2 (on2 b3 hy))⟩
  have hb := Below.refl W3.heap.size W3
  clear hW3 hz b3 q3 q1 b1 b2 HW1
  obtain ⟨f0, f1, f2, f3⟩ := HZ.out W3 hb
  have hC := Next_n x1 x2 W3
  have Hb : Hid (Below W3.heap.size W3 W3) := hb
  clear f0 f3 hb
  go_wp2_with fail
  refine hC.mono ?_
  rintro e y0 ⟨rfl, dy⟩
  have hb : Below W3.heap.size W3 y0 := on2 Hb.out dy
  clear hC f1 f2 Hb dy
  obtain ⟨f0, f1, f2, f3⟩ := HZ.out y0 hb
  have hC := Next_z z x1 x2 y0 (HZ.out y0 hb).1
  have Hb : Hid (Below W3.heap.size W3 y0) := hb
  clear f0 f3 hb
  go_wp2_with fail
  refine hC.mono ?_
  rintro e y1 ⟨rfl, dy⟩
  have hb : Below W3.heap.size W3 y1 := on2 Hb.out dy
  clear hC f1 f2 Hb dy
  obtain ⟨f0, f1, f2, f3⟩ := HZ.out y1 hb
  have hC := Seen_n 1 y1
  have Hb : Hid (Below W3.heap.size W3 y1) := hb
  clear f0 f3 hb
  go_wp2_with fail
  refine hC.mono ?_
  rintro e y2 ⟨rfl, rfl⟩
  have hb : Below W3.heap.size W3 y2 := Hb.out
  clear hC f1 f2 Hb
  obtain ⟨f0, f1, f2, f3⟩ := HZ.out y2 hb
  have hC := Seen_z z 1 y2 (HZ.out y2 hb).1
  have Hb : Hid (Below W3.heap.size W3 y2) := hb
  clear f0 f3 hb
  go_wp2_with fail
  refine hC.mono ?_
  rintro e y3 ⟨rfl, rfl⟩
  have hb : Below W3.heap.size W3 y3 := Hb.out
  clear hC f1 f2 Hb
  obtain ⟨f0, f1, f2, f3⟩ := HZ.out y3 hb
  have hC := Behind_n 1 y3
  have Hb : Hid (Below W3.heap.size W3 y3) := hb
  clear f0 f3 hb
  go_wp2_with fail
  refine hC.mono ?_
  rintro e y4 ⟨rfl, rfl⟩
  have hb : Below W3.heap.size W3 y4 := Hb.out
  clear hC f1 f2 Hb
  obtain ⟨f0, f1, f2, f3⟩ := HZ.out y4 hb
  have hC := Behind_z z 1 y4 (HZ.out y4 hb).1
  have Hb : Hid (Below W3.heap.size W3 y4) := hb
  clear f0 f3 hb
  go_wp2_with fail
  refine hC.mono ?_
  rintro e y5 ⟨rfl, rfl⟩
  have hb : Below W3.heap.size W3 y5 := Hb.out
  clear hC f1 f2 Hb
  obtain ⟨f0, f1, f2, f3⟩ := HZ.out y5 hb
  have hC := Cut_n 1 y5
  have Hb : Hid (Below W3.heap.size W3 y5) := hb
  clear f0 f3 hb
  go_wp2_with fail
  refine hC.mono ?_
  rintro e y6 ⟨rfl, rfl⟩
  have hb : Below W3.heap.size W3 y6 := Hb.out
  clear hC f1 f2 Hb
  obtain ⟨f0, f1, f2, f3⟩ := HZ.out y6 hb
  have hC := Cut_z z 1 y6 (HZ.out y6 hb).1
  have Hb : Hid (Below W3.heap.size W3 y6) := hb
  clear f0 f3 hb
  go_wp2_with fail
  refine hC.mono ?_
  rintro e y7 ⟨rfl, rfl⟩
  have hb : Below W3.heap.size W3 y7 := Hb.out
  clear hC f1 f2 Hb
  obtain ⟨f0, f1, f2, f3⟩ := HZ.out y7 hb
  have hC := List_n 1 1 y7
  have Hb : Hid (Below W3.heap.size W3 y7) := hb
  clear f0 f3 hb
  go_wp2_with fail
  refine hC.mono ?_
  rintro e y8 ⟨rfl, rfl⟩
  have hb : Below W3.heap.size W3 y8 := Hb.out
  clear hC f1 f2 Hb
  obtain ⟨f0, f1, f2, f3⟩ := HZ.out y8 hb
  have hC := List_z z 1 1 y8 (HZ.out y8 hb).1
  have Hb : Hid (Below W3.heap.size W3 y8) := hb
  clear f0 f3 hb
  go_wp2_with fail
  refine hC.mono ?_
  rintro e y9 ⟨rfl, rfl⟩
  have hb : Below W3.heap.size W3 y9 := Hb.out
  clear hC f1 f2 Hb
  obtain ⟨f0, f1, f2, f3⟩ := HZ.out y9 hb
  have hC := Clone_n y9
  have Hb : Hid (Below W3.heap.size W3 y9) := hb
  clear f0 f3 hb
  go_wp2_with fail
  refine hC.mono ?_
  rintro e y10 ⟨rfl, rfl⟩
  have hb : Below W3.heap.size W3 y10 := Hb.out
  clear hC f1 f2 Hb
  obtain ⟨f0, f1, f2, f3⟩ := HZ.out y10 hb
  have hC := Clone_z z y10 (HZ.out y10 hb).1
  have Hb : Hid (Below W3.heap.size W3 y10) := hb
  clear f0 f3 hb
  go_wp2_with fail
  refine hC.mono ?_
  rintro e y11 ⟨rfl, rfl⟩
  have hb : Below W3.heap.size W3 y11 := Hb.out
  clear hC f1 f2 Hb
  have HF : Hid (Below w.heap.size w y11) := (HZ.out y11 hb).2.2.2
  clear HZ hb
  --M2
  go_wp2_with fail
  go_ret
  exact ⟨rfl, HF.out⟩
end Go.Proofs.Ytnlmipgmakmbiaa
