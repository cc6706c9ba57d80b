/- QueueAgain's walk. No condition. -/
import Derived.Test.YtpombhiffpbedaaQ18
import Derived.Test.YtpombhiffpbedaaW01
namespace Go.Proofs.Ytpombhiffpbedaa
open Go.RowKit Go.Maps
set_option linter.unusedSimpArgs false
set_option maxRecDepth 100000

theorem again_back (x : WtD) (now : Int) (hx : x.1.toList.isEmpty = false) (hn : whenY now = true) : bkY [] x.1 now = 0 := by
  unfold bkY agY
  rw [if_pos hn, if_neg (by rw [hx]; decide)]
  rfl
theorem fnd_one (e : EnD) : fndG enN [e] e.1.1 = some e := by
  unfold fndG
  rw [List.find?_cons]
  have : sEq (enN e) e.1.1 = true := (sEq_iff _ _).2 rfl
  rw [this]
theorem pl_one (e : EnD) : plY [e] e.1.1 = (e.2, e.1, 0) := by unfold plY; rw [fnd_one]
theorem tk_two {x : WtD} {m : Int} (h : whenY m = true) (ht : x.2.2.2.2 ≤ m) : tkL [(x, 2)] m = [(x, 1)] := by
  unfold tkL tkE
  rw [if_pos h]
  simp [ht]
theorem tk_three (x : WtD) (m : Int) : tkL [(x, 3)] m = [(x, 3)] := by
  unfold tkL tkE
  simp
theorem mv_one (x : WtD) (m : Int) : mvL [(x, 1)] m = [(x, 1)] := by
  unfold mvL mvE
  simp
theorem mv_three {x : WtD} {m : Int} (h : whenY m = true) (ht : x.2.2.2.2 ≤ m) : mvL [(x, 3)] m = [(x, 1)] := by
  unfold mvL mvE
  rw [if_pos h]
  simp [ht]
set_option maxHeartbeats 16000000 in
theorem again_walk (x : WtD) (n0 : Int) (room : Bool) (w : World) (hs : okS x.1) (ht : x.2.2.2.1 ≤ 9223372036854775807) : Calls Try.prog 5 #[.agg (wtC x).toArray, .int .i64 n0, .bool room] w fun e w' => e = .returned (.bool true) ∧ Below w.heap.size w w' := by
  obtain ⟨W1, hW1⟩ : ∃ Z, Z = w.alloc (.cells (wtC x).toArray 28) := ⟨_, rfl⟩
  have b1 : Below w.heap.size w W1 := by rw [hW1]; exact (Below.refl _ _).alloc (Nat.le_refl _) _
  have q1 : BoxL W1 w.heap.size (wtC x) := by rw [hW1]; exact BoxL.new w 28 (wtC x)
  have hW := works14_calls W1
  obtain ⟨now, hnow⟩ : ∃ z : Int, z = (amongP n0 1073741824 : Int) := ⟨_, rfl⟩
  have HA : Hid (∀ z, Calls Try.prog 9 #[.int .i64 n0, .int .i64 1073741824] z fun e u' => e = .returned (.int .i64 now) ∧ u' = z) := fun z => by have := Among_is n0 1073741824 (by decide) (by decide) z; rw [← hnow] at this; exact this
  have hn0 : 0 ≤ now := by omega
  have hn1 : now < 1073741824 := by have := among_lt n0 (m := 1073741824) (by decide); omega
  have HW1 : Hid (w.alloc (.cells (wtC x).toArray 28) = W1) := hW1.symm
  have H1 : Hid (BoxL W1 w.heap.size (wtC x) ∧ Below w.heap.size w W1) := ⟨q1, b1⟩
  have hwn : whenY now = true := by unfold whenY; simp; omega
  have hwn2 : whenY (now + 16) = true := by unfold whenY; simp; omega
  clear hW1 b1 q1 hnow
  cases he : x.1.toList.isEmpty with
  | true =>
    have he2 : (x.1.toList == []) = true := by simpa using he
    have HWn : Hid (whenY now = true ∧ whenY (now + 16) = true) := ⟨hwn, hwn2⟩
    clear hwn hwn2
    go_enter Try.func5, Try.ntmps5
    go_upto_region 1 with fail
    rw [HW1.out]
    go_wp2_with fail
    refine hW.mono ?_
    rintro e w2 ⟨rfl, b2⟩
    have hA := HA.out w2
    clear HA hW
    go_wp2_with fail
    refine hA.mono ?_
    rintro e w3 ⟨rfl, hw3⟩
    obtain rfl := hw3.symm
    clear hA
    have hN := ynew_calls w2
    go_wp2_with fail
    refine hN.mono ?_
    rintro e w4 ⟨p, rfl, h4, b4⟩
    have q4 := (H1.out.1.on b2).on b4
    have c0 : w4.cell? ⟨w.heap.size, 0, none⟩ = some (.string x.1) := (q4.2 0 _ rfl).1
    have HB : Hid (Below w.heap.size w w4) := on2 H1.out.2 (on2 b2 b4)
    clear hN h4 b4 b2 q4
    go_wp2_with fail
    --M1
    go_ret
    exact ⟨rfl, HB.out⟩
  | false =>
    have he2 : (x.1.toList == []) = false := by simpa using he
    obtain ⟨d, hd⟩ : ∃ d, d = delayY x.2.2.2.1 := ⟨_, rfl⟩
    have hdi := delayY_in x.2.2.2.1
    rw [← hd] at hdi
    obtain ⟨hd0, hd1⟩ := hdi
    have hbk := again_back x now he hwn
    have HBk : Hid (bkY [] x.1 now = 0 ∧ backE x now room = ((x.1, x.2.1, x.2.2.1, x.2.2.2.1, now + d), if room = true then 2 else 3)) := ⟨hbk, by rw [hd]; rfl⟩
    have HWn : Hid (whenY now = true ∧ whenY (now + 16) = true) := ⟨hwn, hwn2⟩
    have Hs : Hid (okS x.1 ∧ x.2.2.2.1 ≤ 9223372036854775807) := ⟨hs, ht⟩
    clear hbk hd hwn hwn2 hs ht he
    obtain ⟨x0, x1, x2, x3, x4⟩ := x
    go_enter Try.func5, Try.ntmps5
    go_upto_region 1 with fail
    rw [HW1.out]
    go_wp2_with fail
    refine hW.mono ?_
    rintro e w2 ⟨rfl, b2⟩
    have hA := HA.out w2
    clear HA hW
    go_wp2_with fail
    refine hA.mono ?_
    rintro e w3 ⟨rfl, hw3⟩
    obtain rfl := hw3.symm
    clear hA
    have hN := ynew_calls w2
    go_wp2_with fail
    refine hN.mono ?_
    rintro e w4 ⟨p, rfl, h4, b4⟩
    have q4 := (H1.out.1.on b2).on b4
    have c0 : w4.cell? ⟨w.heap.size, 0, none⟩ = some (.string x0) := (q4.2 0 _ rfl).1
    have HX4 : Hid (w4.rangeAt w.heap.size 0 (wtC (x0, x1, x2, x3, x4))) := q4.range
    have HQ4 : Hid (BoxL w4 w.heap.size (wtC (x0, x1, x2, x3, x4)) ∧ Below w.heap.size w w4 ∧ w.heap.size < w2.heap.size ∧ w2.heap.size ≤ w4.heap.size) := ⟨q4, on2 H1.out.2 (on2 b2 b4), by have := H1.out.1.1; have := b2.size; omega, b4.size⟩
    have hC := yback_calls h4 (fun b hb => Nat.le_trans b4.size hb) (x0, x1, x2, x3, x4) Hs.out.1 Hs.out.2 now room (by decide)
    rw [HBk.out.1, addL_0, HBk.out.2] at hC
    clear hN h4 b4 b2 q4 HX4
    have HX4 : Hid (w4.rangeAt w.heap.size 0 (wtC (x0, x1, x2, x3, x4))) := HQ4.out.1.range
    simp only [List.nil_append] at hC
    go_wp2_with (first | (refine wpList_load_mid rfl 28 _ rfl w.heap.size 0 rfl (wtC (x0, x1, x2, x3, x4)) _ HX4.out Try.underlying28 rfl (by kernel_rfl) ?_) | fail)
    --M2
    refine hC.mono ?_
    rintro e w5 ⟨rfl, h5, k5⟩
    have HQ5 : Hid (BoxL w5 w.heap.size (wtC (x0, x1, x2, x3, x4)) ∧ Turns (Fresh w2) w4 w5) := ⟨k5.box HQ4.out.1 (fun (hf : w2.heap.size ≤ w.heap.size) => by have := HQ4.out.2.2.1; omega), k5⟩
    have c5 : w5.cell? ⟨w.heap.size, 0, none⟩ = some (.string x0) := (HQ5.out.1.2 0 _ rfl).1
    have hP := yplace_calls h5 x0 Hs.out.1
    have epl : plY [((x0, x1, x2, x3, now + d), if room = true then 2 else 3)] x0 = (if room = true then 2 else 3, (x0, x1, x2, x3, now + d), 0) := pl_one _
    rw [epl] at hP
    clear epl hC c0 HX4
    have H5 : Hid (QA (Fresh w2) w5 p [((x0, x1, x2, x3, now + d), if room = true then 2 else 3)] 0 []) := h5
    clear h5 k5
    cases room with
    | true =>
      have H5r : Hid (QA (Fresh w2) w5 p [((x0, x1, x2, x3, now + d), 2)] 0 []) := H5.out
      have epr : (if true = true then (2 : Int) else 3) = 2 := rfl
      simp only [epr] at hP
      clear H5 epr
      go_wp2_with fail
      refine hP.mono ?_
      rintro e w6 ⟨rfl, b6⟩
      clear hP c5
      obtain ⟨W7, hW7⟩ : ∃ Z, Z = w6.alloc (.cells #[.string x0, .int .i64 x1, .int .i64 x2, .int .i64 x3, .int .i64 (now + d)] 28) := ⟨_, rfl⟩
      have b7 : Below w6.heap.size w6 W7 := by rw [hW7]; exact (Below.refl _ _).alloc (Nat.le_refl _) _
      have q7 : BoxL W7 w6.heap.size (wtC (x0, x1, x2, x3, now + d)) := by rw [hW7]; exact BoxL.new w6 28 _
      have h7 := ((H5r.out.on b6).weak (G := fun b => Fresh w2 b ∧ b ≠ w6.heap.size) (fun b hb hf => ⟨hf, by omega⟩)).on b7
      have HL7 : Hid (w.heap.size < w2.heap.size ∧ w2.heap.size ≤ w6.heap.size) := ⟨HQ4.out.2.2.1, by have h1 := HQ4.out.2.2.2; have h2 := HQ5.out.2.size; have h3 := b6.size; omega⟩
      have HF7 : Hid (∀ b, W7.heap.size ≤ b → Fresh w2 b ∧ b ≠ w6.heap.size) := fun b hb => ⟨by have h1 := HL7.out.2; have h2 := b7.size; show w2.heap.size ≤ b; omega, by have := q7.1; omega⟩
      have hT := ytick_calls h7 HF7.out (now + 16) (by simp)
      have HQ7 : Hid (BoxL W7 w.heap.size (wtC (x0, x1, x2, x3, x4)) ∧ BoxL W7 w6.heap.size (wtC (x0, x1, x2, x3, now + d)) ∧ Below w.heap.size w W7) := ⟨(HQ5.out.1.on b6).on b7, q7, (Turns.behind HQ4.out.2.1 (HQ5.out.2.weak (fun b _ (hf : w2.heap.size ≤ b) => (show w.heap.size ≤ b by have h1 := HQ4.out.2.2.1; omega)))).trans ((on2 b6 b7).mono (by have h1 := HQ5.out.2.size; have h2 := HQ4.out.2.2.1; have h3 := HQ4.out.2.2.2; omega))⟩
      have HW7 : Hid (w6.alloc (.cells #[.string x0, .int .i64 x1, .int .i64 x2, .int .i64 x3, .int .i64 (now + d)] 28) = W7) := hW7.symm
      rw [tk_two HWn.out.2 (show now + d ≤ now + 16 by omega)] at hT
      clear h7 b6 b7 q7 hW7 H5r
      go_wp2_with fail
      rw [HW7.out]
      --R1
      refine hT.mono ?_
      rintro e w8 ⟨rfl, h8, k8⟩
      clear hT HW7
      have hP := yplace_calls h8 x0 Hs.out.1
      rw [show plY [((x0, x1, x2, x3, now + d), 1)] x0 = (1, (x0, x1, x2, x3, now + d), 0) from pl_one _] at hP
      have HQ8 : Hid (BoxL w8 w.heap.size (wtC (x0, x1, x2, x3, x4)) ∧ BoxL w8 w6.heap.size (wtC (x0, x1, x2, x3, now + d)) ∧ Below w.heap.size w w8) := ⟨k8.box HQ7.out.1 (fun hf => by have h1 : w2.heap.size ≤ w.heap.size := hf.1; have h2 := HL7.out.1; omega), k8.box HQ7.out.2.1 (fun hf => hf.2 rfl), Turns.behind HQ7.out.2.2 (k8.weak (fun b _ hf => (show w.heap.size ≤ b by have h1 : w2.heap.size ≤ b := hf.1; have h2 := HL7.out.1; omega)))⟩
      have HF8 : Hid (∀ b, w8.heap.size ≤ b → Fresh w2 b ∧ b ≠ w6.heap.size) := fun b hb => HF7.out b (Nat.le_trans k8.size hb)
      have c8 : w8.cell? ⟨w.heap.size, 0, none⟩ = some (.string x0) := (HQ8.out.1.2 0 _ rfl).1
      have H8 : Hid (QA (fun b => Fresh w2 b ∧ b ≠ w6.heap.size) w8 p [((x0, x1, x2, x3, now + d), 1)] 0 []) := h8
      clear h8 k8 HQ7 HF7
      go_wp2_with fail
      refine hP.mono ?_
      rintro e w9 ⟨rfl, b9⟩
      clear hP c8
      obtain ⟨W10, hW10⟩ : ∃ Z, Z = w9.alloc (.cells #[.string x0, .int .i64 x1, .int .i64 x2, .int .i64 x3, .int .i64 (now + d)] 28) := ⟨_, rfl⟩
      have b10 : Below w9.heap.size w9 W10 := by rw [hW10]; exact (Below.refl _ _).alloc (Nat.le_refl _) _
      have hM := ymove_calls ((H8.out.on b9).on b10) (fun b hb => HF8.out b (Nat.le_trans b9.size (Nat.le_trans b10.size hb))) (now + 16) (by simp)
      rw [mv_one _ _] at hM
      have HQ10 : Hid (BoxL W10 w.heap.size (wtC (x0, x1, x2, x3, x4)) ∧ BoxL W10 w6.heap.size (wtC (x0, x1, x2, x3, now + d)) ∧ Below w.heap.size w W10) := ⟨(HQ8.out.1.on b9).on b10, (HQ8.out.2.1.on b9).on b10, on2 (on2 HQ8.out.2.2 b9) b10⟩
      have HW10 : Hid (w9.alloc (.cells #[.string x0, .int .i64 x1, .int .i64 x2, .int .i64 x3, .int .i64 (now + d)] 28) = W10) := hW10.symm
      clear b9 b10 hW10 H8 HQ8
      go_wp2_with fail
      rw [HW10.out]
      refine hM.mono ?_
      rintro e w11 ⟨rfl, h11, k11⟩
      clear hM HW10
      have hP := yplace_calls h11 x0 Hs.out.1
      rw [show plY [((x0, x1, x2, x3, now + d), 1)] x0 = (1, (x0, x1, x2, x3, now + d), 0) from pl_one _] at hP
      have HQ11 : Hid (BoxL w11 w.heap.size (wtC (x0, x1, x2, x3, x4)) ∧ BoxL w11 w6.heap.size (wtC (x0, x1, x2, x3, now + d)) ∧ Below w.heap.size w w11) := ⟨k11.box HQ10.out.1 (fun hf => by have h1 : w2.heap.size ≤ w.heap.size := hf.1; have h2 := HL7.out.1; omega), k11.box HQ10.out.2.1 (fun hf => hf.2 rfl), Turns.behind HQ10.out.2.2 (k11.weak (fun b _ hf => (show w.heap.size ≤ b by have h1 : w2.heap.size ≤ b := hf.1; have h2 := HL7.out.1; omega)))⟩
      have c11 : w11.cell? ⟨w.heap.size, 0, none⟩ = some (.string x0) := (HQ11.out.1.2 0 _ rfl).1
      clear h11 k11 HQ10
      go_wp2_with fail
      refine hP.mono ?_
      rintro e w12 ⟨rfl, b12⟩
      clear hP c11
      obtain ⟨W13, hW13⟩ : ∃ Z, Z = w12.alloc (.cells #[.string x0, .int .i64 x1, .int .i64 x2, .int .i64 x3, .int .i64 (now + d)] 28) := ⟨_, rfl⟩
      have b13 : Below w12.heap.size w12 W13 := by rw [hW13]; exact (Below.refl _ _).alloc (Nat.le_refl _) _
      have c13 : W13.cell? ⟨w6.heap.size, 4, none⟩ = some (.int .i64 (now + d)) := (((HQ11.out.2.1.on b12).on b13).2 4 _ rfl).1
      have HB13 : Hid (Below w.heap.size w W13) := on2 (on2 HQ11.out.2.2 b12) b13
      have HW13 : Hid (w12.alloc (.cells #[.string x0, .int .i64 x1, .int .i64 x2, .int .i64 x3, .int .i64 (now + d)] 28) = W13) := hW13.symm
      have hlo : ¬ (now + d < now) := by omega
      have hhi : ¬ (now + 16 < now + d) := by omega
      clear b12 b13 hW13 HQ11
      go_upto_region 14 with fail
      rw [HW13.out]
      go_wp2_with fail
      --R2
      go_ret
      exact ⟨rfl, HB13.out⟩
    | false =>
      have H5r : Hid (QA (Fresh w2) w5 p [((x0, x1, x2, x3, now + d), 3)] 0 []) := H5.out
      have epr : (if false = true then (2 : Int) else 3) = 3 := rfl
      simp only [epr] at hP
      clear H5 epr
      go_wp2_with fail
      refine hP.mono ?_
      rintro e w6 ⟨rfl, b6⟩
      clear hP c5
      obtain ⟨W7, hW7⟩ : ∃ Z, Z = w6.alloc (.cells #[.string x0, .int .i64 x1, .int .i64 x2, .int .i64 x3, .int .i64 (now + d)] 28) := ⟨_, rfl⟩
      have b7 : Below w6.heap.size w6 W7 := by rw [hW7]; exact (Below.refl _ _).alloc (Nat.le_refl _) _
      have q7 : BoxL W7 w6.heap.size (wtC (x0, x1, x2, x3, now + d)) := by rw [hW7]; exact BoxL.new w6 28 _
      have h7 := ((H5r.out.on b6).weak (G := fun b => Fresh w2 b ∧ b ≠ w6.heap.size) (fun b hb hf => ⟨hf, by omega⟩)).on b7
      have HL7 : Hid (w.heap.size < w2.heap.size ∧ w2.heap.size ≤ w6.heap.size) := ⟨HQ4.out.2.2.1, by have h1 := HQ4.out.2.2.2; have h2 := HQ5.out.2.size; have h3 := b6.size; omega⟩
      have HF7 : Hid (∀ b, W7.heap.size ≤ b → Fresh w2 b ∧ b ≠ w6.heap.size) := fun b hb => ⟨by have h1 := HL7.out.2; have h2 := b7.size; show w2.heap.size ≤ b; omega, by have := q7.1; omega⟩
      have hT := ytick_calls h7 HF7.out (now + 16) (by simp)
      have HQ7 : Hid (BoxL W7 w.heap.size (wtC (x0, x1, x2, x3, x4)) ∧ BoxL W7 w6.heap.size (wtC (x0, x1, x2, x3, now + d)) ∧ Below w.heap.size w W7) := ⟨(HQ5.out.1.on b6).on b7, q7, (Turns.behind HQ4.out.2.1 (HQ5.out.2.weak (fun b _ (hf : w2.heap.size ≤ b) => (show w.heap.size ≤ b by have h1 := HQ4.out.2.2.1; omega)))).trans ((on2 b6 b7).mono (by have h1 := HQ5.out.2.size; have h2 := HQ4.out.2.2.1; have h3 := HQ4.out.2.2.2; omega))⟩
      have HW7 : Hid (w6.alloc (.cells #[.string x0, .int .i64 x1, .int .i64 x2, .int .i64 x3, .int .i64 (now + d)] 28) = W7) := hW7.symm
      rw [tk_three _ _] at hT
      clear h7 b6 b7 q7 hW7 H5r
      go_wp2_with fail
      rw [HW7.out]
      --R1
      refine hT.mono ?_
      rintro e w8 ⟨rfl, h8, k8⟩
      clear hT HW7
      have hP := yplace_calls h8 x0 Hs.out.1
      rw [show plY [((x0, x1, x2, x3, now + d), 3)] x0 = (3, (x0, x1, x2, x3, now + d), 0) from pl_one _] at hP
      have HQ8 : Hid (BoxL w8 w.heap.size (wtC (x0, x1, x2, x3, x4)) ∧ BoxL w8 w6.heap.size (wtC (x0, x1, x2, x3, now + d)) ∧ Below w.heap.size w w8) := ⟨k8.box HQ7.out.1 (fun hf => by have h1 : w2.heap.size ≤ w.heap.size := hf.1; have h2 := HL7.out.1; omega), k8.box HQ7.out.2.1 (fun hf => hf.2 rfl), Turns.behind HQ7.out.2.2 (k8.weak (fun b _ hf => (show w.heap.size ≤ b by have h1 : w2.heap.size ≤ b := hf.1; have h2 := HL7.out.1; omega)))⟩
      have HF8 : Hid (∀ b, w8.heap.size ≤ b → Fresh w2 b ∧ b ≠ w6.heap.size) := fun b hb => HF7.out b (Nat.le_trans k8.size hb)
      have c8 : w8.cell? ⟨w.heap.size, 0, none⟩ = some (.string x0) := (HQ8.out.1.2 0 _ rfl).1
      have H8 : Hid (QA (fun b => Fresh w2 b ∧ b ≠ w6.heap.size) w8 p [((x0, x1, x2, x3, now + d), 3)] 0 []) := h8
      clear h8 k8 HQ7 HF7
      go_wp2_with fail
      refine hP.mono ?_
      rintro e w9 ⟨rfl, b9⟩
      clear hP c8
      obtain ⟨W10, hW10⟩ : ∃ Z, Z = w9.alloc (.cells #[.string x0, .int .i64 x1, .int .i64 x2, .int .i64 x3, .int .i64 (now + d)] 28) := ⟨_, rfl⟩
      have b10 : Below w9.heap.size w9 W10 := by rw [hW10]; exact (Below.refl _ _).alloc (Nat.le_refl _) _
      have hM := ymove_calls ((H8.out.on b9).on b10) (fun b hb => HF8.out b (Nat.le_trans b9.size (Nat.le_trans b10.size hb))) (now + 16) (by simp)
      rw [mv_three HWn.out.2 (show now + d ≤ now + 16 by omega)] at hM
      have HQ10 : Hid (BoxL W10 w.heap.size (wtC (x0, x1, x2, x3, x4)) ∧ BoxL W10 w6.heap.size (wtC (x0, x1, x2, x3, now + d)) ∧ Below w.heap.size w W10) := ⟨(HQ8.out.1.on b9).on b10, (HQ8.out.2.1.on b9).on b10, on2 (on2 HQ8.out.2.2 b9) b10⟩
      have HW10 : Hid (w9.alloc (.cells #[.string x0, .int .i64 x1, .int .i64 x2, .int .i64 x3, .int .i64 (now + d)] 28) = W10) := hW10.symm
      clear b9 b10 hW10 H8 HQ8
      go_wp2_with fail
      rw [HW10.out]
      refine hM.mono ?_
      rintro e w11 ⟨rfl, h11, k11⟩
      clear hM HW10
      have hP := yplace_calls h11 x0 Hs.out.1
      rw [show plY [((x0, x1, x2, x3, now + d), 1)] x0 = (1, (x0, x1, x2, x3, now + d), 0) from pl_one _] at hP
      have HQ11 : Hid (BoxL w11 w.heap.size (wtC (x0, x1, x2, x3, x4)) ∧ BoxL w11 w6.heap.size (wtC (x0, x1, x2, x3, now + d)) ∧ Below w.heap.size w w11) := ⟨k11.box HQ10.out.1 (fun hf => by have h1 : w2.heap.size ≤ w.heap.size := hf.1; have h2 := HL7.out.1; omega), k11.box HQ10.out.2.1 (fun hf => hf.2 rfl), Turns.behind HQ10.out.2.2 (k11.weak (fun b _ hf => (show w.heap.size ≤ b by have h1 : w2.heap.size ≤ b := hf.1; have h2 := HL7.out.1; omega)))⟩
      have c11 : w11.cell? ⟨w.heap.size, 0, none⟩ = some (.string x0) := (HQ11.out.1.2 0 _ rfl).1
      clear h11 k11 HQ10
      go_wp2_with fail
      refine hP.mono ?_
      rintro e w12 ⟨rfl, b12⟩
      clear hP c11
      obtain ⟨W13, hW13⟩ : ∃ Z, Z = w12.alloc (.cells #[.string x0, .int .i64 x1, .int .i64 x2, .int .i64 x3, .int .i64 (now + d)] 28) := ⟨_, rfl⟩
      have b13 : Below w12.heap.size w12 W13 := by rw [hW13]; exact (Below.refl _ _).alloc (Nat.le_refl _) _
      have c13 : W13.cell? ⟨w6.heap.size, 4, none⟩ = some (.int .i64 (now + d)) := (((HQ11.out.2.1.on b12).on b13).2 4 _ rfl).1
      have HB13 : Hid (Below w.heap.size w W13) := on2 (on2 HQ11.out.2.2 b12) b13
      have HW13 : Hid (w12.alloc (.cells #[.string x0, .int .i64 x1, .int .i64 x2, .int .i64 x3, .int .i64 (now + d)] 28) = W13) := hW13.symm
      have hlo : ¬ (now + d < now) := by omega
      have hhi : ¬ (now + 16 < now + d) := by omega
      clear b12 b13 hW13 HQ11
      go_upto_region 14 with fail
      rw [HW13.out]
      go_wp2_with fail
      --R2
      go_ret
      exact ⟨rfl, HB13.out⟩
end Go.Proofs.Ytpombhiffpbedaa
