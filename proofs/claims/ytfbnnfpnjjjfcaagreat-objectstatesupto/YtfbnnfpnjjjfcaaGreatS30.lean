/- object.own: a state with rows of its own, and its like. No condition beyond what each says. -/
import Derived.Test.YtfbnnfpnjjjfcaaGreatS29
namespace Go.Proofs.YtfbnnfpnjjjfcaaGreat
set_option maxHeartbeats 16000000
set_option maxRecDepth 100000
open Tryz Go.RowKit
set_option linter.unusedSimpArgs false
structure OwnSt (A : Where) (w u : World) (v0 v1 v2 v3 v4 v5 : Value) (x : StateD) : Prop where
 r0 : Row RPod 16 A w u 33 (v0) x.1
 r1 : Row RNode 9 A w u 36 (v1) x.2.1
 r2 : Row RVolume 5 A w u 38 (v2) x.2.2.1
 r3 : Row RClaim 4 A w u 40 (v3) x.2.2.2.1
 r4 : Row RClass 2 A w u 42 (v4) x.2.2.2.2.1
 r5 : Row RBudget 3 A w u 44 (v5) x.2.2.2.2.2
 ap : [v0, v1, v2, v3, v4, v5].Pairwise NoShare
theorem pair6 {a0 a1 a2 a3 a4 a5 : Value} (h01 : NoShare a0 a1) (h02 : NoShare a0 a2) (h03 : NoShare a0 a3) (h04 : NoShare a0 a4) (h05 : NoShare a0 a5) (h12 : NoShare a1 a2) (h13 : NoShare a1 a3) (h14 : NoShare a1 a4) (h15 : NoShare a1 a5) (h23 : NoShare a2 a3) (h24 : NoShare a2 a4) (h25 : NoShare a2 a5) (h34 : NoShare a3 a4) (h35 : NoShare a3 a5) (h45 : NoShare a4 a5) : [a0, a1, a2, a3, a4, a5].Pairwise NoShare := by simp [*]
theorem own_calls (h0 h1 h2 h3 h4 h5 : Hd) (A : Where) (x : StateD) (w : World) (q0 : SlAt RPod 16 296 A w h0.1 h0.2.1 h0.2.2 x.1) (q1 : SlAt RNode 9 112 A w h1.1 h1.2.1 h1.2.2 x.2.1) (q2 : SlAt RVolume 5 80 A w h2.1 h2.2.1 h2.2.2 x.2.2.1) (q3 : SlAt RClaim 4 56 A w h3.1 h3.2.1 h3.2.2 x.2.2.2.1) (q4 : SlAt RClass 2 24 A w h4.1 h4.2.1 h4.2.2 x.2.2.2.2.1) (q5 : SlAt RBudget 3 48 A w h5.1 h5.2.1 h5.2.2 x.2.2.2.2.2) : Calls prog 48 #[.agg #[J h0, J h1, J h2, J h3, J h4, J h5]] w fun e w' => ∃ g0 g1 g2 g3 g4 g5 : Hd, e = .returned (.agg #[J g0, J g1, J g2, J g3, J g4, J g5]) ∧ OwnSt (Lo A w) w w' (J g0) (J g1) (J g2) (J g3) (J g4) (J g5) x ∧ Below w.heap.size w w' := by
 have H0 : Hid (SlAt RPod 16 296 (Lo A w) w h0.1 h0.2.1 h0.2.2 x.1) := q0.weak RPod.firm (fun b hb h => ⟨h, hb⟩)
 clear q0
 have H1 : Hid (SlAt RNode 9 112 (Lo A w) w h1.1 h1.2.1 h1.2.2 x.2.1) := q1.weak RNode.firm (fun b hb h => ⟨h, hb⟩)
 clear q1
 have H2 : Hid (SlAt RVolume 5 80 (Lo A w) w h2.1 h2.2.1 h2.2.2 x.2.2.1) := q2.weak RVolume.firm (fun b hb h => ⟨h, hb⟩)
 clear q2
 have H3 : Hid (SlAt RClaim 4 56 (Lo A w) w h3.1 h3.2.1 h3.2.2 x.2.2.2.1) := q3.weak RClaim.firm (fun b hb h => ⟨h, hb⟩)
 clear q3
 have H4 : Hid (SlAt RClass 2 24 (Lo A w) w h4.1 h4.2.1 h4.2.2 x.2.2.2.2.1) := q4.weak RClass.firm (fun b hb h => ⟨h, hb⟩)
 clear q4
 have H5 : Hid (SlAt RBudget 3 48 (Lo A w) w h5.1 h5.2.1 h5.2.2 x.2.2.2.2.2) := q5.weak RBudget.firm (fun b hb h => ⟨h, hb⟩)
 clear q5
 have HH : Hid (Held w [(w.heap.size, [J h0, J h1, J h2, J h3, J h4, J h5])] [(w.heap.size + 1, 6)] ((w.alloc (.cells #[J h0, J h1, J h2, J h3, J h4, J h5] 61)).alloc (.cells #[Z, Z, Z, Z, Z, Z] 61))) := ((Held.start w).push rfl [J h0, J h1, J h2, J h3, J h4, J h5] 61).room (by simp) #[Z, Z, Z, Z, Z, Z] 61
 go_enter func48, ntmps48
 go_wp2_with fail
 refine t0 (Held w [(w.heap.size, [J h0, J h1, J h2, J h3, J h4, J h5])] [(w.heap.size + 1, 6)]) (HH.out.drew) (fun hH => ?_)
 refine tp 0 ?_; try go_frame
 refine' tk 1 ?_ ?_; rotate_left
 ·
  intro u hu; have hc0 := Held.cell hu 0 rfl 0 rfl; clear hu; go_simp; try with_reducible rfl
 try go_frame
 refine tp 3 ?_; try go_frame
 refine' tk 4 ?_ ?_; rotate_left
 ·
  intro u hu; have hc0 := Held.cell hu 0 rfl 1 rfl; clear hu; go_simp; try with_reducible rfl
 try go_frame
 refine tp 6 ?_; try go_frame
 refine' tk 7 ?_ ?_; rotate_left
 ·
  intro u hu; have hc0 := Held.cell hu 0 rfl 2 rfl; clear hu; go_simp; try with_reducible rfl
 try go_frame
 refine tp 9 ?_; try go_frame
 refine' tk 10 ?_ ?_; rotate_left
 ·
  intro u hu; have hc0 := Held.cell hu 0 rfl 3 rfl; clear hu; go_simp; try with_reducible rfl
 try go_frame
 refine tp 12 ?_; try go_frame
 refine' tk 13 ?_ ?_; rotate_left
 ·
  intro u hu; have hc0 := Held.cell hu 0 rfl 4 rfl; clear hu; go_simp; try with_reducible rfl
 try go_frame
 refine tp 15 ?_; try go_frame
 refine' tk 16 ?_ ?_; rotate_left
 ·
  intro u hu; have hc0 := Held.cell hu 0 rfl 5 rfl; clear hu; go_simp; try with_reducible rfl
 try go_frame
 refine tr 2 (fun K hK => ?_)
 refine want_yes (by rfl) (call_enter (f := 68) (args := #[J h0]) (by kernel_rfl) (ClonePod _ _ _ (Lo A w) x.1 _ (H0.out.kept RPod.firm (Kept.below hH.below))) (fun e w1 he => ?_))
 obtain ⟨v0, rfl, hr0⟩ := he
 obtain ⟨g0, rfl, hz0⟩ := hr0.hd
 clear hz0
 have hb0 := hr0.below
 have HR0 : Hid (Row RPod 16 (Lo A w) w w1 33 (J g0) x.1) := hr0.from RPod.firm hH.below (fun b h => h.1)
 have HL0 : Hid (∀ b, Value.ownBlock (J g0) = some b → b < w1.heap.size) := fun b hb => (hr0.lt hb).2
 have HG0 : Hid (∀ b, Value.ownBlock (J g0) = some b → w.heap.size + 1 < b) := fun b hb => Nat.lt_of_lt_of_le (hH.ltM 0 (b := w.heap.size + 1) rfl) (hr0.lt hb).1
 have HS0 : Hid (w1.heap.size ≤ w1.heap.size) := Nat.le_refl _
 refine ⟨_, rfl, hK.out _ _ (hH.on hb0) (fun hH => ?_)⟩
 clear hK K
 try go_frame
 refine tr 5 (fun K hK => ?_)
 refine want_yes (by rfl) (call_enter (f := 69) (args := #[J h1]) (by kernel_rfl) (CloneNode _ _ _ (Lo A w) x.2.1 _ (H1.out.kept RNode.firm (Kept.below hH.below))) (fun e w2 he => ?_))
 obtain ⟨v1, rfl, hr1⟩ := he
 obtain ⟨g1, rfl, hz1⟩ := hr1.hd
 clear hz1
 have hb1 := hr1.below
 have HRn0 : Hid (Row RPod 16 (Lo A w) w w2 33 (J g0) x.1) := HR0.out.on RPod.firm hb1
 clear HR0
 have HR0 := HRn0
 clear HRn0
 have HN0_1 : Hid (NoShare (J g0) (J g1)) := fun b hb hb2 => absurd (HL0.out b hb) (Nat.not_lt.2 (Nat.le_trans HS0.out (hr1.lt hb2).1))
 have HR1 : Hid (Row RNode 9 (Lo A w) w w2 36 (J g1) x.2.1) := hr1.from RNode.firm hH.below (fun b h => h.1)
 have HL1 : Hid (∀ b, Value.ownBlock (J g1) = some b → b < w2.heap.size) := fun b hb => (hr1.lt hb).2
 have HG1 : Hid (∀ b, Value.ownBlock (J g1) = some b → w.heap.size + 1 < b) := fun b hb => Nat.lt_of_lt_of_le (hH.ltM 0 (b := w.heap.size + 1) rfl) (hr1.lt hb).1
 have HS1 : Hid (w2.heap.size ≤ w2.heap.size) := Nat.le_refl _
 have HSn0 : Hid (w1.heap.size ≤ w2.heap.size) := Nat.le_trans HS0.out hb1.size
 clear HS0
 have HS0 := HSn0
 clear HSn0
 refine ⟨_, rfl, hK.out _ _ (hH.on hb1) (fun hH => ?_)⟩
 clear hK K
 try go_frame
 refine tr 8 (fun K hK => ?_)
 refine want_yes (by rfl) (call_enter (f := 70) (args := #[J h2]) (by kernel_rfl) (CloneVolume _ _ _ (Lo A w) x.2.2.1 _ (H2.out.kept RVolume.firm (Kept.below hH.below))) (fun e w3 he => ?_))
 obtain ⟨v2, rfl, hr2⟩ := he
 obtain ⟨g2, rfl, hz2⟩ := hr2.hd
 clear hz2
 have hb2 := hr2.below
 have HRn0 : Hid (Row RPod 16 (Lo A w) w w3 33 (J g0) x.1) := HR0.out.on RPod.firm hb2
 clear HR0
 have HR0 := HRn0
 clear HRn0
 have HRn1 : Hid (Row RNode 9 (Lo A w) w w3 36 (J g1) x.2.1) := HR1.out.on RNode.firm hb2
 clear HR1
 have HR1 := HRn1
 clear HRn1
 have HN0_2 : Hid (NoShare (J g0) (J g2)) := fun b hb hb2 => absurd (HL0.out b hb) (Nat.not_lt.2 (Nat.le_trans HS0.out (hr2.lt hb2).1))
 have HN1_2 : Hid (NoShare (J g1) (J g2)) := fun b hb hb2 => absurd (HL1.out b hb) (Nat.not_lt.2 (Nat.le_trans HS1.out (hr2.lt hb2).1))
 have HR2 : Hid (Row RVolume 5 (Lo A w) w w3 38 (J g2) x.2.2.1) := hr2.from RVolume.firm hH.below (fun b h => h.1)
 have HL2 : Hid (∀ b, Value.ownBlock (J g2) = some b → b < w3.heap.size) := fun b hb => (hr2.lt hb).2
 have HG2 : Hid (∀ b, Value.ownBlock (J g2) = some b → w.heap.size + 1 < b) := fun b hb => Nat.lt_of_lt_of_le (hH.ltM 0 (b := w.heap.size + 1) rfl) (hr2.lt hb).1
 have HS2 : Hid (w3.heap.size ≤ w3.heap.size) := Nat.le_refl _
 have HSn0 : Hid (w1.heap.size ≤ w3.heap.size) := Nat.le_trans HS0.out hb2.size
 clear HS0
 have HS0 := HSn0
 clear HSn0
 have HSn1 : Hid (w2.heap.size ≤ w3.heap.size) := Nat.le_trans HS1.out hb2.size
 clear HS1
 have HS1 := HSn1
 clear HSn1
 refine ⟨_, rfl, hK.out _ _ (hH.on hb2) (fun hH => ?_)⟩
 clear hK K
 try go_frame
 refine tr 11 (fun K hK => ?_)
 refine want_yes (by rfl) (call_enter (f := 71) (args := #[J h3]) (by kernel_rfl) (CloneClaim _ _ _ (Lo A w) x.2.2.2.1 _ (H3.out.kept RClaim.firm (Kept.below hH.below))) (fun e w4 he => ?_))
 obtain ⟨v3, rfl, hr3⟩ := he
 obtain ⟨g3, rfl, hz3⟩ := hr3.hd
 clear hz3
 have hb3 := hr3.below
 have HRn0 : Hid (Row RPod 16 (Lo A w) w w4 33 (J g0) x.1) := HR0.out.on RPod.firm hb3
 clear HR0
 have HR0 := HRn0
 clear HRn0
 have HRn1 : Hid (Row RNode 9 (Lo A w) w w4 36 (J g1) x.2.1) := HR1.out.on RNode.firm hb3
 clear HR1
 have HR1 := HRn1
 clear HRn1
 have HRn2 : Hid (Row RVolume 5 (Lo A w) w w4 38 (J g2) x.2.2.1) := HR2.out.on RVolume.firm hb3
 clear HR2
 have HR2 := HRn2
 clear HRn2
 have HN0_3 : Hid (NoShare (J g0) (J g3)) := fun b hb hb2 => absurd (HL0.out b hb) (Nat.not_lt.2 (Nat.le_trans HS0.out (hr3.lt hb2).1))
 have HN1_3 : Hid (NoShare (J g1) (J g3)) := fun b hb hb2 => absurd (HL1.out b hb) (Nat.not_lt.2 (Nat.le_trans HS1.out (hr3.lt hb2).1))
 have HN2_3 : Hid (NoShare (J g2) (J g3)) := fun b hb hb2 => absurd (HL2.out b hb) (Nat.not_lt.2 (Nat.le_trans HS2.out (hr3.lt hb2).1))
 have HR3 : Hid (Row RClaim 4 (Lo A w) w w4 40 (J g3) x.2.2.2.1) := hr3.from RClaim.firm hH.below (fun b h => h.1)
 have HL3 : Hid (∀ b, Value.ownBlock (J g3) = some b → b < w4.heap.size) := fun b hb => (hr3.lt hb).2
 have HG3 : Hid (∀ b, Value.ownBlock (J g3) = some b → w.heap.size + 1 < b) := fun b hb => Nat.lt_of_lt_of_le (hH.ltM 0 (b := w.heap.size + 1) rfl) (hr3.lt hb).1
 have HS3 : Hid (w4.heap.size ≤ w4.heap.size) := Nat.le_refl _
 have HSn0 : Hid (w1.heap.size ≤ w4.heap.size) := Nat.le_trans HS0.out hb3.size
 clear HS0
 have HS0 := HSn0
 clear HSn0
 have HSn1 : Hid (w2.heap.size ≤ w4.heap.size) := Nat.le_trans HS1.out hb3.size
 clear HS1
 have HS1 := HSn1
 clear HSn1
 have HSn2 : Hid (w3.heap.size ≤ w4.heap.size) := Nat.le_trans HS2.out hb3.size
 clear HS2
 have HS2 := HSn2
 clear HSn2
 refine ⟨_, rfl, hK.out _ _ (hH.on hb3) (fun hH => ?_)⟩
 clear hK K
 try go_frame
 refine tr 14 (fun K hK => ?_)
 refine want_yes (by rfl) (call_enter (f := 72) (args := #[J h4]) (by kernel_rfl) (CloneClass _ _ _ (Lo A w) x.2.2.2.2.1 _ (H4.out.kept RClass.firm (Kept.below hH.below))) (fun e w5 he => ?_))
 obtain ⟨v4, rfl, hr4⟩ := he
 obtain ⟨g4, rfl, hz4⟩ := hr4.hd
 clear hz4
 have hb4 := hr4.below
 have HRn0 : Hid (Row RPod 16 (Lo A w) w w5 33 (J g0) x.1) := HR0.out.on RPod.firm hb4
 clear HR0
 have HR0 := HRn0
 clear HRn0
 have HRn1 : Hid (Row RNode 9 (Lo A w) w w5 36 (J g1) x.2.1) := HR1.out.on RNode.firm hb4
 clear HR1
 have HR1 := HRn1
 clear HRn1
 have HRn2 : Hid (Row RVolume 5 (Lo A w) w w5 38 (J g2) x.2.2.1) := HR2.out.on RVolume.firm hb4
 clear HR2
 have HR2 := HRn2
 clear HRn2
 have HRn3 : Hid (Row RClaim 4 (Lo A w) w w5 40 (J g3) x.2.2.2.1) := HR3.out.on RClaim.firm hb4
 clear HR3
 have HR3 := HRn3
 clear HRn3
 have HN0_4 : Hid (NoShare (J g0) (J g4)) := fun b hb hb2 => absurd (HL0.out b hb) (Nat.not_lt.2 (Nat.le_trans HS0.out (hr4.lt hb2).1))
 have HN1_4 : Hid (NoShare (J g1) (J g4)) := fun b hb hb2 => absurd (HL1.out b hb) (Nat.not_lt.2 (Nat.le_trans HS1.out (hr4.lt hb2).1))
 have HN2_4 : Hid (NoShare (J g2) (J g4)) := fun b hb hb2 => absurd (HL2.out b hb) (Nat.not_lt.2 (Nat.le_trans HS2.out (hr4.lt hb2).1))
 have HN3_4 : Hid (NoShare (J g3) (J g4)) := fun b hb hb2 => absurd (HL3.out b hb) (Nat.not_lt.2 (Nat.le_trans HS3.out (hr4.lt hb2).1))
 have HR4 : Hid (Row RClass 2 (Lo A w) w w5 42 (J g4) x.2.2.2.2.1) := hr4.from RClass.firm hH.below (fun b h => h.1)
 have HL4 : Hid (∀ b, Value.ownBlock (J g4) = some b → b < w5.heap.size) := fun b hb => (hr4.lt hb).2
 have HG4 : Hid (∀ b, Value.ownBlock (J g4) = some b → w.heap.size + 1 < b) := fun b hb => Nat.lt_of_lt_of_le (hH.ltM 0 (b := w.heap.size + 1) rfl) (hr4.lt hb).1
 have HS4 : Hid (w5.heap.size ≤ w5.heap.size) := Nat.le_refl _
 have HSn0 : Hid (w1.heap.size ≤ w5.heap.size) := Nat.le_trans HS0.out hb4.size
 clear HS0
 have HS0 := HSn0
 clear HSn0
 have HSn1 : Hid (w2.heap.size ≤ w5.heap.size) := Nat.le_trans HS1.out hb4.size
 clear HS1
 have HS1 := HSn1
 clear HSn1
 have HSn2 : Hid (w3.heap.size ≤ w5.heap.size) := Nat.le_trans HS2.out hb4.size
 clear HS2
 have HS2 := HSn2
 clear HSn2
 have HSn3 : Hid (w4.heap.size ≤ w5.heap.size) := Nat.le_trans HS3.out hb4.size
 clear HS3
 have HS3 := HSn3
 clear HSn3
 refine ⟨_, rfl, hK.out _ _ (hH.on hb4) (fun hH => ?_)⟩
 clear hK K
 try go_frame
 refine tr 17 (fun K hK => ?_)
 refine want_yes (by rfl) (call_enter (f := 73) (args := #[J h5]) (by kernel_rfl) (CloneBudget _ _ _ (Lo A w) x.2.2.2.2.2 _ (H5.out.kept RBudget.firm (Kept.below hH.below))) (fun e w6 he => ?_))
 obtain ⟨v5, rfl, hr5⟩ := he
 obtain ⟨g5, rfl, hz5⟩ := hr5.hd
 clear hz5
 have hb5 := hr5.below
 have HRn0 : Hid (Row RPod 16 (Lo A w) w w6 33 (J g0) x.1) := HR0.out.on RPod.firm hb5
 clear HR0
 have HR0 := HRn0
 clear HRn0
 have HRn1 : Hid (Row RNode 9 (Lo A w) w w6 36 (J g1) x.2.1) := HR1.out.on RNode.firm hb5
 clear HR1
 have HR1 := HRn1
 clear HRn1
 have HRn2 : Hid (Row RVolume 5 (Lo A w) w w6 38 (J g2) x.2.2.1) := HR2.out.on RVolume.firm hb5
 clear HR2
 have HR2 := HRn2
 clear HRn2
 have HRn3 : Hid (Row RClaim 4 (Lo A w) w w6 40 (J g3) x.2.2.2.1) := HR3.out.on RClaim.firm hb5
 clear HR3
 have HR3 := HRn3
 clear HRn3
 have HRn4 : Hid (Row RClass 2 (Lo A w) w w6 42 (J g4) x.2.2.2.2.1) := HR4.out.on RClass.firm hb5
 clear HR4
 have HR4 := HRn4
 clear HRn4
 have HN0_5 : Hid (NoShare (J g0) (J g5)) := fun b hb hb2 => absurd (HL0.out b hb) (Nat.not_lt.2 (Nat.le_trans HS0.out (hr5.lt hb2).1))
 have HN1_5 : Hid (NoShare (J g1) (J g5)) := fun b hb hb2 => absurd (HL1.out b hb) (Nat.not_lt.2 (Nat.le_trans HS1.out (hr5.lt hb2).1))
 have HN2_5 : Hid (NoShare (J g2) (J g5)) := fun b hb hb2 => absurd (HL2.out b hb) (Nat.not_lt.2 (Nat.le_trans HS2.out (hr5.lt hb2).1))
 have HN3_5 : Hid (NoShare (J g3) (J g5)) := fun b hb hb2 => absurd (HL3.out b hb) (Nat.not_lt.2 (Nat.le_trans HS3.out (hr5.lt hb2).1))
 have HN4_5 : Hid (NoShare (J g4) (J g5)) := fun b hb hb2 => absurd (HL4.out b hb) (Nat.not_lt.2 (Nat.le_trans HS4.out (hr5.lt hb2).1))
 have HR5 : Hid (Row RBudget 3 (Lo A w) w w6 44 (J g5) x.2.2.2.2.2) := hr5.from RBudget.firm hH.below (fun b h => h.1)
 have HL5 : Hid (∀ b, Value.ownBlock (J g5) = some b → b < w6.heap.size) := fun b hb => (hr5.lt hb).2
 have HG5 : Hid (∀ b, Value.ownBlock (J g5) = some b → w.heap.size + 1 < b) := fun b hb => Nat.lt_of_lt_of_le (hH.ltM 0 (b := w.heap.size + 1) rfl) (hr5.lt hb).1
 have HS5 : Hid (w6.heap.size ≤ w6.heap.size) := Nat.le_refl _
 have HSn0 : Hid (w1.heap.size ≤ w6.heap.size) := Nat.le_trans HS0.out hb5.size
 clear HS0
 have HS0 := HSn0
 clear HSn0
 have HSn1 : Hid (w2.heap.size ≤ w6.heap.size) := Nat.le_trans HS1.out hb5.size
 clear HS1
 have HS1 := HSn1
 clear HSn1
 have HSn2 : Hid (w3.heap.size ≤ w6.heap.size) := Nat.le_trans HS2.out hb5.size
 clear HS2
 have HS2 := HSn2
 clear HSn2
 have HSn3 : Hid (w4.heap.size ≤ w6.heap.size) := Nat.le_trans HS3.out hb5.size
 clear HS3
 have HS3 := HSn3
 clear HSn3
 have HSn4 : Hid (w5.heap.size ≤ w6.heap.size) := Nat.le_trans HS4.out hb5.size
 clear HS4
 have HS4 := HSn4
 clear HSn4
 refine ⟨_, rfl, hK.out _ _ (hH.on hb5) (fun hH => ?_)⟩
 clear hK K
 try go_frame
 refine tp 18 ?_; try go_frame
 first | refine tr 19 (fun K hK => ?_) | refine ts 19 (fun K hK => ?_)
 refine want_yes (by rfl) (wp_store_mid 61 _ _ rfl (w.heap.size + 1) 0 #[J g0, J g1, J g2, J g3, J g4, J g5] rfl rfl (hH.there 0 rfl) infoSta (by simp [Value.oneCell']) ?_)
 obtain ⟨W7, hW7⟩ : ∃ W7, W7 = w6.setCells (w.heap.size + 1) 0 [J g0, J g1, J g2, J g3, J g4, J g5] := ⟨_, rfl⟩
 have hM := hH.there 0 (b := w.heap.size + 1) rfl
 have HBW : Hid (Below w.heap.size w W7) := by rw [Hid, hW7]; exact below_setCells hH.below (by omega)
 have HRG : Hid (W7.rangeAt (w.heap.size + 1) 0 [J g0, J g1, J g2, J g3, J g4, J g5]) := by rw [Hid, hW7]; exact World.rangeAt_setCells_same _ _ _ _ hM
 have HOS : Hid (OwnSt (Lo A w) w W7 (J g0) (J g1) (J g2) (J g3) (J g4) (J g5) x) := by
  have hbW := HBW.out
  rw [hW7] at hbW
  rw [Hid, hW7]
  exact ⟨HR0.out.kept RPod.firm hbW (kept_setCells (fun h => by rcases h with h | h; exact absurd h.2 (by omega); exact absurd (HG0.out _ h) (Nat.lt_irrefl _))), HR1.out.kept RNode.firm hbW (kept_setCells (fun h => by rcases h with h | h; exact absurd h.2 (by omega); exact absurd (HG1.out _ h) (Nat.lt_irrefl _))), HR2.out.kept RVolume.firm hbW (kept_setCells (fun h => by rcases h with h | h; exact absurd h.2 (by omega); exact absurd (HG2.out _ h) (Nat.lt_irrefl _))), HR3.out.kept RClaim.firm hbW (kept_setCells (fun h => by rcases h with h | h; exact absurd h.2 (by omega); exact absurd (HG3.out _ h) (Nat.lt_irrefl _))), HR4.out.kept RClass.firm hbW (kept_setCells (fun h => by rcases h with h | h; exact absurd h.2 (by omega); exact absurd (HG4.out _ h) (Nat.lt_irrefl _))), HR5.out.kept RBudget.firm hbW (kept_setCells (fun h => by rcases h with h | h; exact absurd h.2 (by omega); exact absurd (HG5.out _ h) (Nat.lt_irrefl _))), pair6 HN0_1.out HN0_2.out HN0_3.out HN0_4.out HN0_5.out HN1_2.out HN1_3.out HN1_4.out HN1_5.out HN2_3.out HN2_4.out HN2_5.out HN3_4.out HN3_5.out HN4_5.out⟩
 refine at_world hW7 ?_
 refine hK.out _ _ (by rw [hW7]; exact hH.wrote 0 rfl (by simp)) (fun hH2 => ?_)
 clear hM hW7 HR0 HG0 HL0 HS0 hr0 hb0 HR1 HG1 HL1 HS1 hr1 hb1 HR2 HG2 HL2 HS2 hr2 hb2 HR3 HG3 HL3 HS3 hr3 hb3 HR4 HG4 HL4 HS4 hr4 hb4 HR5 HG5 HL5 HS5 hr5 hb5
 clear hK K hH; have hH := hH2; clear hH2
 try go_frame
 refine tz ?_
 go_wp2_with fail
 refine bodyPost_ret (v := .agg #[J g0, J g1, J g2, J g3, J g4, J g5]) (res_cell (p := 2) (ty := 61) rfl _ _ (w.heap.size + 1) [J g0, J g1, J g2, J g3, J g4, J g5] _ rfl HRG.out underlying61 rfl infoSta) rfl ⟨g0, g1, g2, g3, g4, g5, rfl, HOS.out, HBW.out⟩
theorem region_cut {P : Program} {id : Nat} {ops : Array Oper} {b : Bool} {Q : Exit → Act → World → Prop} {a : Act} {w : World} (F : Act → World → Prop) (h : (Code.region id ops b).wp P (NoPanic fun x a' u' => x = .normal ∧ F a' u') a w) (k : ∀ a' u', F a' u' → Q .normal a' u') : (Code.region id ops b).wp P Q a w :=
 Code.wp_mono (fun e a' u' hq => by
  cases e with
  | normal => exact k a' u' hq.2
  | panic _ => exact (hq : False).elim
  | ret => exact absurd hq.1 (by simp)
  | exit _ => exact absurd hq.1 (by simp)
  | outgrown => exact absurd hq.1 (by simp)
  | goto _ => exact absurd hq.1 (by simp)) h
theorem wpl_at {P : Program} {ops : Array Oper} {Q : Exit → Act → World → Prop} {rest : List Oper} {a : Act} {u W : World} (h : W = u) (k : wpList P ops Q rest a W) : wpList P ops Q rest a u := h ▸ k
def OwnB (v0 v1 v2 v3 v4 v5 : Value) (b : Nat) : Prop := v0.ownBlock = some b ∨ v1.ownBlock = some b ∨ v2.ownBlock = some b ∨ v3.ownBlock = some b ∨ v4.ownBlock = some b ∨ v5.ownBlock = some b
section
variable {A : Where} {w u u' : World} {v0 v1 v2 v3 v4 v5 : Value} {x : StateD}
theorem OwnSt.on (h : OwnSt A w u v0 v1 v2 v3 v4 v5 x) (hb : Below u.heap.size u u') : OwnSt A w u' v0 v1 v2 v3 v4 v5 x :=
 ⟨h.r0.on RPod.firm hb, h.r1.on RNode.firm hb, h.r2.on RVolume.firm hb, h.r3.on RClaim.firm hb, h.r4.on RClass.firm hb, h.r5.on RBudget.firm hb, h.ap⟩
theorem OwnSt.from {w1 : World} {A' : Where} (h : OwnSt A w1 u v0 v1 v2 v3 v4 v5 x) (hb : Below w.heap.size w w1) (hA : ∀ b, A b → A' b) : OwnSt A' w u v0 v1 v2 v3 v4 v5 x :=
 ⟨h.r0.from RPod.firm hb hA, h.r1.from RNode.firm hb hA, h.r2.from RVolume.firm hb hA, h.r3.from RClaim.firm hb hA, h.r4.from RClass.firm hb hA, h.r5.from RBudget.firm hb hA, h.ap⟩
theorem OwnSt.kept (h : OwnSt A w u v0 v1 v2 v3 v4 v5 x) (hb : Below w.heap.size w u') (hk : Kept (fun b => A b ∨ OwnB v0 v1 v2 v3 v4 v5 b) u u') : OwnSt A w u' v0 v1 v2 v3 v4 v5 x :=
 ⟨h.r0.kept RPod.firm hb (hk.weak (fun b hb => hb.imp id (fun e => by simp [OwnB, e]))), h.r1.kept RNode.firm hb (hk.weak (fun b hb => hb.imp id (fun e => by simp [OwnB, e]))), h.r2.kept RVolume.firm hb (hk.weak (fun b hb => hb.imp id (fun e => by simp [OwnB, e]))), h.r3.kept RClaim.firm hb (hk.weak (fun b hb => hb.imp id (fun e => by simp [OwnB, e]))), h.r4.kept RClass.firm hb (hk.weak (fun b hb => hb.imp id (fun e => by simp [OwnB, e]))), h.r5.kept RBudget.firm hb (hk.weak (fun b hb => hb.imp id (fun e => by simp [OwnB, e]))), h.ap⟩
theorem OwnSt.lt (h : OwnSt A w u v0 v1 v2 v3 v4 v5 x) {b : Nat} (hb : OwnB v0 v1 v2 v3 v4 v5 b) : w.heap.size ≤ b ∧ b < u.heap.size := by
 rcases hb with hb | hb | hb | hb | hb | hb
 ·
  exact h.r0.lt hb
 ·
  exact h.r1.lt hb
 ·
  exact h.r2.lt hb
 ·
  exact h.r3.lt hb
 ·
  exact h.r4.lt hb
 ·
  exact h.r5.lt hb
theorem OwnSt.below (h : OwnSt A w u v0 v1 v2 v3 v4 v5 x) : Below w.heap.size w u := h.r0.below
end
def noState : StateD := ([], [], [], [], [], [])
theorem OwnSt.none {A : Where} {w u : World} (hb : Below w.heap.size w u) : OwnSt A w u (Z) (Z) (Z) (Z) (Z) (Z) noState :=
 ⟨⟨[], ⟨hb, by simp [noState], .inl ⟨rfl, rfl⟩⟩, Chunks.nil _ _⟩, ⟨[], ⟨hb, by simp [noState], .inl ⟨rfl, rfl⟩⟩, Chunks.nil _ _⟩, ⟨[], ⟨hb, by simp [noState], .inl ⟨rfl, rfl⟩⟩, Chunks.nil _ _⟩, ⟨[], ⟨hb, by simp [noState], .inl ⟨rfl, rfl⟩⟩, Chunks.nil _ _⟩, ⟨[], ⟨hb, by simp [noState], .inl ⟨rfl, rfl⟩⟩, Chunks.nil _ _⟩, ⟨[], ⟨hb, by simp [noState], .inl ⟨rfl, rfl⟩⟩, Chunks.nil _ _⟩, by simp [NoShare, Value.ownBlock]⟩
theorem Held.swap {w u : World} {x y : Nat × List Value} {L : List (Nat × List Value)} {M : List (Nat × Nat)} (h : Held w (x :: y :: L) M u) : Held w (y :: x :: L) M u := h.less (fun z hz => by simp only [List.mem_cons] at hz ⊢; rcases hz with hz | hz | hz <;> simp [hz]) (fun _ h => h)
end Go.Proofs.YtfbnnfpnjjjfcaaGreat

