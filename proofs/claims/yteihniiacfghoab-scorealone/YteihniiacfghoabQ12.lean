/- info.Free and info.Clash. Condition: the arguments lie as is said of them. Least and Even, by the program. Condition: what is handed in lies as is said of it. Calm and Liked, by the program. Condition: what is handed in lies as is said of it. measures. No condition. Best, by the document. Condition: what is handed in lies as is said of it. Total, by the document. Condition: what is handed in lies as is said of it. -/
import Derived.Test.YteihniiacfghoabQ05
import Derived.Test.YteihniiacfghoabQ11
import Derived.Test.YteihniiacfghoabQ06
import Derived.Test.YteihniiacfghoabQ07
import Derived.BigQuiet
namespace Go.Proofs.Yteihniiacfghoab
open Go.RowKit
set_option linter.unusedSimpArgs false
set_option maxRecDepth 100000

set_option maxHeartbeats 2000000 in
theorem Free_calls (cs : List Value) (A : Where) (x : InfoD) (w : World) (h : Hid (RInfo A w cs x)) : Calls Try.prog 22 #[.agg cs.toArray] w fun e w' => e = .returned (.agg #[.int .i64 (freeP x).1, .int .i64 (freeP x).2.1, .int .i64 (freeP x).2.2]) ∧ Below w.heap.size w w' := by
  obtain ⟨⟨nn, nl, nt, no, ⟨ga, gb, gc⟩, np, nd⟩, nms, ⟨ua, ub, uc⟩, pts, dks⟩ := x
  obtain ⟨⟨a1, n1, m1⟩, ⟨a2, n2, m2⟩, ⟨a9, n9, m9⟩, ⟨a13, n13, m13⟩, ⟨a14, n14, m14⟩, rfl, _⟩ := h.out.out
  simp only [freeP, minusR]
  clear h
  obtain ⟨W2, hW2⟩ : ∃ W2, W2 = (w.alloc (.cells #[.string nn, .slice a1 n1 m1, .slice a2 n2 m2, .bool no, .int .i64 ga, .int .i64 gb, .int .i64 gc, .int .i64 np, .int .i64 nd, .slice a9 n9 m9, .int .i64 ua, .int .i64 ub, .int .i64 uc, .slice a13 n13 m13, .slice a14 n14 m14] 49)).alloc (.cells #[.int .i64 0, .int .i64 0, .int .i64 0] 24) := ⟨_, rfl⟩
  have B2 : PB2 w W2 [.string nn, .slice a1 n1 m1, .slice a2 n2 m2, .bool no, .int .i64 ga, .int .i64 gb, .int .i64 gc, .int .i64 np, .int .i64 nd, .slice a9 n9 m9, .int .i64 ua, .int .i64 ub, .int .i64 uc, .slice a13 n13 m13, .slice a14 n14 m14] [.int .i64 0, .int .i64 0, .int .i64 0] := by
    rw [hW2]
    refine ⟨(BoxL.new w 49 [.string nn, .slice a1 n1 m1, .slice a2 n2 m2, .bool no, .int .i64 ga, .int .i64 gb, .int .i64 gc, .int .i64 np, .int .i64 nd, .slice a9 n9 m9, .int .i64 ua, .int .i64 ub, .int .i64 uc, .slice a13 n13 m13, .slice a14 n14 m14]).on ((Below.refl _ _).alloc (Nat.le_refl _) _), ?_, by go_grown⟩
    have := BoxL.new (w.alloc (.cells #[.string nn, .slice a1 n1 m1, .slice a2 n2 m2, .bool no, .int .i64 ga, .int .i64 gb, .int .i64 gc, .int .i64 np, .int .i64 nd, .slice a9 n9 m9, .int .i64 ua, .int .i64 ub, .int .i64 uc, .slice a13 n13 m13, .slice a14 n14 m14] 49)) 24 [.int .i64 0, .int .i64 0, .int .i64 0]
    simpa using this
  have HB2 : Hid (PB2 w W2 [.string nn, .slice a1 n1 m1, .slice a2 n2 m2, .bool no, .int .i64 ga, .int .i64 gb, .int .i64 gc, .int .i64 np, .int .i64 nd, .slice a9 n9 m9, .int .i64 ua, .int .i64 ub, .int .i64 uc, .slice a13 n13 m13, .slice a14 n14 m14] [.int .i64 0, .int .i64 0, .int .i64 0]) := B2
  clear B2
  go_enter Try.func22, Try.ntmps22
  go_wp2_with fail
  rw [← hW2]
  clear hW2
  refine (Minus_calls ga gb gc ua ub uc W2).mono ?_
  rintro e w3 ⟨rfl, hb3⟩
  have C := HB2.out.on hb3
  obtain ⟨z0, f0⟩ := C.y.2 0 _ rfl
  obtain ⟨z1, f1⟩ := C.y.2 1 _ rfl
  obtain ⟨z2, f2⟩ := C.y.2 2 _ rfl
  have hb : Hid (Below w.heap.size w w3) := C.b
  clear C HB2 hb3
  go_wp2_with fail
  refine bodyPost_ret (v := .agg #[.int .i64 (subI ga ua), .int .i64 (subI gb ub), .int .i64 (subI gc uc)]) (by simp [results, Try.results22, go_sem, z0, z1, z2]) rfl ⟨rfl, ?_⟩
  exact ((hb.out.setCell (by simp) _).setCell (by simp) _).setCell (by simp) _
end Go.Proofs.Yteihniiacfghoab
namespace Go.Proofs.Yteihniiacfghoab
open Go.RowKit Go.Maps
set_option linter.unusedSimpArgs false
set_option maxRecDepth 100000

set_option maxHeartbeats 4000000 in
theorem Least_calls (ps is : List Value) (A A' : Where) (p : PodD) (i : InfoD) (w : World) (hp : Hid (RPod A w ps p)) (hi : Hid (RInfo A' w is i)) : Calls Try.prog 11 #[.agg ps.toArray, .agg is.toArray] w fun e w' => e = .returned (.int .i64 (leastP p i)) ∧ Below w.heap.size w w' := by
  obtain ⟨W2, hW2⟩ : ∃ W2, W2 = (w.alloc (.cells ps.toArray 33)).alloc (.cells is.toArray 49) := ⟨_, rfl⟩
  have hB : PiB w W2 ps is := by rw [hW2]; exact PiB.new w ps is _ _
  have HA : Hid (∀ z, Below W2.heap.size W2 z → AmtAt w p i z) := fun z hz => (hB.on hz).amt hp.out hi.out
  have HB : Hid (Below w.heap.size w W2) := hB.b
  have HIl : Hid (is.length = 15) := RInfo.firm.len hi.out
  have HIx : Hid (∀ z, Below W2.heap.size W2 z → z.rangeAt (w.heap.size + 1) 0 is) := fun z hz => (hB.on hz).y.range
  have HF0 : Hid (∀ z, Below W2.heap.size W2 z → Calls Try.prog 22 #[.agg is.toArray] z fun e w' => e = .returned (.agg #[.int .i64 (freeP i).1, .int .i64 (freeP i).2.1, .int .i64 (freeP i).2.2]) ∧ Below z.heap.size z w') := fun z hz => Free_calls is A' i z (RInfo.firm.kept hi.out (Kept.below (on2 HB.out hz)))
  have hfr : freeP i = (subI (iGive i).1 (iUsed i).1, subI (iGive i).2.1 (iUsed i).2.1, subI (iGive i).2.2 (iUsed i).2.2) := rfl
  rw [hfr] at HF0
  obtain ⟨⟨g1, g2, g3⟩, hg⟩ : ∃ r, r = iGive i := ⟨_, rfl⟩
  obtain ⟨⟨u1, u2, u3⟩, hu⟩ : ∃ r, r = iUsed i := ⟨_, rfl⟩
  obtain ⟨⟨x1, x2, x3⟩, hx⟩ : ∃ r, r = pWant p := ⟨_, rfl⟩
  rw [← hg, ← hu] at HF0
  dsimp only at HF0
  obtain ⟨s1, hs1⟩ : ∃ s, s = shareI (subI (subI g1 u1) x1) g1 100 := ⟨_, rfl⟩
  obtain ⟨s2, hs2⟩ : ∃ s, s = shareI (subI (subI g2 u2) x2) g2 100 := ⟨_, rfl⟩
  have HP : Hid (leastP p i = (s1 + s2) / 2) := by rw [Hid, leastP, ← hg, ← hu, ← hx, hs1, hs2]; rfl
  have h1 : 0 ≤ s1 ∧ s1 ≤ 100 := by rw [hs1]; exact ⟨share_ge _ _, share_le _ _⟩
  have h2 : 0 ≤ s2 ∧ s2 ≤ 100 := by rw [hs2]; exact ⟨share_ge _ _, share_le _ _⟩
  have HSh : Hid (∀ z : World, ∀ c : Int, Calls Try.prog 20 #[.agg #[.int .i64 (subI (subI g1 u1) x1), .int .i64 (subI (subI g2 u2) x2), .int .i64 c], .agg #[.int .i64 g1, .int .i64 g2, .int .i64 g3]] z fun e z' => e = .returned (.tuple #[.int .i64 s1, .int .i64 s2]) ∧ Below z.heap.size z z') := fun z c => by rw [hs1, hs2]; exact shares_calls _ _ _ _ _ _ z
  clear hs1 hs2
  unfold AmtAt at HA
  rw [← hg, ← hu, ← hx] at HA
  dsimp only at HA
  obtain ⟨P, hP⟩ : ∃ P, P = w.heap.size := ⟨_, rfl⟩
  obtain ⟨I, hI⟩ : ∃ I, I = w.heap.size + 1 := ⟨_, rfl⟩
  rw [← hI, ← hP] at HA
  rw [← hI] at HIx
  have hW2' : (w.alloc (.cells ps.toArray 33)).alloc (.cells is.toArray 49) = W2 := hW2.symm
  have HPI : Hid (w.heap.size = P ∧ w.heap.size + 1 = I) := ⟨hP.symm, hI.symm⟩
  clear hB hp hi hg hu hx hP hI hW2 hfr
  go_enter Try.func11, Try.ntmps11
  go_upto_region 1 with fail
  rw [HPI.out.2, HPI.out.1]
  clear hW2'
  --M1
  have hb0 : Below W2.heap.size W2 W2.drew := (Below.refl _ _).drew
  refine t0 (fun z => Below W2.heap.size W2 z) hb0 (fun hHeld => ?_)
  generalize W2.drew = wd at hHeld ⊢
  clear hb0
  try go_frame
  refine tq 0 (.agg is.toArray) (yieldsIf_load_mid (by rfl) 49 _ rfl I 0 (by go_simp) is _ (fun z hz => HIx.out z hz) Try.underlying49 rfl (by rw [HIl.out]; kernel_rfl)) ?_ (hi := rfl)
  try go_frame
  refine' tk 2 ?_ ?_; rotate_left
  · intro z hz; clear hz; go_simp; try with_reducible rfl
  try go_frame
  refine tq 3 (.agg #[.int .i64 x1, .int .i64 x2, .int .i64 x3]) (yieldsIf_load_mid (by rfl) 24 _ rfl P 3 (by go_simp) [.int .i64 x1, .int .i64 x2, .int .i64 x3] _ (fun z hz => (HA.out z hz).1) Try.underlying24 rfl (by kernel_rfl)) ?_ (hi := rfl)
  try go_frame
  refine' tk 5 ?_ ?_; rotate_left
  · intro z hz; clear hz; go_simp; try with_reducible rfl
  try go_frame
  refine' tk 6 ?_ ?_; rotate_left
  · intro z hz; clear hz; go_simp; try with_reducible rfl
  try go_frame
  refine tq 7 (.agg #[.int .i64 g1, .int .i64 g2, .int .i64 g3]) (yieldsIf_load_mid (by rfl) 24 _ rfl I 4 (by go_simp) [.int .i64 g1, .int .i64 g2, .int .i64 g3] _ (fun z hz => (HA.out z hz).2.1) Try.underlying24 rfl (by kernel_rfl)) ?_ (hi := rfl)
  try go_frame
  have hA := HF0.out wd hHeld
  refine tr 1 (fun K hK => ?_)
  go_simp
  refine hA.mono ?_
  rintro e w3 ⟨rfl, bw⟩
  clear hA
  have hb9 : Below W2.heap.size W2 w3 := on2 hHeld bw
  clear bw
  go_wp2_with fail
  refine hK.out _ _ hb9 (fun hHeld2 => ?_)
  clear hb9
  clear hK K hHeld; have hHeld := hHeld2; clear hHeld2
  try go_frame
  have hA := Minus_calls (subI g1 u1) (subI g2 u2) (subI g3 u3) x1 x2 x3 w3
  refine tr 4 (fun K hK => ?_)
  go_simp
  refine hA.mono ?_
  rintro e w4 ⟨rfl, bw⟩
  clear hA
  have hb9 : Below W2.heap.size W2 w4 := on2 hHeld bw
  clear bw
  go_wp2_with fail
  refine hK.out _ _ hb9 (fun hHeld2 => ?_)
  clear hb9
  clear hK K hHeld; have hHeld := hHeld2; clear hHeld2
  try go_frame
  have hA := HSh.out w4 (subI (subI g3 u3) x3)
  refine tr 8 (fun K hK => ?_)
  go_simp
  refine hA.mono ?_
  rintro e w5 ⟨rfl, bw⟩
  clear hA
  have hb9 : Below W2.heap.size W2 w5 := on2 hHeld bw
  clear bw
  go_wp2_with fail
  refine hK.out _ _ hb9 (fun hHeld2 => ?_)
  clear hb9
  clear hK K hHeld; have hHeld := hHeld2; clear hHeld2
  try go_frame
  refine' tk 9 ?_ ?_; rotate_left
  · intro z hz; clear hz; go_simp; try with_reducible rfl
  try go_frame
  refine' tk 10 ?_ ?_; rotate_left
  · intro z hz; clear hz; go_simp; try with_reducible rfl
  try go_frame
  refine' tk 11 ?_ ?_; rotate_left
  · intro z hz; clear hz; go_simp; try with_reducible rfl
  try go_frame
  refine' tk 12 ?_ ?_; rotate_left
  · intro z hz; clear hz; go_simp; try with_reducible rfl
  try go_frame
  refine' tk 13 ?_ ?_; rotate_left
  · intro z hz; clear hz; go_simp; try with_reducible rfl
  try go_frame
  refine tz ?_
  have HE : Hid (Below w.heap.size w w5) := on2 HB.out hHeld
  clear hHeld HB HA HIx HF0 HSh
  --M4
  go_wp2_with fail
  have HWr : IntKind.i64.wrap ((IntKind.i64.wrap (s1 + s2)).tdiv 2) = (s1 + s2) / 2 := by rw [IntWalk.i64_in (s1 + s2) (by omega), Int.tdiv_eq_ediv_of_nonneg (by omega), IntWalk.i64_in _ (by omega)]
  --M5
  rw [HP.out, ← HWr]
  go_ret
  exact ⟨rfl, HE.out⟩
set_option maxHeartbeats 4000000 in
theorem Even_calls (ps is : List Value) (A A' : Where) (p : PodD) (i : InfoD) (w : World) (hp : Hid (RPod A w ps p)) (hi : Hid (RInfo A' w is i)) : Calls Try.prog 12 #[.agg ps.toArray, .agg is.toArray] w fun e w' => e = .returned (.int .i64 (evenP p i)) ∧ Below w.heap.size w w' := by
  obtain ⟨W2, hW2⟩ : ∃ W2, W2 = (w.alloc (.cells ps.toArray 33)).alloc (.cells is.toArray 49) := ⟨_, rfl⟩
  have hB : PiB w W2 ps is := by rw [hW2]; exact PiB.new w ps is _ _
  have HA : Hid (∀ z, Below W2.heap.size W2 z → AmtAt w p i z) := fun z hz => (hB.on hz).amt hp.out hi.out
  have HB : Hid (Below w.heap.size w W2) := hB.b
  have HIl : Hid (is.length = 15) := RInfo.firm.len hi.out
  have HIx : Hid (∀ z, Below W2.heap.size W2 z → z.rangeAt (w.heap.size + 1) 0 is) := fun z hz => (hB.on hz).y.range
  have HF0 : Hid (∀ z, Below W2.heap.size W2 z → Calls Try.prog 22 #[.agg is.toArray] z fun e w' => e = .returned (.agg #[.int .i64 (freeP i).1, .int .i64 (freeP i).2.1, .int .i64 (freeP i).2.2]) ∧ Below z.heap.size z w') := fun z hz => Free_calls is A' i z (RInfo.firm.kept hi.out (Kept.below (on2 HB.out hz)))
  have hfr : freeP i = (subI (iGive i).1 (iUsed i).1, subI (iGive i).2.1 (iUsed i).2.1, subI (iGive i).2.2 (iUsed i).2.2) := rfl
  rw [hfr] at HF0
  obtain ⟨⟨g1, g2, g3⟩, hg⟩ : ∃ r, r = iGive i := ⟨_, rfl⟩
  obtain ⟨⟨u1, u2, u3⟩, hu⟩ : ∃ r, r = iUsed i := ⟨_, rfl⟩
  obtain ⟨⟨x1, x2, x3⟩, hx⟩ : ∃ r, r = pWant p := ⟨_, rfl⟩
  rw [← hg, ← hu] at HF0
  dsimp only at HF0
  obtain ⟨s1, hs1⟩ : ∃ s, s = shareI (addI u1 x1) g1 100 := ⟨_, rfl⟩
  obtain ⟨s2, hs2⟩ : ∃ s, s = shareI (addI u2 x2) g2 100 := ⟨_, rfl⟩
  have HP : Hid (evenP p i = 100 - maxZ (s1 - s2) (s2 - s1)) := by rw [Hid, evenP, ← hg, ← hu, ← hx, hs1, hs2]; rfl
  have h1 : 0 ≤ s1 ∧ s1 ≤ 100 := by rw [hs1]; exact ⟨share_ge _ _, share_le _ _⟩
  have h2 : 0 ≤ s2 ∧ s2 ≤ 100 := by rw [hs2]; exact ⟨share_ge _ _, share_le _ _⟩
  have HSh : Hid (∀ z : World, ∀ c : Int, Calls Try.prog 20 #[.agg #[.int .i64 (addI u1 x1), .int .i64 (addI u2 x2), .int .i64 c], .agg #[.int .i64 g1, .int .i64 g2, .int .i64 g3]] z fun e z' => e = .returned (.tuple #[.int .i64 s1, .int .i64 s2]) ∧ Below z.heap.size z z') := fun z c => by rw [hs1, hs2]; exact shares_calls _ _ _ _ _ _ z
  clear hs1 hs2
  unfold AmtAt at HA
  rw [← hg, ← hu, ← hx] at HA
  dsimp only at HA
  obtain ⟨P, hP⟩ : ∃ P, P = w.heap.size := ⟨_, rfl⟩
  obtain ⟨I, hI⟩ : ∃ I, I = w.heap.size + 1 := ⟨_, rfl⟩
  rw [← hI, ← hP] at HA
  rw [← hI] at HIx
  have hW2' : (w.alloc (.cells ps.toArray 33)).alloc (.cells is.toArray 49) = W2 := hW2.symm
  have HPI : Hid (w.heap.size = P ∧ w.heap.size + 1 = I) := ⟨hP.symm, hI.symm⟩
  clear hB hp hi hg hu hx hP hI hW2 hfr
  go_enter Try.func12, Try.ntmps12
  go_upto_region 1 with fail
  rw [HPI.out.2, HPI.out.1]
  clear hW2'
  --M1
  have hb0 : Below W2.heap.size W2 W2.drew := (Below.refl _ _).drew
  refine t0 (fun z => Below W2.heap.size W2 z) hb0 (fun hHeld => ?_)
  generalize W2.drew = wd at hHeld ⊢
  clear hb0
  try go_frame
  refine' tk 0 ?_ ?_; rotate_left
  · intro z hz; clear hz; go_simp; try with_reducible rfl
  try go_frame
  refine tq 1 (.agg #[.int .i64 u1, .int .i64 u2, .int .i64 u3]) (yieldsIf_load_mid (by rfl) 24 _ rfl I 10 (by go_simp) [.int .i64 u1, .int .i64 u2, .int .i64 u3] _ (fun z hz => (HA.out z hz).2.2) Try.underlying24 rfl (by kernel_rfl)) ?_ (hi := rfl)
  try go_frame
  refine' tk 2 ?_ ?_; rotate_left
  · intro z hz; clear hz; go_simp; try with_reducible rfl
  try go_frame
  refine tq 3 (.agg #[.int .i64 x1, .int .i64 x2, .int .i64 x3]) (yieldsIf_load_mid (by rfl) 24 _ rfl P 3 (by go_simp) [.int .i64 x1, .int .i64 x2, .int .i64 x3] _ (fun z hz => (HA.out z hz).1) Try.underlying24 rfl (by kernel_rfl)) ?_ (hi := rfl)
  try go_frame
  refine' tk 5 ?_ ?_; rotate_left
  · intro z hz; clear hz; go_simp; try with_reducible rfl
  try go_frame
  refine' tk 6 ?_ ?_; rotate_left
  · intro z hz; clear hz; go_simp; try with_reducible rfl
  try go_frame
  refine tq 7 (.agg #[.int .i64 g1, .int .i64 g2, .int .i64 g3]) (yieldsIf_load_mid (by rfl) 24 _ rfl I 4 (by go_simp) [.int .i64 g1, .int .i64 g2, .int .i64 g3] _ (fun z hz => (HA.out z hz).2.1) Try.underlying24 rfl (by kernel_rfl)) ?_ (hi := rfl)
  try go_frame
  have hA := Plus_calls u1 u2 u3 x1 x2 x3 wd
  refine tr 4 (fun K hK => ?_)
  go_simp
  refine hA.mono ?_
  rintro e w4 ⟨rfl, bw⟩
  clear hA
  have hb9 : Below W2.heap.size W2 w4 := on2 hHeld bw
  clear bw
  go_wp2_with fail
  refine hK.out _ _ hb9 (fun hHeld2 => ?_)
  clear hb9
  clear hK K hHeld; have hHeld := hHeld2; clear hHeld2
  try go_frame
  have hA := HSh.out w4 (addI u3 x3)
  refine tr 8 (fun K hK => ?_)
  go_simp
  refine hA.mono ?_
  rintro e w5 ⟨rfl, bw⟩
  clear hA
  have hb9 : Below W2.heap.size W2 w5 := on2 hHeld bw
  clear bw
  go_wp2_with fail
  refine hK.out _ _ hb9 (fun hHeld2 => ?_)
  clear hb9
  clear hK K hHeld; have hHeld := hHeld2; clear hHeld2
  try go_frame
  refine' tk 9 ?_ ?_; rotate_left
  · intro z hz; clear hz; go_simp; try with_reducible rfl
  try go_frame
  refine' tk 10 ?_ ?_; rotate_left
  · intro z hz; clear hz; go_simp; try with_reducible rfl
  try go_frame
  refine' tk 11 ?_ ?_; rotate_left
  · intro z hz; clear hz; go_simp; try with_reducible rfl
  try go_frame
  refine' tk 12 ?_ ?_; rotate_left
  · intro z hz; clear hz; go_simp; try with_reducible rfl
  try go_frame
  refine' tk 13 ?_ ?_; rotate_left
  · intro z hz; clear hz; go_simp; try with_reducible rfl
  try go_frame
  refine tz ?_
  have HE : Hid (Below w.heap.size w w5) := on2 HB.out hHeld
  clear hHeld HB HA HIx HF0 HSh
  --M4
  obtain ⟨a, ha⟩ : ∃ a, a = (if s1 < s2 then s2 else s1) := ⟨_, rfl⟩
  obtain ⟨b, hb⟩ : ∃ b, b = (if s1 < s2 then s1 else s2) := ⟨_, rfl⟩
  have hb2 : (if s2 < s1 then s2 else s1) = b := by rw [hb]; repeat (first | split | omega)
  have hx1 : (if s1 < s2 then s2 else s1) = a := ha.symm
  have hx2 : (if s1 < s2 then s1 else s2) = b := hb.symm
  have HMM : Hid (max s1 s2 = a ∧ min s1 s2 = b) := by rw [Hid, ha, hb]; constructor <;> (split <;> omega)
  have HV : Hid (evenP p i = 100 - (a - b)) := by rw [Hid, HP.out, ha, hb]; unfold maxZ; repeat (first | split | omega)
  have hab : 0 ≤ a - b ∧ a - b ≤ 100 := by rw [ha, hb]; repeat (first | split | omega)
  have hab1 : 0 ≤ a ∧ a ≤ 100 := by rw [ha]; repeat (first | split | omega)
  have hab2 : 0 ≤ b ∧ b ≤ 100 := by rw [hb]; repeat (first | split | omega)
  clear ha hb HP
  --M6
  go_wp2_with fail
  --M7
  rw [HV.out]
  go_ret
  first | exact ⟨rfl, HE.out⟩ | exact ⟨(by rw [HMM.out.1, HMM.out.2] <;> rfl), HE.out⟩
end Go.Proofs.Yteihniiacfghoab
namespace Go.Proofs.Yteihniiacfghoab
open Go.RowKit Go.Maps
set_option linter.unusedSimpArgs false
set_option maxRecDepth 100000

theorem one_shied : One 18 shyI := ⟨enters_of Try.func18 (by kernel_rfl) rfl, shied_calls⟩
theorem one_liking : One 19 likeI := ⟨enters_of Try.func19 (by kernel_rfl) rfl, liking_calls⟩
theorem one_least : One 11 leastP := ⟨enters_of Try.func11 (by kernel_rfl) rfl, Least_calls⟩
theorem one_even : One 12 evenP := ⟨enters_of Try.func12 (by kernel_rfl) rfl, Even_calls⟩
set_option maxHeartbeats 4000000 in
theorem Calm_calls (ps : List Value) (A A' : Where) (p : PodD) (a : Option Addr) (n cap : Nat) (L : List InfoD) (w : World) (hp : Hid (RPod A w ps p)) (hL : Hid (SlAt RInfo 15 208 A' w a n cap L)) : Calls Try.prog 9 #[.agg ps.toArray, .slice a n cap] w fun e w' => ∃ v, e = .returned v ∧ Row RInt 1 (fun _ => False) w w' 3 v (calmP p L) := by
  have hn : Hid (L.length = n) := hL.out.1
  have HLn : Hid (n * 208 ≤ 140737488351232) := hL.out.2.2.2.1
  have hml : n < 1000000000000000 := by have := HLn.out; omega
  have hiP : (Try.prog.info? 33).map (·.size) = some ps.length := by rw [RPod.firm.len hp.out]; exact sizePodS
  obtain ⟨W1, hW1⟩ : ∃ Z, Z = w.alloc (.cells ps.toArray 33) := ⟨_, rfl⟩
  have b1 : Below w.heap.size w W1 := by rw [hW1]; exact (Below.refl _ _).alloc (Nat.le_refl _) _
  have HB1 : Hid (Below w.heap.size w W1) := b1
  have HX : Hid (BoxL W1 w.heap.size ps) := by rw [hW1]; exact BoxL.new w 33 _
  have hL1 : Hid (SlAt RInfo 15 208 A' W1 a n cap L) := hL.out.on RInfo.firm b1
  have hp1 : Hid (RPod A W1 ps p) := RPod.firm.kept hp.out (Kept.below b1)
  have HW1 : Hid (w.alloc (.cells ps.toArray 33) = W1) := hW1.symm
  obtain ⟨P, hP⟩ : ∃ P, P = w.heap.size := ⟨_, rfl⟩
  have HP : Hid (w.heap.size = P) := hP.symm
  rw [← hP] at HX
  have HXr : Hid (∀ z, Below W1.heap.size W1 z → z.rangeAt P 0 ps) := fun z hz => (HX.out.on hz).range
  have eg : ∀ args w, (callFunc 26 args).run Try.prog w = .ok (.enter 26 args) w := enters_of Try.func26 (by kernel_rfl) rfl
  clear b1 hW1 hP hL hp
  go_enter Try.func9, Try.ntmps9
  go_upto_region 1 with fail
  rw [HW1.out, HP.out]
  clear HW1
  --M1
  have hb0 : Below W1.heap.size W1 W1.drew := (Below.refl _ _).drew
  refine t0 (fun z => Below W1.heap.size W1 z) hb0 (fun hHeld => ?_)
  generalize W1.drew = wd at hHeld ⊢
  clear hb0
  try go_frame
  refine tq 1 (.agg ps.toArray) (yieldsIf_load_mid (by rfl) 33 _ rfl P 0 (by go_simp) ps _ (fun z hz => HXr.out z hz) Try.underlying33 rfl hiP) ?_ (hi := rfl)
  try go_frame
  refine' tk 2 ?_ ?_; rotate_left
  · intro z hz; clear hz; go_simp; try with_reducible rfl
  try go_frame
  have hA := each_calls (.func (.func 18) #[] #[]) rfl wd
  refine tr 0 (fun K hK => ?_)
  go_simp
  refine hA.mono ?_
  rintro e w3 ⟨rfl, q3, b3⟩
  clear hA
  have hb9 : Below W1.heap.size W1 w3 := on2 hHeld b3
  clear b3
  go_wp2_with fail
  refine hK.out _ _ hb9 (fun hHeld2 => ?_)
  clear hb9
  clear hK K hHeld; have hHeld := hHeld2; clear hHeld2
  try go_frame
  --M2
  have hA := eachRun_calls 18 shyI one_shied wd.heap.size ps A A' p a n cap L w3 q3 (RPod.firm.kept hp1.out (Kept.below hHeld)) (hL1.out.on RInfo.firm hHeld)
  obtain ⟨gq, hgq⟩ : ∃ g, g = wd.heap.size := ⟨_, rfl⟩
  rw [← hgq] at hA q3 ⊢
  clear hgq q3
  refine tr 3 (fun K hK => ?_)
  go_simp
  --M3
  (first | refine hA.mono ?_ | (go_at_fn 26; refine hA.mono ?_))
  rintro e w5 ⟨v5, rfl, hr5⟩
  clear hA
  have hb9 : Below W1.heap.size W1 w5 := on2 hHeld hr5.below
  go_wp2_with fail
  refine hK.out _ _ hb9 (fun hHeld2 => ?_)
  clear hb9
  clear hK K hHeld; have hHeld := hHeld2; clear hHeld2
  try go_frame
  obtain ⟨M, hM⟩ : ∃ M, M = L.map (shyI p) := ⟨_, rfl⟩
  have HM : Hid (normP M true = calmP p L ∧ M.length = n) := ⟨by rw [hM]; rfl, by rw [hM, List.length_map, hn.out]⟩
  rw [← hM] at hr5
  obtain ⟨la, lc, rfl, ls⟩ := (hr5.wAG RInt.firm (A' := Fresh w3) (fun _ h => h.elim)).slF (bytes := 8) RInt.firm (by have h2 := HLn.out; have h3 := HM.out.2; omega)
  have hA := Normal_calls la M.length lc (Fresh w3) M true w5 ls
  rw [HM.out.1] at hA
  clear ls hr5 hM HM
  refine tr 4 (fun K hK => ?_)
  go_simp
  refine hA.mono ?_
  rintro e w7 ⟨v7, rfl, hr7⟩
  have HE : Hid (Row RInt 1 (fun _ => False) w w7 3 v7 (calmP p L)) := hr7.fromG (on2 HB1.out hHeld)
  have hb9 : Below W1.heap.size W1 w7 := on2 hHeld hr7.below
  clear hA hr7
  go_wp2_with fail
  refine hK.out _ _ hb9 (fun hHeld2 => ?_)
  clear hb9
  clear hK K hHeld; have hHeld := hHeld2; clear hHeld2
  try go_frame
  refine' tk 5 ?_ ?_; rotate_left
  · intro z hz; clear hz; go_simp; try with_reducible rfl
  try go_frame
  refine tz ?_
  --M4
  go_wp2_with fail
  go_ret
  exact ⟨v7, rfl, HE.out⟩
set_option maxHeartbeats 4000000 in
theorem Liked_calls (ps : List Value) (A A' : Where) (p : PodD) (a : Option Addr) (n cap : Nat) (L : List InfoD) (w : World) (hp : Hid (RPod A w ps p)) (hL : Hid (SlAt RInfo 15 208 A' w a n cap L)) : Calls Try.prog 10 #[.agg ps.toArray, .slice a n cap] w fun e w' => ∃ v, e = .returned v ∧ Row RInt 1 (fun _ => False) w w' 3 v (likedP p L) := by
  have hn : Hid (L.length = n) := hL.out.1
  have HLn : Hid (n * 208 ≤ 140737488351232) := hL.out.2.2.2.1
  have hml : n < 1000000000000000 := by have := HLn.out; omega
  have hiP : (Try.prog.info? 33).map (·.size) = some ps.length := by rw [RPod.firm.len hp.out]; exact sizePodS
  obtain ⟨W1, hW1⟩ : ∃ Z, Z = w.alloc (.cells ps.toArray 33) := ⟨_, rfl⟩
  have b1 : Below w.heap.size w W1 := by rw [hW1]; exact (Below.refl _ _).alloc (Nat.le_refl _) _
  have HB1 : Hid (Below w.heap.size w W1) := b1
  have HX : Hid (BoxL W1 w.heap.size ps) := by rw [hW1]; exact BoxL.new w 33 _
  have hL1 : Hid (SlAt RInfo 15 208 A' W1 a n cap L) := hL.out.on RInfo.firm b1
  have hp1 : Hid (RPod A W1 ps p) := RPod.firm.kept hp.out (Kept.below b1)
  have HW1 : Hid (w.alloc (.cells ps.toArray 33) = W1) := hW1.symm
  obtain ⟨P, hP⟩ : ∃ P, P = w.heap.size := ⟨_, rfl⟩
  have HP : Hid (w.heap.size = P) := hP.symm
  rw [← hP] at HX
  have HXr : Hid (∀ z, Below W1.heap.size W1 z → z.rangeAt P 0 ps) := fun z hz => (HX.out.on hz).range
  have eg : ∀ args w, (callFunc 26 args).run Try.prog w = .ok (.enter 26 args) w := enters_of Try.func26 (by kernel_rfl) rfl
  clear b1 hW1 hP hL hp
  go_enter Try.func10, Try.ntmps10
  go_upto_region 1 with fail
  rw [HW1.out, HP.out]
  clear HW1
  --M1
  have hb0 : Below W1.heap.size W1 W1.drew := (Below.refl _ _).drew
  refine t0 (fun z => Below W1.heap.size W1 z) hb0 (fun hHeld => ?_)
  generalize W1.drew = wd at hHeld ⊢
  clear hb0
  try go_frame
  refine tq 1 (.agg ps.toArray) (yieldsIf_load_mid (by rfl) 33 _ rfl P 0 (by go_simp) ps _ (fun z hz => HXr.out z hz) Try.underlying33 rfl hiP) ?_ (hi := rfl)
  try go_frame
  refine' tk 2 ?_ ?_; rotate_left
  · intro z hz; clear hz; go_simp; try with_reducible rfl
  try go_frame
  have hA := each_calls (.func (.func 19) #[] #[]) rfl wd
  refine tr 0 (fun K hK => ?_)
  go_simp
  refine hA.mono ?_
  rintro e w3 ⟨rfl, q3, b3⟩
  clear hA
  have hb9 : Below W1.heap.size W1 w3 := on2 hHeld b3
  clear b3
  go_wp2_with fail
  refine hK.out _ _ hb9 (fun hHeld2 => ?_)
  clear hb9
  clear hK K hHeld; have hHeld := hHeld2; clear hHeld2
  try go_frame
  --M2
  have hA := eachRun_calls 19 likeI one_liking wd.heap.size ps A A' p a n cap L w3 q3 (RPod.firm.kept hp1.out (Kept.below hHeld)) (hL1.out.on RInfo.firm hHeld)
  obtain ⟨gq, hgq⟩ : ∃ g, g = wd.heap.size := ⟨_, rfl⟩
  rw [← hgq] at hA q3 ⊢
  clear hgq q3
  refine tr 3 (fun K hK => ?_)
  go_simp
  --M3
  (first | refine hA.mono ?_ | (go_at_fn 26; refine hA.mono ?_))
  rintro e w5 ⟨v5, rfl, hr5⟩
  clear hA
  have hb9 : Below W1.heap.size W1 w5 := on2 hHeld hr5.below
  go_wp2_with fail
  refine hK.out _ _ hb9 (fun hHeld2 => ?_)
  clear hb9
  clear hK K hHeld; have hHeld := hHeld2; clear hHeld2
  try go_frame
  obtain ⟨M, hM⟩ : ∃ M, M = L.map (likeI p) := ⟨_, rfl⟩
  have HM : Hid (normP M false = likedP p L ∧ M.length = n) := ⟨by rw [hM]; rfl, by rw [hM, List.length_map, hn.out]⟩
  rw [← hM] at hr5
  obtain ⟨la, lc, rfl, ls⟩ := (hr5.wAG RInt.firm (A' := Fresh w3) (fun _ h => h.elim)).slF (bytes := 8) RInt.firm (by have h2 := HLn.out; have h3 := HM.out.2; omega)
  have hA := Normal_calls la M.length lc (Fresh w3) M false w5 ls
  rw [HM.out.1] at hA
  clear ls hr5 hM HM
  refine tr 4 (fun K hK => ?_)
  go_simp
  refine hA.mono ?_
  rintro e w7 ⟨v7, rfl, hr7⟩
  have HE : Hid (Row RInt 1 (fun _ => False) w w7 3 v7 (likedP p L)) := hr7.fromG (on2 HB1.out hHeld)
  have hb9 : Below W1.heap.size W1 w7 := on2 hHeld hr7.below
  clear hA hr7
  go_wp2_with fail
  refine hK.out _ _ hb9 (fun hHeld2 => ?_)
  clear hb9
  clear hK K hHeld; have hHeld := hHeld2; clear hHeld2
  try go_frame
  refine' tk 5 ?_ ?_; rotate_left
  · intro z hz; clear hz; go_simp; try with_reducible rfl
  try go_frame
  refine tz ?_
  --M4
  go_wp2_with fail
  go_ret
  exact ⟨v7, rfl, HE.out⟩
end Go.Proofs.Yteihniiacfghoab
namespace Go.Proofs.Yteihniiacfghoab
open Go.RowKit Go.Maps
set_option linter.unusedSimpArgs false
set_option maxRecDepth 100000

theorem sizeMeaS : (Try.prog.info? 56).map (·.size) = some 4 := by kernel_rfl
/-- The four measures, over the boxes of each's functions. -/
def meaC (b1 b2 : Nat) : List Value := [.func (.func 26) #[] #[.pointer (some ⟨b1, 0, none⟩)], .func (.func 26) #[] #[.pointer (some ⟨b2, 0, none⟩)], .func (.func 9) #[] #[], .func (.func 10) #[] #[]]
set_option maxHeartbeats 4000000 in
theorem measures_calls (w : World) : Calls Try.prog 15 #[] w fun e w' => ∃ b1 b2, e = .returned (.agg #[.func (.func 26) #[] #[.pointer (some ⟨b1, 0, none⟩)], .func (.func 26) #[] #[.pointer (some ⟨b2, 0, none⟩)], .func (.func 9) #[] #[], .func (.func 10) #[] #[]]) ∧ BoxL w' b1 [.func (.func 11) #[] #[]] ∧ BoxL w' b2 [.func (.func 12) #[] #[]] ∧ Below w.heap.size w w' := by
  obtain ⟨W1, hW1⟩ : ∃ Z, Z = w.alloc (.cells #[.nilFunc, .nilFunc, .nilFunc, .nilFunc] 56) := ⟨_, rfl⟩
  have HB1 : Hid (Below w.heap.size w W1) := by rw [hW1]; exact (Below.refl _ _).alloc (Nat.le_refl _) _
  have HX : Hid (BoxL W1 w.heap.size [.nilFunc, .nilFunc, .nilFunc, .nilFunc]) := by rw [hW1]; exact BoxL.new w 56 _
  have HW1 : Hid (w.alloc (.cells #[.nilFunc, .nilFunc, .nilFunc, .nilFunc] 56) = W1) := hW1.symm
  obtain ⟨D, hD⟩ : ∃ D, D = w.heap.size := ⟨_, rfl⟩
  have HD : Hid (w.heap.size = D) := hD.symm
  rw [← hD] at HX
  clear hW1 hD
  go_enter Try.func15, Try.ntmps15
  go_upto_region 1 with fail
  rw [HW1.out, HD.out]
  clear HW1
  --M1
  go_wp2_with fail
  refine (each_calls (.func (.func 11) #[] #[]) rfl W1).mono ?_
  rintro e w3 ⟨rfl, q1, b3⟩
  have HQ1 : Hid (BoxL w3 W1.heap.size [.func (.func 11) #[] #[]]) := q1
  have HB3 : Hid (Below W1.heap.size W1 w3) := b3
  have HDl : Hid (D < W1.heap.size) := HX.out.1
  obtain ⟨b1, hb1⟩ : ∃ b, b = W1.heap.size := ⟨_, rfl⟩
  rw [← hb1] at HQ1 HDl ⊢
  clear q1 b3 hb1
  --M2
  go_wp2_with fail
  refine (each_calls (.func (.func 12) #[] #[]) rfl w3).mono ?_
  rintro e w4 ⟨rfl, q2, b4⟩
  have HQ2 : Hid (BoxL w4 w3.heap.size [.func (.func 12) #[] #[]]) := q2
  have HQ1' : Hid (BoxL w4 b1 [.func (.func 11) #[] #[]]) := HQ1.out.on b4
  have HX4 : Hid (BoxL w4 D [.nilFunc, .nilFunc, .nilFunc, .nilFunc]) := HX.out.on (on2 HB3.out b4)
  have HB4 : Hid (Below w.heap.size w w4) := on2 HB1.out (on2 HB3.out b4)
  have HDl2 : Hid (D < w3.heap.size) := Nat.lt_of_lt_of_le HX.out.1 HB3.out.size
  obtain ⟨b2, hb2⟩ : ∃ b, b = w3.heap.size := ⟨_, rfl⟩
  rw [← hb2] at HQ2 HDl2 ⊢
  clear q2 b4 hb2 HQ1 HB3 HB1 HX
  obtain ⟨V, hV⟩ : ∃ V, V = w4.setCells D 0 [.func (.func 26) #[] #[.pointer (some ⟨b1, 0, none⟩)], .func (.func 26) #[] #[.pointer (some ⟨b2, 0, none⟩)], .func (.func 9) #[] #[], .func (.func 10) #[] #[]] := ⟨_, rfl⟩
  have HTh : Hid (w4.there D 0 (#[.func (.func 26) #[] #[.pointer (some ⟨b1, 0, none⟩)], .func (.func 26) #[] #[.pointer (some ⟨b2, 0, none⟩)], .func (.func 9) #[] #[], .func (.func 10) #[] #[]] : Array Value).size) := HX4.out.there
  have HWV : Hid (V = w4.setCells D 0 (#[.func (.func 26) #[] #[.pointer (some ⟨b1, 0, none⟩)], .func (.func 26) #[] #[.pointer (some ⟨b2, 0, none⟩)], .func (.func 9) #[] #[], .func (.func 10) #[] #[]] : Array Value).toList) := by rw [Hid, hV]
  have HOc : Hid ((#[.func (.func 26) #[] #[.pointer (some ⟨b1, 0, none⟩)], .func (.func 26) #[] #[.pointer (some ⟨b2, 0, none⟩)], .func (.func 9) #[] #[], .func (.func 10) #[] #[]] : Array Value).all (·.oneCell') = true) := by rw [Hid]; simp [Value.oneCell']
  have hsz : (Try.prog.info? 56).map (·.size) = some (#[.func (.func 26) #[] #[.pointer (some ⟨b1, 0, none⟩)], .func (.func 26) #[] #[.pointer (some ⟨b2, 0, none⟩)], .func (.func 9) #[] #[], .func (.func 10) #[] #[]] : Array Value).size := sizeMeaS
  have kV : Kept (fun b => b ≠ D) w4 V := by rw [hV]; exact kept_setCells (fun h => h rfl)
  have bV : Below w.heap.size w V := by rw [hV]; exact below_setCells HB4.out (Nat.le_of_eq HD.out)
  have qV : BoxL V D [.func (.func 26) #[] #[.pointer (some ⟨b1, 0, none⟩)], .func (.func 26) #[] #[.pointer (some ⟨b2, 0, none⟩)], .func (.func 9) #[] #[], .func (.func 10) #[] #[]] := by rw [hV]; exact box_overS HX4.out rfl
  have HOut : Hid (BoxL V b1 [.func (.func 11) #[] #[]] ∧ BoxL V b2 [.func (.func 12) #[] #[]] ∧ Below w.heap.size w V) := ⟨HQ1'.out.kept kV (fun e => by have := HDl.out; omega), HQ2.out.kept kV (fun e => by have := HDl2.out; omega), bV⟩
  have t0' := (qV.2 0 _ rfl).1
  have t1' := (qV.2 1 _ rfl).1
  have t2' := (qV.2 2 _ rfl).1
  have t3' := (qV.2 3 _ rfl).1
  clear kV bV qV hV HX4 HQ1' HQ2 HB4 HDl HDl2
  --M3
  go_wp2_with (first | (refine wpList_store_mid rfl 56 _ _ rfl D 0 #[.func (.func 26) #[] #[.pointer (some ⟨b1, 0, none⟩)], .func (.func 26) #[] #[.pointer (some ⟨b2, 0, none⟩)], .func (.func 9) #[] #[], .func (.func 10) #[] #[]] rfl rfl HTh.out hsz HOc.out ?_; refine wpl_atG HWV.out ?_) | fail)
  --M4
  refine bodyPost_ret (v := .agg #[.func (.func 26) #[] #[.pointer (some ⟨b1, 0, none⟩)], .func (.func 26) #[] #[.pointer (some ⟨b2, 0, none⟩)], .func (.func 9) #[] #[], .func (.func 10) #[] #[]]) (by simp [results, Try.results15, go_sem, t0', t1', t2', t3', Result.andThen]) rfl ?_
  exact ⟨b1, b2, rfl, HOut.out⟩
end Go.Proofs.Yteihniiacfghoab
namespace Go.Proofs.Yteihniiacfghoab
open Go.RowKit Go.Maps
set_option linter.unusedSimpArgs false
set_option maxRecDepth 100000

theorem best_lt (s : List Int) (may : List Bool) : ∀ k i, i ∈ bestTo s may k → i < k
  | 0, _, h => by cases h
  | k + 1, i, h => by
    unfold bestTo bestStep at h
    split at h
    · split at h
      · rw [List.mem_singleton.1 h]; omega
      · split at h
        · rcases List.mem_append.1 h with h | h
          · have := best_lt s may k i h; omega
          · rw [List.mem_singleton.1 h]; omega
        · have := best_lt s may k i h; omega
    · have := best_lt s may k i h; omega
theorem best_len (s : List Int) (may : List Bool) : ∀ k, (bestTo s may k).length ≤ k
  | 0 => Nat.le_refl _
  | k + 1 => by
    have ih := best_len s may k
    unfold bestTo bestStep
    split
    · split
      · simp
      · split
        · rw [List.length_append, List.length_singleton]; omega
        · omega
    · omega
end Go.Proofs.Yteihniiacfghoab
namespace Go.Proofs.Yteihniiacfghoab
open Go.RowKit Go.Maps
set_option linter.unusedSimpArgs false
set_option maxRecDepth 100000

theorem calm_len (p : PodD) (L : List InfoD) : (calmP p L).length = L.length := by unfold calmP; rw [norm_len, List.length_map]
theorem liked_len (p : PodD) (L : List InfoD) : (likedP p L).length = L.length := by unfold likedP; rw [norm_len, List.length_map]
def tpart (a b c d : Int) (w : W4) : Nat → Int
  | 0 => 0
  | 1 => a * cw w.1
  | 2 => a * cw w.1 + b * cw w.2.1
  | 3 => a * cw w.1 + b * cw w.2.1 + c * cw w.2.2.1
  | _ => total1 a b c d w
theorem mul_in2 {a : Int} (ha : 0 ≤ a ∧ a ≤ 100) (x : Int) : 0 ≤ a * cw x ∧ a * cw x ≤ 10000 := by
  have h1 := mul_in ha x rfl; have h2 := cw_le x; omega
theorem tpart_in {a b c d : Int} (ha : 0 ≤ a ∧ a ≤ 100) (hb : 0 ≤ b ∧ b ≤ 100) (hc : 0 ≤ c ∧ c ≤ 100) (w : W4) {j : Nat} (hj : j < 4) : 0 ≤ tpart a b c d w j ∧ tpart a b c d w j ≤ 30000 := by
  have h1 := mul_in2 ha w.1; have h2 := mul_in2 hb w.2.1; have h3 := mul_in2 hc w.2.2.1
  rcases (show j = 0 ∨ j = 1 ∨ j = 2 ∨ j = 3 by omega) with rfl | rfl | rfl | rfl <;> simp only [tpart] <;> omega
end Go.Proofs.Yteihniiacfghoab
