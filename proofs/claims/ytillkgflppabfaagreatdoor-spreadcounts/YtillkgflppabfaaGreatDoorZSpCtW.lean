/- The law SpreadCounts' walk. Condition: the arguments lie as is said of them; the program's contracts. -/
import Derived.Test.YtillkgflppabfaaGreatDoorQ22
namespace Go.Proofs.YtillkgflppabfaaGreatDoor
open Go.RowKit
set_option linter.unusedSimpArgs false
set_option maxRecDepth 100000

set_option maxHeartbeats 8000000 in
theorem spcounts_walk (cs : List Value) (s : SpreadD) (a : Option Addr) (n cap : Nat) (N : List NodeD) (b : Option Addr) (m capb : Nat) (L : List PlacedD) (w : World) (hs : RSpread (fun _ => True) w cs s) (hN : SlAt RNode 9 112 (fun _ => True) w a n cap N) (hL : SlAt RPlaced 17 320 (fun _ => True) w b m capb L) (ht : Hid (TB9 w.heap.size w)) :
    Calls Tryz.prog 3 #[.agg cs.toArray, .slice a n cap, .slice b m capb] w fun e w' => e = .returned (.bool true) ∧ Below w.heap.size w w' := by
  have HTb : Hid (∀ u, Below w.heap.size w u → TB9 u.heap.size u) := fun u hb w' h => ht.out w' (on2 hb h)
  clear ht
  have hi4 : (Tryz.prog.info? 24).map (·.size) = some cs.length := by rw [RSpread.firm.len hs]; exact sizeSp
  have Hs : Hid (∀ u, Below w.heap.size w u → RSpread (fun _ => True) u cs s) := fun u hb => RSpread.firm.kept hs (Kept.below hb)
  have hcb : Hid ((countsP s N L).length * 32 ≤ 140737488351232) := by have h1 := counts_le s N L; have h2 := hN.1; have h3 := hN.2.2.2.1; rw [Hid]; omega
  clear hs
  have hnN : Hid (N.length = n) := hN.1
  have hnL : Hid (L.length = m) := hL.1
  have hbN : N.length * 112 ≤ 140737488351232 := by rw [hN.1]; exact hN.2.2.2.1
  have hbL : L.length * 320 ≤ 140737488351232 := by rw [hL.1]; exact hL.2.2.2.1
  obtain ⟨W1, hW1⟩ : ∃ W, W = w.alloc (.cells cs.toArray 24) := ⟨_, rfl⟩
  have B1 : Below w.heap.size w W1 := by rw [hW1]; go_grown
  have qx : BoxL W1 w.heap.size cs := by rw [hW1]; exact BoxL.new w 24 cs
  have HQ : Hid (BoxL W1 w.heap.size cs ∧ Below w.heap.size w W1) := ⟨qx, B1⟩
  have HNL : Hid (∀ u, Below w.heap.size w u → SlAt RNode 9 112 (fun _ => True) u a n cap N ∧ SlAt RPlaced 17 320 (fun _ => True) u b m capb L) := fun u hb => ⟨hN.on RNode.firm hb, hL.on RPlaced.firm hb⟩
  have HCo := copies_calls a n cap _ N W1 (hN.on RNode.firm B1)
  clear hN hL qx B1
  go_enter Tryz.func3, Tryz.ntmps3
  go_upto_region 1 with fail
  rw [← hW1]
  clear hW1
  go_wp2_with fail
  refine HCo.mono ?_
  clear HCo
  rintro e w4 ⟨v4, rfl, hr4⟩
  obtain ⟨a4, c4, rfl, s4⟩ := hr4.slO9 (bytes := 112) RNode.firm hbN
  have b4 : Below W1.heap.size W1 w4 := hr4.below
  rw [hnN.out] at s4 ⊢
  have HMy := many9_calls b m capb _ L w4 (HNL.out w4 (on2 HQ.out.2 b4)).2
  clear hr4
  go_wp2_with fail
  refine HMy.mono ?_
  clear HMy
  rintro e w5 ⟨v5, rfl, hr5⟩
  obtain ⟨a5, c5, rfl, s5⟩ := hr5.slO9 (bytes := 320) RPlaced.firm hbL
  have b5 : Below w4.heap.size w4 w5 := hr5.below
  rw [hnL.out] at s5 ⊢
  have HB : Hid (∀ u, Below w5.heap.size w5 u → BoxL u w.heap.size cs ∧ Below w.heap.size w u ∧ SlAt RNode 9 112 (fun _ => True) u a4 n c4 N ∧ SlAt RPlaced 17 320 (fun _ => True) u a5 m c5 L) := fun u hb => ⟨((HQ.out.1.on b4).on b5).on hb, on2 (on2 (on2 HQ.out.2 b4) b5) hb, (s4.on RNode.firm b5).on RNode.firm hb, s5.on RPlaced.firm hb⟩
  clear hr5 s4 s5 b4 b5 HQ hbN hbL
  go_upto_region 2 with fail
  have d0 : Below w5.heap.size w5 w5.drew := (Below.refl _ _).drew
  refine t0 (fun u => BoxL u w.heap.size cs) (HB.out _ d0).1 (fun hHeld => ?_)
  refine' tq 0 (.agg cs.toArray) ?_ ?_
  · exact yieldsIf_load_mid rfl 24 _ rfl w.heap.size 0 rfl cs _ (fun u hu => hu.range) Tryz.underlying24 rfl hi4
  try go_frame
  refine' tq 4 (.agg cs.toArray) ?_ ?_
  · exact yieldsIf_load_mid rfl 24 _ rfl w.heap.size 0 rfl cs _ (fun u hu => hu.range) Tryz.underlying24 rfl hi4
  try go_frame
  refine' tk 1 ?_ ?_; rotate_left
  · intro u hu; clear hu; go_simp; try with_reducible rfl
  try go_frame
  refine' tk 2 ?_ ?_; rotate_left
  · intro u hu; clear hu; go_simp; try with_reducible rfl
  try go_frame
  refine' tk 5 ?_ ?_; rotate_left
  · intro u hu; clear hu; go_simp; try with_reducible rfl
  try go_frame
  refine' tk 6 ?_ ?_; rotate_left
  · intro u hu; clear hu; go_simp; try with_reducible rfl
  try go_frame
  refine tr 3 (fun K hK => ?_)
  go_simp
  refine (pCts_calls cs _ _ _ s a4 n c4 N a5 m c5 L _ (Hs.out _ (HB.out _ d0).2.1) (HB.out _ d0).2.2.1 (HB.out _ d0).2.2.2 (HTb.out _ (HB.out _ d0).2.1)).mono ?_
  rintro e v1 ⟨a6, c6, rfl, s6, bv1⟩
  have dv1 : Below w5.heap.size w5 v1 := on2 d0 bv1
  go_wp2_with fail
  refine hK.out _ _ (HB.out _ dv1).1 (fun hHeld2 => ?_)
  clear hK K hHeld; have hHeld := hHeld2; clear hHeld2
  try go_frame
  refine tr 7 (fun K hK => ?_)
  go_simp
  refine (rCts_calls cs _ _ _ s a n cap N b m capb L _ (Hs.out _ (HB.out _ dv1).2.1) (HNL.out _ (HB.out _ dv1).2.1).1 (HNL.out _ (HB.out _ dv1).2.1).2).mono ?_
  rintro e v2 ⟨v7, rfl, hr7⟩
  obtain ⟨a7, c7, rfl, s7⟩ := hr7.slO9 (bytes := 32) RLabel.firm hcb.out
  have bv2 := hr7.below
  have dv2 : Below w5.heap.size w5 v2 := on2 dv1 bv2
  go_wp2_with fail
  refine hK.out _ _ (HB.out _ dv2).1 (fun hHeld2 => ?_)
  clear hK K hHeld; have hHeld := hHeld2; clear hHeld2
  try go_frame
  refine tr 8 (fun K hK => ?_)
  go_simp
  refine (SameLabels_calls a6 _ c6 _ (countsP s N L) a7 _ c7 _ (countsP s N L) _ (s6.on RLabel.firm bv2) s7).mono ?_
  rintro e v3 ⟨he, q, hq⟩
  have bv3 : Below v2.heap.size v2 v3 := by rw [hq]; exact below_drewN (Below.refl _ _) _
  clear hq
  replace he : e = .returned (.bool true) := by rw [he]; simp
  subst he
  have dv3 : Below w5.heap.size w5 v3 := on2 dv2 bv3
  go_wp2_with fail
  refine hK.out _ _ (HB.out _ dv3).1 (fun hHeld2 => ?_)
  clear hK K hHeld; have hHeld := hHeld2; clear hHeld2
  try go_frame
  clear hr7 s6 s7
  generalize (countsP s N L).length = cl
  refine' tk 9 ?_ ?_; rotate_left
  · intro u hu; clear hu; go_simp; try with_reducible rfl
  try go_frame
  refine' tq 10 (.agg cs.toArray) ?_ ?_
  · exact yieldsIf_load_mid rfl 24 _ rfl w.heap.size 0 rfl cs _ (fun u hu => hu.range) Tryz.underlying24 rfl hi4
  try go_frame
  refine' tq 14 (.agg cs.toArray) ?_ ?_
  · exact yieldsIf_load_mid rfl 24 _ rfl w.heap.size 0 rfl cs _ (fun u hu => hu.range) Tryz.underlying24 rfl hi4
  try go_frame
  refine' tk 11 ?_ ?_; rotate_left
  · intro u hu; clear hu; go_simp; try with_reducible rfl
  try go_frame
  refine' tk 12 ?_ ?_; rotate_left
  · intro u hu; clear hu; go_simp; try with_reducible rfl
  try go_frame
  refine' tk 15 ?_ ?_; rotate_left
  · intro u hu; clear hu; go_simp; try with_reducible rfl
  try go_frame
  refine' tk 16 ?_ ?_; rotate_left
  · intro u hu; clear hu; go_simp; try with_reducible rfl
  try go_frame
  refine tr 13 (fun K hK => ?_)
  go_simp
  refine (pSkew_calls cs _ _ _ s a4 n c4 N a5 m c5 L _ (Hs.out _ (HB.out _ dv3).2.1) (HB.out _ dv3).2.2.1 (HB.out _ dv3).2.2.2).mono ?_
  rintro e v4 ⟨rfl, bv4⟩
  have dv4 : Below w5.heap.size w5 v4 := on2 dv3 bv4
  go_wp2_with fail
  refine hK.out _ _ (HB.out _ dv4).1 (fun hHeld2 => ?_)
  clear hK K hHeld; have hHeld := hHeld2; clear hHeld2
  try go_frame
  refine tr 17 (fun K hK => ?_)
  go_simp
  refine (rSkew_calls cs _ _ _ s a n cap N b m capb L _ (Hs.out _ (HB.out _ dv4).2.1) (HNL.out _ (HB.out _ dv4).2.1).1 (HNL.out _ (HB.out _ dv4).2.1).2).mono ?_
  rintro e v5 ⟨rfl, bv5⟩
  have dv5 : Below w5.heap.size w5 v5 := on2 dv4 bv5
  go_wp2_with fail
  refine hK.out _ _ (HB.out _ dv5).1 (fun hHeld2 => ?_)
  clear hK K hHeld; have hHeld := hHeld2; clear hHeld2
  try go_frame
  generalize skewP s N L = sk
  refine' tk 18 ?_ ?_; rotate_left
  · intro u hu; clear hu; go_simp; try with_reducible rfl
  try go_frame
  refine' tk 19 ?_ ?_; rotate_left
  · intro u hu; clear hu; go_simp; try with_reducible rfl
  try go_frame
  refine' tk 20 ?_ ?_; rotate_left
  · intro u hu; clear hu; go_simp; try with_reducible rfl
  try go_frame
  refine' tk 21 ?_ ?_; rotate_left
  · intro u hu; clear hu; go_simp; try with_reducible rfl
  try go_frame
  refine' tk 22 ?_ ?_; rotate_left
  · intro u hu; clear hu; go_simp; try with_reducible rfl
  try go_frame
  refine' tk 23 ?_ ?_; rotate_left
  · intro u hu; clear hu; go_simp; try with_reducible rfl
  try go_frame
  refine' tk 24 ?_ ?_; rotate_left
  · intro u hu; clear hu; go_simp; try with_reducible rfl
  try go_frame
  refine tr 25 (fun K hK => ?_)
  go_simp
  refine (kept_calls _ _ _ _ a4 n c4 N a cap a5 m c5 L b capb _ (HB.out _ dv5).2.2.1 (HNL.out _ (HB.out _ dv5).2.1).1 (HB.out _ dv5).2.2.2 (HNL.out _ (HB.out _ dv5).2.1).2).mono ?_
  rintro e v6 ⟨rfl, bv6⟩
  have dv6 : Below w5.heap.size w5 v6 := on2 dv5 bv6
  go_wp2_with fail
  refine hK.out _ _ (HB.out _ dv6).1 (fun hHeld2 => ?_)
  clear hK K hHeld; have hHeld := hHeld2; clear hHeld2
  try go_frame
  refine' tk 26 ?_ ?_; rotate_left
  · intro u hu; clear hu; go_simp; try with_reducible rfl
  try go_frame
  refine' tk 27 ?_ ?_; rotate_left
  · intro u hu; clear hu; go_simp; try with_reducible rfl
  try go_frame
  refine tr 28 (fun K hK => ?_)
  go_simp
  refine (works9_calls _).mono ?_
  rintro e v7 ⟨rfl, bv7⟩
  have dv7 : Below w5.heap.size w5 v7 := on2 dv6 bv7
  go_wp2_with fail
  refine hK.out _ _ (HB.out _ dv7).1 (fun hHeld2 => ?_)
  clear hK K hHeld; have hHeld := hHeld2; clear hHeld2
  try go_frame
  refine' tk 29 ?_ ?_; rotate_left
  · intro u hu; clear hu; go_simp; try with_reducible rfl
  try go_frame
  refine' tk 30 ?_ ?_; rotate_left
  · intro u hu; clear hu; go_simp; try with_reducible rfl
  try go_frame
  refine tz ?_
  have HF : Hid (Below w.heap.size w v7) := (HB.out _ dv7).2.1
  clear HB HNL hHeld
  go_wp2_with fail
  go_ret
  exact ⟨rfl, HF.out⟩
end Go.Proofs.YtillkgflppabfaaGreatDoor
