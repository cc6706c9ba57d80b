/- The law SpreadChecks' walk. Condition: the arguments lie as is said of them; the program's contracts. -/
import Derived.Test.YtillkgflppabfaaQ22
namespace Go.Proofs.Ytillkgflppabfaa
open Go.RowKit
set_option linter.unusedSimpArgs false
set_option maxRecDepth 100000

set_option maxHeartbeats 8000000 in
theorem spchecks_walk (cs : List Value) (p : PodD) (la : Option Addr) (ln lc : Nat) (Lb : List Lab) (a : Option Addr) (n cap : Nat) (N : List NodeD) (b : Option Addr) (m capb : Nat) (L : List PlacedD) (w : World) (hp : RPod (fun _ => True) w cs p) (hLb : SlAt RLabel 2 32 (fun _ => True) w la ln lc Lb) (hN : SlAt RNode 9 112 (fun _ => True) w a n cap N) (hL : SlAt RPlaced 17 320 (fun _ => True) w b m capb L) :
    Calls Try.prog 3 #[.agg cs.toArray, .slice la ln lc, .slice a n cap, .slice b m capb] w fun e w' => e = .returned (.bool true) ∧ Below w.heap.size w w' := by
  have hi16 : (Try.prog.info? 33).map (·.size) = some cs.length := by rw [RPod.firm.len hp]; exact sizePo
  have Hp : Hid (∀ u, Below w.heap.size w u → RPod (fun _ => True) u cs p ∧ SlAt RLabel 2 32 (fun _ => True) u la ln lc Lb) := fun u hb => ⟨RPod.firm.kept hp (Kept.below hb), hLb.on RLabel.firm hb⟩
  clear hp hLb
  have hnN : Hid (N.length = n) := hN.1
  have hnL : Hid (L.length = m) := hL.1
  have hbN : N.length * 112 ≤ 140737488351232 := by rw [hN.1]; exact hN.2.2.2.1
  have hbL : L.length * 320 ≤ 140737488351232 := by rw [hL.1]; exact hL.2.2.2.1
  obtain ⟨W1, hW1⟩ : ∃ W, W = w.alloc (.cells cs.toArray 33) := ⟨_, rfl⟩
  have B1 : Below w.heap.size w W1 := by rw [hW1]; go_grown
  have qx : BoxL W1 w.heap.size cs := by rw [hW1]; exact BoxL.new w 33 cs
  have HQ : Hid (BoxL W1 w.heap.size cs ∧ Below w.heap.size w W1) := ⟨qx, B1⟩
  have HNL : Hid (∀ u, Below w.heap.size w u → SlAt RNode 9 112 (fun _ => True) u a n cap N ∧ SlAt RPlaced 17 320 (fun _ => True) u b m capb L) := fun u hb => ⟨hN.on RNode.firm hb, hL.on RPlaced.firm hb⟩
  have HCo := copies_calls a n cap _ N W1 (hN.on RNode.firm B1)
  clear hN hL qx B1
  go_enter Try.func3, Try.ntmps3
  go_upto_region 1 with fail
  rw [← hW1]
  clear hW1
  go_wp2_with fail
  refine HCo.mono ?_
  clear HCo
  rintro e w4 ⟨v4, rfl, hr4⟩
  obtain ⟨a4, c4, rfl, s4⟩ := hr4.slO9 (bytes := 112) RNode.firm hbN
  have b4 : Below W1.heap.size W1 w4 := hr4.below
  rw [hnN.out] at s4 ⊢
  have HMy := many9_calls b m capb _ L w4 (HNL.out w4 (on2 HQ.out.2 b4)).2
  clear hr4
  go_wp2_with fail
  refine HMy.mono ?_
  clear HMy
  rintro e w5 ⟨v5, rfl, hr5⟩
  obtain ⟨a5, c5, rfl, s5⟩ := hr5.slO9 (bytes := 320) RPlaced.firm hbL
  have b5 : Below w4.heap.size w4 w5 := hr5.below
  rw [hnL.out] at s5 ⊢
  have HB : Hid (∀ u, Below w5.heap.size w5 u → BoxL u w.heap.size cs ∧ Below w.heap.size w u ∧ SlAt RNode 9 112 (fun _ => True) u a4 n c4 N ∧ SlAt RPlaced 17 320 (fun _ => True) u a5 m c5 L) := fun u hb => ⟨((HQ.out.1.on b4).on b5).on hb, on2 (on2 (on2 HQ.out.2 b4) b5) hb, (s4.on RNode.firm b5).on RNode.firm hb, s5.on RPlaced.firm hb⟩
  clear hr5 s4 s5 b4 b5 HQ hbN hbL
  go_upto_region 2 with fail
  have d0 : Below w5.heap.size w5 w5.drew := (Below.refl _ _).drew
  refine t0 (fun u => BoxL u w.heap.size cs) (HB.out _ d0).1 (fun hHeld => ?_)
  refine' tq 0 (.agg cs.toArray) ?_ ?_
  · exact yieldsIf_load_mid rfl 33 _ rfl w.heap.size 0 rfl cs _ (fun u hu => hu.range) Try.underlying33 rfl hi16
  try go_frame
  refine' tq 7 (.agg cs.toArray) ?_ ?_
  · exact yieldsIf_load_mid rfl 33 _ rfl w.heap.size 0 rfl cs _ (fun u hu => hu.range) Try.underlying33 rfl hi16
  try go_frame
  refine' tk 2 ?_ ?_; rotate_left
  · intro u hu; clear hu; go_simp; try with_reducible rfl
  try go_frame
  refine' tk 4 ?_ ?_; rotate_left
  · intro u hu; clear hu; go_simp; try with_reducible rfl
  try go_frame
  refine' tk 5 ?_ ?_; rotate_left
  · intro u hu; clear hu; go_simp; try with_reducible rfl
  try go_frame
  refine' tk 8 ?_ ?_; rotate_left
  · intro u hu; clear hu; go_simp; try with_reducible rfl
  try go_frame
  refine' tk 9 ?_ ?_; rotate_left
  · intro u hu; clear hu; go_simp; try with_reducible rfl
  try go_frame
  refine' tk 10 ?_ ?_; rotate_left
  · intro u hu; clear hu; go_simp; try with_reducible rfl
  try go_frame
  refine tr 1 (fun K hK => ?_)
  go_simp
  refine (Pod_copy cs _ p _ (Hp.out _ (HB.out _ d0).2.1).1).mono ?_
  rintro e v1 ⟨cs', rfl, rp', bv1⟩
  have dv1 : Below w5.heap.size w5 v1 := on2 d0 bv1
  go_wp2_with fail
  refine hK.out _ _ (HB.out _ dv1).1 (fun hHeld2 => ?_)
  clear hK K hHeld; have hHeld := hHeld2; clear hHeld2
  try go_frame
  refine tr 3 (fun K hK => ?_)
  go_simp
  refine (Labels_copy la ln lc _ Lb _ (Hp.out _ (HB.out _ dv1).2.1).2).mono ?_
  rintro e v2 ⟨la', lc', rfl, sl', bv2⟩
  have dv2 : Below w5.heap.size w5 v2 := on2 dv1 bv2
  go_wp2_with fail
  refine hK.out _ _ (HB.out _ dv2).1 (fun hHeld2 => ?_)
  clear hK K hHeld; have hHeld := hHeld2; clear hHeld2
  try go_frame
  refine tr 6 (fun K hK => ?_)
  go_simp
  refine (pChk_calls cs' p la' ln lc' Lb a4 n c4 N a5 m c5 L _ (RPod.firm.weak (RPod.firm.kept rp' (Kept.below bv2)) (fun _ _ _ => trivial)) (sl'.weak RLabel.firm (fun _ _ _ => trivial)) (HB.out _ dv2).2.2.1 (HB.out _ dv2).2.2.2).mono ?_
  rintro e v3 ⟨rfl, bv3⟩
  have dv3 : Below w5.heap.size w5 v3 := on2 dv2 bv3
  go_wp2_with fail
  refine hK.out _ _ (HB.out _ dv3).1 (fun hHeld2 => ?_)
  clear hK K hHeld; have hHeld := hHeld2; clear hHeld2
  try go_frame
  refine tr 11 (fun K hK => ?_)
  go_simp
  refine (rSpr_calls cs p la ln lc Lb a n cap N b m capb L _ (Hp.out _ (HB.out _ dv3).2.1).1 (Hp.out _ (HB.out _ dv3).2.1).2 (HNL.out _ (HB.out _ dv3).2.1).1 (HNL.out _ (HB.out _ dv3).2.1).2).mono ?_
  rintro e v4 ⟨rfl, bv4⟩
  have dv4 : Below w5.heap.size w5 v4 := on2 dv3 bv4
  go_wp2_with fail
  refine hK.out _ _ (HB.out _ dv4).1 (fun hHeld2 => ?_)
  clear hK K hHeld; have hHeld := hHeld2; clear hHeld2
  try go_frame
  generalize spreadP 12 p Lb N L = ans
  refine' tk 12 ?_ ?_; rotate_left
  · intro u hu; clear hu; go_simp; try with_reducible rfl
  try go_frame
  refine' tk 13 ?_ ?_; rotate_left
  · intro u hu; clear hu; go_simp; try with_reducible rfl
  try go_frame
  refine' tk 14 ?_ ?_; rotate_left
  · intro u hu; clear hu; go_simp; try with_reducible rfl
  try go_frame
  refine' tk 15 ?_ ?_; rotate_left
  · intro u hu; clear hu; go_simp; try with_reducible rfl
  try go_frame
  refine' tk 16 ?_ ?_; rotate_left
  · intro u hu; clear hu; go_simp; try with_reducible rfl
  try go_frame
  refine' tk 17 ?_ ?_; rotate_left
  · intro u hu; clear hu; go_simp; try with_reducible rfl
  try go_frame
  refine tr 18 (fun K hK => ?_)
  go_simp
  refine (kept_calls _ _ _ _ a4 n c4 N a cap a5 m c5 L b capb _ (HB.out _ dv4).2.2.1 (HNL.out _ (HB.out _ dv4).2.1).1 (HB.out _ dv4).2.2.2 (HNL.out _ (HB.out _ dv4).2.1).2).mono ?_
  rintro e v5 ⟨rfl, bv5⟩
  have dv5 : Below w5.heap.size w5 v5 := on2 dv4 bv5
  go_wp2_with fail
  refine hK.out _ _ (HB.out _ dv5).1 (fun hHeld2 => ?_)
  clear hK K hHeld; have hHeld := hHeld2; clear hHeld2
  try go_frame
  refine' tk 19 ?_ ?_; rotate_left
  · intro u hu; clear hu; go_simp; try with_reducible rfl
  try go_frame
  refine' tk 20 ?_ ?_; rotate_left
  · intro u hu; clear hu; go_simp; try with_reducible rfl
  try go_frame
  refine tr 21 (fun K hK => ?_)
  go_simp
  refine (works9_calls _).mono ?_
  rintro e v6 ⟨rfl, bv6⟩
  have dv6 : Below w5.heap.size w5 v6 := on2 dv5 bv6
  go_wp2_with fail
  refine hK.out _ _ (HB.out _ dv6).1 (fun hHeld2 => ?_)
  clear hK K hHeld; have hHeld := hHeld2; clear hHeld2
  try go_frame
  refine' tk 22 ?_ ?_; rotate_left
  · intro u hu; clear hu; go_simp; try with_reducible rfl
  try go_frame
  refine' tk 23 ?_ ?_; rotate_left
  · intro u hu; clear hu; go_simp; try with_reducible rfl
  try go_frame
  refine tz ?_
  have HF : Hid (Below w.heap.size w v6) := (HB.out _ dv6).2.1
  clear HB HNL hHeld
  go_wp2_with fail
  go_ret
  exact ⟨rfl, HF.out⟩
end Go.Proofs.Ytillkgflppabfaa
