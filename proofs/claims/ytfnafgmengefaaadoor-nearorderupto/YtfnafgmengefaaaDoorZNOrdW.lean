/- The law NearOrder's walk. Condition: the arguments lie as is said of them, and are no greater than the statement's second form lets them; the table of powers of ten is laid as the program's text lays it. -/
import Derived.Test.YtfnafgmengefaaaDoorQ19
import Derived.Test.YtfnafgmengefaaaDoorW01
import Derived.Test.YtfnafgmengefaaaDoorQ07
namespace Go.Proofs.YtfnafgmengefaaaDoor
open Go.RowKit Go.Maps
set_option linter.unusedSimpArgs false
set_option maxRecDepth 100000

theorem near_any_order (p : PodD) (L : List Lab) {P M : List PlacedD} (h : P.Perm M) : nearP p L P = nearP p L M := near_perm p L h
set_option maxHeartbeats 8000000 in
theorem order_walk8 (cs : List Value) (p : PodD) (la : Option Addr) (ln lc : Nat) (Lb : List Lab) (a : Option Addr) (n cap : Nat) (L : List PlacedD) (turn : Int) (w : World) (hp : RPod (fun _ => True) w cs p) (hLb : SlAt RLabel 2 32 (fun _ => True) w la ln lc Lb) (hL : SlAt RPlaced 17 320 (fun _ => True) w a n cap L) (ht : Hid (TB w.heap.size w)) (hS : (pNear p).length ≤ 1048576 ∧ (pApart p).length ≤ 1048576 ∧ cost L ≤ 1048576 ∧ L.length ≤ 1048576) :
    Calls Tryd.prog 3 #[.agg cs.toArray, .slice la ln lc, .slice a n cap, .int .i64 turn] w fun e w' => e = .returned (.bool true) ∧ Below w.heap.size w w' := by
  have hi16 : (Tryd.prog.info? 33).map (·.size) = some cs.length := by rw [RPod.firm.len hp]; exact sizePo
  have Hp : Hid (∀ u, Below w.heap.size w u → RPod (fun b => b < w.heap.size) u cs p) := fun u hb => RPod.firm.kept (RPod.firm.weak hp (fun b hb _ => hb)) (Kept.below hb)
  have HLb : Hid (∀ u, Below w.heap.size w u → SlAt RLabel 2 32 (fun _ => True) u la ln lc Lb) := fun u hb => hLb.on RLabel.firm hb
  have HL : Hid (∀ u, Below w.heap.size w u → SlAt RPlaced 17 320 (fun b => b < w.heap.size) u a n cap L) := fun u hb => (hL.weak RPlaced.firm (fun b hb _ => hb)).on RPlaced.firm hb
  have hnl : Hid (L.length = n) := hL.1
  have hlen := hL.len (by decide)
  have HS : Hid ((pNear p).length ≤ 1048576 ∧ (pApart p).length ≤ 1048576 ∧ cost L ≤ 1048576 ∧ L.length ≤ 1048576) := hS
  obtain ⟨W1, hW1⟩ : ∃ W, W = w.alloc (.cells cs.toArray 33) := ⟨_, rfl⟩
  have B1 : Below w.heap.size w W1 := by rw [hW1]; go_grown
  have qx : BoxL W1 w.heap.size cs := by rw [hW1]; exact BoxL.new w 33 cs
  have HT : Hid (TB W1.heap.size W1) := fun w' h => ht.out w' (on2 B1 h)
  have HQ : Hid (BoxL W1 w.heap.size cs ∧ Below w.heap.size w W1) := ⟨qx, B1⟩
  clear qx B1 ht hp hL hLb hS
  go_enter Tryd.func3, Tryd.ntmps3
  go_wp2_with fail
  rw [← hW1]
  refine (works8_calls W1 HT).mono ?_
  rintro e W8 ⟨rfl, hb2⟩
  clear hW1 HT
  have HX : Hid (BoxL W8 w.heap.size cs ∧ Below w.heap.size w W8) := ⟨HQ.out.1.on hb2, on2 HQ.out.2 hb2⟩
  clear HQ hb2
  have hm1 : n + 1 ≤ 140737488355328 := by have h1 := HS.out.2.2.2; rw [hnl.out] at h1; omega
  go_wp2_with fail
  have hAm := Among8_calls turn (n + 1) (by omega) hm1 W8
  rw [show (((n + 1 : Nat)) : Int) = (n : Int) + 1 by omega] at hAm
  refine hAm.mono ?_
  clear hAm
  rintro e w8 ⟨⟨t, rfl, ht⟩, hw8⟩
  rw [hw8]
  clear hw8 w8
  have htn : t ≤ n := by omega
  have hcap : Hid ((a = none → cap = 0) ∧ n ≤ cap) := ⟨(HL.out w (Below.refl _ _)).2.2.1, (HL.out w (Below.refl _ _)).2.1⟩
  have HDr : Hid (∀ u, Below w.heap.size w u → SlAt RPlaced 17 320 (fun b => b < w.heap.size) u (dropA8 a cap t) (n - t) (cap - t) (L.drop t)) := fun u hb => sl_dropA8 (HL.out u hb) htn
  have HTk : Hid (∀ u, Below w.heap.size w u → SlAt RPlaced 17 320 (fun b => b < w.heap.size) u a t cap (L.take t)) := fun u hb => SlAt.take8 (HL.out u hb) htn
  have HPl : Hid ((L.drop t ++ L.take t).length = n) := by rw [Hid, List.length_append, List.length_drop, List.length_take, hnl.out]; omega
  go_upto_region 4 with fail
  go_cut [10] (fun p wx => ∃ (pa : Option Addr) (pc : Nat), p = .slice pa n pc ∧ Hid (SlAt RPlaced 17 320 (fun _ => True) wx pa n pc (L.drop t ++ L.take t) ∧ Below W8.heap.size W8 wx))
  case first =>
    have B08 : Hid (Below w.heap.size w W8) := HX.out.2
    refine t0 (Below W8.heap.size W8) (Below.refl _ _).drew (fun hHeld => ?_)
    refine' tk 0 ?_ ?_; rotate_left
    · intro u hu; clear hu; go_simp; try with_reducible rfl
    try go_frame
    refine' tk 1 ?_ ?_; rotate_left
    · intro u hu; clear hu; go_simp; try with_reducible rfl
    try go_frame
    refine' tq 2 (.slice (dropA8 a cap t) (n - t) (cap - t)) ?_ ?_
    · refine .inl ⟨rfl, fun u _ => ?_⟩
      obtain ⟨hc1, hc2⟩ := hcap.out
      have z1 : (0 : Int) ≤ (t : Int) := by omega
      have z2 : (t : Int) ≤ (n : Int) := by omega
      have z3 : (n : Int) ≤ (cap : Int) := by omega
      have z4 : (t : Int) ≤ (cap : Int) := by omega
      have z5 : (cap : Int) - (t : Int) = ((cap - t : Nat) : Int) := by omega
      rcases a with _ | ad
      · obtain rfl := hc1 rfl
        obtain rfl : n = 0 := by omega
        obtain rfl : t = 0 := by omega
        simp only [dropA8]
        go_simp
        try with_reducible rfl
      · by_cases hct : cap = t
        · simp only [dropA8, hct, if_true]
          go_simp
          try with_reducible rfl
        · simp only [dropA8, hct, if_false]
          go_simp
          try with_reducible rfl
    try go_frame
    refine' tk 4 ?_ ?_; rotate_left
    · intro u hu; clear hu; go_simp; try with_reducible rfl
    try go_frame
    refine' tk 5 ?_ ?_; rotate_left
    · intro u hu; clear hu; go_simp; try with_reducible rfl
    try go_frame
    refine' tq 6 (.slice a t cap) ?_ ?_
    · refine .inl ⟨rfl, fun u _ => ?_⟩
      obtain ⟨hc1, hc2⟩ := hcap.out
      have z1 : (0 : Int) ≤ (t : Int) := by omega
      have z4 : (t : Int) ≤ (cap : Int) := by omega
      rcases a with _ | ad
      · obtain rfl := hc1 rfl
        obtain rfl : n = 0 := by omega
        obtain rfl : t = 0 := by omega
        go_simp
        try with_reducible rfl
      · go_simp
        try with_reducible rfl
    try go_frame
    refine tr 3 (fun K hK => ?_)
    go_simp
    refine (many_calls (dropA8 a cap t) (n - t) (cap - t) (fun b => b < w.heap.size) (L.drop t) W8.drew (HDr.out _ B08.out.drew)).mono ?_
    rintro e u1 ⟨z1, rfl, r1⟩
    have hb1 : Below W8.heap.size W8 u1 := on2 (Below.refl _ _).drew r1.below
    have ro1 : Row RPlaced 17 (fun _ => True) w u1 41 z1 (L.drop t) := r1.from RPlaced.firm B08.out.drew (fun b hb => trivial)
    have ow1 : ∀ b, z1.ownBlock = some b → W8.heap.size ≤ b := fun b hb => (r1.lt hb).1
    go_wp2_with fail
    refine hK.out _ _ hb1 (fun hHeld2 => ?_)
    clear hK K hHeld; have hHeld := hHeld2; clear hHeld2
    try go_frame
    have hsrc : Src RPlaced 17 (fun b => (fun _ => True) b ∧ z1.ownBlock ≠ some b) u1 a t (L.take t) := ((HTk.out _ (on2 B08.out hb1)).src RPlaced.firm).weak RPlaced.firm (fun b _ hb => ⟨trivial, fun e => by have h1 := (ro1.lt e).1; have h2 : b < w.heap.size := hb; omega⟩)
    refine tr 7 (fun K hK => ?_)
    refine row_appendP_wp RPlaced.firm (A := (fun _ => True)) (w0 := w) _ _ 34 41 rfl _ 320 infoPl Tryd.underlying34 rfl (by decide) (by decide) z1 (L.drop t) rfl ro1 a t cap (L.take t) rfl hsrc (by have h1 := HS.out.2.2.2; have h2 := HPl.out; rw [List.length_append] at h2; rw [h2, ← hnl.out]; omega) ?_
    intro z2 u2 r2 gr2 hp2
    have hb2 : Below W8.heap.size W8 u2 := Below.grown hb1 gr2 hb1.size (fun b hb => ow1 b hb)
    refine hK.out _ _ hb2 (fun hHeld2 => ?_)
    clear hK K hHeld; have hHeld := hHeld2; clear hHeld2
    try go_frame
    obtain ⟨ra, rc, re, rs⟩ := r2.slO8 (bytes := 320) RPlaced.firm (by have h1 := HS.out.2.2.2; rw [HPl.out, ← hnl.out]; omega)
    have rs2 := rs.weak RPlaced.firm (A' := (fun _ => True)) (fun b _ hb => trivial)
    clear rs
    subst re
    rw [HPl.out] at rs2 ⊢
    refine' tk 8 ?_ ?_; rotate_left
    · intro u hu; clear hu; go_simp; try with_reducible rfl
    try go_frame
    refine tz ?_
    go_wp2_with fail
    go_meet
    exact ⟨ra, rc, rfl, rs2, hb2⟩
  case rest =>
    obtain ⟨pa, pc, rfl, hD⟩ := hcut
    obtain ⟨W9, hW9⟩ : ∃ W9, W9 = wc := ⟨_, rfl⟩
    rw [← hW9] at hD ⊢
    clear hW9
    have HPm : Hid ((L.drop t ++ L.take t).Perm L) := by
      have h1 : (L.drop t ++ L.take t).Perm (L.take t ++ L.drop t) := List.perm_append_comm
      rwa [List.take_append_drop] at h1
    generalize L.drop t ++ L.take t = P at hD HPl HPm
    have HBx : Hid (∀ u, Below W9.heap.size W9 u → BoxL u w.heap.size cs ∧ Below w.heap.size w u) := fun u hb => ⟨(HX.out.1.on hD.out.2).on hb, on2 (on2 HX.out.2 hD.out.2) hb⟩
    have HE : Hid (nearP p Lb P = nearP p Lb L) := near_any_order p Lb HPm.out
    have HC1 : Hid (∀ u, Below W9.heap.size W9 u → Calls Tryd.prog 10 #[.agg cs.toArray, .slice la ln lc, .slice a n cap] u fun e w' => e = .returned (.int .i64 (nearP p Lb L)) ∧ Below u.heap.size u w') := fun u hb => NCheck_calls cs _ _ _ p la ln lc Lb a n cap L u (Hp.out u (HBx.out u hb).2) (HLb.out u (HBx.out u hb).2) (HL.out u (HBx.out u hb).2) (by have := HS.out.1; omega) (by have := HS.out.2.1; omega) (by have := HS.out.2.2.1; omega)
    have HC2 : Hid (∀ u, Below W9.heap.size W9 u → Calls Tryd.prog 10 #[.agg cs.toArray, .slice la ln lc, .slice pa n pc] u fun e w' => e = .returned (.int .i64 (nearP p Lb L)) ∧ Below u.heap.size u w') := fun u hb => by
      have h1 := NCheck_calls cs _ _ _ p la ln lc Lb pa n pc P u (Hp.out u (HBx.out u hb).2) (HLb.out u (HBx.out u hb).2) (hD.out.1.on RPlaced.firm hb) (by have := HS.out.1; omega) (by have := HS.out.2.1; omega) (by rw [cost_perm HPm.out]; have := HS.out.2.2.1; omega)
      rwa [HE.out] at h1
    clear hD HX HDr HTk hcap HS HE HPm Hp HL HLb
    generalize nearP p Lb L = y at HC1 HC2
    have hyy : (y == y) = true := by simp
    go_upto_region 5 with fail
    refine t0 (fun u => BoxL u w.heap.size cs) (HBx.out _ (Below.refl _ _).drew).1 (fun hHeld => ?_)
    refine tq 0 (.agg cs.toArray) (yieldsIf_load_mid (by rfl) 33 _ rfl w.heap.size 0 rfl cs _ (fun u hu => hu.range) Tryd.underlying33 rfl hi16) ?_ (hi := rfl)
    try go_frame
    refine tp 1 ?_
    try go_frame
    refine tp 2 ?_
    try go_frame
    refine tq 4 (.agg cs.toArray) (yieldsIf_load_mid (by rfl) 33 _ rfl w.heap.size 0 rfl cs _ (fun u hu => hu.range) Tryd.underlying33 rfl hi16) ?_ (hi := rfl)
    try go_frame
    refine tp 5 ?_
    try go_frame
    refine tp 6 ?_
    try go_frame
    refine tr 3 (fun K hK => ?_)
    go_simp
    refine (HC1.out _ (Below.refl _ _).drew).mono ?_
    rintro e u1 ⟨rfl, hb1⟩
    have hb1' : Below W9.heap.size W9 u1 := (Below.refl _ _).drew.trans hb1
    go_wp2_with fail
    refine hK.out _ _ (HBx.out _ hb1').1 (fun hHeld2 => ?_)
    clear hK K hHeld; have hHeld := hHeld2; clear hHeld2
    try go_frame
    refine tr 7 (fun K hK => ?_)
    go_simp
    refine (HC2.out _ hb1').mono ?_
    rintro e u2 ⟨rfl, hb2⟩
    have hb2' : Below W9.heap.size W9 u2 := on2 hb1' hb2
    go_wp2_with fail
    refine hK.out _ _ (HBx.out _ hb2').1 (fun hHeld2 => ?_)
    clear hK K hHeld; have hHeld := hHeld2; clear hHeld2
    try go_frame
    refine tp 8 ?_
    try go_frame
    refine tp 9 ?_
    try go_frame
    refine tz ?_
    go_wp2_with fail
    go_ret
    exact ⟨by simp, (HBx.out _ hb2').2⟩
end Go.Proofs.YtfnafgmengefaaaDoor
