/- The law SpreadOrder's walk. Condition: the arguments lie as is said of them; the program's contracts. -/
import Derived.Test.YtillkgflppabfaaQ22
namespace Go.Proofs.Ytillkgflppabfaa
open Go.RowKit
set_option linter.unusedSimpArgs false
set_option maxRecDepth 100000

set_option maxHeartbeats 8000000 in
theorem sporder_walk (cs : List Value) (p : PodD) (la : Option Addr) (ln lc : Nat) (Lb : List Lab) (a : Option Addr) (n cap : Nat) (N : List NodeD) (b : Option Addr) (m capb : Nat) (L : List PlacedD) (turn : Int) (w : World) (hp : RPod (fun _ => True) w cs p) (hLb : SlAt RLabel 2 32 (fun _ => True) w la ln lc Lb) (hN : SlAt RNode 9 112 (fun _ => True) w a n cap N) (hL : SlAt RPlaced 17 320 (fun _ => True) w b m capb L) :
    Calls Try.prog 5 #[.agg cs.toArray, .slice la ln lc, .slice a n cap, .slice b m capb, .int .i64 turn] w fun e w' => e = .returned (.bool true) ∧ Below w.heap.size w w' := by
  have hi16 : (Try.prog.info? 33).map (·.size) = some cs.length := by rw [RPod.firm.len hp]; exact sizePo
  have Hp : Hid (∀ u, Below w.heap.size w u → RPod (fun _ => True) u cs p ∧ SlAt RLabel 2 32 (fun _ => True) u la ln lc Lb) := fun u hb => ⟨RPod.firm.kept hp (Kept.below hb), hLb.on RLabel.firm hb⟩
  have HNL : Hid (∀ u, Below w.heap.size w u → SlAt RNode 9 112 (fun b => b < w.heap.size) u a n cap N ∧ SlAt RPlaced 17 320 (fun b => b < w.heap.size) u b m capb L) := fun u hb => ⟨(hN.weak RNode.firm (fun b hb _ => hb)).on RNode.firm hb, (hL.weak RPlaced.firm (fun b hb _ => hb)).on RPlaced.firm hb⟩
  have hnN : Hid (N.length = n) := hN.1
  have hnL : Hid (L.length = m) := hL.1
  have hlenN := hN.len (by decide)
  have hlenL := hL.len (by decide)
  have hbN : Hid (n * 112 ≤ 140737488351232) := hN.2.2.2.1
  have hbL : Hid (m * 320 ≤ 140737488351232) := hL.2.2.2.1
  obtain ⟨W1, hW1⟩ : ∃ W, W = w.alloc (.cells cs.toArray 33) := ⟨_, rfl⟩
  have B1 : Below w.heap.size w W1 := by rw [hW1]; go_grown
  have qx : BoxL W1 w.heap.size cs := by rw [hW1]; exact BoxL.new w 33 cs
  have HQ : Hid (BoxL W1 w.heap.size cs ∧ Below w.heap.size w W1) := ⟨qx, B1⟩
  clear qx B1 hp hL hN hLb
  go_enter Try.func5, Try.ntmps5
  go_wp2_with fail
  rw [← hW1]
  refine (works9_calls W1).mono ?_
  rintro e W8 ⟨rfl, hb2⟩
  clear hW1
  have HX : Hid (BoxL W8 w.heap.size cs ∧ Below w.heap.size w W8) := ⟨HQ.out.1.on hb2, on2 HQ.out.2 hb2⟩
  clear HQ hb2
  go_wp2_with fail
  have hAm := Among9_calls turn (n + 1) (by omega) (by omega) W8
  rw [show (((n + 1 : Nat)) : Int) = (n : Int) + 1 by omega] at hAm
  refine hAm.mono ?_
  clear hAm
  rintro e w8 ⟨⟨t, rfl, ht⟩, hw8⟩
  rw [hw8]
  clear hw8 w8
  have htn : t ≤ n := by omega
  clear ht
  go_wp2_with fail
  have hAm := Among9_calls turn (m + 1) (by omega) (by omega) W8
  rw [show (((m + 1 : Nat)) : Int) = (m : Int) + 1 by omega] at hAm
  refine hAm.mono ?_
  clear hAm
  rintro e w8 ⟨⟨q, rfl, hq⟩, hw8⟩
  rw [hw8]
  clear hw8 w8
  have hqn : q ≤ m := by omega
  clear hq
  have hcap : Hid ((a = none → cap = 0) ∧ n ≤ cap) := ⟨(HNL.out w (Below.refl _ _)).1.2.2.1, (HNL.out w (Below.refl _ _)).1.2.1⟩
  have HDr : Hid (∀ u, Below w.heap.size w u → SlAt RNode 9 112 (fun b => b < w.heap.size) u (dropA9 9 a cap t) (n - t) (cap - t) (N.drop t)) := fun u hb => sl_dropA9 (HNL.out u hb).1 htn
  have HTk : Hid (∀ u, Below w.heap.size w u → SlAt RNode 9 112 (fun b => b < w.heap.size) u a t cap (N.take t)) := fun u hb => SlAt.take9 (HNL.out u hb).1 htn
  have HPl : Hid ((N.drop t ++ N.take t).length = n) := by rw [Hid, List.length_append, List.length_drop, List.length_take, hnN.out]; omega
  go_upto_region 4 with fail
  go_cut [13] (fun p wx => ∃ (pa : Option Addr) (pc : Nat), p = .slice pa n pc ∧ Hid (SlAt RNode 9 112 (fun _ => True) wx pa n pc (N.drop t ++ N.take t) ∧ Below W8.heap.size W8 wx))
  case first =>
    have B08 : Hid (Below w.heap.size w W8) := HX.out.2
    refine t0 (Below W8.heap.size W8) (Below.refl _ _).drew (fun hHeld => ?_)
    refine' tk 0 ?_ ?_; rotate_left
    · intro u hu; clear hu; go_simp; try with_reducible rfl
    try go_frame
    refine' tk 1 ?_ ?_; rotate_left
    · intro u hu; clear hu; go_simp; try with_reducible rfl
    try go_frame
    refine' tq 2 (.slice (dropA9 9 a cap t) (n - t) (cap - t)) ?_ ?_
    · refine .inl ⟨rfl, fun u _ => ?_⟩
      obtain ⟨hc1, hc2⟩ := hcap.out
      have z1 : (0 : Int) ≤ (t : Int) := by omega
      have z2 : (t : Int) ≤ (n : Int) := by omega
      have z3 : (n : Int) ≤ (cap : Int) := by omega
      have z4 : (t : Int) ≤ (cap : Int) := by omega
      have z5 : (cap : Int) - (t : Int) = ((cap - t : Nat) : Int) := by omega
      rcases a with _ | ad
      · obtain rfl := hc1 rfl
        obtain rfl : n = 0 := by omega
        obtain rfl : t = 0 := by omega
        simp only [dropA9]
        go_simp
        try with_reducible rfl
      · by_cases hct : cap = t
        · simp only [dropA9, hct, if_true]
          go_simp
          try with_reducible rfl
        · simp only [dropA9, hct, if_false]
          go_simp
          try with_reducible rfl
    try go_frame
    refine' tk 4 ?_ ?_; rotate_left
    · intro u hu; clear hu; go_simp; try with_reducible rfl
    try go_frame
    refine' tk 5 ?_ ?_; rotate_left
    · intro u hu; clear hu; go_simp; try with_reducible rfl
    try go_frame
    refine' tq 6 (.slice a t cap) ?_ ?_
    · refine .inl ⟨rfl, fun u _ => ?_⟩
      obtain ⟨hc1, hc2⟩ := hcap.out
      have z1 : (0 : Int) ≤ (t : Int) := by omega
      have z4 : (t : Int) ≤ (cap : Int) := by omega
      rcases a with _ | ad
      · obtain rfl := hc1 rfl
        obtain rfl : n = 0 := by omega
        obtain rfl : t = 0 := by omega
        go_simp
        try with_reducible rfl
      · go_simp
        try with_reducible rfl
    try go_frame
    refine tr 3 (fun K hK => ?_)
    go_simp
    refine (copies_calls (dropA9 9 a cap t) (n - t) (cap - t) (fun b => b < w.heap.size) (N.drop t) W8.drew (HDr.out _ B08.out.drew)).mono ?_
    rintro e u1 ⟨z1, rfl, r1⟩
    have hb1 : Below W8.heap.size W8 u1 := on2 (Below.refl _ _).drew r1.below
    have ro1 : Row RNode 9 (fun _ => True) w u1 51 z1 (N.drop t) := r1.from RNode.firm B08.out.drew (fun b hb => trivial)
    have ow1 : ∀ b, z1.ownBlock = some b → W8.heap.size ≤ b := fun b hb => (r1.lt hb).1
    go_wp2_with fail
    refine hK.out _ _ hb1 (fun hHeld2 => ?_)
    clear hK K hHeld; have hHeld := hHeld2; clear hHeld2
    try go_frame
    have hsrc : Src RNode 9 (fun b => (fun _ => True) b ∧ z1.ownBlock ≠ some b) u1 a t (N.take t) := ((HTk.out _ (on2 B08.out hb1)).src RNode.firm).weak RNode.firm (fun b _ hb => ⟨trivial, fun e => by have h1 := (ro1.lt e).1; have h2 : b < w.heap.size := hb; omega⟩)
    refine tr 7 (fun K hK => ?_)
    refine row_appendP_wp RNode.firm (A := (fun _ => True)) (w0 := w) _ _ 34 51 rfl _ 112 infoNd Try.underlying34 rfl (by decide) (by decide) z1 (N.drop t) rfl ro1 a t cap (N.take t) rfl hsrc (by have h2 := HPl.out; have h3 := hbN.out; rw [List.length_append] at h2; rw [h2]; omega) ?_
    intro z2 u2 r2 gr2 hp2
    have hb2 : Below W8.heap.size W8 u2 := Below.grown hb1 gr2 hb1.size (fun b hb => ow1 b hb)
    refine hK.out _ _ hb2 (fun hHeld2 => ?_)
    clear hK K hHeld; have hHeld := hHeld2; clear hHeld2
    try go_frame
    obtain ⟨ra, rc, re, rs⟩ := r2.slO9 (bytes := 112) RNode.firm (by have h3 := hbN.out; rw [HPl.out]; omega)
    subst re
    rw [HPl.out] at rs ⊢
    refine' tk 8 ?_ ?_; rotate_left
    · intro u hu; clear hu; go_simp; try with_reducible rfl
    try go_frame
    refine tz ?_
    go_wp2_with fail
    go_meet
    exact ⟨ra, rc, rfl, rs, hb2⟩
  case rest =>
    obtain ⟨pa, pc, rfl, h1⟩ := hcut
    clear hcap HDr HTk HPl
    obtain ⟨W9, hW9⟩ : ∃ W, W = wc := ⟨_, rfl⟩
    rw [← hW9] at h1 ⊢
    clear hW9
    have HX9 : Hid (BoxL W9 w.heap.size cs ∧ Below w.heap.size w W9) := ⟨HX.out.1.on h1.out.2, on2 HX.out.2 h1.out.2⟩
    have HA9 : Hid (∀ u, Below W9.heap.size W9 u → SlAt RNode 9 112 (fun _ => True) u pa n pc (N.drop t ++ N.take t)) := fun u hb => h1.out.1.on RNode.firm hb
    clear h1 HX
    have hcap : Hid ((b = none → capb = 0) ∧ m ≤ capb) := ⟨(HNL.out w (Below.refl _ _)).2.2.2.1, (HNL.out w (Below.refl _ _)).2.2.1⟩
    have HDr : Hid (∀ u, Below w.heap.size w u → SlAt RPlaced 17 320 (fun b => b < w.heap.size) u (dropA9 17 b capb q) (m - q) (capb - q) (L.drop q)) := fun u hb => sl_dropA9 (HNL.out u hb).2 hqn
    have HTk : Hid (∀ u, Below w.heap.size w u → SlAt RPlaced 17 320 (fun b => b < w.heap.size) u b q capb (L.take q)) := fun u hb => SlAt.take9 (HNL.out u hb).2 hqn
    have HPl : Hid ((L.drop q ++ L.take q).length = m) := by rw [Hid, List.length_append, List.length_drop, List.length_take, hnL.out]; omega
    go_upto_region 5 with fail
    go_cut [14] (fun p wx => ∃ (pa : Option Addr) (pc : Nat), p = .slice pa m pc ∧ Hid (SlAt RPlaced 17 320 (fun _ => True) wx pa m pc (L.drop q ++ L.take q) ∧ Below W9.heap.size W9 wx))
    case first =>
      have B08 : Hid (Below w.heap.size w W9) := HX9.out.2
      refine t0 (Below W9.heap.size W9) (Below.refl _ _).drew (fun hHeld => ?_)
      refine' tk 0 ?_ ?_; rotate_left
      · intro u hu; clear hu; go_simp; try with_reducible rfl
      try go_frame
      refine' tk 1 ?_ ?_; rotate_left
      · intro u hu; clear hu; go_simp; try with_reducible rfl
      try go_frame
      refine' tq 2 (.slice (dropA9 17 b capb q) (m - q) (capb - q)) ?_ ?_
      · refine .inl ⟨rfl, fun u _ => ?_⟩
        obtain ⟨hc1, hc2⟩ := hcap.out
        have z1 : (0 : Int) ≤ (q : Int) := by omega
        have z2 : (q : Int) ≤ (m : Int) := by omega
        have z3 : (m : Int) ≤ (capb : Int) := by omega
        have z4 : (q : Int) ≤ (capb : Int) := by omega
        have z5 : (capb : Int) - (q : Int) = ((capb - q : Nat) : Int) := by omega
        rcases b with _ | ad
        · obtain rfl := hc1 rfl
          obtain rfl : m = 0 := by omega
          obtain rfl : q = 0 := by omega
          simp only [dropA9]
          go_simp
          try with_reducible rfl
        · by_cases hct : capb = q
          · simp only [dropA9, hct, if_true]
            go_simp
            try with_reducible rfl
          · simp only [dropA9, hct, if_false]
            go_simp
            try with_reducible rfl
      try go_frame
      refine' tk 4 ?_ ?_; rotate_left
      · intro u hu; clear hu; go_simp; try with_reducible rfl
      try go_frame
      refine' tk 5 ?_ ?_; rotate_left
      · intro u hu; clear hu; go_simp; try with_reducible rfl
      try go_frame
      refine' tq 6 (.slice b q capb) ?_ ?_
      · refine .inl ⟨rfl, fun u _ => ?_⟩
        obtain ⟨hc1, hc2⟩ := hcap.out
        have z1 : (0 : Int) ≤ (q : Int) := by omega
        have z4 : (q : Int) ≤ (capb : Int) := by omega
        rcases b with _ | ad
        · obtain rfl := hc1 rfl
          obtain rfl : m = 0 := by omega
          obtain rfl : q = 0 := by omega
          go_simp
          try with_reducible rfl
        · go_simp
          try with_reducible rfl
      try go_frame
      refine tr 3 (fun K hK => ?_)
      go_simp
      refine (many9_calls (dropA9 17 b capb q) (m - q) (capb - q) (fun b => b < w.heap.size) (L.drop q) W9.drew (HDr.out _ B08.out.drew)).mono ?_
      rintro e u1 ⟨z1, rfl, r1⟩
      have hb1 : Below W9.heap.size W9 u1 := on2 (Below.refl _ _).drew r1.below
      have ro1 : Row RPlaced 17 (fun _ => True) w u1 48 z1 (L.drop q) := r1.from RPlaced.firm B08.out.drew (fun b hb => trivial)
      have ow1 : ∀ b, z1.ownBlock = some b → W9.heap.size ≤ b := fun b hb => (r1.lt hb).1
      go_wp2_with fail
      refine hK.out _ _ hb1 (fun hHeld2 => ?_)
      clear hK K hHeld; have hHeld := hHeld2; clear hHeld2
      try go_frame
      have hsrc : Src RPlaced 17 (fun b => (fun _ => True) b ∧ z1.ownBlock ≠ some b) u1 b q (L.take q) := ((HTk.out _ (on2 B08.out hb1)).src RPlaced.firm).weak RPlaced.firm (fun b _ hb => ⟨trivial, fun e => by have h1 := (ro1.lt e).1; have h2 : b < w.heap.size := hb; omega⟩)
      refine tr 7 (fun K hK => ?_)
      refine row_appendP_wp RPlaced.firm (A := (fun _ => True)) (w0 := w) _ _ 35 48 rfl _ 320 infoPl Try.underlying35 rfl (by decide) (by decide) z1 (L.drop q) rfl ro1 b q capb (L.take q) rfl hsrc (by have h2 := HPl.out; have h3 := hbL.out; rw [List.length_append] at h2; rw [h2]; omega) ?_
      intro z2 u2 r2 gr2 hp2
      have hb2 : Below W9.heap.size W9 u2 := Below.grown hb1 gr2 hb1.size (fun b hb => ow1 b hb)
      refine hK.out _ _ hb2 (fun hHeld2 => ?_)
      clear hK K hHeld; have hHeld := hHeld2; clear hHeld2
      try go_frame
      obtain ⟨ra, rc, re, rs⟩ := r2.slO9 (bytes := 320) RPlaced.firm (by have h3 := hbL.out; rw [HPl.out]; omega)
      subst re
      rw [HPl.out] at rs ⊢
      refine' tk 8 ?_ ?_; rotate_left
      · intro u hu; clear hu; go_simp; try with_reducible rfl
      try go_frame
      refine tz ?_
      go_wp2_with fail
      go_meet
      exact ⟨ra, rc, rfl, rs, hb2⟩
    case rest =>
      obtain ⟨pb, pd, rfl, h1⟩ := hcut
      clear hcap HDr HTk HPl
      have HB : Hid (∀ u, Below wc.heap.size wc u → BoxL u w.heap.size cs ∧ Below w.heap.size w u ∧ SlAt RNode 9 112 (fun _ => True) u pa n pc (N.drop t ++ N.take t) ∧ SlAt RPlaced 17 320 (fun _ => True) u pb m pd (L.drop q ++ L.take q)) := fun u hb => ⟨(HX9.out.1.on h1.out.2).on hb, on2 (on2 HX9.out.2 h1.out.2) hb, HA9.out u (on2 h1.out.2 hb), h1.out.1.on RPlaced.firm hb⟩
      have HE : Hid (spreadP 12 p Lb (N.drop t ++ N.take t) (L.drop q ++ L.take q) = spreadP 12 p Lb N L) := spread_perm 12 p Lb (by have h := List.perm_append_comm (l₁ := N.drop t) (l₂ := N.take t); rwa [List.take_append_drop] at h) (by have h := List.perm_append_comm (l₁ := L.drop q) (l₂ := L.take q); rwa [List.take_append_drop] at h)
      clear h1 HX9 HA9
      go_upto_region 6 with fail
      have d0 : Below wc.heap.size wc wc.drew := (Below.refl _ _).drew
      refine t0 (fun u => BoxL u w.heap.size cs) (HB.out _ d0).1 (fun hHeld => ?_)
      refine' tq 0 (.agg cs.toArray) ?_ ?_
      · exact yieldsIf_load_mid rfl 33 _ rfl w.heap.size 0 rfl cs _ (fun u hu => hu.range) Try.underlying33 rfl hi16
      try go_frame
      refine' tq 5 (.agg cs.toArray) ?_ ?_
      · exact yieldsIf_load_mid rfl 33 _ rfl w.heap.size 0 rfl cs _ (fun u hu => hu.range) Try.underlying33 rfl hi16
      try go_frame
      refine' tk 1 ?_ ?_; rotate_left
      · intro u hu; clear hu; go_simp; try with_reducible rfl
      try go_frame
      refine' tk 2 ?_ ?_; rotate_left
      · intro u hu; clear hu; go_simp; try with_reducible rfl
      try go_frame
      refine' tk 3 ?_ ?_; rotate_left
      · intro u hu; clear hu; go_simp; try with_reducible rfl
      try go_frame
      refine' tk 6 ?_ ?_; rotate_left
      · intro u hu; clear hu; go_simp; try with_reducible rfl
      try go_frame
      refine' tk 7 ?_ ?_; rotate_left
      · intro u hu; clear hu; go_simp; try with_reducible rfl
      try go_frame
      refine' tk 8 ?_ ?_; rotate_left
      · intro u hu; clear hu; go_simp; try with_reducible rfl
      try go_frame
      refine tr 4 (fun K hK => ?_)
      go_simp
      refine (pChk_calls cs p la ln lc Lb a n cap N b m capb L _ (Hp.out _ (HB.out _ d0).2.1).1 (Hp.out _ (HB.out _ d0).2.1).2 ((HNL.out _ (HB.out _ d0).2.1).1.weak RNode.firm (fun _ _ _ => trivial)) ((HNL.out _ (HB.out _ d0).2.1).2.weak RPlaced.firm (fun _ _ _ => trivial))).mono ?_
      rintro e u1 ⟨rfl, b1⟩
      have d1 : Below wc.heap.size wc u1 := on2 d0 b1
      go_wp2_with fail
      refine hK.out _ _ (HB.out _ d1).1 (fun hHeld2 => ?_)
      clear hK K hHeld; have hHeld := hHeld2; clear hHeld2
      try go_frame
      have HC2 := pChk_calls cs p la ln lc Lb pa n pc (N.drop t ++ N.take t) pb m pd (L.drop q ++ L.take q) u1 (Hp.out _ (HB.out _ d1).2.1).1 (Hp.out _ (HB.out _ d1).2.1).2 (HB.out _ d1).2.2.1 (HB.out _ d1).2.2.2
      rw [HE.out] at HC2
      generalize spreadP 12 p Lb N L = ans at HC2 ⊢
      refine tr 9 (fun K hK => ?_)
      go_simp
      refine HC2.mono ?_
      rintro e u2 ⟨rfl, b2⟩
      have d2 : Below wc.heap.size wc u2 := on2 d1 b2
      go_wp2_with fail
      refine hK.out _ _ (HB.out _ d2).1 (fun hHeld2 => ?_)
      clear hK K hHeld; have hHeld := hHeld2; clear hHeld2
      try go_frame
      refine' tk 10 ?_ ?_; rotate_left
      · intro u hu; clear hu; go_simp; try with_reducible rfl
      try go_frame
      refine' tk 11 ?_ ?_; rotate_left
      · intro u hu; clear hu; go_simp; try with_reducible rfl
      try go_frame
      refine tz ?_
      have HF : Hid (Below w.heap.size w u2) := (HB.out _ d2).2.1
      clear HB HNL hHeld HC2 HE
      go_wp2_with fail
      go_ret
      exact ⟨rfl, HF.out⟩
end Go.Proofs.Ytillkgflppabfaa
