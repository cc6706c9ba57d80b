/- The document's Add. Condition: the arguments lie as is said of them; the lists with what comes are within what an append may ask. What came and went leaves the info as it was. Plain mathematics. No condition. Pods that come one by one, in whatever order: the info of all. Plain mathematics. No condition. The first one of each name; what the document makes of pods is what is made of these. Plain. No condition. What of pods is gathered one by one. Plain. No condition. -/
import Derived.Test.YtddeilhelkfpoaaQ10
namespace Go.Proofs.Ytddeilhelkfpoaa
open Go.RowKit
set_option linter.unusedSimpArgs false
set_option maxRecDepth 100000

theorem want_yes {c : Prop} [Decidable c] {A B : Prop} (h : c) (k : A) : if c then A else B := by rw [if_pos h]; exact k
theorem at_world {K : Act → World → Prop} {a : Act} {u W : World} (h : W = u) (k : K a W) : K a u := h ▸ k
def addE (i : InfoD) (p : PodD) : InfoD × Int := if hasB sEq i.2.1 p.1 = true then (zeroInfo, 6) else (addP i p, 0)
def FitsA (i : InfoD) (p : PodD) : Prop := (i.2.1.length + 1) * 16 ≤ 140737488351232 ∧ (i.2.2.2.1.length + (pPorts p).length) * 8 ≤ 140737488351232 ∧ (i.2.2.2.2.length + (pClaims p).length) * 16 ≤ 140737488351232
def AdS (w : World) (P Y : List Value) (u : World) : Prop := BoxL u w.heap.size P ∧ BoxL u (w.heap.size + 1) Y
set_option maxHeartbeats 16000000 in
theorem rAdd_calls (cs ds : List Value) (A E A' : Where) (x : InfoD) (y : PodD) (w : World) (h : Hid (InfoAt A E w cs x)) (h' : Hid (RPod A' w ds y)) (hF : Hid (FitsA x y)) : Calls Try.prog 22 #[.agg cs.toArray, .agg ds.toArray] w fun e w' => ∃ cs', e = .returned (.tuple #[.agg cs'.toArray, .int .i64 (addE x y).2]) ∧ InfoAt A (Fresh w) w' cs' (addE x y).1 ∧ Below w.heap.size w w' := by
  obtain ⟨⟨nn, nl, nt, no, ⟨ga, gb, gc⟩, np, nd⟩, nms, ⟨ua, ub, uc⟩, pts, dks⟩ := x
  obtain ⟨nm, pri, lab, ⟨wa, wb, wc⟩, brs, ask, prf, prt, nea, apa, spr, clm, nod, hop⟩ := y
  obtain ⟨c, d, rfl, hc, hd⟩ := h.out
  have hN0 : Hid _ := hc
  obtain ⟨⟨a1, n1, m1⟩, ⟨a2, n2, m2⟩, rfl, _⟩ := hc.out
  obtain ⟨d1, d2, rfl, ⟨a9, n9, m9, rfl, s9⟩, ⟨d3, d4, rfl, hd3, ⟨d5, d6, rfl, ⟨a13, n13, m13, rfl, s13⟩, ⟨a14, n14, m14, rfl, s14⟩⟩⟩⟩ := hd
  have e3 := RRes.out hd3
  subst e3
  obtain ⟨g2, g6, g7, g8, ⟨b9, l9, k9⟩, g10, g11, g12, ⟨b13, l13, k13⟩, rfl, hp0, _, _, _, _, t9, _, _, _, t13, _⟩ := h'.out.out
  simp only at s9 s13 s14 t9 t13 hp0 hN0 hF ⊢
  have S9 : Hid (SlAt RStr 1 16 E w a9 n9 m9 nms) := s9
  have S13 : Hid (SlAt RInt 1 8 E w a13 n13 m13 pts) := s13
  have S14 : Hid (SlAt RStr 1 16 E w a14 n14 m14 dks) := s14
  have T9 : Hid (SlAt RInt 1 8 A' w b9 l9 k9 prt) := t9
  have T13 : Hid (SlAt RStr 1 16 A' w b13 l13 k13 clm) := t13
  have HF : Hid ((nms.length + 1) * 16 ≤ 140737488351232 ∧ (pts.length + prt.length) * 8 ≤ 140737488351232 ∧ (dks.length + clm.length) * 16 ≤ 140737488351232) := hF.out
  clear h h' hc hd3 s9 s13 s14 t9 t13 hF
  obtain ⟨W3, hW3⟩ : ∃ W3, W3 = (((w.alloc (.cells #[.string nn, .slice a1 n1 m1, .slice a2 n2 m2, .bool no, .int .i64 ga, .int .i64 gb, .int .i64 gc, .int .i64 np, .int .i64 nd, .slice a9 n9 m9, .int .i64 ua, .int .i64 ub, .int .i64 uc, .slice a13 n13 m13, .slice a14 n14 m14] 41)).alloc (.cells #[.string nm, .int .i64 pri, .slice g2.1 g2.2.1 g2.2.2, .int .i64 wa, .int .i64 wb, .int .i64 wc, .slice g6.1 g6.2.1 g6.2.2, .slice g7.1 g7.2.1 g7.2.2, .slice g8.1 g8.2.1 g8.2.2, .slice b9 l9 k9, .slice g10.1 g10.2.1 g10.2.2, .slice g11.1 g11.2.1 g11.2.2, .slice g12.1 g12.2.1 g12.2.2, .slice b13 l13 k13, .string nod, .string hop] 37)).alloc (.cells #[.string ⟨#[]⟩, .slice none 0 0, .slice none 0 0, .bool false, .int .i64 0, .int .i64 0, .int .i64 0, .int .i64 0, .int .i64 0, .slice none 0 0, .int .i64 0, .int .i64 0, .int .i64 0, .slice none 0 0, .slice none 0 0] 41)) := ⟨_, rfl⟩
  have B3 : Hid (PB3 w W3 [.string nn, .slice a1 n1 m1, .slice a2 n2 m2, .bool no, .int .i64 ga, .int .i64 gb, .int .i64 gc, .int .i64 np, .int .i64 nd, .slice a9 n9 m9, .int .i64 ua, .int .i64 ub, .int .i64 uc, .slice a13 n13 m13, .slice a14 n14 m14] [.string nm, .int .i64 pri, .slice g2.1 g2.2.1 g2.2.2, .int .i64 wa, .int .i64 wb, .int .i64 wc, .slice g6.1 g6.2.1 g6.2.2, .slice g7.1 g7.2.1 g7.2.2, .slice g8.1 g8.2.1 g8.2.2, .slice b9 l9 k9, .slice g10.1 g10.2.1 g10.2.2, .slice g11.1 g11.2.1 g11.2.2, .slice g12.1 g12.2.1 g12.2.2, .slice b13 l13 k13, .string nod, .string hop] [.string ⟨#[]⟩, .slice none 0 0, .slice none 0 0, .bool false, .int .i64 0, .int .i64 0, .int .i64 0, .int .i64 0, .int .i64 0, .slice none 0 0, .int .i64 0, .int .i64 0, .int .i64 0, .slice none 0 0, .slice none 0 0]) := by
    rw [hW3]
    refine ⟨(BoxL.new w 41 [.string nn, .slice a1 n1 m1, .slice a2 n2 m2, .bool no, .int .i64 ga, .int .i64 gb, .int .i64 gc, .int .i64 np, .int .i64 nd, .slice a9 n9 m9, .int .i64 ua, .int .i64 ub, .int .i64 uc, .slice a13 n13 m13, .slice a14 n14 m14]).on (((Below.refl _ _).alloc (Nat.le_refl _) _).alloc (by simp) _), ?_, ?_, by go_grown⟩
    · have := (BoxL.new (w.alloc (.cells #[.string nn, .slice a1 n1 m1, .slice a2 n2 m2, .bool no, .int .i64 ga, .int .i64 gb, .int .i64 gc, .int .i64 np, .int .i64 nd, .slice a9 n9 m9, .int .i64 ua, .int .i64 ub, .int .i64 uc, .slice a13 n13 m13, .slice a14 n14 m14] 41)) 37 [.string nm, .int .i64 pri, .slice g2.1 g2.2.1 g2.2.2, .int .i64 wa, .int .i64 wb, .int .i64 wc, .slice g6.1 g6.2.1 g6.2.2, .slice g7.1 g7.2.1 g7.2.2, .slice g8.1 g8.2.1 g8.2.2, .slice b9 l9 k9, .slice g10.1 g10.2.1 g10.2.2, .slice g11.1 g11.2.1 g11.2.2, .slice g12.1 g12.2.1 g12.2.2, .slice b13 l13 k13, .string nod, .string hop]).on ((Below.refl _ _).alloc (Nat.le_refl _) (.cells #[.string ⟨#[]⟩, .slice none 0 0, .slice none 0 0, .bool false, .int .i64 0, .int .i64 0, .int .i64 0, .int .i64 0, .int .i64 0, .slice none 0 0, .int .i64 0, .int .i64 0, .int .i64 0, .slice none 0 0, .slice none 0 0] 41))
      simpa using this
    · have := BoxL.new ((w.alloc (.cells #[.string nn, .slice a1 n1 m1, .slice a2 n2 m2, .bool no, .int .i64 ga, .int .i64 gb, .int .i64 gc, .int .i64 np, .int .i64 nd, .slice a9 n9 m9, .int .i64 ua, .int .i64 ub, .int .i64 uc, .slice a13 n13 m13, .slice a14 n14 m14] 41)).alloc (.cells #[.string nm, .int .i64 pri, .slice g2.1 g2.2.1 g2.2.2, .int .i64 wa, .int .i64 wb, .int .i64 wc, .slice g6.1 g6.2.1 g6.2.2, .slice g7.1 g7.2.1 g7.2.2, .slice g8.1 g8.2.1 g8.2.2, .slice b9 l9 k9, .slice g10.1 g10.2.1 g10.2.2, .slice g11.1 g11.2.1 g11.2.2, .slice g12.1 g12.2.1 g12.2.2, .slice b13 l13 k13, .string nod, .string hop] 37)) 41 [.string ⟨#[]⟩, .slice none 0 0, .slice none 0 0, .bool false, .int .i64 0, .int .i64 0, .int .i64 0, .int .i64 0, .int .i64 0, .slice none 0 0, .int .i64 0, .int .i64 0, .int .i64 0, .slice none 0 0, .slice none 0 0]
      simpa using this
  have HD : Hid (hasB sEq nms nm = false → addE ((nn, nl, nt, no, (ga, gb, gc), np, nd), nms, (ua, ub, uc), pts, dks) (nm, pri, lab, (wa, wb, wc), brs, ask, prf, prt, nea, apa, spr, clm, nod, hop) = (((nn, nl, nt, no, (ga, gb, gc), np, nd), sortB sLt sEq (nms ++ [nm]), (addI ua wa, addI ub wb, addI uc wc), sortB iLt iEq (pts ++ prt), sortB sLt sEq (dks ++ clm)), 0)) := fun h => by simp only [addE, h]; rfl
  have HDn : Hid (hasB sEq nms nm = true → addE ((nn, nl, nt, no, (ga, gb, gc), np, nd), nms, (ua, ub, uc), pts, dks) (nm, pri, lab, (wa, wb, wc), brs, ask, prf, prt, nea, apa, spr, clm, nod, hop) = (zeroInfo, 6)) := fun h => by simp only [addE, h]; rfl
  generalize addE ((nn, nl, nt, no, (ga, gb, gc), np, nd), nms, (ua, ub, uc), pts, dks) (nm, pri, lab, (wa, wb, wc), brs, ask, prf, prt, nea, apa, spr, clm, nod, hop) = dr at HD HDn ⊢
  go_enter Try.func22, Try.ntmps22
  go_wp2_with fail
  rw [← hW3]
  clear hW3
  refine (Has_calls a9 n9 m9 E nms nm W3 (S9.out.on RStr.firm B3.out.b)).mono ?_
  rintro e w9 ⟨rfl, hw9⟩
  rw [hw9]
  clear hw9 w9
  cases hhas : hasB sEq nms nm
  · have HE := HD.out hhas
    clear HD HDn hhas
    subst HE
    have HS : Hid (∀ {u : World}, Below W3.heap.size W3 u → AdS w [.string nn, .slice a1 n1 m1, .slice a2 n2 m2, .bool no, .int .i64 ga, .int .i64 gb, .int .i64 gc, .int .i64 np, .int .i64 nd, .slice a9 n9 m9, .int .i64 ua, .int .i64 ub, .int .i64 uc, .slice a13 n13 m13, .slice a14 n14 m14] [.string nm, .int .i64 pri, .slice g2.1 g2.2.1 g2.2.2, .int .i64 wa, .int .i64 wb, .int .i64 wc, .slice g6.1 g6.2.1 g6.2.2, .slice g7.1 g7.2.1 g7.2.2, .slice g8.1 g8.2.1 g8.2.2, .slice b9 l9 k9, .slice g10.1 g10.2.1 g10.2.2, .slice g11.1 g11.2.1 g11.2.2, .slice g12.1 g12.2.1 g12.2.2, .slice b13 l13 k13, .string nod, .string hop] u) := fun hb => ⟨B3.out.p.on hb, B3.out.y.on hb⟩
    have hs3 := B3.out.sz
    go_wp2_with fail
    refine wp_region_noPanic ?_
    refine wp_region_held_drew (S := AdS w [.string nn, .slice a1 n1 m1, .slice a2 n2 m2, .bool no, .int .i64 ga, .int .i64 gb, .int .i64 gc, .int .i64 np, .int .i64 nd, .slice a9 n9 m9, .int .i64 ua, .int .i64 ub, .int .i64 uc, .slice a13 n13 m13, .slice a14 n14 m14] [.string nm, .int .i64 pri, .slice g2.1 g2.2.1 g2.2.2, .int .i64 wa, .int .i64 wb, .int .i64 wc, .slice g6.1 g6.2.1 g6.2.2, .slice g7.1 g7.2.1 g7.2.2, .slice g8.1 g8.2.1 g8.2.2, .slice b9 l9 k9, .slice g10.1 g10.2.1 g10.2.2, .slice g11.1 g11.2.1 g11.2.2, .slice g12.1 g12.2.1 g12.2.2, .slice b13 l13 k13, .string nod, .string hop]) (by kernel_rfl) (HS.out (Below.refl _ _).drew) (fun hHeld => ?_)
    refine' tk 0 ?_ ?_; rotate_left
    · intro u hu; clear hu; go_simp; try with_reducible rfl
    try go_frame
    refine' tk 1 ?_ ?_; rotate_left
    · intro u hu; have cp0 := (hu.1.2 0 _ rfl).1; have cp1 := (hu.1.2 1 _ rfl).1; have cp2 := (hu.1.2 2 _ rfl).1; have cp3 := (hu.1.2 3 _ rfl).1; have cp4 := (hu.1.2 4 _ rfl).1; have cp5 := (hu.1.2 5 _ rfl).1; have cp6 := (hu.1.2 6 _ rfl).1; have cp7 := (hu.1.2 7 _ rfl).1; have cp8 := (hu.1.2 8 _ rfl).1; clear hu; go_simp; try with_reducible rfl
    try go_frame
    refine' tk 2 ?_ ?_; rotate_left
    · intro u hu; clear hu; go_simp; try with_reducible rfl
    try go_frame
    refine' tk 3 ?_ ?_; rotate_left
    · intro u hu; have cp9 := (hu.1.2 9 _ rfl).1; clear hu; go_simp; try with_reducible rfl
    try go_frame
    refine' tk 5 ?_ ?_; rotate_left
    · intro u hu; clear hu; go_simp; try with_reducible rfl
    try go_frame
    refine' tk 6 ?_ ?_; rotate_left
    · intro u hu; have cy0 := (hu.2.2 0 _ rfl).1; clear hu; go_simp; try with_reducible rfl
    try go_frame
    refine' tk 10 ?_ ?_; rotate_left
    · intro u hu; clear hu; go_simp; try with_reducible rfl
    try go_frame
    refine' tk 11 ?_ ?_; rotate_left
    · intro u hu; have cp10 := (hu.1.2 10 _ rfl).1; have cp11 := (hu.1.2 11 _ rfl).1; have cp12 := (hu.1.2 12 _ rfl).1; clear hu; go_simp; try with_reducible rfl
    try go_frame
    refine' tk 12 ?_ ?_; rotate_left
    · intro u hu; clear hu; go_simp; try with_reducible rfl
    try go_frame
    refine' tk 13 ?_ ?_; rotate_left
    · intro u hu; have cy3 := (hu.2.2 3 _ rfl).1; have cy4 := (hu.2.2 4 _ rfl).1; have cy5 := (hu.2.2 5 _ rfl).1; clear hu; go_simp; try with_reducible rfl
    try go_frame
    refine' tk 15 ?_ ?_; rotate_left
    · intro u hu; clear hu; go_simp; try with_reducible rfl
    try go_frame
    refine' tk 16 ?_ ?_; rotate_left
    · intro u hu; have cp13 := (hu.1.2 13 _ rfl).1; clear hu; go_simp; try with_reducible rfl
    try go_frame
    refine' tk 18 ?_ ?_; rotate_left
    · intro u hu; clear hu; go_simp; try with_reducible rfl
    try go_frame
    refine' tk 19 ?_ ?_; rotate_left
    · intro u hu; have cy9 := (hu.2.2 9 _ rfl).1; clear hu; go_simp; try with_reducible rfl
    try go_frame
    refine' tk 22 ?_ ?_; rotate_left
    · intro u hu; clear hu; go_simp; try with_reducible rfl
    try go_frame
    refine' tk 23 ?_ ?_; rotate_left
    · intro u hu; have cp14 := (hu.1.2 14 _ rfl).1; clear hu; go_simp; try with_reducible rfl
    try go_frame
    refine' tk 25 ?_ ?_; rotate_left
    · intro u hu; clear hu; go_simp; try with_reducible rfl
    try go_frame
    refine' tk 26 ?_ ?_; rotate_left
    · intro u hu; have cy13 := (hu.2.2 13 _ rfl).1; clear hu; go_simp; try with_reducible rfl
    try go_frame
    refine tb 4 7 (fun K hK => ?_) (fun K hK => ?_)
    ·
      go_simp
      refine (Texts_row a9 n9 m9 E nms W3.drew (S9.out.on RStr.firm B3.out.b.drew)).mono ?_
      rintro e U1 ⟨v16, rfl, r16⟩
      have bU1 : Below W3.heap.size W3 U1 := on2 (Below.refl _ _).drew r16.below
      go_wp2_with fail
      refine hK.out _ _ (HS.out bU1) (fun hHeld2 => ?_)
      clear hK K hHeld; have hHeld := hHeld2; clear hHeld2
      try go_frame
      refine tr 7 (fun K hK => ?_)
      go_simp
      obtain ⟨U2, hU2⟩ : ∃ U2, U2 = U1.alloc (.cells #[.string nm] 9) := ⟨_, rfl⟩
      have b12 : Below U1.heap.size U1 U2 := by rw [hU2]; exact (Below.refl _ _).alloc (Nat.le_refl _) _
      have HXa : SlAt RStr 1 16 (fun b => b = U1.heap.size) U2 (some ⟨U1.heap.size, 0, none⟩) 1 1 [nm] := by
        rw [hU2]
        refine ⟨rfl, Nat.le_refl _, (fun h => by cases h), by decide, fun _ => ⟨U1.heap.size, 0, rfl, by simp, rfl, fun i hi => ?_⟩⟩
        obtain rfl : i = 0 := by omega
        refine ⟨[.string nm], ⟨rfl, hp0⟩, fun j v hj => ?_⟩
        have := one_cells U1 [.string nm] 9 j v hj
        simpa [Addr.add_mid] using this
      have r16 := r16.on RStr.firm b12
      have bU2 := on2 bU1 b12
      refine hK.out _ _ (HS.out (hU2 ▸ bU2)) (fun hHeld2 => ?_)
      clear hK K hHeld; have hHeld := hHeld2; clear hHeld2
      try go_frame
      rw [← hU2] at hHeld ⊢
      clear hU2 b12
      refine tr 8 (fun K hK => ?_)
      refine row_appendS_wp RStr.firm (A := (fun _ => False)) (w0 := W3.drew) _ _ 35 9 rfl _ 16 infostr Try.underlying35 rfl (by decide) (by decide) _ nms rfl r16 (some ⟨U1.heap.size, 0, none⟩) 1 1 [nm] rfl ((HXa.src RStr.firm).flat RStr.flat) (by have h1 := HF.out.1; simp; omega) ?_
      intro v20 U3 hr8 hg8
      have bU3 : Below W3.heap.size W3 U3 := on2 (Below.refl _ W3).drew hr8.below
      refine hK.out _ _ (HS.out bU3) (fun hHeld2 => ?_)
      clear hK K hHeld; have hHeld := hHeld2; clear hHeld2
      try go_frame
      obtain ⟨q8, c8, e8, s8⟩ := hr8.sl (bytes := 16) RStr.firm (by have h1 := HF.out.1; simp; omega)
      subst e8
      generalize hl8 : (nms ++ [nm]).length = l8 at s8 ⊢
      clear hl8 hr8 hg8
      refine tr 9 (fun K hK => ?_)
      go_simp
      refine (Sorted_calls q8 l8 c8 _ (nms ++ [nm]) U3 s8).mono ?_
      rintro e y1 ⟨h9a, h9c, rfl, r9, hb1⟩
      have by1 := on2 bU3 hb1
      have r9 := r9.weak (A' := (fun b => w.heap.size + 1 + 1 < b)) RStr.firm (fun b _ hb => Nat.lt_of_lt_of_le (B3.out.on bU3).sz hb)
      generalize hl9 : (sortB sLt sEq (nms ++ [nm])).length = x9 at r9 ⊢
      clear hl9
      go_wp2_with fail
      refine hK.out _ _ (HS.out by1) (fun hHeld2 => ?_)
      clear hK K hHeld; have hHeld := hHeld2; clear hHeld2
      try go_frame
      refine tr 14 (fun K hK => ?_)
      go_simp
      refine (rplus_calls ua ub uc wa wb wc y1).mono ?_
      rintro e y2 ⟨rfl, hb2⟩
      have by2 := on2 by1 hb2
      have r9 := r9.on RStr.firm hb2
      go_wp2_with fail
      refine hK.out _ _ (HS.out by2) (fun hHeld2 => ?_)
      clear hK K hHeld; have hHeld := hHeld2; clear hHeld2
      try go_frame
      refine tr 17 (fun K hK => ?_)
      go_simp
      refine (Ints_row a13 n13 m13 E pts y2 (S13.out.on RInt.firm (on2 B3.out.b by2))).mono ?_
      rintro e y3 ⟨v29, rfl, r29⟩
      have by3 := on2 by2 r29.below
      go_wp2_with fail
      refine hK.out _ _ (HS.out by3) (fun hHeld2 => ?_)
      clear hK K hHeld; have hHeld := hHeld2; clear hHeld2
      try go_frame
      refine tr 20 (fun K hK => ?_)
      refine row_appendS_wp RInt.firm (A := (fun _ => False)) (w0 := y2) _ _ 32 3 rfl _ 8 infoint Try.underlying32 rfl (by decide) (by decide) _ pts rfl r29 b9 l9 k9 prt rfl (((T9.out.on RInt.firm (on2 B3.out.b by3)).src RInt.firm).flat RInt.flat) (by have h1 := HF.out.2.1; omega) ?_
      intro v32 y4 hr20 hg20
      have by4 := on2 by2 hr20.below
      have r9 := r9.on RStr.firm hr20.below
      refine hK.out _ _ (HS.out by4) (fun hHeld2 => ?_)
      clear hK K hHeld; have hHeld := hHeld2; clear hHeld2
      try go_frame
      obtain ⟨q20, c20, e20, s20⟩ := hr20.sl (bytes := 8) RInt.firm (by have h1 := HF.out.2.1; rw [List.length_append]; omega)
      subst e20
      generalize hl20 : (pts ++ prt).length = l20 at s20 ⊢
      clear hl20 hr20 hg20 r29
      refine tr 21 (fun K hK => ?_)
      go_simp
      refine (ints_calls q20 l20 c20 _ (pts ++ prt) y4 s20).mono ?_
      rintro e y5 ⟨h13a, h13c, rfl, r13, hb5⟩
      have by5 := on2 by4 hb5
      have r13 := r13.weak (A' := (fun b => w.heap.size + 1 + 1 < b)) RInt.firm (fun b _ hb => Nat.lt_of_lt_of_le (B3.out.on by4).sz hb)
      have r9 := r9.on RStr.firm hb5
      generalize hl13 : (sortB iLt iEq (pts ++ prt)).length = x13 at r13 ⊢
      clear hl13
      go_wp2_with fail
      refine hK.out _ _ (HS.out by5) (fun hHeld2 => ?_)
      clear hK K hHeld; have hHeld := hHeld2; clear hHeld2
      try go_frame
      refine tr 24 (fun K hK => ?_)
      go_simp
      refine (Texts_row a14 n14 m14 E dks y5 (S14.out.on RStr.firm (on2 B3.out.b by5))).mono ?_
      rintro e y6 ⟨v36, rfl, r36⟩
      have by6 := on2 by5 r36.below
      go_wp2_with fail
      refine hK.out _ _ (HS.out by6) (fun hHeld2 => ?_)
      clear hK K hHeld; have hHeld := hHeld2; clear hHeld2
      try go_frame
      refine tr 27 (fun K hK => ?_)
      refine row_appendS_wp RStr.firm (A := (fun _ => False)) (w0 := y5) _ _ 35 9 rfl _ 16 infostr Try.underlying35 rfl (by decide) (by decide) _ dks rfl r36 b13 l13 k13 clm rfl (((T13.out.on RStr.firm (on2 B3.out.b by6)).src RStr.firm).flat RStr.flat) (by have h1 := HF.out.2.2; omega) ?_
      intro v39 y7 hr27 hg27
      have by7 := on2 by5 hr27.below
      have r9 := r9.on RStr.firm hr27.below
      have r13 := r13.on RInt.firm hr27.below
      refine hK.out _ _ (HS.out by7) (fun hHeld2 => ?_)
      clear hK K hHeld; have hHeld := hHeld2; clear hHeld2
      try go_frame
      obtain ⟨q27, c27, e27, s27⟩ := hr27.sl (bytes := 16) RStr.firm (by have h1 := HF.out.2.2; rw [List.length_append]; omega)
      subst e27
      generalize hl27 : (dks ++ clm).length = l27 at s27 ⊢
      clear hl27 hr27 hg27 r36
      refine tr 28 (fun K hK => ?_)
      go_simp
      refine (Sorted_calls q27 l27 c27 _ (dks ++ clm) y7 s27).mono ?_
      rintro e y8 ⟨h14a, h14c, rfl, r14, hb8⟩
      have by8 := on2 by7 hb8
      have r14 := r14.weak (A' := (fun b => w.heap.size + 1 + 1 < b)) RStr.firm (fun b _ hb => Nat.lt_of_lt_of_le (B3.out.on by7).sz hb)
      have r9 := r9.on RStr.firm hb8
      have r13 := r13.on RInt.firm hb8
      generalize hl14 : (sortB sLt sEq (dks ++ clm)).length = x14 at r14 ⊢
      clear hl14
      go_wp2_with fail
      refine hK.out _ _ (HS.out by8) (fun hHeld2 => ?_)
      clear hK K hHeld; have hHeld := hHeld2; clear hHeld2
      try go_frame
      refine' tk 29 ?_ ?_; rotate_left
      · intro u hu; clear hu; go_simp; try with_reducible rfl
      try go_frame
      have C8 := B3.out.on by8
      have hgz : ¬ (fun b => w.heap.size + 1 + 1 < b) (w.heap.size + 1 + 1) := Nat.lt_irrefl _
      have HK : ∀ u, Kept (fun b => w.heap.size + 1 + 1 < b) y8 u → Below w.heap.size w u → InfoAt A (Fresh w) u [.string nn, .slice a1 n1 m1, .slice a2 n2 m2, .bool no, .int .i64 ga, .int .i64 gb, .int .i64 gc, .int .i64 np, .int .i64 nd, .slice h9a x9 h9c, .int .i64 (addI ua wa), .int .i64 (addI ub wb), .int .i64 (addI uc wc), .slice h13a x13 h13c, .slice h14a x14 h14c] ((nn, nl, nt, no, (ga, gb, gc), np, nd), sortB sLt sEq (nms ++ [nm]), (addI ua wa, addI ub wb, addI uc wc), sortB iLt iEq (pts ++ prt), sortB sLt sEq (dks ++ clm)) := fun u hk hb => ⟨[.string nn, .slice a1 n1 m1, .slice a2 n2 m2, .bool no, .int .i64 ga, .int .i64 gb, .int .i64 gc, .int .i64 np, .int .i64 nd], [.slice h9a x9 h9c, .int .i64 (addI ua wa), .int .i64 (addI ub wb), .int .i64 (addI uc wc), .slice h13a x13 h13c, .slice h14a x14 h14c], rfl, RNode.firm.kept hN0.out (Kept.below hb), ⟨[.slice h9a x9 h9c], _, rfl, ⟨h9a, x9, h9c, rfl, ((r9.kept RStr.firm hk).weak RStr.firm (fun b _ hb => show w.heap.size ≤ b by have h1 : w.heap.size + 1 + 1 < b := hb; omega))⟩, ⟨[.int .i64 (addI ua wa), .int .i64 (addI ub wb), .int .i64 (addI uc wc)], _, rfl, RRes.mk (x := (addI ua wa, addI ub wb, addI uc wc)), ⟨[.slice h13a x13 h13c], _, rfl, ⟨h13a, x13, h13c, rfl, ((r13.kept RInt.firm hk).weak RInt.firm (fun b _ hb => show w.heap.size ≤ b by have h1 : w.heap.size + 1 + 1 < b := hb; omega))⟩, ⟨h14a, x14, h14c, rfl, ((r14.kept RStr.firm hk).weak RStr.firm (fun b _ hb => show w.heap.size ≤ b by have h1 : w.heap.size + 1 + 1 < b := hb; omega))⟩⟩⟩⟩⟩
      have hbz : Below w.heap.size w (y8.setCells (w.heap.size + 1 + 1) 0 [.string nn, .slice a1 n1 m1, .slice a2 n2 m2, .bool no, .int .i64 ga, .int .i64 gb, .int .i64 gc, .int .i64 np, .int .i64 nd, .slice h9a x9 h9c, .int .i64 (addI ua wa), .int .i64 (addI ub wb), .int .i64 (addI uc wc), .slice h13a x13 h13c, .slice h14a x14 h14c]) := below_setCells C8.b (by omega)
      have HE2 := HK _ (kept_setCells (vs := [.string nn, .slice a1 n1 m1, .slice a2 n2 m2, .bool no, .int .i64 ga, .int .i64 gb, .int .i64 gc, .int .i64 np, .int .i64 nd, .slice h9a x9 h9c, .int .i64 (addI ua wa), .int .i64 (addI ub wb), .int .i64 (addI uc wc), .slice h13a x13 h13c, .slice h14a x14 h14c]) (o := 0) hgz) hbz
      have H1 := all_oneCell_toArray (HE2.one)
      have HI : (Try.prog.info? 41).map (·.size) = some (([.string nn, .slice a1 n1 m1, .slice a2 n2 m2, .bool no, .int .i64 ga, .int .i64 gb, .int .i64 gc, .int .i64 np, .int .i64 nd, .slice h9a x9 h9c, .int .i64 (addI ua wa), .int .i64 (addI ub wb), .int .i64 (addI uc wc), .slice h13a x13 h13c, .slice h14a x14 h14c] : List Value).toArray).size := by kernel_rfl
      have HRG : Hid ((y8.setCells (w.heap.size + 1 + 1) 0 [.string nn, .slice a1 n1 m1, .slice a2 n2 m2, .bool no, .int .i64 ga, .int .i64 gb, .int .i64 gc, .int .i64 np, .int .i64 nd, .slice h9a x9 h9c, .int .i64 (addI ua wa), .int .i64 (addI ub wb), .int .i64 (addI uc wc), .slice h13a x13 h13c, .slice h14a x14 h14c]).rangeAt (w.heap.size + 1 + 1) 0 [.string nn, .slice a1 n1 m1, .slice a2 n2 m2, .bool no, .int .i64 ga, .int .i64 gb, .int .i64 gc, .int .i64 np, .int .i64 nd, .slice h9a x9 h9c, .int .i64 (addI ua wa), .int .i64 (addI ub wb), .int .i64 (addI uc wc), .slice h13a x13 h13c, .slice h14a x14 h14c]) := World.rangeAt_setCells_same _ _ _ _ C8.z.there
      refine ts 30 (fun K hK => ?_)
      refine want_yes (by rfl) (wp_store_mid 41 _ _ rfl (w.heap.size + 1 + 1) 0 ([.string nn, .slice a1 n1 m1, .slice a2 n2 m2, .bool no, .int .i64 ga, .int .i64 gb, .int .i64 gc, .int .i64 np, .int .i64 nd, .slice h9a x9 h9c, .int .i64 (addI ua wa), .int .i64 (addI ub wb), .int .i64 (addI uc wc), .slice h13a x13 h13c, .slice h14a x14 h14c] : List Value).toArray rfl rfl C8.z.there HI H1 ?_)
      obtain ⟨W8, hW8⟩ : ∃ W8, W8 = y8.setCells (w.heap.size + 1 + 1) 0 [.string nn, .slice a1 n1 m1, .slice a2 n2 m2, .bool no, .int .i64 ga, .int .i64 gb, .int .i64 gc, .int .i64 np, .int .i64 nd, .slice h9a x9 h9c, .int .i64 (addI ua wa), .int .i64 (addI ub wb), .int .i64 (addI uc wc), .slice h13a x13 h13c, .slice h14a x14 h14c] := ⟨_, rfl⟩
      have hS8 : AdS w [.string nn, .slice a1 n1 m1, .slice a2 n2 m2, .bool no, .int .i64 ga, .int .i64 gb, .int .i64 gc, .int .i64 np, .int .i64 nd, .slice a9 n9 m9, .int .i64 ua, .int .i64 ub, .int .i64 uc, .slice a13 n13 m13, .slice a14 n14 m14] [.string nm, .int .i64 pri, .slice g2.1 g2.2.1 g2.2.2, .int .i64 wa, .int .i64 wb, .int .i64 wc, .slice g6.1 g6.2.1 g6.2.2, .slice g7.1 g7.2.1 g7.2.2, .slice g8.1 g8.2.1 g8.2.2, .slice b9 l9 k9, .slice g10.1 g10.2.1 g10.2.2, .slice g11.1 g11.2.1 g11.2.2, .slice g12.1 g12.2.1 g12.2.2, .slice b13 l13 k13, .string nod, .string hop] W8 := by rw [hW8]; exact ⟨C8.p.kept (A := fun b => b ≠ w.heap.size + 1 + 1) (kept_setCells (fun h => h rfl)) (by omega), C8.y.kept (A := fun b => b ≠ w.heap.size + 1 + 1) (kept_setCells (fun h => h rfl)) (by omega)⟩
      rw [← hW8] at HRG HE2 hbz
      refine at_world hW8 ?_
      refine hK.out undef _ hS8 (fun hHeld2 => ?_)
      clear hK K hHeld; have hHeld := hHeld2; clear hHeld2
      try go_frame
      have HE3 : Hid _ := HE2
      have HB3 : Hid _ := hbz
      clear HE2 hbz H1 HK C8 r9 r13 r14 hW8
      refine' tk 31 ?_ ?_; rotate_left
      · intro u hu; clear hu; go_simp; try with_reducible rfl
      try go_frame
      refine wpAnyH_done (by kernel_rfl) ?_ _
      refine NoPanic.normal ?_
      go_wp2_with fail
      refine bodyPost_ret (v := .tuple #[.agg ([.string nn, .slice a1 n1 m1, .slice a2 n2 m2, .bool no, .int .i64 ga, .int .i64 gb, .int .i64 gc, .int .i64 np, .int .i64 nd, .slice h9a x9 h9c, .int .i64 (addI ua wa), .int .i64 (addI ub wb), .int .i64 (addI uc wc), .slice h13a x13 h13c, .slice h14a x14 h14c] : List Value).toArray, .int .i64 0]) (res_cell2 (p := 4) (q := 5) (ty := 41) rfl _ _ (w.heap.size + 1 + 1) [.string nn, .slice a1 n1 m1, .slice a2 n2 m2, .bool no, .int .i64 ga, .int .i64 gb, .int .i64 gc, .int .i64 np, .int .i64 nd, .slice h9a x9 h9c, .int .i64 (addI ua wa), .int .i64 (addI ub wb), .int .i64 (addI uc wc), .slice h13a x13 h13c, .slice h14a x14 h14c] _ _ rfl rfl HRG.out Try.underlying41 rfl HI) rfl ⟨[.string nn, .slice a1 n1 m1, .slice a2 n2 m2, .bool no, .int .i64 ga, .int .i64 gb, .int .i64 gc, .int .i64 np, .int .i64 nd, .slice h9a x9 h9c, .int .i64 (addI ua wa), .int .i64 (addI ub wb), .int .i64 (addI uc wc), .slice h13a x13 h13c, .slice h14a x14 h14c], rfl, HE3.out, HB3.out⟩
    ·
      go_simp
      obtain ⟨U1, hU1⟩ : ∃ U1, U1 = (W3.alloc (.cells #[.string nm] 9)).drew := ⟨_, rfl⟩
      have bU1 : Below W3.heap.size W3 U1 := by rw [hU1]; exact ((Below.refl _ _).alloc (Nat.le_refl _) _).drew
      have HXb : SlAt RStr 1 16 (fun b => b = W3.heap.size) U1 (some ⟨W3.heap.size, 0, none⟩) 1 1 [nm] := by
        rw [hU1]
        refine ⟨rfl, Nat.le_refl _, (fun h => by cases h), by decide, fun _ => ⟨W3.heap.size, 0, rfl, by simp, rfl, fun i hi => ?_⟩⟩
        obtain rfl : i = 0 := by omega
        refine ⟨[.string nm], ⟨rfl, hp0⟩, fun j v hj => ?_⟩
        have := one_cells W3 [.string nm] 9 j v hj
        simpa [Addr.add_mid] using this
      refine hK.out _ _ (HS.out (hU1 ▸ bU1)) (fun hHeld2 => ?_)
      clear hK K hHeld; have hHeld := hHeld2; clear hHeld2
      try go_frame
      rw [← hU1] at hHeld ⊢
      clear hU1
      refine tr 4 (fun K hK => ?_)
      go_simp
      refine (Texts_row a9 n9 m9 E nms U1 (S9.out.on RStr.firm (on2 B3.out.b bU1))).mono ?_
      rintro e U2 ⟨v16, rfl, r16⟩
      have bU2 := on2 bU1 r16.below
      have HXa := HXb.on RStr.firm r16.below
      go_wp2_with fail
      refine hK.out _ _ (HS.out bU2) (fun hHeld2 => ?_)
      clear hK K hHeld; have hHeld := hHeld2; clear hHeld2
      try go_frame
      refine tr 8 (fun K hK => ?_)
      refine row_appendS_wp RStr.firm (A := (fun _ => False)) (w0 := U1) _ _ 35 9 rfl _ 16 infostr Try.underlying35 rfl (by decide) (by decide) _ nms rfl r16 (some ⟨W3.heap.size, 0, none⟩) 1 1 [nm] rfl ((HXa.src RStr.firm).flat RStr.flat) (by have h1 := HF.out.1; simp; omega) ?_
      intro v20 U3 hr8 hg8
      have bU3 : Below W3.heap.size W3 U3 := on2 bU1 hr8.below
      refine hK.out _ _ (HS.out bU3) (fun hHeld2 => ?_)
      clear hK K hHeld; have hHeld := hHeld2; clear hHeld2
      try go_frame
      obtain ⟨q8, c8, e8, s8⟩ := hr8.sl (bytes := 16) RStr.firm (by have h1 := HF.out.1; simp; omega)
      subst e8
      generalize hl8 : (nms ++ [nm]).length = l8 at s8 ⊢
      clear hl8 hr8 hg8
      refine tr 9 (fun K hK => ?_)
      go_simp
      refine (Sorted_calls q8 l8 c8 _ (nms ++ [nm]) U3 s8).mono ?_
      rintro e y1 ⟨h9a, h9c, rfl, r9, hb1⟩
      have by1 := on2 bU3 hb1
      have r9 := r9.weak (A' := (fun b => w.heap.size + 1 + 1 < b)) RStr.firm (fun b _ hb => Nat.lt_of_lt_of_le (B3.out.on bU3).sz hb)
      generalize hl9 : (sortB sLt sEq (nms ++ [nm])).length = x9 at r9 ⊢
      clear hl9
      go_wp2_with fail
      refine hK.out _ _ (HS.out by1) (fun hHeld2 => ?_)
      clear hK K hHeld; have hHeld := hHeld2; clear hHeld2
      try go_frame
      refine tr 14 (fun K hK => ?_)
      go_simp
      refine (rplus_calls ua ub uc wa wb wc y1).mono ?_
      rintro e y2 ⟨rfl, hb2⟩
      have by2 := on2 by1 hb2
      have r9 := r9.on RStr.firm hb2
      go_wp2_with fail
      refine hK.out _ _ (HS.out by2) (fun hHeld2 => ?_)
      clear hK K hHeld; have hHeld := hHeld2; clear hHeld2
      try go_frame
      refine tr 17 (fun K hK => ?_)
      go_simp
      refine (Ints_row a13 n13 m13 E pts y2 (S13.out.on RInt.firm (on2 B3.out.b by2))).mono ?_
      rintro e y3 ⟨v29, rfl, r29⟩
      have by3 := on2 by2 r29.below
      go_wp2_with fail
      refine hK.out _ _ (HS.out by3) (fun hHeld2 => ?_)
      clear hK K hHeld; have hHeld := hHeld2; clear hHeld2
      try go_frame
      refine tr 20 (fun K hK => ?_)
      refine row_appendS_wp RInt.firm (A := (fun _ => False)) (w0 := y2) _ _ 32 3 rfl _ 8 infoint Try.underlying32 rfl (by decide) (by decide) _ pts rfl r29 b9 l9 k9 prt rfl (((T9.out.on RInt.firm (on2 B3.out.b by3)).src RInt.firm).flat RInt.flat) (by have h1 := HF.out.2.1; omega) ?_
      intro v32 y4 hr20 hg20
      have by4 := on2 by2 hr20.below
      have r9 := r9.on RStr.firm hr20.below
      refine hK.out _ _ (HS.out by4) (fun hHeld2 => ?_)
      clear hK K hHeld; have hHeld := hHeld2; clear hHeld2
      try go_frame
      obtain ⟨q20, c20, e20, s20⟩ := hr20.sl (bytes := 8) RInt.firm (by have h1 := HF.out.2.1; rw [List.length_append]; omega)
      subst e20
      generalize hl20 : (pts ++ prt).length = l20 at s20 ⊢
      clear hl20 hr20 hg20 r29
      refine tr 21 (fun K hK => ?_)
      go_simp
      refine (ints_calls q20 l20 c20 _ (pts ++ prt) y4 s20).mono ?_
      rintro e y5 ⟨h13a, h13c, rfl, r13, hb5⟩
      have by5 := on2 by4 hb5
      have r13 := r13.weak (A' := (fun b => w.heap.size + 1 + 1 < b)) RInt.firm (fun b _ hb => Nat.lt_of_lt_of_le (B3.out.on by4).sz hb)
      have r9 := r9.on RStr.firm hb5
      generalize hl13 : (sortB iLt iEq (pts ++ prt)).length = x13 at r13 ⊢
      clear hl13
      go_wp2_with fail
      refine hK.out _ _ (HS.out by5) (fun hHeld2 => ?_)
      clear hK K hHeld; have hHeld := hHeld2; clear hHeld2
      try go_frame
      refine tr 24 (fun K hK => ?_)
      go_simp
      refine (Texts_row a14 n14 m14 E dks y5 (S14.out.on RStr.firm (on2 B3.out.b by5))).mono ?_
      rintro e y6 ⟨v36, rfl, r36⟩
      have by6 := on2 by5 r36.below
      go_wp2_with fail
      refine hK.out _ _ (HS.out by6) (fun hHeld2 => ?_)
      clear hK K hHeld; have hHeld := hHeld2; clear hHeld2
      try go_frame
      refine tr 27 (fun K hK => ?_)
      refine row_appendS_wp RStr.firm (A := (fun _ => False)) (w0 := y5) _ _ 35 9 rfl _ 16 infostr Try.underlying35 rfl (by decide) (by decide) _ dks rfl r36 b13 l13 k13 clm rfl (((T13.out.on RStr.firm (on2 B3.out.b by6)).src RStr.firm).flat RStr.flat) (by have h1 := HF.out.2.2; omega) ?_
      intro v39 y7 hr27 hg27
      have by7 := on2 by5 hr27.below
      have r9 := r9.on RStr.firm hr27.below
      have r13 := r13.on RInt.firm hr27.below
      refine hK.out _ _ (HS.out by7) (fun hHeld2 => ?_)
      clear hK K hHeld; have hHeld := hHeld2; clear hHeld2
      try go_frame
      obtain ⟨q27, c27, e27, s27⟩ := hr27.sl (bytes := 16) RStr.firm (by have h1 := HF.out.2.2; rw [List.length_append]; omega)
      subst e27
      generalize hl27 : (dks ++ clm).length = l27 at s27 ⊢
      clear hl27 hr27 hg27 r36
      refine tr 28 (fun K hK => ?_)
      go_simp
      refine (Sorted_calls q27 l27 c27 _ (dks ++ clm) y7 s27).mono ?_
      rintro e y8 ⟨h14a, h14c, rfl, r14, hb8⟩
      have by8 := on2 by7 hb8
      have r14 := r14.weak (A' := (fun b => w.heap.size + 1 + 1 < b)) RStr.firm (fun b _ hb => Nat.lt_of_lt_of_le (B3.out.on by7).sz hb)
      have r9 := r9.on RStr.firm hb8
      have r13 := r13.on RInt.firm hb8
      generalize hl14 : (sortB sLt sEq (dks ++ clm)).length = x14 at r14 ⊢
      clear hl14
      go_wp2_with fail
      refine hK.out _ _ (HS.out by8) (fun hHeld2 => ?_)
      clear hK K hHeld; have hHeld := hHeld2; clear hHeld2
      try go_frame
      refine' tk 29 ?_ ?_; rotate_left
      · intro u hu; clear hu; go_simp; try with_reducible rfl
      try go_frame
      have C8 := B3.out.on by8
      have hgz : ¬ (fun b => w.heap.size + 1 + 1 < b) (w.heap.size + 1 + 1) := Nat.lt_irrefl _
      have HK : ∀ u, Kept (fun b => w.heap.size + 1 + 1 < b) y8 u → Below w.heap.size w u → InfoAt A (Fresh w) u [.string nn, .slice a1 n1 m1, .slice a2 n2 m2, .bool no, .int .i64 ga, .int .i64 gb, .int .i64 gc, .int .i64 np, .int .i64 nd, .slice h9a x9 h9c, .int .i64 (addI ua wa), .int .i64 (addI ub wb), .int .i64 (addI uc wc), .slice h13a x13 h13c, .slice h14a x14 h14c] ((nn, nl, nt, no, (ga, gb, gc), np, nd), sortB sLt sEq (nms ++ [nm]), (addI ua wa, addI ub wb, addI uc wc), sortB iLt iEq (pts ++ prt), sortB sLt sEq (dks ++ clm)) := fun u hk hb => ⟨[.string nn, .slice a1 n1 m1, .slice a2 n2 m2, .bool no, .int .i64 ga, .int .i64 gb, .int .i64 gc, .int .i64 np, .int .i64 nd], [.slice h9a x9 h9c, .int .i64 (addI ua wa), .int .i64 (addI ub wb), .int .i64 (addI uc wc), .slice h13a x13 h13c, .slice h14a x14 h14c], rfl, RNode.firm.kept hN0.out (Kept.below hb), ⟨[.slice h9a x9 h9c], _, rfl, ⟨h9a, x9, h9c, rfl, ((r9.kept RStr.firm hk).weak RStr.firm (fun b _ hb => show w.heap.size ≤ b by have h1 : w.heap.size + 1 + 1 < b := hb; omega))⟩, ⟨[.int .i64 (addI ua wa), .int .i64 (addI ub wb), .int .i64 (addI uc wc)], _, rfl, RRes.mk (x := (addI ua wa, addI ub wb, addI uc wc)), ⟨[.slice h13a x13 h13c], _, rfl, ⟨h13a, x13, h13c, rfl, ((r13.kept RInt.firm hk).weak RInt.firm (fun b _ hb => show w.heap.size ≤ b by have h1 : w.heap.size + 1 + 1 < b := hb; omega))⟩, ⟨h14a, x14, h14c, rfl, ((r14.kept RStr.firm hk).weak RStr.firm (fun b _ hb => show w.heap.size ≤ b by have h1 : w.heap.size + 1 + 1 < b := hb; omega))⟩⟩⟩⟩⟩
      have hbz : Below w.heap.size w (y8.setCells (w.heap.size + 1 + 1) 0 [.string nn, .slice a1 n1 m1, .slice a2 n2 m2, .bool no, .int .i64 ga, .int .i64 gb, .int .i64 gc, .int .i64 np, .int .i64 nd, .slice h9a x9 h9c, .int .i64 (addI ua wa), .int .i64 (addI ub wb), .int .i64 (addI uc wc), .slice h13a x13 h13c, .slice h14a x14 h14c]) := below_setCells C8.b (by omega)
      have HE2 := HK _ (kept_setCells (vs := [.string nn, .slice a1 n1 m1, .slice a2 n2 m2, .bool no, .int .i64 ga, .int .i64 gb, .int .i64 gc, .int .i64 np, .int .i64 nd, .slice h9a x9 h9c, .int .i64 (addI ua wa), .int .i64 (addI ub wb), .int .i64 (addI uc wc), .slice h13a x13 h13c, .slice h14a x14 h14c]) (o := 0) hgz) hbz
      have H1 := all_oneCell_toArray (HE2.one)
      have HI : (Try.prog.info? 41).map (·.size) = some (([.string nn, .slice a1 n1 m1, .slice a2 n2 m2, .bool no, .int .i64 ga, .int .i64 gb, .int .i64 gc, .int .i64 np, .int .i64 nd, .slice h9a x9 h9c, .int .i64 (addI ua wa), .int .i64 (addI ub wb), .int .i64 (addI uc wc), .slice h13a x13 h13c, .slice h14a x14 h14c] : List Value).toArray).size := by kernel_rfl
      have HRG : Hid ((y8.setCells (w.heap.size + 1 + 1) 0 [.string nn, .slice a1 n1 m1, .slice a2 n2 m2, .bool no, .int .i64 ga, .int .i64 gb, .int .i64 gc, .int .i64 np, .int .i64 nd, .slice h9a x9 h9c, .int .i64 (addI ua wa), .int .i64 (addI ub wb), .int .i64 (addI uc wc), .slice h13a x13 h13c, .slice h14a x14 h14c]).rangeAt (w.heap.size + 1 + 1) 0 [.string nn, .slice a1 n1 m1, .slice a2 n2 m2, .bool no, .int .i64 ga, .int .i64 gb, .int .i64 gc, .int .i64 np, .int .i64 nd, .slice h9a x9 h9c, .int .i64 (addI ua wa), .int .i64 (addI ub wb), .int .i64 (addI uc wc), .slice h13a x13 h13c, .slice h14a x14 h14c]) := World.rangeAt_setCells_same _ _ _ _ C8.z.there
      refine ts 30 (fun K hK => ?_)
      refine want_yes (by rfl) (wp_store_mid 41 _ _ rfl (w.heap.size + 1 + 1) 0 ([.string nn, .slice a1 n1 m1, .slice a2 n2 m2, .bool no, .int .i64 ga, .int .i64 gb, .int .i64 gc, .int .i64 np, .int .i64 nd, .slice h9a x9 h9c, .int .i64 (addI ua wa), .int .i64 (addI ub wb), .int .i64 (addI uc wc), .slice h13a x13 h13c, .slice h14a x14 h14c] : List Value).toArray rfl rfl C8.z.there HI H1 ?_)
      obtain ⟨W8, hW8⟩ : ∃ W8, W8 = y8.setCells (w.heap.size + 1 + 1) 0 [.string nn, .slice a1 n1 m1, .slice a2 n2 m2, .bool no, .int .i64 ga, .int .i64 gb, .int .i64 gc, .int .i64 np, .int .i64 nd, .slice h9a x9 h9c, .int .i64 (addI ua wa), .int .i64 (addI ub wb), .int .i64 (addI uc wc), .slice h13a x13 h13c, .slice h14a x14 h14c] := ⟨_, rfl⟩
      have hS8 : AdS w [.string nn, .slice a1 n1 m1, .slice a2 n2 m2, .bool no, .int .i64 ga, .int .i64 gb, .int .i64 gc, .int .i64 np, .int .i64 nd, .slice a9 n9 m9, .int .i64 ua, .int .i64 ub, .int .i64 uc, .slice a13 n13 m13, .slice a14 n14 m14] [.string nm, .int .i64 pri, .slice g2.1 g2.2.1 g2.2.2, .int .i64 wa, .int .i64 wb, .int .i64 wc, .slice g6.1 g6.2.1 g6.2.2, .slice g7.1 g7.2.1 g7.2.2, .slice g8.1 g8.2.1 g8.2.2, .slice b9 l9 k9, .slice g10.1 g10.2.1 g10.2.2, .slice g11.1 g11.2.1 g11.2.2, .slice g12.1 g12.2.1 g12.2.2, .slice b13 l13 k13, .string nod, .string hop] W8 := by rw [hW8]; exact ⟨C8.p.kept (A := fun b => b ≠ w.heap.size + 1 + 1) (kept_setCells (fun h => h rfl)) (by omega), C8.y.kept (A := fun b => b ≠ w.heap.size + 1 + 1) (kept_setCells (fun h => h rfl)) (by omega)⟩
      rw [← hW8] at HRG HE2 hbz
      refine at_world hW8 ?_
      refine hK.out undef _ hS8 (fun hHeld2 => ?_)
      clear hK K hHeld; have hHeld := hHeld2; clear hHeld2
      try go_frame
      have HE3 : Hid _ := HE2
      have HB3 : Hid _ := hbz
      clear HE2 hbz H1 HK C8 r9 r13 r14 hW8
      refine' tk 31 ?_ ?_; rotate_left
      · intro u hu; clear hu; go_simp; try with_reducible rfl
      try go_frame
      refine wpAnyH_done (by kernel_rfl) ?_ _
      refine NoPanic.normal ?_
      go_wp2_with fail
      refine bodyPost_ret (v := .tuple #[.agg ([.string nn, .slice a1 n1 m1, .slice a2 n2 m2, .bool no, .int .i64 ga, .int .i64 gb, .int .i64 gc, .int .i64 np, .int .i64 nd, .slice h9a x9 h9c, .int .i64 (addI ua wa), .int .i64 (addI ub wb), .int .i64 (addI uc wc), .slice h13a x13 h13c, .slice h14a x14 h14c] : List Value).toArray, .int .i64 0]) (res_cell2 (p := 4) (q := 5) (ty := 41) rfl _ _ (w.heap.size + 1 + 1) [.string nn, .slice a1 n1 m1, .slice a2 n2 m2, .bool no, .int .i64 ga, .int .i64 gb, .int .i64 gc, .int .i64 np, .int .i64 nd, .slice h9a x9 h9c, .int .i64 (addI ua wa), .int .i64 (addI ub wb), .int .i64 (addI uc wc), .slice h13a x13 h13c, .slice h14a x14 h14c] _ _ rfl rfl HRG.out Try.underlying41 rfl HI) rfl ⟨[.string nn, .slice a1 n1 m1, .slice a2 n2 m2, .bool no, .int .i64 ga, .int .i64 gb, .int .i64 gc, .int .i64 np, .int .i64 nd, .slice h9a x9 h9c, .int .i64 (addI ua wa), .int .i64 (addI ub wb), .int .i64 (addI uc wc), .slice h13a x13 h13c, .slice h14a x14 h14c], rfl, HE3.out, HB3.out⟩
  · have HE := HDn.out hhas
    clear HD HDn hhas
    subst HE
    obtain ⟨z0, f0⟩ := B3.out.z.2 0 _ rfl
    obtain ⟨z1, f1⟩ := B3.out.z.2 1 _ rfl
    obtain ⟨z2, f2⟩ := B3.out.z.2 2 _ rfl
    obtain ⟨z3, f3⟩ := B3.out.z.2 3 _ rfl
    obtain ⟨z4, f4⟩ := B3.out.z.2 4 _ rfl
    obtain ⟨z5, f5⟩ := B3.out.z.2 5 _ rfl
    obtain ⟨z6, f6⟩ := B3.out.z.2 6 _ rfl
    obtain ⟨z7, f7⟩ := B3.out.z.2 7 _ rfl
    obtain ⟨z8, f8⟩ := B3.out.z.2 8 _ rfl
    obtain ⟨z9, f9⟩ := B3.out.z.2 9 _ rfl
    obtain ⟨z10, f10⟩ := B3.out.z.2 10 _ rfl
    obtain ⟨z11, f11⟩ := B3.out.z.2 11 _ rfl
    obtain ⟨z12, f12⟩ := B3.out.z.2 12 _ rfl
    obtain ⟨z13, f13⟩ := B3.out.z.2 13 _ rfl
    obtain ⟨z14, f14⟩ := B3.out.z.2 14 _ rfl
    go_wp2_with fail
    refine bodyPost_ret (v := .tuple #[.agg #[.string ⟨#[]⟩, .slice none 0 0, .slice none 0 0, .bool false, .int .i64 0, .int .i64 0, .int .i64 0, .int .i64 0, .int .i64 0, .slice none 0 0, .int .i64 0, .int .i64 0, .int .i64 0, .slice none 0 0, .slice none 0 0], .int .i64 6]) (by simp [results, Try.results22, go_sem, z0, z1, z2, z3, z4, z5, z6, z7, z8, z9, z10, z11, z12, z13, z14]) rfl ⟨[.string ⟨#[]⟩, .slice none 0 0, .slice none 0 0, .bool false, .int .i64 0, .int .i64 0, .int .i64 0, .int .i64 0, .int .i64 0, .slice none 0 0, .int .i64 0, .int .i64 0, .int .i64 0, .slice none 0 0, .slice none 0 0], rfl, zeroInfo_at _ _ _, ?_⟩
    repeat (refine Below.setCell ?_ (by simp <;> omega) _)
    exact B3.out.b
end Go.Proofs.Ytddeilhelkfpoaa
namespace Go.Proofs.Ytddeilhelkfpoaa
open Go.RowKit
set_option linter.unusedSimpArgs false

theorem mem_insB {α : Type} {lt eq : α → α → Bool} (he : ∀ a b, eq a b = true → a = b) (s x : α) : ∀ L : List α, x ∈ insB lt eq L s ↔ x ∈ L ∨ x = s
  | [] => by simp [insB]
  | y :: L => by
    have ih := mem_insB (lt := lt) he s x L
    unfold insB
    split
    · simp only [List.mem_cons, ih]
      constructor
      · rintro (h | h | h)
        · exact .inl (.inl h)
        · exact .inl (.inr h)
        · exact .inr h
      · rintro ((h | h) | h)
        · exact .inl h
        · exact .inr (.inl h)
        · exact .inr (.inr h)
    · split
      · rename_i h1 h2
        have := he _ _ h2
        subst this
        simp only [List.mem_cons]
        constructor
        · intro h; exact .inl h
        · rintro (h | h)
          · exact h
          · exact .inl h
      · simp only [List.mem_cons]
        constructor
        · rintro (h | h | h)
          · exact .inr h
          · exact .inl (.inl h)
          · exact .inl (.inr h)
        · rintro ((h | h) | h)
          · exact .inr (.inl h)
          · exact .inr (.inr h)
          · exact .inl h
theorem mem_foldB {α : Type} {lt eq : α → α → Bool} (he : ∀ a b, eq a b = true → a = b) (x : α) : ∀ (L M : List α), x ∈ L.foldl (insB lt eq) M ↔ x ∈ M ∨ x ∈ L
  | [], M => by simp
  | y :: L, M => by
    rw [List.foldl_cons, mem_foldB he x L (insB lt eq M y), mem_insB he]
    simp only [List.mem_cons]
    constructor
    · rintro ((h | h) | h)
      · exact .inl h
      · exact .inr (.inl h)
      · exact .inr (.inr h)
    · rintro (h | h | h)
      · exact .inl (.inl h)
      · exact .inl (.inr h)
      · exact .inr h
theorem mem_sortB {α : Type} {lt eq : α → α → Bool} (he : ∀ a b, eq a b = true → a = b) (x : α) (L : List α) : x ∈ sortB lt eq L ↔ x ∈ L := by
  unfold sortB; rw [mem_foldB he]; simp
theorem hasB_iff {α : Type} {eq : α → α → Bool} (he : ∀ a b, eq a b = true ↔ a = b) (L : List α) (s : α) : hasB eq L s = true ↔ s ∈ L := by
  unfold hasB
  rw [List.any_eq_true]
  constructor
  · rintro ⟨x, h1, h2⟩; rw [← (he x s).1 h2]; exact h1
  · intro h; exact ⟨s, h, (he s s).2 rfl⟩
theorem hasS_iff (L : List ByteArray) (s : ByteArray) : hasB sEq L s = true ↔ s ∈ L := hasB_iff sEq_iff L s
theorem iEq_iff (a b : Int) : iEq a b = true ↔ a = b := by simp [iEq]
theorem mem_sorted (x : ByteArray) (L : List ByteArray) : x ∈ sortB sLt sEq L ↔ x ∈ L := mem_sortB (fun a b h => (sEq_iff a b).1 h) x L
theorem acc_names (s : ByteArray) : ∀ (L : List PodD) (a : AccD), s ∈ (L.foldl ofStep a).1 ↔ s ∈ a.1 ∨ ∃ p ∈ L, p.1 = s
  | [], a => by simp
  | p :: L, a => by
    rw [List.foldl_cons, acc_names s L (ofStep a p)]
    have h : s ∈ (ofStep a p).1 ↔ s ∈ a.1 ∨ p.1 = s := by
      unfold ofStep
      split
      · rename_i h
        rw [hasS_iff] at h
        constructor
        · exact .inl
        · rintro (h1 | h1)
          · exact h1
          · rw [← h1]; exact h
      · simp only [List.mem_append, List.mem_singleton]
        constructor
        · rintro (h1 | h1)
          · exact .inl h1
          · exact .inr h1.symm
        · rintro (h1 | h1)
          · exact .inl h1
          · exact .inr h1.symm
    rw [h]
    simp only [List.mem_cons, exists_eq_or_imp, or_assoc]
theorem of_names (n : NodeD) (L : List PodD) (s : ByteArray) : hasB sEq (ofP n L).2.1 s = true ↔ ∃ p ∈ L, p.1 = s := by
  rw [hasS_iff]
  show s ∈ sortB sLt sEq (ofAcc L).1 ↔ _
  rw [mem_sorted]
  unfold ofAcc
  rw [acc_names]
  simp
theorem add_names (i : InfoD) (p : PodD) (s : ByteArray) : hasB sEq (addP i p).2.1 s = true ↔ hasB sEq i.2.1 s = true ∨ s = p.1 := by
  rw [hasS_iff, hasS_iff]
  show s ∈ sortB sLt sEq (i.2.1 ++ [p.1]) ↔ _
  rw [mem_sorted]
  simp
/-- Those that are left are those that were there. -/
theorem rest_back (n : NodeD) (L : List PodD) (p : PodD) (h : hasB sEq (ofP n L).2.1 p.1 = false) : restP (addP (ofP n L) p) p (L ++ [p]) = L := by
  unfold restP
  rw [List.filter_append]
  have h1 : [p].filter (fun q => !sEq q.1 p.1 && hasB sEq (addP (ofP n L) p).2.1 q.1) = [] := by simp [sEq_self]
  rw [h1, List.append_nil]
  rw [List.filter_eq_self]
  intro q hq
  have h2 : hasB sEq (ofP n L).2.1 q.1 = true := (of_names n L q.1).2 ⟨q, hq, rfl⟩
  have h3 : sEq q.1 p.1 = false := by
    rw [← Bool.not_eq_true, sEq_iff]
    intro e
    rw [e] at h2
    rw [h2] at h
    cases h
  rw [h3, (add_names _ _ _).2 (.inl h2)]
  rfl
theorem back_plain (n : NodeD) (L : List PodD) (p : PodD) (h : hasB sEq (ofP n L).2.1 p.1 = false) : dropP (addP (ofP n L) p) p (L ++ [p]) = (ofP n L, 0) := by
  have h1 : hasB sEq (addP (ofP n L) p).2.1 p.1 = true := (add_names _ _ _).2 (.inr rfl)
  unfold dropP
  rw [if_pos h1, rest_back n L p h]
  rfl
end Go.Proofs.Ytddeilhelkfpoaa
namespace Go.Proofs.Ytddeilhelkfpoaa
open Go.RowKit
set_option linter.unusedSimpArgs false

theorem bl_irr : ∀ a : List UInt8, Op.bytesLess a a = false
  | [] => rfl
  | a :: x => by simp [Op.bytesLess, bl_irr x]
theorem bl_tot : ∀ a b : List UInt8, a ≠ b → Op.bytesLess b a = !Op.bytesLess a b
  | [], [], h => absurd rfl h
  | [], _ :: _, _ => rfl
  | _ :: _, [], _ => rfl
  | a :: x, b :: y, h => by
    by_cases e : a = b
    · subst e
      have ih := bl_tot x y (fun e => h (by rw [e]))
      simp [Op.bytesLess, ih]
    · have hne : a.toNat ≠ b.toNat := fun h' => e (UInt8.toNat_inj.1 h')
      by_cases hl : a < b
      · have h1 : ¬ b < a := fun h' => by have p : a.toNat < b.toNat := hl; have q : b.toNat < a.toNat := h'; omega
        have e2 : ¬ b = a := fun e' => e e'.symm
        simp [Op.bytesLess, hl, h1, e2]
      · have h1 : b < a := by
          show b.toNat < a.toNat
          have : ¬ a.toNat < b.toNat := hl
          omega
        simp [Op.bytesLess, hl, h1, e]
theorem bl_trans : ∀ a b c : List UInt8, Op.bytesLess a b = true → Op.bytesLess b c = true → Op.bytesLess a c = true
  | _, [], _, h, _ => by simp [Op.bytesLess] at h
  | _, _ :: _, [], _, h => by simp [Op.bytesLess] at h
  | [], _ :: _, _ :: _, _, _ => rfl
  | a :: x, b :: y, c :: z, h1, h2 => by
    simp only [Op.bytesLess, Bool.or_eq_true, Bool.and_eq_true, decide_eq_true_eq, beq_iff_eq] at h1 h2 ⊢
    rcases h1 with h1 | ⟨rfl, h1⟩ <;> rcases h2 with h2 | ⟨rfl, h2⟩
    · exact .inl (UInt8.lt_trans h1 h2)
    · exact .inl h1
    · exact .inl h2
    · exact .inr ⟨rfl, bl_trans x y z h1 h2⟩
section
variable {α : Type} {lt eq : α → α → Bool}
structure OrdB (lt eq : α → α → Bool) : Prop where
  eqi : ∀ a b, eq a b = true ↔ a = b
  irr : ∀ a, lt a a = false
  tr : ∀ a b c, lt a b = true → lt b c = true → lt a c = true
  tot : ∀ a b, a ≠ b → lt a b = true ∨ lt b a = true
def UpB (lt : α → α → Bool) (L : List α) : Prop := L.Pairwise (fun a b => lt a b = true)
theorem UpB.ins (h : OrdB lt eq) (s : α) : ∀ L : List α, UpB lt L → UpB lt (insB lt eq L s)
  | [], _ => by simp [insB, UpB]
  | x :: xs, hL => by
    obtain ⟨h1, h2⟩ := List.pairwise_cons.1 hL
    unfold insB
    split
    · rename_i h3
      refine List.pairwise_cons.2 ⟨fun y hy => ?_, UpB.ins h s xs h2⟩
      rcases (mem_insB (fun a b e => (h.eqi a b).1 e) s y xs).1 hy with h4 | h4
      · exact h1 y h4
      · rw [h4]; exact h3
    · split
      · exact hL
      · rename_i h3 h4
        have hne : x ≠ s := fun e => h4 ((h.eqi x s).2 e)
        have hlt : lt s x = true := (h.tot x s hne).resolve_left h3
        refine List.pairwise_cons.2 ⟨fun y hy => ?_, hL⟩
        rcases List.mem_cons.1 hy with h5 | h5
        · rw [h5]; exact hlt
        · exact h.tr s x y hlt (h1 y h5)
theorem UpB.sort (h : OrdB lt eq) (L : List α) : UpB lt (sortB lt eq L) := by
  unfold sortB
  suffices H : ∀ (L M : List α), UpB lt M → UpB lt (L.foldl (insB lt eq) M) from H L [] List.Pairwise.nil
  intro L
  induction L with
  | nil => intro M hM; exact hM
  | cons x L ih => intro M hM; exact ih _ (UpB.ins h x M hM)
theorem UpB.one (h : OrdB lt eq) : ∀ L M : List α, UpB lt L → UpB lt M → (∀ x, x ∈ L ↔ x ∈ M) → L = M
  | [], [], _, _, _ => rfl
  | [], y :: ys, _, _, hm => absurd ((hm y).2 List.mem_cons_self) (by simp)
  | x :: xs, [], _, _, hm => absurd ((hm x).1 List.mem_cons_self) (by simp)
  | x :: xs, y :: ys, hL, hM, hm => by
    obtain ⟨a1, a2⟩ := List.pairwise_cons.1 hL
    obtain ⟨b1, b2⟩ := List.pairwise_cons.1 hM
    have e : x = y := by
      rcases List.mem_cons.1 ((hm x).1 List.mem_cons_self) with h1 | h1
      · exact h1
      · rcases List.mem_cons.1 ((hm y).2 List.mem_cons_self) with h2 | h2
        · exact h2.symm
        · have := h.tr x y x (a1 y h2) (b1 x h1)
          rw [h.irr] at this
          cases this
    subst e
    have ne : ∀ z, lt x z = true → z ≠ x := fun z hz e => by rw [e, h.irr] at hz; cases hz
    rw [UpB.one h xs ys a2 b2 (fun z => ⟨fun hz => ?_, fun hz => ?_⟩)]
    · exact (List.mem_cons.1 ((hm z).1 (List.mem_cons_of_mem _ hz))).resolve_left (ne z (a1 z hz))
    · exact (List.mem_cons.1 ((hm z).2 (List.mem_cons_of_mem _ hz))).resolve_left (ne z (b1 z hz))
theorem sort_eq (h : OrdB lt eq) {L M : List α} (hm : ∀ x, x ∈ L ↔ x ∈ M) : sortB lt eq L = sortB lt eq M :=
  UpB.one h _ _ (UpB.sort h L) (UpB.sort h M) (fun x => by rw [mem_sortB (fun a b e => (h.eqi a b).1 e), mem_sortB (fun a b e => (h.eqi a b).1 e)]; exact hm x)
end
theorem ordI : OrdB iLt iEq := ⟨iEq_iff, by simp [iLt], by simp only [iLt, decide_eq_true_eq]; omega, by simp only [iLt, decide_eq_true_eq]; omega⟩
theorem toList_inj {a b : ByteArray} (h : a.toList = b.toList) : a = b := (sEq_iff a b).1 (by simp [sEq, h])
theorem ordS : OrdB sLt sEq := ⟨sEq_iff, fun a => bl_irr _, fun a b c h1 h2 => bl_trans _ _ _ h1 h2, fun a b h => by
  have := bl_tot a.toList b.toList (fun e => h (toList_inj e))
  unfold sLt
  cases h1 : Op.bytesLess a.toList b.toList
  · right; rw [this, h1]; rfl
  · left; rfl⟩
def wantSum (u : ResD) (L : List PodD) : ResD := L.foldl (fun u p => plusR u (pWant p)) u
/-- All of them, each for itself. -/
def allP (n : NodeD) (L : List PodD) : InfoD := (n, sortB sLt sEq (L.map (·.1)), wantSum (0, 0, 0) L, sortB iLt iEq (L.flatMap pPorts), sortB sLt sEq (L.flatMap pClaims))
theorem add_all (n : NodeD) (L : List PodD) (p : PodD) : addP (allP n L) p = allP n (L ++ [p]) := by
  have h1 : sortB sLt sEq (sortB sLt sEq (L.map (·.1)) ++ [p.1]) = sortB sLt sEq ((L ++ [p]).map (·.1)) := sort_eq ordS (fun x => by simp [mem_sorted])
  have h2 : sortB iLt iEq (sortB iLt iEq (L.flatMap pPorts) ++ pPorts p) = sortB iLt iEq ((L ++ [p]).flatMap pPorts) := sort_eq ordI (fun x => by simp [mem_sortB (fun a b e => (iEq_iff a b).1 e)])
  have h3 : sortB sLt sEq (sortB sLt sEq (L.flatMap pClaims) ++ pClaims p) = sortB sLt sEq ((L ++ [p]).flatMap pClaims) := sort_eq ordS (fun x => by simp [mem_sorted])
  show ((n, sortB sLt sEq (sortB sLt sEq (L.map (·.1)) ++ [p.1]), plusR (wantSum (0, 0, 0) L) (pWant p), sortB iLt iEq (sortB iLt iEq (L.flatMap pPorts) ++ pPorts p), sortB sLt sEq (sortB sLt sEq (L.flatMap pClaims) ++ pClaims p)) : InfoD) = allP n (L ++ [p])
  rw [h1, h2, h3]
  unfold allP
  simp [wantSum]
theorem of_nil (n : NodeD) : ofP n [] = allP n [] := rfl
theorem fold_add (n : NodeD) : ∀ (P Q : List PodD), P.foldl addP (allP n Q) = allP n (Q ++ P)
  | [], Q => by simp
  | p :: P, Q => by rw [List.foldl_cons, add_all, fold_add n P]; simp
theorem acc_each : ∀ (L : List PodD) (a : AccD), (L.map (·.1)).Nodup → (∀ p ∈ L, p.1 ∉ a.1) → L.foldl ofStep a = (a.1 ++ L.map (·.1), wantSum a.2.1 L, a.2.2.1 ++ L.flatMap pPorts, a.2.2.2 ++ L.flatMap pClaims)
  | [], a, _, _ => by simp [wantSum]
  | p :: L, a, hn, hd => by
    simp only [List.map_cons, List.nodup_cons, List.mem_map, not_exists, not_and] at hn
    have hno : ¬ hasB sEq a.1 p.1 = true := by rw [hasS_iff]; exact hd p List.mem_cons_self
    have e : ofStep a p = (a.1 ++ [p.1], plusR a.2.1 (pWant p), a.2.2.1 ++ pPorts p, a.2.2.2 ++ pClaims p) := by unfold ofStep; rw [if_neg hno]
    rw [List.foldl_cons, e, acc_each L _ hn.2 (fun q hq => by
      simp only [List.mem_append, List.mem_singleton, not_or]
      exact ⟨hd q (List.mem_cons_of_mem _ hq), hn.1 q hq⟩)]
    simp [wantSum]
theorem of_all (n : NodeD) (L : List PodD) (hn : (L.map (·.1)).Nodup) : ofP n L = allP n L := by
  have := acc_each L ([], (0, 0, 0), [], []) hn (fun p _ => by simp)
  unfold ofP accInfo ofAcc
  rw [this]
  rfl
theorem plusR_swap (u a b : ResD) : plusR (plusR u a) b = plusR (plusR u b) a := by
  have h : ∀ x y z : Int, addI (addI x y) z = addI (addI x z) y := fun x y z => by rw [addI_assoc, addI_comm y z, ← addI_assoc]
  simp [plusR, h]
theorem all_perm (n : NodeD) {P L : List PodD} (h : P.Perm L) : allP n P = allP n L := by
  have h1 : sortB sLt sEq (P.map (·.1)) = sortB sLt sEq (L.map (·.1)) := sort_eq ordS (fun x => (h.map _).mem_iff)
  have h2 : sortB iLt iEq (P.flatMap pPorts) = sortB iLt iEq (L.flatMap pPorts) := sort_eq ordI (fun x => by simp only [List.mem_flatMap, h.mem_iff])
  have h3 : sortB sLt sEq (P.flatMap pClaims) = sortB sLt sEq (L.flatMap pClaims) := sort_eq ordS (fun x => by simp only [List.mem_flatMap, h.mem_iff])
  have h4 : wantSum (0, 0, 0) P = wantSum (0, 0, 0) L := h.foldl_eq' (fun a _ b _ u => plusR_swap u (pWant a) (pWant b)) _
  unfold allP
  rw [h1, h2, h3, h4]
/-- In whatever order they come. -/
theorem order_plain (n : NodeD) {P L : List PodD} (h : P.Perm L) (hn : (L.map (·.1)).Nodup) : P.foldl addP (ofP n []) = ofP n L := by
  rw [of_nil, fold_add, of_all n L hn, List.nil_append, all_perm n h]
theorem order_ok (n : NodeD) {P : List PodD} (hn : (P.map (·.1)).Nodup) {j : Nat} (hj : j < P.length) : hasB sEq ((P.take j).foldl addP (ofP n [])).2.1 (P.getD j default).1 = false := by
  rw [of_nil, fold_add, List.nil_append, ← Bool.not_eq_true, hasS_iff]
  show ¬ _ ∈ sortB sLt sEq ((P.take j).map (·.1))
  rw [mem_sorted]
  intro hm
  have e : P.map (·.1) = (P.take j).map (·.1) ++ (P.drop j).map (·.1) := by rw [← List.map_append, List.take_append_drop]
  rw [e] at hn
  have hd := (List.nodup_append.1 hn).2.2
  refine hd _ hm _ ?_ rfl
  rw [getE _ _ hj]
  exact List.mem_map.2 ⟨P[j], by rw [List.mem_drop_iff_getElem]; exact ⟨0, by simpa using hj, by simp⟩, rfl⟩
end Go.Proofs.Ytddeilhelkfpoaa
namespace Go.Proofs.Ytddeilhelkfpoaa
open Go.RowKit
set_option linter.unusedSimpArgs false

def nameL (F : List PodD) : List ByteArray := F.map (·.1)
def fstStep (F : List PodD) (p : PodD) : List PodD := if hasB sEq (nameL F) p.1 = true then F else F ++ [p]
def firstsP (L : List PodD) : List PodD := L.foldl fstStep []
def tupP (F : List PodD) : AccD := (nameL F, wantSum (0, 0, 0) F, F.flatMap pPorts, F.flatMap pClaims)
theorem tup_step (F : List PodD) (p : PodD) : ofStep (tupP F) p = tupP (fstStep F p) := by
  unfold ofStep fstStep
  show (if hasB sEq (nameL F) p.1 = true then tupP F else _) = _
  split
  · rfl
  · simp [tupP, nameL, wantSum]
theorem tup_fold : ∀ (L F : List PodD), L.foldl ofStep (tupP F) = tupP (L.foldl fstStep F)
  | [], _ => rfl
  | p :: L, F => by rw [List.foldl_cons, List.foldl_cons, tup_step, tup_fold]
theorem firsts_all (n : NodeD) (L : List PodD) : allP n (firstsP L) = ofP n L := by
  have h : ofAcc L = tupP (firstsP L) := tup_fold L []
  unfold ofP
  rw [h]
  rfl
theorem firsts_succ (L : List PodD) {k : Nat} (hk : k < L.length) : firstsP (L.take (k + 1)) = fstStep (firstsP (L.take k)) (L.getD k default) := by
  rw [← take_at hk]; simp [firstsP]
theorem fst_len (F : List PodD) (p : PodD) : (fstStep F p).length ≤ F.length + 1 := by unfold fstStep; split <;> simp
theorem firsts_len (L : List PodD) : ∀ k, k ≤ L.length → (firstsP (L.take k)).length ≤ k := by
  intro k
  induction k with
  | zero => intro _; simp [firstsP]
  | succ k ih =>
    intro hk
    rw [firsts_succ L (by omega)]
    have := fst_len (firstsP (L.take k)) (L.getD k default)
    have := ih (by omega)
    omega
theorem fst_sum (f : PodD → Nat) : ∀ (L F : List PodD), sumBy f (L.foldl fstStep F) ≤ sumBy f F + sumBy f L
  | [], F => by simp [sumBy]
  | p :: L, F => by
    rw [List.foldl_cons]
    have h := fst_sum f L (fstStep F p)
    have h1 : sumBy f (fstStep F p) ≤ sumBy f F + f p := by
      unfold fstStep
      split
      · omega
      · rw [sumBy_append]; simp [sumBy]
    have h2 : sumBy f (p :: L) = f p + sumBy f L := by simp [sumBy]
    omega
theorem FitsP.firsts {L : List PodD} (h : FitsP L) : FitsP (firstsP L) := by
  have h1 := fst_sum (fun p => (pPorts p).length) L []
  have h2 := fst_sum (fun p => (pClaims p).length) L []
  have e : ∀ f : PodD → Nat, sumBy f [] = 0 := fun f => rfl
  rw [e, Nat.zero_add] at h1 h2
  exact ⟨Nat.le_trans (Nat.mul_le_mul_right 8 h1) h.1, Nat.le_trans (Nat.mul_le_mul_right 16 h2) h.2⟩
end Go.Proofs.Ytddeilhelkfpoaa
namespace Go.Proofs.Ytddeilhelkfpoaa
open Go.RowKit
set_option linter.unusedSimpArgs false

theorem tup_snoc (F : List PodD) (p : PodD) : tupP (F ++ [p]) = ((tupP F).1 ++ [p.1], plusR (tupP F).2.1 (pWant p), (tupP F).2.2.1 ++ pPorts p, (tupP F).2.2.2 ++ pClaims p) := by
  simp [tupP, nameL, wantSum]
theorem tup_succ (L : List PodD) {k : Nat} (hk : k < L.length) : tupP (L.take (k + 1)) = ((tupP (L.take k)).1 ++ [(L.getD k default).1], plusR (tupP (L.take k)).2.1 (pWant (L.getD k default)), (tupP (L.take k)).2.2.1 ++ pPorts (L.getD k default), (tupP (L.take k)).2.2.2 ++ pClaims (L.getD k default)) := by
  rw [← take_at hk, tup_snoc]
theorem flat_len {β : Type} (f : PodD → List β) (F : List PodD) : (F.flatMap f).length = sumBy (fun p => (f p).length) F := by
  induction F with
  | nil => rfl
  | cons p F ih => rw [List.flatMap_cons, List.length_append, ih]; simp [sumBy]
theorem tup_lens (F : List PodD) : (tupP F).1.length = F.length ∧ (tupP F).2.2.1.length = sumBy (fun p => (pPorts p).length) F ∧ (tupP F).2.2.2.length = sumBy (fun p => (pClaims p).length) F :=
  ⟨by simp [tupP, nameL], flat_len _ _, flat_len _ _⟩
theorem tup_fits {L : List PodD} (h : FitsP L) {k : Nat} (hk : k < L.length) : ((tupP (L.take k)).2.2.1.length + (pPorts (L.getD k default)).length) * 8 ≤ 140737488351232 ∧ ((tupP (L.take k)).2.2.2.length + (pClaims (L.getD k default)).length) * 16 ≤ 140737488351232 := by
  obtain ⟨_, h2, h3⟩ := tup_lens (L.take k)
  have e1 := sumBy_take (fun p => (pPorts p).length) L (k + 1)
  have e2 := sumBy_take (fun p => (pClaims p).length) L (k + 1)
  rw [← take_at hk, sumBy_append] at e1 e2
  simp only [sumBy, List.map_cons, List.map_nil, List.sum_cons, List.sum_nil] at e1 e2 h2 h3 h
  obtain ⟨h4, h5⟩ := h
  simp only [sumBy] at h4 h5
  exact ⟨by omega, by omega⟩
theorem all_tup (n : NodeD) (L : List PodD) : allP n L = accInfo n (tupP L) := rfl
end Go.Proofs.Ytddeilhelkfpoaa
