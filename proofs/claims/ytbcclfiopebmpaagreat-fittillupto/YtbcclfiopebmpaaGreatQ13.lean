/- info.Add. Condition: the arguments lie as is said of them; the lists with what comes are within what an append may ask. -/
import Derived.Test.YtbcclfiopebmpaaGreatQ11
import Derived.Test.YtbcclfiopebmpaaGreatQ07
namespace Go.Proofs.YtbcclfiopebmpaaGreat
open Go.RowKit
set_option linter.unusedSimpArgs false
set_option maxRecDepth 100000

theorem thr_nil (w : World) : Thr w none 0 := fun B off e => by cases e
set_option maxHeartbeats 16000000 in
theorem Add_calls (cs ds : List Value) (A E A' : Where) (x : InfoD) (y : PodD) (w : World) (h : Hid (InfoAt A E w cs x)) (h' : Hid (RPod A' w ds y)) (hF : Hid (FitsA x y)) : Calls Tryz.prog 14 #[.agg cs.toArray, .agg ds.toArray] w fun e w' => ∃ cs', e = .returned (.tuple #[.agg cs'.toArray, .int .i64 (addE x y).2]) ∧ InfoAt A (Fresh w) w' cs' (addE x y).1 ∧ ThrL w' cs' ∧ Below w.heap.size w w' := by
  obtain ⟨⟨nn, nl, nt, no, ⟨ga, gb, gc⟩, np, nd⟩, nms, ⟨ua, ub, uc⟩, pts, dks⟩ := x
  obtain ⟨nm, pri, lab, ⟨wa, wb, wc⟩, brs, ask, prf, prt, nea, apa, spr, clm, nod, hop⟩ := y
  obtain ⟨c, d, rfl, hc, hd⟩ := h.out
  have hN0 : Hid _ := hc
  obtain ⟨⟨a1, n1, m1⟩, ⟨a2, n2, m2⟩, rfl, _⟩ := hc.out
  obtain ⟨d1, d2, rfl, ⟨a9, n9, m9, rfl, s9⟩, ⟨d3, d4, rfl, hd3, ⟨d5, d6, rfl, ⟨a13, n13, m13, rfl, s13⟩, ⟨a14, n14, m14, rfl, s14⟩⟩⟩⟩ := hd
  have e3 := RRes.out hd3
  subst e3
  obtain ⟨g2, g6, g7, g8, ⟨b9, l9, k9⟩, g10, g11, g12, ⟨b13, l13, k13⟩, rfl, hp0, _, _, _, _, t9, _, _, _, t13, _⟩ := h'.out.out
  simp only at s9 s13 s14 t9 t13 hp0 hN0 hF ⊢
  have S9 : Hid (SlAt RStr 1 16 E w a9 n9 m9 nms) := s9
  have S13 : Hid (SlAt RInt 1 8 E w a13 n13 m13 pts) := s13
  have S14 : Hid (SlAt RStr 1 16 E w a14 n14 m14 dks) := s14
  have T9 : Hid (SlAt RInt 1 8 A' w b9 l9 k9 prt) := t9
  have T13 : Hid (SlAt RStr 1 16 A' w b13 l13 k13 clm) := t13
  have HF : Hid ((nms.length + 1) * 16 ≤ 140737488351232 ∧ (pts.length + prt.length) * 8 ≤ 140737488351232 ∧ (dks.length + clm.length) * 16 ≤ 140737488351232) := hF.out
  clear h h' hc hd3 s9 s13 s14 t9 t13 hF
  obtain ⟨W3, hW3⟩ : ∃ W3, W3 = (((w.alloc (.cells #[.string nn, .slice a1 n1 m1, .slice a2 n2 m2, .bool no, .int .i64 ga, .int .i64 gb, .int .i64 gc, .int .i64 np, .int .i64 nd, .slice a9 n9 m9, .int .i64 ua, .int .i64 ub, .int .i64 uc, .slice a13 n13 m13, .slice a14 n14 m14] 44)).alloc (.cells #[.string nm, .int .i64 pri, .slice g2.1 g2.2.1 g2.2.2, .int .i64 wa, .int .i64 wb, .int .i64 wc, .slice g6.1 g6.2.1 g6.2.2, .slice g7.1 g7.2.1 g7.2.2, .slice g8.1 g8.2.1 g8.2.2, .slice b9 l9 k9, .slice g10.1 g10.2.1 g10.2.2, .slice g11.1 g11.2.1 g11.2.2, .slice g12.1 g12.2.1 g12.2.2, .slice b13 l13 k13, .string nod, .string hop] 33)).alloc (.cells #[.string ⟨#[]⟩, .slice none 0 0, .slice none 0 0, .bool false, .int .i64 0, .int .i64 0, .int .i64 0, .int .i64 0, .int .i64 0, .slice none 0 0, .int .i64 0, .int .i64 0, .int .i64 0, .slice none 0 0, .slice none 0 0] 44)) := ⟨_, rfl⟩
  have B3 : Hid (PB3 w W3 [.string nn, .slice a1 n1 m1, .slice a2 n2 m2, .bool no, .int .i64 ga, .int .i64 gb, .int .i64 gc, .int .i64 np, .int .i64 nd, .slice a9 n9 m9, .int .i64 ua, .int .i64 ub, .int .i64 uc, .slice a13 n13 m13, .slice a14 n14 m14] [.string nm, .int .i64 pri, .slice g2.1 g2.2.1 g2.2.2, .int .i64 wa, .int .i64 wb, .int .i64 wc, .slice g6.1 g6.2.1 g6.2.2, .slice g7.1 g7.2.1 g7.2.2, .slice g8.1 g8.2.1 g8.2.2, .slice b9 l9 k9, .slice g10.1 g10.2.1 g10.2.2, .slice g11.1 g11.2.1 g11.2.2, .slice g12.1 g12.2.1 g12.2.2, .slice b13 l13 k13, .string nod, .string hop] [.string ⟨#[]⟩, .slice none 0 0, .slice none 0 0, .bool false, .int .i64 0, .int .i64 0, .int .i64 0, .int .i64 0, .int .i64 0, .slice none 0 0, .int .i64 0, .int .i64 0, .int .i64 0, .slice none 0 0, .slice none 0 0]) := by
    rw [hW3]
    refine ⟨(BoxL.new w 44 [.string nn, .slice a1 n1 m1, .slice a2 n2 m2, .bool no, .int .i64 ga, .int .i64 gb, .int .i64 gc, .int .i64 np, .int .i64 nd, .slice a9 n9 m9, .int .i64 ua, .int .i64 ub, .int .i64 uc, .slice a13 n13 m13, .slice a14 n14 m14]).on (((Below.refl _ _).alloc (Nat.le_refl _) _).alloc (by simp) _), ?_, ?_, by go_grown⟩
    · have := (BoxL.new (w.alloc (.cells #[.string nn, .slice a1 n1 m1, .slice a2 n2 m2, .bool no, .int .i64 ga, .int .i64 gb, .int .i64 gc, .int .i64 np, .int .i64 nd, .slice a9 n9 m9, .int .i64 ua, .int .i64 ub, .int .i64 uc, .slice a13 n13 m13, .slice a14 n14 m14] 44)) 33 [.string nm, .int .i64 pri, .slice g2.1 g2.2.1 g2.2.2, .int .i64 wa, .int .i64 wb, .int .i64 wc, .slice g6.1 g6.2.1 g6.2.2, .slice g7.1 g7.2.1 g7.2.2, .slice g8.1 g8.2.1 g8.2.2, .slice b9 l9 k9, .slice g10.1 g10.2.1 g10.2.2, .slice g11.1 g11.2.1 g11.2.2, .slice g12.1 g12.2.1 g12.2.2, .slice b13 l13 k13, .string nod, .string hop]).on ((Below.refl _ _).alloc (Nat.le_refl _) (.cells #[.string ⟨#[]⟩, .slice none 0 0, .slice none 0 0, .bool false, .int .i64 0, .int .i64 0, .int .i64 0, .int .i64 0, .int .i64 0, .slice none 0 0, .int .i64 0, .int .i64 0, .int .i64 0, .slice none 0 0, .slice none 0 0] 44))
      simpa using this
    · have := BoxL.new ((w.alloc (.cells #[.string nn, .slice a1 n1 m1, .slice a2 n2 m2, .bool no, .int .i64 ga, .int .i64 gb, .int .i64 gc, .int .i64 np, .int .i64 nd, .slice a9 n9 m9, .int .i64 ua, .int .i64 ub, .int .i64 uc, .slice a13 n13 m13, .slice a14 n14 m14] 44)).alloc (.cells #[.string nm, .int .i64 pri, .slice g2.1 g2.2.1 g2.2.2, .int .i64 wa, .int .i64 wb, .int .i64 wc, .slice g6.1 g6.2.1 g6.2.2, .slice g7.1 g7.2.1 g7.2.2, .slice g8.1 g8.2.1 g8.2.2, .slice b9 l9 k9, .slice g10.1 g10.2.1 g10.2.2, .slice g11.1 g11.2.1 g11.2.2, .slice g12.1 g12.2.1 g12.2.2, .slice b13 l13 k13, .string nod, .string hop] 33)) 44 [.string ⟨#[]⟩, .slice none 0 0, .slice none 0 0, .bool false, .int .i64 0, .int .i64 0, .int .i64 0, .int .i64 0, .int .i64 0, .slice none 0 0, .int .i64 0, .int .i64 0, .int .i64 0, .slice none 0 0, .slice none 0 0]
      simpa using this
  have HD : Hid (hasB sEq nms nm = false → addE ((nn, nl, nt, no, (ga, gb, gc), np, nd), nms, (ua, ub, uc), pts, dks) (nm, pri, lab, (wa, wb, wc), brs, ask, prf, prt, nea, apa, spr, clm, nod, hop) = (((nn, nl, nt, no, (ga, gb, gc), np, nd), sortB sLt sEq (nms ++ [nm]), (addI ua wa, addI ub wb, addI uc wc), sortB iLt iEq (pts ++ prt), sortB sLt sEq (dks ++ clm)), 0)) := fun h => by simp only [addE, h]; rfl
  have HDn : Hid (hasB sEq nms nm = true → addE ((nn, nl, nt, no, (ga, gb, gc), np, nd), nms, (ua, ub, uc), pts, dks) (nm, pri, lab, (wa, wb, wc), brs, ask, prf, prt, nea, apa, spr, clm, nod, hop) = (zeroInfo, 6)) := fun h => by simp only [addE, h]; rfl
  generalize addE ((nn, nl, nt, no, (ga, gb, gc), np, nd), nms, (ua, ub, uc), pts, dks) (nm, pri, lab, (wa, wb, wc), brs, ask, prf, prt, nea, apa, spr, clm, nod, hop) = dr at HD HDn ⊢
  go_enter Tryz.func14, Tryz.ntmps14
  go_wp2_with fail
  rw [← hW3]
  clear hW3
  refine (ContainsS a9 n9 m9 E nms nm W3 (S9.out.on RStr.firm B3.out.b)).mono ?_
  rintro e w9 ⟨rfl, hw9⟩
  rw [hw9]
  clear hw9 w9
  cases hhas : hasB sEq nms nm
  · have HE := HD.out hhas
    clear HD HDn hhas
    subst HE
    have HS : Hid (∀ {u : World}, Below W3.heap.size W3 u → AdS w [.string nn, .slice a1 n1 m1, .slice a2 n2 m2, .bool no, .int .i64 ga, .int .i64 gb, .int .i64 gc, .int .i64 np, .int .i64 nd, .slice a9 n9 m9, .int .i64 ua, .int .i64 ub, .int .i64 uc, .slice a13 n13 m13, .slice a14 n14 m14] [.string nm, .int .i64 pri, .slice g2.1 g2.2.1 g2.2.2, .int .i64 wa, .int .i64 wb, .int .i64 wc, .slice g6.1 g6.2.1 g6.2.2, .slice g7.1 g7.2.1 g7.2.2, .slice g8.1 g8.2.1 g8.2.2, .slice b9 l9 k9, .slice g10.1 g10.2.1 g10.2.2, .slice g11.1 g11.2.1 g11.2.2, .slice g12.1 g12.2.1 g12.2.2, .slice b13 l13 k13, .string nod, .string hop] u) := fun hb => ⟨B3.out.p.on hb, B3.out.y.on hb⟩
    have hs3 := B3.out.sz
    go_wp2_with fail
    refine wp_region_noPanic ?_
    refine wp_region_held_drew (S := AdS w [.string nn, .slice a1 n1 m1, .slice a2 n2 m2, .bool no, .int .i64 ga, .int .i64 gb, .int .i64 gc, .int .i64 np, .int .i64 nd, .slice a9 n9 m9, .int .i64 ua, .int .i64 ub, .int .i64 uc, .slice a13 n13 m13, .slice a14 n14 m14] [.string nm, .int .i64 pri, .slice g2.1 g2.2.1 g2.2.2, .int .i64 wa, .int .i64 wb, .int .i64 wc, .slice g6.1 g6.2.1 g6.2.2, .slice g7.1 g7.2.1 g7.2.2, .slice g8.1 g8.2.1 g8.2.2, .slice b9 l9 k9, .slice g10.1 g10.2.1 g10.2.2, .slice g11.1 g11.2.1 g11.2.2, .slice g12.1 g12.2.1 g12.2.2, .slice b13 l13 k13, .string nod, .string hop]) (by kernel_rfl) (HS.out (Below.refl _ _).drew) (fun hHeld => ?_)
    refine' tk 0 ?_ ?_; rotate_left
    · intro u hu; clear hu; go_simp; try with_reducible rfl
    try go_frame
    refine' tk 1 ?_ ?_; rotate_left
    · intro u hu; have cp0 := (hu.1.2 0 _ rfl).1; have cp1 := (hu.1.2 1 _ rfl).1; have cp2 := (hu.1.2 2 _ rfl).1; have cp3 := (hu.1.2 3 _ rfl).1; have cp4 := (hu.1.2 4 _ rfl).1; have cp5 := (hu.1.2 5 _ rfl).1; have cp6 := (hu.1.2 6 _ rfl).1; have cp7 := (hu.1.2 7 _ rfl).1; have cp8 := (hu.1.2 8 _ rfl).1; clear hu; go_simp; try with_reducible rfl
    try go_frame
    refine' tk 2 ?_ ?_; rotate_left
    · intro u hu; clear hu; go_simp; try with_reducible rfl
    try go_frame
    refine' tk 3 ?_ ?_; rotate_left
    · intro u hu; have cp9 := (hu.1.2 9 _ rfl).1; clear hu; go_simp; try with_reducible rfl
    try go_frame
    refine' tk 4 ?_ ?_; rotate_left
    · intro u hu; clear hu; go_simp; try with_reducible rfl
    try go_frame
    refine' tk 5 ?_ ?_; rotate_left
    · intro u hu; have cy0 := (hu.2.2 0 _ rfl).1; clear hu; go_simp; try with_reducible rfl
    try go_frame
    refine' tk 8 ?_ ?_; rotate_left
    · intro u hu; clear hu; go_simp; try with_reducible rfl
    try go_frame
    refine' tk 9 ?_ ?_; rotate_left
    · intro u hu; have cp10 := (hu.1.2 10 _ rfl).1; have cp11 := (hu.1.2 11 _ rfl).1; have cp12 := (hu.1.2 12 _ rfl).1; clear hu; go_simp; try with_reducible rfl
    try go_frame
    refine' tk 10 ?_ ?_; rotate_left
    · intro u hu; clear hu; go_simp; try with_reducible rfl
    try go_frame
    refine' tk 11 ?_ ?_; rotate_left
    · intro u hu; have cy3 := (hu.2.2 3 _ rfl).1; have cy4 := (hu.2.2 4 _ rfl).1; have cy5 := (hu.2.2 5 _ rfl).1; clear hu; go_simp; try with_reducible rfl
    try go_frame
    refine' tk 13 ?_ ?_; rotate_left
    · intro u hu; clear hu; go_simp; try with_reducible rfl
    try go_frame
    refine' tk 14 ?_ ?_; rotate_left
    · intro u hu; have cp13 := (hu.1.2 13 _ rfl).1; clear hu; go_simp; try with_reducible rfl
    try go_frame
    refine' tk 15 ?_ ?_; rotate_left
    · intro u hu; clear hu; go_simp; try with_reducible rfl
    try go_frame
    refine' tk 16 ?_ ?_; rotate_left
    · intro u hu; have cy9 := (hu.2.2 9 _ rfl).1; clear hu; go_simp; try with_reducible rfl
    try go_frame
    refine' tk 18 ?_ ?_; rotate_left
    · intro u hu; clear hu; go_simp; try with_reducible rfl
    try go_frame
    refine' tk 19 ?_ ?_; rotate_left
    · intro u hu; have cp14 := (hu.1.2 14 _ rfl).1; clear hu; go_simp; try with_reducible rfl
    try go_frame
    refine' tk 20 ?_ ?_; rotate_left
    · intro u hu; clear hu; go_simp; try with_reducible rfl
    try go_frame
    refine' tk 21 ?_ ?_; rotate_left
    · intro u hu; have cy13 := (hu.2.2 13 _ rfl).1; clear hu; go_simp; try with_reducible rfl
    try go_frame
    refine tr 6 (fun K hK => ?_)
    go_simp
    obtain ⟨U1, hU1⟩ : ∃ U1, U1 = (W3.alloc (.cells #[.string nm] 9)).drew := ⟨_, rfl⟩
    have bU1 : Below W3.heap.size W3 U1 := by rw [hU1]; exact ((Below.refl _ _).alloc (Nat.le_refl _) _).drew
    have HX : SlAt RStr 1 16 (fun b => b = W3.heap.size) U1 (some ⟨W3.heap.size, 0, none⟩) 1 1 [nm] := by
      rw [hU1]
      refine ⟨rfl, Nat.le_refl _, (fun h => by cases h), by decide, fun _ => ⟨W3.heap.size, 0, rfl, by simp, rfl, fun i hi => ?_⟩⟩
      obtain rfl : i = 0 := by omega
      refine ⟨[.string nm], ⟨rfl, hp0⟩, fun j v hj => ?_⟩
      have := one_cells W3 [.string nm] 9 j v hj
      simpa [Addr.add_mid] using this
    refine hK.out _ _ (HS.out (hU1 ▸ bU1)) (fun hHeld2 => ?_)
    clear hK K hHeld; have hHeld := hHeld2; clear hHeld2
    try go_frame
    rw [← hU1] at hHeld ⊢
    clear hU1
    refine tr 7 (fun K hK => ?_)
    go_simp
    refine (joinedS a9 n9 m9 E nms (some ⟨W3.heap.size, 0, none⟩) 1 1 _ [nm] U1 (S9.out.on RStr.firm (on2 B3.out.b bU1)) HX HF.out.1).mono ?_
    rintro e y1 ⟨h9a, h9c, rfl, r9, z9, hb1⟩
    have by1 := on2 bU1 hb1
    have r9 := r9.weak (A' := (fun b => w.heap.size + 1 + 1 < b)) RStr.firm (fun b _ hb => Nat.lt_of_lt_of_le (B3.out.on bU1).sz hb)
    generalize hl9 : (sortB sLt sEq (nms ++ [nm])).length = x9 at r9 z9 ⊢
    clear hl9
    go_wp2_with fail
    refine hK.out _ _ (HS.out by1) (fun hHeld2 => ?_)
    clear hK K hHeld; have hHeld := hHeld2; clear hHeld2
    try go_frame
    refine tr 12 (fun K hK => ?_)
    go_simp
    refine (Plus_calls ua ub uc wa wb wc y1).mono ?_
    rintro e y2 ⟨rfl, hb2⟩
    have by2 := on2 by1 hb2
    have r9 := r9.on RStr.firm hb2
    have z9 := z9.on hb2
    go_wp2_with fail
    refine hK.out _ _ (HS.out by2) (fun hHeld2 => ?_)
    clear hK K hHeld; have hHeld := hHeld2; clear hHeld2
    try go_frame
    refine tr 17 (fun K hK => ?_)
    go_simp
    refine (joinedI a13 n13 m13 E pts b9 l9 k9 A' prt y2 (S13.out.on RInt.firm (on2 B3.out.b by2)) (T9.out.on RInt.firm (on2 B3.out.b by2)) HF.out.2.1).mono ?_
    rintro e y5 ⟨h13a, h13c, rfl, r13, z13, hb5⟩
    have by5 := on2 by2 hb5
    have r13 := r13.weak (A' := (fun b => w.heap.size + 1 + 1 < b)) RInt.firm (fun b _ hb => Nat.lt_of_lt_of_le (B3.out.on by2).sz hb)
    have r9 := r9.on RStr.firm hb5
    have z9 := z9.on hb5
    generalize hl13 : (sortB iLt iEq (pts ++ prt)).length = x13 at r13 z13 ⊢
    clear hl13
    go_wp2_with fail
    refine hK.out _ _ (HS.out by5) (fun hHeld2 => ?_)
    clear hK K hHeld; have hHeld := hHeld2; clear hHeld2
    try go_frame
    refine tr 22 (fun K hK => ?_)
    go_simp
    refine (joinedS a14 n14 m14 E dks b13 l13 k13 A' clm y5 (S14.out.on RStr.firm (on2 B3.out.b by5)) (T13.out.on RStr.firm (on2 B3.out.b by5)) HF.out.2.2).mono ?_
    rintro e y8 ⟨h14a, h14c, rfl, r14, z14, hb8⟩
    have by8 := on2 by5 hb8
    have r14 := r14.weak (A' := (fun b => w.heap.size + 1 + 1 < b)) RStr.firm (fun b _ hb => Nat.lt_of_lt_of_le (B3.out.on by5).sz hb)
    have r9 := r9.on RStr.firm hb8
    have z9 := z9.on hb8
    have r13 := r13.on RInt.firm hb8
    have z13 := z13.on hb8
    generalize hl14 : (sortB sLt sEq (dks ++ clm)).length = x14 at r14 z14 ⊢
    clear hl14
    go_wp2_with fail
    refine hK.out _ _ (HS.out by8) (fun hHeld2 => ?_)
    clear hK K hHeld; have hHeld := hHeld2; clear hHeld2
    try go_frame
    refine' tk 23 ?_ ?_; rotate_left
    · intro u hu; clear hu; go_simp; try with_reducible rfl
    try go_frame
    have C8 := B3.out.on by8
    have hgz : ¬ (fun b => w.heap.size + 1 + 1 < b) (w.heap.size + 1 + 1) := Nat.lt_irrefl _
    have HK : ∀ u, Kept (fun b => w.heap.size + 1 + 1 < b) y8 u → Below w.heap.size w u → InfoAt A (Fresh w) u [.string nn, .slice a1 n1 m1, .slice a2 n2 m2, .bool no, .int .i64 ga, .int .i64 gb, .int .i64 gc, .int .i64 np, .int .i64 nd, .slice h9a x9 h9c, .int .i64 (addI ua wa), .int .i64 (addI ub wb), .int .i64 (addI uc wc), .slice h13a x13 h13c, .slice h14a x14 h14c] ((nn, nl, nt, no, (ga, gb, gc), np, nd), sortB sLt sEq (nms ++ [nm]), (addI ua wa, addI ub wb, addI uc wc), sortB iLt iEq (pts ++ prt), sortB sLt sEq (dks ++ clm)) := fun u hk hb => ⟨[.string nn, .slice a1 n1 m1, .slice a2 n2 m2, .bool no, .int .i64 ga, .int .i64 gb, .int .i64 gc, .int .i64 np, .int .i64 nd], [.slice h9a x9 h9c, .int .i64 (addI ua wa), .int .i64 (addI ub wb), .int .i64 (addI uc wc), .slice h13a x13 h13c, .slice h14a x14 h14c], rfl, RNode.firm.kept hN0.out (Kept.below hb), ⟨[.slice h9a x9 h9c], _, rfl, ⟨h9a, x9, h9c, rfl, ((r9.kept RStr.firm hk).weak RStr.firm (fun b _ hb => show w.heap.size ≤ b by have h1 : w.heap.size + 1 + 1 < b := hb; omega))⟩, ⟨[.int .i64 (addI ua wa), .int .i64 (addI ub wb), .int .i64 (addI uc wc)], _, rfl, RRes.mk (x := (addI ua wa, addI ub wb, addI uc wc)), ⟨[.slice h13a x13 h13c], _, rfl, ⟨h13a, x13, h13c, rfl, ((r13.kept RInt.firm hk).weak RInt.firm (fun b _ hb => show w.heap.size ≤ b by have h1 : w.heap.size + 1 + 1 < b := hb; omega))⟩, ⟨h14a, x14, h14c, rfl, ((r14.kept RStr.firm hk).weak RStr.firm (fun b _ hb => show w.heap.size ≤ b by have h1 : w.heap.size + 1 + 1 < b := hb; omega))⟩⟩⟩⟩⟩
    have hbz : Below w.heap.size w (y8.setCells (w.heap.size + 1 + 1) 0 [.string nn, .slice a1 n1 m1, .slice a2 n2 m2, .bool no, .int .i64 ga, .int .i64 gb, .int .i64 gc, .int .i64 np, .int .i64 nd, .slice h9a x9 h9c, .int .i64 (addI ua wa), .int .i64 (addI ub wb), .int .i64 (addI uc wc), .slice h13a x13 h13c, .slice h14a x14 h14c]) := below_setCells C8.b (by omega)
    have HE2 := HK _ (kept_setCells (vs := [.string nn, .slice a1 n1 m1, .slice a2 n2 m2, .bool no, .int .i64 ga, .int .i64 gb, .int .i64 gc, .int .i64 np, .int .i64 nd, .slice h9a x9 h9c, .int .i64 (addI ua wa), .int .i64 (addI ub wb), .int .i64 (addI uc wc), .slice h13a x13 h13c, .slice h14a x14 h14c]) (o := 0) hgz) hbz
    have H1 := all_oneCell_toArray (HE2.one)
    have HI : (Tryz.prog.info? 44).map (·.size) = some (([.string nn, .slice a1 n1 m1, .slice a2 n2 m2, .bool no, .int .i64 ga, .int .i64 gb, .int .i64 gc, .int .i64 np, .int .i64 nd, .slice h9a x9 h9c, .int .i64 (addI ua wa), .int .i64 (addI ub wb), .int .i64 (addI uc wc), .slice h13a x13 h13c, .slice h14a x14 h14c] : List Value).toArray).size := by kernel_rfl
    have HRG : Hid ((y8.setCells (w.heap.size + 1 + 1) 0 [.string nn, .slice a1 n1 m1, .slice a2 n2 m2, .bool no, .int .i64 ga, .int .i64 gb, .int .i64 gc, .int .i64 np, .int .i64 nd, .slice h9a x9 h9c, .int .i64 (addI ua wa), .int .i64 (addI ub wb), .int .i64 (addI uc wc), .slice h13a x13 h13c, .slice h14a x14 h14c]).rangeAt (w.heap.size + 1 + 1) 0 [.string nn, .slice a1 n1 m1, .slice a2 n2 m2, .bool no, .int .i64 ga, .int .i64 gb, .int .i64 gc, .int .i64 np, .int .i64 nd, .slice h9a x9 h9c, .int .i64 (addI ua wa), .int .i64 (addI ub wb), .int .i64 (addI uc wc), .slice h13a x13 h13c, .slice h14a x14 h14c]) := World.rangeAt_setCells_same _ _ _ _ C8.z.there
    have HTL : ThrL (y8.setCells (w.heap.size + 1 + 1) 0 [.string nn, .slice a1 n1 m1, .slice a2 n2 m2, .bool no, .int .i64 ga, .int .i64 gb, .int .i64 gc, .int .i64 np, .int .i64 nd, .slice h9a x9 h9c, .int .i64 (addI ua wa), .int .i64 (addI ub wb), .int .i64 (addI uc wc), .slice h13a x13 h13c, .slice h14a x14 h14c]) [.string nn, .slice a1 n1 m1, .slice a2 n2 m2, .bool no, .int .i64 ga, .int .i64 gb, .int .i64 gc, .int .i64 np, .int .i64 nd, .slice h9a x9 h9c, .int .i64 (addI ua wa), .int .i64 (addI ub wb), .int .i64 (addI uc wc), .slice h13a x13 h13c, .slice h14a x14 h14c] := thrL3 (z9.cells _ _ _) (z13.cells _ _ _) (z14.cells _ _ _)
    refine ts 24 (fun K hK => ?_)
    refine want_yes (by rfl) (wp_store_mid 44 _ _ rfl (w.heap.size + 1 + 1) 0 ([.string nn, .slice a1 n1 m1, .slice a2 n2 m2, .bool no, .int .i64 ga, .int .i64 gb, .int .i64 gc, .int .i64 np, .int .i64 nd, .slice h9a x9 h9c, .int .i64 (addI ua wa), .int .i64 (addI ub wb), .int .i64 (addI uc wc), .slice h13a x13 h13c, .slice h14a x14 h14c] : List Value).toArray rfl rfl C8.z.there HI H1 ?_)
    obtain ⟨W8, hW8⟩ : ∃ W8, W8 = y8.setCells (w.heap.size + 1 + 1) 0 [.string nn, .slice a1 n1 m1, .slice a2 n2 m2, .bool no, .int .i64 ga, .int .i64 gb, .int .i64 gc, .int .i64 np, .int .i64 nd, .slice h9a x9 h9c, .int .i64 (addI ua wa), .int .i64 (addI ub wb), .int .i64 (addI uc wc), .slice h13a x13 h13c, .slice h14a x14 h14c] := ⟨_, rfl⟩
    have hS8 : AdS w [.string nn, .slice a1 n1 m1, .slice a2 n2 m2, .bool no, .int .i64 ga, .int .i64 gb, .int .i64 gc, .int .i64 np, .int .i64 nd, .slice a9 n9 m9, .int .i64 ua, .int .i64 ub, .int .i64 uc, .slice a13 n13 m13, .slice a14 n14 m14] [.string nm, .int .i64 pri, .slice g2.1 g2.2.1 g2.2.2, .int .i64 wa, .int .i64 wb, .int .i64 wc, .slice g6.1 g6.2.1 g6.2.2, .slice g7.1 g7.2.1 g7.2.2, .slice g8.1 g8.2.1 g8.2.2, .slice b9 l9 k9, .slice g10.1 g10.2.1 g10.2.2, .slice g11.1 g11.2.1 g11.2.2, .slice g12.1 g12.2.1 g12.2.2, .slice b13 l13 k13, .string nod, .string hop] W8 := by rw [hW8]; exact ⟨C8.p.kept (A := fun b => b ≠ w.heap.size + 1 + 1) (kept_setCells (fun h => h rfl)) (by omega), C8.y.kept (A := fun b => b ≠ w.heap.size + 1 + 1) (kept_setCells (fun h => h rfl)) (by omega)⟩
    rw [← hW8] at HRG HE2 hbz HTL
    refine at_world hW8 ?_
    refine hK.out undef _ hS8 (fun hHeld2 => ?_)
    clear hK K hHeld; have hHeld := hHeld2; clear hHeld2
    try go_frame
    have HE3 : Hid _ := HE2
    have HB3 : Hid _ := hbz
    have HT3 : Hid (ThrL W8 [.string nn, .slice a1 n1 m1, .slice a2 n2 m2, .bool no, .int .i64 ga, .int .i64 gb, .int .i64 gc, .int .i64 np, .int .i64 nd, .slice h9a x9 h9c, .int .i64 (addI ua wa), .int .i64 (addI ub wb), .int .i64 (addI uc wc), .slice h13a x13 h13c, .slice h14a x14 h14c]) := HTL
    clear HE2 hbz H1 HK C8 r9 r13 r14 z9 z13 z14 hW8 HTL
    refine' tk 25 ?_ ?_; rotate_left
    · intro u hu; clear hu; go_simp; try with_reducible rfl
    try go_frame
    refine wpAnyH_done (by kernel_rfl) ?_ _
    refine NoPanic.normal ?_
    go_wp2_with fail
    refine bodyPost_ret (v := .tuple #[.agg ([.string nn, .slice a1 n1 m1, .slice a2 n2 m2, .bool no, .int .i64 ga, .int .i64 gb, .int .i64 gc, .int .i64 np, .int .i64 nd, .slice h9a x9 h9c, .int .i64 (addI ua wa), .int .i64 (addI ub wb), .int .i64 (addI uc wc), .slice h13a x13 h13c, .slice h14a x14 h14c] : List Value).toArray, .int .i64 0]) (res_cell2 (p := 4) (q := 5) (ty := 44) rfl _ _ (w.heap.size + 1 + 1) [.string nn, .slice a1 n1 m1, .slice a2 n2 m2, .bool no, .int .i64 ga, .int .i64 gb, .int .i64 gc, .int .i64 np, .int .i64 nd, .slice h9a x9 h9c, .int .i64 (addI ua wa), .int .i64 (addI ub wb), .int .i64 (addI uc wc), .slice h13a x13 h13c, .slice h14a x14 h14c] _ _ rfl rfl HRG.out Tryz.underlying44 rfl HI) rfl ⟨[.string nn, .slice a1 n1 m1, .slice a2 n2 m2, .bool no, .int .i64 ga, .int .i64 gb, .int .i64 gc, .int .i64 np, .int .i64 nd, .slice h9a x9 h9c, .int .i64 (addI ua wa), .int .i64 (addI ub wb), .int .i64 (addI uc wc), .slice h13a x13 h13c, .slice h14a x14 h14c], rfl, HE3.out, HT3.out, HB3.out⟩
  · have HE := HDn.out hhas
    clear HD HDn hhas
    subst HE
    obtain ⟨z0, f0⟩ := B3.out.z.2 0 _ rfl
    obtain ⟨z1, f1⟩ := B3.out.z.2 1 _ rfl
    obtain ⟨z2, f2⟩ := B3.out.z.2 2 _ rfl
    obtain ⟨z3, f3⟩ := B3.out.z.2 3 _ rfl
    obtain ⟨z4, f4⟩ := B3.out.z.2 4 _ rfl
    obtain ⟨z5, f5⟩ := B3.out.z.2 5 _ rfl
    obtain ⟨z6, f6⟩ := B3.out.z.2 6 _ rfl
    obtain ⟨z7, f7⟩ := B3.out.z.2 7 _ rfl
    obtain ⟨z8, f8⟩ := B3.out.z.2 8 _ rfl
    obtain ⟨z9, f9⟩ := B3.out.z.2 9 _ rfl
    obtain ⟨z10, f10⟩ := B3.out.z.2 10 _ rfl
    obtain ⟨z11, f11⟩ := B3.out.z.2 11 _ rfl
    obtain ⟨z12, f12⟩ := B3.out.z.2 12 _ rfl
    obtain ⟨z13, f13⟩ := B3.out.z.2 13 _ rfl
    obtain ⟨z14, f14⟩ := B3.out.z.2 14 _ rfl
    go_wp2_with fail
    refine bodyPost_ret (v := .tuple #[.agg #[.string ⟨#[]⟩, .slice none 0 0, .slice none 0 0, .bool false, .int .i64 0, .int .i64 0, .int .i64 0, .int .i64 0, .int .i64 0, .slice none 0 0, .int .i64 0, .int .i64 0, .int .i64 0, .slice none 0 0, .slice none 0 0], .int .i64 6]) (by simp [results, Tryz.results14, go_sem, z0, z1, z2, z3, z4, z5, z6, z7, z8, z9, z10, z11, z12, z13, z14]) rfl ⟨[.string ⟨#[]⟩, .slice none 0 0, .slice none 0 0, .bool false, .int .i64 0, .int .i64 0, .int .i64 0, .int .i64 0, .int .i64 0, .slice none 0 0, .int .i64 0, .int .i64 0, .int .i64 0, .slice none 0 0, .slice none 0 0], rfl, zeroInfo_at _ _ _, thrL3 (thr_nil _) (thr_nil _) (thr_nil _), ?_⟩
    repeat (refine Below.setCell ?_ (by simp <;> omega) _)
    exact B3.out.b
end Go.Proofs.YtbcclfiopebmpaaGreat
