/- The law NearBoth's walk. Condition: the arguments lie as is said of them; the table of powers of ten is laid as the program's text lays it. -/
import Derived.Test.YtfnafgmengefaaaDoorQ19
import Derived.Test.YtfnafgmengefaaaDoorZNBothP
namespace Go.Proofs.YtfnafgmengefaaaDoor
open Go.RowKit Go.Maps
set_option linter.unusedSimpArgs false
set_option maxRecDepth 100000

set_option maxHeartbeats 8000000 in
theorem both_walk (cs : List Value) (p : PodD) (ds : List Value) (q : PodD) (a : Option Addr) (n cap : Nat) (L : List Lab) (ts : List Value) (t : TermD) (w : World) (hp : RPod (fun _ => True) w cs p) (hq : RPod (fun _ => True) w ds q) (hL : SlAt RLabel 2 32 (fun _ => True) w a n cap L) (hT : RTerm (fun _ => True) w ts t) (ht : Hid (TB w.heap.size w)) :
    Calls Tryd.prog 5 #[.agg cs.toArray, .agg ds.toArray, .slice a n cap, .agg ts.toArray] w fun e w' => e = .returned (.bool true) ∧ Below w.heap.size w w' := by
  have hlc : cs.length = 16 := RPod.firm.len hp
  have hld : ds.length = 16 := RPod.firm.len hq
  obtain ⟨v10, e10⟩ : ∃ v, cs[10]? = some v := ⟨_, List.getElem?_eq_getElem (by omega)⟩
  obtain ⟨v11, e11⟩ : ∃ v, (cs.set 10 (.slice none 0 0))[11]? = some v := ⟨_, List.getElem?_eq_getElem (by rw [List.length_set]; omega)⟩
  obtain ⟨y10, x10⟩ : ∃ v, ds[10]? = some v := ⟨_, List.getElem?_eq_getElem (by omega)⟩
  obtain ⟨y11, x11⟩ : ∃ v, (ds.set 10 (.slice none 0 0))[11]? = some v := ⟨_, List.getElem?_eq_getElem (by rw [List.length_set]; omega)⟩
  have e0 : cs[0]? = some (.string p.1) := by obtain ⟨_, _, _, _, _, _, _, _, _, rfl, _⟩ := hp.out; rfl
  have x0 : ds[0]? = some (.string q.1) := by obtain ⟨_, _, _, _, _, _, _, _, _, rfl, _⟩ := hq.out; rfl
  obtain ⟨⟨r1, r2, r3⟩, rfl, sR, zR⟩ := hT.out
  simp only at sR
  obtain ⟨W1, hW1⟩ : ∃ W, W = ((w.alloc (.cells cs.toArray 33)).alloc (.cells ds.toArray 33)).alloc (.cells #[.slice r1 r2 r3, .string t.2] 44) := ⟨_, rfl⟩
  have B1 : Below w.heap.size w W1 := by rw [hW1]; go_grown
  have qP : BoxL W1 w.heap.size cs := by rw [hW1]; exact (BoxL.new w 33 cs).on (((Below.refl _ _).alloc (Nat.le_refl _) _).alloc (by simp) _)
  have qQ : BoxL W1 (w.heap.size + 1) ds := by have h1 := (BoxL.new (w.alloc (.cells cs.toArray 33)) 33 ds).on ((Below.refl _ _).alloc (Nat.le_refl _) (.cells #[.slice r1 r2 r3, .string t.2] 44)); rw [hW1]; simpa using h1
  have qT : BoxL W1 (w.heap.size + 1 + 1) [.slice r1 r2 r3, .string t.2] := by have h1 := BoxL.new ((w.alloc (.cells cs.toArray 33)).alloc (.cells ds.toArray 33)) 44 [.slice r1 r2 r3, .string t.2]; rw [hW1]; simpa using h1
  have HT : Hid (TB W1.heap.size W1) := fun w' h => ht.out w' (on2 B1 h)
  have HQ : Hid (BoxL W1 w.heap.size cs ∧ BoxL W1 (w.heap.size + 1) ds ∧ BoxL W1 (w.heap.size + 1 + 1) [.slice r1 r2 r3, .string t.2] ∧ Below w.heap.size w W1) := ⟨qP, qQ, qT, B1⟩
  have Hp : Hid (RPod (fun _ => True) w cs p) := hp
  have Hq : Hid (RPod (fun _ => True) w ds q) := hq
  have HR : Hid (SlAt RReq 3 48 (fun _ => True) w r1 r2 r3 t.1 ∧ t.2.size ≤ 140737488355328) := ⟨sR, zR⟩
  have HL : Hid (SlAt RLabel 2 32 (fun _ => True) w a n cap L) := hL
  clear qP qQ qT B1 ht hp hq hL hT sR zR
  go_enter Tryd.func5, Tryd.ntmps5
  go_wp2_with fail
  rw [← hW1]
  refine (works8_calls W1 HT).mono ?_
  rintro e w2 ⟨rfl, hb2⟩
  clear hW1 HT
  obtain ⟨u0, u1, u2, u3⟩ := HQ.out
  have HB : Hid (BS w [.slice r1 r2 r3, .string t.2] cs ds none w2) := ⟨u0.on hb2, u1.on hb2, u2.on hb2, (fun _ e => by cases e), on2 u3 hb2⟩
  clear HQ u0 u1 u2 u3 hb2
  have c0 := (HB.out.1.2 0 _ e0).1
  have d0 := (HB.out.2.1.2 0 _ x0).1
  cases hN : (p.1.toList == q.1.toList)
  case true =>
    go_wp2_with fail
    go_ret
    exact ⟨rfl, HB.out.2.2.2.2⟩
  case false =>
    go_upto_region 5 with fail
    go_cut [18, 19, 20, 21, 22, 23] (fun _ _ _ _ _ _ wx => ∃ G : Nat, Hid (BS w [.slice r1 r2 r3, .string t.2] ((cs.set 10 (.slice none 0 0)).set 11 (.slice (some ⟨G, 0, none⟩) 1 1)) ((ds.set 10 (.slice none 0 0)).set 11 (.slice none 0 0)) (some G) wx))
    case first =>
      have b0 := HB.out.drew
      refine t0 (fun u => BoxL u (w.heap.size + 1 + 1) [.slice r1 r2 r3, .string t.2]) (b0.2.2.1) (fun hHeld => ?_)
      generalize w2.drew = vd at b0 hHeld ⊢
      refine' tk 0 ?_ ?_; rotate_left
      · intro u hu; have h1 := (hu.2 0 _ rfl).1; have h2 := (hu.2 1 _ rfl).1; clear hu; go_simp; try with_reducible rfl
      try go_frame
      refine tp 2 ?_
      try go_frame
      refine tbs 1 3 (fun K hK => ?_) (fun K hK => ?_)
      ·
        have b1 := b0.mk8 (G := vd.heap.size) 44 (by simp)
        go_simp
        refine hK.out _ _ (b1.2.2.1) (fun hHeld2 => ?_)
        clear hK K; clear hHeld; have hHeld := hHeld2; clear hHeld2
        try go_frame
        refine ts 3 (fun K hK => ?_)
        obtain ⟨d1, f1⟩ := b1.1.2 10 _ e10
        go_simp
        have b2 := b1.setP 10 (.slice none 0 0) (by omega)
        refine hK.out undef _ (b2.2.2.1) (fun hHeld2 => ?_)
        clear hK K; clear hHeld; have hHeld := hHeld2; clear hHeld2
        try go_frame
        clear d1 f1
        refine tp 4 ?_
        try go_frame
        refine ts 5 (fun K hK => ?_)
        obtain ⟨d1, f1⟩ := b2.2.1.2 10 _ x10
        go_simp
        have b3 := b2.setQ 10 (.slice none 0 0) (by omega)
        refine hK.out undef _ (b3.2.2.1) (fun hHeld2 => ?_)
        clear hK K; clear hHeld; have hHeld := hHeld2; clear hHeld2
        try go_frame
        clear d1 f1
        refine tp 6 ?_
        try go_frame
        refine ts 7 (fun K hK => ?_)
        obtain ⟨d1, f1⟩ := b3.1.2 11 _ e11
        go_simp
        have b4 := b3.setP 11 (.slice (some ⟨vd.heap.size, 0, none⟩) 1 1) (by rw [List.length_set]; omega)
        refine hK.out undef _ (b4.2.2.1) (fun hHeld2 => ?_)
        clear hK K; clear hHeld; have hHeld := hHeld2; clear hHeld2
        try go_frame
        clear d1 f1
        refine tp 8 ?_
        try go_frame
        refine ts 9 (fun K hK => ?_)
        obtain ⟨d1, f1⟩ := b4.2.1.2 11 _ x11
        go_simp
        have b5 := b4.setQ 11 (.slice none 0 0) (by rw [List.length_set]; omega)
        refine hK.out undef _ (b5.2.2.1) (fun hHeld2 => ?_)
        clear hK K; clear hHeld; have hHeld := hHeld2; clear hHeld2
        try go_frame
        clear d1 f1
        refine tz ?_
        have HG : Hid _ := b5
        go_wp2_with fail
        go_meet
        exact ⟨_, HG⟩
      ·
        obtain ⟨d1, f1⟩ := b0.1.2 10 _ e10
        go_simp
        have b6 := b0.setP 10 (.slice none 0 0) (by omega)
        refine hK.out undef _ (b6.2.2.1) (fun hHeld2 => ?_)
        clear hK K; clear hHeld; have hHeld := hHeld2; clear hHeld2
        try go_frame
        clear d1 f1
        refine tp 4 ?_
        try go_frame
        refine tbs 1 5 (fun K hK => ?_) (fun K hK => ?_)
        ·
          have b7 := b6.mk8 (G := vd.heap.size) 44 (by simp)
          go_simp
          refine hK.out _ _ (b7.2.2.1) (fun hHeld2 => ?_)
          clear hK K; clear hHeld; have hHeld := hHeld2; clear hHeld2
          try go_frame
          refine ts 5 (fun K hK => ?_)
          obtain ⟨d1, f1⟩ := b7.2.1.2 10 _ x10
          go_simp
          have b8 := b7.setQ 10 (.slice none 0 0) (by omega)
          refine hK.out undef _ (b8.2.2.1) (fun hHeld2 => ?_)
          clear hK K; clear hHeld; have hHeld := hHeld2; clear hHeld2
          try go_frame
          clear d1 f1
          refine tp 6 ?_
          try go_frame
          refine ts 7 (fun K hK => ?_)
          obtain ⟨d1, f1⟩ := b8.1.2 11 _ e11
          go_simp
          have b9 := b8.setP 11 (.slice (some ⟨vd.heap.size, 0, none⟩) 1 1) (by rw [List.length_set]; omega)
          refine hK.out undef _ (b9.2.2.1) (fun hHeld2 => ?_)
          clear hK K; clear hHeld; have hHeld := hHeld2; clear hHeld2
          try go_frame
          clear d1 f1
          refine tp 8 ?_
          try go_frame
          refine ts 9 (fun K hK => ?_)
          obtain ⟨d1, f1⟩ := b9.2.1.2 11 _ x11
          go_simp
          have b10 := b9.setQ 11 (.slice none 0 0) (by rw [List.length_set]; omega)
          refine hK.out undef _ (b10.2.2.1) (fun hHeld2 => ?_)
          clear hK K; clear hHeld; have hHeld := hHeld2; clear hHeld2
          try go_frame
          clear d1 f1
          refine tz ?_
          have HG : Hid _ := b10
          go_wp2_with fail
          go_meet
          exact ⟨_, HG⟩
        ·
          obtain ⟨d1, f1⟩ := b6.2.1.2 10 _ x10
          go_simp
          have b11 := b6.setQ 10 (.slice none 0 0) (by omega)
          refine hK.out undef _ (b11.2.2.1) (fun hHeld2 => ?_)
          clear hK K; clear hHeld; have hHeld := hHeld2; clear hHeld2
          try go_frame
          clear d1 f1
          refine tr 1 (fun K hK => ?_)
          have b12 := b11.mk8 (G := vd.heap.size) 44 (by simp)
          go_simp
          refine hK.out _ _ (b12.2.2.1) (fun hHeld2 => ?_)
          clear hK K; clear hHeld; have hHeld := hHeld2; clear hHeld2
          try go_frame
          refine tp 6 ?_
          try go_frame
          refine ts 7 (fun K hK => ?_)
          obtain ⟨d1, f1⟩ := b12.1.2 11 _ e11
          go_simp
          have b13 := b12.setP 11 (.slice (some ⟨vd.heap.size, 0, none⟩) 1 1) (by rw [List.length_set]; omega)
          refine hK.out undef _ (b13.2.2.1) (fun hHeld2 => ?_)
          clear hK K; clear hHeld; have hHeld := hHeld2; clear hHeld2
          try go_frame
          clear d1 f1
          refine tp 8 ?_
          try go_frame
          refine ts 9 (fun K hK => ?_)
          obtain ⟨d1, f1⟩ := b13.2.1.2 11 _ x11
          go_simp
          have b14 := b13.setQ 11 (.slice none 0 0) (by rw [List.length_set]; omega)
          refine hK.out undef _ (b14.2.2.1) (fun hHeld2 => ?_)
          clear hK K; clear hHeld; have hHeld := hHeld2; clear hHeld2
          try go_frame
          clear d1 f1
          refine tz ?_
          have HG : Hid _ := b14
          go_wp2_with fail
          go_meet
          exact ⟨_, HG⟩
    case rest =>
      obtain ⟨G, hG⟩ := hcut
      obtain ⟨hP4, hQ4, _, hG4, hB4⟩ := hG.out
      have rP : RPod (fun _ => True) wc _ (oneApP (noNrP p) t) := (RPod.firm.kept Hp.out (Kept.below hB4)).noNr.oneAp (one_term hB4 HR.out (hG4 G rfl).1)
      have rQ : RPod (fun _ => True) wc _ (noApP (noNrP q)) := (RPod.firm.kept Hq.out (Kept.below hB4)).noNr.noAp
      have sL := HL.out.on RLabel.firm hB4
      have hbp := both_plain p q L t hN
      clear hG Hp Hq HR HL HB e0 x0 e10 e11 x10 x11 c0 d0 hG4 hlc hld
      generalize (cs.set 10 (.slice none 0 0)).set 11 (.slice (some ⟨G, 0, none⟩) 1 1) = C at *
      generalize (ds.set 10 (.slice none 0 0)).set 11 (.slice none 0 0) = D at *
      have HN1 : Hid ((pNear (oneApP (noNrP p) t)).length < 1000000000) := by rw [Hid]; show (0 : Nat) < 1000000000; omega
      have HN2 : Hid ((pApart (oneApP (noNrP p) t)).length < 1000000000) := by rw [Hid]; show (1 : Nat) < 1000000000; omega
      have HM1 : Hid ((pNear (noApP (noNrP q))).length < 1000000000) := by rw [Hid]; show (0 : Nat) < 1000000000; omega
      have HM2 : Hid ((pApart (noApP (noNrP q))).length < 1000000000) := by rw [Hid]; show (0 : Nat) < 1000000000; omega
      have HN3 : Hid (cost [(noApP (noNrP q), L)] < 70368744177000) := by rw [Hid]; show (1 + 0 + 0 : Nat) < 70368744177000; omega
      have HM3 : Hid (cost [(oneApP (noNrP p) t, L)] < 70368744177000) := by rw [Hid]; show (1 + 1 + 0 : Nat) < 70368744177000; omega
      generalize oneApP (noNrP p) t = P1 at *
      generalize noApP (noNrP q) = Q1 at *
      obtain ⟨c0, c1, c2, c3, c4, c5, c6, c7, c8, c9, c10, c11, c12, c13, c14, c15, rfl⟩ := rP.lit8
      obtain ⟨d0, d1, d2, d3, d4, d5, d6, d7, d8, d9, d10, d11, d12, d13, d14, d15, rfl⟩ := rQ.lit8
      obtain ⟨W5, hW5⟩ : ∃ W, W = wc.alloc (.cells #[d0, d1, d2, d3, d4, d5, d6, d7, d8, d9, d10, d11, d12, d13, d14, d15, .slice a n cap] 41) := ⟨_, rfl⟩
      have B5 : Below wc.heap.size wc W5 := by rw [hW5]; go_grown
      have g5 : BoxL W5 wc.heap.size [d0, d1, d2, d3, d4, d5, d6, d7, d8, d9, d10, d11, d12, d13, d14, d15, .slice a n cap] := by rw [hW5]; exact BoxL.new wc 41 _
      have r5 : RPlaced (fun _ => True) W5 [d0, d1, d2, d3, d4, d5, d6, d7, d8, d9, d10, d11, d12, d13, d14, d15, .slice a n cap] (Q1, L) := ⟨[d0, d1, d2, d3, d4, d5, d6, d7, d8, d9, d10, d11, d12, d13, d14, d15], [.slice a n cap], rfl, RPod.firm.kept rQ (Kept.below B5), ⟨a, n, cap, rfl, sL.on RLabel.firm B5⟩⟩
      have S5 : Hid (SlAt RPlaced 17 320 (fun _ => True) W5 (some ⟨wc.heap.size, 0, none⟩) 1 1 [(Q1, L)]) := sl_one g5 r5 trivial (by omega)
      have HC1 := NCheck_calls [c0, c1, c2, c3, c4, c5, c6, c7, c8, c9, c10, c11, c12, c13, c14, c15] _ _ _ P1 a n cap L (some ⟨wc.heap.size, 0, none⟩) 1 1 [(Q1, L)] W5 (RPod.firm.kept rP (Kept.below B5)) (sL.on RLabel.firm B5) S5 (HN1.out) (HN2.out) (HN3.out)
      have H4 : Hid (BoxL wc w.heap.size [c0, c1, c2, c3, c4, c5, c6, c7, c8, c9, c10, c11, c12, c13, c14, c15] ∧ BoxL wc (w.heap.size + 1) [d0, d1, d2, d3, d4, d5, d6, d7, d8, d9, d10, d11, d12, d13, d14, d15]) := ⟨hP4, hQ4⟩
      have H5 : Hid (BoxL W5 w.heap.size [c0, c1, c2, c3, c4, c5, c6, c7, c8, c9, c10, c11, c12, c13, c14, c15] ∧ BoxL W5 (w.heap.size + 1) [d0, d1, d2, d3, d4, d5, d6, d7, d8, d9, d10, d11, d12, d13, d14, d15] ∧ RPod (fun _ => True) W5 [c0, c1, c2, c3, c4, c5, c6, c7, c8, c9, c10, c11, c12, c13, c14, c15] P1 ∧ RPod (fun _ => True) W5 [d0, d1, d2, d3, d4, d5, d6, d7, d8, d9, d10, d11, d12, d13, d14, d15] Q1 ∧ SlAt RLabel 2 32 (fun _ => True) W5 a n cap L ∧ Below w.heap.size w W5) := ⟨hP4.on B5, hQ4.on B5, RPod.firm.kept rP (Kept.below B5), RPod.firm.kept rQ (Kept.below B5), sL.on RLabel.firm B5, on2 hB4 B5⟩
      have hi1 : (Tryd.prog.info? 33).map (·.size) = some ([c0, c1, c2, c3, c4, c5, c6, c7, c8, c9, c10, c11, c12, c13, c14, c15] : List Value).length := sizePo
      have hi2 : (Tryd.prog.info? 33).map (·.size) = some ([d0, d1, d2, d3, d4, d5, d6, d7, d8, d9, d10, d11, d12, d13, d14, d15] : List Value).length := sizePo
      clear rP rQ sL B5 g5 r5 S5 hP4 hQ4 hB4
      go_wp2_with (first | (refine wpList_load_mid rfl 33 _ rfl w.heap.size 0 rfl [c0, c1, c2, c3, c4, c5, c6, c7, c8, c9, c10, c11, c12, c13, c14, c15] _ H4.out.1.range Tryd.underlying33 rfl hi1 ?_) | (refine wpList_load_mid rfl 33 _ rfl (w.heap.size + 1) 0 rfl [d0, d1, d2, d3, d4, d5, d6, d7, d8, d9, d10, d11, d12, d13, d14, d15] _ H4.out.2.range Tryd.underlying33 rfl hi2 ?_) | fail)
      rw [← hW5]
      refine HC1.mono ?_
      clear HC1 hW5 H4
      rintro e w6 ⟨rfl, hb6⟩
      have H6 : Hid (BoxL w6 w.heap.size [c0, c1, c2, c3, c4, c5, c6, c7, c8, c9, c10, c11, c12, c13, c14, c15] ∧ BoxL w6 (w.heap.size + 1) [d0, d1, d2, d3, d4, d5, d6, d7, d8, d9, d10, d11, d12, d13, d14, d15]) := ⟨H5.out.1.on hb6, H5.out.2.1.on hb6⟩
      obtain ⟨W7, hW7⟩ : ∃ W, W = w6.alloc (.cells #[c0, c1, c2, c3, c4, c5, c6, c7, c8, c9, c10, c11, c12, c13, c14, c15, .slice a n cap] 41) := ⟨_, rfl⟩
      have B7 : Below w6.heap.size w6 W7 := by rw [hW7]; go_grown
      have B57 : Below W5.heap.size W5 W7 := on2 hb6 B7
      have g7 : BoxL W7 w6.heap.size [c0, c1, c2, c3, c4, c5, c6, c7, c8, c9, c10, c11, c12, c13, c14, c15, .slice a n cap] := by rw [hW7]; exact BoxL.new w6 41 _
      have r7 : RPlaced (fun _ => True) W7 [c0, c1, c2, c3, c4, c5, c6, c7, c8, c9, c10, c11, c12, c13, c14, c15, .slice a n cap] (P1, L) := ⟨[c0, c1, c2, c3, c4, c5, c6, c7, c8, c9, c10, c11, c12, c13, c14, c15], [.slice a n cap], rfl, RPod.firm.kept H5.out.2.2.1 (Kept.below B57), ⟨a, n, cap, rfl, H5.out.2.2.2.2.1.on RLabel.firm B57⟩⟩
      have S7 : Hid (SlAt RPlaced 17 320 (fun _ => True) W7 (some ⟨w6.heap.size, 0, none⟩) 1 1 [(P1, L)]) := sl_one g7 r7 trivial (by omega)
      have HC2 := NCheck_calls [d0, d1, d2, d3, d4, d5, d6, d7, d8, d9, d10, d11, d12, d13, d14, d15] _ _ _ Q1 a n cap L (some ⟨w6.heap.size, 0, none⟩) 1 1 [(P1, L)] W7 (RPod.firm.kept H5.out.2.2.2.1 (Kept.below B57)) (H5.out.2.2.2.2.1.on RLabel.firm B57) S7 (HM1.out) (HM2.out) (HM3.out)
      have HB7 : Hid (Below w.heap.size w W7) := on2 H5.out.2.2.2.2.2 B57
      clear H5 hb6 B7 B57 g7 r7 S7
      go_wp2_with (first | (refine wpList_load_mid rfl 33 _ rfl w.heap.size 0 rfl [c0, c1, c2, c3, c4, c5, c6, c7, c8, c9, c10, c11, c12, c13, c14, c15] _ H6.out.1.range Tryd.underlying33 rfl hi1 ?_) | (refine wpList_load_mid rfl 33 _ rfl (w.heap.size + 1) 0 rfl [d0, d1, d2, d3, d4, d5, d6, d7, d8, d9, d10, d11, d12, d13, d14, d15] _ H6.out.2.range Tryd.underlying33 rfl hi2 ?_) | fail)
      rw [← hW7]
      refine HC2.mono ?_
      clear HC2 hW7 H6
      rintro e w8 ⟨rfl, hb8⟩
      have HB8 : Hid (Below w.heap.size w w8) := on2 HB7.out hb8
      clear HB7 hb8
      rcases hbp with ⟨h1, h2⟩ | ⟨h1, h2⟩
      · rw [h1, h2]
        go_wp2_with fail
        go_ret
        exact ⟨rfl, HB8.out⟩
      · rw [h1, h2]
        go_wp2_with fail
        go_ret
        exact ⟨rfl, HB8.out⟩
end Go.Proofs.YtfnafgmengefaaaDoor
