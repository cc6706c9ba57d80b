/- volume.Check: how many claims and volumes do not fit together. Conditions: the state lies as is said of it, and each claim and each volume has a name of its own. -/
import Derived.Test.YtmnldngojgldiaaGreatW01
import Derived.Test.YtmnldngojgldiaaGreatQ16
import Derived.Test.YtmnldngojgldiaaGreatQ18
import Derived.Test.YtmnldngojgldiaaGreatQ17
namespace Go.Proofs.YtmnldngojgldiaaGreat
open Go.RowKit Go.Maps
set_option linter.unusedSimpArgs false
set_option maxRecDepth 100000

theorem count_take12 {α : Type} [Inhabited α] (p : α → Bool) (l : List α) (k : Nat) (hk : k < l.length) : ((l.take (k + 1)).filter p).length = ((l.take k).filter p).length + (if p (l.getD k default) = true then 1 else 0) := by
  rw [List.take_succ_eq_append_getElem hk, List.filter_append, List.length_append, List.getD_eq_getElem?_getD, List.getElem?_eq_getElem hk]
  by_cases h : p l[k] = true
  · simp [h]
  · simp [h]
theorem count_le12 {α : Type} (p : α → Bool) (l : List α) (k : Nat) : ((l.take k).filter p).length ≤ k := Nat.le_trans (List.length_filter_le _ _) (by rw [List.length_take]; omega)
theorem count_all12 {α : Type} (p : α → Bool) (l : List α) : (l.filter p).length ≤ l.length := List.length_filter_le _ _
set_option maxHeartbeats 32000000 in
theorem pCheck_calls (cs : List Value) (x : StateD) (w : World) (h : Hid (RState (fun _ => True) w cs x)) (hn : (vNs (sVs x)).Nodup ∧ (cNs (sCs x)).Nodup) :
    Calls Tryz.prog 10 #[.agg cs.toArray] w fun e w' => e = .returned (.int .i64 (checkP (stVC x))) ∧ Below w.heap.size w w' := by
  obtain ⟨⟨a0, n0, m0⟩, ⟨a1, n1, m1⟩, ⟨b2, k2, c2⟩, ⟨b3, k3, c3⟩, ⟨a4, n4, m4⟩, ⟨a5, n5, m5⟩, rfl, _, _, s2, s3, _⟩ := h.out.out
  simp only at s2 s3
  have hb80 := s2.2.2.2.1
  have hb56 := s3.2.2.2.1
  have hlV : Hid ((sVs x).length = k2) := s2.1
  have hlC : Hid ((sCs x).length = k3) := s3.1
  have hN : Hid ((vNs (sVs x)).Nodup ∧ (cNs (sCs x)).Nodup) := hn
  obtain ⟨W2, hW2⟩ : ∃ W, W = w.alloc (.cells #[.slice a0 n0 m0, .slice a1 n1 m1, .slice b2 k2 c2, .slice b3 k3 c3, .slice a4 n4 m4, .slice a5 n5 m5] 29) := ⟨_, rfl⟩
  have B1 : Below w.heap.size w W2 := by rw [hW2]; go_grown
  have q1 : BoxL W2 w.heap.size [.slice a0 n0 m0, .slice a1 n1 m1, .slice b2 k2 c2, .slice b3 k3 c3, .slice a4 n4 m4, .slice a5 n5 m5] := by rw [hW2]; exact BoxL.new w 29 _
  have hlt1 := q1.1
  have hSv : Hid (∀ z, Below W2.heap.size W2 z → SlAt RVolume 5 72 (fun _ => True) z b2 k2 c2 (sVs x)) := fun z hz => (SlAt.bytes10 s2 (by decide)).on RVolume.firm (on2 B1 hz)
  have hSc : Hid (∀ z, Below W2.heap.size W2 z → SlAt RClaim 4 56 (fun _ => True) z b3 k3 c3 (sCs x)) := fun z hz => s3.on RClaim.firm (on2 B1 hz)
  have HL : Hid (∀ z, Below W2.heap.size W2 z → z.cell? ⟨w.heap.size, 2, none⟩ = some (.slice b2 k2 c2) ∧ z.cell? ⟨w.heap.size, 3, none⟩ = some (.slice b3 k3 c3)) := fun z hz => ⟨((q1.on hz).2 2 _ rfl).1, ((q1.on hz).2 3 _ rfl).1⟩
  have HB1 : Hid (Below w.heap.size w W2) := B1
  clear h s2 s3 B1 q1 hn
  go_enter Tryz.func10, Tryz.ntmps10
  go_upto_region 1 with fail
  rw [← hW2]
  clear hW2
  go_cut [3, 4, 12, 13, 14, 15, 16, 17] (fun x8 x9 _ _ _ _ _ _ wx => ∃ X Y mc mv : Nat, x8 = .pointer (some ⟨X, 0, none⟩) ∧ x9 = .pointer (some ⟨Y, 0, none⟩) ∧ Hid (DnA W2 b2 k2 c2 b3 k3 c3 x X Y mc mv wx))
  case first =>
    refine t0 (fun z => Below W2.heap.size W2 z) (Below.refl _ _).drew (fun hHeld => ?_)
    have hb0 : Below W2.heap.size W2 W2.drew := (Below.refl _ _).drew
    generalize hwd : W2.drew = wd at hHeld hb0 ⊢
    clear hwd
    try go_frame
    refine' tk 0 ?_ ?_; rotate_left
    · intro u hu; obtain ⟨f2, f3⟩ := HL.out u hu; clear hu; go_simp; try with_reducible rfl
    try go_frame
    refine' tk 1 ?_ ?_; rotate_left
    · intro u hu; obtain ⟨f2, f3⟩ := HL.out u hu; clear hu; go_simp; try with_reducible rfl
    try go_frame
    refine' tk 3 ?_ ?_; rotate_left
    · intro u hu; obtain ⟨f2, f3⟩ := HL.out u hu; clear hu; go_simp; try with_reducible rfl
    try go_frame
    refine' tk 4 ?_ ?_; rotate_left
    · intro u hu; obtain ⟨f2, f3⟩ := HL.out u hu; clear hu; go_simp; try with_reducible rfl
    try go_frame
    refine t3b 2 6 7 (fun K hK => ?_) (fun K hK => ?_) (fun K hK => ?_)
    ·
      have hC := tabClaim_calls b3 k3 c3 _ (sCs x) wd (hSc.out wd hb0)
      go_simp
      refine hC.mono ?_
      rintro e u1 ⟨mc, rfl, nc, loc, d1⟩
      clear hC
      have hb1 : Below W2.heap.size W2 u1 := on2 hb0 d1
      have lbc : W2.heap.size ≤ mc := Nat.le_trans hb0.size loc
      go_wp2_with fail
      refine hK.out _ _ hb1 (fun hHeld2 => ?_)
      clear hK K hHeld; have hHeld := hHeld2; clear hHeld2
      try go_frame
      clear d1 loc
      refine t3b 5 6 7 (fun K hK => ?_) (fun K hK => ?_) (fun K hK => ?_)
      ·
        have hC := tabVolume_calls b2 k2 c2 _ (sVs x) u1 (hSv.out u1 hb1)
        go_simp
        refine hC.mono ?_
        rintro e u2 ⟨mv, rfl, nv, lov, d2⟩
        clear hC
        have hb2 : Below W2.heap.size W2 u2 := on2 hb1 d2
        have lbv : W2.heap.size ≤ mv := Nat.le_trans hb1.size lov
        have nc := nc.on d2
        go_wp2_with fail
        refine hK.out _ _ hb2 (fun hHeld2 => ?_)
        clear hK K hHeld; have hHeld := hHeld2; clear hHeld2
        try go_frame
        clear d2 lov
        refine tb 6 7 (fun K hK => ?_) (fun K hK => ?_)
        ·
          go_simp
          obtain ⟨u3, hu3⟩ : ∃ u3, u3 = u2.alloc (.cells #[.slice none 0 0, .map none] 82) := ⟨_, rfl⟩
          have d3 : Below u2.heap.size u2 u3 := by rw [hu3]; exact (Below.refl _ _).alloc (Nat.le_refl _) _
          have hb3 : Below W2.heap.size W2 u3 := on2 hb2 d3
          have z0X : BoxL u3 u2.heap.size [.slice none 0 0, .map none] := by rw [hu3]; exact BoxL.new u2 82 [.slice none 0 0, .map none]
          have xc : u2.heap.size ≠ mc := by have := nc.lt; omega
          have xv : u2.heap.size ≠ mv := by have := nv.lt; omega
          have hX1 : W2.heap.size ≤ u2.heap.size := hb2.size
          have nc := nc.on d3
          have nv := nv.on d3
          refine hK.out _ _ (hu3 ▸ hb3) (fun hHeld2 => ?_)
          rw [← hu3] at hHeld2 ⊢
          clear hK K hHeld; have hHeld := hHeld2; clear hHeld2
          try go_frame
          clear hu3 d3
          generalize u2.heap.size = X at z0X hX1 xc xv ⊢
          have zX := z0X
          clear z0X
          refine tr 7 (fun K hK => ?_)
          go_simp
          obtain ⟨u4, hu4⟩ : ∃ u4, u4 = u3.alloc (.cells #[.slice none 0 0, .map none] 86) := ⟨_, rfl⟩
          have d4 : Below u3.heap.size u3 u4 := by rw [hu4]; exact (Below.refl _ _).alloc (Nat.le_refl _) _
          have hb4 : Below W2.heap.size W2 u4 := on2 hb3 d4
          have z0Y : BoxL u4 u3.heap.size [.slice none 0 0, .map none] := by rw [hu4]; exact BoxL.new u3 86 [.slice none 0 0, .map none]
          have yc : u3.heap.size ≠ mc := by have := nc.lt; omega
          have yv : u3.heap.size ≠ mv := by have := nv.lt; omega
          have xy : X ≠ u3.heap.size := by have := zX.1; omega
          have hY1 : W2.heap.size ≤ u3.heap.size := hb3.size
          have nc := nc.on d4
          have nv := nv.on d4
          have zX := zX.on d4
          refine hK.out _ _ (hu4 ▸ hb4) (fun hHeld2 => ?_)
          rw [← hu4] at hHeld2 ⊢
          clear hK K hHeld; have hHeld := hHeld2; clear hHeld2
          try go_frame
          clear hu4 d4
          generalize u3.heap.size = Y at z0Y hY1 yc yv xy ⊢
          have zY := z0Y
          clear z0Y
          obtain ⟨UX, hUX⟩ : ∃ U, U = u4.setCells X 0 [.slice b3 k3 c3, .map (some mc)] := ⟨_, rfl⟩
          refine ts 8 (fun K hK => ?_)
          refine want_yes (by rfl) (wp_store_mid 82 _ _ rfl X 0 #[.slice b3 k3 c3, .map (some mc)] rfl rfl zX.there (by kernel_rfl) (by simp [Value.oneCell']) ?_)
          have kUX : Kept (fun b => b ≠ X) u4 UX := by rw [hUX]; exact kept_setCells (fun h => h rfl)
          have bUX : Below W2.heap.size W2 UX := by rw [hUX]; exact below_setCells hb4 hX1
          have zX : BoxL UX X [.slice b3 k3 c3, .map (some mc)] := by rw [hUX]; exact box_over8 zX rfl
          have zY := zY.kept kUX (fun e => xy e.symm)
          have nc := nc.kept kUX (fun e => xc e.symm)
          have nv := nv.kept kUX (fun e => xv e.symm)
          have eUX : UX = u4.setCells X 0 (#[.slice b3 k3 c3, .map (some mc)] : Array Value).toList := by rw [hUX]
          rw [← eUX]
          refine hK.out undef _ bUX (fun hHeld2 => ?_)
          clear hK K hHeld; have hHeld := hHeld2; clear hHeld2
          try go_frame
          clear hUX eUX kUX
          obtain ⟨UY, hUY⟩ : ∃ U, U = UX.setCells Y 0 [.slice b2 k2 c2, .map (some mv)] := ⟨_, rfl⟩
          refine ts 9 (fun K hK => ?_)
          refine want_yes (by rfl) (wp_store_mid 86 _ _ rfl Y 0 #[.slice b2 k2 c2, .map (some mv)] rfl rfl zY.there (by kernel_rfl) (by simp [Value.oneCell']) ?_)
          have kUY : Kept (fun b => b ≠ Y) UX UY := by rw [hUY]; exact kept_setCells (fun h => h rfl)
          have bUY : Below W2.heap.size W2 UY := by rw [hUY]; exact below_setCells bUX hY1
          have zY : BoxL UY Y [.slice b2 k2 c2, .map (some mv)] := by rw [hUY]; exact box_over8 zY rfl
          have zX := zX.kept kUY (fun e => xy e)
          have nc := nc.kept kUY (fun e => yc e.symm)
          have nv := nv.kept kUY (fun e => yv e.symm)
          have eUY : UY = UX.setCells Y 0 (#[.slice b2 k2 c2, .map (some mv)] : Array Value).toList := by rw [hUY]
          rw [← eUY]
          refine hK.out undef _ bUY (fun hHeld2 => ?_)
          clear hK K hHeld; have hHeld := hHeld2; clear hHeld2
          try go_frame
          clear hUY eUY kUY
          refine tz ?_
          have HG : Hid (DnA W2 b2 k2 c2 b3 k3 c3 x X Y mc mv UY) := ⟨nc, nv, zX, zY, xy, xc, xv, yc, yv, bUY, hX1, hY1, lbc, lbv⟩
          clear zX zY nc nv xy xc xv yc yv bUX bUY hX1 hY1 lbc lbv hHeld
          go_wp2_with fail
          go_meet
          exact ⟨X, Y, mc, mv, rfl, rfl, HG⟩
        ·
          go_simp
          obtain ⟨u5, hu5⟩ : ∃ u5, u5 = u2.alloc (.cells #[.slice none 0 0, .map none] 86) := ⟨_, rfl⟩
          have d5 : Below u2.heap.size u2 u5 := by rw [hu5]; exact (Below.refl _ _).alloc (Nat.le_refl _) _
          have hb5 : Below W2.heap.size W2 u5 := on2 hb2 d5
          have z0Y : BoxL u5 u2.heap.size [.slice none 0 0, .map none] := by rw [hu5]; exact BoxL.new u2 86 [.slice none 0 0, .map none]
          have yc : u2.heap.size ≠ mc := by have := nc.lt; omega
          have yv : u2.heap.size ≠ mv := by have := nv.lt; omega
          have hY1 : W2.heap.size ≤ u2.heap.size := hb2.size
          have nc := nc.on d5
          have nv := nv.on d5
          refine hK.out _ _ (hu5 ▸ hb5) (fun hHeld2 => ?_)
          rw [← hu5] at hHeld2 ⊢
          clear hK K hHeld; have hHeld := hHeld2; clear hHeld2
          try go_frame
          clear hu5 d5
          generalize u2.heap.size = Y at z0Y hY1 yc yv ⊢
          have zY := z0Y
          clear z0Y
          refine tr 6 (fun K hK => ?_)
          go_simp
          obtain ⟨u6, hu6⟩ : ∃ u6, u6 = u5.alloc (.cells #[.slice none 0 0, .map none] 82) := ⟨_, rfl⟩
          have d6 : Below u5.heap.size u5 u6 := by rw [hu6]; exact (Below.refl _ _).alloc (Nat.le_refl _) _
          have hb6 : Below W2.heap.size W2 u6 := on2 hb5 d6
          have z0X : BoxL u6 u5.heap.size [.slice none 0 0, .map none] := by rw [hu6]; exact BoxL.new u5 82 [.slice none 0 0, .map none]
          have xc : u5.heap.size ≠ mc := by have := nc.lt; omega
          have xv : u5.heap.size ≠ mv := by have := nv.lt; omega
          have xy : u5.heap.size ≠ Y := by have := zY.1; omega
          have hX1 : W2.heap.size ≤ u5.heap.size := hb5.size
          have nc := nc.on d6
          have nv := nv.on d6
          have zY := zY.on d6
          refine hK.out _ _ (hu6 ▸ hb6) (fun hHeld2 => ?_)
          rw [← hu6] at hHeld2 ⊢
          clear hK K hHeld; have hHeld := hHeld2; clear hHeld2
          try go_frame
          clear hu6 d6
          generalize u5.heap.size = X at z0X hX1 xc xv xy ⊢
          have zX := z0X
          clear z0X
          obtain ⟨UX, hUX⟩ : ∃ U, U = u6.setCells X 0 [.slice b3 k3 c3, .map (some mc)] := ⟨_, rfl⟩
          refine ts 8 (fun K hK => ?_)
          refine want_yes (by rfl) (wp_store_mid 82 _ _ rfl X 0 #[.slice b3 k3 c3, .map (some mc)] rfl rfl zX.there (by kernel_rfl) (by simp [Value.oneCell']) ?_)
          have kUX : Kept (fun b => b ≠ X) u6 UX := by rw [hUX]; exact kept_setCells (fun h => h rfl)
          have bUX : Below W2.heap.size W2 UX := by rw [hUX]; exact below_setCells hb6 hX1
          have zX : BoxL UX X [.slice b3 k3 c3, .map (some mc)] := by rw [hUX]; exact box_over8 zX rfl
          have zY := zY.kept kUX (fun e => xy e.symm)
          have nc := nc.kept kUX (fun e => xc e.symm)
          have nv := nv.kept kUX (fun e => xv e.symm)
          have eUX : UX = u6.setCells X 0 (#[.slice b3 k3 c3, .map (some mc)] : Array Value).toList := by rw [hUX]
          rw [← eUX]
          refine hK.out undef _ bUX (fun hHeld2 => ?_)
          clear hK K hHeld; have hHeld := hHeld2; clear hHeld2
          try go_frame
          clear hUX eUX kUX
          obtain ⟨UY, hUY⟩ : ∃ U, U = UX.setCells Y 0 [.slice b2 k2 c2, .map (some mv)] := ⟨_, rfl⟩
          refine ts 9 (fun K hK => ?_)
          refine want_yes (by rfl) (wp_store_mid 86 _ _ rfl Y 0 #[.slice b2 k2 c2, .map (some mv)] rfl rfl zY.there (by kernel_rfl) (by simp [Value.oneCell']) ?_)
          have kUY : Kept (fun b => b ≠ Y) UX UY := by rw [hUY]; exact kept_setCells (fun h => h rfl)
          have bUY : Below W2.heap.size W2 UY := by rw [hUY]; exact below_setCells bUX hY1
          have zY : BoxL UY Y [.slice b2 k2 c2, .map (some mv)] := by rw [hUY]; exact box_over8 zY rfl
          have zX := zX.kept kUY (fun e => xy e)
          have nc := nc.kept kUY (fun e => yc e.symm)
          have nv := nv.kept kUY (fun e => yv e.symm)
          have eUY : UY = UX.setCells Y 0 (#[.slice b2 k2 c2, .map (some mv)] : Array Value).toList := by rw [hUY]
          rw [← eUY]
          refine hK.out undef _ bUY (fun hHeld2 => ?_)
          clear hK K hHeld; have hHeld := hHeld2; clear hHeld2
          try go_frame
          clear hUY eUY kUY
          refine tz ?_
          have HG : Hid (DnA W2 b2 k2 c2 b3 k3 c3 x X Y mc mv UY) := ⟨nc, nv, zX, zY, xy, xc, xv, yc, yv, bUY, hX1, hY1, lbc, lbv⟩
          clear zX zY nc nv xy xc xv yc yv bUX bUY hX1 hY1 lbc lbv hHeld
          go_wp2_with fail
          go_meet
          exact ⟨X, Y, mc, mv, rfl, rfl, HG⟩
      ·
        go_simp
        obtain ⟨u7, hu7⟩ : ∃ u7, u7 = u1.alloc (.cells #[.slice none 0 0, .map none] 82) := ⟨_, rfl⟩
        have d7 : Below u1.heap.size u1 u7 := by rw [hu7]; exact (Below.refl _ _).alloc (Nat.le_refl _) _
        have hb7 : Below W2.heap.size W2 u7 := on2 hb1 d7
        have z0X : BoxL u7 u1.heap.size [.slice none 0 0, .map none] := by rw [hu7]; exact BoxL.new u1 82 [.slice none 0 0, .map none]
        have xc : u1.heap.size ≠ mc := by have := nc.lt; omega
        have hX1 : W2.heap.size ≤ u1.heap.size := hb1.size
        have nc := nc.on d7
        refine hK.out _ _ (hu7 ▸ hb7) (fun hHeld2 => ?_)
        rw [← hu7] at hHeld2 ⊢
        clear hK K hHeld; have hHeld := hHeld2; clear hHeld2
        try go_frame
        clear hu7 d7
        generalize u1.heap.size = X at z0X hX1 xc ⊢
        have zX := z0X
        clear z0X
        refine tb 5 7 (fun K hK => ?_) (fun K hK => ?_)
        ·
          have hC := tabVolume_calls b2 k2 c2 _ (sVs x) u7 (hSv.out u7 hb7)
          go_simp
          refine hC.mono ?_
          rintro e u8 ⟨mv, rfl, nv, lov, d8⟩
          clear hC
          have hb8 : Below W2.heap.size W2 u8 := on2 hb7 d8
          have lbv : W2.heap.size ≤ mv := Nat.le_trans hb7.size lov
          have xv : X ≠ mv := by have := zX.1; omega
          have zX := zX.on d8
          have nc := nc.on d8
          go_wp2_with fail
          refine hK.out _ _ hb8 (fun hHeld2 => ?_)
          clear hK K hHeld; have hHeld := hHeld2; clear hHeld2
          try go_frame
          clear d8 lov
          refine tr 7 (fun K hK => ?_)
          go_simp
          obtain ⟨u9, hu9⟩ : ∃ u9, u9 = u8.alloc (.cells #[.slice none 0 0, .map none] 86) := ⟨_, rfl⟩
          have d9 : Below u8.heap.size u8 u9 := by rw [hu9]; exact (Below.refl _ _).alloc (Nat.le_refl _) _
          have hb9 : Below W2.heap.size W2 u9 := on2 hb8 d9
          have z0Y : BoxL u9 u8.heap.size [.slice none 0 0, .map none] := by rw [hu9]; exact BoxL.new u8 86 [.slice none 0 0, .map none]
          have yc : u8.heap.size ≠ mc := by have := nc.lt; omega
          have yv : u8.heap.size ≠ mv := by have := nv.lt; omega
          have xy : X ≠ u8.heap.size := by have := zX.1; omega
          have hY1 : W2.heap.size ≤ u8.heap.size := hb8.size
          have nc := nc.on d9
          have nv := nv.on d9
          have zX := zX.on d9
          refine hK.out _ _ (hu9 ▸ hb9) (fun hHeld2 => ?_)
          rw [← hu9] at hHeld2 ⊢
          clear hK K hHeld; have hHeld := hHeld2; clear hHeld2
          try go_frame
          clear hu9 d9
          generalize u8.heap.size = Y at z0Y hY1 yc yv xy ⊢
          have zY := z0Y
          clear z0Y
          obtain ⟨UX, hUX⟩ : ∃ U, U = u9.setCells X 0 [.slice b3 k3 c3, .map (some mc)] := ⟨_, rfl⟩
          refine ts 8 (fun K hK => ?_)
          refine want_yes (by rfl) (wp_store_mid 82 _ _ rfl X 0 #[.slice b3 k3 c3, .map (some mc)] rfl rfl zX.there (by kernel_rfl) (by simp [Value.oneCell']) ?_)
          have kUX : Kept (fun b => b ≠ X) u9 UX := by rw [hUX]; exact kept_setCells (fun h => h rfl)
          have bUX : Below W2.heap.size W2 UX := by rw [hUX]; exact below_setCells hb9 hX1
          have zX : BoxL UX X [.slice b3 k3 c3, .map (some mc)] := by rw [hUX]; exact box_over8 zX rfl
          have zY := zY.kept kUX (fun e => xy e.symm)
          have nc := nc.kept kUX (fun e => xc e.symm)
          have nv := nv.kept kUX (fun e => xv e.symm)
          have eUX : UX = u9.setCells X 0 (#[.slice b3 k3 c3, .map (some mc)] : Array Value).toList := by rw [hUX]
          rw [← eUX]
          refine hK.out undef _ bUX (fun hHeld2 => ?_)
          clear hK K hHeld; have hHeld := hHeld2; clear hHeld2
          try go_frame
          clear hUX eUX kUX
          obtain ⟨UY, hUY⟩ : ∃ U, U = UX.setCells Y 0 [.slice b2 k2 c2, .map (some mv)] := ⟨_, rfl⟩
          refine ts 9 (fun K hK => ?_)
          refine want_yes (by rfl) (wp_store_mid 86 _ _ rfl Y 0 #[.slice b2 k2 c2, .map (some mv)] rfl rfl zY.there (by kernel_rfl) (by simp [Value.oneCell']) ?_)
          have kUY : Kept (fun b => b ≠ Y) UX UY := by rw [hUY]; exact kept_setCells (fun h => h rfl)
          have bUY : Below W2.heap.size W2 UY := by rw [hUY]; exact below_setCells bUX hY1
          have zY : BoxL UY Y [.slice b2 k2 c2, .map (some mv)] := by rw [hUY]; exact box_over8 zY rfl
          have zX := zX.kept kUY (fun e => xy e)
          have nc := nc.kept kUY (fun e => yc e.symm)
          have nv := nv.kept kUY (fun e => yv e.symm)
          have eUY : UY = UX.setCells Y 0 (#[.slice b2 k2 c2, .map (some mv)] : Array Value).toList := by rw [hUY]
          rw [← eUY]
          refine hK.out undef _ bUY (fun hHeld2 => ?_)
          clear hK K hHeld; have hHeld := hHeld2; clear hHeld2
          try go_frame
          clear hUY eUY kUY
          refine tz ?_
          have HG : Hid (DnA W2 b2 k2 c2 b3 k3 c3 x X Y mc mv UY) := ⟨nc, nv, zX, zY, xy, xc, xv, yc, yv, bUY, hX1, hY1, lbc, lbv⟩
          clear zX zY nc nv xy xc xv yc yv bUX bUY hX1 hY1 lbc lbv hHeld
          go_wp2_with fail
          go_meet
          exact ⟨X, Y, mc, mv, rfl, rfl, HG⟩
        ·
          go_simp
          obtain ⟨u10, hu10⟩ : ∃ u10, u10 = u7.alloc (.cells #[.slice none 0 0, .map none] 86) := ⟨_, rfl⟩
          have d10 : Below u7.heap.size u7 u10 := by rw [hu10]; exact (Below.refl _ _).alloc (Nat.le_refl _) _
          have hb10 : Below W2.heap.size W2 u10 := on2 hb7 d10
          have z0Y : BoxL u10 u7.heap.size [.slice none 0 0, .map none] := by rw [hu10]; exact BoxL.new u7 86 [.slice none 0 0, .map none]
          have yc : u7.heap.size ≠ mc := by have := nc.lt; omega
          have xy : X ≠ u7.heap.size := by have := zX.1; omega
          have hY1 : W2.heap.size ≤ u7.heap.size := hb7.size
          have nc := nc.on d10
          have zX := zX.on d10
          refine hK.out _ _ (hu10 ▸ hb10) (fun hHeld2 => ?_)
          rw [← hu10] at hHeld2 ⊢
          clear hK K hHeld; have hHeld := hHeld2; clear hHeld2
          try go_frame
          clear hu10 d10
          generalize u7.heap.size = Y at z0Y hY1 yc xy ⊢
          have zY := z0Y
          clear z0Y
          refine tr 5 (fun K hK => ?_)
          have hC := tabVolume_calls b2 k2 c2 _ (sVs x) u10 (hSv.out u10 hb10)
          go_simp
          refine hC.mono ?_
          rintro e u11 ⟨mv, rfl, nv, lov, d11⟩
          clear hC
          have hb11 : Below W2.heap.size W2 u11 := on2 hb10 d11
          have lbv : W2.heap.size ≤ mv := Nat.le_trans hb10.size lov
          have xv : X ≠ mv := by have := zX.1; omega
          have zX := zX.on d11
          have yv : Y ≠ mv := by have := zY.1; omega
          have zY := zY.on d11
          have nc := nc.on d11
          go_wp2_with fail
          refine hK.out _ _ hb11 (fun hHeld2 => ?_)
          clear hK K hHeld; have hHeld := hHeld2; clear hHeld2
          try go_frame
          clear d11 lov
          obtain ⟨UX, hUX⟩ : ∃ U, U = u11.setCells X 0 [.slice b3 k3 c3, .map (some mc)] := ⟨_, rfl⟩
          refine ts 8 (fun K hK => ?_)
          refine want_yes (by rfl) (wp_store_mid 82 _ _ rfl X 0 #[.slice b3 k3 c3, .map (some mc)] rfl rfl zX.there (by kernel_rfl) (by simp [Value.oneCell']) ?_)
          have kUX : Kept (fun b => b ≠ X) u11 UX := by rw [hUX]; exact kept_setCells (fun h => h rfl)
          have bUX : Below W2.heap.size W2 UX := by rw [hUX]; exact below_setCells hb11 hX1
          have zX : BoxL UX X [.slice b3 k3 c3, .map (some mc)] := by rw [hUX]; exact box_over8 zX rfl
          have zY := zY.kept kUX (fun e => xy e.symm)
          have nc := nc.kept kUX (fun e => xc e.symm)
          have nv := nv.kept kUX (fun e => xv e.symm)
          have eUX : UX = u11.setCells X 0 (#[.slice b3 k3 c3, .map (some mc)] : Array Value).toList := by rw [hUX]
          rw [← eUX]
          refine hK.out undef _ bUX (fun hHeld2 => ?_)
          clear hK K hHeld; have hHeld := hHeld2; clear hHeld2
          try go_frame
          clear hUX eUX kUX
          obtain ⟨UY, hUY⟩ : ∃ U, U = UX.setCells Y 0 [.slice b2 k2 c2, .map (some mv)] := ⟨_, rfl⟩
          refine ts 9 (fun K hK => ?_)
          refine want_yes (by rfl) (wp_store_mid 86 _ _ rfl Y 0 #[.slice b2 k2 c2, .map (some mv)] rfl rfl zY.there (by kernel_rfl) (by simp [Value.oneCell']) ?_)
          have kUY : Kept (fun b => b ≠ Y) UX UY := by rw [hUY]; exact kept_setCells (fun h => h rfl)
          have bUY : Below W2.heap.size W2 UY := by rw [hUY]; exact below_setCells bUX hY1
          have zY : BoxL UY Y [.slice b2 k2 c2, .map (some mv)] := by rw [hUY]; exact box_over8 zY rfl
          have zX := zX.kept kUY (fun e => xy e)
          have nc := nc.kept kUY (fun e => yc e.symm)
          have nv := nv.kept kUY (fun e => yv e.symm)
          have eUY : UY = UX.setCells Y 0 (#[.slice b2 k2 c2, .map (some mv)] : Array Value).toList := by rw [hUY]
          rw [← eUY]
          refine hK.out undef _ bUY (fun hHeld2 => ?_)
          clear hK K hHeld; have hHeld := hHeld2; clear hHeld2
          try go_frame
          clear hUY eUY kUY
          refine tz ?_
          have HG : Hid (DnA W2 b2 k2 c2 b3 k3 c3 x X Y mc mv UY) := ⟨nc, nv, zX, zY, xy, xc, xv, yc, yv, bUY, hX1, hY1, lbc, lbv⟩
          clear zX zY nc nv xy xc xv yc yv bUX bUY hX1 hY1 lbc lbv hHeld
          go_wp2_with fail
          go_meet
          exact ⟨X, Y, mc, mv, rfl, rfl, HG⟩
      ·
        go_simp
        obtain ⟨u12, hu12⟩ : ∃ u12, u12 = u1.alloc (.cells #[.slice none 0 0, .map none] 86) := ⟨_, rfl⟩
        have d12 : Below u1.heap.size u1 u12 := by rw [hu12]; exact (Below.refl _ _).alloc (Nat.le_refl _) _
        have hb12 : Below W2.heap.size W2 u12 := on2 hb1 d12
        have z0Y : BoxL u12 u1.heap.size [.slice none 0 0, .map none] := by rw [hu12]; exact BoxL.new u1 86 [.slice none 0 0, .map none]
        have yc : u1.heap.size ≠ mc := by have := nc.lt; omega
        have hY1 : W2.heap.size ≤ u1.heap.size := hb1.size
        have nc := nc.on d12
        refine hK.out _ _ (hu12 ▸ hb12) (fun hHeld2 => ?_)
        rw [← hu12] at hHeld2 ⊢
        clear hK K hHeld; have hHeld := hHeld2; clear hHeld2
        try go_frame
        clear hu12 d12
        generalize u1.heap.size = Y at z0Y hY1 yc ⊢
        have zY := z0Y
        clear z0Y
        refine tb 5 6 (fun K hK => ?_) (fun K hK => ?_)
        ·
          have hC := tabVolume_calls b2 k2 c2 _ (sVs x) u12 (hSv.out u12 hb12)
          go_simp
          refine hC.mono ?_
          rintro e u13 ⟨mv, rfl, nv, lov, d13⟩
          clear hC
          have hb13 : Below W2.heap.size W2 u13 := on2 hb12 d13
          have lbv : W2.heap.size ≤ mv := Nat.le_trans hb12.size lov
          have yv : Y ≠ mv := by have := zY.1; omega
          have zY := zY.on d13
          have nc := nc.on d13
          go_wp2_with fail
          refine hK.out _ _ hb13 (fun hHeld2 => ?_)
          clear hK K hHeld; have hHeld := hHeld2; clear hHeld2
          try go_frame
          clear d13 lov
          refine tr 6 (fun K hK => ?_)
          go_simp
          obtain ⟨u14, hu14⟩ : ∃ u14, u14 = u13.alloc (.cells #[.slice none 0 0, .map none] 82) := ⟨_, rfl⟩
          have d14 : Below u13.heap.size u13 u14 := by rw [hu14]; exact (Below.refl _ _).alloc (Nat.le_refl _) _
          have hb14 : Below W2.heap.size W2 u14 := on2 hb13 d14
          have z0X : BoxL u14 u13.heap.size [.slice none 0 0, .map none] := by rw [hu14]; exact BoxL.new u13 82 [.slice none 0 0, .map none]
          have xc : u13.heap.size ≠ mc := by have := nc.lt; omega
          have xv : u13.heap.size ≠ mv := by have := nv.lt; omega
          have xy : u13.heap.size ≠ Y := by have := zY.1; omega
          have hX1 : W2.heap.size ≤ u13.heap.size := hb13.size
          have nc := nc.on d14
          have nv := nv.on d14
          have zY := zY.on d14
          refine hK.out _ _ (hu14 ▸ hb14) (fun hHeld2 => ?_)
          rw [← hu14] at hHeld2 ⊢
          clear hK K hHeld; have hHeld := hHeld2; clear hHeld2
          try go_frame
          clear hu14 d14
          generalize u13.heap.size = X at z0X hX1 xc xv xy ⊢
          have zX := z0X
          clear z0X
          obtain ⟨UX, hUX⟩ : ∃ U, U = u14.setCells X 0 [.slice b3 k3 c3, .map (some mc)] := ⟨_, rfl⟩
          refine ts 8 (fun K hK => ?_)
          refine want_yes (by rfl) (wp_store_mid 82 _ _ rfl X 0 #[.slice b3 k3 c3, .map (some mc)] rfl rfl zX.there (by kernel_rfl) (by simp [Value.oneCell']) ?_)
          have kUX : Kept (fun b => b ≠ X) u14 UX := by rw [hUX]; exact kept_setCells (fun h => h rfl)
          have bUX : Below W2.heap.size W2 UX := by rw [hUX]; exact below_setCells hb14 hX1
          have zX : BoxL UX X [.slice b3 k3 c3, .map (some mc)] := by rw [hUX]; exact box_over8 zX rfl
          have zY := zY.kept kUX (fun e => xy e.symm)
          have nc := nc.kept kUX (fun e => xc e.symm)
          have nv := nv.kept kUX (fun e => xv e.symm)
          have eUX : UX = u14.setCells X 0 (#[.slice b3 k3 c3, .map (some mc)] : Array Value).toList := by rw [hUX]
          rw [← eUX]
          refine hK.out undef _ bUX (fun hHeld2 => ?_)
          clear hK K hHeld; have hHeld := hHeld2; clear hHeld2
          try go_frame
          clear hUX eUX kUX
          obtain ⟨UY, hUY⟩ : ∃ U, U = UX.setCells Y 0 [.slice b2 k2 c2, .map (some mv)] := ⟨_, rfl⟩
          refine ts 9 (fun K hK => ?_)
          refine want_yes (by rfl) (wp_store_mid 86 _ _ rfl Y 0 #[.slice b2 k2 c2, .map (some mv)] rfl rfl zY.there (by kernel_rfl) (by simp [Value.oneCell']) ?_)
          have kUY : Kept (fun b => b ≠ Y) UX UY := by rw [hUY]; exact kept_setCells (fun h => h rfl)
          have bUY : Below W2.heap.size W2 UY := by rw [hUY]; exact below_setCells bUX hY1
          have zY : BoxL UY Y [.slice b2 k2 c2, .map (some mv)] := by rw [hUY]; exact box_over8 zY rfl
          have zX := zX.kept kUY (fun e => xy e)
          have nc := nc.kept kUY (fun e => yc e.symm)
          have nv := nv.kept kUY (fun e => yv e.symm)
          have eUY : UY = UX.setCells Y 0 (#[.slice b2 k2 c2, .map (some mv)] : Array Value).toList := by rw [hUY]
          rw [← eUY]
          refine hK.out undef _ bUY (fun hHeld2 => ?_)
          clear hK K hHeld; have hHeld := hHeld2; clear hHeld2
          try go_frame
          clear hUY eUY kUY
          refine tz ?_
          have HG : Hid (DnA W2 b2 k2 c2 b3 k3 c3 x X Y mc mv UY) := ⟨nc, nv, zX, zY, xy, xc, xv, yc, yv, bUY, hX1, hY1, lbc, lbv⟩
          clear zX zY nc nv xy xc xv yc yv bUX bUY hX1 hY1 lbc lbv hHeld
          go_wp2_with fail
          go_meet
          exact ⟨X, Y, mc, mv, rfl, rfl, HG⟩
        ·
          go_simp
          obtain ⟨u15, hu15⟩ : ∃ u15, u15 = u12.alloc (.cells #[.slice none 0 0, .map none] 82) := ⟨_, rfl⟩
          have d15 : Below u12.heap.size u12 u15 := by rw [hu15]; exact (Below.refl _ _).alloc (Nat.le_refl _) _
          have hb15 : Below W2.heap.size W2 u15 := on2 hb12 d15
          have z0X : BoxL u15 u12.heap.size [.slice none 0 0, .map none] := by rw [hu15]; exact BoxL.new u12 82 [.slice none 0 0, .map none]
          have xc : u12.heap.size ≠ mc := by have := nc.lt; omega
          have xy : u12.heap.size ≠ Y := by have := zY.1; omega
          have hX1 : W2.heap.size ≤ u12.heap.size := hb12.size
          have nc := nc.on d15
          have zY := zY.on d15
          refine hK.out _ _ (hu15 ▸ hb15) (fun hHeld2 => ?_)
          rw [← hu15] at hHeld2 ⊢
          clear hK K hHeld; have hHeld := hHeld2; clear hHeld2
          try go_frame
          clear hu15 d15
          generalize u12.heap.size = X at z0X hX1 xc xy ⊢
          have zX := z0X
          clear z0X
          refine tr 5 (fun K hK => ?_)
          have hC := tabVolume_calls b2 k2 c2 _ (sVs x) u15 (hSv.out u15 hb15)
          go_simp
          refine hC.mono ?_
          rintro e u16 ⟨mv, rfl, nv, lov, d16⟩
          clear hC
          have hb16 : Below W2.heap.size W2 u16 := on2 hb15 d16
          have lbv : W2.heap.size ≤ mv := Nat.le_trans hb15.size lov
          have yv : Y ≠ mv := by have := zY.1; omega
          have zY := zY.on d16
          have xv : X ≠ mv := by have := zX.1; omega
          have zX := zX.on d16
          have nc := nc.on d16
          go_wp2_with fail
          refine hK.out _ _ hb16 (fun hHeld2 => ?_)
          clear hK K hHeld; have hHeld := hHeld2; clear hHeld2
          try go_frame
          clear d16 lov
          obtain ⟨UX, hUX⟩ : ∃ U, U = u16.setCells X 0 [.slice b3 k3 c3, .map (some mc)] := ⟨_, rfl⟩
          refine ts 8 (fun K hK => ?_)
          refine want_yes (by rfl) (wp_store_mid 82 _ _ rfl X 0 #[.slice b3 k3 c3, .map (some mc)] rfl rfl zX.there (by kernel_rfl) (by simp [Value.oneCell']) ?_)
          have kUX : Kept (fun b => b ≠ X) u16 UX := by rw [hUX]; exact kept_setCells (fun h => h rfl)
          have bUX : Below W2.heap.size W2 UX := by rw [hUX]; exact below_setCells hb16 hX1
          have zX : BoxL UX X [.slice b3 k3 c3, .map (some mc)] := by rw [hUX]; exact box_over8 zX rfl
          have zY := zY.kept kUX (fun e => xy e.symm)
          have nc := nc.kept kUX (fun e => xc e.symm)
          have nv := nv.kept kUX (fun e => xv e.symm)
          have eUX : UX = u16.setCells X 0 (#[.slice b3 k3 c3, .map (some mc)] : Array Value).toList := by rw [hUX]
          rw [← eUX]
          refine hK.out undef _ bUX (fun hHeld2 => ?_)
          clear hK K hHeld; have hHeld := hHeld2; clear hHeld2
          try go_frame
          clear hUX eUX kUX
          obtain ⟨UY, hUY⟩ : ∃ U, U = UX.setCells Y 0 [.slice b2 k2 c2, .map (some mv)] := ⟨_, rfl⟩
          refine ts 9 (fun K hK => ?_)
          refine want_yes (by rfl) (wp_store_mid 86 _ _ rfl Y 0 #[.slice b2 k2 c2, .map (some mv)] rfl rfl zY.there (by kernel_rfl) (by simp [Value.oneCell']) ?_)
          have kUY : Kept (fun b => b ≠ Y) UX UY := by rw [hUY]; exact kept_setCells (fun h => h rfl)
          have bUY : Below W2.heap.size W2 UY := by rw [hUY]; exact below_setCells bUX hY1
          have zY : BoxL UY Y [.slice b2 k2 c2, .map (some mv)] := by rw [hUY]; exact box_over8 zY rfl
          have zX := zX.kept kUY (fun e => xy e)
          have nc := nc.kept kUY (fun e => yc e.symm)
          have nv := nv.kept kUY (fun e => yv e.symm)
          have eUY : UY = UX.setCells Y 0 (#[.slice b2 k2 c2, .map (some mv)] : Array Value).toList := by rw [hUY]
          rw [← eUY]
          refine hK.out undef _ bUY (fun hHeld2 => ?_)
          clear hK K hHeld; have hHeld := hHeld2; clear hHeld2
          try go_frame
          clear hUY eUY kUY
          refine tz ?_
          have HG : Hid (DnA W2 b2 k2 c2 b3 k3 c3 x X Y mc mv UY) := ⟨nc, nv, zX, zY, xy, xc, xv, yc, yv, bUY, hX1, hY1, lbc, lbv⟩
          clear zX zY nc nv xy xc xv yc yv bUX bUY hX1 hY1 lbc lbv hHeld
          go_wp2_with fail
          go_meet
          exact ⟨X, Y, mc, mv, rfl, rfl, HG⟩
    ·
      go_simp
      obtain ⟨u17, hu17⟩ : ∃ u17, u17 = wd.alloc (.cells #[.slice none 0 0, .map none] 82) := ⟨_, rfl⟩
      have d17 : Below wd.heap.size wd u17 := by rw [hu17]; exact (Below.refl _ _).alloc (Nat.le_refl _) _
      have hb17 : Below W2.heap.size W2 u17 := on2 hb0 d17
      have z0X : BoxL u17 wd.heap.size [.slice none 0 0, .map none] := by rw [hu17]; exact BoxL.new wd 82 [.slice none 0 0, .map none]
      have hX1 : W2.heap.size ≤ wd.heap.size := hb0.size
      refine hK.out _ _ (hu17 ▸ hb17) (fun hHeld2 => ?_)
      rw [← hu17] at hHeld2 ⊢
      clear hK K hHeld; have hHeld := hHeld2; clear hHeld2
      try go_frame
      clear hu17 d17
      generalize wd.heap.size = X at z0X hX1  ⊢
      have zX := z0X
      clear z0X
      refine tb 2 7 (fun K hK => ?_) (fun K hK => ?_)
      ·
        have hC := tabClaim_calls b3 k3 c3 _ (sCs x) u17 (hSc.out u17 hb17)
        go_simp
        refine hC.mono ?_
        rintro e u18 ⟨mc, rfl, nc, loc, d18⟩
        clear hC
        have hb18 : Below W2.heap.size W2 u18 := on2 hb17 d18
        have lbc : W2.heap.size ≤ mc := Nat.le_trans hb17.size loc
        have xc : X ≠ mc := by have := zX.1; omega
        have zX := zX.on d18
        go_wp2_with fail
        refine hK.out _ _ hb18 (fun hHeld2 => ?_)
        clear hK K hHeld; have hHeld := hHeld2; clear hHeld2
        try go_frame
        clear d18 loc
        refine tb 5 7 (fun K hK => ?_) (fun K hK => ?_)
        ·
          have hC := tabVolume_calls b2 k2 c2 _ (sVs x) u18 (hSv.out u18 hb18)
          go_simp
          refine hC.mono ?_
          rintro e u19 ⟨mv, rfl, nv, lov, d19⟩
          clear hC
          have hb19 : Below W2.heap.size W2 u19 := on2 hb18 d19
          have lbv : W2.heap.size ≤ mv := Nat.le_trans hb18.size lov
          have xv : X ≠ mv := by have := zX.1; omega
          have zX := zX.on d19
          have nc := nc.on d19
          go_wp2_with fail
          refine hK.out _ _ hb19 (fun hHeld2 => ?_)
          clear hK K hHeld; have hHeld := hHeld2; clear hHeld2
          try go_frame
          clear d19 lov
          refine tr 7 (fun K hK => ?_)
          go_simp
          obtain ⟨u20, hu20⟩ : ∃ u20, u20 = u19.alloc (.cells #[.slice none 0 0, .map none] 86) := ⟨_, rfl⟩
          have d20 : Below u19.heap.size u19 u20 := by rw [hu20]; exact (Below.refl _ _).alloc (Nat.le_refl _) _
          have hb20 : Below W2.heap.size W2 u20 := on2 hb19 d20
          have z0Y : BoxL u20 u19.heap.size [.slice none 0 0, .map none] := by rw [hu20]; exact BoxL.new u19 86 [.slice none 0 0, .map none]
          have yc : u19.heap.size ≠ mc := by have := nc.lt; omega
          have yv : u19.heap.size ≠ mv := by have := nv.lt; omega
          have xy : X ≠ u19.heap.size := by have := zX.1; omega
          have hY1 : W2.heap.size ≤ u19.heap.size := hb19.size
          have nc := nc.on d20
          have nv := nv.on d20
          have zX := zX.on d20
          refine hK.out _ _ (hu20 ▸ hb20) (fun hHeld2 => ?_)
          rw [← hu20] at hHeld2 ⊢
          clear hK K hHeld; have hHeld := hHeld2; clear hHeld2
          try go_frame
          clear hu20 d20
          generalize u19.heap.size = Y at z0Y hY1 yc yv xy ⊢
          have zY := z0Y
          clear z0Y
          obtain ⟨UX, hUX⟩ : ∃ U, U = u20.setCells X 0 [.slice b3 k3 c3, .map (some mc)] := ⟨_, rfl⟩
          refine ts 8 (fun K hK => ?_)
          refine want_yes (by rfl) (wp_store_mid 82 _ _ rfl X 0 #[.slice b3 k3 c3, .map (some mc)] rfl rfl zX.there (by kernel_rfl) (by simp [Value.oneCell']) ?_)
          have kUX : Kept (fun b => b ≠ X) u20 UX := by rw [hUX]; exact kept_setCells (fun h => h rfl)
          have bUX : Below W2.heap.size W2 UX := by rw [hUX]; exact below_setCells hb20 hX1
          have zX : BoxL UX X [.slice b3 k3 c3, .map (some mc)] := by rw [hUX]; exact box_over8 zX rfl
          have zY := zY.kept kUX (fun e => xy e.symm)
          have nc := nc.kept kUX (fun e => xc e.symm)
          have nv := nv.kept kUX (fun e => xv e.symm)
          have eUX : UX = u20.setCells X 0 (#[.slice b3 k3 c3, .map (some mc)] : Array Value).toList := by rw [hUX]
          rw [← eUX]
          refine hK.out undef _ bUX (fun hHeld2 => ?_)
          clear hK K hHeld; have hHeld := hHeld2; clear hHeld2
          try go_frame
          clear hUX eUX kUX
          obtain ⟨UY, hUY⟩ : ∃ U, U = UX.setCells Y 0 [.slice b2 k2 c2, .map (some mv)] := ⟨_, rfl⟩
          refine ts 9 (fun K hK => ?_)
          refine want_yes (by rfl) (wp_store_mid 86 _ _ rfl Y 0 #[.slice b2 k2 c2, .map (some mv)] rfl rfl zY.there (by kernel_rfl) (by simp [Value.oneCell']) ?_)
          have kUY : Kept (fun b => b ≠ Y) UX UY := by rw [hUY]; exact kept_setCells (fun h => h rfl)
          have bUY : Below W2.heap.size W2 UY := by rw [hUY]; exact below_setCells bUX hY1
          have zY : BoxL UY Y [.slice b2 k2 c2, .map (some mv)] := by rw [hUY]; exact box_over8 zY rfl
          have zX := zX.kept kUY (fun e => xy e)
          have nc := nc.kept kUY (fun e => yc e.symm)
          have nv := nv.kept kUY (fun e => yv e.symm)
          have eUY : UY = UX.setCells Y 0 (#[.slice b2 k2 c2, .map (some mv)] : Array Value).toList := by rw [hUY]
          rw [← eUY]
          refine hK.out undef _ bUY (fun hHeld2 => ?_)
          clear hK K hHeld; have hHeld := hHeld2; clear hHeld2
          try go_frame
          clear hUY eUY kUY
          refine tz ?_
          have HG : Hid (DnA W2 b2 k2 c2 b3 k3 c3 x X Y mc mv UY) := ⟨nc, nv, zX, zY, xy, xc, xv, yc, yv, bUY, hX1, hY1, lbc, lbv⟩
          clear zX zY nc nv xy xc xv yc yv bUX bUY hX1 hY1 lbc lbv hHeld
          go_wp2_with fail
          go_meet
          exact ⟨X, Y, mc, mv, rfl, rfl, HG⟩
        ·
          go_simp
          obtain ⟨u21, hu21⟩ : ∃ u21, u21 = u18.alloc (.cells #[.slice none 0 0, .map none] 86) := ⟨_, rfl⟩
          have d21 : Below u18.heap.size u18 u21 := by rw [hu21]; exact (Below.refl _ _).alloc (Nat.le_refl _) _
          have hb21 : Below W2.heap.size W2 u21 := on2 hb18 d21
          have z0Y : BoxL u21 u18.heap.size [.slice none 0 0, .map none] := by rw [hu21]; exact BoxL.new u18 86 [.slice none 0 0, .map none]
          have yc : u18.heap.size ≠ mc := by have := nc.lt; omega
          have xy : X ≠ u18.heap.size := by have := zX.1; omega
          have hY1 : W2.heap.size ≤ u18.heap.size := hb18.size
          have nc := nc.on d21
          have zX := zX.on d21
          refine hK.out _ _ (hu21 ▸ hb21) (fun hHeld2 => ?_)
          rw [← hu21] at hHeld2 ⊢
          clear hK K hHeld; have hHeld := hHeld2; clear hHeld2
          try go_frame
          clear hu21 d21
          generalize u18.heap.size = Y at z0Y hY1 yc xy ⊢
          have zY := z0Y
          clear z0Y
          refine tr 5 (fun K hK => ?_)
          have hC := tabVolume_calls b2 k2 c2 _ (sVs x) u21 (hSv.out u21 hb21)
          go_simp
          refine hC.mono ?_
          rintro e u22 ⟨mv, rfl, nv, lov, d22⟩
          clear hC
          have hb22 : Below W2.heap.size W2 u22 := on2 hb21 d22
          have lbv : W2.heap.size ≤ mv := Nat.le_trans hb21.size lov
          have xv : X ≠ mv := by have := zX.1; omega
          have zX := zX.on d22
          have yv : Y ≠ mv := by have := zY.1; omega
          have zY := zY.on d22
          have nc := nc.on d22
          go_wp2_with fail
          refine hK.out _ _ hb22 (fun hHeld2 => ?_)
          clear hK K hHeld; have hHeld := hHeld2; clear hHeld2
          try go_frame
          clear d22 lov
          obtain ⟨UX, hUX⟩ : ∃ U, U = u22.setCells X 0 [.slice b3 k3 c3, .map (some mc)] := ⟨_, rfl⟩
          refine ts 8 (fun K hK => ?_)
          refine want_yes (by rfl) (wp_store_mid 82 _ _ rfl X 0 #[.slice b3 k3 c3, .map (some mc)] rfl rfl zX.there (by kernel_rfl) (by simp [Value.oneCell']) ?_)
          have kUX : Kept (fun b => b ≠ X) u22 UX := by rw [hUX]; exact kept_setCells (fun h => h rfl)
          have bUX : Below W2.heap.size W2 UX := by rw [hUX]; exact below_setCells hb22 hX1
          have zX : BoxL UX X [.slice b3 k3 c3, .map (some mc)] := by rw [hUX]; exact box_over8 zX rfl
          have zY := zY.kept kUX (fun e => xy e.symm)
          have nc := nc.kept kUX (fun e => xc e.symm)
          have nv := nv.kept kUX (fun e => xv e.symm)
          have eUX : UX = u22.setCells X 0 (#[.slice b3 k3 c3, .map (some mc)] : Array Value).toList := by rw [hUX]
          rw [← eUX]
          refine hK.out undef _ bUX (fun hHeld2 => ?_)
          clear hK K hHeld; have hHeld := hHeld2; clear hHeld2
          try go_frame
          clear hUX eUX kUX
          obtain ⟨UY, hUY⟩ : ∃ U, U = UX.setCells Y 0 [.slice b2 k2 c2, .map (some mv)] := ⟨_, rfl⟩
          refine ts 9 (fun K hK => ?_)
          refine want_yes (by rfl) (wp_store_mid 86 _ _ rfl Y 0 #[.slice b2 k2 c2, .map (some mv)] rfl rfl zY.there (by kernel_rfl) (by simp [Value.oneCell']) ?_)
          have kUY : Kept (fun b => b ≠ Y) UX UY := by rw [hUY]; exact kept_setCells (fun h => h rfl)
          have bUY : Below W2.heap.size W2 UY := by rw [hUY]; exact below_setCells bUX hY1
          have zY : BoxL UY Y [.slice b2 k2 c2, .map (some mv)] := by rw [hUY]; exact box_over8 zY rfl
          have zX := zX.kept kUY (fun e => xy e)
          have nc := nc.kept kUY (fun e => yc e.symm)
          have nv := nv.kept kUY (fun e => yv e.symm)
          have eUY : UY = UX.setCells Y 0 (#[.slice b2 k2 c2, .map (some mv)] : Array Value).toList := by rw [hUY]
          rw [← eUY]
          refine hK.out undef _ bUY (fun hHeld2 => ?_)
          clear hK K hHeld; have hHeld := hHeld2; clear hHeld2
          try go_frame
          clear hUY eUY kUY
          refine tz ?_
          have HG : Hid (DnA W2 b2 k2 c2 b3 k3 c3 x X Y mc mv UY) := ⟨nc, nv, zX, zY, xy, xc, xv, yc, yv, bUY, hX1, hY1, lbc, lbv⟩
          clear zX zY nc nv xy xc xv yc yv bUX bUY hX1 hY1 lbc lbv hHeld
          go_wp2_with fail
          go_meet
          exact ⟨X, Y, mc, mv, rfl, rfl, HG⟩
      ·
        go_simp
        obtain ⟨u23, hu23⟩ : ∃ u23, u23 = u17.alloc (.cells #[.slice none 0 0, .map none] 86) := ⟨_, rfl⟩
        have d23 : Below u17.heap.size u17 u23 := by rw [hu23]; exact (Below.refl _ _).alloc (Nat.le_refl _) _
        have hb23 : Below W2.heap.size W2 u23 := on2 hb17 d23
        have z0Y : BoxL u23 u17.heap.size [.slice none 0 0, .map none] := by rw [hu23]; exact BoxL.new u17 86 [.slice none 0 0, .map none]
        have xy : X ≠ u17.heap.size := by have := zX.1; omega
        have hY1 : W2.heap.size ≤ u17.heap.size := hb17.size
        have zX := zX.on d23
        refine hK.out _ _ (hu23 ▸ hb23) (fun hHeld2 => ?_)
        rw [← hu23] at hHeld2 ⊢
        clear hK K hHeld; have hHeld := hHeld2; clear hHeld2
        try go_frame
        clear hu23 d23
        generalize u17.heap.size = Y at z0Y hY1 xy ⊢
        have zY := z0Y
        clear z0Y
        refine tr 2 (fun K hK => ?_)
        have hC := tabClaim_calls b3 k3 c3 _ (sCs x) u23 (hSc.out u23 hb23)
        go_simp
        refine hC.mono ?_
        rintro e u24 ⟨mc, rfl, nc, loc, d24⟩
        clear hC
        have hb24 : Below W2.heap.size W2 u24 := on2 hb23 d24
        have lbc : W2.heap.size ≤ mc := Nat.le_trans hb23.size loc
        have xc : X ≠ mc := by have := zX.1; omega
        have zX := zX.on d24
        have yc : Y ≠ mc := by have := zY.1; omega
        have zY := zY.on d24
        go_wp2_with fail
        refine hK.out _ _ hb24 (fun hHeld2 => ?_)
        clear hK K hHeld; have hHeld := hHeld2; clear hHeld2
        try go_frame
        clear d24 loc
        refine tr 5 (fun K hK => ?_)
        have hC := tabVolume_calls b2 k2 c2 _ (sVs x) u24 (hSv.out u24 hb24)
        go_simp
        refine hC.mono ?_
        rintro e u25 ⟨mv, rfl, nv, lov, d25⟩
        clear hC
        have hb25 : Below W2.heap.size W2 u25 := on2 hb24 d25
        have lbv : W2.heap.size ≤ mv := Nat.le_trans hb24.size lov
        have xv : X ≠ mv := by have := zX.1; omega
        have zX := zX.on d25
        have yv : Y ≠ mv := by have := zY.1; omega
        have zY := zY.on d25
        have nc := nc.on d25
        go_wp2_with fail
        refine hK.out _ _ hb25 (fun hHeld2 => ?_)
        clear hK K hHeld; have hHeld := hHeld2; clear hHeld2
        try go_frame
        clear d25 lov
        obtain ⟨UX, hUX⟩ : ∃ U, U = u25.setCells X 0 [.slice b3 k3 c3, .map (some mc)] := ⟨_, rfl⟩
        refine ts 8 (fun K hK => ?_)
        refine want_yes (by rfl) (wp_store_mid 82 _ _ rfl X 0 #[.slice b3 k3 c3, .map (some mc)] rfl rfl zX.there (by kernel_rfl) (by simp [Value.oneCell']) ?_)
        have kUX : Kept (fun b => b ≠ X) u25 UX := by rw [hUX]; exact kept_setCells (fun h => h rfl)
        have bUX : Below W2.heap.size W2 UX := by rw [hUX]; exact below_setCells hb25 hX1
        have zX : BoxL UX X [.slice b3 k3 c3, .map (some mc)] := by rw [hUX]; exact box_over8 zX rfl
        have zY := zY.kept kUX (fun e => xy e.symm)
        have nc := nc.kept kUX (fun e => xc e.symm)
        have nv := nv.kept kUX (fun e => xv e.symm)
        have eUX : UX = u25.setCells X 0 (#[.slice b3 k3 c3, .map (some mc)] : Array Value).toList := by rw [hUX]
        rw [← eUX]
        refine hK.out undef _ bUX (fun hHeld2 => ?_)
        clear hK K hHeld; have hHeld := hHeld2; clear hHeld2
        try go_frame
        clear hUX eUX kUX
        obtain ⟨UY, hUY⟩ : ∃ U, U = UX.setCells Y 0 [.slice b2 k2 c2, .map (some mv)] := ⟨_, rfl⟩
        refine ts 9 (fun K hK => ?_)
        refine want_yes (by rfl) (wp_store_mid 86 _ _ rfl Y 0 #[.slice b2 k2 c2, .map (some mv)] rfl rfl zY.there (by kernel_rfl) (by simp [Value.oneCell']) ?_)
        have kUY : Kept (fun b => b ≠ Y) UX UY := by rw [hUY]; exact kept_setCells (fun h => h rfl)
        have bUY : Below W2.heap.size W2 UY := by rw [hUY]; exact below_setCells bUX hY1
        have zY : BoxL UY Y [.slice b2 k2 c2, .map (some mv)] := by rw [hUY]; exact box_over8 zY rfl
        have zX := zX.kept kUY (fun e => xy e)
        have nc := nc.kept kUY (fun e => yc e.symm)
        have nv := nv.kept kUY (fun e => yv e.symm)
        have eUY : UY = UX.setCells Y 0 (#[.slice b2 k2 c2, .map (some mv)] : Array Value).toList := by rw [hUY]
        rw [← eUY]
        refine hK.out undef _ bUY (fun hHeld2 => ?_)
        clear hK K hHeld; have hHeld := hHeld2; clear hHeld2
        try go_frame
        clear hUY eUY kUY
        refine tz ?_
        have HG : Hid (DnA W2 b2 k2 c2 b3 k3 c3 x X Y mc mv UY) := ⟨nc, nv, zX, zY, xy, xc, xv, yc, yv, bUY, hX1, hY1, lbc, lbv⟩
        clear zX zY nc nv xy xc xv yc yv bUX bUY hX1 hY1 lbc lbv hHeld
        go_wp2_with fail
        go_meet
        exact ⟨X, Y, mc, mv, rfl, rfl, HG⟩
    ·
      go_simp
      obtain ⟨u26, hu26⟩ : ∃ u26, u26 = wd.alloc (.cells #[.slice none 0 0, .map none] 86) := ⟨_, rfl⟩
      have d26 : Below wd.heap.size wd u26 := by rw [hu26]; exact (Below.refl _ _).alloc (Nat.le_refl _) _
      have hb26 : Below W2.heap.size W2 u26 := on2 hb0 d26
      have z0Y : BoxL u26 wd.heap.size [.slice none 0 0, .map none] := by rw [hu26]; exact BoxL.new wd 86 [.slice none 0 0, .map none]
      have hY1 : W2.heap.size ≤ wd.heap.size := hb0.size
      refine hK.out _ _ (hu26 ▸ hb26) (fun hHeld2 => ?_)
      rw [← hu26] at hHeld2 ⊢
      clear hK K hHeld; have hHeld := hHeld2; clear hHeld2
      try go_frame
      clear hu26 d26
      generalize wd.heap.size = Y at z0Y hY1  ⊢
      have zY := z0Y
      clear z0Y
      refine tb 2 6 (fun K hK => ?_) (fun K hK => ?_)
      ·
        have hC := tabClaim_calls b3 k3 c3 _ (sCs x) u26 (hSc.out u26 hb26)
        go_simp
        refine hC.mono ?_
        rintro e u27 ⟨mc, rfl, nc, loc, d27⟩
        clear hC
        have hb27 : Below W2.heap.size W2 u27 := on2 hb26 d27
        have lbc : W2.heap.size ≤ mc := Nat.le_trans hb26.size loc
        have yc : Y ≠ mc := by have := zY.1; omega
        have zY := zY.on d27
        go_wp2_with fail
        refine hK.out _ _ hb27 (fun hHeld2 => ?_)
        clear hK K hHeld; have hHeld := hHeld2; clear hHeld2
        try go_frame
        clear d27 loc
        refine tb 5 6 (fun K hK => ?_) (fun K hK => ?_)
        ·
          have hC := tabVolume_calls b2 k2 c2 _ (sVs x) u27 (hSv.out u27 hb27)
          go_simp
          refine hC.mono ?_
          rintro e u28 ⟨mv, rfl, nv, lov, d28⟩
          clear hC
          have hb28 : Below W2.heap.size W2 u28 := on2 hb27 d28
          have lbv : W2.heap.size ≤ mv := Nat.le_trans hb27.size lov
          have yv : Y ≠ mv := by have := zY.1; omega
          have zY := zY.on d28
          have nc := nc.on d28
          go_wp2_with fail
          refine hK.out _ _ hb28 (fun hHeld2 => ?_)
          clear hK K hHeld; have hHeld := hHeld2; clear hHeld2
          try go_frame
          clear d28 lov
          refine tr 6 (fun K hK => ?_)
          go_simp
          obtain ⟨u29, hu29⟩ : ∃ u29, u29 = u28.alloc (.cells #[.slice none 0 0, .map none] 82) := ⟨_, rfl⟩
          have d29 : Below u28.heap.size u28 u29 := by rw [hu29]; exact (Below.refl _ _).alloc (Nat.le_refl _) _
          have hb29 : Below W2.heap.size W2 u29 := on2 hb28 d29
          have z0X : BoxL u29 u28.heap.size [.slice none 0 0, .map none] := by rw [hu29]; exact BoxL.new u28 82 [.slice none 0 0, .map none]
          have xc : u28.heap.size ≠ mc := by have := nc.lt; omega
          have xv : u28.heap.size ≠ mv := by have := nv.lt; omega
          have xy : u28.heap.size ≠ Y := by have := zY.1; omega
          have hX1 : W2.heap.size ≤ u28.heap.size := hb28.size
          have nc := nc.on d29
          have nv := nv.on d29
          have zY := zY.on d29
          refine hK.out _ _ (hu29 ▸ hb29) (fun hHeld2 => ?_)
          rw [← hu29] at hHeld2 ⊢
          clear hK K hHeld; have hHeld := hHeld2; clear hHeld2
          try go_frame
          clear hu29 d29
          generalize u28.heap.size = X at z0X hX1 xc xv xy ⊢
          have zX := z0X
          clear z0X
          obtain ⟨UX, hUX⟩ : ∃ U, U = u29.setCells X 0 [.slice b3 k3 c3, .map (some mc)] := ⟨_, rfl⟩
          refine ts 8 (fun K hK => ?_)
          refine want_yes (by rfl) (wp_store_mid 82 _ _ rfl X 0 #[.slice b3 k3 c3, .map (some mc)] rfl rfl zX.there (by kernel_rfl) (by simp [Value.oneCell']) ?_)
          have kUX : Kept (fun b => b ≠ X) u29 UX := by rw [hUX]; exact kept_setCells (fun h => h rfl)
          have bUX : Below W2.heap.size W2 UX := by rw [hUX]; exact below_setCells hb29 hX1
          have zX : BoxL UX X [.slice b3 k3 c3, .map (some mc)] := by rw [hUX]; exact box_over8 zX rfl
          have zY := zY.kept kUX (fun e => xy e.symm)
          have nc := nc.kept kUX (fun e => xc e.symm)
          have nv := nv.kept kUX (fun e => xv e.symm)
          have eUX : UX = u29.setCells X 0 (#[.slice b3 k3 c3, .map (some mc)] : Array Value).toList := by rw [hUX]
          rw [← eUX]
          refine hK.out undef _ bUX (fun hHeld2 => ?_)
          clear hK K hHeld; have hHeld := hHeld2; clear hHeld2
          try go_frame
          clear hUX eUX kUX
          obtain ⟨UY, hUY⟩ : ∃ U, U = UX.setCells Y 0 [.slice b2 k2 c2, .map (some mv)] := ⟨_, rfl⟩
          refine ts 9 (fun K hK => ?_)
          refine want_yes (by rfl) (wp_store_mid 86 _ _ rfl Y 0 #[.slice b2 k2 c2, .map (some mv)] rfl rfl zY.there (by kernel_rfl) (by simp [Value.oneCell']) ?_)
          have kUY : Kept (fun b => b ≠ Y) UX UY := by rw [hUY]; exact kept_setCells (fun h => h rfl)
          have bUY : Below W2.heap.size W2 UY := by rw [hUY]; exact below_setCells bUX hY1
          have zY : BoxL UY Y [.slice b2 k2 c2, .map (some mv)] := by rw [hUY]; exact box_over8 zY rfl
          have zX := zX.kept kUY (fun e => xy e)
          have nc := nc.kept kUY (fun e => yc e.symm)
          have nv := nv.kept kUY (fun e => yv e.symm)
          have eUY : UY = UX.setCells Y 0 (#[.slice b2 k2 c2, .map (some mv)] : Array Value).toList := by rw [hUY]
          rw [← eUY]
          refine hK.out undef _ bUY (fun hHeld2 => ?_)
          clear hK K hHeld; have hHeld := hHeld2; clear hHeld2
          try go_frame
          clear hUY eUY kUY
          refine tz ?_
          have HG : Hid (DnA W2 b2 k2 c2 b3 k3 c3 x X Y mc mv UY) := ⟨nc, nv, zX, zY, xy, xc, xv, yc, yv, bUY, hX1, hY1, lbc, lbv⟩
          clear zX zY nc nv xy xc xv yc yv bUX bUY hX1 hY1 lbc lbv hHeld
          go_wp2_with fail
          go_meet
          exact ⟨X, Y, mc, mv, rfl, rfl, HG⟩
        ·
          go_simp
          obtain ⟨u30, hu30⟩ : ∃ u30, u30 = u27.alloc (.cells #[.slice none 0 0, .map none] 82) := ⟨_, rfl⟩
          have d30 : Below u27.heap.size u27 u30 := by rw [hu30]; exact (Below.refl _ _).alloc (Nat.le_refl _) _
          have hb30 : Below W2.heap.size W2 u30 := on2 hb27 d30
          have z0X : BoxL u30 u27.heap.size [.slice none 0 0, .map none] := by rw [hu30]; exact BoxL.new u27 82 [.slice none 0 0, .map none]
          have xc : u27.heap.size ≠ mc := by have := nc.lt; omega
          have xy : u27.heap.size ≠ Y := by have := zY.1; omega
          have hX1 : W2.heap.size ≤ u27.heap.size := hb27.size
          have nc := nc.on d30
          have zY := zY.on d30
          refine hK.out _ _ (hu30 ▸ hb30) (fun hHeld2 => ?_)
          rw [← hu30] at hHeld2 ⊢
          clear hK K hHeld; have hHeld := hHeld2; clear hHeld2
          try go_frame
          clear hu30 d30
          generalize u27.heap.size = X at z0X hX1 xc xy ⊢
          have zX := z0X
          clear z0X
          refine tr 5 (fun K hK => ?_)
          have hC := tabVolume_calls b2 k2 c2 _ (sVs x) u30 (hSv.out u30 hb30)
          go_simp
          refine hC.mono ?_
          rintro e u31 ⟨mv, rfl, nv, lov, d31⟩
          clear hC
          have hb31 : Below W2.heap.size W2 u31 := on2 hb30 d31
          have lbv : W2.heap.size ≤ mv := Nat.le_trans hb30.size lov
          have yv : Y ≠ mv := by have := zY.1; omega
          have zY := zY.on d31
          have xv : X ≠ mv := by have := zX.1; omega
          have zX := zX.on d31
          have nc := nc.on d31
          go_wp2_with fail
          refine hK.out _ _ hb31 (fun hHeld2 => ?_)
          clear hK K hHeld; have hHeld := hHeld2; clear hHeld2
          try go_frame
          clear d31 lov
          obtain ⟨UX, hUX⟩ : ∃ U, U = u31.setCells X 0 [.slice b3 k3 c3, .map (some mc)] := ⟨_, rfl⟩
          refine ts 8 (fun K hK => ?_)
          refine want_yes (by rfl) (wp_store_mid 82 _ _ rfl X 0 #[.slice b3 k3 c3, .map (some mc)] rfl rfl zX.there (by kernel_rfl) (by simp [Value.oneCell']) ?_)
          have kUX : Kept (fun b => b ≠ X) u31 UX := by rw [hUX]; exact kept_setCells (fun h => h rfl)
          have bUX : Below W2.heap.size W2 UX := by rw [hUX]; exact below_setCells hb31 hX1
          have zX : BoxL UX X [.slice b3 k3 c3, .map (some mc)] := by rw [hUX]; exact box_over8 zX rfl
          have zY := zY.kept kUX (fun e => xy e.symm)
          have nc := nc.kept kUX (fun e => xc e.symm)
          have nv := nv.kept kUX (fun e => xv e.symm)
          have eUX : UX = u31.setCells X 0 (#[.slice b3 k3 c3, .map (some mc)] : Array Value).toList := by rw [hUX]
          rw [← eUX]
          refine hK.out undef _ bUX (fun hHeld2 => ?_)
          clear hK K hHeld; have hHeld := hHeld2; clear hHeld2
          try go_frame
          clear hUX eUX kUX
          obtain ⟨UY, hUY⟩ : ∃ U, U = UX.setCells Y 0 [.slice b2 k2 c2, .map (some mv)] := ⟨_, rfl⟩
          refine ts 9 (fun K hK => ?_)
          refine want_yes (by rfl) (wp_store_mid 86 _ _ rfl Y 0 #[.slice b2 k2 c2, .map (some mv)] rfl rfl zY.there (by kernel_rfl) (by simp [Value.oneCell']) ?_)
          have kUY : Kept (fun b => b ≠ Y) UX UY := by rw [hUY]; exact kept_setCells (fun h => h rfl)
          have bUY : Below W2.heap.size W2 UY := by rw [hUY]; exact below_setCells bUX hY1
          have zY : BoxL UY Y [.slice b2 k2 c2, .map (some mv)] := by rw [hUY]; exact box_over8 zY rfl
          have zX := zX.kept kUY (fun e => xy e)
          have nc := nc.kept kUY (fun e => yc e.symm)
          have nv := nv.kept kUY (fun e => yv e.symm)
          have eUY : UY = UX.setCells Y 0 (#[.slice b2 k2 c2, .map (some mv)] : Array Value).toList := by rw [hUY]
          rw [← eUY]
          refine hK.out undef _ bUY (fun hHeld2 => ?_)
          clear hK K hHeld; have hHeld := hHeld2; clear hHeld2
          try go_frame
          clear hUY eUY kUY
          refine tz ?_
          have HG : Hid (DnA W2 b2 k2 c2 b3 k3 c3 x X Y mc mv UY) := ⟨nc, nv, zX, zY, xy, xc, xv, yc, yv, bUY, hX1, hY1, lbc, lbv⟩
          clear zX zY nc nv xy xc xv yc yv bUX bUY hX1 hY1 lbc lbv hHeld
          go_wp2_with fail
          go_meet
          exact ⟨X, Y, mc, mv, rfl, rfl, HG⟩
      ·
        go_simp
        obtain ⟨u32, hu32⟩ : ∃ u32, u32 = u26.alloc (.cells #[.slice none 0 0, .map none] 82) := ⟨_, rfl⟩
        have d32 : Below u26.heap.size u26 u32 := by rw [hu32]; exact (Below.refl _ _).alloc (Nat.le_refl _) _
        have hb32 : Below W2.heap.size W2 u32 := on2 hb26 d32
        have z0X : BoxL u32 u26.heap.size [.slice none 0 0, .map none] := by rw [hu32]; exact BoxL.new u26 82 [.slice none 0 0, .map none]
        have xy : u26.heap.size ≠ Y := by have := zY.1; omega
        have hX1 : W2.heap.size ≤ u26.heap.size := hb26.size
        have zY := zY.on d32
        refine hK.out _ _ (hu32 ▸ hb32) (fun hHeld2 => ?_)
        rw [← hu32] at hHeld2 ⊢
        clear hK K hHeld; have hHeld := hHeld2; clear hHeld2
        try go_frame
        clear hu32 d32
        generalize u26.heap.size = X at z0X hX1 xy ⊢
        have zX := z0X
        clear z0X
        refine tr 2 (fun K hK => ?_)
        have hC := tabClaim_calls b3 k3 c3 _ (sCs x) u32 (hSc.out u32 hb32)
        go_simp
        refine hC.mono ?_
        rintro e u33 ⟨mc, rfl, nc, loc, d33⟩
        clear hC
        have hb33 : Below W2.heap.size W2 u33 := on2 hb32 d33
        have lbc : W2.heap.size ≤ mc := Nat.le_trans hb32.size loc
        have yc : Y ≠ mc := by have := zY.1; omega
        have zY := zY.on d33
        have xc : X ≠ mc := by have := zX.1; omega
        have zX := zX.on d33
        go_wp2_with fail
        refine hK.out _ _ hb33 (fun hHeld2 => ?_)
        clear hK K hHeld; have hHeld := hHeld2; clear hHeld2
        try go_frame
        clear d33 loc
        refine tr 5 (fun K hK => ?_)
        have hC := tabVolume_calls b2 k2 c2 _ (sVs x) u33 (hSv.out u33 hb33)
        go_simp
        refine hC.mono ?_
        rintro e u34 ⟨mv, rfl, nv, lov, d34⟩
        clear hC
        have hb34 : Below W2.heap.size W2 u34 := on2 hb33 d34
        have lbv : W2.heap.size ≤ mv := Nat.le_trans hb33.size lov
        have yv : Y ≠ mv := by have := zY.1; omega
        have zY := zY.on d34
        have xv : X ≠ mv := by have := zX.1; omega
        have zX := zX.on d34
        have nc := nc.on d34
        go_wp2_with fail
        refine hK.out _ _ hb34 (fun hHeld2 => ?_)
        clear hK K hHeld; have hHeld := hHeld2; clear hHeld2
        try go_frame
        clear d34 lov
        obtain ⟨UX, hUX⟩ : ∃ U, U = u34.setCells X 0 [.slice b3 k3 c3, .map (some mc)] := ⟨_, rfl⟩
        refine ts 8 (fun K hK => ?_)
        refine want_yes (by rfl) (wp_store_mid 82 _ _ rfl X 0 #[.slice b3 k3 c3, .map (some mc)] rfl rfl zX.there (by kernel_rfl) (by simp [Value.oneCell']) ?_)
        have kUX : Kept (fun b => b ≠ X) u34 UX := by rw [hUX]; exact kept_setCells (fun h => h rfl)
        have bUX : Below W2.heap.size W2 UX := by rw [hUX]; exact below_setCells hb34 hX1
        have zX : BoxL UX X [.slice b3 k3 c3, .map (some mc)] := by rw [hUX]; exact box_over8 zX rfl
        have zY := zY.kept kUX (fun e => xy e.symm)
        have nc := nc.kept kUX (fun e => xc e.symm)
        have nv := nv.kept kUX (fun e => xv e.symm)
        have eUX : UX = u34.setCells X 0 (#[.slice b3 k3 c3, .map (some mc)] : Array Value).toList := by rw [hUX]
        rw [← eUX]
        refine hK.out undef _ bUX (fun hHeld2 => ?_)
        clear hK K hHeld; have hHeld := hHeld2; clear hHeld2
        try go_frame
        clear hUX eUX kUX
        obtain ⟨UY, hUY⟩ : ∃ U, U = UX.setCells Y 0 [.slice b2 k2 c2, .map (some mv)] := ⟨_, rfl⟩
        refine ts 9 (fun K hK => ?_)
        refine want_yes (by rfl) (wp_store_mid 86 _ _ rfl Y 0 #[.slice b2 k2 c2, .map (some mv)] rfl rfl zY.there (by kernel_rfl) (by simp [Value.oneCell']) ?_)
        have kUY : Kept (fun b => b ≠ Y) UX UY := by rw [hUY]; exact kept_setCells (fun h => h rfl)
        have bUY : Below W2.heap.size W2 UY := by rw [hUY]; exact below_setCells bUX hY1
        have zY : BoxL UY Y [.slice b2 k2 c2, .map (some mv)] := by rw [hUY]; exact box_over8 zY rfl
        have zX := zX.kept kUY (fun e => xy e)
        have nc := nc.kept kUY (fun e => yc e.symm)
        have nv := nv.kept kUY (fun e => yv e.symm)
        have eUY : UY = UX.setCells Y 0 (#[.slice b2 k2 c2, .map (some mv)] : Array Value).toList := by rw [hUY]
        rw [← eUY]
        refine hK.out undef _ bUY (fun hHeld2 => ?_)
        clear hK K hHeld; have hHeld := hHeld2; clear hHeld2
        try go_frame
        clear hUY eUY kUY
        refine tz ?_
        have HG : Hid (DnA W2 b2 k2 c2 b3 k3 c3 x X Y mc mv UY) := ⟨nc, nv, zX, zY, xy, xc, xv, yc, yv, bUY, hX1, hY1, lbc, lbv⟩
        clear zX zY nc nv xy xc xv yc yv bUX bUY hX1 hY1 lbc lbv hHeld
        go_wp2_with fail
        go_meet
        exact ⟨X, Y, mc, mv, rfl, rfl, HG⟩
  case rest =>
    obtain ⟨X, Y, mc, mv, rfl, rfl, HA⟩ := hcut
    obtain ⟨nc, nv, zX, zY, _, _, _, _, _, bV, hX1, hY1, lbc, lbv⟩ := HA.out
    have HBW : Hid (Below w.heap.size w wc) := on2 HB1.out bV
    have HSV : Hid (∀ z, Below wc.heap.size wc z → SlAt RVolume 5 72 (fun _ => True) z b2 k2 c2 (sVs x)) := fun z hz => hSv.out z (on2 bV hz)
    have HSC : Hid (∀ z, Below wc.heap.size wc z → SlAt RClaim 4 56 (fun _ => True) z b3 k3 c3 (sCs x)) := fun z hz => hSc.out z (on2 bV hz)
    have HMV : Hid (∀ z, Below wc.heap.size wc z → NmAt z mv ((sVs x).map Prod.fst)) := fun z hz => nv.on hz
    have HMC : Hid (∀ z, Below wc.heap.size wc z → NmAt z mc ((sCs x).map Prod.fst)) := fun z hz => nc.on hz
    have HBX : Hid (∀ z, Below wc.heap.size wc z → z.cell? ⟨X, 0, none⟩ = some (.slice b3 k3 c3) ∧ z.cell? ⟨X, 1, none⟩ = some (.map (some mc)) ∧ X < z.heap.size) := fun z hz => ⟨((zX.on hz).2 0 _ rfl).1, ((zX.on hz).2 1 _ rfl).1, (zX.on hz).1⟩
    have HBY : Hid (∀ z, Below wc.heap.size wc z → z.cell? ⟨Y, 0, none⟩ = some (.slice b2 k2 c2) ∧ z.cell? ⟨Y, 1, none⟩ = some (.map (some mv)) ∧ Y < z.heap.size) := fun z hz => ⟨((zY.on hz).2 0 _ rfl).1, ((zY.on hz).2 1 _ rfl).1, (zY.on hz).1⟩
    clear nc nv zX zY bV hX1 hY1 lbc lbv HA hSv hSc HL HB1
    obtain ⟨x0, x1, lx⟩ := HBX.out wc (Below.refl _ _)
    have hC := allClaim_calls b3 k3 c3 _ (sCs x) mc wc (HSC.out wc (Below.refl _ _)) (HMC.out wc (Below.refl _ _)) (by omega)
    --R1
    go_wp2_with fail
    refine hC.mono ?_
    rintro e u2 ⟨v, rfl, hr⟩
    rw [allL_once Prod.fst hN.out.2] at hr
    have d2 : Below wc.heap.size wc u2 := hr.below
    obtain ⟨ra, rc, rfl, sr⟩ := hr.sl (bytes := 56) RClaim.firm (by rw [hlC.out]; omega)
    rw [hlC.out] at sr ⊢
    have HBS : Hid (Below wc.heap.size wc u2) := d2
    have HAC : Hid (∀ z, Below u2.heap.size u2 z → SlAt RClaim 4 56 (fun _ => True) z ra k3 rc (sCs x)) := fun z hz => (sr.weak RClaim.firm (fun _ _ _ => trivial)).on RClaim.firm hz
    clear hC hr sr d2 x0 x1 lx
    --R2
    go_wp2_with fail
    --R3
    go_loopw [5, 21] (fun cn j wr => ∃ k : Nat, k ≤ k3 ∧ j = .int .i64 k ∧ cn = .int .i64 ((((((sCs x).take (k)).filter (badC (stVC x))).length) : Nat) : Int) ∧ Hid (Below u2.heap.size u2 wr)) (fun _ j _ => k3 - (intOf j).toNat)
    case atStart => exact ⟨0, Nat.zero_le _, rfl, by simp, Below.refl _ _⟩
    case round =>
      obtain ⟨k, hk, rfl, rfl, hbw⟩ := hrel
      have hbr : Below u2.heap.size u2 wr := hbw.out
      by_cases hlt : k < k3
      · have hltz : (k : Int) < (k3 : Int) := by omega
        have hkl : k < (sCs x).length := by rw [hlC.out]; exact hlt
        obtain ⟨B, off, hBe, hB, _, ys, hrv, hv⟩ := (HAC.out wr hbr).get hlt
        subst hBe
        obtain ⟨rfl, hz1, hz2, hz3⟩ := hrv.out
        try simp only at hv hrv hz1 hz2 hz3
        have hcs : cVo ((sCs x).getD k default) = cVo ((sCs x).getD k default) := rfl
        have HT : Hid ((((sCs x).take (k + 1)).filter (badC (stVC x))).length = (((sCs x).take k).filter (badC (stVC x))).length + (if badC (stVC x) ((sCs x).getD k default) = true then 1 else 0)) := count_take12 _ _ k hkl
        have hcl := count_le12 (badC (stVC x)) (sCs x) k
        have e0 := hv 0 _ rfl
        have e1 := hv 1 _ rfl
        have e2 := hv 2 _ rfl
        have e3 := hv 3 _ rfl
        rw [Nat.add_zero] at e0
        have HVr : Hid (RClaim (fun _ => True) wr [.string ((sCs x).getD k default).1, .int .i64 ((sCs x).getD k default).2.1, .string ((sCs x).getD k default).2.2.1, .string ((sCs x).getD k default).2.2.2] ((sCs x).getD k default)) := hrv
        have hsf : (((sCs x).getD k default).2.2.2).size ≤ 140737488355328 := hz3
        clear hrv hv hcs
        obtain ⟨cn, hcn⟩ : ∃ c, (((sCs x).take k).filter (badC (stVC x))).length = c := ⟨_, rfl⟩
        rw [hcn] at HT hcl ⊢
        clear hcn
        have HBD : Hid (badC (stVC x) ((sCs x).getD k default) = (!sEq (cVo ((sCs x).getD k default)) B0 && (match fI ((sVs x).map Prod.fst) (cVo ((sCs x).getD k default)) with | none => true | some v => !sEq (vCl ((sVs x).getD v default)) ((sCs x).getD k default).1))) := rfl
        generalize (sCs x).getD k default = y at HVr HT HBD e0 e1 e2 e3 hz1 hz2 hz3 hsf
        obtain ⟨bd, hbd⟩ : ∃ b, badC (stVC x) y = b := ⟨_, rfl⟩
        rw [hbd] at HT HBD
        clear hbd
        obtain ⟨Wb, hWb⟩ : ∃ W, W = wr.alloc (.cells #[.string y.1, .int .i64 y.2.1, .string y.2.2.1, .string y.2.2.2] 44) := ⟨_, rfl⟩
        have bb : Below wr.heap.size wr Wb := by rw [hWb]; exact (Below.refl _ _).alloc (Nat.le_refl _) _
        have qb : BoxL Wb wr.heap.size [.string y.1, .int .i64 y.2.1, .string y.2.2.1, .string y.2.2.2] := by rw [hWb]; exact BoxL.new wr 44 _
        have HWb : Hid (Wb = wr.alloc (.cells #[.string y.1, .int .i64 y.2.1, .string y.2.2.1, .string y.2.2.2] 44)) := hWb
        have bWb : Below u2.heap.size u2 Wb := on2 hbr bb
        clear hWb
        --C1
        go_upto_region 6 with fail
        rw [← HWb.out]
        clear HWb e0 e1 e2 e3
        have yv := (qb.2 3 _ rfl).1
        have hltb := qb.1
        obtain ⟨t0', t1', ltb⟩ := HBY.out Wb (on2 HBS.out bWb)
        have hC := fndVolume_calls b2 k2 c2 _ (sVs x) mv (cVo y) Wb (HSV.out Wb (on2 HBS.out bWb)) (HMV.out Wb (on2 HBS.out bWb)) hsf
        obtain ⟨pp, hpp⟩ : ∃ p, pAt 5 b2 (fI ((sVs x).map Prod.fst) (cVo y)) = p := ⟨_, rfl⟩
        have HPP : Hid (pAt 5 b2 (fI ((sVs x).map Prod.fst) (cVo y)) = pp) := hpp
        rw [hpp] at hC
        clear hpp
        --C2
        go_wp2_with fail
        refine hC.mono ?_
        rintro e u4 ⟨rfl, d4⟩
        have qb4 := qb.on d4
        have b4 : Below u2.heap.size u2 u4 := on2 bWb d4
        have HVr4 : Hid (∀ z, Below u4.heap.size u4 z → RClaim (fun _ => True) z [.string y.1, .int .i64 y.2.1, .string y.2.2.1, .string y.2.2.2] y ∧ BoxL z wr.heap.size [.string y.1, .int .i64 y.2.1, .string y.2.2.1, .string y.2.2.2]) := fun z hz => ⟨RClaim.firm.kept HVr.out (Kept.below (on2 (on2 bb d4) hz)), qb4.on hz⟩
        clear hC yv t0' t1' ltb d4 qb qb4 bb bWb HVr hltb
        --C3
        go_upto_region 7 with fail
        refine t0 (fun z => Below u4.heap.size u4 z) (Below.refl _ _).drew (fun hHeld => ?_)
        have hb0 : Below u4.heap.size u4 u4.drew := (Below.refl _ _).drew
        generalize hwd : u4.drew = wd at hHeld hb0 ⊢
        clear hwd
        try go_frame
        refine' tk 0 ?_ ?_; rotate_left
        · intro u hu; obtain ⟨_, qz⟩ := HVr4.out u hu; have f0 := (qz.2 0 _ rfl).1; have f1 := (qz.2 1 _ rfl).1; have f2 := (qz.2 2 _ rfl).1; have f3 := (qz.2 3 _ rfl).1; clear hu qz; go_simp; try with_reducible rfl
        try go_frame
        have hC := hasVolume_calls [.string y.1, .int .i64 y.2.1, .string y.2.2.1, .string y.2.2.2] _ y wd (HVr4.out wd hb0).1
        refine tr 1 (fun K hK => ?_)
        go_simp
        refine hC.mono ?_
        rintro e u5 ⟨rfl, d5⟩
        clear hC
        have hb5 : Below u4.heap.size u4 u5 := on2 hb0 d5
        go_wp2_with fail
        refine hK.out _ _ hb5 (fun hHeld2 => ?_)
        clear hK K hHeld; have hHeld := hHeld2; clear hHeld2
        try go_frame
        have hb6 : Hid (Below u2.heap.size u2 u5) := on2 b4 hb5
        cases hf : sEq (cVo y) B0 with
        | true =>
          refine' tk 2 ?_ ?_; rotate_left
          · intro u hu; clear hu; go_simp; try with_reducible rfl
          try go_frame
          refine tn 3 ?_
          try go_frame
          refine tn 4 ?_
          try go_frame
          refine tn 5 ?_
          try go_frame
          refine tn 6 ?_
          try go_frame
          refine tn 7 ?_
          try go_frame
          refine tn 8 ?_
          try go_frame
          refine tn 9 ?_
          try go_frame
          refine tn 10 ?_
          try go_frame
          refine tn 11 ?_
          try go_frame
          refine tn 12 ?_
          try go_frame
          refine tn 13 ?_
          try go_frame
          refine' tk 14 ?_ ?_; rotate_left
          · intro u hu; clear hu; go_simp; try with_reducible rfl
          try go_frame
          refine tz ?_
          have hb : bd = false := by rw [HBD.out, hf]; rfl
          subst hb
          have HT' : Hid (((((((sCs x).take (k + 1)).filter (badC (stVC x))).length) : Nat) : Int) = ((cn : Nat) : Int)) := by show _ = _; rw [HT.out]; simp
          clear HT hHeld hb0 d5 hb5 HVr4 HBD HPP b4
          --C4
          go_wp2_with fail
          go_roundw
          case rel => exact ⟨k + 1, by omega, by simp, by rw [HT'.out]; try simp only [Int.natCast_add], hb6⟩
          case measure => simp [intOf]; omega
        | false =>
          cases hfi : fI ((sVs x).map Prod.fst) (cVo y) with
          | none =>
            have hp : pp = none := by rw [← HPP.out, hfi]; cases b2 <;> rfl
            subst hp
            refine' tk 2 ?_ ?_; rotate_left
            · intro u hu; clear hu; go_simp; try with_reducible rfl
            try go_frame
            refine' tk 3 ?_ ?_; rotate_left
            · intro u hu; clear hu; go_simp; try with_reducible rfl
            try go_frame
            refine' tk 4 ?_ ?_; rotate_left
            · intro u hu; clear hu; go_simp; try with_reducible rfl
            try go_frame
            refine' tk 5 ?_ ?_; rotate_left
            · intro u hu; clear hu; go_simp; try with_reducible rfl
            try go_frame
            refine tn 6 ?_
            try go_frame
            refine tn 7 ?_
            try go_frame
            refine tn 8 ?_
            try go_frame
            refine tn 9 ?_
            try go_frame
            refine tn 10 ?_
            try go_frame
            refine tn 11 ?_
            try go_frame
            refine tn 12 ?_
            try go_frame
            refine' tk 13 ?_ ?_; rotate_left
            · intro u hu; clear hu; go_simp; try with_reducible rfl
            try go_frame
            refine' tk 14 ?_ ?_; rotate_left
            · intro u hu; clear hu; go_simp; try with_reducible rfl
            try go_frame
            refine tz ?_
            have hb : bd = true := by rw [HBD.out, hf, hfi]; rfl
            subst hb
            have HT' : Hid (((((((sCs x).take (k + 1)).filter (badC (stVC x))).length) : Nat) : Int) = ((cn : Nat) : Int) + 1) := by show _ = _; rw [HT.out]; simp; try omega
            clear HT hHeld hb0 d5 hb5 HVr4 HBD HPP b4 hfi
            --C5
            go_wp2_with fail
            go_roundw
            case rel => exact ⟨k + 1, by omega, by simp, by rw [HT'.out]; try simp only [Int.natCast_add], hb6⟩
            case measure => simp [intOf]; omega
          | some v =>
            have hvl := (fI_some hfi).1
            rw [List.length_map] at hvl
            obtain ⟨B2, o2, hB2, lB2, _, zs, hro, hvo⟩ := (HSV.out u4 (on2 HBS.out b4)).get (i := v) (by rw [← hlV.out]; exact hvl)
            have hp : pp = some ⟨B2, o2 + v * 5, none⟩ := by rw [← HPP.out, hfi, hB2]; rfl
            subst hp
            have HO : Hid (∀ z, Below u4.heap.size u4 z → z.cell? ⟨B2, o2 + v * 5 + 4, none⟩ = some (.string (vCl ((sVs x).getD v default)))) := fun z hz => (hz.cell (p := ⟨B2, o2 + v * 5 + 4, none⟩) lB2).trans (hvo 4 _ hro.all10.2.2.2.2)
            have HBD' : Hid (bd = !sEq (vCl ((sVs x).getD v default)) y.1) := by show _ = _; rw [HBD.out, hf, hfi]; rfl
            generalize vCl ((sVs x).getD v default) = ov at HO HBD'
            obtain ⟨q, hq⟩ : ∃ b, (ov.toList == y.1.toList) = b := ⟨_, rfl⟩
            have HQB : Hid (bd = !q) := by show _ = _; rw [HBD'.out, ← hq]; rfl
            clear hvo hro hB2 hvl HBD HBD'
            refine' tk 2 ?_ ?_; rotate_left
            · intro u hu; have fo := HO.out u hu; obtain ⟨_, qz⟩ := HVr4.out u hu; have f0 := (qz.2 0 _ rfl).1; have f1 := (qz.2 1 _ rfl).1; have f2 := (qz.2 2 _ rfl).1; have f3 := (qz.2 3 _ rfl).1; clear hu qz; go_simp; try with_reducible rfl
            try go_frame
            refine' tk 3 ?_ ?_; rotate_left
            · intro u hu; have fo := HO.out u hu; obtain ⟨_, qz⟩ := HVr4.out u hu; have f0 := (qz.2 0 _ rfl).1; have f1 := (qz.2 1 _ rfl).1; have f2 := (qz.2 2 _ rfl).1; have f3 := (qz.2 3 _ rfl).1; clear hu qz; go_simp; try with_reducible rfl
            try go_frame
            refine' tk 4 ?_ ?_; rotate_left
            · intro u hu; have fo := HO.out u hu; obtain ⟨_, qz⟩ := HVr4.out u hu; have f0 := (qz.2 0 _ rfl).1; have f1 := (qz.2 1 _ rfl).1; have f2 := (qz.2 2 _ rfl).1; have f3 := (qz.2 3 _ rfl).1; clear hu qz; go_simp; try with_reducible rfl
            try go_frame
            refine' tk 5 ?_ ?_; rotate_left
            · intro u hu; have fo := HO.out u hu; obtain ⟨_, qz⟩ := HVr4.out u hu; have f0 := (qz.2 0 _ rfl).1; have f1 := (qz.2 1 _ rfl).1; have f2 := (qz.2 2 _ rfl).1; have f3 := (qz.2 3 _ rfl).1; clear hu qz; go_simp; try with_reducible rfl
            try go_frame
            refine' tk 6 ?_ ?_; rotate_left
            · intro u hu; have fo := HO.out u hu; obtain ⟨_, qz⟩ := HVr4.out u hu; have f0 := (qz.2 0 _ rfl).1; have f1 := (qz.2 1 _ rfl).1; have f2 := (qz.2 2 _ rfl).1; have f3 := (qz.2 3 _ rfl).1; clear hu qz; go_simp; try with_reducible rfl
            try go_frame
            refine' tk 7 ?_ ?_; rotate_left
            · intro u hu; have fo := HO.out u hu; obtain ⟨_, qz⟩ := HVr4.out u hu; have f0 := (qz.2 0 _ rfl).1; have f1 := (qz.2 1 _ rfl).1; have f2 := (qz.2 2 _ rfl).1; have f3 := (qz.2 3 _ rfl).1; clear hu qz; go_simp; try with_reducible rfl
            try go_frame
            refine' tk 8 ?_ ?_; rotate_left
            · intro u hu; have fo := HO.out u hu; obtain ⟨_, qz⟩ := HVr4.out u hu; have f0 := (qz.2 0 _ rfl).1; have f1 := (qz.2 1 _ rfl).1; have f2 := (qz.2 2 _ rfl).1; have f3 := (qz.2 3 _ rfl).1; clear hu qz; go_simp; try with_reducible rfl
            try go_frame
            refine' tk 9 ?_ ?_; rotate_left
            · intro u hu; have fo := HO.out u hu; obtain ⟨_, qz⟩ := HVr4.out u hu; have f0 := (qz.2 0 _ rfl).1; have f1 := (qz.2 1 _ rfl).1; have f2 := (qz.2 2 _ rfl).1; have f3 := (qz.2 3 _ rfl).1; clear hu qz; go_simp; try with_reducible rfl
            try go_frame
            refine' tk 10 ?_ ?_; rotate_left
            · intro u hu; have fo := HO.out u hu; obtain ⟨_, qz⟩ := HVr4.out u hu; have f0 := (qz.2 0 _ rfl).1; have f1 := (qz.2 1 _ rfl).1; have f2 := (qz.2 2 _ rfl).1; have f3 := (qz.2 3 _ rfl).1; clear hu qz; go_simp; try with_reducible rfl
            try go_frame
            refine' tk 11 ?_ ?_; rotate_left
            · intro u hu; have fo := HO.out u hu; obtain ⟨_, qz⟩ := HVr4.out u hu; have f0 := (qz.2 0 _ rfl).1; have f1 := (qz.2 1 _ rfl).1; have f2 := (qz.2 2 _ rfl).1; have f3 := (qz.2 3 _ rfl).1; clear hu qz; go_simp; try with_reducible rfl
            try go_frame
            refine' tk 12 ?_ ?_; rotate_left
            · intro u hu; have fo := HO.out u hu; obtain ⟨_, qz⟩ := HVr4.out u hu; have f0 := (qz.2 0 _ rfl).1; have f1 := (qz.2 1 _ rfl).1; have f2 := (qz.2 2 _ rfl).1; have f3 := (qz.2 3 _ rfl).1; clear hu qz; go_simp; try with_reducible rfl
            try go_frame
            refine' tk 13 ?_ ?_; rotate_left
            · intro u hu; have fo := HO.out u hu; obtain ⟨_, qz⟩ := HVr4.out u hu; have f0 := (qz.2 0 _ rfl).1; have f1 := (qz.2 1 _ rfl).1; have f2 := (qz.2 2 _ rfl).1; have f3 := (qz.2 3 _ rfl).1; clear hu qz; go_simp; try with_reducible rfl
            try go_frame
            refine' tk 14 ?_ ?_; rotate_left
            · intro u hu; have fo := HO.out u hu; obtain ⟨_, qz⟩ := HVr4.out u hu; have f0 := (qz.2 0 _ rfl).1; have f1 := (qz.2 1 _ rfl).1; have f2 := (qz.2 2 _ rfl).1; have f3 := (qz.2 3 _ rfl).1; clear hu qz; go_simp; try with_reducible rfl
            try go_frame
            refine tz ?_
            have hb : bd = !q := HQB.out
            subst hb
            cases q with
            | true =>
              have HT' : Hid (((((((sCs x).take (k + 1)).filter (badC (stVC x))).length) : Nat) : Int) = ((cn : Nat) : Int)) := by show _ = _; rw [HT.out]; simp
              clear HT hHeld hb0 d5 hb5 HVr4 HPP b4 hfi hq HQB HO
              --C6
              go_wp2_with fail
              go_roundw
              case rel => exact ⟨k + 1, by omega, by simp, by rw [HT'.out]; try simp only [Int.natCast_add], hb6⟩
              case measure => simp [intOf]; omega
            | false =>
              have HT' : Hid (((((((sCs x).take (k + 1)).filter (badC (stVC x))).length) : Nat) : Int) = ((cn : Nat) : Int) + 1) := by show _ = _; rw [HT.out]; simp; try omega
              clear HT hHeld hb0 d5 hb5 HVr4 HPP b4 hfi hq HQB HO
              --C7
              go_wp2_with fail
              go_roundw
              case rel => exact ⟨k + 1, by omega, by simp, by rw [HT'.out]; try simp only [Int.natCast_add], hb6⟩
              case measure => simp [intOf]; omega
      · obtain rfl : k3 = k := by omega
        have htk : (sCs x).take k3 = (sCs x) := List.take_of_length_le (by rw [hlC.out]; exact Nat.le_refl _)
        rw [htk]
        clear htk
        have hc0 := count_all12 (badC (stVC x)) (sCs x)
        rw [hlC.out] at hc0
        have b5 : Below wc.heap.size wc wr := on2 HBS.out hbr
        obtain ⟨t0', t1', ltb⟩ := HBY.out wr b5
        have hC := allVolume_calls b2 k2 c2 _ (sVs x) mv wr (HSV.out wr b5) (HMV.out wr b5) (by omega)
        clear hbr hbw HAC HBS
        --E2
        go_wp2_with fail
        refine hC.mono ?_
        rintro e u6 ⟨v, rfl, hr⟩
        rw [allL_once Prod.fst hN.out.1] at hr
        have d6 : Below wr.heap.size wr u6 := hr.below
        obtain ⟨ra2, rc2, rfl, sr⟩ := hr.sl (bytes := 72) RVolume.firm (by rw [hlV.out]; omega)
        rw [hlV.out] at sr ⊢
        have HBS : Hid (Below wc.heap.size wc u6) := on2 b5 d6
        have HAV : Hid (∀ z, Below u6.heap.size u6 z → SlAt RVolume 5 72 (fun _ => True) z ra2 k2 rc2 (sVs x)) := fun z hz => (sr.weak RVolume.firm (fun _ _ _ => trivial)).on RVolume.firm hz
        clear hC hr sr d6 t0' t1' ltb b5
        obtain ⟨wo, hwo⟩ : ∃ z, z = wr := ⟨_, rfl⟩
        subst hwo
        --E3
        go_wp2_with fail
        go_loopw [5, 50] (fun cn j wr => ∃ k : Nat, k ≤ k2 ∧ j = .int .i64 k ∧ cn = .int .i64 ((((sCs x).filter (badC (stVC x))).length + ((((sVs x).take (k)).filter (badV (stVC x))).length) : Nat) : Int) ∧ Hid (Below u6.heap.size u6 wr)) (fun _ j _ => k2 - (intOf j).toNat)
        case atStart => exact ⟨0, Nat.zero_le _, rfl, by simp [Nat.add_comm], Below.refl _ _⟩
        case round =>
          obtain ⟨k, hk, rfl, rfl, hbw⟩ := hrel
          have hbr : Below u6.heap.size u6 wr := hbw.out
          by_cases hlt : k < k2
          · have hltz : (k : Int) < (k2 : Int) := by omega
            have hkl : k < (sVs x).length := by rw [hlV.out]; exact hlt
            obtain ⟨B, off, hBe, hB, _, ys, hrv, hv⟩ := (HAV.out wr hbr).get hlt
            subst hBe
            obtain ⟨⟨g1, g2, g3⟩, rfl, hz1, hz2, hz3, hz4⟩ := hrv.out
            try simp only at hv hrv hz1 hz2 hz3
            have hcs : vCl ((sVs x).getD k default) = vCl ((sVs x).getD k default) := rfl
            have HT : Hid ((((sVs x).take (k + 1)).filter (badV (stVC x))).length = (((sVs x).take k).filter (badV (stVC x))).length + (if badV (stVC x) ((sVs x).getD k default) = true then 1 else 0)) := count_take12 _ _ k hkl
            have hcl := count_le12 (badV (stVC x)) (sVs x) k
            have e0 := hv 0 _ rfl
            have e1 := hv 1 _ rfl
            have e2 := hv 2 _ rfl
            have e3 := hv 3 _ rfl
            have e4 := hv 4 _ rfl
            rw [Nat.add_zero] at e0
            have HVr : Hid (RVolume (fun _ => True) wr [.string ((sVs x).getD k default).1, .int .i64 ((sVs x).getD k default).2.1, .string ((sVs x).getD k default).2.2.1, .slice g1 g2 g3, .string ((sVs x).getD k default).2.2.2.2] ((sVs x).getD k default)) := hrv
            have hsf : (((sVs x).getD k default).2.2.2.2).size ≤ 140737488355328 := hz4
            clear hrv hv hcs
            obtain ⟨cn, hcn⟩ : ∃ c, (((sVs x).take k).filter (badV (stVC x))).length = c := ⟨_, rfl⟩
            rw [hcn] at HT hcl ⊢
            clear hcn
            have HBD : Hid (badV (stVC x) ((sVs x).getD k default) = (!sEq (vCl ((sVs x).getD k default)) B0 && (match fI ((sCs x).map Prod.fst) (vCl ((sVs x).getD k default)) with | none => true | some v => !sEq (cVo ((sCs x).getD v default)) ((sVs x).getD k default).1))) := rfl
            generalize (sVs x).getD k default = y at HVr HT HBD e0 e1 e2 e3 e4 hz1 hz2 hz3 hsf
            obtain ⟨bd, hbd⟩ : ∃ b, badV (stVC x) y = b := ⟨_, rfl⟩
            rw [hbd] at HT HBD
            clear hbd
            obtain ⟨Wb, hWb⟩ : ∃ W, W = wr.alloc (.cells #[.string y.1, .int .i64 y.2.1, .string y.2.2.1, .slice g1 g2 g3, .string y.2.2.2.2] 49) := ⟨_, rfl⟩
            have bb : Below wr.heap.size wr Wb := by rw [hWb]; exact (Below.refl _ _).alloc (Nat.le_refl _) _
            have qb : BoxL Wb wr.heap.size [.string y.1, .int .i64 y.2.1, .string y.2.2.1, .slice g1 g2 g3, .string y.2.2.2.2] := by rw [hWb]; exact BoxL.new wr 49 _
            have HWb : Hid (Wb = wr.alloc (.cells #[.string y.1, .int .i64 y.2.1, .string y.2.2.1, .slice g1 g2 g3, .string y.2.2.2.2] 49)) := hWb
            have bWb : Below u6.heap.size u6 Wb := on2 hbr bb
            clear hWb
            --V1
            go_upto_region 13 with fail
            rw [← HWb.out]
            clear HWb e0 e1 e2 e3 e4
            have yv := (qb.2 4 _ rfl).1
            have hltb := qb.1
            obtain ⟨t0', t1', ltb⟩ := HBX.out Wb (on2 HBS.out bWb)
            have hC := fndClaim_calls b3 k3 c3 _ (sCs x) mc (vCl y) Wb (HSC.out Wb (on2 HBS.out bWb)) (HMC.out Wb (on2 HBS.out bWb)) hsf
            obtain ⟨pp, hpp⟩ : ∃ p, pAt 4 b3 (fI ((sCs x).map Prod.fst) (vCl y)) = p := ⟨_, rfl⟩
            have HPP : Hid (pAt 4 b3 (fI ((sCs x).map Prod.fst) (vCl y)) = pp) := hpp
            rw [hpp] at hC
            clear hpp
            --V2
            go_wp2_with fail
            refine hC.mono ?_
            rintro e u4 ⟨rfl, d4⟩
            have qb4 := qb.on d4
            have b4 : Below u6.heap.size u6 u4 := on2 bWb d4
            have HVr4 : Hid (∀ z, Below u4.heap.size u4 z → RVolume (fun _ => True) z [.string y.1, .int .i64 y.2.1, .string y.2.2.1, .slice g1 g2 g3, .string y.2.2.2.2] y ∧ BoxL z wr.heap.size [.string y.1, .int .i64 y.2.1, .string y.2.2.1, .slice g1 g2 g3, .string y.2.2.2.2]) := fun z hz => ⟨RVolume.firm.kept HVr.out (Kept.below (on2 (on2 bb d4) hz)), qb4.on hz⟩
            clear hC yv t0' t1' ltb d4 qb qb4 bb bWb HVr hltb
            --V3
            go_upto_region 14 with fail
            refine t0 (fun z => Below u4.heap.size u4 z) (Below.refl _ _).drew (fun hHeld => ?_)
            have hb0 : Below u4.heap.size u4 u4.drew := (Below.refl _ _).drew
            generalize hwd : u4.drew = wd at hHeld hb0 ⊢
            clear hwd
            try go_frame
            refine' tk 0 ?_ ?_; rotate_left
            · intro u hu; obtain ⟨_, qz⟩ := HVr4.out u hu; have f0 := (qz.2 0 _ rfl).1; have f1 := (qz.2 1 _ rfl).1; have f2 := (qz.2 2 _ rfl).1; have f3 := (qz.2 3 _ rfl).1; have f4 := (qz.2 4 _ rfl).1; clear hu qz; go_simp; try with_reducible rfl
            try go_frame
            have hC := isFree_calls [.string y.1, .int .i64 y.2.1, .string y.2.2.1, .slice g1 g2 g3, .string y.2.2.2.2] _ y wd (HVr4.out wd hb0).1
            refine tr 1 (fun K hK => ?_)
            go_simp
            refine hC.mono ?_
            rintro e u5 ⟨rfl, d5⟩
            clear hC
            have hb5 : Below u4.heap.size u4 u5 := on2 hb0 d5
            go_wp2_with fail
            refine hK.out _ _ hb5 (fun hHeld2 => ?_)
            clear hK K hHeld; have hHeld := hHeld2; clear hHeld2
            try go_frame
            have hb6 : Hid (Below u6.heap.size u6 u5) := on2 b4 hb5
            cases hf : sEq (vCl y) B0 with
            | true =>
              refine' tk 2 ?_ ?_; rotate_left
              · intro u hu; clear hu; go_simp; try with_reducible rfl
              try go_frame
              refine' tk 3 ?_ ?_; rotate_left
              · intro u hu; clear hu; go_simp; try with_reducible rfl
              try go_frame
              refine tn 4 ?_
              try go_frame
              refine tn 5 ?_
              try go_frame
              refine tn 6 ?_
              try go_frame
              refine tn 7 ?_
              try go_frame
              refine tn 8 ?_
              try go_frame
              refine tn 9 ?_
              try go_frame
              refine tn 10 ?_
              try go_frame
              refine tn 11 ?_
              try go_frame
              refine tn 12 ?_
              try go_frame
              refine tn 13 ?_
              try go_frame
              refine tn 14 ?_
              try go_frame
              refine' tk 15 ?_ ?_; rotate_left
              · intro u hu; clear hu; go_simp; try with_reducible rfl
              try go_frame
              refine tz ?_
              have hb : bd = false := by rw [HBD.out, hf]; rfl
              subst hb
              have HT' : Hid (((((sCs x).filter (badC (stVC x))).length + ((((sVs x).take (k + 1)).filter (badV (stVC x))).length) : Nat) : Int) = (((((sCs x).filter (badC (stVC x))).length + cn : Nat)) : Int)) := by show _ = _; rw [HT.out]; simp
              clear HT hHeld hb0 d5 hb5 HVr4 HBD HPP b4
              --V4
              go_wp2_with fail
              go_roundw
              case rel => exact ⟨k + 1, by omega, by simp, by rw [HT'.out]; try simp only [Int.natCast_add], hb6⟩
              case measure => simp [intOf]; omega
            | false =>
              cases hfi : fI ((sCs x).map Prod.fst) (vCl y) with
              | none =>
                have hp : pp = none := by rw [← HPP.out, hfi]; cases b3 <;> rfl
                subst hp
                refine' tk 2 ?_ ?_; rotate_left
                · intro u hu; clear hu; go_simp; try with_reducible rfl
                try go_frame
                refine' tk 3 ?_ ?_; rotate_left
                · intro u hu; clear hu; go_simp; try with_reducible rfl
                try go_frame
                refine' tk 4 ?_ ?_; rotate_left
                · intro u hu; clear hu; go_simp; try with_reducible rfl
                try go_frame
                refine' tk 5 ?_ ?_; rotate_left
                · intro u hu; clear hu; go_simp; try with_reducible rfl
                try go_frame
                refine' tk 6 ?_ ?_; rotate_left
                · intro u hu; clear hu; go_simp; try with_reducible rfl
                try go_frame
                refine tn 7 ?_
                try go_frame
                refine tn 8 ?_
                try go_frame
                refine tn 9 ?_
                try go_frame
                refine tn 10 ?_
                try go_frame
                refine tn 11 ?_
                try go_frame
                refine tn 12 ?_
                try go_frame
                refine tn 13 ?_
                try go_frame
                refine' tk 14 ?_ ?_; rotate_left
                · intro u hu; clear hu; go_simp; try with_reducible rfl
                try go_frame
                refine' tk 15 ?_ ?_; rotate_left
                · intro u hu; clear hu; go_simp; try with_reducible rfl
                try go_frame
                refine tz ?_
                have hb : bd = true := by rw [HBD.out, hf, hfi]; rfl
                subst hb
                have HT' : Hid (((((sCs x).filter (badC (stVC x))).length + ((((sVs x).take (k + 1)).filter (badV (stVC x))).length) : Nat) : Int) = (((((sCs x).filter (badC (stVC x))).length + cn : Nat)) : Int) + 1) := by show _ = _; rw [HT.out]; simp; try omega
                clear HT hHeld hb0 d5 hb5 HVr4 HBD HPP b4 hfi
                --V5
                go_wp2_with fail
                go_roundw
                case rel => exact ⟨k + 1, by omega, by simp, by rw [HT'.out]; try simp only [Int.natCast_add], hb6⟩
                case measure => simp [intOf]; omega
              | some v =>
                have hvl := (fI_some hfi).1
                rw [List.length_map] at hvl
                obtain ⟨B2, o2, hB2, lB2, _, zs, hro, hvo⟩ := (HSC.out u4 (on2 HBS.out b4)).get (i := v) (by rw [← hlC.out]; exact hvl)
                have hp : pp = some ⟨B2, o2 + v * 4, none⟩ := by rw [← HPP.out, hfi, hB2]; rfl
                subst hp
                have HO : Hid (∀ z, Below u4.heap.size u4 z → z.cell? ⟨B2, o2 + v * 4 + 3, none⟩ = some (.string (cVo ((sCs x).getD v default)))) := fun z hz => (hz.cell (p := ⟨B2, o2 + v * 4 + 3, none⟩) lB2).trans (hvo 3 _ hro.all10.2.2.2.1)
                have HBD' : Hid (bd = !sEq (cVo ((sCs x).getD v default)) y.1) := by show _ = _; rw [HBD.out, hf, hfi]; rfl
                generalize cVo ((sCs x).getD v default) = ov at HO HBD'
                obtain ⟨q, hq⟩ : ∃ b, (ov.toList == y.1.toList) = b := ⟨_, rfl⟩
                have HQB : Hid (bd = !q) := by show _ = _; rw [HBD'.out, ← hq]; rfl
                clear hvo hro hB2 hvl HBD HBD'
                refine' tk 2 ?_ ?_; rotate_left
                · intro u hu; have fo := HO.out u hu; obtain ⟨_, qz⟩ := HVr4.out u hu; have f0 := (qz.2 0 _ rfl).1; have f1 := (qz.2 1 _ rfl).1; have f2 := (qz.2 2 _ rfl).1; have f3 := (qz.2 3 _ rfl).1; have f4 := (qz.2 4 _ rfl).1; clear hu qz; go_simp; try with_reducible rfl
                try go_frame
                refine' tk 3 ?_ ?_; rotate_left
                · intro u hu; have fo := HO.out u hu; obtain ⟨_, qz⟩ := HVr4.out u hu; have f0 := (qz.2 0 _ rfl).1; have f1 := (qz.2 1 _ rfl).1; have f2 := (qz.2 2 _ rfl).1; have f3 := (qz.2 3 _ rfl).1; have f4 := (qz.2 4 _ rfl).1; clear hu qz; go_simp; try with_reducible rfl
                try go_frame
                refine' tk 4 ?_ ?_; rotate_left
                · intro u hu; have fo := HO.out u hu; obtain ⟨_, qz⟩ := HVr4.out u hu; have f0 := (qz.2 0 _ rfl).1; have f1 := (qz.2 1 _ rfl).1; have f2 := (qz.2 2 _ rfl).1; have f3 := (qz.2 3 _ rfl).1; have f4 := (qz.2 4 _ rfl).1; clear hu qz; go_simp; try with_reducible rfl
                try go_frame
                refine' tk 5 ?_ ?_; rotate_left
                · intro u hu; have fo := HO.out u hu; obtain ⟨_, qz⟩ := HVr4.out u hu; have f0 := (qz.2 0 _ rfl).1; have f1 := (qz.2 1 _ rfl).1; have f2 := (qz.2 2 _ rfl).1; have f3 := (qz.2 3 _ rfl).1; have f4 := (qz.2 4 _ rfl).1; clear hu qz; go_simp; try with_reducible rfl
                try go_frame
                refine' tk 6 ?_ ?_; rotate_left
                · intro u hu; have fo := HO.out u hu; obtain ⟨_, qz⟩ := HVr4.out u hu; have f0 := (qz.2 0 _ rfl).1; have f1 := (qz.2 1 _ rfl).1; have f2 := (qz.2 2 _ rfl).1; have f3 := (qz.2 3 _ rfl).1; have f4 := (qz.2 4 _ rfl).1; clear hu qz; go_simp; try with_reducible rfl
                try go_frame
                refine' tk 7 ?_ ?_; rotate_left
                · intro u hu; have fo := HO.out u hu; obtain ⟨_, qz⟩ := HVr4.out u hu; have f0 := (qz.2 0 _ rfl).1; have f1 := (qz.2 1 _ rfl).1; have f2 := (qz.2 2 _ rfl).1; have f3 := (qz.2 3 _ rfl).1; have f4 := (qz.2 4 _ rfl).1; clear hu qz; go_simp; try with_reducible rfl
                try go_frame
                refine' tk 8 ?_ ?_; rotate_left
                · intro u hu; have fo := HO.out u hu; obtain ⟨_, qz⟩ := HVr4.out u hu; have f0 := (qz.2 0 _ rfl).1; have f1 := (qz.2 1 _ rfl).1; have f2 := (qz.2 2 _ rfl).1; have f3 := (qz.2 3 _ rfl).1; have f4 := (qz.2 4 _ rfl).1; clear hu qz; go_simp; try with_reducible rfl
                try go_frame
                refine' tk 9 ?_ ?_; rotate_left
                · intro u hu; have fo := HO.out u hu; obtain ⟨_, qz⟩ := HVr4.out u hu; have f0 := (qz.2 0 _ rfl).1; have f1 := (qz.2 1 _ rfl).1; have f2 := (qz.2 2 _ rfl).1; have f3 := (qz.2 3 _ rfl).1; have f4 := (qz.2 4 _ rfl).1; clear hu qz; go_simp; try with_reducible rfl
                try go_frame
                refine' tk 10 ?_ ?_; rotate_left
                · intro u hu; have fo := HO.out u hu; obtain ⟨_, qz⟩ := HVr4.out u hu; have f0 := (qz.2 0 _ rfl).1; have f1 := (qz.2 1 _ rfl).1; have f2 := (qz.2 2 _ rfl).1; have f3 := (qz.2 3 _ rfl).1; have f4 := (qz.2 4 _ rfl).1; clear hu qz; go_simp; try with_reducible rfl
                try go_frame
                refine' tk 11 ?_ ?_; rotate_left
                · intro u hu; have fo := HO.out u hu; obtain ⟨_, qz⟩ := HVr4.out u hu; have f0 := (qz.2 0 _ rfl).1; have f1 := (qz.2 1 _ rfl).1; have f2 := (qz.2 2 _ rfl).1; have f3 := (qz.2 3 _ rfl).1; have f4 := (qz.2 4 _ rfl).1; clear hu qz; go_simp; try with_reducible rfl
                try go_frame
                refine' tk 12 ?_ ?_; rotate_left
                · intro u hu; have fo := HO.out u hu; obtain ⟨_, qz⟩ := HVr4.out u hu; have f0 := (qz.2 0 _ rfl).1; have f1 := (qz.2 1 _ rfl).1; have f2 := (qz.2 2 _ rfl).1; have f3 := (qz.2 3 _ rfl).1; have f4 := (qz.2 4 _ rfl).1; clear hu qz; go_simp; try with_reducible rfl
                try go_frame
                refine' tk 13 ?_ ?_; rotate_left
                · intro u hu; have fo := HO.out u hu; obtain ⟨_, qz⟩ := HVr4.out u hu; have f0 := (qz.2 0 _ rfl).1; have f1 := (qz.2 1 _ rfl).1; have f2 := (qz.2 2 _ rfl).1; have f3 := (qz.2 3 _ rfl).1; have f4 := (qz.2 4 _ rfl).1; clear hu qz; go_simp; try with_reducible rfl
                try go_frame
                refine' tk 14 ?_ ?_; rotate_left
                · intro u hu; have fo := HO.out u hu; obtain ⟨_, qz⟩ := HVr4.out u hu; have f0 := (qz.2 0 _ rfl).1; have f1 := (qz.2 1 _ rfl).1; have f2 := (qz.2 2 _ rfl).1; have f3 := (qz.2 3 _ rfl).1; have f4 := (qz.2 4 _ rfl).1; clear hu qz; go_simp; try with_reducible rfl
                try go_frame
                refine' tk 15 ?_ ?_; rotate_left
                · intro u hu; have fo := HO.out u hu; obtain ⟨_, qz⟩ := HVr4.out u hu; have f0 := (qz.2 0 _ rfl).1; have f1 := (qz.2 1 _ rfl).1; have f2 := (qz.2 2 _ rfl).1; have f3 := (qz.2 3 _ rfl).1; have f4 := (qz.2 4 _ rfl).1; clear hu qz; go_simp; try with_reducible rfl
                try go_frame
                refine tz ?_
                have hb : bd = !q := HQB.out
                subst hb
                cases q with
                | true =>
                  have HT' : Hid (((((sCs x).filter (badC (stVC x))).length + ((((sVs x).take (k + 1)).filter (badV (stVC x))).length) : Nat) : Int) = (((((sCs x).filter (badC (stVC x))).length + cn : Nat)) : Int)) := by show _ = _; rw [HT.out]; simp
                  clear HT hHeld hb0 d5 hb5 HVr4 HPP b4 hfi hq HQB HO
                  --V6
                  go_wp2_with fail
                  go_roundw
                  case rel => exact ⟨k + 1, by omega, by simp, by rw [HT'.out]; try simp only [Int.natCast_add], hb6⟩
                  case measure => simp [intOf]; omega
                | false =>
                  have HT' : Hid (((((sCs x).filter (badC (stVC x))).length + ((((sVs x).take (k + 1)).filter (badV (stVC x))).length) : Nat) : Int) = (((((sCs x).filter (badC (stVC x))).length + cn : Nat)) : Int) + 1) := by show _ = _; rw [HT.out]; simp; try omega
                  clear HT hHeld hb0 d5 hb5 HVr4 HPP b4 hfi hq HQB HO
                  --V7
                  go_wp2_with fail
                  go_roundw
                  case rel => exact ⟨k + 1, by omega, by simp, by rw [HT'.out]; try simp only [Int.natCast_add], hb6⟩
                  case measure => simp [intOf]; omega
          · obtain rfl : k2 = k := by omega
            have htk : (sVs x).take k2 = (sVs x) := List.take_of_length_le (by rw [hlV.out]; exact Nat.le_refl _)
            rw [htk]
            clear htk
            have HE : Hid (Below w.heap.size w wr) := on2 HBW.out (on2 HBS.out hbr)
            have HCk : Hid (((sCs x).filter (badC (stVC x))).length + ((sVs x).filter (badV (stVC x))).length = checkP (stVC x)) := rfl
            obtain ⟨ck, hck⟩ : ∃ c, checkP (stVC x) = c := ⟨_, rfl⟩
            have HCk2 : Hid (checkP (stVC x) = ck) := hck
            rw [HCk.out, hck]
            clear HCk hck
            --E1
            go_wp2_with fail
            go_ret
            exact ⟨by rw [HCk2.out]; rfl, HE.out⟩
end Go.Proofs.YtmnldngojgldiaaGreat
