/- InfoTurns' walk: a pod comes to an info, and goes, as the document says, and the info handed in stays. Condition: the arguments lie qs is said of them, and hold together no more than the reading's bulk. -/
import Derived.Test.YtddeilhelkfpoaaQ17
namespace Go.Proofs.Ytddeilhelkfpoaa
open Go.RowKit
set_option linter.unusedSimpArgs false
set_option maxRecDepth 100000

set_option maxHeartbeats 32000000 in
theorem turns_walk (ns : List Value) (x : NodeD) (a : Option Addr) (n cap : Nat) (L : List PodD) (ds : List Value) (y : PodD) (ar : Option Addr) (nr capr : Nat) (M : List PodD) (w : World) (hN : RNode (fun _ => True) w ns x) (hL : SlAt RPod 16 296 (fun _ => True) w a n cap L) (hY : RPod (fun _ => True) w ds y) (hM : SlAt RPod 16 296 (fun _ => True) w ar nr capr M) (hS : sumBy mPod L + mPod y + sumBy mPod M ≤ 1048576) : Calls Try.prog 4 #[.agg ns.toArray, .slice a n cap, .agg ds.toArray, .slice ar nr capr] w fun e w' => e = .returned (.bool true) ∧ Below w.heap.size w w' := by
  obtain ⟨k0, k1, k2, k3, k4, k5, k6, k7, k8, rfl⟩ := hN.lit
  obtain ⟨hsz, v1, v2, v3, v4, v5, v6, v7, v8, v9, v10, v11, v12, v13, v14, v15, rfl⟩ := hY.lit0
  have HN : Hid (∀ u, Below w.heap.size w u → RNode (fun b => b < w.heap.size) u [k0, k1, k2, k3, k4, k5, k6, k7, k8] x) := fun u hb => RNode.firm.kept (RNode.firm.weak hN (fun b hb _ => hb)) (Kept.below hb)
  have HY : Hid (∀ u, Below w.heap.size w u → RPod (fun b => b < w.heap.size) u [.string y.1, v1, v2, v3, v4, v5, v6, v7, v8, v9, v10, v11, v12, v13, v14, v15] y) := fun u hb => RPod.firm.kept (RPod.firm.weak hY (fun b hb _ => hb)) (Kept.below hb)
  have HL : Hid (∀ u, Below w.heap.size w u → SlAt RPod 16 296 (fun b => b < w.heap.size) u a n cap L) := fun u hb => (hL.weak RPod.firm (fun b hb _ => hb)).on RPod.firm hb
  have HM : Hid (∀ u, Below w.heap.size w u → SlAt RPod 16 296 (fun b => b < w.heap.size) u ar nr capr M) := fun u hb => (hM.weak RPod.firm (fun b hb _ => hb)).on RPod.firm hb
  have HF : Hid (FitsP L) := fits_of (by omega)
  have HFM : Hid (FitsP M) := fits_of (by omega)
  have HX : Hid (FitsA (ofP x L) y) := fitsA_of (small_of x L) y (by omega)
  clear hN hY hL hM hS
  obtain ⟨X, hX⟩ : ∃ X, X = ofP x L := ⟨_, rfl⟩
  rw [← hX] at HX
  have HXE : Hid (X = ofP x L) := hX
  clear hX
  have hiN : (Try.prog.info? 27).map (·.size) = some ([k0, k1, k2, k3, k4, k5, k6, k7, k8] : List Value).length := sizeNode
  have hiP : (Try.prog.info? 37).map (·.size) = some ([.string y.1, v1, v2, v3, v4, v5, v6, v7, v8, v9, v10, v11, v12, v13, v14, v15] : List Value).length := sizePod
  obtain ⟨W2, hW2⟩ : ∃ W2, W2 = (w.alloc (.cells #[k0, k1, k2, k3, k4, k5, k6, k7, k8] 27)).alloc (.cells #[.string y.1, v1, v2, v3, v4, v5, v6, v7, v8, v9, v10, v11, v12, v13, v14, v15] 37) := ⟨_, rfl⟩
  have B2 : Hid (Below w.heap.size w W2) := by rw [Hid, hW2]; exact ((Below.refl _ _).alloc (Nat.le_refl _) _).alloc (by simp) _
  have HBN : Hid (∀ u, Below W2.heap.size W2 u → BoxL u w.heap.size [k0, k1, k2, k3, k4, k5, k6, k7, k8]) := fun u hb => BoxL.on (by rw [hW2]; exact (BoxL.new w 27 [k0, k1, k2, k3, k4, k5, k6, k7, k8]).on ((Below.refl _ _).alloc (Nat.le_refl _) _)) hb
  have HBY : Hid (∀ u, Below W2.heap.size W2 u → BoxL u (w.heap.size + 1) [.string y.1, v1, v2, v3, v4, v5, v6, v7, v8, v9, v10, v11, v12, v13, v14, v15]) := fun u hb => BoxL.on (by have h1 := BoxL.new (w.alloc (.cells #[k0, k1, k2, k3, k4, k5, k6, k7, k8] 27)) 37 [.string y.1, v1, v2, v3, v4, v5, v6, v7, v8, v9, v10, v11, v12, v13, v14, v15]; rw [hW2]; simpa using h1) hb
  have HNr : Hid (BoxL W2 w.heap.size [k0, k1, k2, k3, k4, k5, k6, k7, k8]) := HBN.out W2 (Below.refl _ _)
  go_enter Try.func4, Try.ntmps4
  go_wp2_with (refine wpl_at hW2 ?_; refine wpList_load_mid rfl 27 _ rfl w.heap.size 0 rfl [k0, k1, k2, k3, k4, k5, k6, k7, k8] _ HNr.out.range Try.underlying27 rfl hiN ?_)
  try rw [← hW2]
  clear hW2
  have hOf := Of_calls [k0, k1, k2, k3, k4, k5, k6, k7, k8] a n cap (fun b => b < w.heap.size) (fun b => b < w.heap.size) x L W2 (HN.out W2 B2.out) (HL.out W2 B2.out) HF.out
  rw [← HXE.out] at hOf
  refine hOf.mono ?_
  clear hOf
  rintro e w4 ⟨fs, rfl, hI4, _, hb4⟩
  have hl4 : fs.length = 15 := hI4.len
  have hi4 : (Try.prog.info? 41).map (·.size) = some fs.length := by rw [hl4]; exact sizeInfo
  have HO4 : Hid (fs.toArray.all (·.oneCell') = true) := all_oneCell_toArray hI4.one
  obtain ⟨W5, hW5⟩ : ∃ W5, W5 = (w4.alloc (.cells #[.string ⟨#[]⟩, .slice none 0 0, .slice none 0 0, .bool false, .int .i64 0, .int .i64 0, .int .i64 0, .int .i64 0, .int .i64 0, .slice none 0 0, .int .i64 0, .int .i64 0, .int .i64 0, .slice none 0 0, .slice none 0 0] 41)).setCells w4.heap.size 0 fs := ⟨_, rfl⟩
  have HT4 : Hid ((w4.alloc (.cells #[.string ⟨#[]⟩, .slice none 0 0, .slice none 0 0, .bool false, .int .i64 0, .int .i64 0, .int .i64 0, .int .i64 0, .int .i64 0, .slice none 0 0, .int .i64 0, .int .i64 0, .int .i64 0, .slice none 0 0, .slice none 0 0] 41)).there w4.heap.size 0 fs.toArray.size) := by have e : fs.toArray.size = 15 := (by simp [hl4]); rw [Hid, e]; exact (BoxL.new w4 41 [.string ⟨#[]⟩, .slice none 0 0, .slice none 0 0, .bool false, .int .i64 0, .int .i64 0, .int .i64 0, .int .i64 0, .int .i64 0, .slice none 0 0, .int .i64 0, .int .i64 0, .int .i64 0, .slice none 0 0, .slice none 0 0]).there
  have HB4 : Hid (BoxL W5 w4.heap.size fs) := by rw [hW5]; exact box_set w4 41 [.string ⟨#[]⟩, .slice none 0 0, .slice none 0 0, .bool false, .int .i64 0, .int .i64 0, .int .i64 0, .int .i64 0, .int .i64 0, .slice none 0 0, .int .i64 0, .int .i64 0, .int .i64 0, .slice none 0 0, .slice none 0 0] fs (by rw [hl4]; rfl)
  have hbb4 : Below w4.heap.size w4 W5 := by rw [hW5]; exact below_setCells ((Below.refl _ _).alloc (Nat.le_refl _) _) (Nat.le_refl _)
  have HW4 : Hid (W5 = (w4.alloc (.cells #[.string ⟨#[]⟩, .slice none 0 0, .slice none 0 0, .bool false, .int .i64 0, .int .i64 0, .int .i64 0, .int .i64 0, .int .i64 0, .slice none 0 0, .int .i64 0, .int .i64 0, .int .i64 0, .slice none 0 0, .slice none 0 0] 41)).setCells w4.heap.size 0 (fs.toArray).toList) := by simpa [Hid] using hW5
  have hs4 : (Try.prog.info? 41).map (·.size) = some fs.toArray.size := by have e : fs.toArray.size = fs.length := (by simp); rw [e]; exact hi4
  clear hW5
  have B5 : Hid (Below W2.heap.size W2 W5) := on2 hb4 hbb4
  have hIi := (hI4.weak (A' := (fun b => b < w.heap.size)) (F' := fun b => b < w4.heap.size) (fun _ _ h => h) (fun b hb _ => hb)).on hbb4
  have HIi : Hid (InfoAt (fun b => b < w.heap.size) (fun b => b < w4.heap.size) W5 fs X) := hIi
  clear hI4 hIi hb4 hbb4 hl4
  go_wp2_with (first | (refine wpList_store_mid rfl 41 _ _ rfl w4.heap.size 0 fs.toArray rfl rfl HT4.out hs4 HO4.out ?_; refine wpl_at HW4.out ?_) | (refine wpList_load_mid rfl 27 _ rfl w.heap.size 0 rfl [k0, k1, k2, k3, k4, k5, k6, k7, k8] _ (HBN.out W5 B5.out).range Try.underlying27 rfl hiN ?_))
  clear HT4 HW4 HO4
  have b05 : Below w.heap.size w W5 := on2 B2.out B5.out
  have hOf := rOf_calls [k0, k1, k2, k3, k4, k5, k6, k7, k8] a n cap (fun b => b < w.heap.size) (fun b => b < w.heap.size) x L W5 (HN.out W5 b05) (HL.out W5 b05) HF.out
  rw [← HXE.out] at hOf
  refine hOf.mono ?_
  clear hOf b05
  rintro e w6 ⟨gs, rfl, hI6, hb6⟩
  have hl6 : gs.length = 15 := hI6.len
  have hi6 : (Try.prog.info? 41).map (·.size) = some gs.length := by rw [hl6]; exact sizeInfo
  have HO6 : Hid (gs.toArray.all (·.oneCell') = true) := all_oneCell_toArray hI6.one
  obtain ⟨W7, hW7⟩ : ∃ W7, W7 = (w6.alloc (.cells #[.string ⟨#[]⟩, .slice none 0 0, .slice none 0 0, .bool false, .int .i64 0, .int .i64 0, .int .i64 0, .int .i64 0, .int .i64 0, .slice none 0 0, .int .i64 0, .int .i64 0, .int .i64 0, .slice none 0 0, .slice none 0 0] 41)).setCells w6.heap.size 0 gs := ⟨_, rfl⟩
  have HT6 : Hid ((w6.alloc (.cells #[.string ⟨#[]⟩, .slice none 0 0, .slice none 0 0, .bool false, .int .i64 0, .int .i64 0, .int .i64 0, .int .i64 0, .int .i64 0, .slice none 0 0, .int .i64 0, .int .i64 0, .int .i64 0, .slice none 0 0, .slice none 0 0] 41)).there w6.heap.size 0 gs.toArray.size) := by have e : gs.toArray.size = 15 := (by simp [hl6]); rw [Hid, e]; exact (BoxL.new w6 41 [.string ⟨#[]⟩, .slice none 0 0, .slice none 0 0, .bool false, .int .i64 0, .int .i64 0, .int .i64 0, .int .i64 0, .int .i64 0, .slice none 0 0, .int .i64 0, .int .i64 0, .int .i64 0, .slice none 0 0, .slice none 0 0]).there
  have HB6 : Hid (BoxL W7 w6.heap.size gs) := by rw [hW7]; exact box_set w6 41 [.string ⟨#[]⟩, .slice none 0 0, .slice none 0 0, .bool false, .int .i64 0, .int .i64 0, .int .i64 0, .int .i64 0, .int .i64 0, .slice none 0 0, .int .i64 0, .int .i64 0, .int .i64 0, .slice none 0 0, .slice none 0 0] gs (by rw [hl6]; rfl)
  have hbb6 : Below w6.heap.size w6 W7 := by rw [hW7]; exact below_setCells ((Below.refl _ _).alloc (Nat.le_refl _) _) (Nat.le_refl _)
  have HW6 : Hid (W7 = (w6.alloc (.cells #[.string ⟨#[]⟩, .slice none 0 0, .slice none 0 0, .bool false, .int .i64 0, .int .i64 0, .int .i64 0, .int .i64 0, .int .i64 0, .slice none 0 0, .int .i64 0, .int .i64 0, .int .i64 0, .slice none 0 0, .slice none 0 0] 41)).setCells w6.heap.size 0 (gs.toArray).toList) := by simpa [Hid] using hW7
  have hs6 : (Try.prog.info? 41).map (·.size) = some gs.toArray.size := by have e : gs.toArray.size = gs.length := (by simp); rw [e]; exact hi6
  clear hW7
  have b57 : Below W5.heap.size W5 W7 := on2 hb6 hbb6
  have B7 : Hid (Below W2.heap.size W2 W7) := on2 B5.out b57
  have B07 : Hid (Below w.heap.size w W7) := on2 B2.out B7.out
  have HI7 : Hid (InfoAt (fun b => b < w.heap.size) (fun b => b < W7.heap.size) W7 fs X) := (HIi.out.on b57).weak (fun _ _ h => h) (fun b hb _ => hb)
  have HR7 : Hid (InfoAt (fun b => b < w.heap.size) (fun b => b < W7.heap.size) W7 gs X) := (hI6.on hbb6).weak (fun _ _ h => h) (fun b hb _ => hb)
  have HF7 : Hid (BoxL W7 w4.heap.size fs) := HB4.out.on b57
  have hd4 : w4.heap.size < W7.heap.size := HF7.out.1
  have hd6 : w6.heap.size < W7.heap.size := HB6.out.1
  clear hI6 hb6 hbb6 b57 hl6 HIi HB4 B5
  go_upto_region 3 with (first | (refine wpList_store_mid rfl 41 _ _ rfl w6.heap.size 0 gs.toArray rfl rfl HT6.out hs6 HO6.out ?_; refine wpl_at HW6.out ?_) | fail)
  try rw [put_none]
  clear HT6 HW6 HO6
  go_cut [11, 12] (fun p q wx => q = .int .i64 (addE X y).2 ∧ ∃ (D : Nat) (qs : List Value) (lo hi : Nat), p = .pointer (some ⟨D, 0, none⟩) ∧ Hid (Spl (fun b => b < w.heap.size) W7 wx D qs lo hi (addE X y).1))
  case first =>
    have HS : Hid (∀ u, Below W7.heap.size W7 u → (fun u => BoxL u w4.heap.size fs ∧ BoxL u (w.heap.size + 1) [.string y.1, v1, v2, v3, v4, v5, v6, v7, v8, v9, v10, v11, v12, v13, v14, v15]) u) := fun u hb => ⟨HF7.out.on hb, HBY.out u (on2 B7.out hb)⟩
    refine wp_region_noPanic ?_
    refine wp_region_held_drew (S := (fun u => BoxL u w4.heap.size fs ∧ BoxL u (w.heap.size + 1) [.string y.1, v1, v2, v3, v4, v5, v6, v7, v8, v9, v10, v11, v12, v13, v14, v15])) (by kernel_rfl) (HS.out _ (Below.refl _ _).drew) (fun hHeld => ?_)
    have hb0 : Below W7.heap.size W7 W7.drew := (Below.refl _ _).drew
    refine' tq 0 (.agg fs.toArray) ?_ ?_
    · exact yieldsIf_load_mid rfl 41 _ rfl (w4.heap.size) 0 rfl fs _ (fun u hu => hu.1.range) Try.underlying41 rfl hi4
    try go_frame
    refine' tk 1 ?_ ?_; rotate_left
    · intro u hu; have cy0 := (hu.2.2 0 _ rfl).1; have cy1 := (hu.2.2 1 _ rfl).1; have cy2 := (hu.2.2 2 _ rfl).1; have cy3 := (hu.2.2 3 _ rfl).1; have cy4 := (hu.2.2 4 _ rfl).1; have cy5 := (hu.2.2 5 _ rfl).1; have cy6 := (hu.2.2 6 _ rfl).1; have cy7 := (hu.2.2 7 _ rfl).1; have cy8 := (hu.2.2 8 _ rfl).1; have cy9 := (hu.2.2 9 _ rfl).1; have cy10 := (hu.2.2 10 _ rfl).1; have cy11 := (hu.2.2 11 _ rfl).1; have cy12 := (hu.2.2 12 _ rfl).1; have cy13 := (hu.2.2 13 _ rfl).1; have cy14 := (hu.2.2 14 _ rfl).1; have cy15 := (hu.2.2 15 _ rfl).1; clear hu; go_simp; try with_reducible rfl
    try go_frame
    refine tb 2 7 (fun K hK => ?_) (fun K hK => ?_)
    ·
      have hC1 := Pod_copy [.string y.1, v1, v2, v3, v4, v5, v6, v7, v8, v9, v10, v11, v12, v13, v14, v15] (fun b => b < w.heap.size) y W7.drew (HY.out _ (on2 B07.out hb0))
      go_simp
      refine hC1.mono ?_
      rintro e u1 ⟨pc, rfl, hp, d1⟩
      clear hC1
      have hb1 : Below W7.heap.size W7 u1 := on2 hb0 d1
      go_wp2_with fail
      refine hK.out _ _ (HS.out _ hb1) (fun hHeld2 => ?_)
      clear hK K hHeld; have hHeld := hHeld2; clear hHeld2
      try go_frame
      refine tb 3 7 (fun K hK => ?_) (fun K hK => ?_)
      ·
        have hC2 := Add_calls fs pc (fun b => b < w.heap.size) (fun b => b < W7.heap.size) _ X y u1 (HI7.out.on hb1) hp HX.out
        go_simp
        refine hC2.mono ?_
        rintro e u2 ⟨qs, rfl, i2, thr, d2⟩
        clear hC2
        have hb2 : Below W7.heap.size W7 u2 := on2 hb1 d2
        have hp := RPod.firm.kept hp (Kept.below d2)
        have inf := i2.weak (A' := (fun b => b < w.heap.size)) (F' := Seg u1.heap.size u2.heap.size) (fun _ _ h => h) (fun b hb h => ⟨h, hb⟩)
        have glo2 : W7.heap.size ≤ u1.heap.size := hb1.size
        have ghi2 : u2.heap.size ≤ u2.heap.size := Nat.le_refl _
        go_wp2_with fail
        refine hK.out _ _ (HS.out _ hb2) (fun hHeld2 => ?_)
        clear hK K hHeld; have hHeld := hHeld2; clear hHeld2
        try go_frame
        refine' tk 4 ?_ ?_; rotate_left
        · intro u hu; clear hu; go_simp; try with_reducible rfl
        try go_frame
        refine' tk 5 ?_ ?_; rotate_left
        · intro u hu; clear hu; go_simp; try with_reducible rfl
        try go_frame
        refine' tk 6 ?_ ?_; rotate_left
        · intro u hu; clear hu; go_simp; try with_reducible rfl
        try go_frame
        refine tr 7 (fun K hK => ?_)
        go_simp
        have nS3res : ¬ Seg u1.heap.size u2.heap.size (u2.heap.size) := fun h => by have h1 := h.2; have h2 := ghi2; omega
        obtain ⟨u3, hu3⟩ : ∃ u3, u3 = u2.alloc (.cells #[.string ⟨#[]⟩, .slice none 0 0, .slice none 0 0, .bool false, .int .i64 0, .int .i64 0, .int .i64 0, .int .i64 0, .int .i64 0, .slice none 0 0, .int .i64 0, .int .i64 0, .int .i64 0, .slice none 0 0, .slice none 0 0] 41) := ⟨_, rfl⟩
        have d3 : Below u2.heap.size u2 u3 := by rw [hu3]; exact (Below.refl _ _).alloc (Nat.le_refl _) _
        have hb3 : Below W7.heap.size W7 u3 := on2 hb2 d3
        have zb3 : BoxL u3 u2.heap.size [.string ⟨#[]⟩, .slice none 0 0, .slice none 0 0, .bool false, .int .i64 0, .int .i64 0, .int .i64 0, .int .i64 0, .int .i64 0, .slice none 0 0, .int .i64 0, .int .i64 0, .int .i64 0, .slice none 0 0, .slice none 0 0] := by rw [hu3]; exact BoxL.new u2 41 [.string ⟨#[]⟩, .slice none 0 0, .slice none 0 0, .bool false, .int .i64 0, .int .i64 0, .int .i64 0, .int .i64 0, .int .i64 0, .slice none 0 0, .int .i64 0, .int .i64 0, .int .i64 0, .slice none 0 0, .slice none 0 0]
        have gD3 : W7.heap.size ≤ u2.heap.size := hb2.size
        have hp := RPod.firm.kept hp (Kept.below d3)
        have inf := inf.on d3
        have thr := thr.on d3
        have ghi2 := Nat.le_trans ghi2 (d3).size
        refine hK.out _ _ (HS.out _ (hu3 ▸ hb3)) (fun hHeld2 => ?_)
        rw [← hu3] at hHeld2 ⊢
        clear hu3
        clear hK K hHeld; have hHeld := hHeld2; clear hHeld2
        try go_frame
        refine ts 8 (fun K hK => ?_)
        have hq4 : qs.length = 15 := inf.len
        have hi4 : (Try.prog.info? 41).map (·.size) = some qs.toArray.size := by have e : qs.toArray.size = 15 := (by simp [hq4]); rw [e]; exact sizeInfo
        have ho4 : qs.toArray.all (·.oneCell') = true := all_oneCell_toArray inf.one
        have ht4 : u3.there (u2.heap.size) 0 qs.toArray.size := by have e : qs.toArray.size = 15 := (by simp [hq4]); rw [e]; exact zb3.there
        have hc4 : Below W7.heap.size W7 (u3.setCells (u2.heap.size) 0 qs) := below_setCells hb3 gD3
        have hw4 := spl_mk (lst := qs) zb3 inf thr hb3 (by have h1 := gD3; have h2 := B07.out.size; omega) gD3 glo2 ghi2 nS3res (by rw [hq4]; rfl)
        refine want_yes (by rfl) (wp_store_mid 41 _ _ rfl (u2.heap.size) 0 qs.toArray rfl rfl ht4 hi4 ho4 ?_)
        refine hK.out undef _ (HS.out _ hc4) (fun hHeld2 => ?_)
        clear hK K hHeld; have hHeld := hHeld2; clear hHeld2
        try go_frame
        refine' tk 9 ?_ ?_; rotate_left
        · intro u hu; clear hu; go_simp; try with_reducible rfl
        try go_frame
        refine wpAnyH_done (by kernel_rfl) ?_ _
        refine NoPanic.normal ?_
        go_wp2_with fail
        go_meet
        exact ⟨rfl, u2.heap.size, qs, _, _, rfl, hw4⟩
      ·
        go_simp
        obtain ⟨u5, hu5⟩ : ∃ u5, u5 = u1.alloc (.cells #[.string ⟨#[]⟩, .slice none 0 0, .slice none 0 0, .bool false, .int .i64 0, .int .i64 0, .int .i64 0, .int .i64 0, .int .i64 0, .slice none 0 0, .int .i64 0, .int .i64 0, .int .i64 0, .slice none 0 0, .slice none 0 0] 41) := ⟨_, rfl⟩
        have d5 : Below u1.heap.size u1 u5 := by rw [hu5]; exact (Below.refl _ _).alloc (Nat.le_refl _) _
        have hb5 : Below W7.heap.size W7 u5 := on2 hb1 d5
        have zb5 : BoxL u5 u1.heap.size [.string ⟨#[]⟩, .slice none 0 0, .slice none 0 0, .bool false, .int .i64 0, .int .i64 0, .int .i64 0, .int .i64 0, .int .i64 0, .slice none 0 0, .int .i64 0, .int .i64 0, .int .i64 0, .slice none 0 0, .slice none 0 0] := by rw [hu5]; exact BoxL.new u1 41 [.string ⟨#[]⟩, .slice none 0 0, .slice none 0 0, .bool false, .int .i64 0, .int .i64 0, .int .i64 0, .int .i64 0, .int .i64 0, .slice none 0 0, .int .i64 0, .int .i64 0, .int .i64 0, .slice none 0 0, .slice none 0 0]
        have gD5 : W7.heap.size ≤ u1.heap.size := hb1.size
        have hp := RPod.firm.kept hp (Kept.below d5)
        refine hK.out _ _ (HS.out _ (hu5 ▸ hb5)) (fun hHeld2 => ?_)
        rw [← hu5] at hHeld2 ⊢
        clear hu5
        clear hK K hHeld; have hHeld := hHeld2; clear hHeld2
        try go_frame
        refine tr 3 (fun K hK => ?_)
        have hC6 := Add_calls fs pc (fun b => b < w.heap.size) (fun b => b < W7.heap.size) _ X y u5 (HI7.out.on hb5) hp HX.out
        have lt6 : u1.heap.size < u5.heap.size := zb5.1
        go_simp
        refine hC6.mono ?_
        rintro e u6 ⟨qs, rfl, i6, thr, d6⟩
        clear hC6
        have hb6 : Below W7.heap.size W7 u6 := on2 hb5 d6
        have hp := RPod.firm.kept hp (Kept.below d6)
        have zb5 := zb5.on d6
        have inf := i6.weak (A' := (fun b => b < w.heap.size)) (F' := Seg u5.heap.size u6.heap.size) (fun _ _ h => h) (fun b hb h => ⟨h, hb⟩)
        have glo6 : W7.heap.size ≤ u5.heap.size := hb5.size
        have ghi6 : u6.heap.size ≤ u6.heap.size := Nat.le_refl _
        have ne6 : ¬ Seg u5.heap.size u6.heap.size (u1.heap.size) := fun h => by have h1 := h.1; have h2 := lt6; omega
        go_wp2_with fail
        refine hK.out _ _ (HS.out _ hb6) (fun hHeld2 => ?_)
        clear hK K hHeld; have hHeld := hHeld2; clear hHeld2
        try go_frame
        refine' tk 4 ?_ ?_; rotate_left
        · intro u hu; clear hu; go_simp; try with_reducible rfl
        try go_frame
        refine' tk 5 ?_ ?_; rotate_left
        · intro u hu; clear hu; go_simp; try with_reducible rfl
        try go_frame
        refine' tk 6 ?_ ?_; rotate_left
        · intro u hu; clear hu; go_simp; try with_reducible rfl
        try go_frame
        refine ts 8 (fun K hK => ?_)
        have hq7 : qs.length = 15 := inf.len
        have hi7 : (Try.prog.info? 41).map (·.size) = some qs.toArray.size := by have e : qs.toArray.size = 15 := (by simp [hq7]); rw [e]; exact sizeInfo
        have ho7 : qs.toArray.all (·.oneCell') = true := all_oneCell_toArray inf.one
        have ht7 : u6.there (u1.heap.size) 0 qs.toArray.size := by have e : qs.toArray.size = 15 := (by simp [hq7]); rw [e]; exact zb5.there
        have hc7 : Below W7.heap.size W7 (u6.setCells (u1.heap.size) 0 qs) := below_setCells hb6 gD5
        have hw7 := spl_mk (lst := qs) zb5 inf thr hb6 (by have h1 := gD5; have h2 := B07.out.size; omega) gD5 glo6 ghi6 ne6 (by rw [hq7]; rfl)
        refine want_yes (by rfl) (wp_store_mid 41 _ _ rfl (u1.heap.size) 0 qs.toArray rfl rfl ht7 hi7 ho7 ?_)
        refine hK.out undef _ (HS.out _ hc7) (fun hHeld2 => ?_)
        clear hK K hHeld; have hHeld := hHeld2; clear hHeld2
        try go_frame
        refine' tk 9 ?_ ?_; rotate_left
        · intro u hu; clear hu; go_simp; try with_reducible rfl
        try go_frame
        refine wpAnyH_done (by kernel_rfl) ?_ _
        refine NoPanic.normal ?_
        go_wp2_with fail
        go_meet
        exact ⟨rfl, u1.heap.size, qs, _, _, rfl, hw7⟩
    ·
      go_simp
      obtain ⟨u8, hu8⟩ : ∃ u8, u8 = (W7.alloc (.cells #[.string ⟨#[]⟩, .slice none 0 0, .slice none 0 0, .bool false, .int .i64 0, .int .i64 0, .int .i64 0, .int .i64 0, .int .i64 0, .slice none 0 0, .int .i64 0, .int .i64 0, .int .i64 0, .slice none 0 0, .slice none 0 0] 41)).drew := ⟨_, rfl⟩
      have d8 : Below W7.heap.size W7 u8 := by rw [hu8]; exact ((Below.refl _ _).alloc (Nat.le_refl _) _).drew
      have hb8 : Below W7.heap.size W7 u8 := d8
      have zb8 : BoxL u8 W7.heap.size [.string ⟨#[]⟩, .slice none 0 0, .slice none 0 0, .bool false, .int .i64 0, .int .i64 0, .int .i64 0, .int .i64 0, .int .i64 0, .slice none 0 0, .int .i64 0, .int .i64 0, .int .i64 0, .slice none 0 0, .slice none 0 0] := by rw [hu8]; exact (BoxL.new W7 41 [.string ⟨#[]⟩, .slice none 0 0, .slice none 0 0, .bool false, .int .i64 0, .int .i64 0, .int .i64 0, .int .i64 0, .int .i64 0, .slice none 0 0, .int .i64 0, .int .i64 0, .int .i64 0, .slice none 0 0, .slice none 0 0]).on (Below.refl _ _).drew
      have gD8 : W7.heap.size ≤ W7.heap.size := hb0.size
      refine hK.out _ _ (HS.out _ (hu8 ▸ hb8)) (fun hHeld2 => ?_)
      rw [← hu8] at hHeld2 ⊢
      clear hu8
      clear hK K hHeld; have hHeld := hHeld2; clear hHeld2
      try go_frame
      refine tr 2 (fun K hK => ?_)
      have hC9 := Pod_copy [.string y.1, v1, v2, v3, v4, v5, v6, v7, v8, v9, v10, v11, v12, v13, v14, v15] (fun b => b < w.heap.size) y u8 (HY.out _ (on2 B07.out hb8))
      go_simp
      refine hC9.mono ?_
      rintro e u9 ⟨pc, rfl, hp, d9⟩
      clear hC9
      have hb9 : Below W7.heap.size W7 u9 := on2 hb8 d9
      have zb8 := zb8.on d9
      go_wp2_with fail
      refine hK.out _ _ (HS.out _ hb9) (fun hHeld2 => ?_)
      clear hK K hHeld; have hHeld := hHeld2; clear hHeld2
      try go_frame
      refine tr 3 (fun K hK => ?_)
      have hC10 := Add_calls fs pc (fun b => b < w.heap.size) (fun b => b < W7.heap.size) _ X y u9 (HI7.out.on hb9) hp HX.out
      have lt10 : W7.heap.size < u9.heap.size := zb8.1
      go_simp
      refine hC10.mono ?_
      rintro e u10 ⟨qs, rfl, i10, thr, d10⟩
      clear hC10
      have hb10 : Below W7.heap.size W7 u10 := on2 hb9 d10
      have zb8 := zb8.on d10
      have hp := RPod.firm.kept hp (Kept.below d10)
      have inf := i10.weak (A' := (fun b => b < w.heap.size)) (F' := Seg u9.heap.size u10.heap.size) (fun _ _ h => h) (fun b hb h => ⟨h, hb⟩)
      have glo10 : W7.heap.size ≤ u9.heap.size := hb9.size
      have ghi10 : u10.heap.size ≤ u10.heap.size := Nat.le_refl _
      have ne10 : ¬ Seg u9.heap.size u10.heap.size (W7.heap.size) := fun h => by have h1 := h.1; have h2 := lt10; omega
      go_wp2_with fail
      refine hK.out _ _ (HS.out _ hb10) (fun hHeld2 => ?_)
      clear hK K hHeld; have hHeld := hHeld2; clear hHeld2
      try go_frame
      refine' tk 4 ?_ ?_; rotate_left
      · intro u hu; clear hu; go_simp; try with_reducible rfl
      try go_frame
      refine' tk 5 ?_ ?_; rotate_left
      · intro u hu; clear hu; go_simp; try with_reducible rfl
      try go_frame
      refine' tk 6 ?_ ?_; rotate_left
      · intro u hu; clear hu; go_simp; try with_reducible rfl
      try go_frame
      refine ts 8 (fun K hK => ?_)
      have hq11 : qs.length = 15 := inf.len
      have hi11 : (Try.prog.info? 41).map (·.size) = some qs.toArray.size := by have e : qs.toArray.size = 15 := (by simp [hq11]); rw [e]; exact sizeInfo
      have ho11 : qs.toArray.all (·.oneCell') = true := all_oneCell_toArray inf.one
      have ht11 : u10.there (W7.heap.size) 0 qs.toArray.size := by have e : qs.toArray.size = 15 := (by simp [hq11]); rw [e]; exact zb8.there
      have hc11 : Below W7.heap.size W7 (u10.setCells (W7.heap.size) 0 qs) := below_setCells hb10 gD8
      have hw11 := spl_mk (lst := qs) zb8 inf thr hb10 (by have h1 := gD8; have h2 := B07.out.size; omega) gD8 glo10 ghi10 ne10 (by rw [hq11]; rfl)
      refine want_yes (by rfl) (wp_store_mid 41 _ _ rfl (W7.heap.size) 0 qs.toArray rfl rfl ht11 hi11 ho11 ?_)
      refine hK.out undef _ (HS.out _ hc11) (fun hHeld2 => ?_)
      clear hK K hHeld; have hHeld := hHeld2; clear hHeld2
      try go_frame
      refine' tk 9 ?_ ?_; rotate_left
      · intro u hu; clear hu; go_simp; try with_reducible rfl
      try go_frame
      refine wpAnyH_done (by kernel_rfl) ?_ _
      refine NoPanic.normal ?_
      go_wp2_with fail
      go_meet
      exact ⟨rfl, W7.heap.size, qs, _, _, rfl, hw11⟩
  case rest =>
    obtain ⟨rfl, Da, qs, lo, hi, rfl, hD⟩ := hcut
    have HA : Hid (Spl (fun b => b < w.heap.size) W7 wc Da qs lo hi (addE X y).1) := hD
    clear hD
    go_wp2_with (first | (refine wpList_load_mid rfl 41 _ rfl w6.heap.size 0 rfl gs _ (HB6.out.on HA.out.bel).range Try.underlying41 rfl hi6 ?_) | (refine wpList_load_mid rfl 37 _ rfl (w.heap.size + 1) 0 rfl [.string y.1, v1, v2, v3, v4, v5, v6, v7, v8, v9, v10, v11, v12, v13, v14, v15] _ (HBY.out wc (on2 B7.out HA.out.bel)).range Try.underlying37 rfl hiP ?_))
    refine (rAdd_calls gs [.string y.1, v1, v2, v3, v4, v5, v6, v7, v8, v9, v10, v11, v12, v13, v14, v15] (fun b => b < w.heap.size) (fun b => b < W7.heap.size) (fun b => b < w.heap.size) X y wc (HR7.out.on HA.out.bel) (HY.out wc (on2 B07.out HA.out.bel)) HX.out).mono ?_
    rintro e w8 ⟨bs, rfl, hI8, hb8⟩
    have hl8 : bs.length = 15 := hI8.len
    have hi8 : (Try.prog.info? 41).map (·.size) = some bs.length := by rw [hl8]; exact sizeInfo
    have HO8 : Hid (bs.toArray.all (·.oneCell') = true) := all_oneCell_toArray hI8.one
    obtain ⟨W9, hW9⟩ : ∃ W9, W9 = (w8.alloc (.cells #[.string ⟨#[]⟩, .slice none 0 0, .slice none 0 0, .bool false, .int .i64 0, .int .i64 0, .int .i64 0, .int .i64 0, .int .i64 0, .slice none 0 0, .int .i64 0, .int .i64 0, .int .i64 0, .slice none 0 0, .slice none 0 0] 41)).setCells w8.heap.size 0 bs := ⟨_, rfl⟩
    have HT8 : Hid ((w8.alloc (.cells #[.string ⟨#[]⟩, .slice none 0 0, .slice none 0 0, .bool false, .int .i64 0, .int .i64 0, .int .i64 0, .int .i64 0, .int .i64 0, .slice none 0 0, .int .i64 0, .int .i64 0, .int .i64 0, .slice none 0 0, .slice none 0 0] 41)).there w8.heap.size 0 bs.toArray.size) := by have e : bs.toArray.size = 15 := (by simp [hl8]); rw [Hid, e]; exact (BoxL.new w8 41 [.string ⟨#[]⟩, .slice none 0 0, .slice none 0 0, .bool false, .int .i64 0, .int .i64 0, .int .i64 0, .int .i64 0, .int .i64 0, .slice none 0 0, .int .i64 0, .int .i64 0, .int .i64 0, .slice none 0 0, .slice none 0 0]).there
    have HB8 : Hid (BoxL W9 w8.heap.size bs) := by rw [hW9]; exact box_set w8 41 [.string ⟨#[]⟩, .slice none 0 0, .slice none 0 0, .bool false, .int .i64 0, .int .i64 0, .int .i64 0, .int .i64 0, .int .i64 0, .slice none 0 0, .int .i64 0, .int .i64 0, .int .i64 0, .slice none 0 0, .slice none 0 0] bs (by rw [hl8]; rfl)
    have hbb8 : Below w8.heap.size w8 W9 := by rw [hW9]; exact below_setCells ((Below.refl _ _).alloc (Nat.le_refl _) _) (Nat.le_refl _)
    have HW8 : Hid (W9 = (w8.alloc (.cells #[.string ⟨#[]⟩, .slice none 0 0, .slice none 0 0, .bool false, .int .i64 0, .int .i64 0, .int .i64 0, .int .i64 0, .int .i64 0, .slice none 0 0, .int .i64 0, .int .i64 0, .int .i64 0, .slice none 0 0, .slice none 0 0] 41)).setCells w8.heap.size 0 (bs.toArray).toList) := by simpa [Hid] using hW9
    have hs8 : (Try.prog.info? 41).map (·.size) = some bs.toArray.size := by have e : bs.toArray.size = bs.length := (by simp); rw [e]; exact hi8
    clear hW9
    have bc9 : Below wc.heap.size wc W9 := on2 hb8 hbb8
    have B79 : Hid (Below W7.heap.size W7 W9) := on2 HA.out.bel bc9
    have B9 : Hid (Below W2.heap.size W2 W9) := on2 B7.out B79.out
    have B09 : Hid (Below w.heap.size w W9) := on2 B07.out B79.out
    have HA9 : Hid (Spl (fun b => b < w.heap.size) W7 W9 Da qs lo hi (addE X y).1) := HA.out.on bc9
    have HI8 : Hid (InfoAt (fun b => b < w.heap.size) (fun _ => True) W9 bs (addE X y).1) := (hI8.on hbb8).weak (fun _ _ h => h) (fun _ _ _ => trivial)
    clear hI8 hb8 hbb8 bc9 hl8 HA
    go_upto_region 5 with (first | (refine wpList_store_mid rfl 41 _ _ rfl w8.heap.size 0 bs.toArray rfl rfl HT8.out hs8 HO8.out ?_; refine wpl_at HW8.out ?_) | fail)
    try rw [put_none]
    clear HT8 HW8 HO8
    go_cut [15, 16] (fun p q wx => q = .int .i64 (dropP X y M).2 ∧ ∃ (D : Nat) (cs : List Value) (lo hi : Nat), p = .pointer (some ⟨D, 0, none⟩) ∧ Hid (Spl (fun b => b < w.heap.size) W9 wx D cs lo hi (dropP X y M).1))
    case first =>
      have HS : Hid (∀ u, Below W9.heap.size W9 u → (fun u => BoxL u w4.heap.size fs ∧ BoxL u (w.heap.size + 1) [.string y.1, v1, v2, v3, v4, v5, v6, v7, v8, v9, v10, v11, v12, v13, v14, v15]) u) := fun u hb => ⟨(HF7.out.on B79.out).on hb, HBY.out u (on2 B9.out hb)⟩
      refine wp_region_noPanic ?_
      refine wp_region_held_drew (S := (fun u => BoxL u w4.heap.size fs ∧ BoxL u (w.heap.size + 1) [.string y.1, v1, v2, v3, v4, v5, v6, v7, v8, v9, v10, v11, v12, v13, v14, v15])) (by kernel_rfl) (HS.out _ (Below.refl _ _).drew) (fun hHeld => ?_)
      have hb0 : Below W9.heap.size W9 W9.drew := (Below.refl _ _).drew
      refine' tq 0 (.agg fs.toArray) ?_ ?_
      · exact yieldsIf_load_mid rfl 41 _ rfl (w4.heap.size) 0 rfl fs _ (fun u hu => hu.1.range) Try.underlying41 rfl hi4
      try go_frame
      refine' tk 1 ?_ ?_; rotate_left
      · intro u hu; have cy0 := (hu.2.2 0 _ rfl).1; have cy1 := (hu.2.2 1 _ rfl).1; have cy2 := (hu.2.2 2 _ rfl).1; have cy3 := (hu.2.2 3 _ rfl).1; have cy4 := (hu.2.2 4 _ rfl).1; have cy5 := (hu.2.2 5 _ rfl).1; have cy6 := (hu.2.2 6 _ rfl).1; have cy7 := (hu.2.2 7 _ rfl).1; have cy8 := (hu.2.2 8 _ rfl).1; have cy9 := (hu.2.2 9 _ rfl).1; have cy10 := (hu.2.2 10 _ rfl).1; have cy11 := (hu.2.2 11 _ rfl).1; have cy12 := (hu.2.2 12 _ rfl).1; have cy13 := (hu.2.2 13 _ rfl).1; have cy14 := (hu.2.2 14 _ rfl).1; have cy15 := (hu.2.2 15 _ rfl).1; clear hu; go_simp; try with_reducible rfl
      try go_frame
      refine' tk 3 ?_ ?_; rotate_left
      · intro u hu; clear hu; go_simp; try with_reducible rfl
      try go_frame
      refine tb 2 9 (fun K hK => ?_) (fun K hK => ?_)
      ·
        have hC1 := Pod_copy [.string y.1, v1, v2, v3, v4, v5, v6, v7, v8, v9, v10, v11, v12, v13, v14, v15] (fun b => b < w.heap.size) y W9.drew (HY.out _ (on2 B09.out hb0))
        go_simp
        refine hC1.mono ?_
        rintro e u1 ⟨pc, rfl, hp, d1⟩
        clear hC1
        have hb1 : Below W9.heap.size W9 u1 := on2 hb0 d1
        go_wp2_with fail
        refine hK.out _ _ (HS.out _ hb1) (fun hHeld2 => ?_)
        clear hK K hHeld; have hHeld := hHeld2; clear hHeld2
        try go_frame
        refine tb 4 9 (fun K hK => ?_) (fun K hK => ?_)
        ·
          have hC2 := pods_calls ar nr capr (fun b => b < w.heap.size) M u1 (HM.out _ (on2 B09.out hb1))
          go_simp
          refine hC2.mono ?_
          rintro e u2 ⟨pa, pcp, rfl, hps, d2⟩
          clear hC2
          have hb2 : Below W9.heap.size W9 u2 := on2 hb1 d2
          have hp := RPod.firm.kept hp (Kept.below d2)
          go_wp2_with fail
          refine hK.out _ _ (HS.out _ hb2) (fun hHeld2 => ?_)
          clear hK K hHeld; have hHeld := hHeld2; clear hHeld2
          try go_frame
          refine tb 5 9 (fun K hK => ?_) (fun K hK => ?_)
          ·
            have hC3 := Drop_calls fs pc pa nr pcp (fun b => b < w.heap.size) (fun b => b < W7.heap.size) _ _ X y M u2 (HI7.out.on (on2 B79.out hb2)) hp hps HFM.out
            go_simp
            refine hC3.mono ?_
            rintro e u3 ⟨cs, rfl, i3, thr, d3⟩
            clear hC3
            have hb3 : Below W9.heap.size W9 u3 := on2 hb2 d3
            have hp := RPod.firm.kept hp (Kept.below d3)
            have hps := hps.on RPod.firm d3
            have inf := i3.weak (A' := (fun b => b < w.heap.size)) (F' := Seg u2.heap.size u3.heap.size) (fun _ _ h => h) (fun b hb h => ⟨h, hb⟩)
            have glo3 : W9.heap.size ≤ u2.heap.size := hb2.size
            have ghi3 : u3.heap.size ≤ u3.heap.size := Nat.le_refl _
            go_wp2_with fail
            refine hK.out _ _ (HS.out _ hb3) (fun hHeld2 => ?_)
            clear hK K hHeld; have hHeld := hHeld2; clear hHeld2
            try go_frame
            refine' tk 6 ?_ ?_; rotate_left
            · intro u hu; clear hu; go_simp; try with_reducible rfl
            try go_frame
            refine' tk 7 ?_ ?_; rotate_left
            · intro u hu; clear hu; go_simp; try with_reducible rfl
            try go_frame
            refine' tk 8 ?_ ?_; rotate_left
            · intro u hu; clear hu; go_simp; try with_reducible rfl
            try go_frame
            refine tr 9 (fun K hK => ?_)
            go_simp
            have nS4res : ¬ Seg u2.heap.size u3.heap.size (u3.heap.size) := fun h => by have h1 := h.2; have h2 := ghi3; omega
            obtain ⟨u4, hu4⟩ : ∃ u4, u4 = u3.alloc (.cells #[.string ⟨#[]⟩, .slice none 0 0, .slice none 0 0, .bool false, .int .i64 0, .int .i64 0, .int .i64 0, .int .i64 0, .int .i64 0, .slice none 0 0, .int .i64 0, .int .i64 0, .int .i64 0, .slice none 0 0, .slice none 0 0] 41) := ⟨_, rfl⟩
            have d4 : Below u3.heap.size u3 u4 := by rw [hu4]; exact (Below.refl _ _).alloc (Nat.le_refl _) _
            have hb4 : Below W9.heap.size W9 u4 := on2 hb3 d4
            have zb4 : BoxL u4 u3.heap.size [.string ⟨#[]⟩, .slice none 0 0, .slice none 0 0, .bool false, .int .i64 0, .int .i64 0, .int .i64 0, .int .i64 0, .int .i64 0, .slice none 0 0, .int .i64 0, .int .i64 0, .int .i64 0, .slice none 0 0, .slice none 0 0] := by rw [hu4]; exact BoxL.new u3 41 [.string ⟨#[]⟩, .slice none 0 0, .slice none 0 0, .bool false, .int .i64 0, .int .i64 0, .int .i64 0, .int .i64 0, .int .i64 0, .slice none 0 0, .int .i64 0, .int .i64 0, .int .i64 0, .slice none 0 0, .slice none 0 0]
            have gD4 : W9.heap.size ≤ u3.heap.size := hb3.size
            have hp := RPod.firm.kept hp (Kept.below d4)
            have hps := hps.on RPod.firm d4
            have inf := inf.on d4
            have thr := thr.on d4
            have ghi3 := Nat.le_trans ghi3 (d4).size
            refine hK.out _ _ (HS.out _ (hu4 ▸ hb4)) (fun hHeld2 => ?_)
            rw [← hu4] at hHeld2 ⊢
            clear hu4
            clear hK K hHeld; have hHeld := hHeld2; clear hHeld2
            try go_frame
            refine ts 10 (fun K hK => ?_)
            have hq5 : cs.length = 15 := inf.len
            have hi5 : (Try.prog.info? 41).map (·.size) = some cs.toArray.size := by have e : cs.toArray.size = 15 := (by simp [hq5]); rw [e]; exact sizeInfo
            have ho5 : cs.toArray.all (·.oneCell') = true := all_oneCell_toArray inf.one
            have ht5 : u4.there (u3.heap.size) 0 cs.toArray.size := by have e : cs.toArray.size = 15 := (by simp [hq5]); rw [e]; exact zb4.there
            have hc5 : Below W9.heap.size W9 (u4.setCells (u3.heap.size) 0 cs) := below_setCells hb4 gD4
            have hw5 := spl_mk (lst := cs) zb4 inf thr hb4 (by have h1 := gD4; have h2 := B09.out.size; omega) gD4 glo3 ghi3 nS4res (by rw [hq5]; rfl)
            refine want_yes (by rfl) (wp_store_mid 41 _ _ rfl (u3.heap.size) 0 cs.toArray rfl rfl ht5 hi5 ho5 ?_)
            refine hK.out undef _ (HS.out _ hc5) (fun hHeld2 => ?_)
            clear hK K hHeld; have hHeld := hHeld2; clear hHeld2
            try go_frame
            refine' tk 11 ?_ ?_; rotate_left
            · intro u hu; clear hu; go_simp; try with_reducible rfl
            try go_frame
            refine wpAnyH_done (by kernel_rfl) ?_ _
            refine NoPanic.normal ?_
            go_wp2_with fail
            go_meet
            exact ⟨rfl, u3.heap.size, cs, _, _, rfl, hw5⟩
          ·
            go_simp
            obtain ⟨u6, hu6⟩ : ∃ u6, u6 = u2.alloc (.cells #[.string ⟨#[]⟩, .slice none 0 0, .slice none 0 0, .bool false, .int .i64 0, .int .i64 0, .int .i64 0, .int .i64 0, .int .i64 0, .slice none 0 0, .int .i64 0, .int .i64 0, .int .i64 0, .slice none 0 0, .slice none 0 0] 41) := ⟨_, rfl⟩
            have d6 : Below u2.heap.size u2 u6 := by rw [hu6]; exact (Below.refl _ _).alloc (Nat.le_refl _) _
            have hb6 : Below W9.heap.size W9 u6 := on2 hb2 d6
            have zb6 : BoxL u6 u2.heap.size [.string ⟨#[]⟩, .slice none 0 0, .slice none 0 0, .bool false, .int .i64 0, .int .i64 0, .int .i64 0, .int .i64 0, .int .i64 0, .slice none 0 0, .int .i64 0, .int .i64 0, .int .i64 0, .slice none 0 0, .slice none 0 0] := by rw [hu6]; exact BoxL.new u2 41 [.string ⟨#[]⟩, .slice none 0 0, .slice none 0 0, .bool false, .int .i64 0, .int .i64 0, .int .i64 0, .int .i64 0, .int .i64 0, .slice none 0 0, .int .i64 0, .int .i64 0, .int .i64 0, .slice none 0 0, .slice none 0 0]
            have gD6 : W9.heap.size ≤ u2.heap.size := hb2.size
            have hp := RPod.firm.kept hp (Kept.below d6)
            have hps := hps.on RPod.firm d6
            refine hK.out _ _ (HS.out _ (hu6 ▸ hb6)) (fun hHeld2 => ?_)
            rw [← hu6] at hHeld2 ⊢
            clear hu6
            clear hK K hHeld; have hHeld := hHeld2; clear hHeld2
            try go_frame
            refine tr 5 (fun K hK => ?_)
            have hC7 := Drop_calls fs pc pa nr pcp (fun b => b < w.heap.size) (fun b => b < W7.heap.size) _ _ X y M u6 (HI7.out.on (on2 B79.out hb6)) hp hps HFM.out
            have lt7 : u2.heap.size < u6.heap.size := zb6.1
            go_simp
            refine hC7.mono ?_
            rintro e u7 ⟨cs, rfl, i7, thr, d7⟩
            clear hC7
            have hb7 : Below W9.heap.size W9 u7 := on2 hb6 d7
            have hp := RPod.firm.kept hp (Kept.below d7)
            have hps := hps.on RPod.firm d7
            have zb6 := zb6.on d7
            have inf := i7.weak (A' := (fun b => b < w.heap.size)) (F' := Seg u6.heap.size u7.heap.size) (fun _ _ h => h) (fun b hb h => ⟨h, hb⟩)
            have glo7 : W9.heap.size ≤ u6.heap.size := hb6.size
            have ghi7 : u7.heap.size ≤ u7.heap.size := Nat.le_refl _
            have ne7 : ¬ Seg u6.heap.size u7.heap.size (u2.heap.size) := fun h => by have h1 := h.1; have h2 := lt7; omega
            go_wp2_with fail
            refine hK.out _ _ (HS.out _ hb7) (fun hHeld2 => ?_)
            clear hK K hHeld; have hHeld := hHeld2; clear hHeld2
            try go_frame
            refine' tk 6 ?_ ?_; rotate_left
            · intro u hu; clear hu; go_simp; try with_reducible rfl
            try go_frame
            refine' tk 7 ?_ ?_; rotate_left
            · intro u hu; clear hu; go_simp; try with_reducible rfl
            try go_frame
            refine' tk 8 ?_ ?_; rotate_left
            · intro u hu; clear hu; go_simp; try with_reducible rfl
            try go_frame
            refine ts 10 (fun K hK => ?_)
            have hq8 : cs.length = 15 := inf.len
            have hi8 : (Try.prog.info? 41).map (·.size) = some cs.toArray.size := by have e : cs.toArray.size = 15 := (by simp [hq8]); rw [e]; exact sizeInfo
            have ho8 : cs.toArray.all (·.oneCell') = true := all_oneCell_toArray inf.one
            have ht8 : u7.there (u2.heap.size) 0 cs.toArray.size := by have e : cs.toArray.size = 15 := (by simp [hq8]); rw [e]; exact zb6.there
            have hc8 : Below W9.heap.size W9 (u7.setCells (u2.heap.size) 0 cs) := below_setCells hb7 gD6
            have hw8 := spl_mk (lst := cs) zb6 inf thr hb7 (by have h1 := gD6; have h2 := B09.out.size; omega) gD6 glo7 ghi7 ne7 (by rw [hq8]; rfl)
            refine want_yes (by rfl) (wp_store_mid 41 _ _ rfl (u2.heap.size) 0 cs.toArray rfl rfl ht8 hi8 ho8 ?_)
            refine hK.out undef _ (HS.out _ hc8) (fun hHeld2 => ?_)
            clear hK K hHeld; have hHeld := hHeld2; clear hHeld2
            try go_frame
            refine' tk 11 ?_ ?_; rotate_left
            · intro u hu; clear hu; go_simp; try with_reducible rfl
            try go_frame
            refine wpAnyH_done (by kernel_rfl) ?_ _
            refine NoPanic.normal ?_
            go_wp2_with fail
            go_meet
            exact ⟨rfl, u2.heap.size, cs, _, _, rfl, hw8⟩
        ·
          go_simp
          obtain ⟨u9, hu9⟩ : ∃ u9, u9 = u1.alloc (.cells #[.string ⟨#[]⟩, .slice none 0 0, .slice none 0 0, .bool false, .int .i64 0, .int .i64 0, .int .i64 0, .int .i64 0, .int .i64 0, .slice none 0 0, .int .i64 0, .int .i64 0, .int .i64 0, .slice none 0 0, .slice none 0 0] 41) := ⟨_, rfl⟩
          have d9 : Below u1.heap.size u1 u9 := by rw [hu9]; exact (Below.refl _ _).alloc (Nat.le_refl _) _
          have hb9 : Below W9.heap.size W9 u9 := on2 hb1 d9
          have zb9 : BoxL u9 u1.heap.size [.string ⟨#[]⟩, .slice none 0 0, .slice none 0 0, .bool false, .int .i64 0, .int .i64 0, .int .i64 0, .int .i64 0, .int .i64 0, .slice none 0 0, .int .i64 0, .int .i64 0, .int .i64 0, .slice none 0 0, .slice none 0 0] := by rw [hu9]; exact BoxL.new u1 41 [.string ⟨#[]⟩, .slice none 0 0, .slice none 0 0, .bool false, .int .i64 0, .int .i64 0, .int .i64 0, .int .i64 0, .int .i64 0, .slice none 0 0, .int .i64 0, .int .i64 0, .int .i64 0, .slice none 0 0, .slice none 0 0]
          have gD9 : W9.heap.size ≤ u1.heap.size := hb1.size
          have hp := RPod.firm.kept hp (Kept.below d9)
          refine hK.out _ _ (HS.out _ (hu9 ▸ hb9)) (fun hHeld2 => ?_)
          rw [← hu9] at hHeld2 ⊢
          clear hu9
          clear hK K hHeld; have hHeld := hHeld2; clear hHeld2
          try go_frame
          refine tr 4 (fun K hK => ?_)
          have hC10 := pods_calls ar nr capr (fun b => b < w.heap.size) M u9 (HM.out _ (on2 B09.out hb9))
          go_simp
          refine hC10.mono ?_
          rintro e u10 ⟨pa, pcp, rfl, hps, d10⟩
          clear hC10
          have hb10 : Below W9.heap.size W9 u10 := on2 hb9 d10
          have hp := RPod.firm.kept hp (Kept.below d10)
          have zb9 := zb9.on d10
          go_wp2_with fail
          refine hK.out _ _ (HS.out _ hb10) (fun hHeld2 => ?_)
          clear hK K hHeld; have hHeld := hHeld2; clear hHeld2
          try go_frame
          refine tr 5 (fun K hK => ?_)
          have hC11 := Drop_calls fs pc pa nr pcp (fun b => b < w.heap.size) (fun b => b < W7.heap.size) _ _ X y M u10 (HI7.out.on (on2 B79.out hb10)) hp hps HFM.out
          have lt11 : u1.heap.size < u10.heap.size := zb9.1
          go_simp
          refine hC11.mono ?_
          rintro e u11 ⟨cs, rfl, i11, thr, d11⟩
          clear hC11
          have hb11 : Below W9.heap.size W9 u11 := on2 hb10 d11
          have hp := RPod.firm.kept hp (Kept.below d11)
          have zb9 := zb9.on d11
          have hps := hps.on RPod.firm d11
          have inf := i11.weak (A' := (fun b => b < w.heap.size)) (F' := Seg u10.heap.size u11.heap.size) (fun _ _ h => h) (fun b hb h => ⟨h, hb⟩)
          have glo11 : W9.heap.size ≤ u10.heap.size := hb10.size
          have ghi11 : u11.heap.size ≤ u11.heap.size := Nat.le_refl _
          have ne11 : ¬ Seg u10.heap.size u11.heap.size (u1.heap.size) := fun h => by have h1 := h.1; have h2 := lt11; omega
          go_wp2_with fail
          refine hK.out _ _ (HS.out _ hb11) (fun hHeld2 => ?_)
          clear hK K hHeld; have hHeld := hHeld2; clear hHeld2
          try go_frame
          refine' tk 6 ?_ ?_; rotate_left
          · intro u hu; clear hu; go_simp; try with_reducible rfl
          try go_frame
          refine' tk 7 ?_ ?_; rotate_left
          · intro u hu; clear hu; go_simp; try with_reducible rfl
          try go_frame
          refine' tk 8 ?_ ?_; rotate_left
          · intro u hu; clear hu; go_simp; try with_reducible rfl
          try go_frame
          refine ts 10 (fun K hK => ?_)
          have hq12 : cs.length = 15 := inf.len
          have hi12 : (Try.prog.info? 41).map (·.size) = some cs.toArray.size := by have e : cs.toArray.size = 15 := (by simp [hq12]); rw [e]; exact sizeInfo
          have ho12 : cs.toArray.all (·.oneCell') = true := all_oneCell_toArray inf.one
          have ht12 : u11.there (u1.heap.size) 0 cs.toArray.size := by have e : cs.toArray.size = 15 := (by simp [hq12]); rw [e]; exact zb9.there
          have hc12 : Below W9.heap.size W9 (u11.setCells (u1.heap.size) 0 cs) := below_setCells hb11 gD9
          have hw12 := spl_mk (lst := cs) zb9 inf thr hb11 (by have h1 := gD9; have h2 := B09.out.size; omega) gD9 glo11 ghi11 ne11 (by rw [hq12]; rfl)
          refine want_yes (by rfl) (wp_store_mid 41 _ _ rfl (u1.heap.size) 0 cs.toArray rfl rfl ht12 hi12 ho12 ?_)
          refine hK.out undef _ (HS.out _ hc12) (fun hHeld2 => ?_)
          clear hK K hHeld; have hHeld := hHeld2; clear hHeld2
          try go_frame
          refine' tk 11 ?_ ?_; rotate_left
          · intro u hu; clear hu; go_simp; try with_reducible rfl
          try go_frame
          refine wpAnyH_done (by kernel_rfl) ?_ _
          refine NoPanic.normal ?_
          go_wp2_with fail
          go_meet
          exact ⟨rfl, u1.heap.size, cs, _, _, rfl, hw12⟩
      ·
        go_simp
        obtain ⟨u13, hu13⟩ : ∃ u13, u13 = (W9.alloc (.cells #[.string ⟨#[]⟩, .slice none 0 0, .slice none 0 0, .bool false, .int .i64 0, .int .i64 0, .int .i64 0, .int .i64 0, .int .i64 0, .slice none 0 0, .int .i64 0, .int .i64 0, .int .i64 0, .slice none 0 0, .slice none 0 0] 41)).drew := ⟨_, rfl⟩
        have d13 : Below W9.heap.size W9 u13 := by rw [hu13]; exact ((Below.refl _ _).alloc (Nat.le_refl _) _).drew
        have hb13 : Below W9.heap.size W9 u13 := d13
        have zb13 : BoxL u13 W9.heap.size [.string ⟨#[]⟩, .slice none 0 0, .slice none 0 0, .bool false, .int .i64 0, .int .i64 0, .int .i64 0, .int .i64 0, .int .i64 0, .slice none 0 0, .int .i64 0, .int .i64 0, .int .i64 0, .slice none 0 0, .slice none 0 0] := by rw [hu13]; exact (BoxL.new W9 41 [.string ⟨#[]⟩, .slice none 0 0, .slice none 0 0, .bool false, .int .i64 0, .int .i64 0, .int .i64 0, .int .i64 0, .int .i64 0, .slice none 0 0, .int .i64 0, .int .i64 0, .int .i64 0, .slice none 0 0, .slice none 0 0]).on (Below.refl _ _).drew
        have gD13 : W9.heap.size ≤ W9.heap.size := hb0.size
        refine hK.out _ _ (HS.out _ (hu13 ▸ hb13)) (fun hHeld2 => ?_)
        rw [← hu13] at hHeld2 ⊢
        clear hu13
        clear hK K hHeld; have hHeld := hHeld2; clear hHeld2
        try go_frame
        refine tr 2 (fun K hK => ?_)
        have hC14 := Pod_copy [.string y.1, v1, v2, v3, v4, v5, v6, v7, v8, v9, v10, v11, v12, v13, v14, v15] (fun b => b < w.heap.size) y u13 (HY.out _ (on2 B09.out hb13))
        go_simp
        refine hC14.mono ?_
        rintro e u14 ⟨pc, rfl, hp, d14⟩
        clear hC14
        have hb14 : Below W9.heap.size W9 u14 := on2 hb13 d14
        have zb13 := zb13.on d14
        go_wp2_with fail
        refine hK.out _ _ (HS.out _ hb14) (fun hHeld2 => ?_)
        clear hK K hHeld; have hHeld := hHeld2; clear hHeld2
        try go_frame
        refine tr 4 (fun K hK => ?_)
        have hC15 := pods_calls ar nr capr (fun b => b < w.heap.size) M u14 (HM.out _ (on2 B09.out hb14))
        go_simp
        refine hC15.mono ?_
        rintro e u15 ⟨pa, pcp, rfl, hps, d15⟩
        clear hC15
        have hb15 : Below W9.heap.size W9 u15 := on2 hb14 d15
        have zb13 := zb13.on d15
        have hp := RPod.firm.kept hp (Kept.below d15)
        go_wp2_with fail
        refine hK.out _ _ (HS.out _ hb15) (fun hHeld2 => ?_)
        clear hK K hHeld; have hHeld := hHeld2; clear hHeld2
        try go_frame
        refine tr 5 (fun K hK => ?_)
        have hC16 := Drop_calls fs pc pa nr pcp (fun b => b < w.heap.size) (fun b => b < W7.heap.size) _ _ X y M u15 (HI7.out.on (on2 B79.out hb15)) hp hps HFM.out
        have lt16 : W9.heap.size < u15.heap.size := zb13.1
        go_simp
        refine hC16.mono ?_
        rintro e u16 ⟨cs, rfl, i16, thr, d16⟩
        clear hC16
        have hb16 : Below W9.heap.size W9 u16 := on2 hb15 d16
        have zb13 := zb13.on d16
        have hp := RPod.firm.kept hp (Kept.below d16)
        have hps := hps.on RPod.firm d16
        have inf := i16.weak (A' := (fun b => b < w.heap.size)) (F' := Seg u15.heap.size u16.heap.size) (fun _ _ h => h) (fun b hb h => ⟨h, hb⟩)
        have glo16 : W9.heap.size ≤ u15.heap.size := hb15.size
        have ghi16 : u16.heap.size ≤ u16.heap.size := Nat.le_refl _
        have ne16 : ¬ Seg u15.heap.size u16.heap.size (W9.heap.size) := fun h => by have h1 := h.1; have h2 := lt16; omega
        go_wp2_with fail
        refine hK.out _ _ (HS.out _ hb16) (fun hHeld2 => ?_)
        clear hK K hHeld; have hHeld := hHeld2; clear hHeld2
        try go_frame
        refine' tk 6 ?_ ?_; rotate_left
        · intro u hu; clear hu; go_simp; try with_reducible rfl
        try go_frame
        refine' tk 7 ?_ ?_; rotate_left
        · intro u hu; clear hu; go_simp; try with_reducible rfl
        try go_frame
        refine' tk 8 ?_ ?_; rotate_left
        · intro u hu; clear hu; go_simp; try with_reducible rfl
        try go_frame
        refine ts 10 (fun K hK => ?_)
        have hq17 : cs.length = 15 := inf.len
        have hi17 : (Try.prog.info? 41).map (·.size) = some cs.toArray.size := by have e : cs.toArray.size = 15 := (by simp [hq17]); rw [e]; exact sizeInfo
        have ho17 : cs.toArray.all (·.oneCell') = true := all_oneCell_toArray inf.one
        have ht17 : u16.there (W9.heap.size) 0 cs.toArray.size := by have e : cs.toArray.size = 15 := (by simp [hq17]); rw [e]; exact zb13.there
        have hc17 : Below W9.heap.size W9 (u16.setCells (W9.heap.size) 0 cs) := below_setCells hb16 gD13
        have hw17 := spl_mk (lst := cs) zb13 inf thr hb16 (by have h1 := gD13; have h2 := B09.out.size; omega) gD13 glo16 ghi16 ne16 (by rw [hq17]; rfl)
        refine want_yes (by rfl) (wp_store_mid 41 _ _ rfl (W9.heap.size) 0 cs.toArray rfl rfl ht17 hi17 ho17 ?_)
        refine hK.out undef _ (HS.out _ hc17) (fun hHeld2 => ?_)
        clear hK K hHeld; have hHeld := hHeld2; clear hHeld2
        try go_frame
        refine' tk 11 ?_ ?_; rotate_left
        · intro u hu; clear hu; go_simp; try with_reducible rfl
        try go_frame
        refine wpAnyH_done (by kernel_rfl) ?_ _
        refine NoPanic.normal ?_
        go_wp2_with fail
        go_meet
        exact ⟨rfl, W9.heap.size, cs, _, _, rfl, hw17⟩
    case rest =>
      obtain ⟨rfl, Dc, cs, lo2, hi2, rfl, hD⟩ := hcut
      have HC : Hid (Spl (fun b => b < w.heap.size) W9 wc Dc cs lo2 hi2 (dropP X y M).1) := hD
      clear hD
      go_wp2_with (first | (refine wpList_load_mid rfl 41 _ rfl w6.heap.size 0 rfl gs _ (HB6.out.on (on2 B79.out HC.out.bel)).range Try.underlying41 rfl hi6 ?_) | (refine wpList_load_mid rfl 37 _ rfl (w.heap.size + 1) 0 rfl [.string y.1, v1, v2, v3, v4, v5, v6, v7, v8, v9, v10, v11, v12, v13, v14, v15] _ (HBY.out wc (on2 B9.out HC.out.bel)).range Try.underlying37 rfl hiP ?_))
      refine (rDrop_calls gs [.string y.1, v1, v2, v3, v4, v5, v6, v7, v8, v9, v10, v11, v12, v13, v14, v15] ar nr capr (fun b => b < w.heap.size) (fun b => b < W7.heap.size) (fun b => b < w.heap.size) (fun b => b < w.heap.size) X y M wc (HR7.out.on (on2 B79.out HC.out.bel)) (HY.out wc (on2 B09.out HC.out.bel)) (HM.out wc (on2 B09.out HC.out.bel)) HFM.out).mono ?_
      rintro e w10 ⟨es, rfl, hI10, hb10⟩
      have hl10 : es.length = 15 := hI10.len
      have hi10 : (Try.prog.info? 41).map (·.size) = some es.length := by rw [hl10]; exact sizeInfo
      have HO10 : Hid (es.toArray.all (·.oneCell') = true) := all_oneCell_toArray hI10.one
      obtain ⟨W11, hW11⟩ : ∃ W11, W11 = (w10.alloc (.cells #[.string ⟨#[]⟩, .slice none 0 0, .slice none 0 0, .bool false, .int .i64 0, .int .i64 0, .int .i64 0, .int .i64 0, .int .i64 0, .slice none 0 0, .int .i64 0, .int .i64 0, .int .i64 0, .slice none 0 0, .slice none 0 0] 41)).setCells w10.heap.size 0 es := ⟨_, rfl⟩
      have HT10 : Hid ((w10.alloc (.cells #[.string ⟨#[]⟩, .slice none 0 0, .slice none 0 0, .bool false, .int .i64 0, .int .i64 0, .int .i64 0, .int .i64 0, .int .i64 0, .slice none 0 0, .int .i64 0, .int .i64 0, .int .i64 0, .slice none 0 0, .slice none 0 0] 41)).there w10.heap.size 0 es.toArray.size) := by have e : es.toArray.size = 15 := (by simp [hl10]); rw [Hid, e]; exact (BoxL.new w10 41 [.string ⟨#[]⟩, .slice none 0 0, .slice none 0 0, .bool false, .int .i64 0, .int .i64 0, .int .i64 0, .int .i64 0, .int .i64 0, .slice none 0 0, .int .i64 0, .int .i64 0, .int .i64 0, .slice none 0 0, .slice none 0 0]).there
      have HB10 : Hid (BoxL W11 w10.heap.size es) := by rw [hW11]; exact box_set w10 41 [.string ⟨#[]⟩, .slice none 0 0, .slice none 0 0, .bool false, .int .i64 0, .int .i64 0, .int .i64 0, .int .i64 0, .int .i64 0, .slice none 0 0, .int .i64 0, .int .i64 0, .int .i64 0, .slice none 0 0, .slice none 0 0] es (by rw [hl10]; rfl)
      have hbb10 : Below w10.heap.size w10 W11 := by rw [hW11]; exact below_setCells ((Below.refl _ _).alloc (Nat.le_refl _) _) (Nat.le_refl _)
      have HW10 : Hid (W11 = (w10.alloc (.cells #[.string ⟨#[]⟩, .slice none 0 0, .slice none 0 0, .bool false, .int .i64 0, .int .i64 0, .int .i64 0, .int .i64 0, .int .i64 0, .slice none 0 0, .int .i64 0, .int .i64 0, .int .i64 0, .slice none 0 0, .slice none 0 0] 41)).setCells w10.heap.size 0 (es.toArray).toList) := by simpa [Hid] using hW11
      have hs10 : (Try.prog.info? 41).map (·.size) = some es.toArray.size := by have e : es.toArray.size = es.length := (by simp); rw [e]; exact hi10
      clear hW11
      have bc : Below wc.heap.size wc W11 := on2 hb10 hbb10
      have b911 : Below W9.heap.size W9 W11 := on2 HC.out.bel bc
      have B711 : Hid (Below W7.heap.size W7 W11) := on2 B79.out b911
      have B011 : Hid (Below w.heap.size w W11) := on2 B07.out B711.out
      have HA11 : Hid (Spl (fun b => b < w.heap.size) W7 W11 Da qs lo hi (addE X y).1) := HA9.out.on b911
      have HC11 : Hid (Spl (fun b => b < w.heap.size) W9 W11 Dc cs lo2 hi2 (dropP X y M).1) := HC.out.on bc
      have HI11 : Hid (InfoAt (fun b => b < w.heap.size) (fun _ => True) W11 bs (addE X y).1) := HI8.out.on b911
      have HE11 : Hid (InfoAt (fun b => b < w.heap.size) (fun _ => True) W11 es (dropP X y M).1) := (hI10.on hbb10).weak (fun _ _ h => h) (fun _ _ _ => trivial)
      have HB8b : Hid (BoxL W11 w8.heap.size bs) := HB8.out.on b911
      have hap : hi ≤ W9.heap.size := HA9.out.ghi
      have hla : qs.length = 15 := HA11.out.inf.len
      have hia : (Try.prog.info? 41).map (·.size) = some qs.length := by rw [hla]; exact sizeInfo
      have hlc : cs.length = 15 := HC11.out.inf.len
      have hic : (Try.prog.info? 41).map (·.size) = some cs.length := by rw [hlc]; exact sizeInfo
      clear hI10 hb10 hbb10 bc b911 hl10 HA9 HI8 HC HB8 hla hlc
      go_wp2_with (first | (refine wpList_store_mid rfl 41 _ _ rfl w10.heap.size 0 es.toArray rfl rfl HT10.out hs10 HO10.out ?_; refine wpl_at HW10.out ?_) | (refine wpList_load_mid rfl 41 _ rfl Da 0 rfl qs _ HA11.out.box.range Try.underlying41 rfl hia ?_) | (refine wpList_load_mid rfl 41 _ rfl w8.heap.size 0 rfl bs _ HB8b.out.range Try.underlying41 rfl hi8 ?_))
      clear HT10 HW10 HO10
      refine (SameInfo_yes qs bs _ _ (addE X y).1 W11 HA11.out.inf.info HI11.out.info).mono ?_
      rintro e w12 ⟨rfl, hb12⟩
      have B12 : Hid (Below W11.heap.size W11 w12) := hb12
      clear hb12
      go_wp2_with (first | (refine wpList_load_want (by rfl) 41 _ rfl Dc 0 rfl cs _ (HC11.out.box.on B12.out).range Try.underlying41 rfl hic ?_) | (refine wpList_load_want (by rfl) 41 _ rfl w10.heap.size 0 rfl es _ (HB10.out.on B12.out).range Try.underlying41 rfl hi10 ?_))
      refine (SameInfo_yes cs es _ _ (dropP X y M).1 w12 (HC11.out.inf.on B12.out).info (HE11.out.on B12.out).info).mono ?_
      rintro e w13 ⟨rfl, hb13⟩
      have B13 : Hid (Below W11.heap.size W11 w13) := on2 B12.out hb13
      clear hb13 B12
      go_wp2_with (first | (refine wpList_load_mid rfl 41 _ rfl Da 0 rfl qs _ (HA11.out.box.on B13.out).range Try.underlying41 rfl hia ?_) | fail)
      have hA13 := HA11.out.on B13.out
      have hC13 := HC11.out.on B13.out
      refine (spoil_calls qs _ _ (addE X y).1 w13 hA13.inf hA13.thr).mono ?_
      rintro e w14 ⟨rfl, ht14⟩
      have hA7 := hA13.glo
      have hc9 := hC13.glo
      have hD9 := hC13.gD
      have h07 := B07.out.size
      have HC14 : Hid (BoxL w14 Dc cs ∧ InfoAt (fun b => b < w.heap.size) (Seg lo2 hi2) w14 cs (dropP X y M).1 ∧ ThrL w14 cs) := spoilt_all hC13.box hC13.inf hC13.thr ht14 (fun b h => by have h1 : b < w.heap.size := h; omega) (by omega) (by omega)
      have HI14 : Hid (InfoAt (fun b => b < w.heap.size) (fun b => b < W7.heap.size) w14 fs X) := spoilt_info (HI7.out.on (on2 B711.out B13.out)) ht14 (fun b h => by have h1 : b < w.heap.size := h; omega) (fun b h => by have h1 : b < W7.heap.size := h; omega)
      have HR14 : Hid (InfoAt (fun b => b < w.heap.size) (fun b => b < W7.heap.size) w14 gs X) := spoilt_info (HR7.out.on (on2 B711.out B13.out)) ht14 (fun b h => by have h1 : b < w.heap.size := h; omega) (fun b h => by have h1 : b < W7.heap.size := h; omega)
      have HF14 : Hid (BoxL w14 w4.heap.size fs) := spoilt_box (HF7.out.on (on2 B711.out B13.out)) ht14 (by intro h; have h2 := h.1; omega)
      have HG14 : Hid (BoxL w14 w6.heap.size gs) := spoilt_box (HB6.out.on (on2 B711.out B13.out)) ht14 (by intro h; have h2 := h.1; omega)
      have B14 : Hid (Below w.heap.size w w14) := (on2 B011.out B13.out).trans (ht14.below (fun b h => by have h1 := h.1; omega) (on2 B011.out B13.out).size)
      clear hA13 hC13 ht14 HA11 HC11
      go_wp2_with (first | (refine wpList_load_mid rfl 41 _ rfl Dc 0 rfl cs _ HC14.out.1.range Try.underlying41 rfl hic ?_) | fail)
      refine (spoil_calls cs _ _ (dropP X y M).1 w14 HC14.out.2.1 HC14.out.2.2).mono ?_
      rintro e w15 ⟨rfl, ht15⟩
      have hlo2 : W7.heap.size ≤ lo2 := by have := B79.out.size; omega
      have HI15 : Hid (InfoAt (fun b => b < w.heap.size) (fun b => b < W7.heap.size) w15 fs X) := spoilt_info HI14.out ht15 (fun b h => by have h1 : b < w.heap.size := h; omega) (fun b h => by have h1 : b < W7.heap.size := h; omega)
      have HR15 : Hid (InfoAt (fun b => b < w.heap.size) (fun b => b < W7.heap.size) w15 gs X) := spoilt_info HR14.out ht15 (fun b h => by have h1 : b < w.heap.size := h; omega) (fun b h => by have h1 : b < W7.heap.size := h; omega)
      have HF15 : Hid (BoxL w15 w4.heap.size fs) := spoilt_box HF14.out ht15 (by intro h; have h2 := h.1; omega)
      have HG15 : Hid (BoxL w15 w6.heap.size gs) := spoilt_box HG14.out ht15 (by intro h; have h2 := h.1; omega)
      have B15 : Hid (Below w.heap.size w w15) := B14.out.trans (ht15.below (fun b h => by have h1 := h.1; omega) B14.out.size)
      clear ht15 HI14 HR14 HF14 HG14
      go_wp2_with (first | (refine wpList_load_mid rfl 41 _ rfl w4.heap.size 0 rfl fs _ HF15.out.range Try.underlying41 rfl hi4 ?_) | (refine wpList_load_mid rfl 41 _ rfl w6.heap.size 0 rfl gs _ HG15.out.range Try.underlying41 rfl hi6 ?_))
      refine (SameInfo_yes fs gs _ _ X w15 HI15.out.info HR15.out.info).mono ?_
      rintro e w16 ⟨rfl, hb16⟩
      have B16 : Hid (Below w.heap.size w w16) := on2 B15.out hb16
      clear hb16
      go_wp2_with fail
      refine (works_calls w16).mono ?_
      rintro e w17 ⟨rfl, hb17⟩
      have B17 : Hid (Below w.heap.size w w17) := on2 B16.out hb17
      clear hb17
      go_wp2_with fail
      go_ret
      exact ⟨rfl, B17.out⟩
end Go.Proofs.Ytddeilhelkfpoaa
