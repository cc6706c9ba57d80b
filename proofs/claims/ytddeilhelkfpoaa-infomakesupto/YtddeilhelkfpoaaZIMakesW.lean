/- InfoMakes' walk: a node's info is made of pods, told to be free, and clashes with a pod, as the document says. Condition: the arguments lie as is said of them, and hold together no more than the reading's bulk. -/
import Derived.Test.YtddeilhelkfpoaaQ17
namespace Go.Proofs.Ytddeilhelkfpoaa
open Go.RowKit
set_option linter.unusedSimpArgs false
set_option maxRecDepth 100000

theorem SlAt.store {α : Type} [Inhabited α] {R : Rep α} {k bytes : Nat} (hR : Firm R k) {A : Where} {u : World} {a : Option Addr} {n c : Nat} {L : List α} (h : SlAt R k bytes A u a n c L) {D : Nat} (hD : ∀ b, b < u.heap.size → A b → b ≠ D) (o : Nat) (vs : List Value) : SlAt R k bytes A (u.setCells D o vs) a n c L :=
  ((h.weak hR (A' := fun b => A b ∧ b ≠ D) (fun b hb h => ⟨h, hD b hb h⟩)).kept hR (kept_setCells (fun h => h.2 rfl))).weak hR (fun _ _ h => h.1)
theorem Firm.store {α : Type} {R : Rep α} {k : Nat} (hR : Firm R k) {A : Where} {u : World} {cs : List Value} {x : α} (h : R A u cs x) {D : Nat} (hD : ∀ b, b < u.heap.size → A b → b ≠ D) (o : Nat) (vs : List Value) : R A (u.setCells D o vs) cs x :=
  hR.weak (hR.kept (hR.weak h (A' := fun b => A b ∧ b ≠ D) (fun b hb h => ⟨h, hD b hb h⟩)) (kept_setCells (fun h => h.2 rfl))) (fun _ _ h => h.1)
theorem not_seg {lo hi D : Nat} (h : ¬ Seg lo hi D) : ∀ b, Seg lo hi b → b ≠ D := fun _ hb e => h (e ▸ hb)
set_option maxHeartbeats 32000000 in
theorem makes_walk (ns : List Value) (x : NodeD) (a : Option Addr) (n cap : Nat) (L : List PodD) (ds : List Value) (y : PodD) (w : World) (hN : RNode (fun _ => True) w ns x) (hL : SlAt RPod 16 296 (fun _ => True) w a n cap L) (hY : RPod (fun _ => True) w ds y) (hS : sumBy mPod L + mPod y ≤ 1048576) : Calls Try.prog 3 #[.agg ns.toArray, .slice a n cap, .agg ds.toArray] w fun e w' => e = .returned (.bool true) ∧ Below w.heap.size w w' := by
  obtain ⟨k0, k1, k2, k3, k4, k5, k6, k7, k8, rfl⟩ := hN.lit
  obtain ⟨hsz, v1, v2, v3, v4, v5, v6, v7, v8, v9, v10, v11, v12, v13, v14, v15, rfl⟩ := hY.lit0
  have HN : Hid (∀ u, Below w.heap.size w u → RNode (fun b => b < w.heap.size) u [k0, k1, k2, k3, k4, k5, k6, k7, k8] x) := fun u hb => RNode.firm.kept (RNode.firm.weak hN (fun b hb _ => hb)) (Kept.below hb)
  have HY : Hid (∀ u, Below w.heap.size w u → RPod (fun b => b < w.heap.size) u [.string y.1, v1, v2, v3, v4, v5, v6, v7, v8, v9, v10, v11, v12, v13, v14, v15] y) := fun u hb => RPod.firm.kept (RPod.firm.weak hY (fun b hb _ => hb)) (Kept.below hb)
  have HL : Hid (∀ u, Below w.heap.size w u → SlAt RPod 16 296 (fun b => b < w.heap.size) u a n cap L) := fun u hb => (hL.weak RPod.firm (fun b hb _ => hb)).on RPod.firm hb
  have HF : Hid (FitsP L) := fits_of (by omega)
  have hnl : Hid (L.length = n) := hL.1
  have hlen := hL.len (by decide)
  clear hN hY hL hS
  obtain ⟨X, hX⟩ : ∃ X, X = ofP x L := ⟨_, rfl⟩
  have HXE : Hid (X = ofP x L) := hX
  clear hX
  have hiN : (Try.prog.info? 27).map (·.size) = some ([k0, k1, k2, k3, k4, k5, k6, k7, k8] : List Value).length := sizeNode
  have hiP : (Try.prog.info? 37).map (·.size) = some ([.string y.1, v1, v2, v3, v4, v5, v6, v7, v8, v9, v10, v11, v12, v13, v14, v15] : List Value).length := sizePod
  obtain ⟨W2, hW2⟩ : ∃ W2, W2 = (w.alloc (.cells #[k0, k1, k2, k3, k4, k5, k6, k7, k8] 27)).alloc (.cells #[.string y.1, v1, v2, v3, v4, v5, v6, v7, v8, v9, v10, v11, v12, v13, v14, v15] 37) := ⟨_, rfl⟩
  have B2 : Hid (Below w.heap.size w W2) := by rw [Hid, hW2]; exact ((Below.refl _ _).alloc (Nat.le_refl _) _).alloc (by simp) _
  have HBN : Hid (∀ u, Below W2.heap.size W2 u → BoxL u w.heap.size [k0, k1, k2, k3, k4, k5, k6, k7, k8]) := fun u hb => BoxL.on (by rw [hW2]; exact (BoxL.new w 27 [k0, k1, k2, k3, k4, k5, k6, k7, k8]).on ((Below.refl _ _).alloc (Nat.le_refl _) _)) hb
  have HBY : Hid (∀ u, Below W2.heap.size W2 u → BoxL u (w.heap.size + 1) [.string y.1, v1, v2, v3, v4, v5, v6, v7, v8, v9, v10, v11, v12, v13, v14, v15]) := fun u hb => BoxL.on (by have h1 := BoxL.new (w.alloc (.cells #[k0, k1, k2, k3, k4, k5, k6, k7, k8] 27)) 37 [.string y.1, v1, v2, v3, v4, v5, v6, v7, v8, v9, v10, v11, v12, v13, v14, v15]; rw [hW2]; simpa using h1) hb
  go_enter Try.func3, Try.ntmps3
  go_upto_region 1 with fail
  try rw [put_none]
  rw [← hW2]
  clear hW2
  go_cut [7, 8] (fun p q wx => ∃ (oa : Option Addr) (oc Dm : Nat) (ms : List Value), p = .slice oa n oc ∧ q = .pointer (some ⟨Dm, 0, none⟩) ∧ Hid (SlAt RPod 16 296 (fun _ => True) wx oa n oc L ∧ BoxL wx Dm ms ∧ RNode (fun _ => True) wx ms x ∧ Below W2.heap.size W2 wx))
  case first =>
    have HS : Hid (∀ u, Below W2.heap.size W2 u → (fun u => BoxL u w.heap.size [k0, k1, k2, k3, k4, k5, k6, k7, k8]) u) := fun u hb => HBN.out u hb
    refine wp_region_noPanic ?_
    refine wp_region_held_drew (S := (fun u => BoxL u w.heap.size [k0, k1, k2, k3, k4, k5, k6, k7, k8])) (by kernel_rfl) (HS.out _ (Below.refl _ _).drew) (fun hHeld => ?_)
    have hb0 : Below W2.heap.size W2 W2.drew := (Below.refl _ _).drew
    refine' tk 0 ?_ ?_; rotate_left
    · intro u hu; clear hu; go_simp; try with_reducible rfl
    try go_frame
    refine' tk 2 ?_ ?_; rotate_left
    · intro u hu; have cp0 := (hu.2 0 _ rfl).1; have cp1 := (hu.2 1 _ rfl).1; have cp2 := (hu.2 2 _ rfl).1; have cp3 := (hu.2 3 _ rfl).1; have cp4 := (hu.2 4 _ rfl).1; have cp5 := (hu.2 5 _ rfl).1; have cp6 := (hu.2 6 _ rfl).1; have cp7 := (hu.2 7 _ rfl).1; have cp8 := (hu.2 8 _ rfl).1; clear hu; go_simp; try with_reducible rfl
    try go_frame
    refine tb 1 4 (fun K hK => ?_) (fun K hK => ?_)
    ·
      have hC1 := pods_calls a n cap (fun b => b < w.heap.size) L W2.drew (HL.out _ (on2 B2.out hb0))
      go_simp
      refine hC1.mono ?_
      rintro e u1 ⟨oa, oc, rfl, p1, d1⟩
      clear hC1
      have hb1 : Below W2.heap.size W2 u1 := on2 hb0 d1
      have ps := p1.weak RPod.firm (A' := Seg W2.drew.heap.size u1.heap.size) (fun b hb h => ⟨h, hb⟩)
      have ghi1 : u1.heap.size ≤ u1.heap.size := Nat.le_refl _
      have glo1 := hb0.size
      go_wp2_with fail
      refine hK.out _ _ (HS.out _ hb1) (fun hHeld2 => ?_)
      clear hK K hHeld; have hHeld := hHeld2; clear hHeld2
      try go_frame
      refine tb 3 4 (fun K hK => ?_) (fun K hK => ?_)
      ·
        have hC2 := Node_copy [k0, k1, k2, k3, k4, k5, k6, k7, k8] (fun b => b < w.heap.size) x u1 (HN.out _ (on2 B2.out hb1))
        go_simp
        refine hC2.mono ?_
        rintro e u2 ⟨ms, rfl, p2, d2⟩
        clear hC2
        have hb2 : Below W2.heap.size W2 u2 := on2 hb1 d2
        have ps := ps.on RPod.firm d2
        have ghi1 := Nat.le_trans ghi1 (d2).size
        have nd := RNode.firm.weak p2 (A' := Seg u1.heap.size u2.heap.size) (fun b hb h => ⟨h, hb⟩)
        have ghi2 : u2.heap.size ≤ u2.heap.size := Nat.le_refl _
        have glo2 := hb1.size
        go_wp2_with fail
        refine hK.out _ _ (HS.out _ hb2) (fun hHeld2 => ?_)
        clear hK K hHeld; have hHeld := hHeld2; clear hHeld2
        try go_frame
        refine tr 4 (fun K hK => ?_)
        go_simp
        have nS3r1 : ¬ Seg W2.drew.heap.size u1.heap.size (u2.heap.size) := fun h => by have h1 := h.2; have h2 := ghi1; omega
        have nS3r2 : ¬ Seg u1.heap.size u2.heap.size (u2.heap.size) := fun h => by have h1 := h.2; have h2 := ghi2; omega
        obtain ⟨u3, hu3⟩ : ∃ u3, u3 = u2.alloc (.cells #[.string ⟨#[]⟩, .slice none 0 0, .slice none 0 0, .bool false, .int .i64 0, .int .i64 0, .int .i64 0, .int .i64 0, .int .i64 0] 27) := ⟨_, rfl⟩
        have d3 : Below u2.heap.size u2 u3 := by rw [hu3]; exact (Below.refl _ _).alloc (Nat.le_refl _) _
        have hb3 : Below W2.heap.size W2 u3 := on2 hb2 d3
        have zb3 : BoxL u3 u2.heap.size [.string ⟨#[]⟩, .slice none 0 0, .slice none 0 0, .bool false, .int .i64 0, .int .i64 0, .int .i64 0, .int .i64 0, .int .i64 0] := by rw [hu3]; exact BoxL.new u2 27 [.string ⟨#[]⟩, .slice none 0 0, .slice none 0 0, .bool false, .int .i64 0, .int .i64 0, .int .i64 0, .int .i64 0, .int .i64 0]
        have gD3 : W2.heap.size ≤ u2.heap.size := hb2.size
        have ps := ps.on RPod.firm d3
        have ghi1 := Nat.le_trans ghi1 (d3).size
        have nd := RNode.firm.kept nd (Kept.below d3)
        have ghi2 := Nat.le_trans ghi2 (d3).size
        refine hK.out _ _ (HS.out _ (hu3 ▸ hb3)) (fun hHeld2 => ?_)
        rw [← hu3] at hHeld2 ⊢
        clear hu3
        clear hK K hHeld; have hHeld := hHeld2; clear hHeld2
        try go_frame
        refine' tk 5 ?_ ?_; rotate_left
        · intro u hu; clear hu; go_simp; try with_reducible rfl
        try go_frame
        refine ts 6 (fun K hK => ?_)
        have hq4 : ms.length = 9 := RNode.firm.len nd
        have hi4 : (Try.prog.info? 27).map (·.size) = some ms.toArray.size := by have e : ms.toArray.size = 9 := (by simp [hq4]); rw [e]; exact sizeNode
        have ho4 : ms.toArray.all (·.oneCell') = true := all_oneCell_toArray (RNode.firm.one nd)
        have ht4 : u3.there (u2.heap.size) 0 ms.toArray.size := by have e : ms.toArray.size = 9 := (by simp [hq4]); rw [e]; exact zb3.there
        have hc4 : Below W2.heap.size W2 (u3.setCells (u2.heap.size) 0 ms) := below_setCells hb3 gD3
        have hp4 := (SlAt.store RPod.firm ps (D := u2.heap.size) (fun b _ h => not_seg nS3r1 b h) 0 ms).weak RPod.firm (A' := fun _ => True) (fun _ _ _ => trivial)
        have hn4 := RNode.firm.weak (Firm.store RNode.firm nd (D := u2.heap.size) (fun b _ h => not_seg nS3r2 b h) 0 ms) (A' := fun _ => True) (fun _ _ _ => trivial)
        have hx4 := box_write (cs := ms) zb3 (by rw [hq4]; rfl)
        refine want_yes (by rfl) (wp_store_mid 27 _ _ rfl (u2.heap.size) 0 ms.toArray rfl rfl ht4 hi4 ho4 ?_)
        refine hK.out undef _ (HS.out _ hc4) (fun hHeld2 => ?_)
        clear hK K hHeld; have hHeld := hHeld2; clear hHeld2
        try go_frame
        refine wpAnyH_done (by kernel_rfl) ?_ _
        refine NoPanic.normal ?_
        go_wp2_with fail
        go_meet
        exact ⟨oa, oc, u2.heap.size, ms, rfl, rfl, hp4, hx4, hn4, hc4⟩
      ·
        go_simp
        have nS5r1 : ¬ Seg W2.drew.heap.size u1.heap.size (u1.heap.size) := fun h => by have h1 := h.2; have h2 := ghi1; omega
        obtain ⟨u5, hu5⟩ : ∃ u5, u5 = u1.alloc (.cells #[.string ⟨#[]⟩, .slice none 0 0, .slice none 0 0, .bool false, .int .i64 0, .int .i64 0, .int .i64 0, .int .i64 0, .int .i64 0] 27) := ⟨_, rfl⟩
        have d5 : Below u1.heap.size u1 u5 := by rw [hu5]; exact (Below.refl _ _).alloc (Nat.le_refl _) _
        have hb5 : Below W2.heap.size W2 u5 := on2 hb1 d5
        have zb5 : BoxL u5 u1.heap.size [.string ⟨#[]⟩, .slice none 0 0, .slice none 0 0, .bool false, .int .i64 0, .int .i64 0, .int .i64 0, .int .i64 0, .int .i64 0] := by rw [hu5]; exact BoxL.new u1 27 [.string ⟨#[]⟩, .slice none 0 0, .slice none 0 0, .bool false, .int .i64 0, .int .i64 0, .int .i64 0, .int .i64 0, .int .i64 0]
        have gD5 : W2.heap.size ≤ u1.heap.size := hb1.size
        have ps := ps.on RPod.firm d5
        have ghi1 := Nat.le_trans ghi1 (d5).size
        refine hK.out _ _ (HS.out _ (hu5 ▸ hb5)) (fun hHeld2 => ?_)
        rw [← hu5] at hHeld2 ⊢
        clear hu5
        clear hK K hHeld; have hHeld := hHeld2; clear hHeld2
        try go_frame
        refine tr 3 (fun K hK => ?_)
        have hC6 := Node_copy [k0, k1, k2, k3, k4, k5, k6, k7, k8] (fun b => b < w.heap.size) x u5 (HN.out _ (on2 B2.out hb5))
        have lt6Dm : u1.heap.size < u5.heap.size := zb5.1
        go_simp
        refine hC6.mono ?_
        rintro e u6 ⟨ms, rfl, p6, d6⟩
        clear hC6
        have hb6 : Below W2.heap.size W2 u6 := on2 hb5 d6
        have ps := ps.on RPod.firm d6
        have ghi1 := Nat.le_trans ghi1 (d6).size
        have zb5 := zb5.on d6
        have nd := RNode.firm.weak p6 (A' := Seg u5.heap.size u6.heap.size) (fun b hb h => ⟨h, hb⟩)
        have ghi6 : u6.heap.size ≤ u6.heap.size := Nat.le_refl _
        have glo6 := hb5.size
        have ne6Dm : ¬ Seg u5.heap.size u6.heap.size (u1.heap.size) := fun h => by have h1 := h.1; have h2 := lt6Dm; omega
        go_wp2_with fail
        refine hK.out _ _ (HS.out _ hb6) (fun hHeld2 => ?_)
        clear hK K hHeld; have hHeld := hHeld2; clear hHeld2
        try go_frame
        refine' tk 5 ?_ ?_; rotate_left
        · intro u hu; clear hu; go_simp; try with_reducible rfl
        try go_frame
        refine ts 6 (fun K hK => ?_)
        have hq7 : ms.length = 9 := RNode.firm.len nd
        have hi7 : (Try.prog.info? 27).map (·.size) = some ms.toArray.size := by have e : ms.toArray.size = 9 := (by simp [hq7]); rw [e]; exact sizeNode
        have ho7 : ms.toArray.all (·.oneCell') = true := all_oneCell_toArray (RNode.firm.one nd)
        have ht7 : u6.there (u1.heap.size) 0 ms.toArray.size := by have e : ms.toArray.size = 9 := (by simp [hq7]); rw [e]; exact zb5.there
        have hc7 : Below W2.heap.size W2 (u6.setCells (u1.heap.size) 0 ms) := below_setCells hb6 gD5
        have hp7 := (SlAt.store RPod.firm ps (D := u1.heap.size) (fun b _ h => not_seg nS5r1 b h) 0 ms).weak RPod.firm (A' := fun _ => True) (fun _ _ _ => trivial)
        have hn7 := RNode.firm.weak (Firm.store RNode.firm nd (D := u1.heap.size) (fun b _ h => not_seg ne6Dm b h) 0 ms) (A' := fun _ => True) (fun _ _ _ => trivial)
        have hx7 := box_write (cs := ms) zb5 (by rw [hq7]; rfl)
        refine want_yes (by rfl) (wp_store_mid 27 _ _ rfl (u1.heap.size) 0 ms.toArray rfl rfl ht7 hi7 ho7 ?_)
        refine hK.out undef _ (HS.out _ hc7) (fun hHeld2 => ?_)
        clear hK K hHeld; have hHeld := hHeld2; clear hHeld2
        try go_frame
        refine wpAnyH_done (by kernel_rfl) ?_ _
        refine NoPanic.normal ?_
        go_wp2_with fail
        go_meet
        exact ⟨oa, oc, u1.heap.size, ms, rfl, rfl, hp7, hx7, hn7, hc7⟩
    ·
      go_simp
      obtain ⟨u8, hu8⟩ : ∃ u8, u8 = (W2.alloc (.cells #[.string ⟨#[]⟩, .slice none 0 0, .slice none 0 0, .bool false, .int .i64 0, .int .i64 0, .int .i64 0, .int .i64 0, .int .i64 0] 27)).drew := ⟨_, rfl⟩
      have d8 : Below W2.heap.size W2 u8 := by rw [hu8]; exact ((Below.refl _ _).alloc (Nat.le_refl _) _).drew
      have hb8 : Below W2.heap.size W2 u8 := d8
      have zb8 : BoxL u8 W2.heap.size [.string ⟨#[]⟩, .slice none 0 0, .slice none 0 0, .bool false, .int .i64 0, .int .i64 0, .int .i64 0, .int .i64 0, .int .i64 0] := by rw [hu8]; exact (BoxL.new W2 27 [.string ⟨#[]⟩, .slice none 0 0, .slice none 0 0, .bool false, .int .i64 0, .int .i64 0, .int .i64 0, .int .i64 0, .int .i64 0]).on (Below.refl _ _).drew
      have gD8 : W2.heap.size ≤ W2.heap.size := hb0.size
      refine hK.out _ _ (HS.out _ (hu8 ▸ hb8)) (fun hHeld2 => ?_)
      rw [← hu8] at hHeld2 ⊢
      clear hu8
      clear hK K hHeld; have hHeld := hHeld2; clear hHeld2
      try go_frame
      refine tr 1 (fun K hK => ?_)
      have hC9 := pods_calls a n cap (fun b => b < w.heap.size) L u8 (HL.out _ (on2 B2.out hb8))
      have lt9Dm : W2.heap.size < u8.heap.size := zb8.1
      go_simp
      refine hC9.mono ?_
      rintro e u9 ⟨oa, oc, rfl, p9, d9⟩
      clear hC9
      have hb9 : Below W2.heap.size W2 u9 := on2 hb8 d9
      have zb8 := zb8.on d9
      have ps := p9.weak RPod.firm (A' := Seg u8.heap.size u9.heap.size) (fun b hb h => ⟨h, hb⟩)
      have ghi9 : u9.heap.size ≤ u9.heap.size := Nat.le_refl _
      have glo9 := hb8.size
      have ne9Dm : ¬ Seg u8.heap.size u9.heap.size (W2.heap.size) := fun h => by have h1 := h.1; have h2 := lt9Dm; omega
      go_wp2_with fail
      refine hK.out _ _ (HS.out _ hb9) (fun hHeld2 => ?_)
      clear hK K hHeld; have hHeld := hHeld2; clear hHeld2
      try go_frame
      refine tr 3 (fun K hK => ?_)
      have hC10 := Node_copy [k0, k1, k2, k3, k4, k5, k6, k7, k8] (fun b => b < w.heap.size) x u9 (HN.out _ (on2 B2.out hb9))
      have lt10Dm : W2.heap.size < u9.heap.size := zb8.1
      go_simp
      refine hC10.mono ?_
      rintro e u10 ⟨ms, rfl, p10, d10⟩
      clear hC10
      have hb10 : Below W2.heap.size W2 u10 := on2 hb9 d10
      have zb8 := zb8.on d10
      have ps := ps.on RPod.firm d10
      have ghi9 := Nat.le_trans ghi9 (d10).size
      have nd := RNode.firm.weak p10 (A' := Seg u9.heap.size u10.heap.size) (fun b hb h => ⟨h, hb⟩)
      have ghi10 : u10.heap.size ≤ u10.heap.size := Nat.le_refl _
      have glo10 := hb9.size
      have ne10Dm : ¬ Seg u9.heap.size u10.heap.size (W2.heap.size) := fun h => by have h1 := h.1; have h2 := lt10Dm; omega
      go_wp2_with fail
      refine hK.out _ _ (HS.out _ hb10) (fun hHeld2 => ?_)
      clear hK K hHeld; have hHeld := hHeld2; clear hHeld2
      try go_frame
      refine' tk 5 ?_ ?_; rotate_left
      · intro u hu; clear hu; go_simp; try with_reducible rfl
      try go_frame
      refine ts 6 (fun K hK => ?_)
      have hq11 : ms.length = 9 := RNode.firm.len nd
      have hi11 : (Try.prog.info? 27).map (·.size) = some ms.toArray.size := by have e : ms.toArray.size = 9 := (by simp [hq11]); rw [e]; exact sizeNode
      have ho11 : ms.toArray.all (·.oneCell') = true := all_oneCell_toArray (RNode.firm.one nd)
      have ht11 : u10.there (W2.heap.size) 0 ms.toArray.size := by have e : ms.toArray.size = 9 := (by simp [hq11]); rw [e]; exact zb8.there
      have hc11 : Below W2.heap.size W2 (u10.setCells (W2.heap.size) 0 ms) := below_setCells hb10 gD8
      have hp11 := (SlAt.store RPod.firm ps (D := W2.heap.size) (fun b _ h => not_seg ne9Dm b h) 0 ms).weak RPod.firm (A' := fun _ => True) (fun _ _ _ => trivial)
      have hn11 := RNode.firm.weak (Firm.store RNode.firm nd (D := W2.heap.size) (fun b _ h => not_seg ne10Dm b h) 0 ms) (A' := fun _ => True) (fun _ _ _ => trivial)
      have hx11 := box_write (cs := ms) zb8 (by rw [hq11]; rfl)
      refine want_yes (by rfl) (wp_store_mid 27 _ _ rfl (W2.heap.size) 0 ms.toArray rfl rfl ht11 hi11 ho11 ?_)
      refine hK.out undef _ (HS.out _ hc11) (fun hHeld2 => ?_)
      clear hK K hHeld; have hHeld := hHeld2; clear hHeld2
      try go_frame
      refine wpAnyH_done (by kernel_rfl) ?_ _
      refine NoPanic.normal ?_
      go_wp2_with fail
      go_meet
      exact ⟨oa, oc, W2.heap.size, ms, rfl, rfl, hp11, hx11, hn11, hc11⟩
  case rest =>
    obtain ⟨oa, oc, Dm, ms, rfl, rfl, hD⟩ := hcut
    obtain ⟨W4, hW4⟩ : ∃ W4, W4 = wc := ⟨_, rfl⟩
    rw [← hW4] at hD ⊢
    clear hW4
    have B4 : Hid (Below W2.heap.size W2 W4) := hD.out.2.2.2
    have B04 : Hid (Below w.heap.size w W4) := on2 B2.out B4.out
    have HO : Hid (∀ u, Below W4.heap.size W4 u → SlAt RPod 16 296 (fun b => b < W4.heap.size) u oa n oc L) := fun u hb => (hD.out.1.weak RPod.firm (fun b hb _ => hb)).on RPod.firm hb
    have HXm : Hid (∀ u, Below W4.heap.size W4 u → BoxL u Dm ms) := fun u hb => hD.out.2.1.on hb
    have HRm : Hid (∀ u, Below W4.heap.size W4 u → RNode (fun b => b < W4.heap.size) u ms x) := fun u hb => RNode.firm.kept (RNode.firm.weak hD.out.2.2.1 (fun b hb _ => hb)) (Kept.below hb)
    have hlm : ms.length = 9 := RNode.firm.len hD.out.2.2.1
    have him : (Try.prog.info? 27).map (·.size) = some ms.length := by rw [hlm]; exact sizeNode
    have hdm : Dm < W4.heap.size := hD.out.2.1.1
    clear hD hlm
    go_upto_region 2 with fail
    go_cut [9, 10] (fun p q wx => ∃ (Da : Nat) (fs : List Value) (lo hi Db : Nat) (gs : List Value), p = .pointer (some ⟨Da, 0, none⟩) ∧ q = .pointer (some ⟨Db, 0, none⟩) ∧ Hid (Spl (fun b => b < W4.heap.size) W4 wx Da fs lo hi X ∧ BoxL wx Db gs ∧ RInfo (fun _ => True) wx gs X))
    case first =>
      have HS : Hid (∀ u, Below W4.heap.size W4 u → (fun u => BoxL u Dm ms ∧ BoxL u w.heap.size [k0, k1, k2, k3, k4, k5, k6, k7, k8]) u) := fun u hb => ⟨HXm.out u hb, HBN.out u (on2 B4.out hb)⟩
      refine wp_region_noPanic ?_
      refine wp_region_held_drew (S := (fun u => BoxL u Dm ms ∧ BoxL u w.heap.size [k0, k1, k2, k3, k4, k5, k6, k7, k8])) (by kernel_rfl) (HS.out _ (Below.refl _ _).drew) (fun hHeld => ?_)
      have hb0 : Below W4.heap.size W4 W4.drew := (Below.refl _ _).drew
      refine' tq 0 (.agg ms.toArray) ?_ ?_
      · exact yieldsIf_load_mid rfl 27 _ rfl Dm 0 rfl ms _ (fun u hu => hu.1.range) Try.underlying27 rfl him
      try go_frame
      refine' tk 1 ?_ ?_; rotate_left
      · intro u hu; clear hu; go_simp; try with_reducible rfl
      try go_frame
      refine' tk 3 ?_ ?_; rotate_left
      · intro u hu; have cp0 := (hu.2.2 0 _ rfl).1; have cp1 := (hu.2.2 1 _ rfl).1; have cp2 := (hu.2.2 2 _ rfl).1; have cp3 := (hu.2.2 3 _ rfl).1; have cp4 := (hu.2.2 4 _ rfl).1; have cp5 := (hu.2.2 5 _ rfl).1; have cp6 := (hu.2.2 6 _ rfl).1; have cp7 := (hu.2.2 7 _ rfl).1; have cp8 := (hu.2.2 8 _ rfl).1; clear hu; go_simp; try with_reducible rfl
      try go_frame
      refine' tk 4 ?_ ?_; rotate_left
      · intro u hu; clear hu; go_simp; try with_reducible rfl
      try go_frame
      refine tc 2 6 7 (fun K hK => ?_) (fun K hK => ?_) (fun K hK => ?_)
      ·
        have hC1 := Of_calls ms oa n oc (fun b => b < W4.heap.size) (fun b => b < W4.heap.size) x L W4.drew (HRm.out _ hb0) (HO.out _ hb0) HF.out
        rw [← HXE.out] at hC1
        go_simp
        refine hC1.mono ?_
        rintro e u1 ⟨fs, rfl, p1, thr, d1⟩
        clear hC1
        have hb1 : Below W4.heap.size W4 u1 := on2 hb0 d1
        have inf := p1.weak (A' := (fun b => b < W4.heap.size)) (F' := Seg W4.drew.heap.size u1.heap.size) (fun _ _ h => h) (fun b hb h => ⟨h, hb⟩)
        have ghi1 : u1.heap.size ≤ u1.heap.size := Nat.le_refl _
        have glo1 := hb0.size
        go_wp2_with fail
        refine hK.out _ _ (HS.out _ hb1) (fun hHeld2 => ?_)
        clear hK K hHeld; have hHeld := hHeld2; clear hHeld2
        try go_frame
        refine tc 5 6 7 (fun K hK => ?_) (fun K hK => ?_) (fun K hK => ?_)
        ·
          have hC2 := rOf_calls [k0, k1, k2, k3, k4, k5, k6, k7, k8] a n cap (fun b => b < w.heap.size) (fun b => b < w.heap.size) x L u1 (HN.out _ (on2 B04.out hb1)) (HL.out _ (on2 B04.out hb1)) HF.out
          rw [← HXE.out] at hC2
          go_simp
          refine hC2.mono ?_
          rintro e u2 ⟨gs, rfl, p2, d2⟩
          clear hC2
          have hb2 : Below W4.heap.size W4 u2 := on2 hb1 d2
          have inf := inf.on d2
          have thr := thr.on d2
          have ghi1 := Nat.le_trans ghi1 (d2).size
          have inr := p2.weak (A' := (fun b => b < w.heap.size)) (F' := Seg u1.heap.size u2.heap.size) (fun _ _ h => h) (fun b hb h => ⟨h, hb⟩)
          have ghi2 : u2.heap.size ≤ u2.heap.size := Nat.le_refl _
          have glo2 := hb1.size
          go_wp2_with fail
          refine hK.out _ _ (HS.out _ hb2) (fun hHeld2 => ?_)
          clear hK K hHeld; have hHeld := hHeld2; clear hHeld2
          try go_frame
          refine tb 6 7 (fun K hK => ?_) (fun K hK => ?_)
          ·
            go_simp
            have nS3ra : ¬ Seg W4.drew.heap.size u1.heap.size (u2.heap.size) := fun h => by have h1 := h.2; have h2 := ghi1; omega
            have nS3rb : ¬ Seg u1.heap.size u2.heap.size (u2.heap.size) := fun h => by have h1 := h.2; have h2 := ghi2; omega
            obtain ⟨u3, hu3⟩ : ∃ u3, u3 = u2.alloc (.cells #[.string ⟨#[]⟩, .slice none 0 0, .slice none 0 0, .bool false, .int .i64 0, .int .i64 0, .int .i64 0, .int .i64 0, .int .i64 0, .slice none 0 0, .int .i64 0, .int .i64 0, .int .i64 0, .slice none 0 0, .slice none 0 0] 41) := ⟨_, rfl⟩
            have d3 : Below u2.heap.size u2 u3 := by rw [hu3]; exact (Below.refl _ _).alloc (Nat.le_refl _) _
            have hb3 : Below W4.heap.size W4 u3 := on2 hb2 d3
            have zb3 : BoxL u3 u2.heap.size [.string ⟨#[]⟩, .slice none 0 0, .slice none 0 0, .bool false, .int .i64 0, .int .i64 0, .int .i64 0, .int .i64 0, .int .i64 0, .slice none 0 0, .int .i64 0, .int .i64 0, .int .i64 0, .slice none 0 0, .slice none 0 0] := by rw [hu3]; exact BoxL.new u2 41 [.string ⟨#[]⟩, .slice none 0 0, .slice none 0 0, .bool false, .int .i64 0, .int .i64 0, .int .i64 0, .int .i64 0, .int .i64 0, .slice none 0 0, .int .i64 0, .int .i64 0, .int .i64 0, .slice none 0 0, .slice none 0 0]
            have gD3 : W4.heap.size ≤ u2.heap.size := hb2.size
            have inf := inf.on d3
            have thr := thr.on d3
            have ghi1 := Nat.le_trans ghi1 (d3).size
            have inr := inr.on d3
            have ghi2 := Nat.le_trans ghi2 (d3).size
            refine hK.out _ _ (HS.out _ (hu3 ▸ hb3)) (fun hHeld2 => ?_)
            rw [← hu3] at hHeld2 ⊢
            clear hu3
            clear hK K hHeld; have hHeld := hHeld2; clear hHeld2
            try go_frame
            refine tr 7 (fun K hK => ?_)
            go_simp
            have df4 : u2.heap.size < u3.heap.size := zb3.1
            have nS4ra : ¬ Seg W4.drew.heap.size u1.heap.size (u3.heap.size) := fun h => by have h1 := h.2; have h2 := ghi1; omega
            have nS4rb : ¬ Seg u1.heap.size u2.heap.size (u3.heap.size) := fun h => by have h1 := h.2; have h2 := ghi2; omega
            obtain ⟨u4, hu4⟩ : ∃ u4, u4 = u3.alloc (.cells #[.string ⟨#[]⟩, .slice none 0 0, .slice none 0 0, .bool false, .int .i64 0, .int .i64 0, .int .i64 0, .int .i64 0, .int .i64 0, .slice none 0 0, .int .i64 0, .int .i64 0, .int .i64 0, .slice none 0 0, .slice none 0 0] 41) := ⟨_, rfl⟩
            have d4 : Below u3.heap.size u3 u4 := by rw [hu4]; exact (Below.refl _ _).alloc (Nat.le_refl _) _
            have hb4 : Below W4.heap.size W4 u4 := on2 hb3 d4
            have zb4 : BoxL u4 u3.heap.size [.string ⟨#[]⟩, .slice none 0 0, .slice none 0 0, .bool false, .int .i64 0, .int .i64 0, .int .i64 0, .int .i64 0, .int .i64 0, .slice none 0 0, .int .i64 0, .int .i64 0, .int .i64 0, .slice none 0 0, .slice none 0 0] := by rw [hu4]; exact BoxL.new u3 41 [.string ⟨#[]⟩, .slice none 0 0, .slice none 0 0, .bool false, .int .i64 0, .int .i64 0, .int .i64 0, .int .i64 0, .int .i64 0, .slice none 0 0, .int .i64 0, .int .i64 0, .int .i64 0, .slice none 0 0, .slice none 0 0]
            have gD4 : W4.heap.size ≤ u3.heap.size := hb3.size
            have inf := inf.on d4
            have thr := thr.on d4
            have ghi1 := Nat.le_trans ghi1 (d4).size
            have inr := inr.on d4
            have ghi2 := Nat.le_trans ghi2 (d4).size
            have zb3 := zb3.on d4
            refine hK.out _ _ (HS.out _ (hu4 ▸ hb4)) (fun hHeld2 => ?_)
            rw [← hu4] at hHeld2 ⊢
            clear hu4
            clear hK K hHeld; have hHeld := hHeld2; clear hHeld2
            try go_frame
            refine ts 8 (fun K hK => ?_)
            have hq5 : fs.length = 15 := inf.len
            have hi5 : (Try.prog.info? 41).map (·.size) = some fs.toArray.size := by have e : fs.toArray.size = 15 := (by simp [hq5]); rw [e]; exact sizeInfo
            have ho5 : fs.toArray.all (·.oneCell') = true := all_oneCell_toArray inf.one
            have ht5 : u4.there (u2.heap.size) 0 fs.toArray.size := by have e : fs.toArray.size = 15 := (by simp [hq5]); rw [e]; exact zb3.there
            have hc5 : Below W4.heap.size W4 (u4.setCells (u2.heap.size) 0 fs) := below_setCells hb4 gD3
            have sp5 := spl_mk (w := W4) (lst := fs) zb3 inf thr hb4 gD3 gD3 glo1 ghi1 nS3ra (by rw [hq5]; rfl)
            have ir5 := inr.store (D := u2.heap.size) (fun b _ h => by rcases h with h | h; (have h1 : b < w.heap.size := h; have h2 := B04.out.size; have h3 := gD3; omega); exact not_seg nS3rb b h) 0 fs
            have zc5 : BoxL (u4.setCells (u2.heap.size) 0 fs) (u3.heap.size) [.string ⟨#[]⟩, .slice none 0 0, .slice none 0 0, .bool false, .int .i64 0, .int .i64 0, .int .i64 0, .int .i64 0, .int .i64 0, .slice none 0 0, .int .i64 0, .int .i64 0, .int .i64 0, .slice none 0 0, .slice none 0 0] := zb4.kept (A := fun b => b ≠ u2.heap.size) (kept_setCells (fun h => h rfl)) (by have := df4; omega)
            refine want_yes (by rfl) (wp_store_mid 41 _ _ rfl (u2.heap.size) 0 fs.toArray rfl rfl ht5 hi5 ho5 ?_)
            refine hK.out undef _ (HS.out _ hc5) (fun hHeld2 => ?_)
            clear hK K hHeld; have hHeld := hHeld2; clear hHeld2
            try go_frame
            refine ts 9 (fun K hK => ?_)
            have hq6 : gs.length = 15 := inr.len
            have hi6 : (Try.prog.info? 41).map (·.size) = some gs.toArray.size := by have e : gs.toArray.size = 15 := (by simp [hq6]); rw [e]; exact sizeInfo
            have ho6 : gs.toArray.all (·.oneCell') = true := all_oneCell_toArray inr.one
            have ht6 : (u4.setCells (u2.heap.size) 0 fs).there (u3.heap.size) 0 gs.toArray.size := by have e : gs.toArray.size = 15 := (by simp [hq6]); rw [e]; exact zc5.there
            have hc6 : Below W4.heap.size W4 ((u4.setCells (u2.heap.size) 0 fs).setCells (u3.heap.size) 0 gs) := below_setCells hc5 gD4
            have sq6 := spl_store sp5 gD4 (show u3.heap.size ≠ u2.heap.size by have := df4; omega) nS4ra gs
            have iq6 := RInfo.firm.weak (ir5.store (D := u3.heap.size) (fun b _ h => by rcases h with h | h; (have h1 : b < w.heap.size := h; have h2 := B04.out.size; have h3 := gD4; omega); exact not_seg nS4rb b h) 0 gs).info (A' := fun _ => True) (fun _ _ _ => trivial)
            have bx6 := box_write (cs := gs) zc5 (by rw [hq6]; rfl)
            refine want_yes (by rfl) (wp_store_mid 41 _ _ rfl (u3.heap.size) 0 gs.toArray rfl rfl ht6 hi6 ho6 ?_)
            refine hK.out undef _ (HS.out _ hc6) (fun hHeld2 => ?_)
            clear hK K hHeld; have hHeld := hHeld2; clear hHeld2
            try go_frame
            refine wpAnyH_done (by kernel_rfl) ?_ _
            refine NoPanic.normal ?_
            go_wp2_with fail
            go_meet
            exact ⟨u2.heap.size, fs, _, _, u3.heap.size, gs, rfl, rfl, sq6, bx6, iq6⟩
          ·
            go_simp
            have nS7ra : ¬ Seg W4.drew.heap.size u1.heap.size (u2.heap.size) := fun h => by have h1 := h.2; have h2 := ghi1; omega
            have nS7rb : ¬ Seg u1.heap.size u2.heap.size (u2.heap.size) := fun h => by have h1 := h.2; have h2 := ghi2; omega
            obtain ⟨u7, hu7⟩ : ∃ u7, u7 = u2.alloc (.cells #[.string ⟨#[]⟩, .slice none 0 0, .slice none 0 0, .bool false, .int .i64 0, .int .i64 0, .int .i64 0, .int .i64 0, .int .i64 0, .slice none 0 0, .int .i64 0, .int .i64 0, .int .i64 0, .slice none 0 0, .slice none 0 0] 41) := ⟨_, rfl⟩
            have d7 : Below u2.heap.size u2 u7 := by rw [hu7]; exact (Below.refl _ _).alloc (Nat.le_refl _) _
            have hb7 : Below W4.heap.size W4 u7 := on2 hb2 d7
            have zb7 : BoxL u7 u2.heap.size [.string ⟨#[]⟩, .slice none 0 0, .slice none 0 0, .bool false, .int .i64 0, .int .i64 0, .int .i64 0, .int .i64 0, .int .i64 0, .slice none 0 0, .int .i64 0, .int .i64 0, .int .i64 0, .slice none 0 0, .slice none 0 0] := by rw [hu7]; exact BoxL.new u2 41 [.string ⟨#[]⟩, .slice none 0 0, .slice none 0 0, .bool false, .int .i64 0, .int .i64 0, .int .i64 0, .int .i64 0, .int .i64 0, .slice none 0 0, .int .i64 0, .int .i64 0, .int .i64 0, .slice none 0 0, .slice none 0 0]
            have gD7 : W4.heap.size ≤ u2.heap.size := hb2.size
            have inf := inf.on d7
            have thr := thr.on d7
            have ghi1 := Nat.le_trans ghi1 (d7).size
            have inr := inr.on d7
            have ghi2 := Nat.le_trans ghi2 (d7).size
            refine hK.out _ _ (HS.out _ (hu7 ▸ hb7)) (fun hHeld2 => ?_)
            rw [← hu7] at hHeld2 ⊢
            clear hu7
            clear hK K hHeld; have hHeld := hHeld2; clear hHeld2
            try go_frame
            refine tr 6 (fun K hK => ?_)
            go_simp
            have df8 : u2.heap.size < u7.heap.size := zb7.1
            have nS8ra : ¬ Seg W4.drew.heap.size u1.heap.size (u7.heap.size) := fun h => by have h1 := h.2; have h2 := ghi1; omega
            have nS8rb : ¬ Seg u1.heap.size u2.heap.size (u7.heap.size) := fun h => by have h1 := h.2; have h2 := ghi2; omega
            obtain ⟨u8, hu8⟩ : ∃ u8, u8 = u7.alloc (.cells #[.string ⟨#[]⟩, .slice none 0 0, .slice none 0 0, .bool false, .int .i64 0, .int .i64 0, .int .i64 0, .int .i64 0, .int .i64 0, .slice none 0 0, .int .i64 0, .int .i64 0, .int .i64 0, .slice none 0 0, .slice none 0 0] 41) := ⟨_, rfl⟩
            have d8 : Below u7.heap.size u7 u8 := by rw [hu8]; exact (Below.refl _ _).alloc (Nat.le_refl _) _
            have hb8 : Below W4.heap.size W4 u8 := on2 hb7 d8
            have zb8 : BoxL u8 u7.heap.size [.string ⟨#[]⟩, .slice none 0 0, .slice none 0 0, .bool false, .int .i64 0, .int .i64 0, .int .i64 0, .int .i64 0, .int .i64 0, .slice none 0 0, .int .i64 0, .int .i64 0, .int .i64 0, .slice none 0 0, .slice none 0 0] := by rw [hu8]; exact BoxL.new u7 41 [.string ⟨#[]⟩, .slice none 0 0, .slice none 0 0, .bool false, .int .i64 0, .int .i64 0, .int .i64 0, .int .i64 0, .int .i64 0, .slice none 0 0, .int .i64 0, .int .i64 0, .int .i64 0, .slice none 0 0, .slice none 0 0]
            have gD8 : W4.heap.size ≤ u7.heap.size := hb7.size
            have inf := inf.on d8
            have thr := thr.on d8
            have ghi1 := Nat.le_trans ghi1 (d8).size
            have inr := inr.on d8
            have ghi2 := Nat.le_trans ghi2 (d8).size
            have zb7 := zb7.on d8
            refine hK.out _ _ (HS.out _ (hu8 ▸ hb8)) (fun hHeld2 => ?_)
            rw [← hu8] at hHeld2 ⊢
            clear hu8
            clear hK K hHeld; have hHeld := hHeld2; clear hHeld2
            try go_frame
            refine ts 8 (fun K hK => ?_)
            have hq9 : fs.length = 15 := inf.len
            have hi9 : (Try.prog.info? 41).map (·.size) = some fs.toArray.size := by have e : fs.toArray.size = 15 := (by simp [hq9]); rw [e]; exact sizeInfo
            have ho9 : fs.toArray.all (·.oneCell') = true := all_oneCell_toArray inf.one
            have ht9 : u8.there (u7.heap.size) 0 fs.toArray.size := by have e : fs.toArray.size = 15 := (by simp [hq9]); rw [e]; exact zb8.there
            have hc9 : Below W4.heap.size W4 (u8.setCells (u7.heap.size) 0 fs) := below_setCells hb8 gD8
            have sp9 := spl_mk (w := W4) (lst := fs) zb8 inf thr hb8 gD8 gD8 glo1 ghi1 nS8ra (by rw [hq9]; rfl)
            have ir9 := inr.store (D := u7.heap.size) (fun b _ h => by rcases h with h | h; (have h1 : b < w.heap.size := h; have h2 := B04.out.size; have h3 := gD8; omega); exact not_seg nS8rb b h) 0 fs
            have zc9 : BoxL (u8.setCells (u7.heap.size) 0 fs) (u2.heap.size) [.string ⟨#[]⟩, .slice none 0 0, .slice none 0 0, .bool false, .int .i64 0, .int .i64 0, .int .i64 0, .int .i64 0, .int .i64 0, .slice none 0 0, .int .i64 0, .int .i64 0, .int .i64 0, .slice none 0 0, .slice none 0 0] := zb7.kept (A := fun b => b ≠ u7.heap.size) (kept_setCells (fun h => h rfl)) (by have := df8; omega)
            refine want_yes (by rfl) (wp_store_mid 41 _ _ rfl (u7.heap.size) 0 fs.toArray rfl rfl ht9 hi9 ho9 ?_)
            refine hK.out undef _ (HS.out _ hc9) (fun hHeld2 => ?_)
            clear hK K hHeld; have hHeld := hHeld2; clear hHeld2
            try go_frame
            refine ts 9 (fun K hK => ?_)
            have hq10 : gs.length = 15 := inr.len
            have hi10 : (Try.prog.info? 41).map (·.size) = some gs.toArray.size := by have e : gs.toArray.size = 15 := (by simp [hq10]); rw [e]; exact sizeInfo
            have ho10 : gs.toArray.all (·.oneCell') = true := all_oneCell_toArray inr.one
            have ht10 : (u8.setCells (u7.heap.size) 0 fs).there (u2.heap.size) 0 gs.toArray.size := by have e : gs.toArray.size = 15 := (by simp [hq10]); rw [e]; exact zc9.there
            have hc10 : Below W4.heap.size W4 ((u8.setCells (u7.heap.size) 0 fs).setCells (u2.heap.size) 0 gs) := below_setCells hc9 gD7
            have sq10 := spl_store sp9 gD7 (show u2.heap.size ≠ u7.heap.size by have := df8; omega) nS7ra gs
            have iq10 := RInfo.firm.weak (ir9.store (D := u2.heap.size) (fun b _ h => by rcases h with h | h; (have h1 : b < w.heap.size := h; have h2 := B04.out.size; have h3 := gD7; omega); exact not_seg nS7rb b h) 0 gs).info (A' := fun _ => True) (fun _ _ _ => trivial)
            have bx10 := box_write (cs := gs) zc9 (by rw [hq10]; rfl)
            refine want_yes (by rfl) (wp_store_mid 41 _ _ rfl (u2.heap.size) 0 gs.toArray rfl rfl ht10 hi10 ho10 ?_)
            refine hK.out undef _ (HS.out _ hc10) (fun hHeld2 => ?_)
            clear hK K hHeld; have hHeld := hHeld2; clear hHeld2
            try go_frame
            refine wpAnyH_done (by kernel_rfl) ?_ _
            refine NoPanic.normal ?_
            go_wp2_with fail
            go_meet
            exact ⟨u7.heap.size, fs, _, _, u2.heap.size, gs, rfl, rfl, sq10, bx10, iq10⟩
        ·
          go_simp
          have nS11ra : ¬ Seg W4.drew.heap.size u1.heap.size (u1.heap.size) := fun h => by have h1 := h.2; have h2 := ghi1; omega
          obtain ⟨u11, hu11⟩ : ∃ u11, u11 = u1.alloc (.cells #[.string ⟨#[]⟩, .slice none 0 0, .slice none 0 0, .bool false, .int .i64 0, .int .i64 0, .int .i64 0, .int .i64 0, .int .i64 0, .slice none 0 0, .int .i64 0, .int .i64 0, .int .i64 0, .slice none 0 0, .slice none 0 0] 41) := ⟨_, rfl⟩
          have d11 : Below u1.heap.size u1 u11 := by rw [hu11]; exact (Below.refl _ _).alloc (Nat.le_refl _) _
          have hb11 : Below W4.heap.size W4 u11 := on2 hb1 d11
          have zb11 : BoxL u11 u1.heap.size [.string ⟨#[]⟩, .slice none 0 0, .slice none 0 0, .bool false, .int .i64 0, .int .i64 0, .int .i64 0, .int .i64 0, .int .i64 0, .slice none 0 0, .int .i64 0, .int .i64 0, .int .i64 0, .slice none 0 0, .slice none 0 0] := by rw [hu11]; exact BoxL.new u1 41 [.string ⟨#[]⟩, .slice none 0 0, .slice none 0 0, .bool false, .int .i64 0, .int .i64 0, .int .i64 0, .int .i64 0, .int .i64 0, .slice none 0 0, .int .i64 0, .int .i64 0, .int .i64 0, .slice none 0 0, .slice none 0 0]
          have gD11 : W4.heap.size ≤ u1.heap.size := hb1.size
          have inf := inf.on d11
          have thr := thr.on d11
          have ghi1 := Nat.le_trans ghi1 (d11).size
          refine hK.out _ _ (HS.out _ (hu11 ▸ hb11)) (fun hHeld2 => ?_)
          rw [← hu11] at hHeld2 ⊢
          clear hu11
          clear hK K hHeld; have hHeld := hHeld2; clear hHeld2
          try go_frame
          refine tb 5 7 (fun K hK => ?_) (fun K hK => ?_)
          ·
            have hC12 := rOf_calls [k0, k1, k2, k3, k4, k5, k6, k7, k8] a n cap (fun b => b < w.heap.size) (fun b => b < w.heap.size) x L u11 (HN.out _ (on2 B04.out hb11)) (HL.out _ (on2 B04.out hb11)) HF.out
            have lt12Da : u1.heap.size < u11.heap.size := zb11.1
            rw [← HXE.out] at hC12
            go_simp
            refine hC12.mono ?_
            rintro e u12 ⟨gs, rfl, p12, d12⟩
            clear hC12
            have hb12 : Below W4.heap.size W4 u12 := on2 hb11 d12
            have inf := inf.on d12
            have thr := thr.on d12
            have ghi1 := Nat.le_trans ghi1 (d12).size
            have zb11 := zb11.on d12
            have inr := p12.weak (A' := (fun b => b < w.heap.size)) (F' := Seg u11.heap.size u12.heap.size) (fun _ _ h => h) (fun b hb h => ⟨h, hb⟩)
            have ghi12 : u12.heap.size ≤ u12.heap.size := Nat.le_refl _
            have glo12 := hb11.size
            have ne12Da : ¬ Seg u11.heap.size u12.heap.size (u1.heap.size) := fun h => by have h1 := h.1; have h2 := lt12Da; omega
            go_wp2_with fail
            refine hK.out _ _ (HS.out _ hb12) (fun hHeld2 => ?_)
            clear hK K hHeld; have hHeld := hHeld2; clear hHeld2
            try go_frame
            refine tr 7 (fun K hK => ?_)
            go_simp
            have df13 : u1.heap.size < u12.heap.size := zb11.1
            have nS13ra : ¬ Seg W4.drew.heap.size u1.heap.size (u12.heap.size) := fun h => by have h1 := h.2; have h2 := ghi1; omega
            have nS13rb : ¬ Seg u11.heap.size u12.heap.size (u12.heap.size) := fun h => by have h1 := h.2; have h2 := ghi12; omega
            obtain ⟨u13, hu13⟩ : ∃ u13, u13 = u12.alloc (.cells #[.string ⟨#[]⟩, .slice none 0 0, .slice none 0 0, .bool false, .int .i64 0, .int .i64 0, .int .i64 0, .int .i64 0, .int .i64 0, .slice none 0 0, .int .i64 0, .int .i64 0, .int .i64 0, .slice none 0 0, .slice none 0 0] 41) := ⟨_, rfl⟩
            have d13 : Below u12.heap.size u12 u13 := by rw [hu13]; exact (Below.refl _ _).alloc (Nat.le_refl _) _
            have hb13 : Below W4.heap.size W4 u13 := on2 hb12 d13
            have zb13 : BoxL u13 u12.heap.size [.string ⟨#[]⟩, .slice none 0 0, .slice none 0 0, .bool false, .int .i64 0, .int .i64 0, .int .i64 0, .int .i64 0, .int .i64 0, .slice none 0 0, .int .i64 0, .int .i64 0, .int .i64 0, .slice none 0 0, .slice none 0 0] := by rw [hu13]; exact BoxL.new u12 41 [.string ⟨#[]⟩, .slice none 0 0, .slice none 0 0, .bool false, .int .i64 0, .int .i64 0, .int .i64 0, .int .i64 0, .int .i64 0, .slice none 0 0, .int .i64 0, .int .i64 0, .int .i64 0, .slice none 0 0, .slice none 0 0]
            have gD13 : W4.heap.size ≤ u12.heap.size := hb12.size
            have inf := inf.on d13
            have thr := thr.on d13
            have ghi1 := Nat.le_trans ghi1 (d13).size
            have zb11 := zb11.on d13
            have inr := inr.on d13
            have ghi12 := Nat.le_trans ghi12 (d13).size
            refine hK.out _ _ (HS.out _ (hu13 ▸ hb13)) (fun hHeld2 => ?_)
            rw [← hu13] at hHeld2 ⊢
            clear hu13
            clear hK K hHeld; have hHeld := hHeld2; clear hHeld2
            try go_frame
            refine ts 8 (fun K hK => ?_)
            have hq14 : fs.length = 15 := inf.len
            have hi14 : (Try.prog.info? 41).map (·.size) = some fs.toArray.size := by have e : fs.toArray.size = 15 := (by simp [hq14]); rw [e]; exact sizeInfo
            have ho14 : fs.toArray.all (·.oneCell') = true := all_oneCell_toArray inf.one
            have ht14 : u13.there (u1.heap.size) 0 fs.toArray.size := by have e : fs.toArray.size = 15 := (by simp [hq14]); rw [e]; exact zb11.there
            have hc14 : Below W4.heap.size W4 (u13.setCells (u1.heap.size) 0 fs) := below_setCells hb13 gD11
            have sp14 := spl_mk (w := W4) (lst := fs) zb11 inf thr hb13 gD11 gD11 glo1 ghi1 nS11ra (by rw [hq14]; rfl)
            have ir14 := inr.store (D := u1.heap.size) (fun b _ h => by rcases h with h | h; (have h1 : b < w.heap.size := h; have h2 := B04.out.size; have h3 := gD11; omega); exact not_seg ne12Da b h) 0 fs
            have zc14 : BoxL (u13.setCells (u1.heap.size) 0 fs) (u12.heap.size) [.string ⟨#[]⟩, .slice none 0 0, .slice none 0 0, .bool false, .int .i64 0, .int .i64 0, .int .i64 0, .int .i64 0, .int .i64 0, .slice none 0 0, .int .i64 0, .int .i64 0, .int .i64 0, .slice none 0 0, .slice none 0 0] := zb13.kept (A := fun b => b ≠ u1.heap.size) (kept_setCells (fun h => h rfl)) (by have := df13; omega)
            refine want_yes (by rfl) (wp_store_mid 41 _ _ rfl (u1.heap.size) 0 fs.toArray rfl rfl ht14 hi14 ho14 ?_)
            refine hK.out undef _ (HS.out _ hc14) (fun hHeld2 => ?_)
            clear hK K hHeld; have hHeld := hHeld2; clear hHeld2
            try go_frame
            refine ts 9 (fun K hK => ?_)
            have hq15 : gs.length = 15 := inr.len
            have hi15 : (Try.prog.info? 41).map (·.size) = some gs.toArray.size := by have e : gs.toArray.size = 15 := (by simp [hq15]); rw [e]; exact sizeInfo
            have ho15 : gs.toArray.all (·.oneCell') = true := all_oneCell_toArray inr.one
            have ht15 : (u13.setCells (u1.heap.size) 0 fs).there (u12.heap.size) 0 gs.toArray.size := by have e : gs.toArray.size = 15 := (by simp [hq15]); rw [e]; exact zc14.there
            have hc15 : Below W4.heap.size W4 ((u13.setCells (u1.heap.size) 0 fs).setCells (u12.heap.size) 0 gs) := below_setCells hc14 gD13
            have sq15 := spl_store sp14 gD13 (show u12.heap.size ≠ u1.heap.size by have := df13; omega) nS13ra gs
            have iq15 := RInfo.firm.weak (ir14.store (D := u12.heap.size) (fun b _ h => by rcases h with h | h; (have h1 : b < w.heap.size := h; have h2 := B04.out.size; have h3 := gD13; omega); exact not_seg nS13rb b h) 0 gs).info (A' := fun _ => True) (fun _ _ _ => trivial)
            have bx15 := box_write (cs := gs) zc14 (by rw [hq15]; rfl)
            refine want_yes (by rfl) (wp_store_mid 41 _ _ rfl (u12.heap.size) 0 gs.toArray rfl rfl ht15 hi15 ho15 ?_)
            refine hK.out undef _ (HS.out _ hc15) (fun hHeld2 => ?_)
            clear hK K hHeld; have hHeld := hHeld2; clear hHeld2
            try go_frame
            refine wpAnyH_done (by kernel_rfl) ?_ _
            refine NoPanic.normal ?_
            go_wp2_with fail
            go_meet
            exact ⟨u1.heap.size, fs, _, _, u12.heap.size, gs, rfl, rfl, sq15, bx15, iq15⟩
          ·
            go_simp
            have df16 : u1.heap.size < u11.heap.size := zb11.1
            have nS16ra : ¬ Seg W4.drew.heap.size u1.heap.size (u11.heap.size) := fun h => by have h1 := h.2; have h2 := ghi1; omega
            obtain ⟨u16, hu16⟩ : ∃ u16, u16 = u11.alloc (.cells #[.string ⟨#[]⟩, .slice none 0 0, .slice none 0 0, .bool false, .int .i64 0, .int .i64 0, .int .i64 0, .int .i64 0, .int .i64 0, .slice none 0 0, .int .i64 0, .int .i64 0, .int .i64 0, .slice none 0 0, .slice none 0 0] 41) := ⟨_, rfl⟩
            have d16 : Below u11.heap.size u11 u16 := by rw [hu16]; exact (Below.refl _ _).alloc (Nat.le_refl _) _
            have hb16 : Below W4.heap.size W4 u16 := on2 hb11 d16
            have zb16 : BoxL u16 u11.heap.size [.string ⟨#[]⟩, .slice none 0 0, .slice none 0 0, .bool false, .int .i64 0, .int .i64 0, .int .i64 0, .int .i64 0, .int .i64 0, .slice none 0 0, .int .i64 0, .int .i64 0, .int .i64 0, .slice none 0 0, .slice none 0 0] := by rw [hu16]; exact BoxL.new u11 41 [.string ⟨#[]⟩, .slice none 0 0, .slice none 0 0, .bool false, .int .i64 0, .int .i64 0, .int .i64 0, .int .i64 0, .int .i64 0, .slice none 0 0, .int .i64 0, .int .i64 0, .int .i64 0, .slice none 0 0, .slice none 0 0]
            have gD16 : W4.heap.size ≤ u11.heap.size := hb11.size
            have inf := inf.on d16
            have thr := thr.on d16
            have ghi1 := Nat.le_trans ghi1 (d16).size
            have zb11 := zb11.on d16
            refine hK.out _ _ (HS.out _ (hu16 ▸ hb16)) (fun hHeld2 => ?_)
            rw [← hu16] at hHeld2 ⊢
            clear hu16
            clear hK K hHeld; have hHeld := hHeld2; clear hHeld2
            try go_frame
            refine tr 5 (fun K hK => ?_)
            have hC17 := rOf_calls [k0, k1, k2, k3, k4, k5, k6, k7, k8] a n cap (fun b => b < w.heap.size) (fun b => b < w.heap.size) x L u16 (HN.out _ (on2 B04.out hb16)) (HL.out _ (on2 B04.out hb16)) HF.out
            have lt17Da : u1.heap.size < u16.heap.size := zb11.1
            have lt17Db : u11.heap.size < u16.heap.size := zb16.1
            rw [← HXE.out] at hC17
            go_simp
            refine hC17.mono ?_
            rintro e u17 ⟨gs, rfl, p17, d17⟩
            clear hC17
            have hb17 : Below W4.heap.size W4 u17 := on2 hb16 d17
            have inf := inf.on d17
            have thr := thr.on d17
            have ghi1 := Nat.le_trans ghi1 (d17).size
            have zb11 := zb11.on d17
            have zb16 := zb16.on d17
            have inr := p17.weak (A' := (fun b => b < w.heap.size)) (F' := Seg u16.heap.size u17.heap.size) (fun _ _ h => h) (fun b hb h => ⟨h, hb⟩)
            have ghi17 : u17.heap.size ≤ u17.heap.size := Nat.le_refl _
            have glo17 := hb16.size
            have ne17Da : ¬ Seg u16.heap.size u17.heap.size (u1.heap.size) := fun h => by have h1 := h.1; have h2 := lt17Da; omega
            have ne17Db : ¬ Seg u16.heap.size u17.heap.size (u11.heap.size) := fun h => by have h1 := h.1; have h2 := lt17Db; omega
            go_wp2_with fail
            refine hK.out _ _ (HS.out _ hb17) (fun hHeld2 => ?_)
            clear hK K hHeld; have hHeld := hHeld2; clear hHeld2
            try go_frame
            refine ts 8 (fun K hK => ?_)
            have hq18 : fs.length = 15 := inf.len
            have hi18 : (Try.prog.info? 41).map (·.size) = some fs.toArray.size := by have e : fs.toArray.size = 15 := (by simp [hq18]); rw [e]; exact sizeInfo
            have ho18 : fs.toArray.all (·.oneCell') = true := all_oneCell_toArray inf.one
            have ht18 : u17.there (u1.heap.size) 0 fs.toArray.size := by have e : fs.toArray.size = 15 := (by simp [hq18]); rw [e]; exact zb11.there
            have hc18 : Below W4.heap.size W4 (u17.setCells (u1.heap.size) 0 fs) := below_setCells hb17 gD11
            have sp18 := spl_mk (w := W4) (lst := fs) zb11 inf thr hb17 gD11 gD11 glo1 ghi1 nS11ra (by rw [hq18]; rfl)
            have ir18 := inr.store (D := u1.heap.size) (fun b _ h => by rcases h with h | h; (have h1 : b < w.heap.size := h; have h2 := B04.out.size; have h3 := gD11; omega); exact not_seg ne17Da b h) 0 fs
            have zc18 : BoxL (u17.setCells (u1.heap.size) 0 fs) (u11.heap.size) [.string ⟨#[]⟩, .slice none 0 0, .slice none 0 0, .bool false, .int .i64 0, .int .i64 0, .int .i64 0, .int .i64 0, .int .i64 0, .slice none 0 0, .int .i64 0, .int .i64 0, .int .i64 0, .slice none 0 0, .slice none 0 0] := zb16.kept (A := fun b => b ≠ u1.heap.size) (kept_setCells (fun h => h rfl)) (by have := df16; omega)
            refine want_yes (by rfl) (wp_store_mid 41 _ _ rfl (u1.heap.size) 0 fs.toArray rfl rfl ht18 hi18 ho18 ?_)
            refine hK.out undef _ (HS.out _ hc18) (fun hHeld2 => ?_)
            clear hK K hHeld; have hHeld := hHeld2; clear hHeld2
            try go_frame
            refine ts 9 (fun K hK => ?_)
            have hq19 : gs.length = 15 := inr.len
            have hi19 : (Try.prog.info? 41).map (·.size) = some gs.toArray.size := by have e : gs.toArray.size = 15 := (by simp [hq19]); rw [e]; exact sizeInfo
            have ho19 : gs.toArray.all (·.oneCell') = true := all_oneCell_toArray inr.one
            have ht19 : (u17.setCells (u1.heap.size) 0 fs).there (u11.heap.size) 0 gs.toArray.size := by have e : gs.toArray.size = 15 := (by simp [hq19]); rw [e]; exact zc18.there
            have hc19 : Below W4.heap.size W4 ((u17.setCells (u1.heap.size) 0 fs).setCells (u11.heap.size) 0 gs) := below_setCells hc18 gD16
            have sq19 := spl_store sp18 gD16 (show u11.heap.size ≠ u1.heap.size by have := df16; omega) nS16ra gs
            have iq19 := RInfo.firm.weak (ir18.store (D := u11.heap.size) (fun b _ h => by rcases h with h | h; (have h1 : b < w.heap.size := h; have h2 := B04.out.size; have h3 := gD16; omega); exact not_seg ne17Db b h) 0 gs).info (A' := fun _ => True) (fun _ _ _ => trivial)
            have bx19 := box_write (cs := gs) zc18 (by rw [hq19]; rfl)
            refine want_yes (by rfl) (wp_store_mid 41 _ _ rfl (u11.heap.size) 0 gs.toArray rfl rfl ht19 hi19 ho19 ?_)
            refine hK.out undef _ (HS.out _ hc19) (fun hHeld2 => ?_)
            clear hK K hHeld; have hHeld := hHeld2; clear hHeld2
            try go_frame
            refine wpAnyH_done (by kernel_rfl) ?_ _
            refine NoPanic.normal ?_
            go_wp2_with fail
            go_meet
            exact ⟨u1.heap.size, fs, _, _, u11.heap.size, gs, rfl, rfl, sq19, bx19, iq19⟩
        ·
          go_simp
          have nS20ra : ¬ Seg W4.drew.heap.size u1.heap.size (u1.heap.size) := fun h => by have h1 := h.2; have h2 := ghi1; omega
          obtain ⟨u20, hu20⟩ : ∃ u20, u20 = u1.alloc (.cells #[.string ⟨#[]⟩, .slice none 0 0, .slice none 0 0, .bool false, .int .i64 0, .int .i64 0, .int .i64 0, .int .i64 0, .int .i64 0, .slice none 0 0, .int .i64 0, .int .i64 0, .int .i64 0, .slice none 0 0, .slice none 0 0] 41) := ⟨_, rfl⟩
          have d20 : Below u1.heap.size u1 u20 := by rw [hu20]; exact (Below.refl _ _).alloc (Nat.le_refl _) _
          have hb20 : Below W4.heap.size W4 u20 := on2 hb1 d20
          have zb20 : BoxL u20 u1.heap.size [.string ⟨#[]⟩, .slice none 0 0, .slice none 0 0, .bool false, .int .i64 0, .int .i64 0, .int .i64 0, .int .i64 0, .int .i64 0, .slice none 0 0, .int .i64 0, .int .i64 0, .int .i64 0, .slice none 0 0, .slice none 0 0] := by rw [hu20]; exact BoxL.new u1 41 [.string ⟨#[]⟩, .slice none 0 0, .slice none 0 0, .bool false, .int .i64 0, .int .i64 0, .int .i64 0, .int .i64 0, .int .i64 0, .slice none 0 0, .int .i64 0, .int .i64 0, .int .i64 0, .slice none 0 0, .slice none 0 0]
          have gD20 : W4.heap.size ≤ u1.heap.size := hb1.size
          have inf := inf.on d20
          have thr := thr.on d20
          have ghi1 := Nat.le_trans ghi1 (d20).size
          refine hK.out _ _ (HS.out _ (hu20 ▸ hb20)) (fun hHeld2 => ?_)
          rw [← hu20] at hHeld2 ⊢
          clear hu20
          clear hK K hHeld; have hHeld := hHeld2; clear hHeld2
          try go_frame
          refine tb 5 6 (fun K hK => ?_) (fun K hK => ?_)
          ·
            have hC21 := rOf_calls [k0, k1, k2, k3, k4, k5, k6, k7, k8] a n cap (fun b => b < w.heap.size) (fun b => b < w.heap.size) x L u20 (HN.out _ (on2 B04.out hb20)) (HL.out _ (on2 B04.out hb20)) HF.out
            have lt21Db : u1.heap.size < u20.heap.size := zb20.1
            rw [← HXE.out] at hC21
            go_simp
            refine hC21.mono ?_
            rintro e u21 ⟨gs, rfl, p21, d21⟩
            clear hC21
            have hb21 : Below W4.heap.size W4 u21 := on2 hb20 d21
            have inf := inf.on d21
            have thr := thr.on d21
            have ghi1 := Nat.le_trans ghi1 (d21).size
            have zb20 := zb20.on d21
            have inr := p21.weak (A' := (fun b => b < w.heap.size)) (F' := Seg u20.heap.size u21.heap.size) (fun _ _ h => h) (fun b hb h => ⟨h, hb⟩)
            have ghi21 : u21.heap.size ≤ u21.heap.size := Nat.le_refl _
            have glo21 := hb20.size
            have ne21Db : ¬ Seg u20.heap.size u21.heap.size (u1.heap.size) := fun h => by have h1 := h.1; have h2 := lt21Db; omega
            go_wp2_with fail
            refine hK.out _ _ (HS.out _ hb21) (fun hHeld2 => ?_)
            clear hK K hHeld; have hHeld := hHeld2; clear hHeld2
            try go_frame
            refine tr 6 (fun K hK => ?_)
            go_simp
            have df22 : u1.heap.size < u21.heap.size := zb20.1
            have nS22ra : ¬ Seg W4.drew.heap.size u1.heap.size (u21.heap.size) := fun h => by have h1 := h.2; have h2 := ghi1; omega
            have nS22rb : ¬ Seg u20.heap.size u21.heap.size (u21.heap.size) := fun h => by have h1 := h.2; have h2 := ghi21; omega
            obtain ⟨u22, hu22⟩ : ∃ u22, u22 = u21.alloc (.cells #[.string ⟨#[]⟩, .slice none 0 0, .slice none 0 0, .bool false, .int .i64 0, .int .i64 0, .int .i64 0, .int .i64 0, .int .i64 0, .slice none 0 0, .int .i64 0, .int .i64 0, .int .i64 0, .slice none 0 0, .slice none 0 0] 41) := ⟨_, rfl⟩
            have d22 : Below u21.heap.size u21 u22 := by rw [hu22]; exact (Below.refl _ _).alloc (Nat.le_refl _) _
            have hb22 : Below W4.heap.size W4 u22 := on2 hb21 d22
            have zb22 : BoxL u22 u21.heap.size [.string ⟨#[]⟩, .slice none 0 0, .slice none 0 0, .bool false, .int .i64 0, .int .i64 0, .int .i64 0, .int .i64 0, .int .i64 0, .slice none 0 0, .int .i64 0, .int .i64 0, .int .i64 0, .slice none 0 0, .slice none 0 0] := by rw [hu22]; exact BoxL.new u21 41 [.string ⟨#[]⟩, .slice none 0 0, .slice none 0 0, .bool false, .int .i64 0, .int .i64 0, .int .i64 0, .int .i64 0, .int .i64 0, .slice none 0 0, .int .i64 0, .int .i64 0, .int .i64 0, .slice none 0 0, .slice none 0 0]
            have gD22 : W4.heap.size ≤ u21.heap.size := hb21.size
            have inf := inf.on d22
            have thr := thr.on d22
            have ghi1 := Nat.le_trans ghi1 (d22).size
            have zb20 := zb20.on d22
            have inr := inr.on d22
            have ghi21 := Nat.le_trans ghi21 (d22).size
            refine hK.out _ _ (HS.out _ (hu22 ▸ hb22)) (fun hHeld2 => ?_)
            rw [← hu22] at hHeld2 ⊢
            clear hu22
            clear hK K hHeld; have hHeld := hHeld2; clear hHeld2
            try go_frame
            refine ts 8 (fun K hK => ?_)
            have hq23 : fs.length = 15 := inf.len
            have hi23 : (Try.prog.info? 41).map (·.size) = some fs.toArray.size := by have e : fs.toArray.size = 15 := (by simp [hq23]); rw [e]; exact sizeInfo
            have ho23 : fs.toArray.all (·.oneCell') = true := all_oneCell_toArray inf.one
            have ht23 : u22.there (u21.heap.size) 0 fs.toArray.size := by have e : fs.toArray.size = 15 := (by simp [hq23]); rw [e]; exact zb22.there
            have hc23 : Below W4.heap.size W4 (u22.setCells (u21.heap.size) 0 fs) := below_setCells hb22 gD22
            have sp23 := spl_mk (w := W4) (lst := fs) zb22 inf thr hb22 gD22 gD22 glo1 ghi1 nS22ra (by rw [hq23]; rfl)
            have ir23 := inr.store (D := u21.heap.size) (fun b _ h => by rcases h with h | h; (have h1 : b < w.heap.size := h; have h2 := B04.out.size; have h3 := gD22; omega); exact not_seg nS22rb b h) 0 fs
            have zc23 : BoxL (u22.setCells (u21.heap.size) 0 fs) (u1.heap.size) [.string ⟨#[]⟩, .slice none 0 0, .slice none 0 0, .bool false, .int .i64 0, .int .i64 0, .int .i64 0, .int .i64 0, .int .i64 0, .slice none 0 0, .int .i64 0, .int .i64 0, .int .i64 0, .slice none 0 0, .slice none 0 0] := zb20.kept (A := fun b => b ≠ u21.heap.size) (kept_setCells (fun h => h rfl)) (by have := df22; omega)
            refine want_yes (by rfl) (wp_store_mid 41 _ _ rfl (u21.heap.size) 0 fs.toArray rfl rfl ht23 hi23 ho23 ?_)
            refine hK.out undef _ (HS.out _ hc23) (fun hHeld2 => ?_)
            clear hK K hHeld; have hHeld := hHeld2; clear hHeld2
            try go_frame
            refine ts 9 (fun K hK => ?_)
            have hq24 : gs.length = 15 := inr.len
            have hi24 : (Try.prog.info? 41).map (·.size) = some gs.toArray.size := by have e : gs.toArray.size = 15 := (by simp [hq24]); rw [e]; exact sizeInfo
            have ho24 : gs.toArray.all (·.oneCell') = true := all_oneCell_toArray inr.one
            have ht24 : (u22.setCells (u21.heap.size) 0 fs).there (u1.heap.size) 0 gs.toArray.size := by have e : gs.toArray.size = 15 := (by simp [hq24]); rw [e]; exact zc23.there
            have hc24 : Below W4.heap.size W4 ((u22.setCells (u21.heap.size) 0 fs).setCells (u1.heap.size) 0 gs) := below_setCells hc23 gD20
            have sq24 := spl_store sp23 gD20 (show u1.heap.size ≠ u21.heap.size by have := df22; omega) nS20ra gs
            have iq24 := RInfo.firm.weak (ir23.store (D := u1.heap.size) (fun b _ h => by rcases h with h | h; (have h1 : b < w.heap.size := h; have h2 := B04.out.size; have h3 := gD20; omega); exact not_seg ne21Db b h) 0 gs).info (A' := fun _ => True) (fun _ _ _ => trivial)
            have bx24 := box_write (cs := gs) zc23 (by rw [hq24]; rfl)
            refine want_yes (by rfl) (wp_store_mid 41 _ _ rfl (u1.heap.size) 0 gs.toArray rfl rfl ht24 hi24 ho24 ?_)
            refine hK.out undef _ (HS.out _ hc24) (fun hHeld2 => ?_)
            clear hK K hHeld; have hHeld := hHeld2; clear hHeld2
            try go_frame
            refine wpAnyH_done (by kernel_rfl) ?_ _
            refine NoPanic.normal ?_
            go_wp2_with fail
            go_meet
            exact ⟨u21.heap.size, fs, _, _, u1.heap.size, gs, rfl, rfl, sq24, bx24, iq24⟩
          ·
            go_simp
            have df25 : u1.heap.size < u20.heap.size := zb20.1
            have nS25ra : ¬ Seg W4.drew.heap.size u1.heap.size (u20.heap.size) := fun h => by have h1 := h.2; have h2 := ghi1; omega
            obtain ⟨u25, hu25⟩ : ∃ u25, u25 = u20.alloc (.cells #[.string ⟨#[]⟩, .slice none 0 0, .slice none 0 0, .bool false, .int .i64 0, .int .i64 0, .int .i64 0, .int .i64 0, .int .i64 0, .slice none 0 0, .int .i64 0, .int .i64 0, .int .i64 0, .slice none 0 0, .slice none 0 0] 41) := ⟨_, rfl⟩
            have d25 : Below u20.heap.size u20 u25 := by rw [hu25]; exact (Below.refl _ _).alloc (Nat.le_refl _) _
            have hb25 : Below W4.heap.size W4 u25 := on2 hb20 d25
            have zb25 : BoxL u25 u20.heap.size [.string ⟨#[]⟩, .slice none 0 0, .slice none 0 0, .bool false, .int .i64 0, .int .i64 0, .int .i64 0, .int .i64 0, .int .i64 0, .slice none 0 0, .int .i64 0, .int .i64 0, .int .i64 0, .slice none 0 0, .slice none 0 0] := by rw [hu25]; exact BoxL.new u20 41 [.string ⟨#[]⟩, .slice none 0 0, .slice none 0 0, .bool false, .int .i64 0, .int .i64 0, .int .i64 0, .int .i64 0, .int .i64 0, .slice none 0 0, .int .i64 0, .int .i64 0, .int .i64 0, .slice none 0 0, .slice none 0 0]
            have gD25 : W4.heap.size ≤ u20.heap.size := hb20.size
            have inf := inf.on d25
            have thr := thr.on d25
            have ghi1 := Nat.le_trans ghi1 (d25).size
            have zb20 := zb20.on d25
            refine hK.out _ _ (HS.out _ (hu25 ▸ hb25)) (fun hHeld2 => ?_)
            rw [← hu25] at hHeld2 ⊢
            clear hu25
            clear hK K hHeld; have hHeld := hHeld2; clear hHeld2
            try go_frame
            refine tr 5 (fun K hK => ?_)
            have hC26 := rOf_calls [k0, k1, k2, k3, k4, k5, k6, k7, k8] a n cap (fun b => b < w.heap.size) (fun b => b < w.heap.size) x L u25 (HN.out _ (on2 B04.out hb25)) (HL.out _ (on2 B04.out hb25)) HF.out
            have lt26Da : u20.heap.size < u25.heap.size := zb25.1
            have lt26Db : u1.heap.size < u25.heap.size := zb20.1
            rw [← HXE.out] at hC26
            go_simp
            refine hC26.mono ?_
            rintro e u26 ⟨gs, rfl, p26, d26⟩
            clear hC26
            have hb26 : Below W4.heap.size W4 u26 := on2 hb25 d26
            have inf := inf.on d26
            have thr := thr.on d26
            have ghi1 := Nat.le_trans ghi1 (d26).size
            have zb20 := zb20.on d26
            have zb25 := zb25.on d26
            have inr := p26.weak (A' := (fun b => b < w.heap.size)) (F' := Seg u25.heap.size u26.heap.size) (fun _ _ h => h) (fun b hb h => ⟨h, hb⟩)
            have ghi26 : u26.heap.size ≤ u26.heap.size := Nat.le_refl _
            have glo26 := hb25.size
            have ne26Da : ¬ Seg u25.heap.size u26.heap.size (u20.heap.size) := fun h => by have h1 := h.1; have h2 := lt26Da; omega
            have ne26Db : ¬ Seg u25.heap.size u26.heap.size (u1.heap.size) := fun h => by have h1 := h.1; have h2 := lt26Db; omega
            go_wp2_with fail
            refine hK.out _ _ (HS.out _ hb26) (fun hHeld2 => ?_)
            clear hK K hHeld; have hHeld := hHeld2; clear hHeld2
            try go_frame
            refine ts 8 (fun K hK => ?_)
            have hq27 : fs.length = 15 := inf.len
            have hi27 : (Try.prog.info? 41).map (·.size) = some fs.toArray.size := by have e : fs.toArray.size = 15 := (by simp [hq27]); rw [e]; exact sizeInfo
            have ho27 : fs.toArray.all (·.oneCell') = true := all_oneCell_toArray inf.one
            have ht27 : u26.there (u20.heap.size) 0 fs.toArray.size := by have e : fs.toArray.size = 15 := (by simp [hq27]); rw [e]; exact zb25.there
            have hc27 : Below W4.heap.size W4 (u26.setCells (u20.heap.size) 0 fs) := below_setCells hb26 gD25
            have sp27 := spl_mk (w := W4) (lst := fs) zb25 inf thr hb26 gD25 gD25 glo1 ghi1 nS25ra (by rw [hq27]; rfl)
            have ir27 := inr.store (D := u20.heap.size) (fun b _ h => by rcases h with h | h; (have h1 : b < w.heap.size := h; have h2 := B04.out.size; have h3 := gD25; omega); exact not_seg ne26Da b h) 0 fs
            have zc27 : BoxL (u26.setCells (u20.heap.size) 0 fs) (u1.heap.size) [.string ⟨#[]⟩, .slice none 0 0, .slice none 0 0, .bool false, .int .i64 0, .int .i64 0, .int .i64 0, .int .i64 0, .int .i64 0, .slice none 0 0, .int .i64 0, .int .i64 0, .int .i64 0, .slice none 0 0, .slice none 0 0] := zb20.kept (A := fun b => b ≠ u20.heap.size) (kept_setCells (fun h => h rfl)) (by have := df25; omega)
            refine want_yes (by rfl) (wp_store_mid 41 _ _ rfl (u20.heap.size) 0 fs.toArray rfl rfl ht27 hi27 ho27 ?_)
            refine hK.out undef _ (HS.out _ hc27) (fun hHeld2 => ?_)
            clear hK K hHeld; have hHeld := hHeld2; clear hHeld2
            try go_frame
            refine ts 9 (fun K hK => ?_)
            have hq28 : gs.length = 15 := inr.len
            have hi28 : (Try.prog.info? 41).map (·.size) = some gs.toArray.size := by have e : gs.toArray.size = 15 := (by simp [hq28]); rw [e]; exact sizeInfo
            have ho28 : gs.toArray.all (·.oneCell') = true := all_oneCell_toArray inr.one
            have ht28 : (u26.setCells (u20.heap.size) 0 fs).there (u1.heap.size) 0 gs.toArray.size := by have e : gs.toArray.size = 15 := (by simp [hq28]); rw [e]; exact zc27.there
            have hc28 : Below W4.heap.size W4 ((u26.setCells (u20.heap.size) 0 fs).setCells (u1.heap.size) 0 gs) := below_setCells hc27 gD20
            have sq28 := spl_store sp27 gD20 (show u1.heap.size ≠ u20.heap.size by have := df25; omega) nS20ra gs
            have iq28 := RInfo.firm.weak (ir27.store (D := u1.heap.size) (fun b _ h => by rcases h with h | h; (have h1 : b < w.heap.size := h; have h2 := B04.out.size; have h3 := gD20; omega); exact not_seg ne26Db b h) 0 gs).info (A' := fun _ => True) (fun _ _ _ => trivial)
            have bx28 := box_write (cs := gs) zc27 (by rw [hq28]; rfl)
            refine want_yes (by rfl) (wp_store_mid 41 _ _ rfl (u1.heap.size) 0 gs.toArray rfl rfl ht28 hi28 ho28 ?_)
            refine hK.out undef _ (HS.out _ hc28) (fun hHeld2 => ?_)
            clear hK K hHeld; have hHeld := hHeld2; clear hHeld2
            try go_frame
            refine wpAnyH_done (by kernel_rfl) ?_ _
            refine NoPanic.normal ?_
            go_wp2_with fail
            go_meet
            exact ⟨u20.heap.size, fs, _, _, u1.heap.size, gs, rfl, rfl, sq28, bx28, iq28⟩
      ·
        go_simp
        obtain ⟨u29, hu29⟩ : ∃ u29, u29 = (W4.alloc (.cells #[.string ⟨#[]⟩, .slice none 0 0, .slice none 0 0, .bool false, .int .i64 0, .int .i64 0, .int .i64 0, .int .i64 0, .int .i64 0, .slice none 0 0, .int .i64 0, .int .i64 0, .int .i64 0, .slice none 0 0, .slice none 0 0] 41)).drew := ⟨_, rfl⟩
        have d29 : Below W4.heap.size W4 u29 := by rw [hu29]; exact ((Below.refl _ _).alloc (Nat.le_refl _) _).drew
        have hb29 : Below W4.heap.size W4 u29 := d29
        have zb29 : BoxL u29 W4.heap.size [.string ⟨#[]⟩, .slice none 0 0, .slice none 0 0, .bool false, .int .i64 0, .int .i64 0, .int .i64 0, .int .i64 0, .int .i64 0, .slice none 0 0, .int .i64 0, .int .i64 0, .int .i64 0, .slice none 0 0, .slice none 0 0] := by rw [hu29]; exact (BoxL.new W4 41 [.string ⟨#[]⟩, .slice none 0 0, .slice none 0 0, .bool false, .int .i64 0, .int .i64 0, .int .i64 0, .int .i64 0, .int .i64 0, .slice none 0 0, .int .i64 0, .int .i64 0, .int .i64 0, .slice none 0 0, .slice none 0 0]).on (Below.refl _ _).drew
        have gD29 : W4.heap.size ≤ W4.heap.size := hb0.size
        refine hK.out _ _ (HS.out _ (hu29 ▸ hb29)) (fun hHeld2 => ?_)
        rw [← hu29] at hHeld2 ⊢
        clear hu29
        clear hK K hHeld; have hHeld := hHeld2; clear hHeld2
        try go_frame
        refine tb 2 7 (fun K hK => ?_) (fun K hK => ?_)
        ·
          have hC30 := Of_calls ms oa n oc (fun b => b < W4.heap.size) (fun b => b < W4.heap.size) x L u29 (HRm.out _ hb29) (HO.out _ hb29) HF.out
          have lt30Da : W4.heap.size < u29.heap.size := zb29.1
          rw [← HXE.out] at hC30
          go_simp
          refine hC30.mono ?_
          rintro e u30 ⟨fs, rfl, p30, thr, d30⟩
          clear hC30
          have hb30 : Below W4.heap.size W4 u30 := on2 hb29 d30
          have zb29 := zb29.on d30
          have inf := p30.weak (A' := (fun b => b < W4.heap.size)) (F' := Seg u29.heap.size u30.heap.size) (fun _ _ h => h) (fun b hb h => ⟨h, hb⟩)
          have ghi30 : u30.heap.size ≤ u30.heap.size := Nat.le_refl _
          have glo30 := hb29.size
          have ne30Da : ¬ Seg u29.heap.size u30.heap.size (W4.heap.size) := fun h => by have h1 := h.1; have h2 := lt30Da; omega
          go_wp2_with fail
          refine hK.out _ _ (HS.out _ hb30) (fun hHeld2 => ?_)
          clear hK K hHeld; have hHeld := hHeld2; clear hHeld2
          try go_frame
          refine tb 5 7 (fun K hK => ?_) (fun K hK => ?_)
          ·
            have hC31 := rOf_calls [k0, k1, k2, k3, k4, k5, k6, k7, k8] a n cap (fun b => b < w.heap.size) (fun b => b < w.heap.size) x L u30 (HN.out _ (on2 B04.out hb30)) (HL.out _ (on2 B04.out hb30)) HF.out
            have lt31Da : W4.heap.size < u30.heap.size := zb29.1
            rw [← HXE.out] at hC31
            go_simp
            refine hC31.mono ?_
            rintro e u31 ⟨gs, rfl, p31, d31⟩
            clear hC31
            have hb31 : Below W4.heap.size W4 u31 := on2 hb30 d31
            have zb29 := zb29.on d31
            have inf := inf.on d31
            have thr := thr.on d31
            have ghi30 := Nat.le_trans ghi30 (d31).size
            have inr := p31.weak (A' := (fun b => b < w.heap.size)) (F' := Seg u30.heap.size u31.heap.size) (fun _ _ h => h) (fun b hb h => ⟨h, hb⟩)
            have ghi31 : u31.heap.size ≤ u31.heap.size := Nat.le_refl _
            have glo31 := hb30.size
            have ne31Da : ¬ Seg u30.heap.size u31.heap.size (W4.heap.size) := fun h => by have h1 := h.1; have h2 := lt31Da; omega
            go_wp2_with fail
            refine hK.out _ _ (HS.out _ hb31) (fun hHeld2 => ?_)
            clear hK K hHeld; have hHeld := hHeld2; clear hHeld2
            try go_frame
            refine tr 7 (fun K hK => ?_)
            go_simp
            have df32 : W4.heap.size < u31.heap.size := zb29.1
            have nS32ra : ¬ Seg u29.heap.size u30.heap.size (u31.heap.size) := fun h => by have h1 := h.2; have h2 := ghi30; omega
            have nS32rb : ¬ Seg u30.heap.size u31.heap.size (u31.heap.size) := fun h => by have h1 := h.2; have h2 := ghi31; omega
            obtain ⟨u32, hu32⟩ : ∃ u32, u32 = u31.alloc (.cells #[.string ⟨#[]⟩, .slice none 0 0, .slice none 0 0, .bool false, .int .i64 0, .int .i64 0, .int .i64 0, .int .i64 0, .int .i64 0, .slice none 0 0, .int .i64 0, .int .i64 0, .int .i64 0, .slice none 0 0, .slice none 0 0] 41) := ⟨_, rfl⟩
            have d32 : Below u31.heap.size u31 u32 := by rw [hu32]; exact (Below.refl _ _).alloc (Nat.le_refl _) _
            have hb32 : Below W4.heap.size W4 u32 := on2 hb31 d32
            have zb32 : BoxL u32 u31.heap.size [.string ⟨#[]⟩, .slice none 0 0, .slice none 0 0, .bool false, .int .i64 0, .int .i64 0, .int .i64 0, .int .i64 0, .int .i64 0, .slice none 0 0, .int .i64 0, .int .i64 0, .int .i64 0, .slice none 0 0, .slice none 0 0] := by rw [hu32]; exact BoxL.new u31 41 [.string ⟨#[]⟩, .slice none 0 0, .slice none 0 0, .bool false, .int .i64 0, .int .i64 0, .int .i64 0, .int .i64 0, .int .i64 0, .slice none 0 0, .int .i64 0, .int .i64 0, .int .i64 0, .slice none 0 0, .slice none 0 0]
            have gD32 : W4.heap.size ≤ u31.heap.size := hb31.size
            have zb29 := zb29.on d32
            have inf := inf.on d32
            have thr := thr.on d32
            have ghi30 := Nat.le_trans ghi30 (d32).size
            have inr := inr.on d32
            have ghi31 := Nat.le_trans ghi31 (d32).size
            refine hK.out _ _ (HS.out _ (hu32 ▸ hb32)) (fun hHeld2 => ?_)
            rw [← hu32] at hHeld2 ⊢
            clear hu32
            clear hK K hHeld; have hHeld := hHeld2; clear hHeld2
            try go_frame
            refine ts 8 (fun K hK => ?_)
            have hq33 : fs.length = 15 := inf.len
            have hi33 : (Try.prog.info? 41).map (·.size) = some fs.toArray.size := by have e : fs.toArray.size = 15 := (by simp [hq33]); rw [e]; exact sizeInfo
            have ho33 : fs.toArray.all (·.oneCell') = true := all_oneCell_toArray inf.one
            have ht33 : u32.there (W4.heap.size) 0 fs.toArray.size := by have e : fs.toArray.size = 15 := (by simp [hq33]); rw [e]; exact zb29.there
            have hc33 : Below W4.heap.size W4 (u32.setCells (W4.heap.size) 0 fs) := below_setCells hb32 gD29
            have sp33 := spl_mk (w := W4) (lst := fs) zb29 inf thr hb32 gD29 gD29 glo30 ghi30 ne30Da (by rw [hq33]; rfl)
            have ir33 := inr.store (D := W4.heap.size) (fun b _ h => by rcases h with h | h; (have h1 : b < w.heap.size := h; have h2 := B04.out.size; have h3 := gD29; omega); exact not_seg ne31Da b h) 0 fs
            have zc33 : BoxL (u32.setCells (W4.heap.size) 0 fs) (u31.heap.size) [.string ⟨#[]⟩, .slice none 0 0, .slice none 0 0, .bool false, .int .i64 0, .int .i64 0, .int .i64 0, .int .i64 0, .int .i64 0, .slice none 0 0, .int .i64 0, .int .i64 0, .int .i64 0, .slice none 0 0, .slice none 0 0] := zb32.kept (A := fun b => b ≠ W4.heap.size) (kept_setCells (fun h => h rfl)) (by have := df32; omega)
            refine want_yes (by rfl) (wp_store_mid 41 _ _ rfl (W4.heap.size) 0 fs.toArray rfl rfl ht33 hi33 ho33 ?_)
            refine hK.out undef _ (HS.out _ hc33) (fun hHeld2 => ?_)
            clear hK K hHeld; have hHeld := hHeld2; clear hHeld2
            try go_frame
            refine ts 9 (fun K hK => ?_)
            have hq34 : gs.length = 15 := inr.len
            have hi34 : (Try.prog.info? 41).map (·.size) = some gs.toArray.size := by have e : gs.toArray.size = 15 := (by simp [hq34]); rw [e]; exact sizeInfo
            have ho34 : gs.toArray.all (·.oneCell') = true := all_oneCell_toArray inr.one
            have ht34 : (u32.setCells (W4.heap.size) 0 fs).there (u31.heap.size) 0 gs.toArray.size := by have e : gs.toArray.size = 15 := (by simp [hq34]); rw [e]; exact zc33.there
            have hc34 : Below W4.heap.size W4 ((u32.setCells (W4.heap.size) 0 fs).setCells (u31.heap.size) 0 gs) := below_setCells hc33 gD32
            have sq34 := spl_store sp33 gD32 (show u31.heap.size ≠ W4.heap.size by have := df32; omega) nS32ra gs
            have iq34 := RInfo.firm.weak (ir33.store (D := u31.heap.size) (fun b _ h => by rcases h with h | h; (have h1 : b < w.heap.size := h; have h2 := B04.out.size; have h3 := gD32; omega); exact not_seg nS32rb b h) 0 gs).info (A' := fun _ => True) (fun _ _ _ => trivial)
            have bx34 := box_write (cs := gs) zc33 (by rw [hq34]; rfl)
            refine want_yes (by rfl) (wp_store_mid 41 _ _ rfl (u31.heap.size) 0 gs.toArray rfl rfl ht34 hi34 ho34 ?_)
            refine hK.out undef _ (HS.out _ hc34) (fun hHeld2 => ?_)
            clear hK K hHeld; have hHeld := hHeld2; clear hHeld2
            try go_frame
            refine wpAnyH_done (by kernel_rfl) ?_ _
            refine NoPanic.normal ?_
            go_wp2_with fail
            go_meet
            exact ⟨W4.heap.size, fs, _, _, u31.heap.size, gs, rfl, rfl, sq34, bx34, iq34⟩
          ·
            go_simp
            have df35 : W4.heap.size < u30.heap.size := zb29.1
            have nS35ra : ¬ Seg u29.heap.size u30.heap.size (u30.heap.size) := fun h => by have h1 := h.2; have h2 := ghi30; omega
            obtain ⟨u35, hu35⟩ : ∃ u35, u35 = u30.alloc (.cells #[.string ⟨#[]⟩, .slice none 0 0, .slice none 0 0, .bool false, .int .i64 0, .int .i64 0, .int .i64 0, .int .i64 0, .int .i64 0, .slice none 0 0, .int .i64 0, .int .i64 0, .int .i64 0, .slice none 0 0, .slice none 0 0] 41) := ⟨_, rfl⟩
            have d35 : Below u30.heap.size u30 u35 := by rw [hu35]; exact (Below.refl _ _).alloc (Nat.le_refl _) _
            have hb35 : Below W4.heap.size W4 u35 := on2 hb30 d35
            have zb35 : BoxL u35 u30.heap.size [.string ⟨#[]⟩, .slice none 0 0, .slice none 0 0, .bool false, .int .i64 0, .int .i64 0, .int .i64 0, .int .i64 0, .int .i64 0, .slice none 0 0, .int .i64 0, .int .i64 0, .int .i64 0, .slice none 0 0, .slice none 0 0] := by rw [hu35]; exact BoxL.new u30 41 [.string ⟨#[]⟩, .slice none 0 0, .slice none 0 0, .bool false, .int .i64 0, .int .i64 0, .int .i64 0, .int .i64 0, .int .i64 0, .slice none 0 0, .int .i64 0, .int .i64 0, .int .i64 0, .slice none 0 0, .slice none 0 0]
            have gD35 : W4.heap.size ≤ u30.heap.size := hb30.size
            have zb29 := zb29.on d35
            have inf := inf.on d35
            have thr := thr.on d35
            have ghi30 := Nat.le_trans ghi30 (d35).size
            refine hK.out _ _ (HS.out _ (hu35 ▸ hb35)) (fun hHeld2 => ?_)
            rw [← hu35] at hHeld2 ⊢
            clear hu35
            clear hK K hHeld; have hHeld := hHeld2; clear hHeld2
            try go_frame
            refine tr 5 (fun K hK => ?_)
            have hC36 := rOf_calls [k0, k1, k2, k3, k4, k5, k6, k7, k8] a n cap (fun b => b < w.heap.size) (fun b => b < w.heap.size) x L u35 (HN.out _ (on2 B04.out hb35)) (HL.out _ (on2 B04.out hb35)) HF.out
            have lt36Da : W4.heap.size < u35.heap.size := zb29.1
            have lt36Db : u30.heap.size < u35.heap.size := zb35.1
            rw [← HXE.out] at hC36
            go_simp
            refine hC36.mono ?_
            rintro e u36 ⟨gs, rfl, p36, d36⟩
            clear hC36
            have hb36 : Below W4.heap.size W4 u36 := on2 hb35 d36
            have zb29 := zb29.on d36
            have inf := inf.on d36
            have thr := thr.on d36
            have ghi30 := Nat.le_trans ghi30 (d36).size
            have zb35 := zb35.on d36
            have inr := p36.weak (A' := (fun b => b < w.heap.size)) (F' := Seg u35.heap.size u36.heap.size) (fun _ _ h => h) (fun b hb h => ⟨h, hb⟩)
            have ghi36 : u36.heap.size ≤ u36.heap.size := Nat.le_refl _
            have glo36 := hb35.size
            have ne36Da : ¬ Seg u35.heap.size u36.heap.size (W4.heap.size) := fun h => by have h1 := h.1; have h2 := lt36Da; omega
            have ne36Db : ¬ Seg u35.heap.size u36.heap.size (u30.heap.size) := fun h => by have h1 := h.1; have h2 := lt36Db; omega
            go_wp2_with fail
            refine hK.out _ _ (HS.out _ hb36) (fun hHeld2 => ?_)
            clear hK K hHeld; have hHeld := hHeld2; clear hHeld2
            try go_frame
            refine ts 8 (fun K hK => ?_)
            have hq37 : fs.length = 15 := inf.len
            have hi37 : (Try.prog.info? 41).map (·.size) = some fs.toArray.size := by have e : fs.toArray.size = 15 := (by simp [hq37]); rw [e]; exact sizeInfo
            have ho37 : fs.toArray.all (·.oneCell') = true := all_oneCell_toArray inf.one
            have ht37 : u36.there (W4.heap.size) 0 fs.toArray.size := by have e : fs.toArray.size = 15 := (by simp [hq37]); rw [e]; exact zb29.there
            have hc37 : Below W4.heap.size W4 (u36.setCells (W4.heap.size) 0 fs) := below_setCells hb36 gD29
            have sp37 := spl_mk (w := W4) (lst := fs) zb29 inf thr hb36 gD29 gD29 glo30 ghi30 ne30Da (by rw [hq37]; rfl)
            have ir37 := inr.store (D := W4.heap.size) (fun b _ h => by rcases h with h | h; (have h1 : b < w.heap.size := h; have h2 := B04.out.size; have h3 := gD29; omega); exact not_seg ne36Da b h) 0 fs
            have zc37 : BoxL (u36.setCells (W4.heap.size) 0 fs) (u30.heap.size) [.string ⟨#[]⟩, .slice none 0 0, .slice none 0 0, .bool false, .int .i64 0, .int .i64 0, .int .i64 0, .int .i64 0, .int .i64 0, .slice none 0 0, .int .i64 0, .int .i64 0, .int .i64 0, .slice none 0 0, .slice none 0 0] := zb35.kept (A := fun b => b ≠ W4.heap.size) (kept_setCells (fun h => h rfl)) (by have := df35; omega)
            refine want_yes (by rfl) (wp_store_mid 41 _ _ rfl (W4.heap.size) 0 fs.toArray rfl rfl ht37 hi37 ho37 ?_)
            refine hK.out undef _ (HS.out _ hc37) (fun hHeld2 => ?_)
            clear hK K hHeld; have hHeld := hHeld2; clear hHeld2
            try go_frame
            refine ts 9 (fun K hK => ?_)
            have hq38 : gs.length = 15 := inr.len
            have hi38 : (Try.prog.info? 41).map (·.size) = some gs.toArray.size := by have e : gs.toArray.size = 15 := (by simp [hq38]); rw [e]; exact sizeInfo
            have ho38 : gs.toArray.all (·.oneCell') = true := all_oneCell_toArray inr.one
            have ht38 : (u36.setCells (W4.heap.size) 0 fs).there (u30.heap.size) 0 gs.toArray.size := by have e : gs.toArray.size = 15 := (by simp [hq38]); rw [e]; exact zc37.there
            have hc38 : Below W4.heap.size W4 ((u36.setCells (W4.heap.size) 0 fs).setCells (u30.heap.size) 0 gs) := below_setCells hc37 gD35
            have sq38 := spl_store sp37 gD35 (show u30.heap.size ≠ W4.heap.size by have := df35; omega) nS35ra gs
            have iq38 := RInfo.firm.weak (ir37.store (D := u30.heap.size) (fun b _ h => by rcases h with h | h; (have h1 : b < w.heap.size := h; have h2 := B04.out.size; have h3 := gD35; omega); exact not_seg ne36Db b h) 0 gs).info (A' := fun _ => True) (fun _ _ _ => trivial)
            have bx38 := box_write (cs := gs) zc37 (by rw [hq38]; rfl)
            refine want_yes (by rfl) (wp_store_mid 41 _ _ rfl (u30.heap.size) 0 gs.toArray rfl rfl ht38 hi38 ho38 ?_)
            refine hK.out undef _ (HS.out _ hc38) (fun hHeld2 => ?_)
            clear hK K hHeld; have hHeld := hHeld2; clear hHeld2
            try go_frame
            refine wpAnyH_done (by kernel_rfl) ?_ _
            refine NoPanic.normal ?_
            go_wp2_with fail
            go_meet
            exact ⟨W4.heap.size, fs, _, _, u30.heap.size, gs, rfl, rfl, sq38, bx38, iq38⟩
        ·
          go_simp
          have df39 : W4.heap.size < u29.heap.size := zb29.1
          obtain ⟨u39, hu39⟩ : ∃ u39, u39 = u29.alloc (.cells #[.string ⟨#[]⟩, .slice none 0 0, .slice none 0 0, .bool false, .int .i64 0, .int .i64 0, .int .i64 0, .int .i64 0, .int .i64 0, .slice none 0 0, .int .i64 0, .int .i64 0, .int .i64 0, .slice none 0 0, .slice none 0 0] 41) := ⟨_, rfl⟩
          have d39 : Below u29.heap.size u29 u39 := by rw [hu39]; exact (Below.refl _ _).alloc (Nat.le_refl _) _
          have hb39 : Below W4.heap.size W4 u39 := on2 hb29 d39
          have zb39 : BoxL u39 u29.heap.size [.string ⟨#[]⟩, .slice none 0 0, .slice none 0 0, .bool false, .int .i64 0, .int .i64 0, .int .i64 0, .int .i64 0, .int .i64 0, .slice none 0 0, .int .i64 0, .int .i64 0, .int .i64 0, .slice none 0 0, .slice none 0 0] := by rw [hu39]; exact BoxL.new u29 41 [.string ⟨#[]⟩, .slice none 0 0, .slice none 0 0, .bool false, .int .i64 0, .int .i64 0, .int .i64 0, .int .i64 0, .int .i64 0, .slice none 0 0, .int .i64 0, .int .i64 0, .int .i64 0, .slice none 0 0, .slice none 0 0]
          have gD39 : W4.heap.size ≤ u29.heap.size := hb29.size
          have zb29 := zb29.on d39
          refine hK.out _ _ (HS.out _ (hu39 ▸ hb39)) (fun hHeld2 => ?_)
          rw [← hu39] at hHeld2 ⊢
          clear hu39
          clear hK K hHeld; have hHeld := hHeld2; clear hHeld2
          try go_frame
          refine tr 2 (fun K hK => ?_)
          have hC40 := Of_calls ms oa n oc (fun b => b < W4.heap.size) (fun b => b < W4.heap.size) x L u39 (HRm.out _ hb39) (HO.out _ hb39) HF.out
          have lt40Da : W4.heap.size < u39.heap.size := zb29.1
          have lt40Db : u29.heap.size < u39.heap.size := zb39.1
          rw [← HXE.out] at hC40
          go_simp
          refine hC40.mono ?_
          rintro e u40 ⟨fs, rfl, p40, thr, d40⟩
          clear hC40
          have hb40 : Below W4.heap.size W4 u40 := on2 hb39 d40
          have zb29 := zb29.on d40
          have zb39 := zb39.on d40
          have inf := p40.weak (A' := (fun b => b < W4.heap.size)) (F' := Seg u39.heap.size u40.heap.size) (fun _ _ h => h) (fun b hb h => ⟨h, hb⟩)
          have ghi40 : u40.heap.size ≤ u40.heap.size := Nat.le_refl _
          have glo40 := hb39.size
          have ne40Da : ¬ Seg u39.heap.size u40.heap.size (W4.heap.size) := fun h => by have h1 := h.1; have h2 := lt40Da; omega
          have ne40Db : ¬ Seg u39.heap.size u40.heap.size (u29.heap.size) := fun h => by have h1 := h.1; have h2 := lt40Db; omega
          go_wp2_with fail
          refine hK.out _ _ (HS.out _ hb40) (fun hHeld2 => ?_)
          clear hK K hHeld; have hHeld := hHeld2; clear hHeld2
          try go_frame
          refine tr 5 (fun K hK => ?_)
          have hC41 := rOf_calls [k0, k1, k2, k3, k4, k5, k6, k7, k8] a n cap (fun b => b < w.heap.size) (fun b => b < w.heap.size) x L u40 (HN.out _ (on2 B04.out hb40)) (HL.out _ (on2 B04.out hb40)) HF.out
          have lt41Da : W4.heap.size < u40.heap.size := zb29.1
          have lt41Db : u29.heap.size < u40.heap.size := zb39.1
          rw [← HXE.out] at hC41
          go_simp
          refine hC41.mono ?_
          rintro e u41 ⟨gs, rfl, p41, d41⟩
          clear hC41
          have hb41 : Below W4.heap.size W4 u41 := on2 hb40 d41
          have zb29 := zb29.on d41
          have zb39 := zb39.on d41
          have inf := inf.on d41
          have thr := thr.on d41
          have ghi40 := Nat.le_trans ghi40 (d41).size
          have inr := p41.weak (A' := (fun b => b < w.heap.size)) (F' := Seg u40.heap.size u41.heap.size) (fun _ _ h => h) (fun b hb h => ⟨h, hb⟩)
          have ghi41 : u41.heap.size ≤ u41.heap.size := Nat.le_refl _
          have glo41 := hb40.size
          have ne41Da : ¬ Seg u40.heap.size u41.heap.size (W4.heap.size) := fun h => by have h1 := h.1; have h2 := lt41Da; omega
          have ne41Db : ¬ Seg u40.heap.size u41.heap.size (u29.heap.size) := fun h => by have h1 := h.1; have h2 := lt41Db; omega
          go_wp2_with fail
          refine hK.out _ _ (HS.out _ hb41) (fun hHeld2 => ?_)
          clear hK K hHeld; have hHeld := hHeld2; clear hHeld2
          try go_frame
          refine ts 8 (fun K hK => ?_)
          have hq42 : fs.length = 15 := inf.len
          have hi42 : (Try.prog.info? 41).map (·.size) = some fs.toArray.size := by have e : fs.toArray.size = 15 := (by simp [hq42]); rw [e]; exact sizeInfo
          have ho42 : fs.toArray.all (·.oneCell') = true := all_oneCell_toArray inf.one
          have ht42 : u41.there (W4.heap.size) 0 fs.toArray.size := by have e : fs.toArray.size = 15 := (by simp [hq42]); rw [e]; exact zb29.there
          have hc42 : Below W4.heap.size W4 (u41.setCells (W4.heap.size) 0 fs) := below_setCells hb41 gD29
          have sp42 := spl_mk (w := W4) (lst := fs) zb29 inf thr hb41 gD29 gD29 glo40 ghi40 ne40Da (by rw [hq42]; rfl)
          have ir42 := inr.store (D := W4.heap.size) (fun b _ h => by rcases h with h | h; (have h1 : b < w.heap.size := h; have h2 := B04.out.size; have h3 := gD29; omega); exact not_seg ne41Da b h) 0 fs
          have zc42 : BoxL (u41.setCells (W4.heap.size) 0 fs) (u29.heap.size) [.string ⟨#[]⟩, .slice none 0 0, .slice none 0 0, .bool false, .int .i64 0, .int .i64 0, .int .i64 0, .int .i64 0, .int .i64 0, .slice none 0 0, .int .i64 0, .int .i64 0, .int .i64 0, .slice none 0 0, .slice none 0 0] := zb39.kept (A := fun b => b ≠ W4.heap.size) (kept_setCells (fun h => h rfl)) (by have := df39; omega)
          refine want_yes (by rfl) (wp_store_mid 41 _ _ rfl (W4.heap.size) 0 fs.toArray rfl rfl ht42 hi42 ho42 ?_)
          refine hK.out undef _ (HS.out _ hc42) (fun hHeld2 => ?_)
          clear hK K hHeld; have hHeld := hHeld2; clear hHeld2
          try go_frame
          refine ts 9 (fun K hK => ?_)
          have hq43 : gs.length = 15 := inr.len
          have hi43 : (Try.prog.info? 41).map (·.size) = some gs.toArray.size := by have e : gs.toArray.size = 15 := (by simp [hq43]); rw [e]; exact sizeInfo
          have ho43 : gs.toArray.all (·.oneCell') = true := all_oneCell_toArray inr.one
          have ht43 : (u41.setCells (W4.heap.size) 0 fs).there (u29.heap.size) 0 gs.toArray.size := by have e : gs.toArray.size = 15 := (by simp [hq43]); rw [e]; exact zc42.there
          have hc43 : Below W4.heap.size W4 ((u41.setCells (W4.heap.size) 0 fs).setCells (u29.heap.size) 0 gs) := below_setCells hc42 gD39
          have sq43 := spl_store sp42 gD39 (show u29.heap.size ≠ W4.heap.size by have := df39; omega) ne40Db gs
          have iq43 := RInfo.firm.weak (ir42.store (D := u29.heap.size) (fun b _ h => by rcases h with h | h; (have h1 : b < w.heap.size := h; have h2 := B04.out.size; have h3 := gD39; omega); exact not_seg ne41Db b h) 0 gs).info (A' := fun _ => True) (fun _ _ _ => trivial)
          have bx43 := box_write (cs := gs) zc42 (by rw [hq43]; rfl)
          refine want_yes (by rfl) (wp_store_mid 41 _ _ rfl (u29.heap.size) 0 gs.toArray rfl rfl ht43 hi43 ho43 ?_)
          refine hK.out undef _ (HS.out _ hc43) (fun hHeld2 => ?_)
          clear hK K hHeld; have hHeld := hHeld2; clear hHeld2
          try go_frame
          refine wpAnyH_done (by kernel_rfl) ?_ _
          refine NoPanic.normal ?_
          go_wp2_with fail
          go_meet
          exact ⟨W4.heap.size, fs, _, _, u29.heap.size, gs, rfl, rfl, sq43, bx43, iq43⟩
      ·
        go_simp
        obtain ⟨u44, hu44⟩ : ∃ u44, u44 = (W4.alloc (.cells #[.string ⟨#[]⟩, .slice none 0 0, .slice none 0 0, .bool false, .int .i64 0, .int .i64 0, .int .i64 0, .int .i64 0, .int .i64 0, .slice none 0 0, .int .i64 0, .int .i64 0, .int .i64 0, .slice none 0 0, .slice none 0 0] 41)).drew := ⟨_, rfl⟩
        have d44 : Below W4.heap.size W4 u44 := by rw [hu44]; exact ((Below.refl _ _).alloc (Nat.le_refl _) _).drew
        have hb44 : Below W4.heap.size W4 u44 := d44
        have zb44 : BoxL u44 W4.heap.size [.string ⟨#[]⟩, .slice none 0 0, .slice none 0 0, .bool false, .int .i64 0, .int .i64 0, .int .i64 0, .int .i64 0, .int .i64 0, .slice none 0 0, .int .i64 0, .int .i64 0, .int .i64 0, .slice none 0 0, .slice none 0 0] := by rw [hu44]; exact (BoxL.new W4 41 [.string ⟨#[]⟩, .slice none 0 0, .slice none 0 0, .bool false, .int .i64 0, .int .i64 0, .int .i64 0, .int .i64 0, .int .i64 0, .slice none 0 0, .int .i64 0, .int .i64 0, .int .i64 0, .slice none 0 0, .slice none 0 0]).on (Below.refl _ _).drew
        have gD44 : W4.heap.size ≤ W4.heap.size := hb0.size
        refine hK.out _ _ (HS.out _ (hu44 ▸ hb44)) (fun hHeld2 => ?_)
        rw [← hu44] at hHeld2 ⊢
        clear hu44
        clear hK K hHeld; have hHeld := hHeld2; clear hHeld2
        try go_frame
        refine tb 2 6 (fun K hK => ?_) (fun K hK => ?_)
        ·
          have hC45 := Of_calls ms oa n oc (fun b => b < W4.heap.size) (fun b => b < W4.heap.size) x L u44 (HRm.out _ hb44) (HO.out _ hb44) HF.out
          have lt45Db : W4.heap.size < u44.heap.size := zb44.1
          rw [← HXE.out] at hC45
          go_simp
          refine hC45.mono ?_
          rintro e u45 ⟨fs, rfl, p45, thr, d45⟩
          clear hC45
          have hb45 : Below W4.heap.size W4 u45 := on2 hb44 d45
          have zb44 := zb44.on d45
          have inf := p45.weak (A' := (fun b => b < W4.heap.size)) (F' := Seg u44.heap.size u45.heap.size) (fun _ _ h => h) (fun b hb h => ⟨h, hb⟩)
          have ghi45 : u45.heap.size ≤ u45.heap.size := Nat.le_refl _
          have glo45 := hb44.size
          have ne45Db : ¬ Seg u44.heap.size u45.heap.size (W4.heap.size) := fun h => by have h1 := h.1; have h2 := lt45Db; omega
          go_wp2_with fail
          refine hK.out _ _ (HS.out _ hb45) (fun hHeld2 => ?_)
          clear hK K hHeld; have hHeld := hHeld2; clear hHeld2
          try go_frame
          refine tb 5 6 (fun K hK => ?_) (fun K hK => ?_)
          ·
            have hC46 := rOf_calls [k0, k1, k2, k3, k4, k5, k6, k7, k8] a n cap (fun b => b < w.heap.size) (fun b => b < w.heap.size) x L u45 (HN.out _ (on2 B04.out hb45)) (HL.out _ (on2 B04.out hb45)) HF.out
            have lt46Db : W4.heap.size < u45.heap.size := zb44.1
            rw [← HXE.out] at hC46
            go_simp
            refine hC46.mono ?_
            rintro e u46 ⟨gs, rfl, p46, d46⟩
            clear hC46
            have hb46 : Below W4.heap.size W4 u46 := on2 hb45 d46
            have zb44 := zb44.on d46
            have inf := inf.on d46
            have thr := thr.on d46
            have ghi45 := Nat.le_trans ghi45 (d46).size
            have inr := p46.weak (A' := (fun b => b < w.heap.size)) (F' := Seg u45.heap.size u46.heap.size) (fun _ _ h => h) (fun b hb h => ⟨h, hb⟩)
            have ghi46 : u46.heap.size ≤ u46.heap.size := Nat.le_refl _
            have glo46 := hb45.size
            have ne46Db : ¬ Seg u45.heap.size u46.heap.size (W4.heap.size) := fun h => by have h1 := h.1; have h2 := lt46Db; omega
            go_wp2_with fail
            refine hK.out _ _ (HS.out _ hb46) (fun hHeld2 => ?_)
            clear hK K hHeld; have hHeld := hHeld2; clear hHeld2
            try go_frame
            refine tr 6 (fun K hK => ?_)
            go_simp
            have df47 : W4.heap.size < u46.heap.size := zb44.1
            have nS47ra : ¬ Seg u44.heap.size u45.heap.size (u46.heap.size) := fun h => by have h1 := h.2; have h2 := ghi45; omega
            have nS47rb : ¬ Seg u45.heap.size u46.heap.size (u46.heap.size) := fun h => by have h1 := h.2; have h2 := ghi46; omega
            obtain ⟨u47, hu47⟩ : ∃ u47, u47 = u46.alloc (.cells #[.string ⟨#[]⟩, .slice none 0 0, .slice none 0 0, .bool false, .int .i64 0, .int .i64 0, .int .i64 0, .int .i64 0, .int .i64 0, .slice none 0 0, .int .i64 0, .int .i64 0, .int .i64 0, .slice none 0 0, .slice none 0 0] 41) := ⟨_, rfl⟩
            have d47 : Below u46.heap.size u46 u47 := by rw [hu47]; exact (Below.refl _ _).alloc (Nat.le_refl _) _
            have hb47 : Below W4.heap.size W4 u47 := on2 hb46 d47
            have zb47 : BoxL u47 u46.heap.size [.string ⟨#[]⟩, .slice none 0 0, .slice none 0 0, .bool false, .int .i64 0, .int .i64 0, .int .i64 0, .int .i64 0, .int .i64 0, .slice none 0 0, .int .i64 0, .int .i64 0, .int .i64 0, .slice none 0 0, .slice none 0 0] := by rw [hu47]; exact BoxL.new u46 41 [.string ⟨#[]⟩, .slice none 0 0, .slice none 0 0, .bool false, .int .i64 0, .int .i64 0, .int .i64 0, .int .i64 0, .int .i64 0, .slice none 0 0, .int .i64 0, .int .i64 0, .int .i64 0, .slice none 0 0, .slice none 0 0]
            have gD47 : W4.heap.size ≤ u46.heap.size := hb46.size
            have zb44 := zb44.on d47
            have inf := inf.on d47
            have thr := thr.on d47
            have ghi45 := Nat.le_trans ghi45 (d47).size
            have inr := inr.on d47
            have ghi46 := Nat.le_trans ghi46 (d47).size
            refine hK.out _ _ (HS.out _ (hu47 ▸ hb47)) (fun hHeld2 => ?_)
            rw [← hu47] at hHeld2 ⊢
            clear hu47
            clear hK K hHeld; have hHeld := hHeld2; clear hHeld2
            try go_frame
            refine ts 8 (fun K hK => ?_)
            have hq48 : fs.length = 15 := inf.len
            have hi48 : (Try.prog.info? 41).map (·.size) = some fs.toArray.size := by have e : fs.toArray.size = 15 := (by simp [hq48]); rw [e]; exact sizeInfo
            have ho48 : fs.toArray.all (·.oneCell') = true := all_oneCell_toArray inf.one
            have ht48 : u47.there (u46.heap.size) 0 fs.toArray.size := by have e : fs.toArray.size = 15 := (by simp [hq48]); rw [e]; exact zb47.there
            have hc48 : Below W4.heap.size W4 (u47.setCells (u46.heap.size) 0 fs) := below_setCells hb47 gD47
            have sp48 := spl_mk (w := W4) (lst := fs) zb47 inf thr hb47 gD47 gD47 glo45 ghi45 nS47ra (by rw [hq48]; rfl)
            have ir48 := inr.store (D := u46.heap.size) (fun b _ h => by rcases h with h | h; (have h1 : b < w.heap.size := h; have h2 := B04.out.size; have h3 := gD47; omega); exact not_seg nS47rb b h) 0 fs
            have zc48 : BoxL (u47.setCells (u46.heap.size) 0 fs) (W4.heap.size) [.string ⟨#[]⟩, .slice none 0 0, .slice none 0 0, .bool false, .int .i64 0, .int .i64 0, .int .i64 0, .int .i64 0, .int .i64 0, .slice none 0 0, .int .i64 0, .int .i64 0, .int .i64 0, .slice none 0 0, .slice none 0 0] := zb44.kept (A := fun b => b ≠ u46.heap.size) (kept_setCells (fun h => h rfl)) (by have := df47; omega)
            refine want_yes (by rfl) (wp_store_mid 41 _ _ rfl (u46.heap.size) 0 fs.toArray rfl rfl ht48 hi48 ho48 ?_)
            refine hK.out undef _ (HS.out _ hc48) (fun hHeld2 => ?_)
            clear hK K hHeld; have hHeld := hHeld2; clear hHeld2
            try go_frame
            refine ts 9 (fun K hK => ?_)
            have hq49 : gs.length = 15 := inr.len
            have hi49 : (Try.prog.info? 41).map (·.size) = some gs.toArray.size := by have e : gs.toArray.size = 15 := (by simp [hq49]); rw [e]; exact sizeInfo
            have ho49 : gs.toArray.all (·.oneCell') = true := all_oneCell_toArray inr.one
            have ht49 : (u47.setCells (u46.heap.size) 0 fs).there (W4.heap.size) 0 gs.toArray.size := by have e : gs.toArray.size = 15 := (by simp [hq49]); rw [e]; exact zc48.there
            have hc49 : Below W4.heap.size W4 ((u47.setCells (u46.heap.size) 0 fs).setCells (W4.heap.size) 0 gs) := below_setCells hc48 gD44
            have sq49 := spl_store sp48 gD44 (show W4.heap.size ≠ u46.heap.size by have := df47; omega) ne45Db gs
            have iq49 := RInfo.firm.weak (ir48.store (D := W4.heap.size) (fun b _ h => by rcases h with h | h; (have h1 : b < w.heap.size := h; have h2 := B04.out.size; have h3 := gD44; omega); exact not_seg ne46Db b h) 0 gs).info (A' := fun _ => True) (fun _ _ _ => trivial)
            have bx49 := box_write (cs := gs) zc48 (by rw [hq49]; rfl)
            refine want_yes (by rfl) (wp_store_mid 41 _ _ rfl (W4.heap.size) 0 gs.toArray rfl rfl ht49 hi49 ho49 ?_)
            refine hK.out undef _ (HS.out _ hc49) (fun hHeld2 => ?_)
            clear hK K hHeld; have hHeld := hHeld2; clear hHeld2
            try go_frame
            refine wpAnyH_done (by kernel_rfl) ?_ _
            refine NoPanic.normal ?_
            go_wp2_with fail
            go_meet
            exact ⟨u46.heap.size, fs, _, _, W4.heap.size, gs, rfl, rfl, sq49, bx49, iq49⟩
          ·
            go_simp
            have df50 : W4.heap.size < u45.heap.size := zb44.1
            have nS50ra : ¬ Seg u44.heap.size u45.heap.size (u45.heap.size) := fun h => by have h1 := h.2; have h2 := ghi45; omega
            obtain ⟨u50, hu50⟩ : ∃ u50, u50 = u45.alloc (.cells #[.string ⟨#[]⟩, .slice none 0 0, .slice none 0 0, .bool false, .int .i64 0, .int .i64 0, .int .i64 0, .int .i64 0, .int .i64 0, .slice none 0 0, .int .i64 0, .int .i64 0, .int .i64 0, .slice none 0 0, .slice none 0 0] 41) := ⟨_, rfl⟩
            have d50 : Below u45.heap.size u45 u50 := by rw [hu50]; exact (Below.refl _ _).alloc (Nat.le_refl _) _
            have hb50 : Below W4.heap.size W4 u50 := on2 hb45 d50
            have zb50 : BoxL u50 u45.heap.size [.string ⟨#[]⟩, .slice none 0 0, .slice none 0 0, .bool false, .int .i64 0, .int .i64 0, .int .i64 0, .int .i64 0, .int .i64 0, .slice none 0 0, .int .i64 0, .int .i64 0, .int .i64 0, .slice none 0 0, .slice none 0 0] := by rw [hu50]; exact BoxL.new u45 41 [.string ⟨#[]⟩, .slice none 0 0, .slice none 0 0, .bool false, .int .i64 0, .int .i64 0, .int .i64 0, .int .i64 0, .int .i64 0, .slice none 0 0, .int .i64 0, .int .i64 0, .int .i64 0, .slice none 0 0, .slice none 0 0]
            have gD50 : W4.heap.size ≤ u45.heap.size := hb45.size
            have zb44 := zb44.on d50
            have inf := inf.on d50
            have thr := thr.on d50
            have ghi45 := Nat.le_trans ghi45 (d50).size
            refine hK.out _ _ (HS.out _ (hu50 ▸ hb50)) (fun hHeld2 => ?_)
            rw [← hu50] at hHeld2 ⊢
            clear hu50
            clear hK K hHeld; have hHeld := hHeld2; clear hHeld2
            try go_frame
            refine tr 5 (fun K hK => ?_)
            have hC51 := rOf_calls [k0, k1, k2, k3, k4, k5, k6, k7, k8] a n cap (fun b => b < w.heap.size) (fun b => b < w.heap.size) x L u50 (HN.out _ (on2 B04.out hb50)) (HL.out _ (on2 B04.out hb50)) HF.out
            have lt51Da : u45.heap.size < u50.heap.size := zb50.1
            have lt51Db : W4.heap.size < u50.heap.size := zb44.1
            rw [← HXE.out] at hC51
            go_simp
            refine hC51.mono ?_
            rintro e u51 ⟨gs, rfl, p51, d51⟩
            clear hC51
            have hb51 : Below W4.heap.size W4 u51 := on2 hb50 d51
            have zb44 := zb44.on d51
            have inf := inf.on d51
            have thr := thr.on d51
            have ghi45 := Nat.le_trans ghi45 (d51).size
            have zb50 := zb50.on d51
            have inr := p51.weak (A' := (fun b => b < w.heap.size)) (F' := Seg u50.heap.size u51.heap.size) (fun _ _ h => h) (fun b hb h => ⟨h, hb⟩)
            have ghi51 : u51.heap.size ≤ u51.heap.size := Nat.le_refl _
            have glo51 := hb50.size
            have ne51Da : ¬ Seg u50.heap.size u51.heap.size (u45.heap.size) := fun h => by have h1 := h.1; have h2 := lt51Da; omega
            have ne51Db : ¬ Seg u50.heap.size u51.heap.size (W4.heap.size) := fun h => by have h1 := h.1; have h2 := lt51Db; omega
            go_wp2_with fail
            refine hK.out _ _ (HS.out _ hb51) (fun hHeld2 => ?_)
            clear hK K hHeld; have hHeld := hHeld2; clear hHeld2
            try go_frame
            refine ts 8 (fun K hK => ?_)
            have hq52 : fs.length = 15 := inf.len
            have hi52 : (Try.prog.info? 41).map (·.size) = some fs.toArray.size := by have e : fs.toArray.size = 15 := (by simp [hq52]); rw [e]; exact sizeInfo
            have ho52 : fs.toArray.all (·.oneCell') = true := all_oneCell_toArray inf.one
            have ht52 : u51.there (u45.heap.size) 0 fs.toArray.size := by have e : fs.toArray.size = 15 := (by simp [hq52]); rw [e]; exact zb50.there
            have hc52 : Below W4.heap.size W4 (u51.setCells (u45.heap.size) 0 fs) := below_setCells hb51 gD50
            have sp52 := spl_mk (w := W4) (lst := fs) zb50 inf thr hb51 gD50 gD50 glo45 ghi45 nS50ra (by rw [hq52]; rfl)
            have ir52 := inr.store (D := u45.heap.size) (fun b _ h => by rcases h with h | h; (have h1 : b < w.heap.size := h; have h2 := B04.out.size; have h3 := gD50; omega); exact not_seg ne51Da b h) 0 fs
            have zc52 : BoxL (u51.setCells (u45.heap.size) 0 fs) (W4.heap.size) [.string ⟨#[]⟩, .slice none 0 0, .slice none 0 0, .bool false, .int .i64 0, .int .i64 0, .int .i64 0, .int .i64 0, .int .i64 0, .slice none 0 0, .int .i64 0, .int .i64 0, .int .i64 0, .slice none 0 0, .slice none 0 0] := zb44.kept (A := fun b => b ≠ u45.heap.size) (kept_setCells (fun h => h rfl)) (by have := df50; omega)
            refine want_yes (by rfl) (wp_store_mid 41 _ _ rfl (u45.heap.size) 0 fs.toArray rfl rfl ht52 hi52 ho52 ?_)
            refine hK.out undef _ (HS.out _ hc52) (fun hHeld2 => ?_)
            clear hK K hHeld; have hHeld := hHeld2; clear hHeld2
            try go_frame
            refine ts 9 (fun K hK => ?_)
            have hq53 : gs.length = 15 := inr.len
            have hi53 : (Try.prog.info? 41).map (·.size) = some gs.toArray.size := by have e : gs.toArray.size = 15 := (by simp [hq53]); rw [e]; exact sizeInfo
            have ho53 : gs.toArray.all (·.oneCell') = true := all_oneCell_toArray inr.one
            have ht53 : (u51.setCells (u45.heap.size) 0 fs).there (W4.heap.size) 0 gs.toArray.size := by have e : gs.toArray.size = 15 := (by simp [hq53]); rw [e]; exact zc52.there
            have hc53 : Below W4.heap.size W4 ((u51.setCells (u45.heap.size) 0 fs).setCells (W4.heap.size) 0 gs) := below_setCells hc52 gD44
            have sq53 := spl_store sp52 gD44 (show W4.heap.size ≠ u45.heap.size by have := df50; omega) ne45Db gs
            have iq53 := RInfo.firm.weak (ir52.store (D := W4.heap.size) (fun b _ h => by rcases h with h | h; (have h1 : b < w.heap.size := h; have h2 := B04.out.size; have h3 := gD44; omega); exact not_seg ne51Db b h) 0 gs).info (A' := fun _ => True) (fun _ _ _ => trivial)
            have bx53 := box_write (cs := gs) zc52 (by rw [hq53]; rfl)
            refine want_yes (by rfl) (wp_store_mid 41 _ _ rfl (W4.heap.size) 0 gs.toArray rfl rfl ht53 hi53 ho53 ?_)
            refine hK.out undef _ (HS.out _ hc53) (fun hHeld2 => ?_)
            clear hK K hHeld; have hHeld := hHeld2; clear hHeld2
            try go_frame
            refine wpAnyH_done (by kernel_rfl) ?_ _
            refine NoPanic.normal ?_
            go_wp2_with fail
            go_meet
            exact ⟨u45.heap.size, fs, _, _, W4.heap.size, gs, rfl, rfl, sq53, bx53, iq53⟩
        ·
          go_simp
          have df54 : W4.heap.size < u44.heap.size := zb44.1
          obtain ⟨u54, hu54⟩ : ∃ u54, u54 = u44.alloc (.cells #[.string ⟨#[]⟩, .slice none 0 0, .slice none 0 0, .bool false, .int .i64 0, .int .i64 0, .int .i64 0, .int .i64 0, .int .i64 0, .slice none 0 0, .int .i64 0, .int .i64 0, .int .i64 0, .slice none 0 0, .slice none 0 0] 41) := ⟨_, rfl⟩
          have d54 : Below u44.heap.size u44 u54 := by rw [hu54]; exact (Below.refl _ _).alloc (Nat.le_refl _) _
          have hb54 : Below W4.heap.size W4 u54 := on2 hb44 d54
          have zb54 : BoxL u54 u44.heap.size [.string ⟨#[]⟩, .slice none 0 0, .slice none 0 0, .bool false, .int .i64 0, .int .i64 0, .int .i64 0, .int .i64 0, .int .i64 0, .slice none 0 0, .int .i64 0, .int .i64 0, .int .i64 0, .slice none 0 0, .slice none 0 0] := by rw [hu54]; exact BoxL.new u44 41 [.string ⟨#[]⟩, .slice none 0 0, .slice none 0 0, .bool false, .int .i64 0, .int .i64 0, .int .i64 0, .int .i64 0, .int .i64 0, .slice none 0 0, .int .i64 0, .int .i64 0, .int .i64 0, .slice none 0 0, .slice none 0 0]
          have gD54 : W4.heap.size ≤ u44.heap.size := hb44.size
          have zb44 := zb44.on d54
          refine hK.out _ _ (HS.out _ (hu54 ▸ hb54)) (fun hHeld2 => ?_)
          rw [← hu54] at hHeld2 ⊢
          clear hu54
          clear hK K hHeld; have hHeld := hHeld2; clear hHeld2
          try go_frame
          refine tr 2 (fun K hK => ?_)
          have hC55 := Of_calls ms oa n oc (fun b => b < W4.heap.size) (fun b => b < W4.heap.size) x L u54 (HRm.out _ hb54) (HO.out _ hb54) HF.out
          have lt55Da : u44.heap.size < u54.heap.size := zb54.1
          have lt55Db : W4.heap.size < u54.heap.size := zb44.1
          rw [← HXE.out] at hC55
          go_simp
          refine hC55.mono ?_
          rintro e u55 ⟨fs, rfl, p55, thr, d55⟩
          clear hC55
          have hb55 : Below W4.heap.size W4 u55 := on2 hb54 d55
          have zb44 := zb44.on d55
          have zb54 := zb54.on d55
          have inf := p55.weak (A' := (fun b => b < W4.heap.size)) (F' := Seg u54.heap.size u55.heap.size) (fun _ _ h => h) (fun b hb h => ⟨h, hb⟩)
          have ghi55 : u55.heap.size ≤ u55.heap.size := Nat.le_refl _
          have glo55 := hb54.size
          have ne55Da : ¬ Seg u54.heap.size u55.heap.size (u44.heap.size) := fun h => by have h1 := h.1; have h2 := lt55Da; omega
          have ne55Db : ¬ Seg u54.heap.size u55.heap.size (W4.heap.size) := fun h => by have h1 := h.1; have h2 := lt55Db; omega
          go_wp2_with fail
          refine hK.out _ _ (HS.out _ hb55) (fun hHeld2 => ?_)
          clear hK K hHeld; have hHeld := hHeld2; clear hHeld2
          try go_frame
          refine tr 5 (fun K hK => ?_)
          have hC56 := rOf_calls [k0, k1, k2, k3, k4, k5, k6, k7, k8] a n cap (fun b => b < w.heap.size) (fun b => b < w.heap.size) x L u55 (HN.out _ (on2 B04.out hb55)) (HL.out _ (on2 B04.out hb55)) HF.out
          have lt56Da : u44.heap.size < u55.heap.size := zb54.1
          have lt56Db : W4.heap.size < u55.heap.size := zb44.1
          rw [← HXE.out] at hC56
          go_simp
          refine hC56.mono ?_
          rintro e u56 ⟨gs, rfl, p56, d56⟩
          clear hC56
          have hb56 : Below W4.heap.size W4 u56 := on2 hb55 d56
          have zb44 := zb44.on d56
          have zb54 := zb54.on d56
          have inf := inf.on d56
          have thr := thr.on d56
          have ghi55 := Nat.le_trans ghi55 (d56).size
          have inr := p56.weak (A' := (fun b => b < w.heap.size)) (F' := Seg u55.heap.size u56.heap.size) (fun _ _ h => h) (fun b hb h => ⟨h, hb⟩)
          have ghi56 : u56.heap.size ≤ u56.heap.size := Nat.le_refl _
          have glo56 := hb55.size
          have ne56Da : ¬ Seg u55.heap.size u56.heap.size (u44.heap.size) := fun h => by have h1 := h.1; have h2 := lt56Da; omega
          have ne56Db : ¬ Seg u55.heap.size u56.heap.size (W4.heap.size) := fun h => by have h1 := h.1; have h2 := lt56Db; omega
          go_wp2_with fail
          refine hK.out _ _ (HS.out _ hb56) (fun hHeld2 => ?_)
          clear hK K hHeld; have hHeld := hHeld2; clear hHeld2
          try go_frame
          refine ts 8 (fun K hK => ?_)
          have hq57 : fs.length = 15 := inf.len
          have hi57 : (Try.prog.info? 41).map (·.size) = some fs.toArray.size := by have e : fs.toArray.size = 15 := (by simp [hq57]); rw [e]; exact sizeInfo
          have ho57 : fs.toArray.all (·.oneCell') = true := all_oneCell_toArray inf.one
          have ht57 : u56.there (u44.heap.size) 0 fs.toArray.size := by have e : fs.toArray.size = 15 := (by simp [hq57]); rw [e]; exact zb54.there
          have hc57 : Below W4.heap.size W4 (u56.setCells (u44.heap.size) 0 fs) := below_setCells hb56 gD54
          have sp57 := spl_mk (w := W4) (lst := fs) zb54 inf thr hb56 gD54 gD54 glo55 ghi55 ne55Da (by rw [hq57]; rfl)
          have ir57 := inr.store (D := u44.heap.size) (fun b _ h => by rcases h with h | h; (have h1 : b < w.heap.size := h; have h2 := B04.out.size; have h3 := gD54; omega); exact not_seg ne56Da b h) 0 fs
          have zc57 : BoxL (u56.setCells (u44.heap.size) 0 fs) (W4.heap.size) [.string ⟨#[]⟩, .slice none 0 0, .slice none 0 0, .bool false, .int .i64 0, .int .i64 0, .int .i64 0, .int .i64 0, .int .i64 0, .slice none 0 0, .int .i64 0, .int .i64 0, .int .i64 0, .slice none 0 0, .slice none 0 0] := zb44.kept (A := fun b => b ≠ u44.heap.size) (kept_setCells (fun h => h rfl)) (by have := df54; omega)
          refine want_yes (by rfl) (wp_store_mid 41 _ _ rfl (u44.heap.size) 0 fs.toArray rfl rfl ht57 hi57 ho57 ?_)
          refine hK.out undef _ (HS.out _ hc57) (fun hHeld2 => ?_)
          clear hK K hHeld; have hHeld := hHeld2; clear hHeld2
          try go_frame
          refine ts 9 (fun K hK => ?_)
          have hq58 : gs.length = 15 := inr.len
          have hi58 : (Try.prog.info? 41).map (·.size) = some gs.toArray.size := by have e : gs.toArray.size = 15 := (by simp [hq58]); rw [e]; exact sizeInfo
          have ho58 : gs.toArray.all (·.oneCell') = true := all_oneCell_toArray inr.one
          have ht58 : (u56.setCells (u44.heap.size) 0 fs).there (W4.heap.size) 0 gs.toArray.size := by have e : gs.toArray.size = 15 := (by simp [hq58]); rw [e]; exact zc57.there
          have hc58 : Below W4.heap.size W4 ((u56.setCells (u44.heap.size) 0 fs).setCells (W4.heap.size) 0 gs) := below_setCells hc57 gD44
          have sq58 := spl_store sp57 gD44 (show W4.heap.size ≠ u44.heap.size by have := df54; omega) ne55Db gs
          have iq58 := RInfo.firm.weak (ir57.store (D := W4.heap.size) (fun b _ h => by rcases h with h | h; (have h1 : b < w.heap.size := h; have h2 := B04.out.size; have h3 := gD44; omega); exact not_seg ne56Db b h) 0 gs).info (A' := fun _ => True) (fun _ _ _ => trivial)
          have bx58 := box_write (cs := gs) zc57 (by rw [hq58]; rfl)
          refine want_yes (by rfl) (wp_store_mid 41 _ _ rfl (W4.heap.size) 0 gs.toArray rfl rfl ht58 hi58 ho58 ?_)
          refine hK.out undef _ (HS.out _ hc58) (fun hHeld2 => ?_)
          clear hK K hHeld; have hHeld := hHeld2; clear hHeld2
          try go_frame
          refine wpAnyH_done (by kernel_rfl) ?_ _
          refine NoPanic.normal ?_
          go_wp2_with fail
          go_meet
          exact ⟨u44.heap.size, fs, _, _, W4.heap.size, gs, rfl, rfl, sq58, bx58, iq58⟩
    case rest =>
      obtain ⟨Da, fs, lo, hi, Db, gs, rfl, rfl, hD⟩ := hcut
      have HA : Hid (Spl (fun b => b < W4.heap.size) W4 wc Da fs lo hi X ∧ BoxL wc Db gs ∧ RInfo (fun _ => True) wc gs X) := hD
      have hlf : fs.length = 15 := HA.out.1.inf.len
      have hif : (Try.prog.info? 41).map (·.size) = some fs.length := by rw [hlf]; exact sizeInfo
      have hlg : gs.length = 15 := RInfo.firm.len HA.out.2.2
      have hig : (Try.prog.info? 41).map (·.size) = some gs.length := by rw [hlg]; exact sizeInfo
      clear hD hlf hlg
      have HS : Hid (∀ u, Below wc.heap.size wc u → (fun u => BoxL u Da fs ∧ BoxL u Db gs ∧ BoxL u (w.heap.size + 1) [.string y.1, v1, v2, v3, v4, v5, v6, v7, v8, v9, v10, v11, v12, v13, v14, v15]) u) := fun u hb => ⟨HA.out.1.box.on hb, HA.out.2.1.on hb, HBY.out u (on2 (on2 B4.out HA.out.1.bel) hb)⟩
      have hqr := neqR_same (freeP X).1 (freeP X).2.1 (freeP X).2.2
      have hgr := guardR
      go_upto_region 3 with fail
      refine wp_region_noPanic ?_
      refine wp_region_held_drew (S := (fun u => BoxL u Da fs ∧ BoxL u Db gs ∧ BoxL u (w.heap.size + 1) [.string y.1, v1, v2, v3, v4, v5, v6, v7, v8, v9, v10, v11, v12, v13, v14, v15])) (by kernel_rfl) (HS.out _ (Below.refl _ _).drew) (fun hHeld => ?_)
      have hb0 : Below wc.heap.size wc wc.drew := (Below.refl _ _).drew
      refine' tq 0 (.agg (fs).toArray) ?_ ?_
      · exact yieldsIf_load_mid rfl 41 _ rfl Da 0 rfl fs _ (fun u hu => hu.1.range) Try.underlying41 rfl hif
      try go_frame
      refine' tq 1 (.agg (gs).toArray) ?_ ?_
      · exact yieldsIf_load_mid rfl 41 _ rfl Db 0 rfl gs _ (fun u hu => hu.2.1.range) Try.underlying41 rfl hig
      try go_frame
      refine tr 2 (fun K hK => ?_)
      go_simp
      refine (SameInfo_yes fs gs _ _ X wc.drew (HA.out.1.inf.on hb0).info (RInfo.firm.kept HA.out.2.2 (Kept.below hb0))).mono ?_
      rintro e z1 ⟨rfl, d1⟩
      have hb1 : Below wc.heap.size wc z1 := on2 hb0 d1
      go_wp2_with fail
      refine hK.out _ _ (HS.out _ hb1) (fun hHeld2 => ?_)
      clear hK K hHeld; have hHeld := hHeld2; clear hHeld2
      try go_frame
      refine' tk 3 ?_ ?_; rotate_left
      · intro u hu; clear hu; go_simp; try with_reducible rfl
      try go_frame
      refine' tk 4 ?_ ?_; rotate_left
      · intro u hu; clear hu; go_simp; try with_reducible rfl
      try go_frame
      refine' tq 5 (.agg (fs).toArray) ?_ ?_
      · exact yieldsIf_load_mid rfl 41 _ rfl Da 0 rfl fs _ (fun u hu => hu.1.range) Try.underlying41 rfl hif
      try go_frame
      refine' tq 7 (.agg (gs).toArray) ?_ ?_
      · exact yieldsIf_load_mid rfl 41 _ rfl Db 0 rfl gs _ (fun u hu => hu.2.1.range) Try.underlying41 rfl hig
      try go_frame
      refine tr 6 (fun K hK => ?_)
      go_simp
      refine (Free_calls fs _ X z1 (HA.out.1.inf.on hb1).info).mono ?_
      rintro e z2 ⟨rfl, d2⟩
      have hb2 : Below wc.heap.size wc z2 := on2 hb1 d2
      go_wp2_with fail
      refine hK.out _ _ (HS.out _ hb2) (fun hHeld2 => ?_)
      clear hK K hHeld; have hHeld := hHeld2; clear hHeld2
      try go_frame
      refine tr 8 (fun K hK => ?_)
      go_simp
      refine (rFree_calls gs _ X z2 (RInfo.firm.kept HA.out.2.2 (Kept.below hb2))).mono ?_
      rintro e z3 ⟨rfl, d3⟩
      have hb3 : Below wc.heap.size wc z3 := on2 hb2 d3
      go_wp2_with fail
      refine hK.out _ _ (HS.out _ hb3) (fun hHeld2 => ?_)
      clear hK K hHeld; have hHeld := hHeld2; clear hHeld2
      try go_frame
      refine' tk 9 ?_ ?_; rotate_left
      · intro u hu; clear hu; go_simp; try with_reducible rfl
      try go_frame
      refine' tk 10 ?_ ?_; rotate_left
      · intro u hu; clear hu; go_simp; try with_reducible rfl
      try go_frame
      refine' tk 11 ?_ ?_; rotate_left
      · intro u hu; clear hu; go_simp; try with_reducible rfl
      try go_frame
      refine' tq 12 (.agg (fs).toArray) ?_ ?_
      · exact yieldsIf_load_mid rfl 41 _ rfl Da 0 rfl fs _ (fun u hu => hu.1.range) Try.underlying41 rfl hif
      try go_frame
      refine' tq 13 (.agg ([.string y.1, v1, v2, v3, v4, v5, v6, v7, v8, v9, v10, v11, v12, v13, v14, v15]).toArray) ?_ ?_
      · exact yieldsIf_load_mid rfl 37 _ rfl (w.heap.size + 1) 0 rfl [.string y.1, v1, v2, v3, v4, v5, v6, v7, v8, v9, v10, v11, v12, v13, v14, v15] _ (fun u hu => hu.2.2.range) Try.underlying37 rfl hiP
      try go_frame
      refine' tq 15 (.agg (gs).toArray) ?_ ?_
      · exact yieldsIf_load_mid rfl 41 _ rfl Db 0 rfl gs _ (fun u hu => hu.2.1.range) Try.underlying41 rfl hig
      try go_frame
      refine' tq 16 (.agg ([.string y.1, v1, v2, v3, v4, v5, v6, v7, v8, v9, v10, v11, v12, v13, v14, v15]).toArray) ?_ ?_
      · exact yieldsIf_load_mid rfl 37 _ rfl (w.heap.size + 1) 0 rfl [.string y.1, v1, v2, v3, v4, v5, v6, v7, v8, v9, v10, v11, v12, v13, v14, v15] _ (fun u hu => hu.2.2.range) Try.underlying37 rfl hiP
      try go_frame
      refine tr 14 (fun K hK => ?_)
      go_simp
      refine (Clash_calls fs [.string y.1, v1, v2, v3, v4, v5, v6, v7, v8, v9, v10, v11, v12, v13, v14, v15] _ (fun b => b < w.heap.size) X y z3 (HA.out.1.inf.on hb3).info (HY.out _ (on2 (on2 B04.out HA.out.1.bel) hb3))).mono ?_
      rintro e z4 ⟨rfl, d4⟩
      have hb4 : Below wc.heap.size wc z4 := on2 hb3 d4
      go_wp2_with fail
      refine hK.out _ _ (HS.out _ hb4) (fun hHeld2 => ?_)
      clear hK K hHeld; have hHeld := hHeld2; clear hHeld2
      try go_frame
      refine tr 17 (fun K hK => ?_)
      go_simp
      refine (rClash_calls gs [.string y.1, v1, v2, v3, v4, v5, v6, v7, v8, v9, v10, v11, v12, v13, v14, v15] _ (fun b => b < w.heap.size) X y z4 (RInfo.firm.kept HA.out.2.2 (Kept.below hb4)) (HY.out _ (on2 (on2 B04.out HA.out.1.bel) hb4))).mono ?_
      rintro e z5 ⟨rfl, d5⟩
      have hb5 : Below wc.heap.size wc z5 := on2 hb4 d5
      go_wp2_with fail
      refine hK.out _ _ (HS.out _ hb5) (fun hHeld2 => ?_)
      clear hK K hHeld; have hHeld := hHeld2; clear hHeld2
      try go_frame
      have HZ : Hid (Below wc.heap.size wc z5) := hb5
      clear d1 d2 d3 d4 d5 hb0 hb1 hb2 hb3 hb4 hb5 hHeld
      generalize clashP X y = cb
      have hHeld := HS.out _ HZ.out
      refine' tq 18 (.bool false) ?_ ?_
      · refine .inl ⟨rfl, fun u _ => ?_⟩; cases cb <;> (go_simp; try with_reducible rfl)
      try go_frame
      refine' tk 19 ?_ ?_; rotate_left
      · intro u hu; clear hu; go_simp; try with_reducible rfl
      try go_frame
      refine wpAnyH_done (by kernel_rfl) ?_ _
      refine NoPanic.normal ?_
      have hAz := HA.out.1.on HZ.out
      have HAz : Hid (Spl (fun b => b < W4.heap.size) W4 z5 Da fs lo hi X) := hAz
      clear hAz hHeld HS HA hqr hgr HZ
      go_wp2_with (first | (refine wpList_load_mid rfl 41 _ rfl Da 0 rfl fs _ HAz.out.box.range Try.underlying41 rfl hif ?_) | fail)
      refine (spoil_calls fs _ _ X z5 HAz.out.inf HAz.out.thr).mono ?_
      rintro e w6 ⟨rfl, ht6⟩
      have B6 : Hid (Below W4.heap.size W4 w6) := HAz.out.bel.trans (ht6.below (fun b h => Nat.le_trans HAz.out.glo h.1) HAz.out.bel.size)
      clear ht6 HAz hif hig
      go_wp2_with fail
      go_loopw [11] (fun i wr => ∃ k : Nat, k ≤ n ∧ i = .int .i64 k ∧ Hid (Below W4.heap.size W4 wr)) (fun i _ => n - (intOf i).toNat)
      case atStart => exact ⟨0, Nat.zero_le _, rfl, B6⟩
      case round =>
        obtain ⟨k, hk, rfl, hbk⟩ := hrel
        by_cases hlt : k < n
        · have hltz : (k : Int) < (n : Int) := by omega
          have hbw : Below w.heap.size w W4 := B04.out
          have b0k : Hid (Below w.heap.size w wr) := on2 B04.out hbk.out
          obtain ⟨C, co, rfl, hC, _, cs1, hr1, hv1⟩ := (HO.out W4 (Below.refl _ _)).get hlt
          obtain ⟨E, eo, rfl, hE, _, cs2, hr2, hv2⟩ := (HL.out w (Below.refl _ _)).get hlt
          have hl1 : cs1.length = 16 := RPod.firm.len hr1
          have hl2 : cs2.length = 16 := RPod.firm.len hr2
          have hi1 : (Try.prog.info? 37).map (·.size) = some cs1.length := by rw [hl1]; exact sizePod
          have hi2 : (Try.prog.info? 37).map (·.size) = some cs2.length := by rw [hl2]; exact sizePod
          have HS : Hid (∀ u, Below wr.heap.size wr u → (fun u => u.rangeAt C (co + k * 16) cs1 ∧ u.rangeAt E (eo + k * 16) cs2) u) := fun u hb => ⟨fun j v hj => ((on2 hbk.out hb).cell (p := ⟨C, co + k * 16 + j, none⟩) hC).trans (hv1 j v hj), fun j v hj => ((on2 b0k.out hb).cell (p := ⟨E, eo + k * 16 + j, none⟩) hE).trans (hv2 j v hj)⟩
          have HP1 : Hid (RPod (fun b => b < W4.heap.size) wr.drew cs1 (L.getD k default)) := RPod.firm.kept hr1 (Kept.below (on2 hbk.out (Below.refl wr.heap.size wr).drew))
          have HP2 : Hid (RPod (fun b => b < w.heap.size) wr.drew cs2 (L.getD k default)) := RPod.firm.kept hr2 (Kept.below (on2 b0k.out (Below.refl wr.heap.size wr).drew))
          clear hr1 hr2 hv1 hv2 hl1 hl2 hbw
          go_upto_region 9 with fail
          refine wp_region_noPanic ?_
          refine wp_region_held_drew (S := (fun u => u.rangeAt C (co + k * 16) cs1 ∧ u.rangeAt E (eo + k * 16) cs2)) (by kernel_rfl) (HS.out _ (Below.refl _ _).drew) (fun hHeld => ?_)
          refine' tk 0 ?_ ?_; rotate_left
          · intro u hu; clear hu; go_simp; try with_reducible rfl
          try go_frame
          refine' tk 1 ?_ ?_; rotate_left
          · intro u hu; clear hu; go_simp; try with_reducible rfl
          try go_frame
          refine' tk 2 ?_ ?_; rotate_left
          · intro u hu; clear hu; go_simp; try with_reducible rfl
          try go_frame
          refine' tq 3 (.agg cs1.toArray) ?_ ?_
          · exact yieldsIf_load_mid rfl 37 _ rfl C (co + k * 16) rfl cs1 _ (fun u hu => hu.1) Try.underlying37 rfl hi1
          try go_frame
          refine' tk 4 ?_ ?_; rotate_left
          · intro u hu; clear hu; go_simp; try with_reducible rfl
          try go_frame
          refine' tk 5 ?_ ?_; rotate_left
          · intro u hu; clear hu; go_simp; try with_reducible rfl
          try go_frame
          refine' tk 6 ?_ ?_; rotate_left
          · intro u hu; clear hu; go_simp; try with_reducible rfl
          try go_frame
          refine' tq 7 (.agg cs2.toArray) ?_ ?_
          · exact yieldsIf_load_mid rfl 37 _ rfl E (eo + k * 16) rfl cs2 _ (fun u hu => hu.2) Try.underlying37 rfl hi2
          try go_frame
          refine tr 8 (fun K hK => ?_)
          go_simp
          refine (SamePod_yes cs1 cs2 _ _ (L.getD k default) wr.drew HP1.out HP2.out).mono ?_
          rintro e w7 ⟨rfl, d7⟩
          have b7 : Below wr.heap.size wr w7 := on2 (Below.refl _ _).drew d7
          have HB7 : Hid (Below W4.heap.size W4 w7) := on2 hbk.out b7
          go_wp2_with fail
          refine hK.out _ _ (HS.out _ b7) (fun hHeld2 => ?_)
          clear hK K hHeld; have hHeld := hHeld2; clear hHeld2
          try go_frame
          refine' tk 9 ?_ ?_; rotate_left
          · intro u hu; clear hu; go_simp; try with_reducible rfl
          try go_frame
          refine wpAnyH_done (by kernel_rfl) ?_ _
          refine NoPanic.normal ?_
          clear hHeld HS d7 b7
          go_wp2_with fail
          go_roundw
          case rel => exact ⟨k + 1, by omega, by go_num, HB7⟩
          case measure => simp [intOf]; omega
        · have hlz : ¬ ((k : Int) < (n : Int)) := by omega
          have b2k : Hid (Below W2.heap.size W2 wr) := on2 B4.out hbk.out
          have b0k : Hid (Below w.heap.size w wr) := on2 B2.out b2k.out
          go_wp2_with (first | (refine wpList_load_mid rfl 27 _ rfl Dm 0 rfl ms _ (HXm.out wr hbk.out).range Try.underlying27 rfl him ?_) | (refine wpList_load_mid rfl 27 _ rfl w.heap.size 0 rfl [k0, k1, k2, k3, k4, k5, k6, k7, k8] _ (HBN.out wr b2k.out).range Try.underlying27 rfl hiN ?_))
          refine (SameNode_calls ms [k0, k1, k2, k3, k4, k5, k6, k7, k8] _ _ x x wr (HRm.out wr hbk.out) (HN.out wr b0k.out)).mono ?_
          rintro e w8 ⟨he, hb8⟩
          replace he := tells_yes he
          subst he
          have B8 : Hid (Below w.heap.size w w8) := on2 b0k.out hb8
          clear hb8
          go_wp2_with fail
          refine (works_calls w8).mono ?_
          rintro e w9 ⟨rfl, hb9⟩
          have B9 : Hid (Below w.heap.size w w9) := on2 B8.out hb9
          clear hb9
          go_wp2_with fail
          go_ret
          exact ⟨rfl, B9.out⟩
end Go.Proofs.Ytddeilhelkfpoaa
