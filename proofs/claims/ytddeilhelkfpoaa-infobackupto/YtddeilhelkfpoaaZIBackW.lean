/- InfoBack's walk: a pod that came and went leaves the info as it was. Condition: the arguments lie as is said of them, and hold together no more than the reading's bulk. -/
import Derived.Test.YtddeilhelkfpoaaQ17
namespace Go.Proofs.Ytddeilhelkfpoaa
open Go.RowKit
set_option linter.unusedSimpArgs false
set_option maxRecDepth 100000

def BkS (w : World) (D : Nat) (G Y : List Value) (u : World) : Prop := BoxL u D G ∧ BoxL u (w.heap.size + 1) Y
/-- What an info is that lies in new blocks, behind a store into a block that is none of them. -/
theorem bk_store {w : World} {u7 u : World} {hs : List Value} {X : InfoD} {D : Nat} (h : InfoAt (fun b => b < w.heap.size) (Fresh u7) u hs X) (hD : w.heap.size ≤ D) (hlt : D < u7.heap.size ∨ False) (vs : List Value) : InfoAt (fun b => b < w.heap.size) (fun _ => True) (u.setCells D 0 vs) hs X := by
  refine (h.store (D := D) (fun b _ hb => ?_) 0 vs).weak (fun _ _ h => h) (fun _ _ _ => trivial)
  rcases hlt with hlt | hlt
  · rcases hb with hb | hb
    · have h3 : b < w.heap.size := hb; omega
    · have h3 : u7.heap.size ≤ b := hb; omega
  · exact absurd hlt id
theorem bk_late {w : World} {u7 u8 u : World} {hs : List Value} {X : InfoD} {D : Nat} (h : InfoAt (fun b => b < w.heap.size) (fun b => Fresh u7 b ∧ b < u8.heap.size) u hs X) (hD : w.heap.size ≤ D) (hlt : u8.heap.size ≤ D) (vs : List Value) : InfoAt (fun b => b < w.heap.size) (fun _ => True) (u.setCells D 0 vs) hs X := by
  refine (h.store (D := D) (fun b _ hb => ?_) 0 vs).weak (fun _ _ h => h) (fun _ _ _ => trivial)
  rcases hb with hb | hb
  · have h3 : b < w.heap.size := hb; omega
  · have h3 := hb.2; omega
set_option maxHeartbeats 16000000 in
theorem back_walk (ns : List Value) (x : NodeD) (a : Option Addr) (n cap : Nat) (L : List PodD) (ds : List Value) (y : PodD) (w : World) (hN : RNode (fun _ => True) w ns x) (hL : SlAt RPod 16 296 (fun _ => True) w a n cap L) (hY : RPod (fun _ => True) w ds y) (hS : sumBy mPod L + mPod y ≤ 1048576) : Calls Try.prog 6 #[.agg ns.toArray, .slice a n cap, .agg ds.toArray] w fun e w' => e = .returned (.bool true) ∧ Below w.heap.size w w' := by
  obtain ⟨k0, k1, k2, k3, k4, k5, k6, k7, k8, rfl⟩ := hN.lit
  obtain ⟨hsz, v1, v2, v3, v4, v5, v6, v7, v8, v9, v10, v11, v12, v13, v14, v15, rfl⟩ := hY.lit0
  have HN : Hid (∀ u, Below w.heap.size w u → RNode (fun b => b < w.heap.size) u [k0, k1, k2, k3, k4, k5, k6, k7, k8] x) := fun u hb => RNode.firm.kept (RNode.firm.weak hN (fun b hb _ => hb)) (Kept.below hb)
  have HY : Hid (∀ u, Below w.heap.size w u → RPod (fun b => b < w.heap.size) u [.string y.1, v1, v2, v3, v4, v5, v6, v7, v8, v9, v10, v11, v12, v13, v14, v15] y) := fun u hb => RPod.firm.kept (RPod.firm.weak hY (fun b hb _ => hb)) (Kept.below hb)
  have HL : Hid (∀ u, Below w.heap.size w u → SlAt RPod 16 296 (fun b => b < w.heap.size) u a n cap L) := fun u hb => (hL.weak RPod.firm (fun b hb _ => hb)).on RPod.firm hb
  have HF : Hid (FitsP L) := fits_of (by omega)
  have HF2 : Hid (FitsP (L ++ [y])) := fits_of (by rw [sumBy_append]; simpa [sumBy] using hS)
  have HX : Hid (FitsA (ofP x L) y) := fitsA_of (small_of x L) y (by omega)
  have HBK : Hid (hasB sEq (ofP x L).2.1 y.1 = false → dropP (addP (ofP x L) y) y (L ++ [y]) = (ofP x L, 0)) := back_plain x L y
  have HAN : Hid (hasB sEq (addP (ofP x L) y).2.1 y.1 = true) := (add_names _ _ _).2 (.inr rfl)
  have hnl : Hid (L.length = n) := hL.1
  have hll : Hid (L.length * 296 ≤ 140737488351232) := by rw [Hid, hL.1]; exact hL.2.2.2.1
  have hsm : Hid (L.length ≤ 1048576) := by have := len_sum L; rw [Hid]; omega
  clear hN hY hL hS
  obtain ⟨X, hX⟩ : ∃ X, X = ofP x L := ⟨_, rfl⟩
  rw [← hX] at HX HBK HAN
  have HXE : Hid (X = ofP x L) := hX
  clear hX
  obtain ⟨W2, hW2⟩ : ∃ W2, W2 = (w.alloc (.cells #[k0, k1, k2, k3, k4, k5, k6, k7, k8] 27)).alloc (.cells #[.string y.1, v1, v2, v3, v4, v5, v6, v7, v8, v9, v10, v11, v12, v13, v14, v15] 37) := ⟨_, rfl⟩
  have B2 : Hid (Below w.heap.size w W2) := by rw [Hid, hW2]; exact ((Below.refl _ _).alloc (Nat.le_refl _) _).alloc (by simp) _
  have HBN : Hid (∀ u, Below W2.heap.size W2 u → BoxL u w.heap.size [k0, k1, k2, k3, k4, k5, k6, k7, k8]) := fun u hb => BoxL.on (by rw [hW2]; exact (BoxL.new w 27 [k0, k1, k2, k3, k4, k5, k6, k7, k8]).on ((Below.refl _ _).alloc (Nat.le_refl _) _)) hb
  have HBY : Hid (∀ u, Below W2.heap.size W2 u → BoxL u (w.heap.size + 1) [.string y.1, v1, v2, v3, v4, v5, v6, v7, v8, v9, v10, v11, v12, v13, v14, v15]) := fun u hb => BoxL.on (by have h1 := BoxL.new (w.alloc (.cells #[k0, k1, k2, k3, k4, k5, k6, k7, k8] 27)) 37 [.string y.1, v1, v2, v3, v4, v5, v6, v7, v8, v9, v10, v11, v12, v13, v14, v15]; rw [hW2]; simpa using h1) hb
  go_enter Try.func6, Try.ntmps6
  go_wp2_with fail
  rw [← hW2]
  clear hW2
  refine (works_calls W2).mono ?_
  rintro e w3 ⟨rfl, hb3⟩
  have B3 : Hid (Below W2.heap.size W2 w3) := hb3
  have hiN : (Try.prog.info? 27).map (·.size) = some ([k0, k1, k2, k3, k4, k5, k6, k7, k8] : List Value).length := sizeNode
  have hiP : (Try.prog.info? 37).map (·.size) = some ([.string y.1, v1, v2, v3, v4, v5, v6, v7, v8, v9, v10, v11, v12, v13, v14, v15] : List Value).length := sizePod
  clear hb3
  go_wp2_with (refine wpList_load_mid rfl 27 _ rfl w.heap.size 0 rfl [k0, k1, k2, k3, k4, k5, k6, k7, k8] _ (HBN.out w3 B3.out).range Try.underlying27 rfl hiN ?_)
  have b03 : Below w.heap.size w w3 := on2 B2.out B3.out
  have hOf := Of_calls [k0, k1, k2, k3, k4, k5, k6, k7, k8] a n cap (fun b => b < w.heap.size) (fun b => b < w.heap.size) x L w3 (HN.out w3 b03) (HL.out w3 b03) HF.out
  rw [← HXE.out] at hOf
  refine hOf.mono ?_
  clear hOf
  rintro e w4 ⟨fs, rfl, hI4, _, hb4⟩
  clear b03
  obtain ⟨f0, f1, f2, f3, f4, f5, f6, f7, f8, a9, n9, m9, f10, f11, f12, f13, f14, rfl, s9⟩ := hI4.info.lit
  have HI4 : Hid (∀ u, Below w4.heap.size w4 u → InfoAt (fun b => b < w.heap.size) (Fresh w3) u [f0, f1, f2, f3, f4, f5, f6, f7, f8, .slice a9 n9 m9, f10, f11, f12, f13, f14] X) := fun u hb => hI4.on hb
  have S9 : Hid (∀ u, Below w4.heap.size w4 u → SlAt RStr 1 16 _ u a9 n9 m9 X.2.1) := fun u hb => s9.on RStr.firm hb
  have HO4 : Hid ((([f0, f1, f2, f3, f4, f5, f6, f7, f8, .slice a9 n9 m9, f10, f11, f12, f13, f14] : List Value).toArray).all (·.oneCell') = true) := all_oneCell_toArray hI4.one
  have hiI : (Try.prog.info? 41).map (·.size) = some ([f0, f1, f2, f3, f4, f5, f6, f7, f8, .slice a9 n9 m9, f10, f11, f12, f13, f14] : List Value).length := sizeInfo
  have B4 : Hid (Below W2.heap.size W2 w4) := on2 B3.out hb4
  clear hI4 s9 hb4 B3
  obtain ⟨W5, hW5⟩ : ∃ W5, W5 = (w4.alloc (.cells #[.string ⟨#[]⟩, .slice none 0 0, .slice none 0 0, .bool false, .int .i64 0, .int .i64 0, .int .i64 0, .int .i64 0, .int .i64 0, .slice none 0 0, .int .i64 0, .int .i64 0, .int .i64 0, .slice none 0 0, .slice none 0 0] 41)).setCells w4.heap.size 0 [f0, f1, f2, f3, f4, f5, f6, f7, f8, .slice a9 n9 m9, f10, f11, f12, f13, f14] := ⟨_, rfl⟩
  have HT5 : Hid ((w4.alloc (.cells #[.string ⟨#[]⟩, .slice none 0 0, .slice none 0 0, .bool false, .int .i64 0, .int .i64 0, .int .i64 0, .int .i64 0, .int .i64 0, .slice none 0 0, .int .i64 0, .int .i64 0, .int .i64 0, .slice none 0 0, .slice none 0 0] 41)).there w4.heap.size 0 15) := (BoxL.new w4 41 [.string ⟨#[]⟩, .slice none 0 0, .slice none 0 0, .bool false, .int .i64 0, .int .i64 0, .int .i64 0, .int .i64 0, .int .i64 0, .slice none 0 0, .int .i64 0, .int .i64 0, .int .i64 0, .slice none 0 0, .slice none 0 0]).there
  have HX5 : Hid (BoxL W5 w4.heap.size [f0, f1, f2, f3, f4, f5, f6, f7, f8, .slice a9 n9 m9, f10, f11, f12, f13, f14]) := by rw [hW5]; exact box_set w4 41 [.string ⟨#[]⟩, .slice none 0 0, .slice none 0 0, .bool false, .int .i64 0, .int .i64 0, .int .i64 0, .int .i64 0, .int .i64 0, .slice none 0 0, .int .i64 0, .int .i64 0, .int .i64 0, .slice none 0 0, .slice none 0 0] [f0, f1, f2, f3, f4, f5, f6, f7, f8, .slice a9 n9 m9, f10, f11, f12, f13, f14] rfl
  have B5 : Hid (Below w4.heap.size w4 W5) := by rw [Hid, hW5]; exact below_setCells ((Below.refl _ _).alloc (Nat.le_refl _) _) (Nat.le_refl _)
  have HW5 : Hid (W5 = (w4.alloc (.cells #[.string ⟨#[]⟩, .slice none 0 0, .slice none 0 0, .bool false, .int .i64 0, .int .i64 0, .int .i64 0, .int .i64 0, .int .i64 0, .slice none 0 0, .int .i64 0, .int .i64 0, .int .i64 0, .slice none 0 0, .slice none 0 0] 41)).setCells w4.heap.size 0 (([f0, f1, f2, f3, f4, f5, f6, f7, f8, .slice a9 n9 m9, f10, f11, f12, f13, f14] : List Value).toArray).toList) := hW5
  clear hW5
  have HY5 : Hid (BoxL W5 (w.heap.size + 1) [.string y.1, v1, v2, v3, v4, v5, v6, v7, v8, v9, v10, v11, v12, v13, v14, v15]) := HBY.out W5 (on2 B4.out B5.out)
  go_wp2_with (first | (refine wpList_store_mid rfl 41 _ _ rfl w4.heap.size 0 (([f0, f1, f2, f3, f4, f5, f6, f7, f8, .slice a9 n9 m9, f10, f11, f12, f13, f14] : List Value).toArray) rfl rfl HT5.out hiI HO4.out ?_; refine wpl_at HW5.out ?_) | (refine wpList_load_mid rfl 41 _ rfl w4.heap.size 0 rfl [f0, f1, f2, f3, f4, f5, f6, f7, f8, .slice a9 n9 m9, f10, f11, f12, f13, f14] _ HX5.out.range Try.underlying41 rfl hiI ?_) | (refine wpList_load_mid rfl 37 _ rfl (w.heap.size + 1) 0 rfl [.string y.1, v1, v2, v3, v4, v5, v6, v7, v8, v9, v10, v11, v12, v13, v14, v15] _ HY5.out.range Try.underlying37 rfl hiP ?_))
  have b05 : Below w.heap.size w W5 := on2 B2.out (on2 B4.out B5.out)
  refine (Add_calls [f0, f1, f2, f3, f4, f5, f6, f7, f8, .slice a9 n9 m9, f10, f11, f12, f13, f14] [.string y.1, v1, v2, v3, v4, v5, v6, v7, v8, v9, v10, v11, v12, v13, v14, v15] (fun b => b < w.heap.size) (Fresh w3) (fun b => b < w.heap.size) X y W5 (HI4.out W5 B5.out) (HY.out W5 b05) HX.out).mono ?_
  rintro e w6 ⟨gs, rfl, hI6, _, hb6⟩
  clear HO4 HT5 HW5 HY5
  obtain ⟨g0, g1, g2, g3, g4, g5, g6, g7, g8, b9, l9, q9, g10, g11, g12, g13, g14, rfl, t9⟩ := hI6.info.lit
  have HO6 : Hid ((([g0, g1, g2, g3, g4, g5, g6, g7, g8, .slice b9 l9 q9, g10, g11, g12, g13, g14] : List Value).toArray).all (·.oneCell') = true) := all_oneCell_toArray hI6.one
  have B6 : Hid (Below W5.heap.size W5 w6) := hb6
  obtain ⟨W7, hW7⟩ : ∃ W7, W7 = (w6.alloc (.cells #[.string ⟨#[]⟩, .slice none 0 0, .slice none 0 0, .bool false, .int .i64 0, .int .i64 0, .int .i64 0, .int .i64 0, .int .i64 0, .slice none 0 0, .int .i64 0, .int .i64 0, .int .i64 0, .slice none 0 0, .slice none 0 0] 41)).setCells w6.heap.size 0 [g0, g1, g2, g3, g4, g5, g6, g7, g8, .slice b9 l9 q9, g10, g11, g12, g13, g14] := ⟨_, rfl⟩
  have HT7 : Hid ((w6.alloc (.cells #[.string ⟨#[]⟩, .slice none 0 0, .slice none 0 0, .bool false, .int .i64 0, .int .i64 0, .int .i64 0, .int .i64 0, .int .i64 0, .slice none 0 0, .int .i64 0, .int .i64 0, .int .i64 0, .slice none 0 0, .slice none 0 0] 41)).there w6.heap.size 0 15) := (BoxL.new w6 41 [.string ⟨#[]⟩, .slice none 0 0, .slice none 0 0, .bool false, .int .i64 0, .int .i64 0, .int .i64 0, .int .i64 0, .int .i64 0, .slice none 0 0, .int .i64 0, .int .i64 0, .int .i64 0, .slice none 0 0, .slice none 0 0]).there
  have hX7 : BoxL W7 w6.heap.size [g0, g1, g2, g3, g4, g5, g6, g7, g8, .slice b9 l9 q9, g10, g11, g12, g13, g14] := by rw [hW7]; exact box_set w6 41 [.string ⟨#[]⟩, .slice none 0 0, .slice none 0 0, .bool false, .int .i64 0, .int .i64 0, .int .i64 0, .int .i64 0, .int .i64 0, .slice none 0 0, .int .i64 0, .int .i64 0, .int .i64 0, .slice none 0 0, .slice none 0 0] [g0, g1, g2, g3, g4, g5, g6, g7, g8, .slice b9 l9 q9, g10, g11, g12, g13, g14] rfl
  have hb7 : Below w6.heap.size w6 W7 := by rw [hW7]; exact below_setCells ((Below.refl _ _).alloc (Nat.le_refl _) _) (Nat.le_refl _)
  have HW7 : Hid (W7 = (w6.alloc (.cells #[.string ⟨#[]⟩, .slice none 0 0, .slice none 0 0, .bool false, .int .i64 0, .int .i64 0, .int .i64 0, .int .i64 0, .int .i64 0, .slice none 0 0, .int .i64 0, .int .i64 0, .int .i64 0, .slice none 0 0, .slice none 0 0] 41)).setCells w6.heap.size 0 (([g0, g1, g2, g3, g4, g5, g6, g7, g8, .slice b9 l9 q9, g10, g11, g12, g13, g14] : List Value).toArray).toList) := hW7
  clear hW7
  have b57 : Below W5.heap.size W5 W7 := on2 hb6 hb7
  have B07 : Hid (Below w.heap.size w W7) := on2 b05 b57
  have B27 : Hid (Below W2.heap.size W2 W7) := on2 (on2 B4.out B5.out) b57
  have B47 : Hid (Below w4.heap.size w4 W7) := on2 B5.out b57
  have HX7 : Hid (∀ u, Below W7.heap.size W7 u → BoxL u w6.heap.size [g0, g1, g2, g3, g4, g5, g6, g7, g8, .slice b9 l9 q9, g10, g11, g12, g13, g14]) := fun u hb => hX7.on hb
  have HF7 : Hid (∀ u, Below W7.heap.size W7 u → BoxL u w4.heap.size [f0, f1, f2, f3, f4, f5, f6, f7, f8, .slice a9 n9 m9, f10, f11, f12, f13, f14]) := fun u hb => (HX5.out.on b57).on hb
  have HG7 : Hid (∀ u, Below W7.heap.size W7 u → InfoAt (fun b => b < w.heap.size) (Fresh W5) u [g0, g1, g2, g3, g4, g5, g6, g7, g8, .slice b9 l9 q9, g10, g11, g12, g13, g14] (addE X y).1) := fun u hb => (hI6.on hb7).on hb
  have T9 : Hid (∀ u, Below W7.heap.size W7 u → SlAt RStr 1 16 _ u b9 l9 q9 (addE X y).1.2.1) := fun u hb => (t9.on RStr.firm hb7).on RStr.firm hb
  obtain ⟨x9, _⟩ := (HF7.out W7 (Below.refl _ _)).2 9 _ rfl
  obtain ⟨y0, _⟩ := (HBY.out W7 B27.out).2 0 _ rfl
  clear hX7 hb7 b57 hb6 hI6 t9 b05 HX5
  cases hh : hasB sEq X.2.1 y.1
  · have hE : addE X y = (addP X y, 0) := by simp only [addE, hh]; rfl
    rw [hE] at HG7 T9 ⊢
    have HD := HBK.out hh
    have HDr : Hid (dropP (addP X y) y (L ++ [y]) = (X, 0)) := HD
    clear HBK hE hh HD x9 y0
    go_upto_region 7 with (first | (refine wpList_store_mid rfl 41 _ _ rfl w6.heap.size 0 (([g0, g1, g2, g3, g4, g5, g6, g7, g8, .slice b9 l9 q9, g10, g11, g12, g13, g14] : List Value).toArray) rfl rfl HT7.out hiI HO6.out ?_; refine wpl_at HW7.out ?_) | fail)
    go_cut [10, 11] (fun p q wx => q = .int .i64 0 ∧ ∃ (D : Nat) (hs : List Value), p = .pointer (some ⟨D, 0, none⟩) ∧ Hid (BoxL wx D hs ∧ RInfo (fun _ => True) wx hs X ∧ Below W7.heap.size W7 wx))
    case first =>
      have HS : Hid (∀ u, Below W7.heap.size W7 u → BkS w w6.heap.size [g0, g1, g2, g3, g4, g5, g6, g7, g8, .slice b9 l9 q9, g10, g11, g12, g13, g14] [.string y.1, v1, v2, v3, v4, v5, v6, v7, v8, v9, v10, v11, v12, v13, v14, v15] u) := fun u hb => ⟨HX7.out u hb, HBY.out u (on2 B27.out hb)⟩
      clear HT7 HW7 HO6
      refine wp_region_noPanic ?_
      refine wp_region_held_drew (S := BkS w w6.heap.size [g0, g1, g2, g3, g4, g5, g6, g7, g8, .slice b9 l9 q9, g10, g11, g12, g13, g14] [.string y.1, v1, v2, v3, v4, v5, v6, v7, v8, v9, v10, v11, v12, v13, v14, v15]) (by kernel_rfl) (HS.out _ (Below.refl _ _).drew) (fun hHeld => ?_)
      have hb0 : Below W7.heap.size W7 W7.drew := (Below.refl _ _).drew
      refine' tk 0 ?_ ?_; rotate_left
      · intro u hu; have cp0 := (hu.1.2 0 _ rfl).1; have cp1 := (hu.1.2 1 _ rfl).1; have cp2 := (hu.1.2 2 _ rfl).1; have cp3 := (hu.1.2 3 _ rfl).1; have cp4 := (hu.1.2 4 _ rfl).1; have cp5 := (hu.1.2 5 _ rfl).1; have cp6 := (hu.1.2 6 _ rfl).1; have cp7 := (hu.1.2 7 _ rfl).1; have cp8 := (hu.1.2 8 _ rfl).1; have cp9 := (hu.1.2 9 _ rfl).1; have cp10 := (hu.1.2 10 _ rfl).1; have cp11 := (hu.1.2 11 _ rfl).1; have cp12 := (hu.1.2 12 _ rfl).1; have cp13 := (hu.1.2 13 _ rfl).1; have cp14 := (hu.1.2 14 _ rfl).1; clear hu; go_simp; try with_reducible rfl
      try go_frame
      refine' tk 1 ?_ ?_; rotate_left
      · intro u hu; have cy0 := (hu.2.2 0 _ rfl).1; have cy1 := (hu.2.2 1 _ rfl).1; have cy2 := (hu.2.2 2 _ rfl).1; have cy3 := (hu.2.2 3 _ rfl).1; have cy4 := (hu.2.2 4 _ rfl).1; have cy5 := (hu.2.2 5 _ rfl).1; have cy6 := (hu.2.2 6 _ rfl).1; have cy7 := (hu.2.2 7 _ rfl).1; have cy8 := (hu.2.2 8 _ rfl).1; have cy9 := (hu.2.2 9 _ rfl).1; have cy10 := (hu.2.2 10 _ rfl).1; have cy11 := (hu.2.2 11 _ rfl).1; have cy12 := (hu.2.2 12 _ rfl).1; have cy13 := (hu.2.2 13 _ rfl).1; have cy14 := (hu.2.2 14 _ rfl).1; have cy15 := (hu.2.2 15 _ rfl).1; clear hu; go_simp; try with_reducible rfl
      try go_frame
      refine' tk 2 ?_ ?_; rotate_left
      · intro u hu; clear hu; go_simp; try with_reducible rfl
      try go_frame
      refine' tk 4 ?_ ?_; rotate_left
      · intro u hu; have cy0 := (hu.2.2 0 _ rfl).1; have cy1 := (hu.2.2 1 _ rfl).1; have cy2 := (hu.2.2 2 _ rfl).1; have cy3 := (hu.2.2 3 _ rfl).1; have cy4 := (hu.2.2 4 _ rfl).1; have cy5 := (hu.2.2 5 _ rfl).1; have cy6 := (hu.2.2 6 _ rfl).1; have cy7 := (hu.2.2 7 _ rfl).1; have cy8 := (hu.2.2 8 _ rfl).1; have cy9 := (hu.2.2 9 _ rfl).1; have cy10 := (hu.2.2 10 _ rfl).1; have cy11 := (hu.2.2 11 _ rfl).1; have cy12 := (hu.2.2 12 _ rfl).1; have cy13 := (hu.2.2 13 _ rfl).1; have cy14 := (hu.2.2 14 _ rfl).1; have cy15 := (hu.2.2 15 _ rfl).1; clear hu; go_simp; try with_reducible rfl
      try go_frame
      refine tc 3 5 11 (fun K hK => ?_) (fun K hK => ?_) (fun K hK => ?_)
      ·
        go_simp
        refine (pods_row a n cap (fun b => b < w.heap.size) L W7.drew (HL.out _ (on2 B07.out hb0))).mono ?_
        rintro e u1 ⟨z1, rfl, r1⟩
        have hb1 : Below W7.heap.size W7 u1 := on2 hb0 r1.below
        have ro1 : Row RPod 16 (fun _ => True) w u1 37 z1 L := r1.from RPod.firm (on2 B07.out hb0) (fun _ _ => trivial)
        have ow1 : ∀ b, z1.ownBlock = some b → W7.heap.size ≤ b := fun b hb => Nat.le_trans hb0.size (r1.lt hb).1
        go_wp2_with fail
        refine hK.out _ _ (HS.out _ hb1) (fun hHeld2 => ?_)
        clear hK K hHeld; have hHeld := hHeld2; clear hHeld2
        try go_frame
        refine tb 5 11 (fun K hK => ?_) (fun K hK => ?_)
        ·
          go_simp
          obtain ⟨u2, hu2⟩ : ∃ u2, u2 = u1.alloc (.cells #[.string y.1, v1, v2, v3, v4, v5, v6, v7, v8, v9, v10, v11, v12, v13, v14, v15] 37) := ⟨_, rfl⟩
          have d2 : Below u1.heap.size u1 u2 := by rw [hu2]; exact (Below.refl _ _).alloc (Nat.le_refl _) _
          have hb2 : Below W7.heap.size W7 u2 := on2 hb1 d2
          have bs2 : BoxL u2 u1.heap.size [.string y.1, v1, v2, v3, v4, v5, v6, v7, v8, v9, v10, v11, v12, v13, v14, v15] := by rw [hu2]; exact BoxL.new u1 37 [.string y.1, v1, v2, v3, v4, v5, v6, v7, v8, v9, v10, v11, v12, v13, v14, v15]
          have ro1 := ro1.on RPod.firm d2
          refine hK.out _ _ (HS.out _ (hu2 ▸ hb2)) (fun hHeld2 => ?_)
          rw [← hu2] at hHeld2 ⊢
          clear hu2
          clear hK K hHeld; have hHeld := hHeld2; clear hHeld2
          try go_frame
          refine tb 6 11 (fun K hK => ?_) (fun K hK => ?_)
          ·
            have ch3 : Chunks RPod 16 (fun b => (fun _ => True) b ∧ z1.ownBlock ≠ some b) u2 [.string y.1, v1, v2, v3, v4, v5, v6, v7, v8, v9, v10, v11, v12, v13, v14, v15] [y] := chunk_one RPod.firm (RPod.firm.weak (HY.out _ (on2 B07.out hb2)) (fun b _ hb => ⟨trivial, fun e => by have h1 := (ro1.lt e).1; have h2 : b < w.heap.size := hb; omega⟩))
            refine row_append_wp RPod.firm (A := (fun _ => True)) (w0 := w) _ _ 28 37 rfl _ 296 infoPod Try.underlying28 rfl (by decide) (by decide) z1 L rfl ro1 ⟨u1.heap.size, 0, none⟩ 1 1 [.string y.1, v1, v2, v3, v4, v5, v6, v7, v8, v9, v10, v11, v12, v13, v14, v15] [y] rfl rfl ch3 (fun j v hj => by have := (bs2.2 j v hj).1; simpa [Addr.add_mid] using this) (RPod.firm.one (HY.out w (Below.refl _ _))) (by have h1 := hsm.out; simp only [List.length_singleton]; omega) ?_
            intro z3 u3 r3 gr3
            have hb3 : Below W7.heap.size W7 u3 := Below.grown hb2 gr3 hb2.size (fun b hb => ow1 b hb)
            refine hK.out _ _ (HS.out _ hb3) (fun hHeld2 => ?_)
            clear hK K hHeld; have hHeld := hHeld2; clear hHeld2
            try go_frame
            obtain ⟨ra3, rc3, re3, rs3⟩ := r3.sl (bytes := 296) RPod.firm (by have h1 := hsm.out; simp only [List.length_append, List.length_singleton]; omega)
            subst re3
            generalize (L ++ [y]).length = ll3 at rs3 ⊢
            clear r3 gr3
            refine tb 7 11 (fun K hK => ?_) (fun K hK => ?_)
            ·
              have hD4 := Drop_calls [g0, g1, g2, g3, g4, g5, g6, g7, g8, .slice b9 l9 q9, g10, g11, g12, g13, g14] [.string y.1, v1, v2, v3, v4, v5, v6, v7, v8, v9, v10, v11, v12, v13, v14, v15] ra3 _ rc3 (fun b => b < w.heap.size) (Fresh W5) (fun b => b < w.heap.size) _ (addP X y) y (L ++ [y]) u3 (HG7.out _ hb3) (HY.out _ (on2 B07.out hb3)) rs3 HF2.out
              rw [HDr.out] at hD4
              go_simp
              refine hD4.mono ?_
              rintro e u4 ⟨hs, rfl, i4, _, d4⟩
              clear hD4
              have hb4 : Below W7.heap.size W7 u4 := on2 hb3 d4
              go_wp2_with fail
              refine hK.out _ _ (HS.out _ hb4) (fun hHeld2 => ?_)
              clear hK K hHeld; have hHeld := hHeld2; clear hHeld2
              try go_frame
              refine' tk 8 ?_ ?_; rotate_left
              · intro u hu; clear hu; go_simp; try with_reducible rfl
              try go_frame
              refine' tk 9 ?_ ?_; rotate_left
              · intro u hu; clear hu; go_simp; try with_reducible rfl
              try go_frame
              refine' tk 10 ?_ ?_; rotate_left
              · intro u hu; clear hu; go_simp; try with_reducible rfl
              try go_frame
              refine tr 11 (fun K hK => ?_)
              go_simp
              obtain ⟨u5, hu5⟩ : ∃ u5, u5 = u4.alloc (.cells #[.string ⟨#[]⟩, .slice none 0 0, .slice none 0 0, .bool false, .int .i64 0, .int .i64 0, .int .i64 0, .int .i64 0, .int .i64 0, .slice none 0 0, .int .i64 0, .int .i64 0, .int .i64 0, .slice none 0 0, .slice none 0 0] 41) := ⟨_, rfl⟩
              have d5 : Below u4.heap.size u4 u5 := by rw [hu5]; exact (Below.refl _ _).alloc (Nat.le_refl _) _
              have hb5 : Below W7.heap.size W7 u5 := on2 hb4 d5
              have zb5 : BoxL u5 u4.heap.size [.string ⟨#[]⟩, .slice none 0 0, .slice none 0 0, .bool false, .int .i64 0, .int .i64 0, .int .i64 0, .int .i64 0, .int .i64 0, .slice none 0 0, .int .i64 0, .int .i64 0, .int .i64 0, .slice none 0 0, .slice none 0 0] := by rw [hu5]; exact BoxL.new u4 41 [.string ⟨#[]⟩, .slice none 0 0, .slice none 0 0, .bool false, .int .i64 0, .int .i64 0, .int .i64 0, .int .i64 0, .int .i64 0, .slice none 0 0, .int .i64 0, .int .i64 0, .int .i64 0, .slice none 0 0, .slice none 0 0]
              have gD5 : W7.heap.size ≤ u4.heap.size := hb4.size
              have i4 := (i4.weak (A' := (fun b => b < w.heap.size)) (F' := fun b => Fresh u3 b ∧ b < u4.heap.size) (fun _ _ h => h) (fun b hb h => ⟨h, hb⟩)).on d5
              refine hK.out _ _ (HS.out _ (hu5 ▸ hb5)) (fun hHeld2 => ?_)
              rw [← hu5] at hHeld2 ⊢
              clear hu5
              clear hK K hHeld; have hHeld := hHeld2; clear hHeld2
              try go_frame
              refine ts 12 (fun K hK => ?_)
              have hl6 : hs.length = 15 := i4.len
              have hi6 : (Try.prog.info? 41).map (·.size) = some hs.toArray.size := by have e : hs.toArray.size = 15 := (by simp [hl6]); rw [e]; exact sizeInfo
              have ho6 : hs.toArray.all (·.oneCell') = true := all_oneCell_toArray i4.one
              have ht6 : u5.there (u4.heap.size) 0 hs.toArray.size := by have e : hs.toArray.size = 15 := (by simp [hl6]); rw [e]; exact zb5.there
              have hx6 := i4
              have hw6 := bk_late (D := u4.heap.size) hx6 (Nat.le_trans B07.out.size gD5) (show u4.heap.size ≤ u4.heap.size from Nat.le_refl _) hs
              have hv6 := box_write (cs := hs) zb5 (by rw [hl6]; rfl)
              have hc6 : Below W7.heap.size W7 (u5.setCells (u4.heap.size) 0 hs) := below_setCells hb5 gD5
              refine want_yes (by rfl) (wp_store_mid 41 _ _ rfl (u4.heap.size) 0 hs.toArray rfl rfl ht6 hi6 ho6 ?_)
              refine hK.out undef _ (HS.out _ hc6) (fun hHeld2 => ?_)
              clear hK K hHeld; have hHeld := hHeld2; clear hHeld2
              try go_frame
              refine' tk 13 ?_ ?_; rotate_left
              · intro u hu; clear hu; go_simp; try with_reducible rfl
              try go_frame
              refine wpAnyH_done (by kernel_rfl) ?_ _
              refine NoPanic.normal ?_
              go_wp2_with fail
              go_meet
              exact ⟨rfl, u4.heap.size, hs, rfl, hv6, RInfo.firm.weak hw6.info (fun _ _ _ => trivial), hc6⟩
            ·
              go_simp
              obtain ⟨u7, hu7⟩ : ∃ u7, u7 = u3.alloc (.cells #[.string ⟨#[]⟩, .slice none 0 0, .slice none 0 0, .bool false, .int .i64 0, .int .i64 0, .int .i64 0, .int .i64 0, .int .i64 0, .slice none 0 0, .int .i64 0, .int .i64 0, .int .i64 0, .slice none 0 0, .slice none 0 0] 41) := ⟨_, rfl⟩
              have d7 : Below u3.heap.size u3 u7 := by rw [hu7]; exact (Below.refl _ _).alloc (Nat.le_refl _) _
              have hb7 : Below W7.heap.size W7 u7 := on2 hb3 d7
              have zb7 : BoxL u7 u3.heap.size [.string ⟨#[]⟩, .slice none 0 0, .slice none 0 0, .bool false, .int .i64 0, .int .i64 0, .int .i64 0, .int .i64 0, .int .i64 0, .slice none 0 0, .int .i64 0, .int .i64 0, .int .i64 0, .slice none 0 0, .slice none 0 0] := by rw [hu7]; exact BoxL.new u3 41 [.string ⟨#[]⟩, .slice none 0 0, .slice none 0 0, .bool false, .int .i64 0, .int .i64 0, .int .i64 0, .int .i64 0, .int .i64 0, .slice none 0 0, .int .i64 0, .int .i64 0, .int .i64 0, .slice none 0 0, .slice none 0 0]
              have gD7 : W7.heap.size ≤ u3.heap.size := hb3.size
              have rs3 := rs3.on RPod.firm d7
              refine hK.out _ _ (HS.out _ (hu7 ▸ hb7)) (fun hHeld2 => ?_)
              rw [← hu7] at hHeld2 ⊢
              clear hu7
              clear hK K hHeld; have hHeld := hHeld2; clear hHeld2
              try go_frame
              refine tr 7 (fun K hK => ?_)
              have lt8 : u3.heap.size < u7.heap.size := zb7.1
              have hD8 := Drop_calls [g0, g1, g2, g3, g4, g5, g6, g7, g8, .slice b9 l9 q9, g10, g11, g12, g13, g14] [.string y.1, v1, v2, v3, v4, v5, v6, v7, v8, v9, v10, v11, v12, v13, v14, v15] ra3 _ rc3 (fun b => b < w.heap.size) (Fresh W5) (fun b => b < w.heap.size) _ (addP X y) y (L ++ [y]) u7 (HG7.out _ hb7) (HY.out _ (on2 B07.out hb7)) rs3 HF2.out
              rw [HDr.out] at hD8
              go_simp
              refine hD8.mono ?_
              rintro e u8 ⟨hs, rfl, i8, _, d8⟩
              clear hD8
              have hb8 : Below W7.heap.size W7 u8 := on2 hb7 d8
              have zb7 := zb7.on d8
              go_wp2_with fail
              refine hK.out _ _ (HS.out _ hb8) (fun hHeld2 => ?_)
              clear hK K hHeld; have hHeld := hHeld2; clear hHeld2
              try go_frame
              refine' tk 8 ?_ ?_; rotate_left
              · intro u hu; clear hu; go_simp; try with_reducible rfl
              try go_frame
              refine' tk 9 ?_ ?_; rotate_left
              · intro u hu; clear hu; go_simp; try with_reducible rfl
              try go_frame
              refine' tk 10 ?_ ?_; rotate_left
              · intro u hu; clear hu; go_simp; try with_reducible rfl
              try go_frame
              refine ts 12 (fun K hK => ?_)
              have hl9 : hs.length = 15 := i8.len
              have hi9 : (Try.prog.info? 41).map (·.size) = some hs.toArray.size := by have e : hs.toArray.size = 15 := (by simp [hl9]); rw [e]; exact sizeInfo
              have ho9 : hs.toArray.all (·.oneCell') = true := all_oneCell_toArray i8.one
              have ht9 : u8.there (u3.heap.size) 0 hs.toArray.size := by have e : hs.toArray.size = 15 := (by simp [hl9]); rw [e]; exact zb7.there
              have hx9 := i8
              have hw9 := bk_store (D := u3.heap.size) hx9 (Nat.le_trans B07.out.size gD7) (.inl lt8) hs
              have hv9 := box_write (cs := hs) zb7 (by rw [hl9]; rfl)
              have hc9 : Below W7.heap.size W7 (u8.setCells (u3.heap.size) 0 hs) := below_setCells hb8 gD7
              refine want_yes (by rfl) (wp_store_mid 41 _ _ rfl (u3.heap.size) 0 hs.toArray rfl rfl ht9 hi9 ho9 ?_)
              refine hK.out undef _ (HS.out _ hc9) (fun hHeld2 => ?_)
              clear hK K hHeld; have hHeld := hHeld2; clear hHeld2
              try go_frame
              refine' tk 13 ?_ ?_; rotate_left
              · intro u hu; clear hu; go_simp; try with_reducible rfl
              try go_frame
              refine wpAnyH_done (by kernel_rfl) ?_ _
              refine NoPanic.normal ?_
              go_wp2_with fail
              go_meet
              exact ⟨rfl, u3.heap.size, hs, rfl, hv9, RInfo.firm.weak hw9.info (fun _ _ _ => trivial), hc9⟩
          ·
            go_simp
            obtain ⟨u10, hu10⟩ : ∃ u10, u10 = u2.alloc (.cells #[.string ⟨#[]⟩, .slice none 0 0, .slice none 0 0, .bool false, .int .i64 0, .int .i64 0, .int .i64 0, .int .i64 0, .int .i64 0, .slice none 0 0, .int .i64 0, .int .i64 0, .int .i64 0, .slice none 0 0, .slice none 0 0] 41) := ⟨_, rfl⟩
            have nD10 : z1.ownBlock ≠ some (u2.heap.size) := fun e => by have h1 := (ro1.lt e).2; omega
            have d10 : Below u2.heap.size u2 u10 := by rw [hu10]; exact (Below.refl _ _).alloc (Nat.le_refl _) _
            have hb10 : Below W7.heap.size W7 u10 := on2 hb2 d10
            have zb10 : BoxL u10 u2.heap.size [.string ⟨#[]⟩, .slice none 0 0, .slice none 0 0, .bool false, .int .i64 0, .int .i64 0, .int .i64 0, .int .i64 0, .int .i64 0, .slice none 0 0, .int .i64 0, .int .i64 0, .int .i64 0, .slice none 0 0, .slice none 0 0] := by rw [hu10]; exact BoxL.new u2 41 [.string ⟨#[]⟩, .slice none 0 0, .slice none 0 0, .bool false, .int .i64 0, .int .i64 0, .int .i64 0, .int .i64 0, .int .i64 0, .slice none 0 0, .int .i64 0, .int .i64 0, .int .i64 0, .slice none 0 0, .slice none 0 0]
            have gD10 : W7.heap.size ≤ u2.heap.size := hb2.size
            have ro1 := ro1.on RPod.firm d10
            have bs2 := bs2.on d10
            refine hK.out _ _ (HS.out _ (hu10 ▸ hb10)) (fun hHeld2 => ?_)
            rw [← hu10] at hHeld2 ⊢
            clear hu10
            clear hK K hHeld; have hHeld := hHeld2; clear hHeld2
            try go_frame
            refine tr 6 (fun K hK => ?_)
            have ch11 : Chunks RPod 16 (fun b => (fun _ => True) b ∧ z1.ownBlock ≠ some b) u10 [.string y.1, v1, v2, v3, v4, v5, v6, v7, v8, v9, v10, v11, v12, v13, v14, v15] [y] := chunk_one RPod.firm (RPod.firm.weak (HY.out _ (on2 B07.out hb10)) (fun b _ hb => ⟨trivial, fun e => by have h1 := (ro1.lt e).1; have h2 : b < w.heap.size := hb; omega⟩))
            refine row_append_wp RPod.firm (A := (fun _ => True)) (w0 := w) _ _ 28 37 rfl _ 296 infoPod Try.underlying28 rfl (by decide) (by decide) z1 L rfl ro1 ⟨u1.heap.size, 0, none⟩ 1 1 [.string y.1, v1, v2, v3, v4, v5, v6, v7, v8, v9, v10, v11, v12, v13, v14, v15] [y] rfl rfl ch11 (fun j v hj => by have := (bs2.2 j v hj).1; simpa [Addr.add_mid] using this) (RPod.firm.one (HY.out w (Below.refl _ _))) (by have h1 := hsm.out; simp only [List.length_singleton]; omega) ?_
            intro z11 u11 r11 gr11
            have hb11 : Below W7.heap.size W7 u11 := Below.grown hb10 gr11 hb10.size (fun b hb => ow1 b hb)
            have zb10 : BoxL u11 u2.heap.size [.string ⟨#[]⟩, .slice none 0 0, .slice none 0 0, .bool false, .int .i64 0, .int .i64 0, .int .i64 0, .int .i64 0, .int .i64 0, .slice none 0 0, .int .i64 0, .int .i64 0, .int .i64 0, .slice none 0 0, .slice none 0 0] := zb10.kept (A := fun b => z1.ownBlock ≠ some b) (Kept.grown gr11 (fun k e h => h e)) nD10
            refine hK.out _ _ (HS.out _ hb11) (fun hHeld2 => ?_)
            clear hK K hHeld; have hHeld := hHeld2; clear hHeld2
            try go_frame
            obtain ⟨ra11, rc11, re11, rs11⟩ := r11.sl (bytes := 296) RPod.firm (by have h1 := hsm.out; simp only [List.length_append, List.length_singleton]; omega)
            subst re11
            generalize (L ++ [y]).length = ll11 at rs11 ⊢
            clear r11 gr11
            refine tr 7 (fun K hK => ?_)
            have lt12 : u2.heap.size < u11.heap.size := zb10.1
            have hD12 := Drop_calls [g0, g1, g2, g3, g4, g5, g6, g7, g8, .slice b9 l9 q9, g10, g11, g12, g13, g14] [.string y.1, v1, v2, v3, v4, v5, v6, v7, v8, v9, v10, v11, v12, v13, v14, v15] ra11 _ rc11 (fun b => b < w.heap.size) (Fresh W5) (fun b => b < w.heap.size) _ (addP X y) y (L ++ [y]) u11 (HG7.out _ hb11) (HY.out _ (on2 B07.out hb11)) rs11 HF2.out
            rw [HDr.out] at hD12
            go_simp
            refine hD12.mono ?_
            rintro e u12 ⟨hs, rfl, i12, _, d12⟩
            clear hD12
            have hb12 : Below W7.heap.size W7 u12 := on2 hb11 d12
            have zb10 := zb10.on d12
            go_wp2_with fail
            refine hK.out _ _ (HS.out _ hb12) (fun hHeld2 => ?_)
            clear hK K hHeld; have hHeld := hHeld2; clear hHeld2
            try go_frame
            refine' tk 8 ?_ ?_; rotate_left
            · intro u hu; clear hu; go_simp; try with_reducible rfl
            try go_frame
            refine' tk 9 ?_ ?_; rotate_left
            · intro u hu; clear hu; go_simp; try with_reducible rfl
            try go_frame
            refine' tk 10 ?_ ?_; rotate_left
            · intro u hu; clear hu; go_simp; try with_reducible rfl
            try go_frame
            refine ts 12 (fun K hK => ?_)
            have hl13 : hs.length = 15 := i12.len
            have hi13 : (Try.prog.info? 41).map (·.size) = some hs.toArray.size := by have e : hs.toArray.size = 15 := (by simp [hl13]); rw [e]; exact sizeInfo
            have ho13 : hs.toArray.all (·.oneCell') = true := all_oneCell_toArray i12.one
            have ht13 : u12.there (u2.heap.size) 0 hs.toArray.size := by have e : hs.toArray.size = 15 := (by simp [hl13]); rw [e]; exact zb10.there
            have hx13 := i12
            have hw13 := bk_store (D := u2.heap.size) hx13 (Nat.le_trans B07.out.size gD10) (.inl lt12) hs
            have hv13 := box_write (cs := hs) zb10 (by rw [hl13]; rfl)
            have hc13 : Below W7.heap.size W7 (u12.setCells (u2.heap.size) 0 hs) := below_setCells hb12 gD10
            refine want_yes (by rfl) (wp_store_mid 41 _ _ rfl (u2.heap.size) 0 hs.toArray rfl rfl ht13 hi13 ho13 ?_)
            refine hK.out undef _ (HS.out _ hc13) (fun hHeld2 => ?_)
            clear hK K hHeld; have hHeld := hHeld2; clear hHeld2
            try go_frame
            refine' tk 13 ?_ ?_; rotate_left
            · intro u hu; clear hu; go_simp; try with_reducible rfl
            try go_frame
            refine wpAnyH_done (by kernel_rfl) ?_ _
            refine NoPanic.normal ?_
            go_wp2_with fail
            go_meet
            exact ⟨rfl, u2.heap.size, hs, rfl, hv13, RInfo.firm.weak hw13.info (fun _ _ _ => trivial), hc13⟩
        ·
          go_simp
          obtain ⟨u14, hu14⟩ : ∃ u14, u14 = u1.alloc (.cells #[.string ⟨#[]⟩, .slice none 0 0, .slice none 0 0, .bool false, .int .i64 0, .int .i64 0, .int .i64 0, .int .i64 0, .int .i64 0, .slice none 0 0, .int .i64 0, .int .i64 0, .int .i64 0, .slice none 0 0, .slice none 0 0] 41) := ⟨_, rfl⟩
          have nD14 : z1.ownBlock ≠ some (u1.heap.size) := fun e => by have h1 := (ro1.lt e).2; omega
          have d14 : Below u1.heap.size u1 u14 := by rw [hu14]; exact (Below.refl _ _).alloc (Nat.le_refl _) _
          have hb14 : Below W7.heap.size W7 u14 := on2 hb1 d14
          have zb14 : BoxL u14 u1.heap.size [.string ⟨#[]⟩, .slice none 0 0, .slice none 0 0, .bool false, .int .i64 0, .int .i64 0, .int .i64 0, .int .i64 0, .int .i64 0, .slice none 0 0, .int .i64 0, .int .i64 0, .int .i64 0, .slice none 0 0, .slice none 0 0] := by rw [hu14]; exact BoxL.new u1 41 [.string ⟨#[]⟩, .slice none 0 0, .slice none 0 0, .bool false, .int .i64 0, .int .i64 0, .int .i64 0, .int .i64 0, .int .i64 0, .slice none 0 0, .int .i64 0, .int .i64 0, .int .i64 0, .slice none 0 0, .slice none 0 0]
          have gD14 : W7.heap.size ≤ u1.heap.size := hb1.size
          have ro1 := ro1.on RPod.firm d14
          refine hK.out _ _ (HS.out _ (hu14 ▸ hb14)) (fun hHeld2 => ?_)
          rw [← hu14] at hHeld2 ⊢
          clear hu14
          clear hK K hHeld; have hHeld := hHeld2; clear hHeld2
          try go_frame
          refine tr 5 (fun K hK => ?_)
          go_simp
          obtain ⟨u15, hu15⟩ : ∃ u15, u15 = u14.alloc (.cells #[.string y.1, v1, v2, v3, v4, v5, v6, v7, v8, v9, v10, v11, v12, v13, v14, v15] 37) := ⟨_, rfl⟩
          have d15 : Below u14.heap.size u14 u15 := by rw [hu15]; exact (Below.refl _ _).alloc (Nat.le_refl _) _
          have hb15 : Below W7.heap.size W7 u15 := on2 hb14 d15
          have bs15 : BoxL u15 u14.heap.size [.string y.1, v1, v2, v3, v4, v5, v6, v7, v8, v9, v10, v11, v12, v13, v14, v15] := by rw [hu15]; exact BoxL.new u14 37 [.string y.1, v1, v2, v3, v4, v5, v6, v7, v8, v9, v10, v11, v12, v13, v14, v15]
          have ro1 := ro1.on RPod.firm d15
          have zb14 := zb14.on d15
          refine hK.out _ _ (HS.out _ (hu15 ▸ hb15)) (fun hHeld2 => ?_)
          rw [← hu15] at hHeld2 ⊢
          clear hu15
          clear hK K hHeld; have hHeld := hHeld2; clear hHeld2
          try go_frame
          refine tr 6 (fun K hK => ?_)
          have ch16 : Chunks RPod 16 (fun b => (fun _ => True) b ∧ z1.ownBlock ≠ some b) u15 [.string y.1, v1, v2, v3, v4, v5, v6, v7, v8, v9, v10, v11, v12, v13, v14, v15] [y] := chunk_one RPod.firm (RPod.firm.weak (HY.out _ (on2 B07.out hb15)) (fun b _ hb => ⟨trivial, fun e => by have h1 := (ro1.lt e).1; have h2 : b < w.heap.size := hb; omega⟩))
          refine row_append_wp RPod.firm (A := (fun _ => True)) (w0 := w) _ _ 28 37 rfl _ 296 infoPod Try.underlying28 rfl (by decide) (by decide) z1 L rfl ro1 ⟨u14.heap.size, 0, none⟩ 1 1 [.string y.1, v1, v2, v3, v4, v5, v6, v7, v8, v9, v10, v11, v12, v13, v14, v15] [y] rfl rfl ch16 (fun j v hj => by have := (bs15.2 j v hj).1; simpa [Addr.add_mid] using this) (RPod.firm.one (HY.out w (Below.refl _ _))) (by have h1 := hsm.out; simp only [List.length_singleton]; omega) ?_
          intro z16 u16 r16 gr16
          have hb16 : Below W7.heap.size W7 u16 := Below.grown hb15 gr16 hb15.size (fun b hb => ow1 b hb)
          have zb14 : BoxL u16 u1.heap.size [.string ⟨#[]⟩, .slice none 0 0, .slice none 0 0, .bool false, .int .i64 0, .int .i64 0, .int .i64 0, .int .i64 0, .int .i64 0, .slice none 0 0, .int .i64 0, .int .i64 0, .int .i64 0, .slice none 0 0, .slice none 0 0] := zb14.kept (A := fun b => z1.ownBlock ≠ some b) (Kept.grown gr16 (fun k e h => h e)) nD14
          refine hK.out _ _ (HS.out _ hb16) (fun hHeld2 => ?_)
          clear hK K hHeld; have hHeld := hHeld2; clear hHeld2
          try go_frame
          obtain ⟨ra16, rc16, re16, rs16⟩ := r16.sl (bytes := 296) RPod.firm (by have h1 := hsm.out; simp only [List.length_append, List.length_singleton]; omega)
          subst re16
          generalize (L ++ [y]).length = ll16 at rs16 ⊢
          clear r16 gr16
          refine tr 7 (fun K hK => ?_)
          have lt17 : u1.heap.size < u16.heap.size := zb14.1
          have hD17 := Drop_calls [g0, g1, g2, g3, g4, g5, g6, g7, g8, .slice b9 l9 q9, g10, g11, g12, g13, g14] [.string y.1, v1, v2, v3, v4, v5, v6, v7, v8, v9, v10, v11, v12, v13, v14, v15] ra16 _ rc16 (fun b => b < w.heap.size) (Fresh W5) (fun b => b < w.heap.size) _ (addP X y) y (L ++ [y]) u16 (HG7.out _ hb16) (HY.out _ (on2 B07.out hb16)) rs16 HF2.out
          rw [HDr.out] at hD17
          go_simp
          refine hD17.mono ?_
          rintro e u17 ⟨hs, rfl, i17, _, d17⟩
          clear hD17
          have hb17 : Below W7.heap.size W7 u17 := on2 hb16 d17
          have zb14 := zb14.on d17
          go_wp2_with fail
          refine hK.out _ _ (HS.out _ hb17) (fun hHeld2 => ?_)
          clear hK K hHeld; have hHeld := hHeld2; clear hHeld2
          try go_frame
          refine' tk 8 ?_ ?_; rotate_left
          · intro u hu; clear hu; go_simp; try with_reducible rfl
          try go_frame
          refine' tk 9 ?_ ?_; rotate_left
          · intro u hu; clear hu; go_simp; try with_reducible rfl
          try go_frame
          refine' tk 10 ?_ ?_; rotate_left
          · intro u hu; clear hu; go_simp; try with_reducible rfl
          try go_frame
          refine ts 12 (fun K hK => ?_)
          have hl18 : hs.length = 15 := i17.len
          have hi18 : (Try.prog.info? 41).map (·.size) = some hs.toArray.size := by have e : hs.toArray.size = 15 := (by simp [hl18]); rw [e]; exact sizeInfo
          have ho18 : hs.toArray.all (·.oneCell') = true := all_oneCell_toArray i17.one
          have ht18 : u17.there (u1.heap.size) 0 hs.toArray.size := by have e : hs.toArray.size = 15 := (by simp [hl18]); rw [e]; exact zb14.there
          have hx18 := i17
          have hw18 := bk_store (D := u1.heap.size) hx18 (Nat.le_trans B07.out.size gD14) (.inl lt17) hs
          have hv18 := box_write (cs := hs) zb14 (by rw [hl18]; rfl)
          have hc18 : Below W7.heap.size W7 (u17.setCells (u1.heap.size) 0 hs) := below_setCells hb17 gD14
          refine want_yes (by rfl) (wp_store_mid 41 _ _ rfl (u1.heap.size) 0 hs.toArray rfl rfl ht18 hi18 ho18 ?_)
          refine hK.out undef _ (HS.out _ hc18) (fun hHeld2 => ?_)
          clear hK K hHeld; have hHeld := hHeld2; clear hHeld2
          try go_frame
          refine' tk 13 ?_ ?_; rotate_left
          · intro u hu; clear hu; go_simp; try with_reducible rfl
          try go_frame
          refine wpAnyH_done (by kernel_rfl) ?_ _
          refine NoPanic.normal ?_
          go_wp2_with fail
          go_meet
          exact ⟨rfl, u1.heap.size, hs, rfl, hv18, RInfo.firm.weak hw18.info (fun _ _ _ => trivial), hc18⟩
      ·
        go_simp
        obtain ⟨u19, hu19⟩ : ∃ u19, u19 = (W7.alloc (.cells #[.string y.1, v1, v2, v3, v4, v5, v6, v7, v8, v9, v10, v11, v12, v13, v14, v15] 37)).drew := ⟨_, rfl⟩
        have d19 : Below W7.heap.size W7 u19 := by rw [hu19]; exact ((Below.refl _ _).alloc (Nat.le_refl _) _).drew
        have hb19 : Below W7.heap.size W7 u19 := d19
        have bs19 : BoxL u19 W7.heap.size [.string y.1, v1, v2, v3, v4, v5, v6, v7, v8, v9, v10, v11, v12, v13, v14, v15] := by rw [hu19]; exact (BoxL.new W7 37 [.string y.1, v1, v2, v3, v4, v5, v6, v7, v8, v9, v10, v11, v12, v13, v14, v15]).on (Below.refl _ _).drew
        refine hK.out _ _ (HS.out _ (hu19 ▸ hb19)) (fun hHeld2 => ?_)
        rw [← hu19] at hHeld2 ⊢
        clear hu19
        clear hK K hHeld; have hHeld := hHeld2; clear hHeld2
        try go_frame
        refine tb 3 11 (fun K hK => ?_) (fun K hK => ?_)
        ·
          go_simp
          refine (pods_row a n cap (fun b => b < w.heap.size) L u19 (HL.out _ (on2 B07.out hb19))).mono ?_
          rintro e u20 ⟨z20, rfl, r20⟩
          have hb20 : Below W7.heap.size W7 u20 := on2 hb19 r20.below
          have ro20 : Row RPod 16 (fun _ => True) w u20 37 z20 L := r20.from RPod.firm (on2 B07.out hb19) (fun _ _ => trivial)
          have ow20 : ∀ b, z20.ownBlock = some b → W7.heap.size ≤ b := fun b hb => Nat.le_trans hb19.size (r20.lt hb).1
          have bs19 := bs19.on r20.below
          go_wp2_with fail
          refine hK.out _ _ (HS.out _ hb20) (fun hHeld2 => ?_)
          clear hK K hHeld; have hHeld := hHeld2; clear hHeld2
          try go_frame
          refine tb 6 11 (fun K hK => ?_) (fun K hK => ?_)
          ·
            have ch21 : Chunks RPod 16 (fun b => (fun _ => True) b ∧ z20.ownBlock ≠ some b) u20 [.string y.1, v1, v2, v3, v4, v5, v6, v7, v8, v9, v10, v11, v12, v13, v14, v15] [y] := chunk_one RPod.firm (RPod.firm.weak (HY.out _ (on2 B07.out hb20)) (fun b _ hb => ⟨trivial, fun e => by have h1 := (ro20.lt e).1; have h2 : b < w.heap.size := hb; omega⟩))
            refine row_append_wp RPod.firm (A := (fun _ => True)) (w0 := w) _ _ 28 37 rfl _ 296 infoPod Try.underlying28 rfl (by decide) (by decide) z20 L rfl ro20 ⟨W7.heap.size, 0, none⟩ 1 1 [.string y.1, v1, v2, v3, v4, v5, v6, v7, v8, v9, v10, v11, v12, v13, v14, v15] [y] rfl rfl ch21 (fun j v hj => by have := (bs19.2 j v hj).1; simpa [Addr.add_mid] using this) (RPod.firm.one (HY.out w (Below.refl _ _))) (by have h1 := hsm.out; simp only [List.length_singleton]; omega) ?_
            intro z21 u21 r21 gr21
            have hb21 : Below W7.heap.size W7 u21 := Below.grown hb20 gr21 hb20.size (fun b hb => ow20 b hb)
            refine hK.out _ _ (HS.out _ hb21) (fun hHeld2 => ?_)
            clear hK K hHeld; have hHeld := hHeld2; clear hHeld2
            try go_frame
            obtain ⟨ra21, rc21, re21, rs21⟩ := r21.sl (bytes := 296) RPod.firm (by have h1 := hsm.out; simp only [List.length_append, List.length_singleton]; omega)
            subst re21
            generalize (L ++ [y]).length = ll21 at rs21 ⊢
            clear r21 gr21
            refine tb 7 11 (fun K hK => ?_) (fun K hK => ?_)
            ·
              have hD22 := Drop_calls [g0, g1, g2, g3, g4, g5, g6, g7, g8, .slice b9 l9 q9, g10, g11, g12, g13, g14] [.string y.1, v1, v2, v3, v4, v5, v6, v7, v8, v9, v10, v11, v12, v13, v14, v15] ra21 _ rc21 (fun b => b < w.heap.size) (Fresh W5) (fun b => b < w.heap.size) _ (addP X y) y (L ++ [y]) u21 (HG7.out _ hb21) (HY.out _ (on2 B07.out hb21)) rs21 HF2.out
              rw [HDr.out] at hD22
              go_simp
              refine hD22.mono ?_
              rintro e u22 ⟨hs, rfl, i22, _, d22⟩
              clear hD22
              have hb22 : Below W7.heap.size W7 u22 := on2 hb21 d22
              go_wp2_with fail
              refine hK.out _ _ (HS.out _ hb22) (fun hHeld2 => ?_)
              clear hK K hHeld; have hHeld := hHeld2; clear hHeld2
              try go_frame
              refine' tk 8 ?_ ?_; rotate_left
              · intro u hu; clear hu; go_simp; try with_reducible rfl
              try go_frame
              refine' tk 9 ?_ ?_; rotate_left
              · intro u hu; clear hu; go_simp; try with_reducible rfl
              try go_frame
              refine' tk 10 ?_ ?_; rotate_left
              · intro u hu; clear hu; go_simp; try with_reducible rfl
              try go_frame
              refine tr 11 (fun K hK => ?_)
              go_simp
              obtain ⟨u23, hu23⟩ : ∃ u23, u23 = u22.alloc (.cells #[.string ⟨#[]⟩, .slice none 0 0, .slice none 0 0, .bool false, .int .i64 0, .int .i64 0, .int .i64 0, .int .i64 0, .int .i64 0, .slice none 0 0, .int .i64 0, .int .i64 0, .int .i64 0, .slice none 0 0, .slice none 0 0] 41) := ⟨_, rfl⟩
              have d23 : Below u22.heap.size u22 u23 := by rw [hu23]; exact (Below.refl _ _).alloc (Nat.le_refl _) _
              have hb23 : Below W7.heap.size W7 u23 := on2 hb22 d23
              have zb23 : BoxL u23 u22.heap.size [.string ⟨#[]⟩, .slice none 0 0, .slice none 0 0, .bool false, .int .i64 0, .int .i64 0, .int .i64 0, .int .i64 0, .int .i64 0, .slice none 0 0, .int .i64 0, .int .i64 0, .int .i64 0, .slice none 0 0, .slice none 0 0] := by rw [hu23]; exact BoxL.new u22 41 [.string ⟨#[]⟩, .slice none 0 0, .slice none 0 0, .bool false, .int .i64 0, .int .i64 0, .int .i64 0, .int .i64 0, .int .i64 0, .slice none 0 0, .int .i64 0, .int .i64 0, .int .i64 0, .slice none 0 0, .slice none 0 0]
              have gD23 : W7.heap.size ≤ u22.heap.size := hb22.size
              have i22 := (i22.weak (A' := (fun b => b < w.heap.size)) (F' := fun b => Fresh u21 b ∧ b < u22.heap.size) (fun _ _ h => h) (fun b hb h => ⟨h, hb⟩)).on d23
              refine hK.out _ _ (HS.out _ (hu23 ▸ hb23)) (fun hHeld2 => ?_)
              rw [← hu23] at hHeld2 ⊢
              clear hu23
              clear hK K hHeld; have hHeld := hHeld2; clear hHeld2
              try go_frame
              refine ts 12 (fun K hK => ?_)
              have hl24 : hs.length = 15 := i22.len
              have hi24 : (Try.prog.info? 41).map (·.size) = some hs.toArray.size := by have e : hs.toArray.size = 15 := (by simp [hl24]); rw [e]; exact sizeInfo
              have ho24 : hs.toArray.all (·.oneCell') = true := all_oneCell_toArray i22.one
              have ht24 : u23.there (u22.heap.size) 0 hs.toArray.size := by have e : hs.toArray.size = 15 := (by simp [hl24]); rw [e]; exact zb23.there
              have hx24 := i22
              have hw24 := bk_late (D := u22.heap.size) hx24 (Nat.le_trans B07.out.size gD23) (show u22.heap.size ≤ u22.heap.size from Nat.le_refl _) hs
              have hv24 := box_write (cs := hs) zb23 (by rw [hl24]; rfl)
              have hc24 : Below W7.heap.size W7 (u23.setCells (u22.heap.size) 0 hs) := below_setCells hb23 gD23
              refine want_yes (by rfl) (wp_store_mid 41 _ _ rfl (u22.heap.size) 0 hs.toArray rfl rfl ht24 hi24 ho24 ?_)
              refine hK.out undef _ (HS.out _ hc24) (fun hHeld2 => ?_)
              clear hK K hHeld; have hHeld := hHeld2; clear hHeld2
              try go_frame
              refine' tk 13 ?_ ?_; rotate_left
              · intro u hu; clear hu; go_simp; try with_reducible rfl
              try go_frame
              refine wpAnyH_done (by kernel_rfl) ?_ _
              refine NoPanic.normal ?_
              go_wp2_with fail
              go_meet
              exact ⟨rfl, u22.heap.size, hs, rfl, hv24, RInfo.firm.weak hw24.info (fun _ _ _ => trivial), hc24⟩
            ·
              go_simp
              obtain ⟨u25, hu25⟩ : ∃ u25, u25 = u21.alloc (.cells #[.string ⟨#[]⟩, .slice none 0 0, .slice none 0 0, .bool false, .int .i64 0, .int .i64 0, .int .i64 0, .int .i64 0, .int .i64 0, .slice none 0 0, .int .i64 0, .int .i64 0, .int .i64 0, .slice none 0 0, .slice none 0 0] 41) := ⟨_, rfl⟩
              have d25 : Below u21.heap.size u21 u25 := by rw [hu25]; exact (Below.refl _ _).alloc (Nat.le_refl _) _
              have hb25 : Below W7.heap.size W7 u25 := on2 hb21 d25
              have zb25 : BoxL u25 u21.heap.size [.string ⟨#[]⟩, .slice none 0 0, .slice none 0 0, .bool false, .int .i64 0, .int .i64 0, .int .i64 0, .int .i64 0, .int .i64 0, .slice none 0 0, .int .i64 0, .int .i64 0, .int .i64 0, .slice none 0 0, .slice none 0 0] := by rw [hu25]; exact BoxL.new u21 41 [.string ⟨#[]⟩, .slice none 0 0, .slice none 0 0, .bool false, .int .i64 0, .int .i64 0, .int .i64 0, .int .i64 0, .int .i64 0, .slice none 0 0, .int .i64 0, .int .i64 0, .int .i64 0, .slice none 0 0, .slice none 0 0]
              have gD25 : W7.heap.size ≤ u21.heap.size := hb21.size
              have rs21 := rs21.on RPod.firm d25
              refine hK.out _ _ (HS.out _ (hu25 ▸ hb25)) (fun hHeld2 => ?_)
              rw [← hu25] at hHeld2 ⊢
              clear hu25
              clear hK K hHeld; have hHeld := hHeld2; clear hHeld2
              try go_frame
              refine tr 7 (fun K hK => ?_)
              have lt26 : u21.heap.size < u25.heap.size := zb25.1
              have hD26 := Drop_calls [g0, g1, g2, g3, g4, g5, g6, g7, g8, .slice b9 l9 q9, g10, g11, g12, g13, g14] [.string y.1, v1, v2, v3, v4, v5, v6, v7, v8, v9, v10, v11, v12, v13, v14, v15] ra21 _ rc21 (fun b => b < w.heap.size) (Fresh W5) (fun b => b < w.heap.size) _ (addP X y) y (L ++ [y]) u25 (HG7.out _ hb25) (HY.out _ (on2 B07.out hb25)) rs21 HF2.out
              rw [HDr.out] at hD26
              go_simp
              refine hD26.mono ?_
              rintro e u26 ⟨hs, rfl, i26, _, d26⟩
              clear hD26
              have hb26 : Below W7.heap.size W7 u26 := on2 hb25 d26
              have zb25 := zb25.on d26
              go_wp2_with fail
              refine hK.out _ _ (HS.out _ hb26) (fun hHeld2 => ?_)
              clear hK K hHeld; have hHeld := hHeld2; clear hHeld2
              try go_frame
              refine' tk 8 ?_ ?_; rotate_left
              · intro u hu; clear hu; go_simp; try with_reducible rfl
              try go_frame
              refine' tk 9 ?_ ?_; rotate_left
              · intro u hu; clear hu; go_simp; try with_reducible rfl
              try go_frame
              refine' tk 10 ?_ ?_; rotate_left
              · intro u hu; clear hu; go_simp; try with_reducible rfl
              try go_frame
              refine ts 12 (fun K hK => ?_)
              have hl27 : hs.length = 15 := i26.len
              have hi27 : (Try.prog.info? 41).map (·.size) = some hs.toArray.size := by have e : hs.toArray.size = 15 := (by simp [hl27]); rw [e]; exact sizeInfo
              have ho27 : hs.toArray.all (·.oneCell') = true := all_oneCell_toArray i26.one
              have ht27 : u26.there (u21.heap.size) 0 hs.toArray.size := by have e : hs.toArray.size = 15 := (by simp [hl27]); rw [e]; exact zb25.there
              have hx27 := i26
              have hw27 := bk_store (D := u21.heap.size) hx27 (Nat.le_trans B07.out.size gD25) (.inl lt26) hs
              have hv27 := box_write (cs := hs) zb25 (by rw [hl27]; rfl)
              have hc27 : Below W7.heap.size W7 (u26.setCells (u21.heap.size) 0 hs) := below_setCells hb26 gD25
              refine want_yes (by rfl) (wp_store_mid 41 _ _ rfl (u21.heap.size) 0 hs.toArray rfl rfl ht27 hi27 ho27 ?_)
              refine hK.out undef _ (HS.out _ hc27) (fun hHeld2 => ?_)
              clear hK K hHeld; have hHeld := hHeld2; clear hHeld2
              try go_frame
              refine' tk 13 ?_ ?_; rotate_left
              · intro u hu; clear hu; go_simp; try with_reducible rfl
              try go_frame
              refine wpAnyH_done (by kernel_rfl) ?_ _
              refine NoPanic.normal ?_
              go_wp2_with fail
              go_meet
              exact ⟨rfl, u21.heap.size, hs, rfl, hv27, RInfo.firm.weak hw27.info (fun _ _ _ => trivial), hc27⟩
          ·
            go_simp
            obtain ⟨u28, hu28⟩ : ∃ u28, u28 = u20.alloc (.cells #[.string ⟨#[]⟩, .slice none 0 0, .slice none 0 0, .bool false, .int .i64 0, .int .i64 0, .int .i64 0, .int .i64 0, .int .i64 0, .slice none 0 0, .int .i64 0, .int .i64 0, .int .i64 0, .slice none 0 0, .slice none 0 0] 41) := ⟨_, rfl⟩
            have nD28 : z20.ownBlock ≠ some (u20.heap.size) := fun e => by have h1 := (ro20.lt e).2; omega
            have d28 : Below u20.heap.size u20 u28 := by rw [hu28]; exact (Below.refl _ _).alloc (Nat.le_refl _) _
            have hb28 : Below W7.heap.size W7 u28 := on2 hb20 d28
            have zb28 : BoxL u28 u20.heap.size [.string ⟨#[]⟩, .slice none 0 0, .slice none 0 0, .bool false, .int .i64 0, .int .i64 0, .int .i64 0, .int .i64 0, .int .i64 0, .slice none 0 0, .int .i64 0, .int .i64 0, .int .i64 0, .slice none 0 0, .slice none 0 0] := by rw [hu28]; exact BoxL.new u20 41 [.string ⟨#[]⟩, .slice none 0 0, .slice none 0 0, .bool false, .int .i64 0, .int .i64 0, .int .i64 0, .int .i64 0, .int .i64 0, .slice none 0 0, .int .i64 0, .int .i64 0, .int .i64 0, .slice none 0 0, .slice none 0 0]
            have gD28 : W7.heap.size ≤ u20.heap.size := hb20.size
            have ro20 := ro20.on RPod.firm d28
            have bs19 := bs19.on d28
            refine hK.out _ _ (HS.out _ (hu28 ▸ hb28)) (fun hHeld2 => ?_)
            rw [← hu28] at hHeld2 ⊢
            clear hu28
            clear hK K hHeld; have hHeld := hHeld2; clear hHeld2
            try go_frame
            refine tr 6 (fun K hK => ?_)
            have ch29 : Chunks RPod 16 (fun b => (fun _ => True) b ∧ z20.ownBlock ≠ some b) u28 [.string y.1, v1, v2, v3, v4, v5, v6, v7, v8, v9, v10, v11, v12, v13, v14, v15] [y] := chunk_one RPod.firm (RPod.firm.weak (HY.out _ (on2 B07.out hb28)) (fun b _ hb => ⟨trivial, fun e => by have h1 := (ro20.lt e).1; have h2 : b < w.heap.size := hb; omega⟩))
            refine row_append_wp RPod.firm (A := (fun _ => True)) (w0 := w) _ _ 28 37 rfl _ 296 infoPod Try.underlying28 rfl (by decide) (by decide) z20 L rfl ro20 ⟨W7.heap.size, 0, none⟩ 1 1 [.string y.1, v1, v2, v3, v4, v5, v6, v7, v8, v9, v10, v11, v12, v13, v14, v15] [y] rfl rfl ch29 (fun j v hj => by have := (bs19.2 j v hj).1; simpa [Addr.add_mid] using this) (RPod.firm.one (HY.out w (Below.refl _ _))) (by have h1 := hsm.out; simp only [List.length_singleton]; omega) ?_
            intro z29 u29 r29 gr29
            have hb29 : Below W7.heap.size W7 u29 := Below.grown hb28 gr29 hb28.size (fun b hb => ow20 b hb)
            have zb28 : BoxL u29 u20.heap.size [.string ⟨#[]⟩, .slice none 0 0, .slice none 0 0, .bool false, .int .i64 0, .int .i64 0, .int .i64 0, .int .i64 0, .int .i64 0, .slice none 0 0, .int .i64 0, .int .i64 0, .int .i64 0, .slice none 0 0, .slice none 0 0] := zb28.kept (A := fun b => z20.ownBlock ≠ some b) (Kept.grown gr29 (fun k e h => h e)) nD28
            refine hK.out _ _ (HS.out _ hb29) (fun hHeld2 => ?_)
            clear hK K hHeld; have hHeld := hHeld2; clear hHeld2
            try go_frame
            obtain ⟨ra29, rc29, re29, rs29⟩ := r29.sl (bytes := 296) RPod.firm (by have h1 := hsm.out; simp only [List.length_append, List.length_singleton]; omega)
            subst re29
            generalize (L ++ [y]).length = ll29 at rs29 ⊢
            clear r29 gr29
            refine tr 7 (fun K hK => ?_)
            have lt30 : u20.heap.size < u29.heap.size := zb28.1
            have hD30 := Drop_calls [g0, g1, g2, g3, g4, g5, g6, g7, g8, .slice b9 l9 q9, g10, g11, g12, g13, g14] [.string y.1, v1, v2, v3, v4, v5, v6, v7, v8, v9, v10, v11, v12, v13, v14, v15] ra29 _ rc29 (fun b => b < w.heap.size) (Fresh W5) (fun b => b < w.heap.size) _ (addP X y) y (L ++ [y]) u29 (HG7.out _ hb29) (HY.out _ (on2 B07.out hb29)) rs29 HF2.out
            rw [HDr.out] at hD30
            go_simp
            refine hD30.mono ?_
            rintro e u30 ⟨hs, rfl, i30, _, d30⟩
            clear hD30
            have hb30 : Below W7.heap.size W7 u30 := on2 hb29 d30
            have zb28 := zb28.on d30
            go_wp2_with fail
            refine hK.out _ _ (HS.out _ hb30) (fun hHeld2 => ?_)
            clear hK K hHeld; have hHeld := hHeld2; clear hHeld2
            try go_frame
            refine' tk 8 ?_ ?_; rotate_left
            · intro u hu; clear hu; go_simp; try with_reducible rfl
            try go_frame
            refine' tk 9 ?_ ?_; rotate_left
            · intro u hu; clear hu; go_simp; try with_reducible rfl
            try go_frame
            refine' tk 10 ?_ ?_; rotate_left
            · intro u hu; clear hu; go_simp; try with_reducible rfl
            try go_frame
            refine ts 12 (fun K hK => ?_)
            have hl31 : hs.length = 15 := i30.len
            have hi31 : (Try.prog.info? 41).map (·.size) = some hs.toArray.size := by have e : hs.toArray.size = 15 := (by simp [hl31]); rw [e]; exact sizeInfo
            have ho31 : hs.toArray.all (·.oneCell') = true := all_oneCell_toArray i30.one
            have ht31 : u30.there (u20.heap.size) 0 hs.toArray.size := by have e : hs.toArray.size = 15 := (by simp [hl31]); rw [e]; exact zb28.there
            have hx31 := i30
            have hw31 := bk_store (D := u20.heap.size) hx31 (Nat.le_trans B07.out.size gD28) (.inl lt30) hs
            have hv31 := box_write (cs := hs) zb28 (by rw [hl31]; rfl)
            have hc31 : Below W7.heap.size W7 (u30.setCells (u20.heap.size) 0 hs) := below_setCells hb30 gD28
            refine want_yes (by rfl) (wp_store_mid 41 _ _ rfl (u20.heap.size) 0 hs.toArray rfl rfl ht31 hi31 ho31 ?_)
            refine hK.out undef _ (HS.out _ hc31) (fun hHeld2 => ?_)
            clear hK K hHeld; have hHeld := hHeld2; clear hHeld2
            try go_frame
            refine' tk 13 ?_ ?_; rotate_left
            · intro u hu; clear hu; go_simp; try with_reducible rfl
            try go_frame
            refine wpAnyH_done (by kernel_rfl) ?_ _
            refine NoPanic.normal ?_
            go_wp2_with fail
            go_meet
            exact ⟨rfl, u20.heap.size, hs, rfl, hv31, RInfo.firm.weak hw31.info (fun _ _ _ => trivial), hc31⟩
        ·
          go_simp
          obtain ⟨u32, hu32⟩ : ∃ u32, u32 = u19.alloc (.cells #[.string ⟨#[]⟩, .slice none 0 0, .slice none 0 0, .bool false, .int .i64 0, .int .i64 0, .int .i64 0, .int .i64 0, .int .i64 0, .slice none 0 0, .int .i64 0, .int .i64 0, .int .i64 0, .slice none 0 0, .slice none 0 0] 41) := ⟨_, rfl⟩
          have d32 : Below u19.heap.size u19 u32 := by rw [hu32]; exact (Below.refl _ _).alloc (Nat.le_refl _) _
          have hb32 : Below W7.heap.size W7 u32 := on2 hb19 d32
          have zb32 : BoxL u32 u19.heap.size [.string ⟨#[]⟩, .slice none 0 0, .slice none 0 0, .bool false, .int .i64 0, .int .i64 0, .int .i64 0, .int .i64 0, .int .i64 0, .slice none 0 0, .int .i64 0, .int .i64 0, .int .i64 0, .slice none 0 0, .slice none 0 0] := by rw [hu32]; exact BoxL.new u19 41 [.string ⟨#[]⟩, .slice none 0 0, .slice none 0 0, .bool false, .int .i64 0, .int .i64 0, .int .i64 0, .int .i64 0, .int .i64 0, .slice none 0 0, .int .i64 0, .int .i64 0, .int .i64 0, .slice none 0 0, .slice none 0 0]
          have gD32 : W7.heap.size ≤ u19.heap.size := hb19.size
          have bs19 := bs19.on d32
          refine hK.out _ _ (HS.out _ (hu32 ▸ hb32)) (fun hHeld2 => ?_)
          rw [← hu32] at hHeld2 ⊢
          clear hu32
          clear hK K hHeld; have hHeld := hHeld2; clear hHeld2
          try go_frame
          refine tr 3 (fun K hK => ?_)
          go_simp
          refine (pods_row a n cap (fun b => b < w.heap.size) L u32 (HL.out _ (on2 B07.out hb32))).mono ?_
          rintro e u33 ⟨z33, rfl, r33⟩
          have hb33 : Below W7.heap.size W7 u33 := on2 hb32 r33.below
          have ro33 : Row RPod 16 (fun _ => True) w u33 37 z33 L := r33.from RPod.firm (on2 B07.out hb32) (fun _ _ => trivial)
          have ow33 : ∀ b, z33.ownBlock = some b → W7.heap.size ≤ b := fun b hb => Nat.le_trans hb32.size (r33.lt hb).1
          have nD33 : z33.ownBlock ≠ some (u19.heap.size) := fun e => by have h1 := (r33.lt e).1; have h2 := zb32.1; omega
          have bs19 := bs19.on r33.below
          have zb32 := zb32.on r33.below
          go_wp2_with fail
          refine hK.out _ _ (HS.out _ hb33) (fun hHeld2 => ?_)
          clear hK K hHeld; have hHeld := hHeld2; clear hHeld2
          try go_frame
          refine tr 6 (fun K hK => ?_)
          have ch34 : Chunks RPod 16 (fun b => (fun _ => True) b ∧ z33.ownBlock ≠ some b) u33 [.string y.1, v1, v2, v3, v4, v5, v6, v7, v8, v9, v10, v11, v12, v13, v14, v15] [y] := chunk_one RPod.firm (RPod.firm.weak (HY.out _ (on2 B07.out hb33)) (fun b _ hb => ⟨trivial, fun e => by have h1 := (ro33.lt e).1; have h2 : b < w.heap.size := hb; omega⟩))
          refine row_append_wp RPod.firm (A := (fun _ => True)) (w0 := w) _ _ 28 37 rfl _ 296 infoPod Try.underlying28 rfl (by decide) (by decide) z33 L rfl ro33 ⟨W7.heap.size, 0, none⟩ 1 1 [.string y.1, v1, v2, v3, v4, v5, v6, v7, v8, v9, v10, v11, v12, v13, v14, v15] [y] rfl rfl ch34 (fun j v hj => by have := (bs19.2 j v hj).1; simpa [Addr.add_mid] using this) (RPod.firm.one (HY.out w (Below.refl _ _))) (by have h1 := hsm.out; simp only [List.length_singleton]; omega) ?_
          intro z34 u34 r34 gr34
          have hb34 : Below W7.heap.size W7 u34 := Below.grown hb33 gr34 hb33.size (fun b hb => ow33 b hb)
          have zb32 : BoxL u34 u19.heap.size [.string ⟨#[]⟩, .slice none 0 0, .slice none 0 0, .bool false, .int .i64 0, .int .i64 0, .int .i64 0, .int .i64 0, .int .i64 0, .slice none 0 0, .int .i64 0, .int .i64 0, .int .i64 0, .slice none 0 0, .slice none 0 0] := zb32.kept (A := fun b => z33.ownBlock ≠ some b) (Kept.grown gr34 (fun k e h => h e)) nD33
          refine hK.out _ _ (HS.out _ hb34) (fun hHeld2 => ?_)
          clear hK K hHeld; have hHeld := hHeld2; clear hHeld2
          try go_frame
          obtain ⟨ra34, rc34, re34, rs34⟩ := r34.sl (bytes := 296) RPod.firm (by have h1 := hsm.out; simp only [List.length_append, List.length_singleton]; omega)
          subst re34
          generalize (L ++ [y]).length = ll34 at rs34 ⊢
          clear r34 gr34
          refine tr 7 (fun K hK => ?_)
          have lt35 : u19.heap.size < u34.heap.size := zb32.1
          have hD35 := Drop_calls [g0, g1, g2, g3, g4, g5, g6, g7, g8, .slice b9 l9 q9, g10, g11, g12, g13, g14] [.string y.1, v1, v2, v3, v4, v5, v6, v7, v8, v9, v10, v11, v12, v13, v14, v15] ra34 _ rc34 (fun b => b < w.heap.size) (Fresh W5) (fun b => b < w.heap.size) _ (addP X y) y (L ++ [y]) u34 (HG7.out _ hb34) (HY.out _ (on2 B07.out hb34)) rs34 HF2.out
          rw [HDr.out] at hD35
          go_simp
          refine hD35.mono ?_
          rintro e u35 ⟨hs, rfl, i35, _, d35⟩
          clear hD35
          have hb35 : Below W7.heap.size W7 u35 := on2 hb34 d35
          have zb32 := zb32.on d35
          go_wp2_with fail
          refine hK.out _ _ (HS.out _ hb35) (fun hHeld2 => ?_)
          clear hK K hHeld; have hHeld := hHeld2; clear hHeld2
          try go_frame
          refine' tk 8 ?_ ?_; rotate_left
          · intro u hu; clear hu; go_simp; try with_reducible rfl
          try go_frame
          refine' tk 9 ?_ ?_; rotate_left
          · intro u hu; clear hu; go_simp; try with_reducible rfl
          try go_frame
          refine' tk 10 ?_ ?_; rotate_left
          · intro u hu; clear hu; go_simp; try with_reducible rfl
          try go_frame
          refine ts 12 (fun K hK => ?_)
          have hl36 : hs.length = 15 := i35.len
          have hi36 : (Try.prog.info? 41).map (·.size) = some hs.toArray.size := by have e : hs.toArray.size = 15 := (by simp [hl36]); rw [e]; exact sizeInfo
          have ho36 : hs.toArray.all (·.oneCell') = true := all_oneCell_toArray i35.one
          have ht36 : u35.there (u19.heap.size) 0 hs.toArray.size := by have e : hs.toArray.size = 15 := (by simp [hl36]); rw [e]; exact zb32.there
          have hx36 := i35
          have hw36 := bk_store (D := u19.heap.size) hx36 (Nat.le_trans B07.out.size gD32) (.inl lt35) hs
          have hv36 := box_write (cs := hs) zb32 (by rw [hl36]; rfl)
          have hc36 : Below W7.heap.size W7 (u35.setCells (u19.heap.size) 0 hs) := below_setCells hb35 gD32
          refine want_yes (by rfl) (wp_store_mid 41 _ _ rfl (u19.heap.size) 0 hs.toArray rfl rfl ht36 hi36 ho36 ?_)
          refine hK.out undef _ (HS.out _ hc36) (fun hHeld2 => ?_)
          clear hK K hHeld; have hHeld := hHeld2; clear hHeld2
          try go_frame
          refine' tk 13 ?_ ?_; rotate_left
          · intro u hu; clear hu; go_simp; try with_reducible rfl
          try go_frame
          refine wpAnyH_done (by kernel_rfl) ?_ _
          refine NoPanic.normal ?_
          go_wp2_with fail
          go_meet
          exact ⟨rfl, u19.heap.size, hs, rfl, hv36, RInfo.firm.weak hw36.info (fun _ _ _ => trivial), hc36⟩
      ·
        go_simp
        obtain ⟨u37, hu37⟩ : ∃ u37, u37 = (W7.alloc (.cells #[.string ⟨#[]⟩, .slice none 0 0, .slice none 0 0, .bool false, .int .i64 0, .int .i64 0, .int .i64 0, .int .i64 0, .int .i64 0, .slice none 0 0, .int .i64 0, .int .i64 0, .int .i64 0, .slice none 0 0, .slice none 0 0] 41)).drew := ⟨_, rfl⟩
        have d37 : Below W7.heap.size W7 u37 := by rw [hu37]; exact ((Below.refl _ _).alloc (Nat.le_refl _) _).drew
        have hb37 : Below W7.heap.size W7 u37 := d37
        have zb37 : BoxL u37 W7.heap.size [.string ⟨#[]⟩, .slice none 0 0, .slice none 0 0, .bool false, .int .i64 0, .int .i64 0, .int .i64 0, .int .i64 0, .int .i64 0, .slice none 0 0, .int .i64 0, .int .i64 0, .int .i64 0, .slice none 0 0, .slice none 0 0] := by rw [hu37]; exact (BoxL.new W7 41 [.string ⟨#[]⟩, .slice none 0 0, .slice none 0 0, .bool false, .int .i64 0, .int .i64 0, .int .i64 0, .int .i64 0, .int .i64 0, .slice none 0 0, .int .i64 0, .int .i64 0, .int .i64 0, .slice none 0 0, .slice none 0 0]).on (Below.refl _ _).drew
        have gD37 : W7.heap.size ≤ W7.heap.size := hb0.size
        refine hK.out _ _ (HS.out _ (hu37 ▸ hb37)) (fun hHeld2 => ?_)
        rw [← hu37] at hHeld2 ⊢
        clear hu37
        clear hK K hHeld; have hHeld := hHeld2; clear hHeld2
        try go_frame
        refine tb 3 5 (fun K hK => ?_) (fun K hK => ?_)
        ·
          go_simp
          refine (pods_row a n cap (fun b => b < w.heap.size) L u37 (HL.out _ (on2 B07.out hb37))).mono ?_
          rintro e u38 ⟨z38, rfl, r38⟩
          have hb38 : Below W7.heap.size W7 u38 := on2 hb37 r38.below
          have ro38 : Row RPod 16 (fun _ => True) w u38 37 z38 L := r38.from RPod.firm (on2 B07.out hb37) (fun _ _ => trivial)
          have ow38 : ∀ b, z38.ownBlock = some b → W7.heap.size ≤ b := fun b hb => Nat.le_trans hb37.size (r38.lt hb).1
          have nD38 : z38.ownBlock ≠ some (W7.heap.size) := fun e => by have h1 := (r38.lt e).1; have h2 := zb37.1; omega
          have zb37 := zb37.on r38.below
          go_wp2_with fail
          refine hK.out _ _ (HS.out _ hb38) (fun hHeld2 => ?_)
          clear hK K hHeld; have hHeld := hHeld2; clear hHeld2
          try go_frame
          refine tr 5 (fun K hK => ?_)
          go_simp
          obtain ⟨u39, hu39⟩ : ∃ u39, u39 = u38.alloc (.cells #[.string y.1, v1, v2, v3, v4, v5, v6, v7, v8, v9, v10, v11, v12, v13, v14, v15] 37) := ⟨_, rfl⟩
          have d39 : Below u38.heap.size u38 u39 := by rw [hu39]; exact (Below.refl _ _).alloc (Nat.le_refl _) _
          have hb39 : Below W7.heap.size W7 u39 := on2 hb38 d39
          have bs39 : BoxL u39 u38.heap.size [.string y.1, v1, v2, v3, v4, v5, v6, v7, v8, v9, v10, v11, v12, v13, v14, v15] := by rw [hu39]; exact BoxL.new u38 37 [.string y.1, v1, v2, v3, v4, v5, v6, v7, v8, v9, v10, v11, v12, v13, v14, v15]
          have ro38 := ro38.on RPod.firm d39
          have zb37 := zb37.on d39
          refine hK.out _ _ (HS.out _ (hu39 ▸ hb39)) (fun hHeld2 => ?_)
          rw [← hu39] at hHeld2 ⊢
          clear hu39
          clear hK K hHeld; have hHeld := hHeld2; clear hHeld2
          try go_frame
          refine tr 6 (fun K hK => ?_)
          have ch40 : Chunks RPod 16 (fun b => (fun _ => True) b ∧ z38.ownBlock ≠ some b) u39 [.string y.1, v1, v2, v3, v4, v5, v6, v7, v8, v9, v10, v11, v12, v13, v14, v15] [y] := chunk_one RPod.firm (RPod.firm.weak (HY.out _ (on2 B07.out hb39)) (fun b _ hb => ⟨trivial, fun e => by have h1 := (ro38.lt e).1; have h2 : b < w.heap.size := hb; omega⟩))
          refine row_append_wp RPod.firm (A := (fun _ => True)) (w0 := w) _ _ 28 37 rfl _ 296 infoPod Try.underlying28 rfl (by decide) (by decide) z38 L rfl ro38 ⟨u38.heap.size, 0, none⟩ 1 1 [.string y.1, v1, v2, v3, v4, v5, v6, v7, v8, v9, v10, v11, v12, v13, v14, v15] [y] rfl rfl ch40 (fun j v hj => by have := (bs39.2 j v hj).1; simpa [Addr.add_mid] using this) (RPod.firm.one (HY.out w (Below.refl _ _))) (by have h1 := hsm.out; simp only [List.length_singleton]; omega) ?_
          intro z40 u40 r40 gr40
          have hb40 : Below W7.heap.size W7 u40 := Below.grown hb39 gr40 hb39.size (fun b hb => ow38 b hb)
          have zb37 : BoxL u40 W7.heap.size [.string ⟨#[]⟩, .slice none 0 0, .slice none 0 0, .bool false, .int .i64 0, .int .i64 0, .int .i64 0, .int .i64 0, .int .i64 0, .slice none 0 0, .int .i64 0, .int .i64 0, .int .i64 0, .slice none 0 0, .slice none 0 0] := zb37.kept (A := fun b => z38.ownBlock ≠ some b) (Kept.grown gr40 (fun k e h => h e)) nD38
          refine hK.out _ _ (HS.out _ hb40) (fun hHeld2 => ?_)
          clear hK K hHeld; have hHeld := hHeld2; clear hHeld2
          try go_frame
          obtain ⟨ra40, rc40, re40, rs40⟩ := r40.sl (bytes := 296) RPod.firm (by have h1 := hsm.out; simp only [List.length_append, List.length_singleton]; omega)
          subst re40
          generalize (L ++ [y]).length = ll40 at rs40 ⊢
          clear r40 gr40
          refine tr 7 (fun K hK => ?_)
          have lt41 : W7.heap.size < u40.heap.size := zb37.1
          have hD41 := Drop_calls [g0, g1, g2, g3, g4, g5, g6, g7, g8, .slice b9 l9 q9, g10, g11, g12, g13, g14] [.string y.1, v1, v2, v3, v4, v5, v6, v7, v8, v9, v10, v11, v12, v13, v14, v15] ra40 _ rc40 (fun b => b < w.heap.size) (Fresh W5) (fun b => b < w.heap.size) _ (addP X y) y (L ++ [y]) u40 (HG7.out _ hb40) (HY.out _ (on2 B07.out hb40)) rs40 HF2.out
          rw [HDr.out] at hD41
          go_simp
          refine hD41.mono ?_
          rintro e u41 ⟨hs, rfl, i41, _, d41⟩
          clear hD41
          have hb41 : Below W7.heap.size W7 u41 := on2 hb40 d41
          have zb37 := zb37.on d41
          go_wp2_with fail
          refine hK.out _ _ (HS.out _ hb41) (fun hHeld2 => ?_)
          clear hK K hHeld; have hHeld := hHeld2; clear hHeld2
          try go_frame
          refine' tk 8 ?_ ?_; rotate_left
          · intro u hu; clear hu; go_simp; try with_reducible rfl
          try go_frame
          refine' tk 9 ?_ ?_; rotate_left
          · intro u hu; clear hu; go_simp; try with_reducible rfl
          try go_frame
          refine' tk 10 ?_ ?_; rotate_left
          · intro u hu; clear hu; go_simp; try with_reducible rfl
          try go_frame
          refine ts 12 (fun K hK => ?_)
          have hl42 : hs.length = 15 := i41.len
          have hi42 : (Try.prog.info? 41).map (·.size) = some hs.toArray.size := by have e : hs.toArray.size = 15 := (by simp [hl42]); rw [e]; exact sizeInfo
          have ho42 : hs.toArray.all (·.oneCell') = true := all_oneCell_toArray i41.one
          have ht42 : u41.there (W7.heap.size) 0 hs.toArray.size := by have e : hs.toArray.size = 15 := (by simp [hl42]); rw [e]; exact zb37.there
          have hx42 := i41
          have hw42 := bk_store (D := W7.heap.size) hx42 (Nat.le_trans B07.out.size gD37) (.inl lt41) hs
          have hv42 := box_write (cs := hs) zb37 (by rw [hl42]; rfl)
          have hc42 : Below W7.heap.size W7 (u41.setCells (W7.heap.size) 0 hs) := below_setCells hb41 gD37
          refine want_yes (by rfl) (wp_store_mid 41 _ _ rfl (W7.heap.size) 0 hs.toArray rfl rfl ht42 hi42 ho42 ?_)
          refine hK.out undef _ (HS.out _ hc42) (fun hHeld2 => ?_)
          clear hK K hHeld; have hHeld := hHeld2; clear hHeld2
          try go_frame
          refine' tk 13 ?_ ?_; rotate_left
          · intro u hu; clear hu; go_simp; try with_reducible rfl
          try go_frame
          refine wpAnyH_done (by kernel_rfl) ?_ _
          refine NoPanic.normal ?_
          go_wp2_with fail
          go_meet
          exact ⟨rfl, W7.heap.size, hs, rfl, hv42, RInfo.firm.weak hw42.info (fun _ _ _ => trivial), hc42⟩
        ·
          go_simp
          obtain ⟨u43, hu43⟩ : ∃ u43, u43 = u37.alloc (.cells #[.string y.1, v1, v2, v3, v4, v5, v6, v7, v8, v9, v10, v11, v12, v13, v14, v15] 37) := ⟨_, rfl⟩
          have d43 : Below u37.heap.size u37 u43 := by rw [hu43]; exact (Below.refl _ _).alloc (Nat.le_refl _) _
          have hb43 : Below W7.heap.size W7 u43 := on2 hb37 d43
          have bs43 : BoxL u43 u37.heap.size [.string y.1, v1, v2, v3, v4, v5, v6, v7, v8, v9, v10, v11, v12, v13, v14, v15] := by rw [hu43]; exact BoxL.new u37 37 [.string y.1, v1, v2, v3, v4, v5, v6, v7, v8, v9, v10, v11, v12, v13, v14, v15]
          have zb37 := zb37.on d43
          refine hK.out _ _ (HS.out _ (hu43 ▸ hb43)) (fun hHeld2 => ?_)
          rw [← hu43] at hHeld2 ⊢
          clear hu43
          clear hK K hHeld; have hHeld := hHeld2; clear hHeld2
          try go_frame
          refine tr 3 (fun K hK => ?_)
          go_simp
          refine (pods_row a n cap (fun b => b < w.heap.size) L u43 (HL.out _ (on2 B07.out hb43))).mono ?_
          rintro e u44 ⟨z44, rfl, r44⟩
          have hb44 : Below W7.heap.size W7 u44 := on2 hb43 r44.below
          have ro44 : Row RPod 16 (fun _ => True) w u44 37 z44 L := r44.from RPod.firm (on2 B07.out hb43) (fun _ _ => trivial)
          have ow44 : ∀ b, z44.ownBlock = some b → W7.heap.size ≤ b := fun b hb => Nat.le_trans hb43.size (r44.lt hb).1
          have nD44 : z44.ownBlock ≠ some (W7.heap.size) := fun e => by have h1 := (r44.lt e).1; have h2 := zb37.1; omega
          have bs43 := bs43.on r44.below
          have zb37 := zb37.on r44.below
          go_wp2_with fail
          refine hK.out _ _ (HS.out _ hb44) (fun hHeld2 => ?_)
          clear hK K hHeld; have hHeld := hHeld2; clear hHeld2
          try go_frame
          refine tr 6 (fun K hK => ?_)
          have ch45 : Chunks RPod 16 (fun b => (fun _ => True) b ∧ z44.ownBlock ≠ some b) u44 [.string y.1, v1, v2, v3, v4, v5, v6, v7, v8, v9, v10, v11, v12, v13, v14, v15] [y] := chunk_one RPod.firm (RPod.firm.weak (HY.out _ (on2 B07.out hb44)) (fun b _ hb => ⟨trivial, fun e => by have h1 := (ro44.lt e).1; have h2 : b < w.heap.size := hb; omega⟩))
          refine row_append_wp RPod.firm (A := (fun _ => True)) (w0 := w) _ _ 28 37 rfl _ 296 infoPod Try.underlying28 rfl (by decide) (by decide) z44 L rfl ro44 ⟨u37.heap.size, 0, none⟩ 1 1 [.string y.1, v1, v2, v3, v4, v5, v6, v7, v8, v9, v10, v11, v12, v13, v14, v15] [y] rfl rfl ch45 (fun j v hj => by have := (bs43.2 j v hj).1; simpa [Addr.add_mid] using this) (RPod.firm.one (HY.out w (Below.refl _ _))) (by have h1 := hsm.out; simp only [List.length_singleton]; omega) ?_
          intro z45 u45 r45 gr45
          have hb45 : Below W7.heap.size W7 u45 := Below.grown hb44 gr45 hb44.size (fun b hb => ow44 b hb)
          have zb37 : BoxL u45 W7.heap.size [.string ⟨#[]⟩, .slice none 0 0, .slice none 0 0, .bool false, .int .i64 0, .int .i64 0, .int .i64 0, .int .i64 0, .int .i64 0, .slice none 0 0, .int .i64 0, .int .i64 0, .int .i64 0, .slice none 0 0, .slice none 0 0] := zb37.kept (A := fun b => z44.ownBlock ≠ some b) (Kept.grown gr45 (fun k e h => h e)) nD44
          refine hK.out _ _ (HS.out _ hb45) (fun hHeld2 => ?_)
          clear hK K hHeld; have hHeld := hHeld2; clear hHeld2
          try go_frame
          obtain ⟨ra45, rc45, re45, rs45⟩ := r45.sl (bytes := 296) RPod.firm (by have h1 := hsm.out; simp only [List.length_append, List.length_singleton]; omega)
          subst re45
          generalize (L ++ [y]).length = ll45 at rs45 ⊢
          clear r45 gr45
          refine tr 7 (fun K hK => ?_)
          have lt46 : W7.heap.size < u45.heap.size := zb37.1
          have hD46 := Drop_calls [g0, g1, g2, g3, g4, g5, g6, g7, g8, .slice b9 l9 q9, g10, g11, g12, g13, g14] [.string y.1, v1, v2, v3, v4, v5, v6, v7, v8, v9, v10, v11, v12, v13, v14, v15] ra45 _ rc45 (fun b => b < w.heap.size) (Fresh W5) (fun b => b < w.heap.size) _ (addP X y) y (L ++ [y]) u45 (HG7.out _ hb45) (HY.out _ (on2 B07.out hb45)) rs45 HF2.out
          rw [HDr.out] at hD46
          go_simp
          refine hD46.mono ?_
          rintro e u46 ⟨hs, rfl, i46, _, d46⟩
          clear hD46
          have hb46 : Below W7.heap.size W7 u46 := on2 hb45 d46
          have zb37 := zb37.on d46
          go_wp2_with fail
          refine hK.out _ _ (HS.out _ hb46) (fun hHeld2 => ?_)
          clear hK K hHeld; have hHeld := hHeld2; clear hHeld2
          try go_frame
          refine' tk 8 ?_ ?_; rotate_left
          · intro u hu; clear hu; go_simp; try with_reducible rfl
          try go_frame
          refine' tk 9 ?_ ?_; rotate_left
          · intro u hu; clear hu; go_simp; try with_reducible rfl
          try go_frame
          refine' tk 10 ?_ ?_; rotate_left
          · intro u hu; clear hu; go_simp; try with_reducible rfl
          try go_frame
          refine ts 12 (fun K hK => ?_)
          have hl47 : hs.length = 15 := i46.len
          have hi47 : (Try.prog.info? 41).map (·.size) = some hs.toArray.size := by have e : hs.toArray.size = 15 := (by simp [hl47]); rw [e]; exact sizeInfo
          have ho47 : hs.toArray.all (·.oneCell') = true := all_oneCell_toArray i46.one
          have ht47 : u46.there (W7.heap.size) 0 hs.toArray.size := by have e : hs.toArray.size = 15 := (by simp [hl47]); rw [e]; exact zb37.there
          have hx47 := i46
          have hw47 := bk_store (D := W7.heap.size) hx47 (Nat.le_trans B07.out.size gD37) (.inl lt46) hs
          have hv47 := box_write (cs := hs) zb37 (by rw [hl47]; rfl)
          have hc47 : Below W7.heap.size W7 (u46.setCells (W7.heap.size) 0 hs) := below_setCells hb46 gD37
          refine want_yes (by rfl) (wp_store_mid 41 _ _ rfl (W7.heap.size) 0 hs.toArray rfl rfl ht47 hi47 ho47 ?_)
          refine hK.out undef _ (HS.out _ hc47) (fun hHeld2 => ?_)
          clear hK K hHeld; have hHeld := hHeld2; clear hHeld2
          try go_frame
          refine' tk 13 ?_ ?_; rotate_left
          · intro u hu; clear hu; go_simp; try with_reducible rfl
          try go_frame
          refine wpAnyH_done (by kernel_rfl) ?_ _
          refine NoPanic.normal ?_
          go_wp2_with fail
          go_meet
          exact ⟨rfl, W7.heap.size, hs, rfl, hv47, RInfo.firm.weak hw47.info (fun _ _ _ => trivial), hc47⟩
    case rest =>
      obtain ⟨rfl, D, hs, rfl, hD⟩ := hcut
      have HD2 : Hid (BoxL wc D hs ∧ RInfo (fun _ => True) wc hs X ∧ Below W7.heap.size W7 wc) := hD
      have hl : hs.length = 15 := RInfo.firm.len HD2.out.2.1
      have hiH : (Try.prog.info? 41).map (·.size) = some hs.length := by rw [hl]; exact sizeInfo
      clear hD hl
      go_wp2_with (first | (refine wpList_load_want (by rfl) 41 _ rfl D 0 rfl hs _ HD2.out.1.range Try.underlying41 rfl hiH ?_) | (refine wpList_load_want (by rfl) 41 _ rfl w4.heap.size 0 rfl [f0, f1, f2, f3, f4, f5, f6, f7, f8, .slice a9 n9 m9, f10, f11, f12, f13, f14] _ (HF7.out wc HD2.out.2.2).range Try.underlying41 rfl hiI ?_))
      refine (SameInfo_yes hs [f0, f1, f2, f3, f4, f5, f6, f7, f8, .slice a9 n9 m9, f10, f11, f12, f13, f14] _ _ X wc HD2.out.2.1 (HI4.out wc (on2 B47.out HD2.out.2.2)).info).mono ?_
      rintro e w9 ⟨rfl, hb9⟩
      have B79 : Hid (Below W7.heap.size W7 w9) := on2 HD2.out.2.2 hb9
      clear hb9 HD2 hiH
      obtain ⟨x9, _⟩ := (HX7.out w9 B79.out).2 9 _ rfl
      obtain ⟨y0, _⟩ := (HBY.out w9 (on2 B27.out B79.out)).2 0 _ rfl
      go_wp2_with fail
      refine (Has_calls b9 l9 q9 _ (addP X y).2.1 y.1 w9 (T9.out w9 B79.out)).mono ?_
      rintro e wz ⟨he, hz⟩
      rw [HAN.out] at he
      subst he
      rw [hz]
      go_wp2_with fail
      go_ret
      exact ⟨rfl, on2 B07.out B79.out⟩
  · have hE : addE X y = (zeroInfo, 6) := by simp only [addE, hh]; rfl
    rw [hE]
    have HH : Hid (hasB sEq X.2.1 y.1 = true) := hh
    clear hE hh HG7 T9
    go_wp2_with (first | (refine wpList_store_mid rfl 41 _ _ rfl w6.heap.size 0 (([g0, g1, g2, g3, g4, g5, g6, g7, g8, .slice b9 l9 q9, g10, g11, g12, g13, g14] : List Value).toArray) rfl rfl HT7.out hiI HO6.out ?_; refine wpl_at HW7.out ?_) | fail)
    refine (Has_calls a9 n9 m9 _ X.2.1 y.1 W7 (S9.out W7 B47.out)).mono ?_
    rintro e wz ⟨he, hz⟩
    rw [HH.out] at he
    subst he
    rw [hz]
    go_wp2_with fail
    go_ret
    exact ⟨rfl, B07.out⟩
end Go.Proofs.Ytddeilhelkfpoaa
