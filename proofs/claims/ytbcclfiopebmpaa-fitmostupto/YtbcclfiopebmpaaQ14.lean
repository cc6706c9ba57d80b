/- The document's All answers every reason, in order. Condition: the arguments lie as is said of them. The document's Check answers the first reason. Condition: the arguments lie as is said of them. An info in a variable that is written over, beside a pod. Plain facts on worlds. No condition. The document's Most answers how many may come. Condition: the arguments lie as is said of them, and hold no more than is said. -/
import Derived.Test.YtbcclfiopebmpaaQ13
import Derived.Deep.CutBlock
import Derived.Test.YtbcclfiopebmpaaQ12
import Derived.Test.YtbcclfiopebmpaaQ07
namespace Go.Proofs.Ytbcclfiopebmpaa
open Go.RowKit
set_option linter.unusedSimpArgs false
set_option maxRecDepth 100000

theorem OutR.on7 {w0 u u' : World} {v : Value} {L : List Int} (h : OutR RInt 1 w0 u 3 v L) (hb : Below u.heap.size u u') : OutR RInt 1 w0 u' 3 v L := by
  rcases h with ⟨h1, h2, h3⟩ | h
  · exact .inl ⟨h1, h2, on2 h3 hb⟩
  · exact .inr (h.on RInt.firm hb)
theorem one_src (u : World) (n : Int) (A : Where) : Src RInt 1 A (u.alloc (.cells #[.int .i64 n] 3)) (some ⟨u.heap.size, 0, none⟩) 1 [n] :=
  ⟨rfl, .inr ⟨_, [.int .i64 n], rfl, chunk_one RInt.firm rfl, one_cells u [.int .i64 n] 3, by simp [Value.oneCell']⟩⟩
theorem out_sl {w w0 u : World} {v : Value} {L : List Int} (h : OutR RInt 1 w0 u 3 v L) (hl : L.length ≤ 8) (hs : w.heap.size ≤ w0.heap.size) : ∃ a n cap, v = .slice a n cap ∧ SlAt RInt 1 8 (Fresh w) u a n cap L := by
  rcases h with ⟨rfl, ⟨b, rfl⟩, _⟩ | h
  · exact ⟨b, 0, 0, rfl, SlAt.nil _ _ _ _ (fun _ => rfl)⟩
  · obtain ⟨a, cap, e, s⟩ := h.sl (bytes := 8) RInt.firm (by omega)
    exact ⟨a, _, cap, e, s.weak RInt.firm (fun b _ hb => by
      rcases hb with hb | hb
      · exact hb.elim
      · exact Nat.le_trans hs hb)⟩
set_option maxHeartbeats 16000000 in
theorem rAll_calls (ds cs : List Value) (A : Where) (y : PodD) (x : InfoD) (w : World) (h : Hid (RPod A w ds y)) (h' : Hid (RInfo A w cs x)) : Calls Try.prog 11 #[.agg ds.toArray, .agg cs.toArray] w fun e w' => ∃ a n cap, e = .returned (.slice a n cap) ∧ SlAt RInt 1 8 (Fresh w) w' a n cap (whyL y x) ∧ Below w.heap.size w w' := by
  obtain ⟨g2, g6, g7, g8, g9, g10, g11, g12, g13, rfl, _, _, p6, p7, _⟩ := h.out.out
  obtain ⟨h1, h2, h9, h13, h14, rfl, _, i1, i2, i9, _⟩ := h'.out.out
  have h9e : Hid (x.2.1.length = h9.2.1) := i9.1
  have HP : Hid (∀ u, Below w.heap.size w u → RPod A u [.string y.1, .int .i64 y.2.1, .slice g2.1 g2.2.1 g2.2.2, .int .i64 y.2.2.2.1.1, .int .i64 y.2.2.2.1.2.1, .int .i64 y.2.2.2.1.2.2, .slice g6.1 g6.2.1 g6.2.2, .slice g7.1 g7.2.1 g7.2.2, .slice g8.1 g8.2.1 g8.2.2, .slice g9.1 g9.2.1 g9.2.2, .slice g10.1 g10.2.1 g10.2.2, .slice g11.1 g11.2.1 g11.2.2, .slice g12.1 g12.2.1 g12.2.2, .slice g13.1 g13.2.1 g13.2.2, .string y.2.2.2.2.2.2.2.2.2.2.2.2.1, .string y.2.2.2.2.2.2.2.2.2.2.2.2.2] y) := fun u hb => RPod.firm.kept h.out (Kept.below hb)
  have HI : Hid (∀ u, Below w.heap.size w u → RInfo A u [.string x.1.1, .slice h1.1 h1.2.1 h1.2.2, .slice h2.1 h2.2.1 h2.2.2, .bool x.1.2.2.2.1, .int .i64 x.1.2.2.2.2.1.1, .int .i64 x.1.2.2.2.2.1.2.1, .int .i64 x.1.2.2.2.2.1.2.2, .int .i64 x.1.2.2.2.2.2.1, .int .i64 x.1.2.2.2.2.2.2, .slice h9.1 h9.2.1 h9.2.2, .int .i64 x.2.2.1.1, .int .i64 x.2.2.1.2.1, .int .i64 x.2.2.1.2.2, .slice h13.1 h13.2.1 h13.2.2, .slice h14.1 h14.2.1 h14.2.2] x) := fun u hb => RInfo.firm.kept h'.out (Kept.below hb)
  have H6 : Hid (∀ u, Below w.heap.size w u → SlAt RBear 4 48 A u g6.1 g6.2.1 g6.2.2 (pBears y)) := fun u hb => p6.on RBear.firm hb
  have H7 : Hid (∀ u, Below w.heap.size w u → SlAt RReq 3 48 A u g7.1 g7.2.1 g7.2.2 (pAsks y)) := fun u hb => p7.on RReq.firm hb
  have H1 : Hid (∀ u, Below w.heap.size w u → SlAt RLabel 2 32 A u h1.1 h1.2.1 h1.2.2 x.1.2.1) := fun u hb => i1.on RLabel.firm hb
  have H2 : Hid (∀ u, Below w.heap.size w u → SlAt RTaint 3 40 A u h2.1 h2.2.1 h2.2.2 x.1.2.2.1) := fun u hb => i2.on RTaint.firm hb
  have hiI : (Try.prog.info? 38).map (·.size) = some ([.string x.1.1, .slice h1.1 h1.2.1 h1.2.2, .slice h2.1 h2.2.1 h2.2.2, .bool x.1.2.2.2.1, .int .i64 x.1.2.2.2.2.1.1, .int .i64 x.1.2.2.2.2.1.2.1, .int .i64 x.1.2.2.2.2.1.2.2, .int .i64 x.1.2.2.2.2.2.1, .int .i64 x.1.2.2.2.2.2.2, .slice h9.1 h9.2.1 h9.2.2, .int .i64 x.2.2.1.1, .int .i64 x.2.2.1.2.1, .int .i64 x.2.2.1.2.2, .slice h13.1 h13.2.1 h13.2.2, .slice h14.1 h14.2.1 h14.2.2] : List Value).length := sizeInfo7
  have hiP : (Try.prog.info? 33).map (·.size) = some ([.string y.1, .int .i64 y.2.1, .slice g2.1 g2.2.1 g2.2.2, .int .i64 y.2.2.2.1.1, .int .i64 y.2.2.2.1.2.1, .int .i64 y.2.2.2.1.2.2, .slice g6.1 g6.2.1 g6.2.2, .slice g7.1 g7.2.1 g7.2.2, .slice g8.1 g8.2.1 g8.2.2, .slice g9.1 g9.2.1 g9.2.2, .slice g10.1 g10.2.1 g10.2.2, .slice g11.1 g11.2.1 g11.2.2, .slice g12.1 g12.2.1 g12.2.2, .slice g13.1 g13.2.1 g13.2.2, .string y.2.2.2.2.2.2.2.2.2.2.2.2.1, .string y.2.2.2.2.2.2.2.2.2.2.2.2.2] : List Value).length := sizePod7
  clear h h' p6 p7 i1 i2 i9
  obtain ⟨W3, hW3⟩ : ∃ W3, W3 = ((w.alloc (.cells #[.string y.1, .int .i64 y.2.1, .slice g2.1 g2.2.1 g2.2.2, .int .i64 y.2.2.2.1.1, .int .i64 y.2.2.2.1.2.1, .int .i64 y.2.2.2.1.2.2, .slice g6.1 g6.2.1 g6.2.2, .slice g7.1 g7.2.1 g7.2.2, .slice g8.1 g8.2.1 g8.2.2, .slice g9.1 g9.2.1 g9.2.2, .slice g10.1 g10.2.1 g10.2.2, .slice g11.1 g11.2.1 g11.2.2, .slice g12.1 g12.2.1 g12.2.2, .slice g13.1 g13.2.1 g13.2.2, .string y.2.2.2.2.2.2.2.2.2.2.2.2.1, .string y.2.2.2.2.2.2.2.2.2.2.2.2.2] 33)).alloc (.cells #[.string x.1.1, .slice h1.1 h1.2.1 h1.2.2, .slice h2.1 h2.2.1 h2.2.2, .bool x.1.2.2.2.1, .int .i64 x.1.2.2.2.2.1.1, .int .i64 x.1.2.2.2.2.1.2.1, .int .i64 x.1.2.2.2.2.1.2.2, .int .i64 x.1.2.2.2.2.2.1, .int .i64 x.1.2.2.2.2.2.2, .slice h9.1 h9.2.1 h9.2.2, .int .i64 x.2.2.1.1, .int .i64 x.2.2.1.2.1, .int .i64 x.2.2.1.2.2, .slice h13.1 h13.2.1 h13.2.2, .slice h14.1 h14.2.1 h14.2.2] 38)).alloc (.cells #[] 3) := ⟨_, rfl⟩
  have B3 : Hid (Below w.heap.size w W3) := by rw [Hid, hW3]; go_grown
  have HX : Hid (∀ u, Below W3.heap.size W3 u → BoxL u w.heap.size [.string y.1, .int .i64 y.2.1, .slice g2.1 g2.2.1 g2.2.2, .int .i64 y.2.2.2.1.1, .int .i64 y.2.2.2.1.2.1, .int .i64 y.2.2.2.1.2.2, .slice g6.1 g6.2.1 g6.2.2, .slice g7.1 g7.2.1 g7.2.2, .slice g8.1 g8.2.1 g8.2.2, .slice g9.1 g9.2.1 g9.2.2, .slice g10.1 g10.2.1 g10.2.2, .slice g11.1 g11.2.1 g11.2.2, .slice g12.1 g12.2.1 g12.2.2, .slice g13.1 g13.2.1 g13.2.2, .string y.2.2.2.2.2.2.2.2.2.2.2.2.1, .string y.2.2.2.2.2.2.2.2.2.2.2.2.2]) := fun u hb => BoxL.on (by rw [hW3]; exact ((BoxL.new w 33 [.string y.1, .int .i64 y.2.1, .slice g2.1 g2.2.1 g2.2.2, .int .i64 y.2.2.2.1.1, .int .i64 y.2.2.2.1.2.1, .int .i64 y.2.2.2.1.2.2, .slice g6.1 g6.2.1 g6.2.2, .slice g7.1 g7.2.1 g7.2.2, .slice g8.1 g8.2.1 g8.2.2, .slice g9.1 g9.2.1 g9.2.2, .slice g10.1 g10.2.1 g10.2.2, .slice g11.1 g11.2.1 g11.2.2, .slice g12.1 g12.2.1 g12.2.2, .slice g13.1 g13.2.1 g13.2.2, .string y.2.2.2.2.2.2.2.2.2.2.2.2.1, .string y.2.2.2.2.2.2.2.2.2.2.2.2.2]).on ((Below.refl _ _).alloc (Nat.le_refl _) _)).on ((Below.refl _ _).alloc (Nat.le_refl _) _)) hb
  have HY : Hid (∀ u, Below W3.heap.size W3 u → BoxL u (w.heap.size + 1) [.string x.1.1, .slice h1.1 h1.2.1 h1.2.2, .slice h2.1 h2.2.1 h2.2.2, .bool x.1.2.2.2.1, .int .i64 x.1.2.2.2.2.1.1, .int .i64 x.1.2.2.2.2.1.2.1, .int .i64 x.1.2.2.2.2.1.2.2, .int .i64 x.1.2.2.2.2.2.1, .int .i64 x.1.2.2.2.2.2.2, .slice h9.1 h9.2.1 h9.2.2, .int .i64 x.2.2.1.1, .int .i64 x.2.2.1.2.1, .int .i64 x.2.2.1.2.2, .slice h13.1 h13.2.1 h13.2.2, .slice h14.1 h14.2.1 h14.2.2]) := fun u hb => BoxL.on (by have h1 := (BoxL.new (w.alloc (.cells #[.string y.1, .int .i64 y.2.1, .slice g2.1 g2.2.1 g2.2.2, .int .i64 y.2.2.2.1.1, .int .i64 y.2.2.2.1.2.1, .int .i64 y.2.2.2.1.2.2, .slice g6.1 g6.2.1 g6.2.2, .slice g7.1 g7.2.1 g7.2.2, .slice g8.1 g8.2.1 g8.2.2, .slice g9.1 g9.2.1 g9.2.2, .slice g10.1 g10.2.1 g10.2.2, .slice g11.1 g11.2.1 g11.2.2, .slice g12.1 g12.2.1 g12.2.2, .slice g13.1 g13.2.1 g13.2.2, .string y.2.2.2.2.2.2.2.2.2.2.2.2.1, .string y.2.2.2.2.2.2.2.2.2.2.2.2.2] 33)) 38 [.string x.1.1, .slice h1.1 h1.2.1 h1.2.2, .slice h2.1 h2.2.1 h2.2.2, .bool x.1.2.2.2.1, .int .i64 x.1.2.2.2.2.1.1, .int .i64 x.1.2.2.2.2.1.2.1, .int .i64 x.1.2.2.2.2.1.2.2, .int .i64 x.1.2.2.2.2.2.1, .int .i64 x.1.2.2.2.2.2.2, .slice h9.1 h9.2.1 h9.2.2, .int .i64 x.2.2.1.1, .int .i64 x.2.2.1.2.1, .int .i64 x.2.2.1.2.2, .slice h13.1 h13.2.1 h13.2.2, .slice h14.1 h14.2.1 h14.2.2]).on ((Below.refl _ _).alloc (Nat.le_refl _) (.cells #[] 3)); rw [hW3]; simpa using h1) hb
  have HW3 : Hid (W3 = ((w.alloc (.cells #[.string y.1, .int .i64 y.2.1, .slice g2.1 g2.2.1 g2.2.2, .int .i64 y.2.2.2.1.1, .int .i64 y.2.2.2.1.2.1, .int .i64 y.2.2.2.1.2.2, .slice g6.1 g6.2.1 g6.2.2, .slice g7.1 g7.2.1 g7.2.2, .slice g8.1 g8.2.1 g8.2.2, .slice g9.1 g9.2.1 g9.2.2, .slice g10.1 g10.2.1 g10.2.2, .slice g11.1 g11.2.1 g11.2.2, .slice g12.1 g12.2.1 g12.2.2, .slice g13.1 g13.2.1 g13.2.2, .string y.2.2.2.2.2.2.2.2.2.2.2.2.1, .string y.2.2.2.2.2.2.2.2.2.2.2.2.2] 33)).alloc (.cells #[.string x.1.1, .slice h1.1 h1.2.1 h1.2.2, .slice h2.1 h2.2.1 h2.2.2, .bool x.1.2.2.2.1, .int .i64 x.1.2.2.2.2.1.1, .int .i64 x.1.2.2.2.2.1.2.1, .int .i64 x.1.2.2.2.2.1.2.2, .int .i64 x.1.2.2.2.2.2.1, .int .i64 x.1.2.2.2.2.2.2, .slice h9.1 h9.2.1 h9.2.2, .int .i64 x.2.2.1.1, .int .i64 x.2.2.1.2.1, .int .i64 x.2.2.1.2.2, .slice h13.1 h13.2.1 h13.2.2, .slice h14.1 h14.2.1 h14.2.2] 38)).alloc (.cells #[] 3)) := hW3
  have hs3 : Hid (w.heap.size + 1 < W3.heap.size) := by rw [Hid, hW3]; simp
  clear hW3
  have hF := rFree_calls [.string x.1.1, .slice h1.1 h1.2.1 h1.2.2, .slice h2.1 h2.2.1 h2.2.2, .bool x.1.2.2.2.1, .int .i64 x.1.2.2.2.2.1.1, .int .i64 x.1.2.2.2.2.1.2.1, .int .i64 x.1.2.2.2.2.1.2.2, .int .i64 x.1.2.2.2.2.2.1, .int .i64 x.1.2.2.2.2.2.2, .slice h9.1 h9.2.1 h9.2.2, .int .i64 x.2.2.1.1, .int .i64 x.2.2.1.2.1, .int .i64 x.2.2.1.2.2, .slice h13.1 h13.2.1 h13.2.2, .slice h14.1 h14.2.1 h14.2.2] A x W3 (HI.out _ B3.out)
  obtain ⟨fr, hfr⟩ : ∃ fr, freeP x = fr := ⟨_, rfl⟩
  rw [hfr] at hF
  obtain ⟨fa, fb, fc⟩ := fr
  simp only at hF
  go_enter Try.func11, Try.ntmps11
  go_wp2_with (first | (refine wpl_w HW3.out ?_; refine wpList_load_mid rfl 38 _ rfl (w.heap.size + 1) 0 rfl [.string x.1.1, .slice h1.1 h1.2.1 h1.2.2, .slice h2.1 h2.2.1 h2.2.2, .bool x.1.2.2.2.1, .int .i64 x.1.2.2.2.2.1.1, .int .i64 x.1.2.2.2.2.1.2.1, .int .i64 x.1.2.2.2.2.1.2.2, .int .i64 x.1.2.2.2.2.2.1, .int .i64 x.1.2.2.2.2.2.2, .slice h9.1 h9.2.1 h9.2.2, .int .i64 x.2.2.1.1, .int .i64 x.2.2.1.2.1, .int .i64 x.2.2.1.2.2, .slice h13.1 h13.2.1 h13.2.2, .slice h14.1 h14.2.1 h14.2.2] _ (HY.out _ (Below.refl _ _)).range Try.underlying38 rfl hiI ?_) | fail)
  refine hF.mono ?_
  rintro e w4 ⟨rfl, hb4⟩
  clear hF HW3
  have q6 := ((HX.out w4 hb4).2 6 _ rfl).1
  have q2 := ((HY.out w4 hb4).2 2 _ rfl).1
  have l0 : w.heap.size < w4.heap.size := (HX.out w4 hb4).1
  have l1 : w.heap.size + 1 < w4.heap.size := (HY.out w4 hb4).1
  have n0 : w.heap.size ≠ w4.heap.size := by omega
  have n1 : w.heap.size + 1 ≠ w4.heap.size := by omega
  have b5 : Below W3.heap.size W3 (w4.alloc (.cells #[.int .i64 fa, .int .i64 fb, .int .i64 fc] 24)) := on2 hb4 (by go_grown)
  have hK := rKept_sl h2.1 h2.2.1 h2.2.2 A x.1.2.2.1 g6.1 g6.2.1 g6.2.2 A (pBears y) (w4.alloc (.cells #[.int .i64 fa, .int .i64 fb, .int .i64 fc] 24)) (H2.out _ (on2 B3.out b5)) (H6.out _ (on2 B3.out b5))
  have hke : Hid (kepB y x = (keptT x.1.2.2.1 (pBears y)).2) := rfl
  generalize keptT x.1.2.2.1 (pBears y) = kt at hK hke
  obtain ⟨⟨k1, k2, k3⟩, kb⟩ := kt
  have HD : Hid (BoxL (w4.alloc (.cells #[.int .i64 fa, .int .i64 fb, .int .i64 fc] 24)) w4.heap.size [.int .i64 fa, .int .i64 fb, .int .i64 fc]) := BoxL.new w4 24 _
  go_wp2_with fail
  refine hK.mono ?_
  rintro e w6 ⟨rfl, hb6⟩
  clear hK q6 q2
  have b6 : Below W3.heap.size W3 w6 := on2 b5 hb6
  have q3 := ((HY.out w6 b6).2 3 _ rfl).1
  have l2 : w.heap.size + 1 < w6.heap.size := (HY.out w6 b6).1
  have n2 : w.heap.size + 1 ≠ w6.heap.size := by omega
  obtain ⟨W7, hW7⟩ : ∃ W7, W7 = w6.alloc (.cells #[.string k1, .string k2, .int .i64 k3] 70) := ⟨_, rfl⟩
  have b7 : Below w6.heap.size w6 W7 := by rw [hW7]; go_grown
  have HX7 : Hid (∀ u, Below W7.heap.size W7 u → BoxL u w.heap.size [.string y.1, .int .i64 y.2.1, .slice g2.1 g2.2.1 g2.2.2, .int .i64 y.2.2.2.1.1, .int .i64 y.2.2.2.1.2.1, .int .i64 y.2.2.2.1.2.2, .slice g6.1 g6.2.1 g6.2.2, .slice g7.1 g7.2.1 g7.2.2, .slice g8.1 g8.2.1 g8.2.2, .slice g9.1 g9.2.1 g9.2.2, .slice g10.1 g10.2.1 g10.2.2, .slice g11.1 g11.2.1 g11.2.2, .slice g12.1 g12.2.1 g12.2.2, .slice g13.1 g13.2.1 g13.2.2, .string y.2.2.2.2.2.2.2.2.2.2.2.2.1, .string y.2.2.2.2.2.2.2.2.2.2.2.2.2]) := fun u hb => HX.out u (on2 (on2 b6 b7) hb)
  have HY7 : Hid (∀ u, Below W7.heap.size W7 u → BoxL u (w.heap.size + 1) [.string x.1.1, .slice h1.1 h1.2.1 h1.2.2, .slice h2.1 h2.2.1 h2.2.2, .bool x.1.2.2.2.1, .int .i64 x.1.2.2.2.2.1.1, .int .i64 x.1.2.2.2.2.1.2.1, .int .i64 x.1.2.2.2.2.1.2.2, .int .i64 x.1.2.2.2.2.2.1, .int .i64 x.1.2.2.2.2.2.2, .slice h9.1 h9.2.1 h9.2.2, .int .i64 x.2.2.1.1, .int .i64 x.2.2.1.2.1, .int .i64 x.2.2.1.2.2, .slice h13.1 h13.2.1 h13.2.2, .slice h14.1 h14.2.1 h14.2.2]) := fun u hb => HY.out u (on2 (on2 b6 b7) hb)
  have HD7 : Hid (∀ u, Below W7.heap.size W7 u → BoxL u w4.heap.size [.int .i64 fa, .int .i64 fb, .int .i64 fc]) := fun u hb => (HD.out.on (on2 hb6 b7)).on hb
  have B7 : Hid (Below w.heap.size w W7) := on2 B3.out (on2 b6 b7)
  have HO0 : Hid (OutR RInt 1 W7 W7 3 (.slice (some ⟨w.heap.size + 1 + 1, 0, none⟩) 0 0) (yes ((whyR y x).take 0))) := OutR.nil _ _ _
  have HKB : Hid (kepB y x = kb) := hke.out
  clear hke b5 hb4 hb6 HX HY HD l0 l1 n0 n1 b6 b7

  have hyl : Hid ((yes ((whyR y x).take 0)).length ≤ 8) := yes_len (y := y) (x := x) 0
  have HT : Hid (yes ((whyR y x).take 1) = yes ((whyR y x).take 0) ++ (if reaB y x 0 = true then [1] else [])) := yes_take (y := y) (x := x) (k := 0) (by omega)
  have HRo := HO0
  obtain ⟨ob, hob⟩ : ∃ ob, ob = x.1.2.2.2.1 := ⟨_, rfl⟩
  have hbo : Hid (reaB y x 0 = ob) := hob.symm
  have q3' : w6.cell? ⟨w.heap.size + 1, 3, none⟩ = some (.bool ob) := by rw [hob]; exact q3
  clear q3 hob
  go_upto_if 23 with fail
  rw [← hW7]
  clear hW7 q3' l2 n2
  rw [hbo.out] at HT
  clear hbo
  go_cut [5] (fun o wx => Hid (OutR RInt 1 W7 wx 3 o (yes ((whyR y x).take 1))))
  case first =>
    cases hv : ob
    · rw [hv, if_neg (by decide), List.append_nil] at HT
      go_wp2_with fail
      go_meet
      exact HT.out ▸ HRo.out
    · rw [hv, if_pos rfl] at HT
      go_wp2_with (at_builtin; go_must (refine app_out RInt.firm RInt.flat (A := fun _ => False) (w0 := W7) rfl _ _ 28 3 rfl _ 8 infoint Try.underlying28 rfl (by decide) (by decide) _ _ rfl (HRo.out.on7 (by go_grown)) (some ⟨W7.heap.size, 0, none⟩) 1 1 [1] rfl (one_src _ _ _) (by have := hyl.out; simp only [List.length_cons, List.length_nil]; omega) ?_); intro v1 w1 hrow1)
      go_wp2_with fail
      go_meet
      exact HT.out ▸ hrow1
  case rest =>
  clear HRo HT hyl HO0
  have HRo : Hid (OutR RInt 1 W7 wc 3 u5 (yes ((whyR y x).take 1))) := hcut
  clear hcut
  have HB : Hid (Below W7.heap.size W7 wc) := HRo.out.below
  have hyl : Hid ((yes ((whyR y x).take 1)).length ≤ 8) := yes_len (y := y) (x := x) 1
  have HT : Hid (yes ((whyR y x).take 2) = yes ((whyR y x).take 1) ++ (if reaB y x 1 = true then [2] else [])) := yes_take (y := y) (x := x) (k := 1) (by omega)
  have hbo : Hid (reaB y x 1 = kb) := HKB.out
  go_upto_if 27 with fail
  rw [hbo.out] at HT
  clear hbo
  go_cut [5, 8] (fun o _ wx => Hid (OutR RInt 1 W7 wx 3 o (yes ((whyR y x).take 2))))
  case first =>
    cases hv : kb
    · rw [hv, if_neg (by decide), List.append_nil] at HT
      go_wp2_with fail
      go_meet
      exact HT.out ▸ HRo.out
    · rw [hv, if_pos rfl] at HT
      go_wp2_with (at_builtin; go_must (refine app_out RInt.firm RInt.flat (A := fun _ => False) (w0 := W7) rfl _ _ 28 3 rfl _ 8 infoint Try.underlying28 rfl (by decide) (by decide) _ _ rfl (HRo.out.on7 (by go_grown)) (some ⟨wc.heap.size, 0, none⟩) 1 1 [2] rfl (one_src _ _ _) (by have := hyl.out; simp only [List.length_cons, List.length_nil]; omega) ?_); intro v1 w1 hrow1)
      go_wp2_with fail
      go_meet
      exact HT.out ▸ hrow1
  case rest =>
  clear HRo HT hyl
  have HRo : Hid (OutR RInt 1 W7 wc 3 u5 (yes ((whyR y x).take 2))) := hcut
  clear hcut
  have HB : Hid (Below W7.heap.size W7 wc) := HRo.out.below
  have hyl : Hid ((yes ((whyR y x).take 2)).length ≤ 8) := yes_len (y := y) (x := x) 2
  have HT : Hid (yes ((whyR y x).take 3) = yes ((whyR y x).take 2) ++ (if reaB y x 2 = true then [3] else [])) := yes_take (y := y) (x := x) (k := 2) (by omega)
  have hbo : Hid (reaB y x 2 = askB y x) := rfl
  have q1 := ((HY7.out wc HB.out).2 1 _ rfl).1
  have q7 := ((HX7.out wc HB.out).2 7 _ rfl).1
  have hC := rMatch_sl h1.1 h1.2.1 h1.2.2 A x.1.2.1 g7.1 g7.2.1 g7.2.2 A (pAsks y) wc (H1.out _ (on2 B7.out HB.out)) (H7.out _ (on2 B7.out HB.out))
  have hae : Hid (askB y x = !(matchL x.1.2.1 (pAsks y))) := rfl
  generalize matchL x.1.2.1 (pAsks y) = mt at hC hae
  rw [hae.out] at hbo
  go_wp2_with fail
  refine hC.mono ?_
  rintro e w8 ⟨rfl, hb8⟩
  have HR8 : Hid (OutR RInt 1 W7 w8 3 u5 (yes ((whyR y x).take 2))) := HRo.out.on7 hb8
  clear HRo hC q1 q7 hb8 hae HB
  have HRo := HR8
  clear HR8
  go_upto_if 37 with fail
  rw [hbo.out] at HT
  clear hbo
  go_cut [5] (fun o wx => Hid (OutR RInt 1 W7 wx 3 o (yes ((whyR y x).take 3))))
  case first =>
    cases hv : (!mt)
    · rw [hv, if_neg (by decide), List.append_nil] at HT
      go_wp2_with fail
      go_meet
      exact HT.out ▸ HRo.out
    · rw [hv, if_pos rfl] at HT
      go_wp2_with (at_builtin; go_must (refine app_out RInt.firm RInt.flat (A := fun _ => False) (w0 := W7) rfl _ _ 28 3 rfl _ 8 infoint Try.underlying28 rfl (by decide) (by decide) _ _ rfl (HRo.out.on7 (by go_grown)) (some ⟨w8.heap.size, 0, none⟩) 1 1 [3] rfl (one_src _ _ _) (by have := hyl.out; simp only [List.length_cons, List.length_nil]; omega) ?_); intro v1 w1 hrow1)
      go_wp2_with fail
      go_meet
      exact HT.out ▸ hrow1
  case rest =>
  clear HRo HT hyl
  have HRo : Hid (OutR RInt 1 W7 wc 3 u5 (yes ((whyR y x).take 3))) := hcut
  clear hcut
  have HB : Hid (Below W7.heap.size W7 wc) := HRo.out.below
  have hyl : Hid ((yes ((whyR y x).take 3)).length ≤ 8) := yes_len (y := y) (x := x) 3
  have HT : Hid (yes ((whyR y x).take 4) = yes ((whyR y x).take 3) ++ (if reaB y x 3 = true then [4] else [])) := yes_take (y := y) (x := x) (k := 3) (by omega)
  have hbo : Hid (reaB y x 3 = clashP x y) := rfl
  have HA3 : Hid (BoxL wc (w.heap.size + 1) [.string x.1.1, .slice h1.1 h1.2.1 h1.2.2, .slice h2.1 h2.2.1 h2.2.2, .bool x.1.2.2.2.1, .int .i64 x.1.2.2.2.2.1.1, .int .i64 x.1.2.2.2.2.1.2.1, .int .i64 x.1.2.2.2.2.1.2.2, .int .i64 x.1.2.2.2.2.2.1, .int .i64 x.1.2.2.2.2.2.2, .slice h9.1 h9.2.1 h9.2.2, .int .i64 x.2.2.1.1, .int .i64 x.2.2.1.2.1, .int .i64 x.2.2.1.2.2, .slice h13.1 h13.2.1 h13.2.2, .slice h14.1 h14.2.1 h14.2.2]) := HY7.out wc HB.out
  have HB3 : Hid (BoxL wc w.heap.size [.string y.1, .int .i64 y.2.1, .slice g2.1 g2.2.1 g2.2.2, .int .i64 y.2.2.2.1.1, .int .i64 y.2.2.2.1.2.1, .int .i64 y.2.2.2.1.2.2, .slice g6.1 g6.2.1 g6.2.2, .slice g7.1 g7.2.1 g7.2.2, .slice g8.1 g8.2.1 g8.2.2, .slice g9.1 g9.2.1 g9.2.2, .slice g10.1 g10.2.1 g10.2.2, .slice g11.1 g11.2.1 g11.2.2, .slice g12.1 g12.2.1 g12.2.2, .slice g13.1 g13.2.1 g13.2.2, .string y.2.2.2.2.2.2.2.2.2.2.2.2.1, .string y.2.2.2.2.2.2.2.2.2.2.2.2.2]) := HX7.out wc HB.out
  have hC := rClash_calls [.string x.1.1, .slice h1.1 h1.2.1 h1.2.2, .slice h2.1 h2.2.1 h2.2.2, .bool x.1.2.2.2.1, .int .i64 x.1.2.2.2.2.1.1, .int .i64 x.1.2.2.2.2.1.2.1, .int .i64 x.1.2.2.2.2.1.2.2, .int .i64 x.1.2.2.2.2.2.1, .int .i64 x.1.2.2.2.2.2.2, .slice h9.1 h9.2.1 h9.2.2, .int .i64 x.2.2.1.1, .int .i64 x.2.2.1.2.1, .int .i64 x.2.2.1.2.2, .slice h13.1 h13.2.1 h13.2.2, .slice h14.1 h14.2.1 h14.2.2] [.string y.1, .int .i64 y.2.1, .slice g2.1 g2.2.1 g2.2.2, .int .i64 y.2.2.2.1.1, .int .i64 y.2.2.2.1.2.1, .int .i64 y.2.2.2.1.2.2, .slice g6.1 g6.2.1 g6.2.2, .slice g7.1 g7.2.1 g7.2.2, .slice g8.1 g8.2.1 g8.2.2, .slice g9.1 g9.2.1 g9.2.2, .slice g10.1 g10.2.1 g10.2.2, .slice g11.1 g11.2.1 g11.2.2, .slice g12.1 g12.2.1 g12.2.2, .slice g13.1 g13.2.1 g13.2.2, .string y.2.2.2.2.2.2.2.2.2.2.2.2.1, .string y.2.2.2.2.2.2.2.2.2.2.2.2.2] A A x y wc (HI.out _ (on2 B7.out HB.out)) (HP.out _ (on2 B7.out HB.out))
  generalize clashP x y = mt at hC hbo
  go_wp2_with (first | (refine wpList_load_mid rfl 38 _ rfl (w.heap.size + 1) 0 rfl [.string x.1.1, .slice h1.1 h1.2.1 h1.2.2, .slice h2.1 h2.2.1 h2.2.2, .bool x.1.2.2.2.1, .int .i64 x.1.2.2.2.2.1.1, .int .i64 x.1.2.2.2.2.1.2.1, .int .i64 x.1.2.2.2.2.1.2.2, .int .i64 x.1.2.2.2.2.2.1, .int .i64 x.1.2.2.2.2.2.2, .slice h9.1 h9.2.1 h9.2.2, .int .i64 x.2.2.1.1, .int .i64 x.2.2.1.2.1, .int .i64 x.2.2.1.2.2, .slice h13.1 h13.2.1 h13.2.2, .slice h14.1 h14.2.1 h14.2.2] _ HA3.out.range Try.underlying38 rfl hiI ?_) | (refine wpList_load_mid rfl 33 _ rfl w.heap.size 0 rfl [.string y.1, .int .i64 y.2.1, .slice g2.1 g2.2.1 g2.2.2, .int .i64 y.2.2.2.1.1, .int .i64 y.2.2.2.1.2.1, .int .i64 y.2.2.2.1.2.2, .slice g6.1 g6.2.1 g6.2.2, .slice g7.1 g7.2.1 g7.2.2, .slice g8.1 g8.2.1 g8.2.2, .slice g9.1 g9.2.1 g9.2.2, .slice g10.1 g10.2.1 g10.2.2, .slice g11.1 g11.2.1 g11.2.2, .slice g12.1 g12.2.1 g12.2.2, .slice g13.1 g13.2.1 g13.2.2, .string y.2.2.2.2.2.2.2.2.2.2.2.2.1, .string y.2.2.2.2.2.2.2.2.2.2.2.2.2] _ HB3.out.range Try.underlying33 rfl hiP ?_) | fail)
  refine hC.mono ?_
  rintro e w8 ⟨rfl, hb8⟩
  have HR8 : Hid (OutR RInt 1 W7 w8 3 u5 (yes ((whyR y x).take 3))) := HRo.out.on7 hb8
  clear HRo hC HA3 HB3 hb8 HB
  have HRo := HR8
  clear HR8
  go_upto_if 43 with fail
  rw [hbo.out] at HT
  clear hbo
  go_cut [5] (fun o wx => Hid (OutR RInt 1 W7 wx 3 o (yes ((whyR y x).take 4))))
  case first =>
    cases hv : mt
    · rw [hv, if_neg (by decide), List.append_nil] at HT
      go_wp2_with fail
      go_meet
      exact HT.out ▸ HRo.out
    · rw [hv, if_pos rfl] at HT
      go_wp2_with (at_builtin; go_must (refine app_out RInt.firm RInt.flat (A := fun _ => False) (w0 := W7) rfl _ _ 28 3 rfl _ 8 infoint Try.underlying28 rfl (by decide) (by decide) _ _ rfl (HRo.out.on7 (by go_grown)) (some ⟨w8.heap.size, 0, none⟩) 1 1 [4] rfl (one_src _ _ _) (by have := hyl.out; simp only [List.length_cons, List.length_nil]; omega) ?_); intro v1 w1 hrow1)
      go_wp2_with fail
      go_meet
      exact HT.out ▸ hrow1
  case rest =>
  clear HRo HT hyl
  have HRo : Hid (OutR RInt 1 W7 wc 3 u5 (yes ((whyR y x).take 4))) := hcut
  clear hcut
  have HB : Hid (Below W7.heap.size W7 wc) := HRo.out.below
  have hyl : Hid ((yes ((whyR y x).take 4)).length ≤ 8) := yes_len (y := y) (x := x) 4
  have HT : Hid (yes ((whyR y x).take 5) = yes ((whyR y x).take 4) ++ (if reaB y x 4 = true then [5] else [])) := yes_take (y := y) (x := x) (k := 4) (by omega)
  have hbo : Hid (reaB y x 4 = decide (x.1.2.2.2.2.2.1 ≤ (h9.2.1 : Int))) := by rw [Hid, ← h9e.out]; rfl
  have q9 := ((HY7.out wc HB.out).2 9 _ rfl).1
  have q7 := ((HY7.out wc HB.out).2 7 _ rfl).1
  go_upto_if 53 with fail
  clear q9 q7 HB
  rw [hbo.out] at HT
  clear hbo
  go_cut [5] (fun o wx => Hid (OutR RInt 1 W7 wx 3 o (yes ((whyR y x).take 5))))
  case first =>
    cases hv : decide (x.1.2.2.2.2.2.1 ≤ (h9.2.1 : Int))
    · rw [hv, if_neg (by decide), List.append_nil] at HT
      go_wp2_with fail
      go_meet
      exact HT.out ▸ HRo.out
    · rw [hv, if_pos rfl] at HT
      go_wp2_with (at_builtin; go_must (refine app_out RInt.firm RInt.flat (A := fun _ => False) (w0 := W7) rfl _ _ 28 3 rfl _ 8 infoint Try.underlying28 rfl (by decide) (by decide) _ _ rfl (HRo.out.on7 (by go_grown)) (some ⟨wc.heap.size, 0, none⟩) 1 1 [5] rfl (one_src _ _ _) (by have := hyl.out; simp only [List.length_cons, List.length_nil]; omega) ?_); intro v1 w1 hrow1)
      go_wp2_with fail
      go_meet
      exact HT.out ▸ hrow1
  case rest =>
  clear HRo HT hyl
  have HRo : Hid (OutR RInt 1 W7 wc 3 u5 (yes ((whyR y x).take 5))) := hcut
  clear hcut
  have HB : Hid (Below W7.heap.size W7 wc) := HRo.out.below
  have hyl : Hid ((yes ((whyR y x).take 5)).length ≤ 8) := yes_len (y := y) (x := x) 5
  have HT : Hid (yes ((whyR y x).take 6) = yes ((whyR y x).take 5) ++ (if reaB y x 5 = true then [6] else [])) := yes_take (y := y) (x := x) (k := 5) (by omega)
  have hbo : Hid (reaB y x 5 = decide (fa < clampI y.2.2.2.1.1)) := by
    have e : (freeP x).1 = fa := by rw [hfr]
    rw [Hid, ← e]; rfl
  have qa := ((HX7.out wc HB.out).2 3 _ rfl).1
  have qb := ((HD7.out wc HB.out).2 0 _ rfl).1
  have wcl := (HX7.out wc HB.out).1
  go_upto_region 14 with fail
  go_cut [63] (fun b wx => b = .bool (decide (fa < clampI y.2.2.2.1.1)) ∧ Hid (Below wc.heap.size wc wx))
  case first =>
    go_big_quiet (exact Calls.quiet_of_same (rclamp_calls _ _))
    go_wp2_with fail
    go_meet
    exact ⟨rfl, below_drewN (Below.refl _ _) _⟩
  case rest =>
  obtain ⟨rfl, hb8⟩ := hcut
  have HR8 : Hid (OutR RInt 1 W7 wc 3 u5 (yes ((whyR y x).take 5))) := HRo.out.on7 hb8.out
  clear HRo qa qb hb8 HB wcl
  have HRo := HR8
  clear HR8
  go_upto_if 63 with fail
  rw [hbo.out] at HT
  clear hbo
  go_cut [5] (fun o wx => Hid (OutR RInt 1 W7 wx 3 o (yes ((whyR y x).take 6))))
  case first =>
    cases hv : decide (fa < clampI y.2.2.2.1.1)
    · rw [hv, if_neg (by decide), List.append_nil] at HT
      go_wp2_with fail
      go_meet
      exact HT.out ▸ HRo.out
    · rw [hv, if_pos rfl] at HT
      go_wp2_with (at_builtin; go_must (refine app_out RInt.firm RInt.flat (A := fun _ => False) (w0 := W7) rfl _ _ 28 3 rfl _ 8 infoint Try.underlying28 rfl (by decide) (by decide) _ _ rfl (HRo.out.on7 (by go_grown)) (some ⟨wc.heap.size, 0, none⟩) 1 1 [6] rfl (one_src _ _ _) (by have := hyl.out; simp only [List.length_cons, List.length_nil]; omega) ?_); intro v1 w1 hrow1)
      go_wp2_with fail
      go_meet
      exact HT.out ▸ hrow1
  case rest =>
  clear HRo HT hyl
  have HRo : Hid (OutR RInt 1 W7 wc 3 u5 (yes ((whyR y x).take 6))) := hcut
  clear hcut
  have HB : Hid (Below W7.heap.size W7 wc) := HRo.out.below
  have hyl : Hid ((yes ((whyR y x).take 6)).length ≤ 8) := yes_len (y := y) (x := x) 6
  have HT : Hid (yes ((whyR y x).take 7) = yes ((whyR y x).take 6) ++ (if reaB y x 6 = true then [7] else [])) := yes_take (y := y) (x := x) (k := 6) (by omega)
  have hbo : Hid (reaB y x 6 = decide (fb < clampI y.2.2.2.1.2.1)) := by
    have e : (freeP x).2.1 = fb := by rw [hfr]
    rw [Hid, ← e]; rfl
  have qa := ((HX7.out wc HB.out).2 4 _ rfl).1
  have qb := ((HD7.out wc HB.out).2 1 _ rfl).1
  have wcl := (HX7.out wc HB.out).1
  go_upto_region 16 with fail
  go_cut [73] (fun b wx => b = .bool (decide (fb < clampI y.2.2.2.1.2.1)) ∧ Hid (Below wc.heap.size wc wx))
  case first =>
    go_big_quiet (exact Calls.quiet_of_same (rclamp_calls _ _))
    go_wp2_with fail
    go_meet
    exact ⟨rfl, below_drewN (Below.refl _ _) _⟩
  case rest =>
  obtain ⟨rfl, hb8⟩ := hcut
  have HR8 : Hid (OutR RInt 1 W7 wc 3 u5 (yes ((whyR y x).take 6))) := HRo.out.on7 hb8.out
  clear HRo qa qb hb8 HB wcl
  have HRo := HR8
  clear HR8
  go_upto_if 73 with fail
  rw [hbo.out] at HT
  clear hbo
  go_cut [5] (fun o wx => Hid (OutR RInt 1 W7 wx 3 o (yes ((whyR y x).take 7))))
  case first =>
    cases hv : decide (fb < clampI y.2.2.2.1.2.1)
    · rw [hv, if_neg (by decide), List.append_nil] at HT
      go_wp2_with fail
      go_meet
      exact HT.out ▸ HRo.out
    · rw [hv, if_pos rfl] at HT
      go_wp2_with (at_builtin; go_must (refine app_out RInt.firm RInt.flat (A := fun _ => False) (w0 := W7) rfl _ _ 28 3 rfl _ 8 infoint Try.underlying28 rfl (by decide) (by decide) _ _ rfl (HRo.out.on7 (by go_grown)) (some ⟨wc.heap.size, 0, none⟩) 1 1 [7] rfl (one_src _ _ _) (by have := hyl.out; simp only [List.length_cons, List.length_nil]; omega) ?_); intro v1 w1 hrow1)
      go_wp2_with fail
      go_meet
      exact HT.out ▸ hrow1
  case rest =>
  clear HRo HT hyl
  have HRo : Hid (OutR RInt 1 W7 wc 3 u5 (yes ((whyR y x).take 7))) := hcut
  clear hcut
  have HB : Hid (Below W7.heap.size W7 wc) := HRo.out.below
  have hyl : Hid ((yes ((whyR y x).take 7)).length ≤ 8) := yes_len (y := y) (x := x) 7
  have HT : Hid (yes ((whyR y x).take 8) = yes ((whyR y x).take 7) ++ (if reaB y x 7 = true then [8] else [])) := yes_take (y := y) (x := x) (k := 7) (by omega)
  have hbo : Hid (reaB y x 7 = decide (fc < clampI y.2.2.2.1.2.2)) := by
    have e : (freeP x).2.2 = fc := by rw [hfr]
    rw [Hid, ← e]; rfl
  have qa := ((HX7.out wc HB.out).2 5 _ rfl).1
  have qb := ((HD7.out wc HB.out).2 2 _ rfl).1
  have wcl := (HX7.out wc HB.out).1
  go_upto_region 18 with fail
  go_cut [83] (fun b wx => b = .bool (decide (fc < clampI y.2.2.2.1.2.2)) ∧ Hid (Below wc.heap.size wc wx))
  case first =>
    go_big_quiet (exact Calls.quiet_of_same (rclamp_calls _ _))
    go_wp2_with fail
    go_meet
    exact ⟨rfl, below_drewN (Below.refl _ _) _⟩
  case rest =>
  obtain ⟨rfl, hb8⟩ := hcut
  have HR8 : Hid (OutR RInt 1 W7 wc 3 u5 (yes ((whyR y x).take 7))) := HRo.out.on7 hb8.out
  clear HRo qa qb hb8 HB wcl
  have HRo := HR8
  clear HR8
  go_upto_if 83 with fail
  rw [hbo.out] at HT
  clear hbo
  go_cut [5] (fun o wx => Hid (OutR RInt 1 W7 wx 3 o (yes ((whyR y x).take 8))))
  case first =>
    cases hv : decide (fc < clampI y.2.2.2.1.2.2)
    · rw [hv, if_neg (by decide), List.append_nil] at HT
      go_wp2_with fail
      go_meet
      exact HT.out ▸ HRo.out
    · rw [hv, if_pos rfl] at HT
      go_wp2_with (at_builtin; go_must (refine app_out RInt.firm RInt.flat (A := fun _ => False) (w0 := W7) rfl _ _ 28 3 rfl _ 8 infoint Try.underlying28 rfl (by decide) (by decide) _ _ rfl (HRo.out.on7 (by go_grown)) (some ⟨wc.heap.size, 0, none⟩) 1 1 [8] rfl (one_src _ _ _) (by have := hyl.out; simp only [List.length_cons, List.length_nil]; omega) ?_); intro v1 w1 hrow1)
      go_wp2_with fail
      go_meet
      exact HT.out ▸ hrow1
  case rest =>
  clear HRo HT hyl
  have HRo : Hid (OutR RInt 1 W7 wc 3 u5 (yes ((whyR y x).take 8))) := hcut
  clear hcut
  have HB : Hid (Below W7.heap.size W7 wc) := HRo.out.below
  have hr8 : OutR RInt 1 W7 wc 3 u5 (whyL y x) := HRo.out
  have hlen : (whyL y x).length ≤ 8 := yes_len (y := y) (x := x) 8
  have hbf : Below w.heap.size w wc := on2 B7.out HB.out
  obtain ⟨a, n, cap, e5, s5⟩ := out_sl (w := w) hr8 hlen B7.out.size
  subst e5
  have S5 : Hid (SlAt RInt 1 8 (Fresh w) wc a n cap (whyL y x)) := s5
  clear hr8 s5 hlen HRo HB
  go_wp2_with fail
  go_ret
  exact ⟨a, n, cap, rfl, S5.out, hbf⟩
end Go.Proofs.Ytbcclfiopebmpaa
namespace Go.Proofs.Ytbcclfiopebmpaa
open Go.RowKit
set_option linter.unusedSimpArgs false
set_option maxRecDepth 100000

set_option maxHeartbeats 8000000 in
theorem rCheck_calls7 (ds cs : List Value) (A : Where) (y : PodD) (x : InfoD) (w : World) (h : Hid (RPod A w ds y)) (h' : Hid (RInfo A w cs x)) : Calls Try.prog 8 #[.agg ds.toArray, .agg cs.toArray] w fun e w' => e = .returned (.int .i64 (why1 y x)) ∧ Below w.heap.size w w' := by
  have hiP : (Try.prog.info? 33).map (·.size) = some ds.length := by rw [RPod.firm.len h.out]; exact sizePod7
  have hiI : (Try.prog.info? 38).map (·.size) = some cs.length := by rw [RInfo.firm.len h'.out]; exact sizeInfo7
  obtain ⟨W2, hW2⟩ : ∃ W2, W2 = (w.alloc (.cells ds.toArray 33)).alloc (.cells cs.toArray 38) := ⟨_, rfl⟩
  have B2 : Hid (Below w.heap.size w W2) := by rw [Hid, hW2]; go_grown
  have HX : Hid (BoxL W2 w.heap.size ds) := by rw [hW2]; exact (BoxL.new w 33 ds).on ((Below.refl _ _).alloc (Nat.le_refl _) _)
  have HY : Hid (BoxL W2 (w.heap.size + 1) cs) := by have h1 := BoxL.new (w.alloc (.cells ds.toArray 33)) 38 cs; rw [Hid, hW2]; simpa using h1
  have hV := rAll_calls ds cs A y x W2 (RPod.firm.kept h.out (Kept.below B2.out)) (RInfo.firm.kept h'.out (Kept.below B2.out))
  have HW2 : Hid (W2 = (w.alloc (.cells ds.toArray 33)).alloc (.cells cs.toArray 38)) := hW2
  clear h h' hW2
  go_enter Try.func8, Try.ntmps8
  go_wp2_with (first | (refine wpl_w HW2.out ?_; refine wpList_load_mid rfl 33 _ rfl w.heap.size 0 rfl ds _ HX.out.range Try.underlying33 rfl hiP ?_) | (refine wpList_load_mid rfl 38 _ rfl (w.heap.size + 1) 0 rfl cs _ HY.out.range Try.underlying38 rfl hiI ?_) | fail)
  refine hV.mono ?_
  rintro e w3 ⟨a, n, cap, rfl, hs, hb3⟩
  have hb := on2 B2.out hb3
  clear hV HW2 HX HY hb3
  have HE : Hid (why1 y x = (whyL y x).headD 0) := rfl
  generalize whyL y x = R at hs HE
  cases R with
  | nil =>
    obtain rfl : n = 0 := by have := hs.1; simpa using this.symm
    clear hs
    go_wp2_with fail
    go_ret
    exact ⟨ret_int HE.out.symm, hb⟩
  | cons r rs =>
    have hn : 0 < n := by have := hs.1; rw [← this]; simp
    obtain ⟨B, off, rfl, _, _, hc⟩ := hs.2.2.2.2 hn
    obtain ⟨cs', hr, hv⟩ := hc 0 hn
    have e1 : cs' = [.int .i64 r] := hr
    subst e1
    have d0 := hv 0 _ rfl
    simp only [Nat.zero_mul, Nat.add_zero] at d0
    have hnz : ((n : Int) == 0) = false := by simp; omega
    have hn2 : (0 : Int) < (n : Int) := by omega
    clear hs hc hv hr
    go_wp2_with fail
    go_ret
    exact ⟨ret_int HE.out.symm, hb⟩
end Go.Proofs.Ytbcclfiopebmpaa
namespace Go.Proofs.Ytbcclfiopebmpaa
open Go.RowKit
set_option linter.unusedSimpArgs false
set_option maxRecDepth 100000

abbrev NeD (w : World) : Where := fun b => b ≠ w.heap.size + 1
structure MoSt (w u : World) (ds : List Value) (n0 n1 n2 n3 n4 n5 n6 n7 n8 : Value) (x1 : NodeD) (h9 : Hd) (nms : List ByteArray) (us : ResD) (h13 : Hd) (pts : List Int) (h14 : Hd) (dks : List ByteArray) : Prop where
  b : Below w.heap.size w u
  p : BoxL u w.heap.size ds
  i : BoxL u (w.heap.size + 1) [n0, n1, n2, n3, n4, n5, n6, n7, n8, .slice h9.1 h9.2.1 h9.2.2, .int .i64 us.1, .int .i64 us.2.1, .int .i64 us.2.2, .slice h13.1 h13.2.1 h13.2.2, .slice h14.1 h14.2.1 h14.2.2]
  rn : RNode (NeD w) u [n0, n1, n2, n3, n4, n5, n6, n7, n8] x1
  r9 : SlAt RStr 1 16 (NeD w) u h9.1 h9.2.1 h9.2.2 nms
  r13 : SlAt RInt 1 8 (NeD w) u h13.1 h13.2.1 h13.2.2 pts
  r14 : SlAt RStr 1 16 (NeD w) u h14.1 h14.2.1 h14.2.2 dks
theorem MoSt.on {w u : World} {ds : List Value} {n0 n1 n2 n3 n4 n5 n6 n7 n8 : Value} {x1 : NodeD} {h9 : Hd} {nms : List ByteArray} {us : ResD} {h13 : Hd} {pts : List Int} {h14 : Hd} {dks : List ByteArray} {u' : World} (h : MoSt w u ds n0 n1 n2 n3 n4 n5 n6 n7 n8 x1 h9 nms us h13 pts h14 dks) (hb : Below u.heap.size u u') : MoSt w u' ds n0 n1 n2 n3 n4 n5 n6 n7 n8 x1 h9 nms us h13 pts h14 dks :=
  ⟨on2 h.b hb, h.p.on hb, h.i.on hb, RNode.firm.kept h.rn (Kept.below hb), h.r9.on RStr.firm hb, h.r13.on RInt.firm hb, h.r14.on RStr.firm hb⟩
theorem MoSt.info {w u : World} {ds : List Value} {n0 n1 n2 n3 n4 n5 n6 n7 n8 : Value} {x1 : NodeD} {h9 : Hd} {nms : List ByteArray} {us : ResD} {h13 : Hd} {pts : List Int} {h14 : Hd} {dks : List ByteArray} (h : MoSt w u ds n0 n1 n2 n3 n4 n5 n6 n7 n8 x1 h9 nms us h13 pts h14 dks) : RInfo (fun _ => True) u [n0, n1, n2, n3, n4, n5, n6, n7, n8, .slice h9.1 h9.2.1 h9.2.2, .int .i64 us.1, .int .i64 us.2.1, .int .i64 us.2.2, .slice h13.1 h13.2.1 h13.2.2, .slice h14.1 h14.2.1 h14.2.2] (x1, nms, us, pts, dks) := by
  have t : ∀ {α : Type} [Inhabited α] {R : Rep α} {k bytes : Nat} {a : Option Addr} {n c : Nat} {L : List α}, Firm R k → SlAt R k bytes (NeD w) u a n c L → SlAt R k bytes (fun _ => True) u a n c L := fun hR hs => hs.weak hR (fun _ _ _ => trivial)
  exact ⟨[n0, n1, n2, n3, n4, n5, n6, n7, n8], _, rfl, RNode.firm.weak h.rn (fun _ _ _ => trivial), [.slice h9.1 h9.2.1 h9.2.2], _, rfl, ⟨_, _, _, rfl, t RStr.firm h.r9⟩, [.int .i64 us.1, .int .i64 us.2.1, .int .i64 us.2.2], _, rfl, ⟨[.int .i64 us.1], _, rfl, rfl, [.int .i64 us.2.1], _, rfl, rfl, rfl⟩, [.slice h13.1 h13.2.1 h13.2.2], _, rfl, ⟨_, _, _, rfl, t RInt.firm h.r13⟩, ⟨_, _, _, rfl, t RStr.firm h.r14⟩⟩
theorem below_setD {w u : World} (h : Below w.heap.size w u) {p : Addr} (hp : p.block = w.heap.size + 1) (v : Value) : Below w.heap.size w (u.setCell p v) := h.setCell (by omega) v
theorem kept_setD {w u : World} {p : Addr} (hp : p.block = w.heap.size + 1) (v : Value) : Kept (NeD w) u (u.setCell p v) := Kept.set (fun h => h hp) v
theorem MoSt.set9 {w u : World} {ds : List Value} {n0 n1 n2 n3 n4 n5 n6 n7 n8 : Value} {x1 : NodeD} {h9 : Hd} {nms : List ByteArray} {us : ResD} {h13 : Hd} {pts : List Int} {h14 : Hd} {dks : List ByteArray} (h : MoSt w u ds n0 n1 n2 n3 n4 n5 n6 n7 n8 x1 h9 nms us h13 pts h14 dks) {a : Option Addr} {n c : Nat} {N : List ByteArray} (hs : SlAt RStr 1 16 (NeD w) u a n c N) : MoSt w (u.setCell ⟨w.heap.size + 1, 9, none⟩ (.slice a n c)) ds n0 n1 n2 n3 n4 n5 n6 n7 n8 x1 (a, n, c) N us h13 pts h14 dks :=
  have k := kept_setD (u := u) (p := ⟨w.heap.size + 1, 9, none⟩) rfl (.slice a n c)
  ⟨below_setD h.b rfl _, h.p.other (by simp) _, h.i.set 9 _ (by simp), RNode.firm.kept h.rn k, hs.kept RStr.firm k, h.r13.kept RInt.firm k, h.r14.kept RStr.firm k⟩
theorem MoSt.set13 {w u : World} {ds : List Value} {n0 n1 n2 n3 n4 n5 n6 n7 n8 : Value} {x1 : NodeD} {h9 : Hd} {nms : List ByteArray} {us : ResD} {h13 : Hd} {pts : List Int} {h14 : Hd} {dks : List ByteArray} (h : MoSt w u ds n0 n1 n2 n3 n4 n5 n6 n7 n8 x1 h9 nms us h13 pts h14 dks) {a : Option Addr} {n c : Nat} {N : List Int} (hs : SlAt RInt 1 8 (NeD w) u a n c N) : MoSt w (u.setCell ⟨w.heap.size + 1, 13, none⟩ (.slice a n c)) ds n0 n1 n2 n3 n4 n5 n6 n7 n8 x1 h9 nms us (a, n, c) N h14 dks :=
  have k := kept_setD (u := u) (p := ⟨w.heap.size + 1, 13, none⟩) rfl (.slice a n c)
  ⟨below_setD h.b rfl _, h.p.other (by simp) _, h.i.set 13 _ (by simp), RNode.firm.kept h.rn k, h.r9.kept RStr.firm k, hs.kept RInt.firm k, h.r14.kept RStr.firm k⟩
theorem MoSt.setU {w u : World} {ds : List Value} {n0 n1 n2 n3 n4 n5 n6 n7 n8 : Value} {x1 : NodeD} {h9 : Hd} {nms : List ByteArray} {us : ResD} {h13 : Hd} {pts : List Int} {h14 : Hd} {dks : List ByteArray} (h : MoSt w u ds n0 n1 n2 n3 n4 n5 n6 n7 n8 x1 h9 nms us h13 pts h14 dks) (va vb vc : Int) : MoSt w (((u.setCell ⟨w.heap.size + 1, 10, none⟩ (.int .i64 va)).setCell ⟨w.heap.size + 1, 11, none⟩ (.int .i64 vb)).setCell ⟨w.heap.size + 1, 12, none⟩ (.int .i64 vc)) ds n0 n1 n2 n3 n4 n5 n6 n7 n8 x1 h9 nms (va, vb, vc) h13 pts h14 dks :=
  have k := ((kept_setD (u := u) (p := ⟨w.heap.size + 1, 10, none⟩) rfl (.int .i64 va)).trans (kept_setD (p := ⟨w.heap.size + 1, 11, none⟩) rfl (.int .i64 vb))).trans (kept_setD (p := ⟨w.heap.size + 1, 12, none⟩) rfl (.int .i64 vc))
  ⟨below_setD (below_setD (below_setD h.b rfl _) rfl _) rfl _, ((h.p.other (by simp) _).other (by simp) _).other (by simp) _, ((h.i.set 10 _ (by simp)).set 11 _ (by simp)).set 12 _ (by simp), RNode.firm.kept h.rn k, h.r9.kept RStr.firm k, h.r13.kept RInt.firm k, h.r14.kept RStr.firm k⟩
end Go.Proofs.Ytbcclfiopebmpaa
namespace Go.Proofs.Ytbcclfiopebmpaa
open Go.RowKit
set_option linter.unusedSimpArgs false
set_option maxRecDepth 100000

theorem has_app (L M : List Int) (q : Int) : hasB iEq (L ++ M) q = (hasB iEq L q || hasB iEq M q) := by simp [hasB]
theorem Like.step {p : PodD} {i j : InfoD} {n : Nat} (h : Like p i n j) (s : ByteArray) : Like p i (n + 1) (j.1, j.2.1 ++ [s], plusR j.2.2.1 (pWant p), j.2.2.2.1 ++ pPorts p, j.2.2.2.2) := by
  obtain ⟨h1, h2, h3, h4⟩ := h
  refine ⟨h1, by simp [h2]; omega, by rw [itR_succ, ← h3], fun q => ?_⟩
  show hasB iEq (j.2.2.2.1 ++ pPorts p) q = _
  rw [has_app, h4 q]
  cases hasB iEq i.2.2.2.1 q <;> cases hasB iEq (pPorts p) q <;> simp
/-- What the loop knows behind n rounds. -/
def MoInv (y : PodD) (x : InfoD) (n : Nat) (j : InfoD) : Prop := Like y x n j ∧ ((n = 0 ∧ j = x) ∨ (why1 y x = 0 ∧ (n : Int) ≤ roomP y x))
theorem MoInv.zero (y : PodD) (x : InfoD) : MoInv y x 0 x := ⟨Like.zero y x, .inl ⟨rfl, rfl⟩⟩
theorem MoInv.step {y : PodD} {x j : InfoD} {n : Nat} (h : MoInv y x n j) (hn : n ≤ 1000) (h0 : why1 y j = 0) (s : ByteArray) : MoInv y x (n + 1) (j.1, j.2.1 ++ [s], plusR j.2.2.1 (pWant y), j.2.2.2.1 ++ pPorts y, j.2.2.2.2) := by
  refine ⟨h.1.step s, .inr ?_⟩
  rcases h.2 with ⟨rfl, rfl⟩ | ⟨h1, _⟩
  · have := (room_iff (Like.zero y j) (by omega) h0).1 h0
    exact ⟨h0, by omega⟩
  · have := (room_iff h.1 hn h1).1 h0
    exact ⟨h1, by omega⟩
theorem MoInv.full {y : PodD} {x j : InfoD} {n : Nat} {lim : Int} (h : MoInv y x n j) (he : (n : Int) = max 0 (min lim 1000)) : mostP y x lim = n := by
  unfold mostP
  rcases h.2 with ⟨rfl, rfl⟩ | ⟨h1, h2⟩
  · split
    · rename_i h0
      have := (room_iff (Like.zero y j) (by omega) h0).1 h0
      omega
    · rfl
  · rw [if_pos h1]; omega
theorem MoInv.stop {y : PodD} {x j : InfoD} {n : Nat} {lim : Int} (h : MoInv y x n j) (hlt : (n : Int) < max 0 (min lim 1000)) (hs : ¬ why1 y j = 0) : mostP y x lim = n := by
  unfold mostP
  rcases h.2 with ⟨rfl, rfl⟩ | ⟨h1, h2⟩
  · rw [if_neg hs]; rfl
  · rw [if_pos h1]
    have := mt (room_iff h.1 (by omega) h1).2 hs
    omega
def MoS (w : World) (P I : List Value) (u : World) : Prop := BoxL u w.heap.size P ∧ BoxL u (w.heap.size + 1) I
set_option maxHeartbeats 16000000 in
theorem rMost_calls (ds cs : List Value) (A : Where) (y : PodD) (x : InfoD) (lim : Int) (w : World) (h : Hid (RPod A w ds y)) (h' : Hid (RInfo A w cs x)) (hB : Hid (x.2.1.length ≤ 1048576 ∧ x.2.2.2.1.length ≤ 1048576 ∧ (pPorts y).length ≤ 1048576)) : Calls Try.prog 15 #[.agg ds.toArray, .agg cs.toArray, .int .i64 lim] w fun e w' => e = .returned (.int .i64 (mostP y x lim)) ∧ Below w.heap.size w w' := by
  have HP : Hid (∀ u, Below w.heap.size w u → RPod (fun _ => True) u ds y) := fun u hb => RPod.firm.kept (RPod.firm.weak h.out (fun _ _ _ => trivial)) (Kept.below hb)
  obtain ⟨_, _, _, _, g9, _, _, _, _, hpc, _, _, _, _, _, p9, _⟩ := h.out.out
  have H9 : Hid (∀ u, Below w.heap.size w u → SlAt RInt 1 8 A u g9.1 g9.2.1 g9.2.2 (pPorts y)) := fun u hb => p9.on RInt.firm hb
  obtain ⟨wa, hwa⟩ : ∃ wa, wa = (pWant y).1 := ⟨_, rfl⟩
  obtain ⟨wb, hwb⟩ : ∃ wb, wb = (pWant y).2.1 := ⟨_, rfl⟩
  obtain ⟨wc, hwc⟩ : ∃ wc, wc = (pWant y).2.2 := ⟨_, rfl⟩
  have HWt : Hid (pWant y = (wa, wb, wc)) := by rw [Hid, hwa, hwb, hwc]
  have HD3 : Hid (ds[3]? = some (.int .i64 wa)) := by rw [Hid, hpc, hwa]; rfl
  have HD4 : Hid (ds[4]? = some (.int .i64 wb)) := by rw [Hid, hpc, hwb]; rfl
  have HD5 : Hid (ds[5]? = some (.int .i64 wc)) := by rw [Hid, hpc, hwc]; rfl
  have HD9 : Hid (ds[9]? = some (.slice g9.1 g9.2.1 g9.2.2)) := by rw [Hid, hpc]; rfl
  clear hpc hwa hwb hwc
  obtain ⟨x1, nms0, us0, pts0, dks⟩ := x
  obtain ⟨cn, r, rfl, hn, c9, r2, rfl, ⟨b9, l9, k9, rfl, s9⟩, c10, r3, rfl, h10, c13, c14, rfl, ⟨b13, l13, k13, rfl, s13⟩, b14, l14, k14, rfl, s14⟩ := h'.out
  have e10 := RRes.out h10
  subst e10
  obtain ⟨_, _, en, _⟩ := hn.out
  obtain ⟨n0, n1, n2, n3, n4, n5, n6, n7, n8, ecn⟩ : ∃ n0 n1 n2 n3 n4 n5 n6 n7 n8, cn = [n0, n1, n2, n3, n4, n5, n6, n7, n8] := ⟨_, _, _, _, _, _, _, _, _, en⟩
  clear en
  subst ecn
  have ne : ∀ b, b < w.heap.size → A b → NeD w b := fun b hb _ => by show b ≠ _; omega
  have hiP : (Try.prog.info? 33).map (·.size) = some ds.length := by rw [RPod.firm.len h.out]; exact sizePod7
  obtain ⟨W2, hW2⟩ : ∃ W2, W2 = (w.alloc (.cells ds.toArray 33)).alloc (.cells #[n0, n1, n2, n3, n4, n5, n6, n7, n8, .slice (b9, l9, k9).1 (b9, l9, k9).2.1 (b9, l9, k9).2.2, .int .i64 us0.1, .int .i64 us0.2.1, .int .i64 us0.2.2, .slice (b13, l13, k13).1 (b13, l13, k13).2.1 (b13, l13, k13).2.2, .slice (b14, l14, k14).1 (b14, l14, k14).2.1 (b14, l14, k14).2.2] 38) := ⟨_, rfl⟩
  have b2 : Below w.heap.size w W2 := by rw [hW2]; go_grown
  obtain ⟨h14, hh14⟩ : ∃ h14 : Hd, h14 = (b14, l14, k14) := ⟨_, rfl⟩
  have HM0 : Hid (MoSt w W2 ds n0 n1 n2 n3 n4 n5 n6 n7 n8 x1 (b9, l9, k9) nms0 us0 (b13, l13, k13) pts0 h14 dks) := by
    refine ⟨b2, ?_, ?_, RNode.firm.kept (RNode.firm.weak hn ne) (Kept.below b2), (s9.weak RStr.firm ne).on RStr.firm b2, (s13.weak RInt.firm ne).on RInt.firm b2, ?_⟩
    · rw [hW2]; exact (BoxL.new w 33 ds).on ((Below.refl _ _).alloc (Nat.le_refl _) _)
    · have h1 := BoxL.new (w.alloc (.cells ds.toArray 33)) 38 [n0, n1, n2, n3, n4, n5, n6, n7, n8, .slice (b9, l9, k9).1 (b9, l9, k9).2.1 (b9, l9, k9).2.2, .int .i64 us0.1, .int .i64 us0.2.1, .int .i64 us0.2.2, .slice (b13, l13, k13).1 (b13, l13, k13).2.1 (b13, l13, k13).2.2, .slice (b14, l14, k14).1 (b14, l14, k14).2.1 (b14, l14, k14).2.2]
      rw [hW2, hh14]; simpa using h1
    · rw [hh14]; exact (s14.weak RStr.firm ne).on RStr.firm b2
  have HW2 : Hid (W2 = (w.alloc (.cells ds.toArray 33)).alloc (.cells #[n0, n1, n2, n3, n4, n5, n6, n7, n8, .slice (b9, l9, k9).1 (b9, l9, k9).2.1 (b9, l9, k9).2.2, .int .i64 us0.1, .int .i64 us0.2.1, .int .i64 us0.2.2, .slice (b13, l13, k13).1 (b13, l13, k13).2.1 (b13, l13, k13).2.2, .slice (b14, l14, k14).1 (b14, l14, k14).2.1 (b14, l14, k14).2.2] 38)) := hW2
  have hpl : Hid ((pPorts y).length ≤ 1048576) := hB.out.2.2
  have hB1 : Hid (nms0.length ≤ 1048576) := hB.out.1
  have hB2 : Hid (pts0.length ≤ 1048576) := hB.out.2.1
  clear h h' hn s9 s13 s14 hW2 b2 ne hB hh14 h10 p9
  obtain ⟨lm, hlm⟩ : ∃ lm, lm = max 0 (min lim 1000) := ⟨_, rfl⟩
  have HLM : Hid (lm = max 0 (min lim 1000)) := hlm
  have hl0 : Hid (0 ≤ lm ∧ lm ≤ 1000) := by rw [Hid, hlm]; omega
  have hlm' : max 0 (min lim 1000) = lm := hlm.symm
  clear hlm
  go_enter Try.func15, Try.ntmps15
  go_wp2_with fail
  rw [← HW2.out]
  clear HW2
  go_loopw [7] (fun i wr => ∃ (k : Nat) (h9 : Hd) (nms : List ByteArray) (us : ResD) (h13 : Hd) (pts : List Int), i = .int .i64 k ∧ (k : Int) ≤ lm ∧ Hid (MoSt w wr ds n0 n1 n2 n3 n4 n5 n6 n7 n8 x1 h9 nms us h13 pts h14 dks) ∧ Hid (MoInv y (x1, nms0, us0, pts0, dks) k (x1, nms, us, pts, dks)) ∧ Hid (pts.length ≤ 1048576 * (k + 1))) (fun i _ => 1000 - (intOf i).toNat)
  case atStart => exact ⟨0, _, _, _, _, _, rfl, hl0.out.1, HM0, MoInv.zero _ _, by have := hB2.out; rw [Hid]; omega⟩
  case round =>
    obtain ⟨k, h9, nms, us, h13, pts, rfl, hk, HM, HV, HPL⟩ := hrel
    have hk2 := hl0.out
    by_cases hlt : (k : Int) < lm
    · have hiI : (Try.prog.info? 38).map (·.size) = some ([n0, n1, n2, n3, n4, n5, n6, n7, n8, .slice h9.1 h9.2.1 h9.2.2, .int .i64 us.1, .int .i64 us.2.1, .int .i64 us.2.2, .slice h13.1 h13.2.1 h13.2.2, .slice h14.1 h14.2.1 h14.2.2] : List Value).length := sizeInfo7
      have hC := rCheck_calls7 ds [n0, n1, n2, n3, n4, n5, n6, n7, n8, .slice h9.1 h9.2.1 h9.2.2, .int .i64 us.1, .int .i64 us.2.1, .int .i64 us.2.2, .slice h13.1 h13.2.1 h13.2.2, .slice h14.1 h14.2.1 h14.2.2] (fun _ => True) y (x1, nms, us, pts, dks) wr (HP.out _ HM.out.b) HM.out.info
      by_cases h0 : why1 y (x1, nms, us, pts, dks) = 0
      · rw [h0] at hC
        have HV2 : Hid (MoInv y (x1, nms0, us0, pts0, dks) (k + 1) (x1, nms ++ [⟨#[]⟩], plusR us (wa, wb, wc), pts ++ pPorts y, dks)) := by have := HV.out.step (by omega) h0 ⟨#[]⟩; rw [HWt.out] at this; exact this
        have hnl : Hid (nms.length ≤ 1048576 + 1000) := by have h1 := HV.out.1.2.1; have h2 := hB1.out; simp only at h1; rw [Hid]; omega
        clear h0 HV
        go_wp2_with (first | (refine load_w7 (by rfl) 33 _ rfl w.heap.size 0 rfl ds _ HM.out.p.range Try.underlying33 rfl hiP ?_) | (refine load_w7 (by rfl) 38 _ rfl (w.heap.size + 1) 0 rfl [n0, n1, n2, n3, n4, n5, n6, n7, n8, .slice h9.1 h9.2.1 h9.2.2, .int .i64 us.1, .int .i64 us.2.1, .int .i64 us.2.2, .slice h13.1 h13.2.1 h13.2.2, .slice h14.1 h14.2.1 h14.2.2] _ HM.out.i.range Try.underlying38 rfl hiI ?_) | fail)
        refine hC.mono ?_
        rintro e w1 ⟨rfl, hb1⟩
        have HM1 : Hid (MoSt w w1 ds n0 n1 n2 n3 n4 n5 n6 n7 n8 x1 h9 nms us h13 pts h14 dks) := HM.out.on hb1
        clear hC hb1 HM
        have q9 := (HM1.out.i.2 9 _ rfl).1
        have hd1 : w.heap.size + 1 < w1.heap.size := HM1.out.i.1
        have hd2 : w.heap.size + 1 ≠ w1.heap.size := by omega
        have hb5 : Below w1.heap.size w1 (w1.alloc (.cells #[] 9)) := by go_grown
        have HR : Hid (Row RStr 1 (fun _ => False) w1 (w1.alloc (.cells #[] 9)) 9 (.slice (some ⟨w1.heap.size, 0, none⟩) 0 0) []) := Row.start _ w1 w1 _ (Below.refl _ _)
        have HN : Hid (Src RStr 1 (fun b => False ∧ Value.ownBlock (.slice (some ⟨w1.heap.size, 0, none⟩) 0 0) ≠ some b) (w1.alloc (.cells #[] 9)) h9.1 h9.2.1 nms) := ((HM1.out.r9.on RStr.firm hb5).src RStr.firm).flat RStr.flat
        have HB : Hid ((([] : List ByteArray).length + nms.length) * 16 ≤ 140737488355328) := by have h1 := hnl.out; rw [Hid]; simp; omega
        clear hb5
        go_upto_region 6 with (first | (at_builtin; (refine row_append RStr.firm (A := (fun _ => False)) (w0 := w1) rfl _ _ 31 9 rfl _ 16 infostr Try.underlying31 rfl (by decide) (by decide) _ _ rfl (hrow1.on RStr.firm (by go_grown)) ⟨w2.heap.size, 0, none⟩ 1 1 [.string ⟨#[]⟩] [⟨#[]⟩] rfl rfl (chunk_one RStr.firm ⟨rfl, by decide⟩) (one_cells w2 [.string ⟨#[]⟩] 9) (by simp [Value.oneCell']) (by have h1 := hnl.out; simp only [List.nil_append, List.length_cons, List.length_nil]; omega) ?_); intro v2 w3 hrow2 hg2; (obtain ⟨a2, c2, e2, s2⟩ := hrow2.sl (bytes := 16) RStr.firm (by have h1 := hnl.out; simp; omega)); subst e2; (obtain ⟨z9, f9⟩ := (HM1.out.on hrow2.below).i.2 9 _ rfl)) | (at_builtin; (refine row_appendS RStr.firm (A := (fun _ => False)) (w0 := w1) rfl _ _ 31 9 rfl _ 16 infostr Try.underlying31 rfl (by decide) (by decide) _ [] rfl HR.out h9.1 h9.2.1 h9.2.2 nms rfl HN.out HB.out ?_); intro v1 w2 hrow1 hg1) | fail)
        have hM3 := HM1.out.on hrow2.below
        have HM4 := hM3.set9 (s2.weak RStr.firm (fun b _ hb => by
          show b ≠ _
          rcases hb with hb | hb
          · exact hb.elim
          · have hb2 : w1.heap.size ≤ b := hb
            omega))
        have hsl : ([] ++ nms ++ [(⟨#[]⟩ : ByteArray)]).length = nms.length + 1 := by simp
        rw [hsl, List.nil_append] at HM4
        clear hsl
        generalize nms.length + 1 = nn at HM4 ⊢
        obtain ⟨w4, hw4⟩ : ∃ w4, w4 = w3.setCell ⟨w.heap.size + 1, 9, none⟩ (.slice a2 nn c2) := ⟨_, rfl⟩
        rw [← hw4] at HM4 ⊢
        have HM5 : Hid (MoSt w w4 ds n0 n1 n2 n3 n4 n5 n6 n7 n8 x1 (a2, nn, c2) (nms ++ [⟨#[]⟩]) us h13 pts h14 dks) := HM4
        clear hw4 HM4 hM3 hrow1 hrow2 hg1 hg2 s2 z9 f9 HR HN HB q9 hd1 hd2 HM1
        have q10 := (HM5.out.i.2 10 _ rfl).1
        have q11 := (HM5.out.i.2 11 _ rfl).1
        have q12 := (HM5.out.i.2 12 _ rfl).1
        have p3 := (HM5.out.p.2 3 _ HD3.out).1
        have p4 := (HM5.out.p.2 4 _ HD4.out).1
        have p5 := (HM5.out.p.2 5 _ HD5.out).1
        have hC6 := rplus_calls us.1 us.2.1 us.2.2 wa wb wc w4
        go_wp2_with fail
        refine hC6.mono ?_
        rintro e w5 ⟨rfl, hb5⟩
        have HM6 := HM5.out.on hb5
        clear hC6 q10 q11 q12 p3 p4 p5
        obtain ⟨z10, f10⟩ := HM6.i.2 10 _ rfl
        obtain ⟨z11, f11⟩ := HM6.i.2 11 _ rfl
        obtain ⟨z12, f12⟩ := HM6.i.2 12 _ rfl
        have HM7 := HM6.setU (addI us.1 wa) (addI us.2.1 wb) (addI us.2.2 wc)
        obtain ⟨w7, hw7⟩ : ∃ w7, w7 = ((w5.setCell ⟨w.heap.size + 1, 10, none⟩ (.int .i64 (addI us.1 wa))).setCell ⟨w.heap.size + 1, 11, none⟩ (.int .i64 (addI us.2.1 wb))).setCell ⟨w.heap.size + 1, 12, none⟩ (.int .i64 (addI us.2.2 wc)) := ⟨_, rfl⟩
        rw [← hw7] at HM7
        have HM8 : Hid (MoSt w w7 ds n0 n1 n2 n3 n4 n5 n6 n7 n8 x1 (a2, nn, c2) (nms ++ [⟨#[]⟩]) (addI us.1 wa, addI us.2.1 wb, addI us.2.2 wc) h13 pts h14 dks) := HM7
        clear HM6 HM7 hb5
        go_upto_region 7 with fail
        rw [← hw7]
        clear hw7 z10 f10 z11 f11 z12 f12 HM5
        have HS : Hid (∀ u, Below w7.heap.size w7 u → MoS w ds [n0, n1, n2, n3, n4, n5, n6, n7, n8, .slice (a2, nn, c2).1 (a2, nn, c2).2.1 (a2, nn, c2).2.2, .int .i64 (addI us.1 wa, addI us.2.1 wb, addI us.2.2 wc).1, .int .i64 (addI us.1 wa, addI us.2.1 wb, addI us.2.2 wc).2.1, .int .i64 (addI us.1 wa, addI us.2.1 wb, addI us.2.2 wc).2.2, .slice h13.1 h13.2.1 h13.2.2, .slice h14.1 h14.2.1 h14.2.2] u) := fun u hb => ⟨(HM8.out.on hb).p, (HM8.out.on hb).i⟩
        refine u0 8 (MoS w ds [n0, n1, n2, n3, n4, n5, n6, n7, n8, .slice (a2, nn, c2).1 (a2, nn, c2).2.1 (a2, nn, c2).2.2, .int .i64 (addI us.1 wa, addI us.2.1 wb, addI us.2.2 wc).1, .int .i64 (addI us.1 wa, addI us.2.1 wb, addI us.2.2 wc).2.1, .int .i64 (addI us.1 wa, addI us.2.1 wb, addI us.2.2 wc).2.2, .slice h13.1 h13.2.1 h13.2.2, .slice h14.1 h14.2.1 h14.2.2]) (HS.out _ (Below.refl _ _).drew) (fun hHeld => ?_)
        refine' uk 1 ?_ ?_; rotate_left
        · intro u hu; clear hu; go_simp; try with_reducible rfl
        try go_frame
        refine' uk 2 ?_ ?_; rotate_left
        · intro u hu; have c13 := (hu.2.2 13 _ rfl).1; clear hu; go_simp; try with_reducible rfl
        try go_frame
        refine' uk 4 ?_ ?_; rotate_left
        · intro u hu; clear hu; go_simp; try with_reducible rfl
        try go_frame
        refine' uk 5 ?_ ?_; rotate_left
        · intro u hu; have c9 := (hu.1.2 9 _ HD9.out).1; clear hu; go_simp; try with_reducible rfl
        try go_frame
        refine ur 0 (fun K hK => ?_)
        go_simp
        obtain ⟨y1, hy1⟩ : ∃ y1, y1 = (w7.alloc (.cells #[] 3)).drew := ⟨_, rfl⟩
        have d1 : Below w7.heap.size w7 y1 := by rw [hy1]; exact ((Below.refl _ _).alloc (Nat.le_refl _) _).drew
        have r1 : Row RInt 1 (fun _ => False) w7 y1 3 (.slice (some ⟨w7.heap.size, 0, none⟩) 0 0) [] := by rw [hy1]; exact (Row.start _ w7 w7 _ (Below.refl _ _)).on RInt.firm (Below.refl _ _).drew
        refine hK.out _ _ (HS.out _ (hy1 ▸ d1)) (fun hHeld2 => ?_)
        rw [← hy1] at hHeld2 ⊢
        clear hy1
        clear hK K hHeld; have hHeld := hHeld2; clear hHeld2
        try go_frame
        refine ur 3 (fun K hK => ?_)
        refine row_appendS_wp RInt.firm (A := (fun _ => False)) (w0 := w7) _ _ 28 3 rfl _ 8 infoint Try.underlying28 rfl (by decide) (by decide) _ [] rfl r1 h13.1 h13.2.1 h13.2.2 pts rfl (((HM8.out.on d1).r13.src RInt.firm).flat RInt.flat) (by have h1 := HPL.out; simp only [List.length_nil]; omega) ?_
        intro v3 y2 r2 hg2
        have d2 := r2.below
        refine hK.out _ _ (HS.out _ d2) (fun hHeld2 => ?_)
        clear hK K hHeld; have hHeld := hHeld2; clear hHeld2
        try go_frame
        refine ur 6 (fun K hK => ?_)
        refine row_appendS_wp RInt.firm (A := (fun _ => False)) (w0 := w7) _ _ 28 3 rfl _ 8 infoint Try.underlying28 rfl (by decide) (by decide) _ ([] ++ pts) rfl r2 g9.1 g9.2.1 g9.2.2 (pPorts y) rfl (((H9.out _ (HM8.out.on d2).b).src RInt.firm).flat RInt.flat) (by have h1 := HPL.out; have h2 := hpl.out; simp only [List.nil_append]; omega) ?_
        intro v4 y3 r3 hg3
        have d3 := r3.below
        refine hK.out _ _ (HS.out _ d3) (fun hHeld2 => ?_)
        clear hK K hHeld; have hHeld := hHeld2; clear hHeld2
        try go_frame
        refine' uk 7 ?_ ?_; rotate_left
        · intro u hu; clear hu; go_simp; try with_reducible rfl
        try go_frame
        obtain ⟨a4, c4, e4, s4⟩ := r3.sl (bytes := 8) RInt.firm (by have h1 := HPL.out; have h2 := hpl.out; rw [List.nil_append, List.length_append]; omega)
        subst e4
        have hM9 := (HM8.out.on d3).set13 (s4.weak RInt.firm (fun b _ hb => by
          show b ≠ _
          rcases hb with hb | hb
          · exact hb.elim
          · have hb2 : w7.heap.size ≤ b := hb
            have hb3 := HM8.out.i.1
            omega))
        rw [List.nil_append] at hM9 ⊢
        have HP2 : Hid ((pts ++ pPorts y).length ≤ 1048576 * (k + 1 + 1)) := by have h1 := HPL.out; have h2 := hpl.out; rw [Hid, List.length_append]; omega
        generalize (pts ++ pPorts y).length = l4 at hM9 ⊢
        obtain ⟨z13, f13⟩ := (HM8.out.on d3).i.2 13 _ rfl
        refine uz 8 (fun K hK => ?_)
        go_simp
        refine hK.out _ (NoPanic.normal ?_)
        try go_frame
        obtain ⟨w9, hw9⟩ : ∃ w9, w9 = y3.setCell ⟨w.heap.size + 1, 13, none⟩ (.slice a4 l4 c4) := ⟨_, rfl⟩
        rw [← hw9] at hM9 ⊢
        have HM9 : Hid (MoSt w w9 ds n0 n1 n2 n3 n4 n5 n6 n7 n8 x1 (a2, nn, c2) (nms ++ [⟨#[]⟩]) (addI us.1 wa, addI us.2.1 wb, addI us.2.2 wc) (a4, l4, c4) (pts ++ pPorts y) h14 dks) := hM9
        clear hw9 hM9 hK K z13 f13 s4 r3 r2 r1 d1 d2 d3 HM8 HS hHeld HPL hg2 hg3
        go_wp2_with fail
        go_roundw
        case rel => exact ⟨k + 1, (a2, nn, c2), _, (addI us.1 wa, addI us.2.1 wb, addI us.2.2 wc), (a4, l4, c4), _, by go_num, by omega, HM9, HV2, HP2⟩
        case measure => simp [intOf]; omega
      · have HE := HV.out.stop (hlt := by rw [← HLM.out]; exact hlt) h0
        have HE2 : Hid (mostP y (x1, nms0, us0, pts0, dks) lim = k) := HE
        have hz : (why1 y (x1, nms, us, pts, dks) == 0) = false := by simpa using h0
        generalize why1 y (x1, nms, us, pts, dks) = q at h0 hz hC
        go_wp2_with (first | (refine load_w7 (by rfl) 33 _ rfl w.heap.size 0 rfl ds _ HM.out.p.range Try.underlying33 rfl hiP ?_) | (refine load_w7 (by rfl) 38 _ rfl (w.heap.size + 1) 0 rfl [n0, n1, n2, n3, n4, n5, n6, n7, n8, .slice h9.1 h9.2.1 h9.2.2, .int .i64 us.1, .int .i64 us.2.1, .int .i64 us.2.2, .slice h13.1 h13.2.1 h13.2.2, .slice h14.1 h14.2.1 h14.2.2] _ HM.out.i.range Try.underlying38 rfl hiI ?_) | fail)
        refine hC.mono ?_
        rintro e w1 ⟨rfl, hb1⟩
        have hbf := on2 HM.out.b hb1
        clear hC hb1 HM HE
        go_wp2_with fail
        go_ret
        exact ⟨ret_int HE2.out.symm, hbf⟩
    · have HE2 : Hid (mostP y (x1, nms0, us0, pts0, dks) lim = k) := HV.out.full (by rw [← HLM.out]; omega)
      have hbf := HM.out.b
      go_wp2_with fail
      go_ret
      exact ⟨ret_int HE2.out.symm, hbf⟩
end Go.Proofs.Ytbcclfiopebmpaa
