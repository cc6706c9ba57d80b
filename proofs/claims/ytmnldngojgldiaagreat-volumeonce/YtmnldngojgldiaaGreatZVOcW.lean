/- The walk of VolumeOnce: no two claims get one volume, and claims and volumes that fit together do so still. Conditions: the arguments lie as is said of them. -/
import Derived.Test.YtmnldngojgldiaaGreatQ19
import Derived.Test.YtmnldngojgldiaaGreatW02
import Derived.Test.YtmnldngojgldiaaGreatW01
import Derived.Test.YtmnldngojgldiaaGreatQ29
import Derived.Test.YtmnldngojgldiaaGreatQ09
import Derived.Test.YtmnldngojgldiaaGreatW03
namespace Go.Proofs.YtmnldngojgldiaaGreat
open Go.RowKit Go.Maps
set_option linter.unusedSimpArgs false
set_option maxRecDepth 100000

set_option maxHeartbeats 32000000 in
theorem vonce_none (cs : List Value) (x : StateD) (a : Option Addr) (c : Nat) (L : List PickD) (w : World) (h : RState (fun _ => True) w cs x) (hL : SlAt RLabel 2 32 (fun _ => True) w a 0 c L) :
    Calls Tryz.prog 4 #[.agg cs.toArray, .slice a 0 c] w fun e w' => e = .returned (.bool true) ∧ Below w.heap.size w w' := by
  obtain ⟨⟨a0, n0, m0⟩, ⟨a1, n1, m1⟩, ⟨a2, n2, m2⟩, ⟨a3, n3, m3⟩, ⟨a4, n4, m4⟩, ⟨a5, n5, m5⟩, rfl, _, _, s2, _⟩ := h.out
  simp only at h s2
  have hll : 0 ≤ 140737488351232 := by have := hL.2.2.2.1; omega
  have hLn : Hid (L.length = 0) := hL.1
  have hv2 : Hid ((sVs x).length = n2 ∧ n2 ≤ 140737488351232) := ⟨s2.1, by have := s2.2.2.2.1; omega⟩
  obtain ⟨W1, hW1⟩ : ∃ W, W = w.alloc (.cells #[.slice a0 n0 m0, .slice a1 n1 m1, .slice a2 n2 m2, .slice a3 n3 m3, .slice a4 n4 m4, .slice a5 n5 m5] 29) := ⟨_, rfl⟩
  have B1 : Below w.heap.size w W1 := by rw [hW1]; go_grown
  have q1 : BoxL W1 w.heap.size [.slice a0 n0 m0, .slice a1 n1 m1, .slice a2 n2 m2, .slice a3 n3 m3, .slice a4 n4 m4, .slice a5 n5 m5] := by rw [hW1]; exact BoxL.new w 29 _
  have HQ : Hid (∀ z, Below W1.heap.size W1 z → z.cell? ⟨w.heap.size, 0, none⟩ = some (.slice a0 n0 m0) ∧ z.cell? ⟨w.heap.size, 1, none⟩ = some (.slice a1 n1 m1) ∧ z.cell? ⟨w.heap.size, 2, none⟩ = some (.slice a2 n2 m2) ∧ z.cell? ⟨w.heap.size, 3, none⟩ = some (.slice a3 n3 m3) ∧ z.cell? ⟨w.heap.size, 4, none⟩ = some (.slice a4 n4 m4) ∧ z.cell? ⟨w.heap.size, 5, none⟩ = some (.slice a5 n5 m5)) := fun z hb => ⟨((q1.on hb).2 0 _ rfl).1, ((q1.on hb).2 1 _ rfl).1, ((q1.on hb).2 2 _ rfl).1, ((q1.on hb).2 3 _ rfl).1, ((q1.on hb).2 4 _ rfl).1, ((q1.on hb).2 5 _ rfl).1⟩
  have HS : Hid (∀ z, Below W1.heap.size W1 z → RState (fun _ => True) z [.slice a0 n0 m0, .slice a1 n1 m1, .slice a2 n2 m2, .slice a3 n3 m3, .slice a4 n4 m4, .slice a5 n5 m5] x ∧ SlAt RLabel 2 32 (fun _ => True) z a 0 c L) := fun z hz => ⟨RState.firm.kept h (Kept.below (on2 B1 hz)), hL.on RLabel.firm (on2 B1 hz)⟩
  have HR0 : Hid (RState (fun _ => True) w [.slice a0 n0 m0, .slice a1 n1 m1, .slice a2 n2 m2, .slice a3 n3 m3, .slice a4 n4 m4, .slice a5 n5 m5] x) := h
  have HB1 : Hid (Below w.heap.size w W1) := B1
  have hlt1 : w.heap.size < W1.heap.size := q1.1
  clear h hL q1 B1 s2
  go_enter Tryz.func4, Tryz.ntmps4
  go_upto_region 1 with fail
  rw [← hW1]
  clear hW1
  go_wp2_with fail
  refine (works10_calls W1).mono ?_
  rintro e w3 ⟨rfl, p3⟩
  obtain ⟨f0, f1, f2, f3, f4, f5⟩ := HQ.out w3 p3
  have hlt3 : w.heap.size < w3.heap.size := Nat.lt_of_lt_of_le hlt1 p3.size
  --M2
  go_wp2_with fail
  refine (pApply_calls [.slice a0 n0 m0, .slice a1 n1 m1, .slice a2 n2 m2, .slice a3 n3 m3, .slice a4 n4 m4, .slice a5 n5 m5] x a 0 c L w3 (HS.out w3 p3).1 (HS.out w3 p3).2).mono ?_
  rintro e w4 hz
  clear f0 f1 f2 f3 f4 f5
  rcases hz with ⟨t, g0, g1, g2, g3, g4, g5, hr, rfl, hd⟩ | ⟨k, hr, rfl, hk, d4⟩
  · have p4 : Below W1.heap.size W1 w4 := on2 p3 hd.2.2
    have hln := apply_len hr
    have hrT : RState (fun _ => True) w4 [g0, g1, g2, g3, g4, g5] (wVC x t) := hd.rstate HR0.out hln.1 hln.2
    have HAp : Hid (applyP (sVs x, sCs x) L = .ok t) := hr
    obtain ⟨b0, k0, c0, rfl⟩ := hd.2.1.1.head
    obtain ⟨b1, k1, c1, rfl⟩ := hd.2.1.2.1.head
    obtain ⟨b2, k2, c2, rfl⟩ := hd.1.1.head
    obtain ⟨b3, k3, c3, rfl⟩ := hd.1.2.1.head
    obtain ⟨b4, k4, c4, rfl⟩ := hd.2.1.2.2.1.head
    obtain ⟨b5, k5, c5, rfl⟩ := hd.2.1.2.2.2.head
    obtain ⟨w5, hw5⟩ : ∃ wt, wt = w4.alloc (.cells #[.slice b0 k0 c0, .slice b1 k1 c1, .slice b2 k2 c2, .slice b3 k3 c3, .slice b4 k4 c4, .slice b5 k5 c5] 29) := ⟨_, rfl⟩
    have d5 : Below w4.heap.size w4 w5 := by rw [hw5]; exact (Below.refl _ _).alloc (Nat.le_refl _) _
    have qT : BoxL w5 w4.heap.size [.slice b0 k0 c0, .slice b1 k1 c1, .slice b2 k2 c2, .slice b3 k3 c3, .slice b4 k4 c4, .slice b5 k5 c5] := by rw [hw5]; exact BoxL.new w4 29 _
    have p5 : Below W1.heap.size W1 w5 := on2 p4 d5
    have HT : Hid (∀ u, Below w5.heap.size w5 u → BoxL u w4.heap.size [.slice b0 k0 c0, .slice b1 k1 c1, .slice b2 k2 c2, .slice b3 k3 c3, .slice b4 k4 c4, .slice b5 k5 c5] ∧ RState (fun _ => True) u [.slice b0 k0 c0, .slice b1 k1 c1, .slice b2 k2 c2, .slice b3 k3 c3, .slice b4 k4 c4, .slice b5 k5 c5] (wVC x t)) := fun u hu => ⟨qT.on hu, RState.firm.kept hrT (Kept.below (on2 d5 hu))⟩
    have HWT : Hid (w5 = w4.alloc (.cells #[.slice b0 k0 c0, .slice b1 k1 c1, .slice b2 k2 c2, .slice b3 k3 c3, .slice b4 k4 c4, .slice b5 k5 c5] 29)) := hw5
    have hltT : w4.heap.size < w5.heap.size := qT.1
    have hlt5 : w.heap.size < w5.heap.size := Nat.lt_of_lt_of_le hlt1 p5.size
    clear hd hr hln hrT qT d5 hw5 p4 p3 hlt3
    --M3
    go_upto_region 4 with fail
    rw [← HWT.out]
    clear HWT
    obtain ⟨f0, f1, f2, f3, f4, f5⟩ := HQ.out w5 p5
    --M4
    go_wp2_with fail
    refine (once10_calls [.slice a0 n0 m0, .slice a1 n1 m1, .slice a2 n2 m2, .slice a3 n3 m3, .slice a4 n4 m4, .slice a5 n5 m5] _ x w5 (HS.out w5 p5).1).mono ?_
    rintro e wt ⟨bo, rfl, hbo, dt⟩
    have pt : Below W1.heap.size W1 wt := on2 p5 dt
    clear f0 f1 f2 f3 f4 f5 hlt5
    cases bo with
    | false =>
      have HE : Hid (Below w.heap.size w wt) := on2 HB1.out pt
      clear hbo pt dt
      go_wp2_with fail
      go_ret
      exact ⟨rfl, HE.out⟩
    | true =>
      have HO : Hid (OnceP (stVC x)) := hbo.1 rfl
      obtain ⟨o1, _, o3, o4⟩ := once_plain L HO.out HAp.out
      have HPW : Hid (∀ k j, k < j → j < 0 → (L.getD k default).1 ≠ (L.getD j default).1 ∧ (L.getD k default).2 ≠ (L.getD j default).2) := fun k j hkj hj => by
        have hj' : j < L.length := by rw [hLn.out]; exact hj
        have hk' : k < L.length := by omega
        have := List.pairwise_iff_getElem.1 o1 k j hk' hj' hkj
        rw [List.getD_eq_getElem?_getD, List.getD_eq_getElem?_getD, List.getElem?_eq_getElem hk', List.getElem?_eq_getElem hj']
        exact this
      have HCk : Hid (checkP t ≤ checkP (stVC x)) := o3
      have HFr : Hid ((freeP t.1).length + 0 = (freeP (sVs x)).length) := by have := o4; rw [hLn.out] at this; exact this
      have HON : Hid (((vNs (sVs x)).Nodup ∧ (cNs (sCs x)).Nodup) ∧ ((vNs t.1).Nodup ∧ (cNs t.2).Nodup)) := ⟨⟨HO.out.2.2.1, HO.out.1⟩, by obtain ⟨h1, h2⟩ := apply_names12 L HAp.out; rw [h1, h2]; exact ⟨HO.out.2.2.1, HO.out.1⟩⟩
      have HBt : Hid (Below w.heap.size w wt) := on2 HB1.out pt
      have HX : Hid (∀ u, Below wt.heap.size wt u → (u.cell? ⟨w.heap.size, 0, none⟩ = some (.slice a0 n0 m0) ∧ u.cell? ⟨w.heap.size, 1, none⟩ = some (.slice a1 n1 m1) ∧ u.cell? ⟨w.heap.size, 2, none⟩ = some (.slice a2 n2 m2) ∧ u.cell? ⟨w.heap.size, 3, none⟩ = some (.slice a3 n3 m3) ∧ u.cell? ⟨w.heap.size, 4, none⟩ = some (.slice a4 n4 m4) ∧ u.cell? ⟨w.heap.size, 5, none⟩ = some (.slice a5 n5 m5)) ∧ (u.cell? ⟨w4.heap.size, 0, none⟩ = some (.slice b0 k0 c0) ∧ u.cell? ⟨w4.heap.size, 1, none⟩ = some (.slice b1 k1 c1) ∧ u.cell? ⟨w4.heap.size, 2, none⟩ = some (.slice b2 k2 c2) ∧ u.cell? ⟨w4.heap.size, 3, none⟩ = some (.slice b3 k3 c3) ∧ u.cell? ⟨w4.heap.size, 4, none⟩ = some (.slice b4 k4 c4) ∧ u.cell? ⟨w4.heap.size, 5, none⟩ = some (.slice b5 k5 c5))) := fun u hu => ⟨HQ.out u (on2 pt hu), by have qT := (HT.out u (on2 dt hu)).1; exact ⟨(qT.2 0 _ rfl).1, (qT.2 1 _ rfl).1, (qT.2 2 _ rfl).1, (qT.2 3 _ rfl).1, (qT.2 4 _ rfl).1, (qT.2 5 _ rfl).1⟩⟩
      have HXS : Hid (∀ u, Below wt.heap.size wt u → RState (fun _ => True) u [.slice a0 n0 m0, .slice a1 n1 m1, .slice a2 n2 m2, .slice a3 n3 m3, .slice a4 n4 m4, .slice a5 n5 m5] x ∧ RState (fun _ => True) u [.slice b0 k0 c0, .slice b1 k1 c1, .slice b2 k2 c2, .slice b3 k3 c3, .slice b4 k4 c4, .slice b5 k5 c5] (wVC x t)) := fun u hu => ⟨(HS.out u (on2 pt hu)).1, (HT.out u (on2 dt hu)).2⟩
      clear hbo o1 o3 o4 HQ HS HT pt dt p5 HAp HR0
      --M5
      go_wp2_with fail
      go_loopw [7] (fun q wr => ∃ j : Nat, j ≤ 0 ∧ q = .int .i64 j ∧ Hid (Below wt.heap.size wt wr)) (fun q _ => 0 - (intOf q).toNat)
      case atStart => exact ⟨0, Nat.zero_le _, rfl, Below.refl _ _⟩
      case round =>
        obtain ⟨j, hj, rfl, hbj⟩ := hrel
        obtain ⟨wk, hwk⟩ : ∃ z, z = wr := ⟨_, rfl⟩
        subst hwk
        have hwk : True := trivial
        by_cases hlt : j < 0
        · skip
          exact absurd hlt (by omega)
        · obtain rfl : 0 = j := by omega
          clear hwk
          have hbj0 : Below wt.heap.size wt wk := hbj.out
          --F1
          go_upto_region 14 with fail
          refine t0 (fun z => Below wt.heap.size wt z) (hbj0.drew) (fun hHeld => ?_)
          have hz0 : Below wt.heap.size wt wk.drew := hbj0.drew
          generalize hwd : wk.drew = z0 at hHeld hz0 ⊢
          clear hwd
          try go_frame
          refine' tk 0 ?_ ?_; rotate_left
          · intro u hu; obtain ⟨⟨f0, f1, f2, f3, f4, f5⟩, ⟨g0, g1, g2, g3, g4, g5⟩⟩ := HX.out u hu; clear hu; go_simp; try with_reducible rfl
          try go_frame
          refine' tk 2 ?_ ?_; rotate_left
          · intro u hu; obtain ⟨⟨f0, f1, f2, f3, f4, f5⟩, ⟨g0, g1, g2, g3, g4, g5⟩⟩ := HX.out u hu; clear hu; go_simp; try with_reducible rfl
          try go_frame
          have hC := pCheck_calls [.slice b0 k0 c0, .slice b1 k1 c1, .slice b2 k2 c2, .slice b3 k3 c3, .slice b4 k4 c4, .slice b5 k5 c5] (wVC x t) z0 (HXS.out z0 hz0).2 HON.out.2
          refine tr 1 (fun K hK => ?_)
          go_simp
          refine hC.mono ?_
          rintro e z1 ⟨rfl, dz1⟩
          clear hC
          have hz1 : Below wt.heap.size wt z1 := on2 hz0 dz1
          go_wp2_with fail
          refine hK.out _ _ hz1 (fun hHeld2 => ?_)
          clear hK K hHeld; have hHeld := hHeld2; clear hHeld2
          try go_frame
          have hC := pCheck_calls [.slice a0 n0 m0, .slice a1 n1 m1, .slice a2 n2 m2, .slice a3 n3 m3, .slice a4 n4 m4, .slice a5 n5 m5] x z1 (HXS.out z1 hz1).1 HON.out.1
          refine tr 3 (fun K hK => ?_)
          go_simp
          refine hC.mono ?_
          rintro e z2 ⟨rfl, dz2⟩
          clear hC
          have hz2 : Below wt.heap.size wt z2 := on2 hz1 dz2
          go_wp2_with fail
          refine hK.out _ _ hz2 (fun hHeld2 => ?_)
          clear hK K hHeld; have hHeld := hHeld2; clear hHeld2
          try go_frame
          have hle : (checkP (stVC (wVC x t)) : Int) ≤ (checkP (stVC x) : Int) := by have h8 : checkP t ≤ checkP (stVC x) := HCk.out; exact Int.ofNat_le.2 h8
          generalize (checkP (stVC (wVC x t)) : Int) = ct at hle ⊢
          generalize (checkP (stVC x) : Int) = cx at hle ⊢
          refine' tk 4 ?_ ?_; rotate_left
          · intro u hu; clear hu; go_simp; try with_reducible rfl
          try go_frame
          refine' tk 5 ?_ ?_; rotate_left
          · intro u hu; clear hu; go_simp; try with_reducible rfl
          try go_frame
          refine' tk 6 ?_ ?_; rotate_left
          · intro u hu; obtain ⟨⟨f0, f1, f2, f3, f4, f5⟩, ⟨g0, g1, g2, g3, g4, g5⟩⟩ := HX.out u hu; clear hu; go_simp; try with_reducible rfl
          try go_frame
          refine' tk 9 ?_ ?_; rotate_left
          · intro u hu; obtain ⟨⟨f0, f1, f2, f3, f4, f5⟩, ⟨g0, g1, g2, g3, g4, g5⟩⟩ := HX.out u hu; clear hu; go_simp; try with_reducible rfl
          try go_frame
          refine' tk 12 ?_ ?_; rotate_left
          · intro u hu; obtain ⟨⟨f0, f1, f2, f3, f4, f5⟩, ⟨g0, g1, g2, g3, g4, g5⟩⟩ := HX.out u hu; clear hu; go_simp; try with_reducible rfl
          try go_frame
          refine' tk 13 ?_ ?_; rotate_left
          · intro u hu; obtain ⟨⟨f0, f1, f2, f3, f4, f5⟩, ⟨g0, g1, g2, g3, g4, g5⟩⟩ := HX.out u hu; clear hu; go_simp; try with_reducible rfl
          try go_frame
          have hC := pFree_calls [.slice b0 k0 c0, .slice b1 k1 c1, .slice b2 k2 c2, .slice b3 k3 c3, .slice b4 k4 c4, .slice b5 k5 c5] (wVC x t) z2 (HXS.out z2 hz2).2 HON.out.2.1
          refine tr 7 (fun K hK => ?_)
          go_simp
          refine hC.mono ?_
          rintro e z3 ⟨fa, fc, rfl, dz3⟩
          clear hC
          have hz3 : Below wt.heap.size wt z3 := on2 hz2 dz3
          go_wp2_with fail
          refine hK.out _ _ hz3 (fun hHeld2 => ?_)
          clear hK K hHeld; have hHeld := hHeld2; clear hHeld2
          try go_frame
          refine' tk 8 ?_ ?_; rotate_left
          · intro u hu; clear hu; go_simp; try with_reducible rfl
          try go_frame
          have hC := pFree_calls [.slice a0 n0 m0, .slice a1 n1 m1, .slice a2 n2 m2, .slice a3 n3 m3, .slice a4 n4 m4, .slice a5 n5 m5] x z3 (HXS.out z3 hz3).1 HON.out.1.1
          refine tr 10 (fun K hK => ?_)
          go_simp
          refine hC.mono ?_
          rintro e z4 ⟨fa2, fc2, rfl, dz4⟩
          clear hC
          have hz4 : Below wt.heap.size wt z4 := on2 hz3 dz4
          go_wp2_with fail
          refine hK.out _ _ hz4 (fun hHeld2 => ?_)
          clear hK K hHeld; have hHeld := hHeld2; clear hHeld2
          try go_frame
          have h1 : (freeP (sVs (wVC x t))).length + 0 = (freeP (sVs x)).length := HFr.out
          have h2 : (freeP (sVs x)).length ≤ 140737488351232 := by
            have h3 := hv2.out
            have h4 : (freeP (sVs x)).length ≤ (sVs x).length := by unfold freeP; rw [List.length_map]; exact List.length_filter_le _ _
            omega
          generalize (freeP (sVs (wVC x t))).length = lt at h1 ⊢
          generalize (freeP (sVs x)).length = lx at h1 h2 ⊢
          obtain rfl : lt = lx := by omega
          have h5 : IntKind.i64.wrap (lt : Int) = (lt : Int) := IntWalk.i64_in _ (by omega)
          refine' tk 11 ?_ ?_; rotate_left
          · intro u hu; clear hu; go_simp; try with_reducible rfl
          try go_frame
          refine' tk 14 ?_ ?_; rotate_left
          · intro u hu; clear hu; go_simp; try with_reducible rfl
          try go_frame
          refine' tk 15 ?_ ?_; rotate_left
          · intro u hu; clear hu; go_simp; try with_reducible rfl
          try go_frame
          refine' tk 16 ?_ ?_; rotate_left
          · intro u hu; clear hu; go_simp; try with_reducible rfl
          try go_frame
          refine' tk 17 ?_ ?_; rotate_left
          · intro u hu; clear hu; go_simp; try with_reducible rfl
          try go_frame
          refine tz ?_
          have HE : Hid (Below w.heap.size w z4) := on2 HBt.out hz4
          clear hHeld hz0 hz1 hz2 hz3 hz4 dz1 dz2 dz3 dz4
          --F2
          go_wp2_with fail
          go_ret
          --F3
          exact ⟨by simp, HE.out⟩
  · have HE : Hid (Below w.heap.size w w4) := on2 (on2 HB1.out p3) d4
    have hk2 : ¬ k = 0 := by rcases hk with rfl | rfl <;> decide
    have HE2 : Hid (Below w.heap.size w (w4.alloc (.cells #[.slice none 0 0, .slice none 0 0, .slice none 0 0, .slice none 0 0, .slice none 0 0, .slice none 0 0] 29))) := on2 HE.out ((Below.refl _ _).alloc (Nat.le_refl _) _)
    clear hr d4 p3 hlt3 hk
    --G1
    go_wp2_with fail
    go_ret
    exact ⟨rfl, HE2.out⟩
theorem vonce_walk (cs : List Value) (x : StateD) (a : Option Addr) (n c : Nat) (L : List PickD) (w : World) (h : RState (fun _ => True) w cs x) (hL : SlAt RLabel 2 32 (fun _ => True) w a n c L) :
    Calls Tryz.prog 4 #[.agg cs.toArray, .slice a n c] w fun e w' => e = .returned (.bool true) ∧ Below w.heap.size w w' := by
  by_cases hn : n = 0
  · subst hn
    exact vonce_none cs x a c L w h hL
  · obtain ⟨B, off, rfl, _⟩ := hL.get (i := 0) (by omega)
    exact vonce_some cs x B off n c L w h hL
end Go.Proofs.YtmnldngojgldiaaGreat
