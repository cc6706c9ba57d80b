/- ScoreBest, walked. Condition: what is handed in lies as is said of it. -/
import Derived.Test.YteihniiacfghoaaQ18
import Derived.Test.YteihniiacfghoaaQ19
import Derived.Test.YteihniiacfghoaaQ04
namespace Go.Proofs.Yteihniiacfghoaa
open Go.RowKit Go.Maps
set_option linter.unusedSimpArgs false
set_option maxRecDepth 100000

section
variable {s : List Int} {may : List Bool}
theorem best_k {k0 : Nat} (h : k0 ∈ bestP s may) : k0 < min s.length may.length ∧ may.getD k0 default = true := by
  have h1 := ((best_both s may (min s.length may.length)).2 k0).1 h
  exact ⟨h1.1, h1.2.1⟩
theorem best_top {k0 i : Nat} (h : k0 ∈ bestP s may) (hi : i < min s.length may.length) (hm : may.getD i default = true) : s.getD i default ≤ s.getD k0 default :=
  (((best_both s may (min s.length may.length)).2 k0).1 h).2.2 i hi hm
theorem best_in {k0 i : Nat} (h : k0 ∈ bestP s may) (hi : i < min s.length may.length) : i ∈ bestP s may ↔ may.getD i default = true ∧ s.getD i default = s.getD k0 default := by
  have hk := best_k h
  refine ((best_both s may (min s.length may.length)).2 i).trans ⟨fun q => ⟨q.2.1, Int.le_antisymm (best_top h hi q.2.1) (q.2.2 k0 hk.1 hk.2)⟩, fun q => ⟨hi, q.1, fun j hj hm => ?_⟩⟩
  rw [q.2]; exact best_top h hj hm
theorem best_none (h : bestP s may = []) {i : Nat} (hi : i < min s.length may.length) : may.getD i default = false :=
  (best_both s may (min s.length may.length)).1 h i hi
theorem hasI_iff {O : List Nat} {i : Nat} : hasB iEq (O.map (fun i : Nat => (i : Int))) (i : Int) = true ↔ i ∈ O := by
  unfold hasB iEq
  rw [List.any_map, List.any_eq_true]
  constructor
  · rintro ⟨j, hj, e⟩
    have e : ((j : Int) == (i : Int)) = true := e
    have e2 : (j : Int) = (i : Int) := by simpa using e
    have : j = i := by omega
    exact this ▸ hj
  · intro h; exact ⟨i, h, by show ((i : Int) == (i : Int)) = true; simp⟩
end
set_option maxHeartbeats 8000000 in
theorem best_walk (a : Option Addr) (n cap : Nat) (s : List Int) (b : Option Addr) (m capb : Nat) (may : List Bool) (d : Int) (w : World) (hS : SlAt RInt 1 8 (fun _ => True) w a n cap s) (hM : SlAt RBool 1 1 (fun _ => True) w b m capb may) : Calls Try.prog 7 #[.slice a n cap, .slice b m capb, .int .i64 d] w fun e w' => e = .returned (.bool true) ∧ Below w.heap.size w w' := by
  have HS0 : Hid (SlAt RInt 1 8 (fun _ => True) w a n cap s) := hS
  have HM0 : Hid (SlAt RBool 1 1 (fun _ => True) w b m capb may) := hM
  have hn : Hid (s.length = n) := hS.1
  have hm : Hid (may.length = m) := hM.1
  have HLn : Hid (n * 8 ≤ 140737488351232) := hS.2.2.2.1
  have hnl : n < 1000000000000000 := by have := HLn.out; omega
  have hmb : m < 1000000000000000 := by have := hM.2.2.2.1; omega
  clear hS hM
  go_enter Try.func7, Try.ntmps7
  go_wp2_with fail
  refine (works16_calls w).mono ?_
  rintro e w1 ⟨rfl, b1⟩
  have HB1 : Hid (Below w.heap.size w w1) := b1
  have hA := Pick_calls a n cap (fun _ => True) s b m capb (fun _ => True) may d w1 (HS0.out.on RInt.firm b1) (HM0.out.on RBool.firm b1)
  obtain ⟨x, hx⟩ : ∃ x, x = pickP s may d := ⟨_, rfl⟩
  have HX : Hid (pickP s may d = x) := hx.symm
  rw [← hx] at hA
  clear b1 hx
  go_wp2_with fail
  refine hA.mono ?_
  rintro e w2 ⟨rfl, b2⟩
  have HB2 : Hid (Below w.heap.size w w2) := on2 HB1.out b2
  have hA := Best_calls a n cap (fun _ => True) s b m capb (fun _ => True) may w2 (HS0.out.on RInt.firm HB2.out) (HM0.out.on RBool.firm HB2.out)
  obtain ⟨O, hO⟩ : ∃ O, O = bestP s may := ⟨_, rfl⟩
  have HO : Hid (O = bestP s may) := hO
  have HOl : Hid (O.length ≤ n) := by rw [hO, ← hn.out]; exact Nat.le_trans (best_len s may _) (Nat.min_le_left _ _)
  rw [← hO] at hA
  clear b2 HB1 hO
  go_wp2_with fail
  refine hA.mono ?_
  rintro e w3 ⟨v3, rfl, h3⟩
  obtain ⟨la, lc, rfl, ls⟩ := (h3.wAG RInt.firm (A' := fun _ => True) (fun _ h => h.elim)).slF (bytes := 8) RInt.firm (by have h1 := HOl.out; have h2 := HLn.out; rw [List.length_map]; omega)
  have ls := ls.weak RInt.firm (A' := fun _ => True) (fun _ _ _ => trivial)
  obtain ⟨ml, hml⟩ : ∃ ml, ml = O.length := ⟨_, rfl⟩
  rw [List.length_map, ← hml] at ls ⊢
  have HML : Hid (O.length = ml) := hml.symm
  have hmll : ml < 1000000000000000 := by have := HOl.out; omega
  have HB3 : Hid (Below w.heap.size w w3) := on2 HB2.out h3.below
  have HLs : Hid (∀ z, Below w3.heap.size w3 z → SlAt RInt 1 8 (fun _ => True) z la ml lc (O.map (fun i : Nat => (i : Int)))) := fun z hz => ls.on RInt.firm hz
  have HS : Hid (∀ z, Below w3.heap.size w3 z → SlAt RInt 1 8 (fun _ => True) z a n cap s ∧ SlAt RBool 1 1 (fun _ => True) z b m capb may) := fun z hz => ⟨HS0.out.on RInt.firm (on2 HB3.out hz), HM0.out.on RBool.firm (on2 HB3.out hz)⟩
  clear hA h3 hml ls HB2 HS0 HM0
  --M1
  by_cases hO0 : O = []
  · have hx1 : x = -1 := by rw [← HX.out, pickP, ← HO.out, if_pos hO0]
    subst hx1
    have hml0 : ml = 0 := by rw [← HML.out, hO0]; rfl
    subst hml0
    have HNo : Hid (∀ i, i < n → i < m → may.getD i default = false) := fun i h1 h2 => best_none (by rw [← HO.out]; exact hO0) (by rw [hn.out, hm.out]; exact Nat.lt_min.2 ⟨h1, h2⟩)
    clear HOl HML hO0
    go_wp2_with fail
    --M2
    go_loop [9] (fun i => ∃ k : Nat, k ≤ n ∧ k ≤ m ∧ i = .int .i64 k) (fun i => n - (intOf i).toNat)
    case atStart => exact ⟨0, Nat.zero_le _, Nat.zero_le _, rfl⟩
    case round =>
      obtain ⟨k, hkn, hkm, rfl⟩ := hrel
      by_cases hlt : k < n
      · have hltz : (k : Int) < (n : Int) := by omega
        by_cases hlm : k < m
        · have hlmz : (k : Int) < (m : Int) := by omega
          obtain ⟨E, of2, rfl, hE, _, ds, hrb, hvb⟩ := (HS.out w3 (Below.refl _ _)).2.get hlm
          obtain rfl : ds = [.bool (may.getD k default)] := hrb
          have e0 := hvb 0 _ rfl
          rw [Nat.add_zero, Nat.mul_one, HNo.out k hlt hlm] at e0
          clear hvb
          go_wp2_with fail
          go_round
          case rel => exact ⟨k + 1, by omega, by omega, by go_num⟩
          case measure => simp [intOf]; omega
        · have hlmz : ¬ (k : Int) < (m : Int) := by omega
          go_wp2_with fail
          go_ret
          exact ⟨rfl, HB3.out⟩
      · have hltz : ¬ (k : Int) < (n : Int) := by omega
        go_wp2_with fail
        go_ret
        exact ⟨rfl, HB3.out⟩
  · obtain ⟨k0, hk0, hpk⟩ := pick_mem s may d (fun e => hO0 (by rw [HO.out]; exact e))
    rw [HX.out] at hpk
    subst hpk
    obtain ⟨hkm, hky⟩ := best_k hk0
    rw [hn.out, hm.out] at hkm
    have hk0n : k0 < n := Nat.lt_of_lt_of_le hkm (Nat.min_le_left _ _)
    have hk0m : k0 < m := Nat.lt_of_lt_of_le hkm (Nat.min_le_right _ _)
    have hz1 : ¬ (k0 : Int) < 0 := by omega
    have hz2 : (k0 : Int) < (n : Int) := by omega
    have hz3 : (k0 : Int) < (m : Int) := by omega
    have hz4 : ¬ (n : Int) ≤ (k0 : Int) := by omega
    have hz5 : ¬ (m : Int) ≤ (k0 : Int) := by omega
    have HK0 : Hid (k0 ∈ bestP s may) := hk0
    have hH := HasInt_calls la ml lc (fun _ => True) (O.map (fun i : Nat => (i : Int))) (k0 : Int) w3 (HLs.out w3 (Below.refl _ _))
    rw [show hasB iEq (O.map (fun i : Nat => (i : Int))) (k0 : Int) = true from hasI_iff.2 (by rw [HO.out]; exact hk0)] at hH
    obtain ⟨E, of2, hbE, hE, _, ds, hrb, hvb⟩ := (HS.out w3 (Below.refl _ _)).2.get hk0m
    obtain rfl : ds = [.bool (may.getD k0 default)] := hrb
    have e0 := hvb 0 _ rfl
    rw [Nat.add_zero, Nat.mul_one, hky] at e0
    subst hbE
    clear hvb hky hkm hk0 hO0
    --M3
    go_wp2_with fail
    refine hH.mono ?_
    rintro e w4 ⟨rfl, hw⟩
    obtain rfl := hw.symm
    clear hH hw e0 hz1 hz4 hz5
    go_wp2_with fail
    --M4
    go_loopw [10] (fun i z => ∃ k : Nat, k ≤ n ∧ k ≤ m ∧ i = .int .i64 k ∧ Hid (Below w3.heap.size w3 z)) (fun i _ => n - (intOf i).toNat)
    case atStart => exact ⟨0, Nat.zero_le _, Nat.zero_le _, rfl, Below.refl _ _⟩
    case round =>
      obtain ⟨k, hkn, hkm, rfl, hrun⟩ := hrel
      by_cases hlb : k < n ∧ k < m
      · obtain ⟨hlt, hlm⟩ := hlb
        have hltz : (k : Int) < (n : Int) := by omega
        have hlmz : (k : Int) < (m : Int) := by omega
        have hmin : k < min s.length may.length := by rw [hn.out, hm.out]; exact Nat.lt_min.2 ⟨hlt, hlm⟩
        obtain ⟨_, _, hbE2, _, _, es, hre, hve⟩ := (HS.out wr hrun.out).2.get hlm
        obtain ⟨rfl, rfl⟩ : E = _ ∧ of2 = _ := by simpa using hbE2
        obtain rfl : es = [.bool (may.getD k default)] := hre
        have e0 := hve 0 _ rfl
        rw [Nat.add_zero, Nat.mul_one] at e0
        obtain ⟨D, off, rfl, hD, _, cs, hra, hva⟩ := (HS.out wr hrun.out).1.get hlt
        obtain rfl : cs = [.int .i64 (s.getD k default)] := hra
        have d0 := hva 0 _ rfl
        rw [Nat.add_zero, Nat.mul_one] at d0
        obtain ⟨_, _, hDD, _, _, cs3, hra3, hva3⟩ := (HS.out wr hrun.out).1.get hk0n
        obtain ⟨rfl, rfl⟩ : D = _ ∧ off = _ := by simpa using hDD
        obtain rfl : cs3 = [.int .i64 (s.getD k0 default)] := hra3
        have g0 := hva3 0 _ rfl
        rw [Nat.add_zero, Nat.mul_one] at g0
        obtain ⟨hb', hhb⟩ : ∃ h, h = hasB iEq (O.map (fun i : Nat => (i : Int))) (k : Int) := ⟨_, rfl⟩
        have HH : Hid (∀ q, Calls Try.prog 28 #[.slice la ml lc, .int .i64 (k : Int)] (wr.drewN q) fun e w' => e = .returned (.bool hb') ∧ w' = wr.drewN q) := fun q => by rw [hhb]; exact HasInt_calls la ml lc (fun _ => True) (O.map (fun i : Nat => (i : Int))) (k : Int) _ (HLs.out _ (below_drewN hrun.out q))
        have hin : hb' = true ↔ may.getD k default = true ∧ s.getD k default = s.getD k0 default := by rw [hhb, hasI_iff, HO.out]; exact best_in HK0.out hmin
        have htp : may.getD k default = true → s.getD k default ≤ s.getD k0 default := fun h => best_top HK0.out hmin h
        have HE : Hid (∀ q, Below w3.heap.size w3 (wr.drewN q)) := fun q => below_drewN hrun.out q
        clear hhb hve hva hva3 hrun hmin hDD hbE2
        generalize may.getD k default = y at e0 hin htp
        generalize s.getD k default = v at d0 hin htp
        generalize s.getD k0 default = v0 at g0 hin htp
        --M5
        cases y
        · obtain rfl : hb' = false := by cases hb' with | false => rfl | true => exact absurd (hin.1 rfl).1 (by decide)
          clear hin htp d0 g0
          go_upto_region 17 with fail
          go_quiet ((go_at_call 28; exact Calls.quiet_of_same (HH.out _)))
          generalize hZ : World.drewN _ _ = Z
          have HE2 : Hid (Below w3.heap.size w3 Z) := by rw [← hZ]; exact HE.out _
          clear hZ HH HE e0
          go_wp2_with fail
          go_roundw
          case rel => exact ⟨k + 1, by omega, by omega, by go_num, HE2⟩
          case measure => simp [intOf]; omega
        · have hle := htp rfl
          have hng : ¬ v0 < v := by omega
          by_cases hvv : v = v0
          · obtain rfl : hb' = true := hin.2 ⟨rfl, hvv⟩
            subst hvv
            clear hin htp hle
            go_upto_region 17 with fail
            go_quiet ((go_at_call 28; exact Calls.quiet_of_same (HH.out _)))
            generalize hZ : World.drewN _ _ = Z
            have HE2 : Hid (Below w3.heap.size w3 Z) := by rw [← hZ]; exact HE.out _
            clear hZ HH HE e0 d0 g0
            go_wp2_with fail
            go_roundw
            case rel => exact ⟨k + 1, by omega, by omega, by go_num, HE2⟩
            case measure => simp [intOf]; omega
          · obtain rfl : hb' = false := by cases hb' with | false => rfl | true => exact absurd (hin.1 rfl).2 hvv
            have hne : (v == v0) = false := by simpa using hvv
            clear hin htp hle
            go_upto_region 17 with fail
            go_quiet ((go_at_call 28; exact Calls.quiet_of_same (HH.out _)))
            generalize hZ : World.drewN _ _ = Z
            have HE2 : Hid (Below w3.heap.size w3 Z) := by rw [← hZ]; exact HE.out _
            clear hZ HH HE e0 d0 g0
            go_wp2_with fail
            go_roundw
            case rel => exact ⟨k + 1, by omega, by omega, by go_num, HE2⟩
            case measure => simp [intOf]; omega
      · have hor : ¬ k < n ∨ (k < n ∧ ¬ k < m) := by omega
        have HE0 : Hid (Below w3.heap.size w3 wr) := hrun.out
        clear hlb hrun
        --M6
        obtain hj | ⟨hj1, hj2⟩ := hor
        · have hltz : ¬ (k : Int) < (n : Int) := by omega
          clear hj
          go_wp2_with fail
          --M7
          go_loopw [11] (fun i z => ∃ d : Nat, d ≤ ml ∧ i = .int .i64 d ∧ Hid (Below w3.heap.size w3 z)) (fun i _ => ml - (intOf i).toNat)
          case atStart => exact ⟨0, Nat.zero_le _, rfl, HE0⟩
          case round =>
            clear HE0
            obtain ⟨d', hd, rfl, hrun⟩ := hrel
            by_cases hdl : d' < ml
            · have hdz : (d' : Int) < (ml : Int) := by omega
              have hdO : d' < O.length := by rw [HML.out]; exact hdl
              obtain ⟨D3, o3, rfl, hD3, _, c3, hr3, hv3⟩ := (HLs.out wr hrun.out).get hdl
              obtain rfl : c3 = [.int .i64 ((O.map (fun i : Nat => (i : Int))).getD d' default)] := hr3
              have hg : (O.map (fun i : Nat => (i : Int))).getD d' default = ((O.getD d' default : Nat) : Int) := by rw [List.getD_eq_getElem?_getD, List.getD_eq_getElem?_getD, List.getElem?_map, List.getElem?_eq_getElem hdO]; rfl
              have hpa : pickP s may (d' : Int) = ((O.getD d' default : Nat) : Int) := by rw [HO.out]; exact pick_at s may d' (by rw [← HO.out]; exact hdO) (by omega)
              obtain ⟨r, hr⟩ : ∃ r : Int, r = ((O.getD d' default : Nat) : Int) := ⟨_, rfl⟩
              rw [← hr] at hg hpa
              have d0 := hv3 0 _ rfl
              rw [Nat.add_zero, Nat.mul_one, hg] at d0
              have HC : Hid (∀ z, Below wr.heap.size wr z → z.cell? ⟨D3, o3 + d', none⟩ = some (.int .i64 r)) := fun z hz => (hz.cell (p := ⟨D3, o3 + d', none⟩) hD3).trans d0
              have HPk : Hid (∀ z, Below wr.heap.size wr z → Calls Try.prog 26 #[.slice a n cap, .slice (some ⟨E, of2, none⟩) m capb, .int .i64 (d' : Int)] z fun e w' => e = .returned (.int .i64 r) ∧ Below z.heap.size z w') := fun z hz => by rw [← hpa]; exact Pick_calls a n cap (fun _ => True) s (some ⟨E, of2, none⟩) m capb (fun _ => True) may (d' : Int) z (HS.out z (on2 hrun.out hz)).1 (HS.out z (on2 hrun.out hz)).2
              have HRn : Hid (Below w3.heap.size w3 wr) := hrun.out
              clear hr hg hpa d0 hv3 hdO hrun
              go_upto_region 22 with fail
              --M8
              have hb0 : Below wr.heap.size wr wr.drew := (Below.refl _ _).drew
              refine t0 (fun z => Below wr.heap.size wr z) hb0 (fun hHeld => ?_)
              generalize wr.drew = wd at hHeld ⊢
              clear hb0
              try go_frame
              refine' tk 0 ?_ ?_; rotate_left
              · intro z hz; clear hz; go_simp; try with_reducible rfl
              try go_frame
              refine' tk 1 ?_ ?_; rotate_left
              · intro z hz; clear hz; go_simp; try with_reducible rfl
              try go_frame
              refine' tk 2 ?_ ?_; rotate_left
              · intro z hz; clear hz; go_simp; try with_reducible rfl
              try go_frame
              refine' tk 4 ?_ ?_; rotate_left
              · intro z hz; clear hz; go_simp; try with_reducible rfl
              try go_frame
              refine' tk 5 ?_ ?_; rotate_left
              · intro z hz; clear hz; go_simp; try with_reducible rfl
              try go_frame
              refine' tk 6 ?_ ?_; rotate_left
              · intro z hz; clear hz; go_simp; try with_reducible rfl
              try go_frame
              refine' tk 7 ?_ ?_; rotate_left
              · intro z hz; have f := HC.out z hz; clear hz; go_simp; try with_reducible rfl
              try go_frame
              --M8b
              have hA := HPk.out wd hHeld
              refine tr 3 (fun K hK => ?_)
              go_simp
              refine hA.mono ?_
              rintro e v1w ⟨rfl, hq⟩
              clear hA
              have hb9 : Below wr.heap.size wr v1w := on2 hHeld hq
              go_wp2_with fail
              refine hK.out _ _ hb9 (fun hHeld2 => ?_)
              clear hb9
              clear hK K hHeld; have hHeld := hHeld2; clear hHeld2
              try go_frame
              refine' tk 8 ?_ ?_; rotate_left
              · intro z hz; clear hz; go_simp; try with_reducible rfl
              try go_frame
              refine tz ?_
              --M9
              have HE2 : Hid (Below w3.heap.size w3 v1w) := on2 HRn.out hHeld
              clear hHeld HC HPk HRn
              go_wp2_with fail
              go_roundw
              case rel => exact ⟨d' + 1, by omega, by go_num, HE2⟩
              case measure => simp [intOf]; omega
            · have hdz : ¬ (d' : Int) < (ml : Int) := by omega
              have HE2 : Hid (Below w.heap.size w wr) := on2 HB3.out hrun.out
              clear hrun
              go_wp2_with fail
              go_ret
              exact ⟨rfl, HE2.out⟩
        · have hltz : (k : Int) < (n : Int) := by omega
          have hlmz : ¬ (k : Int) < (m : Int) := by omega
          clear hj1 hj2
          go_wp2_with fail
          --N7
          go_loopw [11] (fun i z => ∃ d : Nat, d ≤ ml ∧ i = .int .i64 d ∧ Hid (Below w3.heap.size w3 z)) (fun i _ => ml - (intOf i).toNat)
          case atStart => exact ⟨0, Nat.zero_le _, rfl, HE0⟩
          case round =>
            clear HE0
            obtain ⟨d', hd, rfl, hrun⟩ := hrel
            by_cases hdl : d' < ml
            · have hdz : (d' : Int) < (ml : Int) := by omega
              have hdO : d' < O.length := by rw [HML.out]; exact hdl
              obtain ⟨D3, o3, rfl, hD3, _, c3, hr3, hv3⟩ := (HLs.out wr hrun.out).get hdl
              obtain rfl : c3 = [.int .i64 ((O.map (fun i : Nat => (i : Int))).getD d' default)] := hr3
              have hg : (O.map (fun i : Nat => (i : Int))).getD d' default = ((O.getD d' default : Nat) : Int) := by rw [List.getD_eq_getElem?_getD, List.getD_eq_getElem?_getD, List.getElem?_map, List.getElem?_eq_getElem hdO]; rfl
              have hpa : pickP s may (d' : Int) = ((O.getD d' default : Nat) : Int) := by rw [HO.out]; exact pick_at s may d' (by rw [← HO.out]; exact hdO) (by omega)
              obtain ⟨r, hr⟩ : ∃ r : Int, r = ((O.getD d' default : Nat) : Int) := ⟨_, rfl⟩
              rw [← hr] at hg hpa
              have d0 := hv3 0 _ rfl
              rw [Nat.add_zero, Nat.mul_one, hg] at d0
              have HC : Hid (∀ z, Below wr.heap.size wr z → z.cell? ⟨D3, o3 + d', none⟩ = some (.int .i64 r)) := fun z hz => (hz.cell (p := ⟨D3, o3 + d', none⟩) hD3).trans d0
              have HPk : Hid (∀ z, Below wr.heap.size wr z → Calls Try.prog 26 #[.slice a n cap, .slice (some ⟨E, of2, none⟩) m capb, .int .i64 (d' : Int)] z fun e w' => e = .returned (.int .i64 r) ∧ Below z.heap.size z w') := fun z hz => by rw [← hpa]; exact Pick_calls a n cap (fun _ => True) s (some ⟨E, of2, none⟩) m capb (fun _ => True) may (d' : Int) z (HS.out z (on2 hrun.out hz)).1 (HS.out z (on2 hrun.out hz)).2
              have HRn : Hid (Below w3.heap.size w3 wr) := hrun.out
              clear hr hg hpa d0 hv3 hdO hrun
              go_upto_region 22 with fail
              --N8
              have hb0 : Below wr.heap.size wr wr.drew := (Below.refl _ _).drew
              refine t0 (fun z => Below wr.heap.size wr z) hb0 (fun hHeld => ?_)
              generalize wr.drew = wd at hHeld ⊢
              clear hb0
              try go_frame
              refine' tk 0 ?_ ?_; rotate_left
              · intro z hz; clear hz; go_simp; try with_reducible rfl
              try go_frame
              refine' tk 1 ?_ ?_; rotate_left
              · intro z hz; clear hz; go_simp; try with_reducible rfl
              try go_frame
              refine' tk 2 ?_ ?_; rotate_left
              · intro z hz; clear hz; go_simp; try with_reducible rfl
              try go_frame
              refine' tk 4 ?_ ?_; rotate_left
              · intro z hz; clear hz; go_simp; try with_reducible rfl
              try go_frame
              refine' tk 5 ?_ ?_; rotate_left
              · intro z hz; clear hz; go_simp; try with_reducible rfl
              try go_frame
              refine' tk 6 ?_ ?_; rotate_left
              · intro z hz; clear hz; go_simp; try with_reducible rfl
              try go_frame
              refine' tk 7 ?_ ?_; rotate_left
              · intro z hz; have f := HC.out z hz; clear hz; go_simp; try with_reducible rfl
              try go_frame
              have hA := HPk.out wd hHeld
              refine tr 3 (fun K hK => ?_)
              go_simp
              refine hA.mono ?_
              rintro e v1w ⟨rfl, hq⟩
              clear hA
              have hb9 : Below wr.heap.size wr v1w := on2 hHeld hq
              go_wp2_with fail
              refine hK.out _ _ hb9 (fun hHeld2 => ?_)
              clear hb9
              clear hK K hHeld; have hHeld := hHeld2; clear hHeld2
              try go_frame
              refine' tk 8 ?_ ?_; rotate_left
              · intro z hz; clear hz; go_simp; try with_reducible rfl
              try go_frame
              refine tz ?_
              have HE2 : Hid (Below w3.heap.size w3 v1w) := on2 HRn.out hHeld
              clear hHeld HC HPk HRn
              go_wp2_with fail
              go_roundw
              case rel => exact ⟨d' + 1, by omega, by go_num, HE2⟩
              case measure => simp [intOf]; omega
            · have hdz : ¬ (d' : Int) < (ml : Int) := by omega
              have HE2 : Hid (Below w.heap.size w wr) := on2 HB3.out hrun.out
              clear hrun
              go_wp2_with fail
              go_ret
              exact ⟨rfl, HE2.out⟩
end Go.Proofs.Yteihniiacfghoaa
