/- FrameEach, walked over a frame that keeps what is said. Condition: what is handed in lies as is said of it. -/
import Derived.Test.YtoacbobchngooaaDoorQ06
import Derived.BigQuiet
namespace Go.Proofs.YtoacbobchngooaaDoor
open Go.RowKit Go.Maps
set_option linter.unusedSimpArgs false
set_option maxRecDepth 100000

theorem getD_map_fst {l : List PlugD} {j k : Nat} (hk : k < j) (hj : j ≤ l.length) : ((l.take j).map Prod.fst).getD k default = (l.getD k default).1 := by
  rw [List.getD_eq_getElem?_getD, List.getElem?_map, List.getElem?_take, if_pos hk, List.getD_eq_getElem?_getD, List.getElem?_eq_getElem (by omega : k < l.length)]; rfl
set_option maxHeartbeats 4000000 in
theorem each_walk (V : FrameOK) (a : Option Addr) (n cap : Nat) (l : List PlugD) (point : Int) (w : World) (hL : SlAt RPlug 7 80 (fun _ => True) w a n cap l) : Calls Tryd.prog 5 #[.slice a n cap, .int .i64 point] w fun e w' => e = .returned (.bool true) ∧ Below w.heap.size w w' := by
  have hn : Hid (l.length = n) := hL.1
  have HLn : Hid (n * 80 ≤ 140737488351232) := hL.2.2.2.1
  have hml : n < 1000000000000000 := by have := HLn.out; omega
  have HL0 : Hid (∀ z, Below w.heap.size w z → SlAt RPlug 7 80 (fun _ => True) z a n cap l) := fun z hz => hL.on RPlug.firm hz
  clear hL
  go_enter Tryd.func5, Tryd.ntmps5
  go_wp2_with fail
  refine (works17_calls V w).mono ?_
  rintro e w1 ⟨rfl, b1⟩
  have HB1 : Hid (Below w.heap.size w w1) := b1
  clear b1
  go_wp2_with fail
  have hAm := AmongS_calls point 4 (by decide) (by decide) w1
  --M1
  refine hAm.mono ?_
  rintro e w1' ⟨⟨t, rfl, ht⟩, hw⟩
  obtain rfl := hw.symm
  obtain ⟨pt, hpt⟩ : ∃ pt : Int, pt = 1 + (t : Int) := ⟨_, rfl⟩
  have hp4 : 1 ≤ pt ∧ pt ≤ 4 := by omega
  have hptz : 1 + (t : Int) = pt := hpt.symm
  have hA := plugins_calls a n cap (fun _ => True) l w1 (HL0.out w1 HB1.out)
  clear hAm hw hpt
  go_wp2_with fail
  --M2
  refine hA.mono ?_
  rintro e w2 ⟨v2, rfl, hr2⟩
  obtain ⟨oa, oc, rfl, os⟩ := hr2.slF (bytes := 80) RPlug.firm (by rw [hn.out]; exact HLn.out)
  have os := os.weak RPlug.firm (A' := (fun _ => True)) (fun _ _ _ => trivial)
  rw [hn.out] at os ⊢
  have hA := V.new oa n oc (fun _ => True) l w2 os
  have HB2 : Hid (Below w.heap.size w w2) := on2 HB1.out hr2.below
  clear os hr2 hptz HB1
  go_wp2_with fail
  --M3
  refine hA.mono ?_
  rintro e w3 ⟨b3, ⟨hok, p, rfl, hP⟩ | ⟨hno, rfl⟩⟩
  case inr =>
    have HB3 : Hid (Below w.heap.size w w3) := on2 HB2.out b3
    clear hA b3 hno
    go_wp2_with fail
    go_ret
    exact ⟨rfl, HB3.out⟩
  have HB3 : Hid (Below w.heap.size w w3) := on2 HB2.out b3
  have HV : Hid (newB l = true) := hok
  have hA := V.run hP (fun b hb => Nat.le_trans b3.size hb) (by show (0 : Nat) ≤ 100000; decide) pt
  obtain ⟨j, hj, hnm, hc03, hc34⟩ := each_words hok hp4
  have HCl : Hid ((runP (newP l) pt).1.2.2.length ≤ 1000) := calls_len hok hp4
  obtain ⟨c, hc⟩ : ∃ c, c = (runP (newP l) pt).2 := ⟨_, rfl⟩
  rw [← hc] at hA hc03 hc34
  rw [runE_in ⟨hp4.1, by omega⟩] at hA
  have HB2' : Hid (Below w2.heap.size w2 w3) := b3
  rw [hn.out] at hj hc03
  have HNm : Hid (namesP (runP (newP l) pt).1.2.2 (digS pt) = (l.take j).map Prod.fst) := hnm
  clear hP b3 hok hc hnm
  go_wp2_with fail
  --M4
  refine hA.mono ?_
  rintro e w4 ⟨rfl, hP, ht4⟩
  have HB4 : Hid (Below w.heap.size w w4) := on2 HB2.out (Turns.behind HB2'.out ht4)
  have hA := V.calls hP (Nat.le_trans HCl.out (by decide))
  clear hP ht4 HB2' HB3
  go_wp2_with fail
  --M5
  refine hA.mono ?_
  rintro e w5 ⟨v5, rfl, hr5⟩
  obtain ⟨la, lc, rfl, ls⟩ := (hr5.wAG RTxt.firm (A' := (fun _ => True)) (fun _ h => h.elim)).slF (bytes := 16) RTxt.firm (by have := HCl.out; omega)
  have ls := ls.weak RTxt.firm (A' := (fun _ => True)) (fun _ _ _ => trivial)
  obtain ⟨ml, hml2⟩ : ∃ ml, ml = (runP (newP l) pt).1.2.2.length := ⟨_, rfl⟩
  rw [← hml2] at ls ⊢
  have HB5 : Hid (Below w.heap.size w w5) := on2 HB4.out hr5.below
  have hA := ritoa_calls pt w5 (by omega) (by omega)
  have HLs : Hid (∀ z, Below w5.heap.size w5 z → SlAt RTxt 1 16 (fun _ => True) z la ml lc (runP (newP l) pt).1.2.2) := fun z hz => ls.on RTxt.firm hz
  clear hr5 ls hml2 HB4
  go_wp2_with fail
  --M6
  refine hA.mono ?_
  rintro e w6 ⟨rfl, b6⟩
  have hA := names_calls17 la ml lc (fun _ => True) (runP (newP l) pt).1.2.2 (digS pt) (by rw [dig_size ⟨hp4.1, by omega⟩]; decide) w6 (HLs.out w6 b6)
  rw [HNm.out] at hA
  have HB6 : Hid (Below w.heap.size w w6) := on2 HB5.out b6
  have hdg : (⟨(Lib.decDigits pt.toNat).toArray⟩ : ByteArray) = digS pt := rfl
  rw [hdg]
  clear HLs b6 HB5 HNm hdg
  go_wp2_with fail
  --M7
  refine hA.mono ?_
  rintro e w7 ⟨v7, rfl, hr7⟩
  have HAl : Hid (((l.take j).map Prod.fst).length = j) := by rw [Hid, List.length_map, List.length_take, hn.out]; omega
  obtain ⟨ka, kc, rfl, ks⟩ := (hr7.wAG RTxt.firm (A' := (fun _ => True)) (fun _ h => h.elim)).slF (bytes := 16) RTxt.firm (by rw [HAl.out]; have := new64 HV.out; rw [hn.out] at this; omega)
  have ks := ks.weak RTxt.firm (A' := (fun _ => True)) (fun _ _ _ => trivial)
  rw [HAl.out] at ks ⊢
  have HKs : Hid (∀ z, Below w7.heap.size w7 z → SlAt RTxt 1 16 (fun _ => True) z ka j kc ((l.take j).map Prod.fst) ∧ SlAt RPlug 7 80 (fun _ => True) z a n cap l) := fun z hz => ⟨ks.on RTxt.firm hz, HL0.out z (on2 HB6.out (on2 hr7.below hz))⟩
  have HB7 : Hid (Below w.heap.size w w7) := on2 HB6.out hr7.below
  have hjn : ¬ (n : Int) < (j : Int) := by omega
  clear hr7 ks HB6 HL0 HAl
  have hcs : c = 0 ∨ c = 3 ∨ ((c == 0) = false ∧ (c == 3) = false) := by
    by_cases h0 : c = 0
    · exact .inl h0
    · by_cases h3 : c = 3
      · exact .inr (.inl h3)
      · exact .inr (.inr ⟨by simpa using h0, by simpa using h3⟩)
  --M8
  rcases hcs with rfl | rfl | ⟨h0, h3⟩
  · have HJN : Hid (j = n) := hc03 (.inl rfl); have hne : ((j : Int) != (n : Int)) = false := (by rw [HJN.out]; simp)
    clear hc03
    go_wp2_with fail
    --R0
    go_loopw [9] (fun i z => ∃ k : Nat, k ≤ j ∧ i = .int .i64 k ∧ Hid (Below w7.heap.size w7 z)) (fun i _ => j - (intOf i).toNat)
    case atStart => exact ⟨0, Nat.zero_le _, rfl, Below.refl _ _⟩
    case round =>
      obtain ⟨k, hk, rfl, hrun⟩ := hrel
      by_cases hlt : k < j
      · have hltz : (k : Int) < (j : Int) := by omega
        have hkn : k < n := by omega
        have hknz : (k : Int) < (n : Int) := by omega
        obtain ⟨D, off, rfl, hD, _, cs, hra, hva⟩ := (HKs.out wr hrun.out).1.get hlt
        obtain ⟨rfl, _⟩ : cs = [.string (((l.take j).map Prod.fst).getD k default)] ∧ _ := hra
        obtain ⟨E, of2, rfl, hE, _, ds, hrb, hvb⟩ := (HKs.out wr hrun.out).2.get hkn
        obtain ⟨sa, sn, sc, rfl, _, _⟩ := hrb.out
        have d0 := hva 0 _ rfl
        have e0 := hvb 0 _ rfl
        rw [Nat.add_zero, Nat.mul_one, getD_map_fst hlt (by rw [hn.out]; omega)] at d0
        rw [Nat.add_zero] at e0
        obtain ⟨x, hx⟩ : ∃ x, x = (l.getD k default).1 := ⟨_, rfl⟩
        rw [← hx] at d0 e0
        have hxx : (x.toList == x.toList) = true := by simp
        have HRn : Hid (Below w7.heap.size w7 wr) := hrun.out
        clear hva hvb hrb hx hrun
        go_upto_region 14 with fail
        go_quiet (fail)
        generalize hZ : World.drewN _ _ = Z
        have HE : Hid (Below w7.heap.size w7 Z) := by rw [← hZ]; exact below_drewN HRn.out _
        clear hZ HRn d0 e0
        go_wp2_with fail
        go_roundw
        case rel => exact ⟨k + 1, by omega, by go_num, HE⟩
        case measure => simp [intOf]; omega
      · have hltz : ¬ (k : Int) < (j : Int) := by omega
        have HE : Hid (Below w.heap.size w wr) := on2 HB7.out hrun.out
        clear hrun
        skip
        skip
        go_wp2_with fail
        go_ret
        exact ⟨rfl, HE.out⟩
  · have HJN : Hid (j = n) := hc03 (.inr rfl); have hne : ((j : Int) != (n : Int)) = false := (by rw [HJN.out]; simp); have HP4 : Hid (pt = 4) := hc34 rfl; clear hc34
    clear hc03
    go_wp2_with fail
    --R1
    go_loopw [9] (fun i z => ∃ k : Nat, k ≤ j ∧ i = .int .i64 k ∧ Hid (Below w7.heap.size w7 z)) (fun i _ => j - (intOf i).toNat)
    case atStart => exact ⟨0, Nat.zero_le _, rfl, Below.refl _ _⟩
    case round =>
      obtain ⟨k, hk, rfl, hrun⟩ := hrel
      by_cases hlt : k < j
      · have hltz : (k : Int) < (j : Int) := by omega
        have hkn : k < n := by omega
        have hknz : (k : Int) < (n : Int) := by omega
        obtain ⟨D, off, rfl, hD, _, cs, hra, hva⟩ := (HKs.out wr hrun.out).1.get hlt
        obtain ⟨rfl, _⟩ : cs = [.string (((l.take j).map Prod.fst).getD k default)] ∧ _ := hra
        obtain ⟨E, of2, rfl, hE, _, ds, hrb, hvb⟩ := (HKs.out wr hrun.out).2.get hkn
        obtain ⟨sa, sn, sc, rfl, _, _⟩ := hrb.out
        have d0 := hva 0 _ rfl
        have e0 := hvb 0 _ rfl
        rw [Nat.add_zero, Nat.mul_one, getD_map_fst hlt (by rw [hn.out]; omega)] at d0
        rw [Nat.add_zero] at e0
        obtain ⟨x, hx⟩ : ∃ x, x = (l.getD k default).1 := ⟨_, rfl⟩
        rw [← hx] at d0 e0
        have hxx : (x.toList == x.toList) = true := by simp
        have HRn : Hid (Below w7.heap.size w7 wr) := hrun.out
        clear hva hvb hrb hx hrun
        go_upto_region 14 with fail
        go_quiet (fail)
        generalize hZ : World.drewN _ _ = Z
        have HE : Hid (Below w7.heap.size w7 Z) := by rw [← hZ]; exact below_drewN HRn.out _
        clear hZ HRn d0 e0
        go_wp2_with fail
        go_roundw
        case rel => exact ⟨k + 1, by omega, by go_num, HE⟩
        case measure => simp [intOf]; omega
      · have hltz : ¬ (k : Int) < (j : Int) := by omega
        have HE : Hid (Below w.heap.size w wr) := on2 HB7.out hrun.out
        clear hrun
        obtain rfl := HP4.out
        skip
        go_wp2_with fail
        go_ret
        exact ⟨rfl, HE.out⟩
  · skip
    clear hc03
    go_wp2_with fail
    --R2
    go_loopw [9] (fun i z => ∃ k : Nat, k ≤ j ∧ i = .int .i64 k ∧ Hid (Below w7.heap.size w7 z)) (fun i _ => j - (intOf i).toNat)
    case atStart => exact ⟨0, Nat.zero_le _, rfl, Below.refl _ _⟩
    case round =>
      obtain ⟨k, hk, rfl, hrun⟩ := hrel
      by_cases hlt : k < j
      · have hltz : (k : Int) < (j : Int) := by omega
        have hkn : k < n := by omega
        have hknz : (k : Int) < (n : Int) := by omega
        obtain ⟨D, off, rfl, hD, _, cs, hra, hva⟩ := (HKs.out wr hrun.out).1.get hlt
        obtain ⟨rfl, _⟩ : cs = [.string (((l.take j).map Prod.fst).getD k default)] ∧ _ := hra
        obtain ⟨E, of2, rfl, hE, _, ds, hrb, hvb⟩ := (HKs.out wr hrun.out).2.get hkn
        obtain ⟨sa, sn, sc, rfl, _, _⟩ := hrb.out
        have d0 := hva 0 _ rfl
        have e0 := hvb 0 _ rfl
        rw [Nat.add_zero, Nat.mul_one, getD_map_fst hlt (by rw [hn.out]; omega)] at d0
        rw [Nat.add_zero] at e0
        obtain ⟨x, hx⟩ : ∃ x, x = (l.getD k default).1 := ⟨_, rfl⟩
        rw [← hx] at d0 e0
        have hxx : (x.toList == x.toList) = true := by simp
        have HRn : Hid (Below w7.heap.size w7 wr) := hrun.out
        clear hva hvb hrb hx hrun
        go_upto_region 14 with fail
        go_quiet (fail)
        generalize hZ : World.drewN _ _ = Z
        have HE : Hid (Below w7.heap.size w7 Z) := by rw [← hZ]; exact below_drewN HRn.out _
        clear hZ HRn d0 e0
        go_wp2_with fail
        go_roundw
        case rel => exact ⟨k + 1, by omega, by go_num, HE⟩
        case measure => simp [intOf]; omega
      · have hltz : ¬ (k : Int) < (j : Int) := by omega
        have HE : Hid (Below w.heap.size w wr) := on2 HB7.out hrun.out
        clear hrun
        skip
        have hn3 : (c != 3) = true := by rw [bne_of, h3]; rfl
        go_wp2_with fail
        go_ret
        exact ⟨rfl, HE.out⟩
end Go.Proofs.YtoacbobchngooaaDoor
