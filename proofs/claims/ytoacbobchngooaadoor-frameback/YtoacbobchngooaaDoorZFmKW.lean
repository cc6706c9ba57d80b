/- FrameBack, walked over a frame that keeps what is said. Condition: what is handed in lies as is said of it. -/
import Derived.Test.YtoacbobchngooaaDoorQ06
import Derived.BigQuiet
namespace Go.Proofs.YtoacbobchngooaaDoor
open Go.RowKit Go.Maps
set_option linter.unusedSimpArgs false
set_option maxRecDepth 100000

theorem getD_map_fstK {l : List PlugD} {j k : Nat} (hk : k < j) (hj : j ≤ l.length) : ((l.take j).map Prod.fst).getD k default = (l.getD k default).1 := by
  rw [List.getD_eq_getElem?_getD, List.getElem?_map, List.getElem?_take, if_pos hk, List.getD_eq_getElem?_getD, List.getElem?_eq_getElem (by omega : k < l.length)]; rfl
theorem getD_rev {L : List ByteArray} {k : Nat} (hk : k < L.length) : L.reverse.getD (L.length - 1 - k) default = L.getD k default := by
  rw [List.getD_eq_getElem?_getD, List.getD_eq_getElem?_getD, List.getElem?_reverse (by omega), show L.length - 1 - (L.length - 1 - k) = k by omega]
/-- A reserve of a fresh frame, in the words of FrameBack. -/
theorem back_words {l : List PlugD} (h : newB l = true) : ∃ j, j ≤ l.length ∧ namesP (runP (newP l) 3).1.2.2 (digS 3) = (l.take j).map Prod.fst ∧ namesP (runP (newP l) 3).1.2.2 (digS 5) = (if (runP (newP l) 3).2 = 0 then [] else ((l.take j).map Prod.fst).reverse) ∧ (runP (newP l) 3).1.2.2.length = j + (if (runP (newP l) 3).2 = 0 then 0 else j) ∧
    ((runP (newP l) 3).2 = 0 → j = l.length) ∧ ((runP (newP l) 3).2 ≠ 0 → 0 < j ∧ (l.getD (j - 1) default).2.2.2.1 ≠ 0 ∧ (l.getD (j - 1) default).2.2.2.1 ≠ 4 ∧ ((runP (newP l) 3).2 == 1) = ((l.getD (j - 1) default).2.2.2.1 == 1)) := by
  obtain ⟨j, h1, h2, h3, h4, h5⟩ := run_fresh h (pt := 3) (by decide)
  rw [runP_mid _ (by decide)]
  show ∃ j, j ≤ l.length ∧ namesP (runL l 3 l 0 (l.map fun _ => false) [] false).2.1 (digS 3) = _ ∧ namesP (runL l 3 l 0 (l.map fun _ => false) [] false).2.1 (digS 5) = (if (runL l 3 l 0 (l.map fun _ => false) [] false).2.2 = 0 then [] else _) ∧ (runL l 3 l 0 (l.map fun _ => false) [] false).2.1.length = j + (if (runL l 3 l 0 (l.map fun _ => false) [] false).2.2 = 0 then 0 else j) ∧ ((runL l 3 l 0 (l.map fun _ => false) [] false).2.2 = 0 → _) ∧ ((runL l 3 l 0 (l.map fun _ => false) [] false).2.2 ≠ 0 → 0 < j ∧ _ ∧ _ ∧ ((runL l 3 l 0 (l.map fun _ => false) [] false).2.2 == 1) = _)
  generalize runL l 3 l 0 (l.map fun _ => false) [] false = R at h2 h3 h4 h5
  have hc3 : R.2.2 ≠ 3 := fun e => by have := h4 e; omega
  refine ⟨j, h1, ?_, ?_, ?_, fun e => h3 (.inl e), fun e => ?_⟩
  · rw [h2, run_names h j (by decide) (by decide), if_pos rfl, if_neg (fun e => by have := e.2; omega), List.append_nil]
  · rw [h2, run_names h j (by decide) (by decide), if_neg (by decide), List.nil_append]
    by_cases hz : R.2.2 = 0
    · rw [if_neg (fun e => e.1.2 hz), if_pos hz]
    · rw [if_pos ⟨⟨rfl, hz⟩, rfl⟩, if_neg hz]
  · rw [h2, List.length_append, List.length_map, List.length_take, Nat.min_eq_left h1]
    by_cases hz : R.2.2 = 0
    · rw [if_neg (fun e => e.2 hz), if_pos hz]; rfl
    · rw [if_pos ⟨rfl, hz⟩, if_neg hz]
      unfold unresP; rw [List.length_map, List.length_reverse, List.length_take, Nat.min_eq_left h1]
  · obtain ⟨p1, p2, p3, p4⟩ := h5 ⟨e, hc3⟩
    have e1 : codeAt (l.getD (j - 1) default) 3 = (l.getD (j - 1) default).2.2.2.1 := by unfold codeAt; rw [if_neg (by decide), if_neg (by decide), if_pos rfl]
    rw [e1] at p2 p3 p4
    refine ⟨p1, p2, p3, ?_⟩
    rw [p4]; unfold endC
    generalize (l.getD (j - 1) default).2.2.2.1 = r at p2 p3
    by_cases hr : r = 3
    · subst hr; rfl
    · rw [if_neg hr]
set_option maxHeartbeats 4000000 in
theorem back_walk17 (V : FrameOK) (a : Option Addr) (n cap : Nat) (l : List PlugD) (w : World) (hL : SlAt RPlug 7 80 (fun _ => True) w a n cap l) : Calls Tryd.prog 4 #[.slice a n cap] w fun e w' => e = .returned (.bool true) ∧ Below w.heap.size w w' := by
  have hn : Hid (l.length = n) := hL.1
  have HLn : Hid (n * 80 ≤ 140737488351232) := hL.2.2.2.1
  have hml : n < 1000000000000000 := by have := HLn.out; omega
  have HL0 : Hid (∀ z, Below w.heap.size w z → SlAt RPlug 7 80 (fun _ => True) z a n cap l) := fun z hz => hL.on RPlug.firm hz
  clear hL
  go_enter Tryd.func4, Tryd.ntmps4
  go_wp2_with fail
  refine (works17_calls V w).mono ?_
  rintro e w1 ⟨rfl, b1⟩
  have HB1 : Hid (Below w.heap.size w w1) := b1
  have hA := plugins_calls a n cap (fun _ => True) l w1 (HL0.out w1 b1)
  clear b1
  go_wp2_with fail
  refine hA.mono ?_
  rintro e w2 ⟨v2, rfl, hr2⟩
  obtain ⟨oa, oc, rfl, os⟩ := hr2.slF (bytes := 80) RPlug.firm (by rw [hn.out]; exact HLn.out)
  have os := os.weak RPlug.firm (A' := (fun _ => True)) (fun _ _ _ => trivial)
  rw [hn.out] at os ⊢
  have hA := V.new oa n oc (fun _ => True) l w2 os
  have HB2 : Hid (Below w.heap.size w w2) := on2 HB1.out hr2.below
  clear os hr2 HB1
  go_wp2_with fail
  refine hA.mono ?_
  rintro e w3 ⟨b3, ⟨hok, p, rfl, hP⟩ | ⟨hno, rfl⟩⟩
  case inr =>
    have HB3 : Hid (Below w.heap.size w w3) := on2 HB2.out b3
    clear hA b3 hno
    go_wp2_with fail
    go_ret
    exact ⟨rfl, HB3.out⟩
  have HV : Hid (newB l = true) := hok
  have hA := V.run hP (fun b hb => Nat.le_trans b3.size hb) (by show (0 : Nat) ≤ 100000; decide) 3
  obtain ⟨j, hj, hup, hdn, hlen, hc0, hcn⟩ := back_words hok
  have HCl : Hid ((runP (newP l) 3).1.2.2.length ≤ 1000) := calls_len hok (by decide)
  obtain ⟨c, hc⟩ : ∃ c, c = (runP (newP l) 3).2 := ⟨_, rfl⟩
  rw [← hc] at hA hdn hlen hc0 hcn
  rw [runE_in (by decide)] at hA
  have HB2' : Hid (Below w2.heap.size w2 w3) := b3
  rw [hn.out] at hj hc0
  have HUp : Hid (namesP (runP (newP l) 3).1.2.2 (digS 3) = (l.take j).map Prod.fst) := hup
  have HDn : Hid (namesP (runP (newP l) 3).1.2.2 (digS 5) = (if c = 0 then [] else ((l.take j).map Prod.fst).reverse)) := hdn
  have HLen : Hid ((runP (newP l) 3).1.2.2.length = j + (if c = 0 then 0 else j)) := hlen
  have HC0 : Hid (c = 0 → j = n) := hc0
  have HCn : Hid (c ≠ 0 → 0 < j ∧ (l.getD (j - 1) default).2.2.2.1 ≠ 0 ∧ (l.getD (j - 1) default).2.2.2.1 ≠ 4 ∧ (c == 1) = ((l.getD (j - 1) default).2.2.2.1 == 1)) := hcn
  clear hP b3 hok hc hup hdn hlen hc0 hcn
  go_wp2_with fail
  --M4
  refine hA.mono ?_
  rintro e w4 ⟨rfl, hP, ht4⟩
  have HB4 : Hid (Below w.heap.size w w4) := on2 HB2.out (Turns.behind HB2'.out ht4)
  have hA := V.calls hP (Nat.le_trans HCl.out (by decide))
  clear hP ht4 HB2'
  go_wp2_with fail
  refine hA.mono ?_
  rintro e w5 ⟨v5, rfl, hr5⟩
  obtain ⟨la, lc, rfl, ls⟩ := (hr5.wAG RTxt.firm (A' := (fun _ => True)) (fun _ h => h.elim)).slF (bytes := 16) RTxt.firm (by have := HCl.out; omega)
  have ls := ls.weak RTxt.firm (A' := (fun _ => True)) (fun _ _ _ => trivial)
  rw [HLen.out] at ls ⊢
  obtain ⟨ml, hml2⟩ : ∃ ml, ml = j + (if c = 0 then 0 else j) := ⟨_, rfl⟩
  rw [← hml2] at ls ⊢
  have HMl : Hid (ml = j + (if c = 0 then 0 else j)) := hml2
  have HB5 : Hid (Below w.heap.size w w5) := on2 HB4.out hr5.below
  have HLs : Hid (∀ z, Below w5.heap.size w5 z → SlAt RTxt 1 16 (fun _ => True) z la ml lc (runP (newP l) 3).1.2.2) := fun z hz => ls.on RTxt.firm hz
  have hA := names_calls17 la ml lc (fun _ => True) (runP (newP l) 3).1.2.2 ⟨#[51]⟩ (by decide) w5 ls
  rw [← dig3, HUp.out, dig3] at hA
  clear hr5 ls hml2 HB4 HUp
  go_wp2_with fail
  --M5
  refine hA.mono ?_
  rintro e w6 ⟨v6, rfl, hr6⟩
  have HAl : Hid (((l.take j).map Prod.fst).length = j) := by rw [Hid, List.length_map, List.length_take, hn.out]; omega
  obtain ⟨ka, kc, rfl, ks⟩ := (hr6.wAG RTxt.firm (A' := (fun _ => True)) (fun _ h => h.elim)).slF (bytes := 16) RTxt.firm (by rw [HAl.out]; have := new64 HV.out; rw [hn.out] at this; omega)
  have ks := ks.weak RTxt.firm (A' := (fun _ => True)) (fun _ _ _ => trivial)
  rw [HAl.out] at ks ⊢
  have HB6 : Hid (Below w.heap.size w w6) := on2 HB5.out hr6.below
  have HKs : Hid (∀ z, Below w6.heap.size w6 z → SlAt RTxt 1 16 (fun _ => True) z ka j kc ((l.take j).map Prod.fst)) := fun z hz => ks.on RTxt.firm hz
  have hA := names_calls17 la ml lc (fun _ => True) (runP (newP l) 3).1.2.2 ⟨#[53]⟩ (by decide) w6 (HLs.out w6 hr6.below)
  rw [← dig5, HDn.out, dig5] at hA
  clear hr6 ks HB5 HLs HDn
  go_wp2_with fail
  --M6
  refine hA.mono ?_
  rintro e w7 ⟨v7, rfl, hr7⟩
  have HB7 : Hid (Below w.heap.size w w7) := on2 HB6.out hr7.below
  by_cases hc0 : c = 0
  · subst hc0
    have hjn : Hid (j = n) := HC0.out rfl
    have hml3 : Hid (ml = j) := by rw [Hid, HMl.out, if_pos rfl, Nat.add_zero]
    rw [if_pos rfl] at hr7
    obtain ⟨da, dc, rfl, _⟩ := hr7.formF
    have e0 : ([] : List ByteArray).length = 0 := rfl
    have e1 : ((j : Int) != (ml : Int)) = false := by rw [hml3.out]; simp
    have e2 : ((j : Int) == (n : Int)) = true := by rw [hjn.out]; simp
    rw [e0]
    clear hr7 HC0 HCn HMl HB6 e0
    go_wp2_with fail
    --M7
    go_ret
    exact ⟨rfl, HB7.out⟩
  · rw [if_neg hc0] at hr7
    obtain ⟨hj0, hr0, hr4, hc1⟩ := HCn.out hc0
    have hml3 : Hid (ml = j + j) := by rw [Hid, HMl.out, if_neg hc0]
    have HRl : Hid (((l.take j).map Prod.fst).reverse.length = j) := by rw [Hid, List.length_reverse, HAl.out]
    obtain ⟨da, dc, rfl, dsl⟩ := (hr7.wAG RTxt.firm (A' := (fun _ => True)) (fun _ h => h.elim)).slF (bytes := 16) RTxt.firm (by rw [HRl.out]; have := new64 HV.out; rw [hn.out] at this; omega)
    have dsl := dsl.weak RTxt.firm (A' := (fun _ => True)) (fun _ _ _ => trivial)
    rw [HRl.out] at dsl ⊢
    have HDs : Hid (∀ z, Below w7.heap.size w7 z → SlAt RTxt 1 16 (fun _ => True) z da j dc ((l.take j).map Prod.fst).reverse ∧ SlAt RTxt 1 16 (fun _ => True) z ka j kc ((l.take j).map Prod.fst) ∧ SlAt RPlug 7 80 (fun _ => True) z a n cap l) := fun z hz => ⟨dsl.on RTxt.firm hz, HKs.out z (on2 hr7.below hz), HL0.out z (on2 HB7.out hz)⟩
    have hcz : (c == 0) = false := by simpa using hc0
    have e1 : ((j : Int) + (j : Int) != (ml : Int)) = false := by rw [hml3.out]; simp
    have e2 : ((j : Int) == 0) = false := by simpa using (by omega : ¬ (j : Int) = 0)
    have e3 : ¬ (n : Int) < (j : Int) := by omega
    obtain ⟨r, hr⟩ : ∃ r, r = (l.getD (j - 1) default).2.2.2.1 := ⟨_, rfl⟩
    rw [← hr] at hr0 hr4 hc1
    have HR : Hid ((l.getD (j - 1) default).2.2.2.1 = r) := hr.symm
    have hrz : (r != 0) = true := by rw [bne_of]; simpa using hr0
    have hr4z : (r != 4) = true := by rw [bne_of]; simpa using hr4
    have HC1 : Hid (((c == 1) == (r == 1)) = true) := by rw [hc1, Hid]; cases (r == 1) <;> rfl
    clear hr7 dsl HKs HL0 HC0 HCn HMl HB6 hc0 hr hr0 hr4 hc1
    go_wp2_with fail
    --M8
    go_loopw [9] (fun i z => ∃ k : Nat, k ≤ j ∧ i = .int .i64 k ∧ Hid (Below w7.heap.size w7 z)) (fun i _ => j - (intOf i).toNat)
    case atStart => exact ⟨0, Nat.zero_le _, rfl, Below.refl _ _⟩
    case round =>
      obtain ⟨k, hk, rfl, hrun⟩ := hrel
      by_cases hlt : k < j
      · have hltz : (k : Int) < (j : Int) := by omega
        have hkn : k < n := by omega
        have hknz : (k : Int) < (n : Int) := by omega
        have hdk : j - 1 - k < j := by omega
        have hdz : (j : Int) - 1 - (k : Int) = ((j - 1 - k : Nat) : Int) := by omega
        have hdz2 : ((j - 1 - k : Nat) : Int) < (j : Int) := by omega
        obtain ⟨D, off, rfl, hD, _, cs, hra, hva⟩ := (HDs.out wr hrun.out).2.1.get hlt
        obtain ⟨rfl, _⟩ : cs = [.string (((l.take j).map Prod.fst).getD k default)] ∧ _ := hra
        obtain ⟨E, of2, rfl, hE, _, ds, hrb, hvb⟩ := (HDs.out wr hrun.out).2.2.get hkn
        obtain ⟨sa, sn, sc, rfl, _, _⟩ := hrb.out
        obtain ⟨G, of3, rfl, hG, _, es, hrc, hvc⟩ := (HDs.out wr hrun.out).1.get hdk
        obtain ⟨rfl, _⟩ : es = [.string (((l.take j).map Prod.fst).reverse.getD (j - 1 - k) default)] ∧ _ := hrc
        have d0 := hva 0 _ rfl
        have e0 := hvb 0 _ rfl
        have f0 := hvc 0 _ rfl
        have hrv := getD_rev (L := (l.take j).map Prod.fst) (k := k) (by rw [HAl.out]; exact hlt)
        rw [HAl.out] at hrv
        rw [Nat.add_zero, Nat.mul_one, hrv, getD_map_fstK hlt (by rw [hn.out]; omega)] at f0
        rw [Nat.add_zero, Nat.mul_one, getD_map_fstK hlt (by rw [hn.out]; omega)] at d0
        rw [Nat.add_zero] at e0
        obtain ⟨x, hx⟩ : ∃ x, x = (l.getD k default).1 := ⟨_, rfl⟩
        rw [← hx] at d0 e0 f0
        obtain ⟨q, hq⟩ : ∃ q, q = j - 1 - k := ⟨_, rfl⟩
        rw [← hq] at f0 hdz hdz2
        have hxx : (x.toList == x.toList) = true := by simp
        have HRn : Hid (Below w7.heap.size w7 wr) := hrun.out
        clear hva hvb hvc hrb hx hrun hrv hdk hq
        go_upto_region 18 with fail
        --M9
        go_quiet (fail)
        generalize hZ : World.drewN _ _ = Z
        have HE : Hid (Below w7.heap.size w7 Z) := by rw [← hZ]; exact below_drewN HRn.out _
        clear hZ HRn d0 e0 f0
        go_wp2_with fail
        --M10
        go_roundw
        case rel => exact ⟨k + 1, by omega, by go_num, HE⟩
        case measure => simp [intOf]; omega
      · have hltz : ¬ (k : Int) < (j : Int) := by omega
        have HE : Hid (Below w.heap.size w wr) := on2 HB7.out hrun.out
        have hjl : j - 1 < n := by omega
        have hjz : (j : Int) - 1 = ((j - 1 : Nat) : Int) := by omega
        have hjz2 : ((j - 1 : Nat) : Int) < (n : Int) := by omega
        obtain ⟨E, of2, rfl, hE, _, ds, hrb, hvb⟩ := (HDs.out wr hrun.out).2.2.get hjl
        obtain ⟨sa, sn, sc, rfl, _, _⟩ := hrb.out
        have e0 := hvb 3 _ rfl
        rw [HR.out] at e0
        obtain ⟨q, hq⟩ : ∃ q, q = j - 1 := ⟨_, rfl⟩
        rw [← hq] at e0 hjz hjz2
        clear hrun hvb hrb hq hjl
        have hC1 := HC1.out
        --M11
        go_wp2_with fail
        go_ret
        exact ⟨rfl, HE.out⟩
end Go.Proofs.YtoacbobchngooaaDoor
