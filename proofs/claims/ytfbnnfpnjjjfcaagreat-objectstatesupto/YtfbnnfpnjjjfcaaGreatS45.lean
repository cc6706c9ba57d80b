/- The document's CheckState, and its like. No condition beyond what each says. -/
import Derived.Test.YtfbnnfpnjjjfcaaGreatS44
namespace Go.Proofs.YtfbnnfpnjjjfcaaGreat
set_option maxHeartbeats 16000000
set_option maxRecDepth 100000
open Tryz Go.RowKit
set_option linter.unusedSimpArgs false
theorem rCheckState (ss : List Value) (A : Where) (x : StateD) (w : World) (h : RState A w ss x) (hf : FitsO x) : Calls prog 17 #[.agg ss.toArray] w fun e w' => e = .returned (.int .i64 (checkS x)) ∧ Below w.heap.size w w' := by
 have his : (prog.info? 61).map (·.size) = some ss.length := by rw [RState.firm.len h]; exact infoSta
 have HF0 : Hid (∀ t, t < 6 → okC x t = false → checkS x = 3) := fun t ht h => by rw [checkS, allTo_false ht h]; rfl
 have HF1 : Hid ((∀ t, t < 6 → okC x t = true) → ∀ t, t < 6 → okR x t = false → checkS x = 41) := fun hc t ht h => by rw [checkS, allTo_true hc, allTo_false ht h]; rfl
 have HF2 : Hid ((∀ t, t < 6 → okC x t = true) → (∀ t, t < 6 → okR x t = true) → checkS x = 0) := fun hc hr => by rw [checkS, allTo_true hc, allTo_true hr]; rfl
 have HA : Hid (∀ (j : Nat), j < 6 → ∀ u, Below w.heap.size w u → Calls prog 27 #[.agg ss.toArray, .int .i64 ((j : Int) + 1)] u fun e w' => ∃ a cap, e = .returned (.slice a (allO x j).length cap) ∧ SlAt RObject 40 624 (fun _ => True) w' a (allO x j).length cap (allO x j) ∧ Below u.heap.size u w') := fun j hj u hu => (rAll_all ss A x u (RState.firm.kept h (Kept.below hu)) hf j hj).mono fun _ _ ⟨a, cap, h1, h2, h3⟩ => ⟨a, cap, h1, h2.weak RObject.firm (fun _ _ _ => trivial), h3⟩
 have HC1 : Hid (∀ j, j < 6 → okC x j = decide ((allO x j).length ≤ 256)) := okC_all x
 have HC2 : Hid (∀ j, j < 6 → okR x j = allTo (allO x j).length (okI (allO x j))) := okR_all x
 obtain ⟨W1, hW1⟩ : ∃ W, W = w.alloc (.cells ss.toArray 61) := ⟨_, rfl⟩
 have HB1 : Hid (Held w [(w.heap.size, ss)] [] W1) := by rw [Hid, hW1]; exact (Held.start w).push rfl ss 61
 clear h hf
 generalize checkS x = RES at HF0 HF1 HF2 ⊢
 go_enter func17, ntmps17
 go_upto_region 1 with fail
 rw [← hW1]
 clear hW1
 go_wp2_with fail
 go_loopw [3] (fun i wr => ∃ j : Nat, j ≤ 6 ∧ i = .int .i64 ((j : Int) + 1) ∧ Hid (Held w [(w.heap.size, ss)] [] wr) ∧ Hid (∀ t, t < j → okC x t = true)) (fun i _ => 7 - (intOf i).toNat)
 case atStart => exact ⟨0, by omega, by simp, HB1, fun t ht => absurd ht (Nat.not_lt_zero _)⟩
 case round =>
  obtain ⟨j, hj, rfl, hH, hall⟩ := hrel
  by_cases hlt : j < 6
  ·
   have hltz : ((j : Int) + 1 ≤ 6) := by omega
   have HR := Hid.mk_ (hH.out.get 0 rfl)
   have hok := HC1.out j hlt
   have HOK : Hid (okC x j = decide ((allO x j).length ≤ 256)) := hok
   clear hok
   have hbad : Hid (okC x j = false → RES = 3) := HF0.out j hlt
   have hgo : Hid (okC x j = true → ∀ t, t < j + 1 → okC x t = true) := fun h => go_on hall.out h
   have HAj : Hid (∀ u, Below w.heap.size w u → Calls prog 27 #[.agg ss.toArray, .int .i64 ((j : Int) + 1)] u fun e w' => ∃ a cap, e = .returned (.slice a (allO x j).length cap) ∧ SlAt RObject 40 624 (fun _ => True) w' a (allO x j).length cap (allO x j) ∧ Below u.heap.size u w') := HA.out j hlt
   clear hall
   generalize allO x j = O at HAj HOK
   go_wp2_with (first | (refine BigFrame.wpList_want rfl (fun _ hKK => wp_load_mid 61 _ rfl (w.heap.size) 0 rfl ss _ HR.out underlying61 rfl his (hKK _ _ ?_))) | fail)
   refine (HAj.out _ hH.out.below).mono ?_
   rintro e u1 ⟨a, cap, rfl, _, hb1⟩
   have hH1 : Hid (Held w [(w.heap.size, ss)] [] u1) := hH.out.on hb1
   clear hb1 hH HR HAj
   by_cases hl : (256 : Int) < (O.length : Int)
   ·
    obtain rfl : RES = 3 := hbad.out (by rw [HOK.out]; simp; omega)
    clear hbad hgo HF0 HF1 HF2
    go_wp2_with fail
    go_ret
    exact ⟨rfl, hH1.out.below⟩
   have HG : Hid (∀ t, t < j + 1 → okC x t = true) := hgo.out (by rw [HOK.out]; simp; omega)
   clear hbad hgo
   go_wp2_with fail
   go_roundw
   case rel => exact ⟨j + 1, by omega, by go_num, hH1, HG⟩
   case measure => simp [intOf]; omega
  ·
   have hltz : ¬ ((j : Int) + 1 ≤ 6) := by omega
   have HCA : Hid (∀ t, t < 6 → okC x t = true) := fun t ht => hall.out t (by omega)
   have HE1 : Hid (∀ t, t < 6 → okR x t = false → RES = 41) := HF1.out HCA.out
   have HE2 : Hid ((∀ t, t < 6 → okR x t = true) → RES = 0) := HF2.out HCA.out
   clear hall HCA HF0 HF1 HF2 HC1
   go_wp2_with fail
   go_loopw [4] (fun i wr => ∃ j : Nat, j ≤ 6 ∧ i = .int .i64 ((j : Int) + 1) ∧ Hid (Held w [(w.heap.size, ss)] [] wr) ∧ Hid (∀ t, t < j → okR x t = true)) (fun i _ => 7 - (intOf i).toNat)
   case atStart => exact ⟨0, by omega, by simp, hH, fun t ht => absurd ht (Nat.not_lt_zero _)⟩
   case round =>
    obtain ⟨j2, hj2, rfl, hH2, hall⟩ := hrel
    by_cases hlt2 : j2 < 6
    ·
     have hltz2 : ((j2 : Int) + 1 ≤ 6) := by omega
     have HR := Hid.mk_ (hH2.out.get 0 rfl)
     have HOK : Hid (okR x j2 = allTo (allO x j2).length (okI (allO x j2))) := HC2.out j2 hlt2
     have hbad : Hid (okR x j2 = false → RES = 41) := HE1.out j2 hlt2
     have hgo : Hid (okR x j2 = true → ∀ t, t < j2 + 1 → okR x t = true) := fun h => go_on hall.out h
     have HAj : Hid (∀ u, Below w.heap.size w u → Calls prog 27 #[.agg ss.toArray, .int .i64 ((j2 : Int) + 1)] u fun e w' => ∃ a cap, e = .returned (.slice a (allO x j2).length cap) ∧ SlAt RObject 40 624 (fun _ => True) w' a (allO x j2).length cap (allO x j2) ∧ Below u.heap.size u w') := HA.out j2 hlt2
     clear hall
     generalize allO x j2 = O at HAj HOK
     go_wp2_with (first | (refine BigFrame.wpList_want rfl (fun _ hKK => wp_load_mid 61 _ rfl (w.heap.size) 0 rfl ss _ HR.out underlying61 rfl his (hKK _ _ ?_))) | fail)
     refine (HAj.out _ hH2.out.below).mono ?_
     rintro e u1 ⟨a, cap, rfl, hsl, hb1⟩
     have hH1 : Hid (Held w [(w.heap.size, ss)] [] u1) := hH2.out.on hb1
     have HSL : Hid (SlAt RObject 40 624 (fun _ => True) u1 a O.length cap O) := hsl
     have hln := hsl.len (by decide)
     obtain ⟨n, HN⟩ : ∃ n, Hid (O.length = n) := ⟨_, rfl⟩
     rw [HN.out] at HSL hln HOK ⊢
     clear hb1 hH2 HR HAj hsl
     go_wp2_with fail
     go_loopw [6] (fun i wr => ∃ m : Nat, m ≤ n ∧ i = .int .i64 m ∧ Hid (Below u1.heap.size u1 wr) ∧ Hid (∀ t, t < m → okI O t = true)) (fun i _ => n - (intOf i).toNat)
     case atStart => exact ⟨0, by omega, by simp, Below.refl _ _, fun t ht => absurd ht (Nat.not_lt_zero _)⟩
     case round =>
      obtain ⟨m, hm, rfl, hbm, hal⟩ := hrel
      by_cases hlm : m < n
      ·
       have hlz : (m : Int) < (n : Int) := by omega
       obtain ⟨B, off, rfl, hB, _, c1, hr, hv⟩ := (HSL.out.on RObject.firm hbm.out).get hlm
       have hi1 : (prog.info? 46).map (·.size) = some c1.length := by rw [RObject.firm.len hr]; exact infoObj
       have G1 : Hid (∀ u, Below wr.heap.size wr u → u.rangeAt B (off + m * 40) c1) := fun u hu => range_on hv hu hB
       have hokI : Hid (okI O m = ((checkO (O.getD m default) == 0) && (decide (m = 0) || sLt (nameO (O.getD (m - 1) default)) (nameO (O.getD m default))))) := rfl
       have hbadI : Hid (okI O m = false → RES = 41) := fun h => hbad.out (by rw [HOK.out]; exact allTo_false hlm h)
       have hgoI : Hid (okI O m = true → ∀ t, t < m + 1 → okI O t = true) := fun h => go_on hal.out h
       obtain ⟨c, hc⟩ : ∃ c, checkO (O.getD m default) = c := ⟨_, rfl⟩
       obtain ⟨nb, hnb⟩ : ∃ c, nameO (O.getD m default) = c := ⟨_, rfl⟩
       have HC : Hid (∀ u, Below wr.heap.size wr u → Calls prog 10 #[.agg c1.toArray] u fun e w' => e = .returned (.int .i64 c) ∧ Below u.heap.size u w') := fun u hu => by rw [← hc]; exact rCheck_all c1 _ _ u (RObject.firm.kept hr (Kept.below hu))
       have HN1 : Hid (∀ u, Below wr.heap.size wr u → Calls prog 12 #[.agg c1.toArray] u fun e w' => e = .returned (.string nb) ∧ Below u.heap.size u w') := fun u hu => by rw [← hnb]; exact rName_all c1 _ _ u (RObject.firm.kept hr (Kept.below hu))
       rw [hc, hnb] at hokI
       have HK := prev_of (n := n) (k := m) hlm (by omega)
       have hBw : B < wr.heap.size := hB
       clear hr hv hc hnb hal
       obtain ⟨b, hbz⟩ : ∃ b, (c == 0) = b := ⟨_, rfl⟩
       rw [hbz] at hokI
       have kz : (c != 0) = !b := by rw [← hbz]; rfl
       clear hbz
       cases b <;> simp only [Bool.not_false, Bool.not_true] at kz
       ·
        obtain rfl : RES = 41 := hbadI.out (by rw [hokI.out]; rfl)
        clear HE1 HE2 hbad hgo hbadI hgoI hokI HK HN1 HOK
        go_wp2_with fail
        refine t0 ((fun u => Below wr.heap.size wr u)) ((Below.refl _ wr).drew) (fun hH => ?_)
        refine tp 0 ?_; try go_frame
        refine tp 1 ?_; try go_frame
        refine tp 2 ?_; try go_frame
        refine tq 3 (.agg c1.toArray) (yieldsIf_load_mid (by rfl) 46 _ rfl B (off + m * 40) rfl c1 _ (fun u hu => G1.out u hu) underlying46 rfl hi1) ?_ (hi := rfl)
        try go_frame
        refine tr 4 (fun K hK => ?_)
        refine want_yes (by rfl) (call_enter (f := 10) (args := #[.agg c1.toArray]) (by kernel_rfl) (HC.out _ hH) (fun e v1 he => ?_))
        obtain ⟨rfl, hb_v1⟩ := he
        refine ⟨_, rfl, hK.out _ _ (on2 hH hb_v1) (fun hH => ?_)⟩
        clear hK K
        try go_frame
        refine tp 5 ?_; try go_frame
        refine tp 6 ?_; try go_frame
        refine tn 7 ?_; try go_frame
        refine tn 8 ?_; try go_frame
        refine tn 9 ?_; try go_frame
        refine tn 10 ?_; try go_frame
        refine tn 11 ?_; try go_frame
        refine tn 12 ?_; try go_frame
        refine tn 13 ?_; try go_frame
        refine tn 14 ?_; try go_frame
        refine tn 15 ?_; try go_frame
        refine tn 16 ?_; try go_frame
        refine tn 17 ?_; try go_frame
        refine tn 18 ?_; try go_frame
        refine tn 19 ?_; try go_frame
        refine tn 20 ?_; try go_frame
        refine tn 21 ?_; try go_frame
        refine tn 22 ?_; try go_frame
        refine tp 23 ?_; try go_frame
        refine tz ?_
        go_wp2_with fail
        go_ret
        exact ⟨rfl, (hH1.out.on (on2 hbm.out hH)).below⟩
       rcases HK with ⟨h0, b0⟩ | ⟨h0, b0, m0, hm0, hmw, hml⟩
       ·
        have HG : Hid (∀ t, t < m + 1 → okI O t = true) := hgoI.out (by rw [hokI.out, h0.out]; rfl)
        clear hbadI hgoI hokI h0 HN1
        go_wp2_with fail
        refine t0 ((fun u => Below wr.heap.size wr u)) ((Below.refl _ wr).drew) (fun hH => ?_)
        refine tp 0 ?_; try go_frame
        refine tp 1 ?_; try go_frame
        refine tp 2 ?_; try go_frame
        refine tq 3 (.agg c1.toArray) (yieldsIf_load_mid (by rfl) 46 _ rfl B (off + m * 40) rfl c1 _ (fun u hu => G1.out u hu) underlying46 rfl hi1) ?_ (hi := rfl)
        try go_frame
        refine tr 4 (fun K hK => ?_)
        refine want_yes (by rfl) (call_enter (f := 10) (args := #[.agg c1.toArray]) (by kernel_rfl) (HC.out _ hH) (fun e v1 he => ?_))
        obtain ⟨rfl, hb_v1⟩ := he
        refine ⟨_, rfl, hK.out _ _ (on2 hH hb_v1) (fun hH => ?_)⟩
        clear hK K
        try go_frame
        refine tp 5 ?_; try go_frame
        refine tp 6 ?_; try go_frame
        refine tp 7 ?_; try go_frame
        refine tp 8 ?_; try go_frame
        refine tp 9 ?_; try go_frame
        refine tn 10 ?_; try go_frame
        refine tn 11 ?_; try go_frame
        refine tn 12 ?_; try go_frame
        refine tn 13 ?_; try go_frame
        refine tn 14 ?_; try go_frame
        refine tn 15 ?_; try go_frame
        refine tn 16 ?_; try go_frame
        refine tn 17 ?_; try go_frame
        refine tn 18 ?_; try go_frame
        refine tn 19 ?_; try go_frame
        refine tn 20 ?_; try go_frame
        refine tn 21 ?_; try go_frame
        refine tp 22 ?_; try go_frame
        refine tp 23 ?_; try go_frame
        refine tz ?_
        have hHl : Hid (Below u1.heap.size u1 _) := on2 hbm.out hH
        clear hH
        go_wp2_with fail
        go_roundw
        case rel => exact ⟨m + 1, by omega, by go_num, hHl, HG⟩
        case measure => simp [intOf]; omega
       obtain ⟨B2, off2, e2, hB2, _, c0, hr0, hv0⟩ := (HSL.out.on RObject.firm hbm.out).get hml
       obtain ⟨rfl, rfl⟩ : B = B2 ∧ off = off2 := by simpa using e2
       have hi0 : (prog.info? 46).map (·.size) = some c0.length := by rw [RObject.firm.len hr0]; exact infoObj
       have G0 : Hid (∀ u, Below wr.heap.size wr u → u.rangeAt B (off + m0 * 40) c0) := fun u hu => range_on hv0 hu hB
       have hkm : m - 1 = m0 := by have := hm0.out; omega
       have hk0 : Hid (decide (m = 0) = false) := by have := h0.out; simp [Hid]; omega
       rw [hkm] at hokI
       obtain ⟨na, hna⟩ : ∃ c, nameO (O.getD m0 default) = c := ⟨_, rfl⟩
       have HN0 : Hid (∀ u, Below wr.heap.size wr u → Calls prog 12 #[.agg c0.toArray] u fun e w' => e = .returned (.string na) ∧ Below u.heap.size u w') := fun u hu => by rw [← hna]; exact rName_all c0 _ _ u (RObject.firm.kept hr0 (Kept.below hu))
       rw [hna] at hokI
       have hmlz : (m0 : Int) < (n : Int) := by omega
       clear hr0 hv0 e2 hB2 hkm h0 hna hm0
       cases hs : sLt na nb
       ·
        obtain rfl : RES = 41 := hbadI.out (by rw [hokI.out, hs, hk0.out]; rfl)
        unfold sLt at hs
        clear HE1 HE2 hbad hgo hbadI hgoI hokI HOK hk0
        go_wp2_with fail
        refine t0 ((fun u => Below wr.heap.size wr u)) ((Below.refl _ wr).drew) (fun hH => ?_)
        refine tp 0 ?_; try go_frame
        refine tp 1 ?_; try go_frame
        refine tp 2 ?_; try go_frame
        refine tq 3 (.agg c1.toArray) (yieldsIf_load_mid (by rfl) 46 _ rfl B (off + m * 40) rfl c1 _ (fun u hu => G1.out u hu) underlying46 rfl hi1) ?_ (hi := rfl)
        try go_frame
        refine tr 4 (fun K hK => ?_)
        refine want_yes (by rfl) (call_enter (f := 10) (args := #[.agg c1.toArray]) (by kernel_rfl) (HC.out _ hH) (fun e v1 he => ?_))
        obtain ⟨rfl, hb_v1⟩ := he
        refine ⟨_, rfl, hK.out _ _ (on2 hH hb_v1) (fun hH => ?_)⟩
        clear hK K
        try go_frame
        refine tp 5 ?_; try go_frame
        refine tp 6 ?_; try go_frame
        refine tp 7 ?_; try go_frame
        refine tp 8 ?_; try go_frame
        refine tp 9 ?_; try go_frame
        refine tp 10 ?_; try go_frame
        refine tp 11 ?_; try go_frame
        refine tp 12 ?_; try go_frame
        refine tp 13 ?_; try go_frame
        refine tq 14 (.agg c0.toArray) (yieldsIf_load_mid (by rfl) 46 _ rfl B (off + m0 * 40) rfl c0 _ (fun u hu => G0.out u hu) underlying46 rfl hi0) ?_ (hi := rfl)
        try go_frame
        refine tp 16 ?_; try go_frame
        refine tp 17 ?_; try go_frame
        refine tp 18 ?_; try go_frame
        refine tq 19 (.agg c1.toArray) (yieldsIf_load_mid (by rfl) 46 _ rfl B (off + m * 40) rfl c1 _ (fun u hu => G1.out u hu) underlying46 rfl hi1) ?_ (hi := rfl)
        try go_frame
        refine tr 15 (fun K hK => ?_)
        refine want_yes (by rfl) (call_enter (f := 12) (args := #[.agg c0.toArray]) (by kernel_rfl) (HN0.out _ hH) (fun e v2 he => ?_))
        obtain ⟨rfl, hb_v2⟩ := he
        refine ⟨_, rfl, hK.out _ _ (on2 hH hb_v2) (fun hH => ?_)⟩
        clear hK K
        try go_frame
        refine tr 20 (fun K hK => ?_)
        refine want_yes (by rfl) (call_enter (f := 12) (args := #[.agg c1.toArray]) (by kernel_rfl) (HN1.out _ hH) (fun e v3 he => ?_))
        obtain ⟨rfl, hb_v3⟩ := he
        refine ⟨_, rfl, hK.out _ _ (on2 hH hb_v3) (fun hH => ?_)⟩
        clear hK K
        try go_frame
        refine tp 21 ?_; try go_frame
        refine tp 22 ?_; try go_frame
        refine tp 23 ?_; try go_frame
        refine tz ?_
        go_wp2_with fail
        go_ret
        exact ⟨rfl, (hH1.out.on (on2 hbm.out hH)).below⟩
       have HG : Hid (∀ t, t < m + 1 → okI O t = true) := hgoI.out (by rw [hokI.out, hs, hk0.out]; rfl)
       unfold sLt at hs
       clear hbadI hgoI hokI hk0
       go_wp2_with fail
       refine t0 ((fun u => Below wr.heap.size wr u)) ((Below.refl _ wr).drew) (fun hH => ?_)
       refine tp 0 ?_; try go_frame
       refine tp 1 ?_; try go_frame
       refine tp 2 ?_; try go_frame
       refine tq 3 (.agg c1.toArray) (yieldsIf_load_mid (by rfl) 46 _ rfl B (off + m * 40) rfl c1 _ (fun u hu => G1.out u hu) underlying46 rfl hi1) ?_ (hi := rfl)
       try go_frame
       refine tr 4 (fun K hK => ?_)
       refine want_yes (by rfl) (call_enter (f := 10) (args := #[.agg c1.toArray]) (by kernel_rfl) (HC.out _ hH) (fun e v1 he => ?_))
       obtain ⟨rfl, hb_v1⟩ := he
       refine ⟨_, rfl, hK.out _ _ (on2 hH hb_v1) (fun hH => ?_)⟩
       clear hK K
       try go_frame
       refine tp 5 ?_; try go_frame
       refine tp 6 ?_; try go_frame
       refine tp 7 ?_; try go_frame
       refine tp 8 ?_; try go_frame
       refine tp 9 ?_; try go_frame
       refine tp 10 ?_; try go_frame
       refine tp 11 ?_; try go_frame
       refine tp 12 ?_; try go_frame
       refine tp 13 ?_; try go_frame
       refine tq 14 (.agg c0.toArray) (yieldsIf_load_mid (by rfl) 46 _ rfl B (off + m0 * 40) rfl c0 _ (fun u hu => G0.out u hu) underlying46 rfl hi0) ?_ (hi := rfl)
       try go_frame
       refine tp 16 ?_; try go_frame
       refine tp 17 ?_; try go_frame
       refine tp 18 ?_; try go_frame
       refine tq 19 (.agg c1.toArray) (yieldsIf_load_mid (by rfl) 46 _ rfl B (off + m * 40) rfl c1 _ (fun u hu => G1.out u hu) underlying46 rfl hi1) ?_ (hi := rfl)
       try go_frame
       refine tr 15 (fun K hK => ?_)
       refine want_yes (by rfl) (call_enter (f := 12) (args := #[.agg c0.toArray]) (by kernel_rfl) (HN0.out _ hH) (fun e v2 he => ?_))
       obtain ⟨rfl, hb_v2⟩ := he
       refine ⟨_, rfl, hK.out _ _ (on2 hH hb_v2) (fun hH => ?_)⟩
       clear hK K
       try go_frame
       refine tr 20 (fun K hK => ?_)
       refine want_yes (by rfl) (call_enter (f := 12) (args := #[.agg c1.toArray]) (by kernel_rfl) (HN1.out _ hH) (fun e v3 he => ?_))
       obtain ⟨rfl, hb_v3⟩ := he
       refine ⟨_, rfl, hK.out _ _ (on2 hH hb_v3) (fun hH => ?_)⟩
       clear hK K
       try go_frame
       refine tp 21 ?_; try go_frame
       refine tp 22 ?_; try go_frame
       refine tp 23 ?_; try go_frame
       refine tz ?_
       have hHl : Hid (Below u1.heap.size u1 _) := on2 hbm.out hH
       clear hH
       go_wp2_with fail
       go_roundw
       case rel => exact ⟨m + 1, by omega, by go_num, hHl, HG⟩
       case measure => simp [intOf]; omega
      ·
       have hlz : ¬ ((m : Int) < (n : Int)) := by omega
       have HG : Hid (∀ t, t < j2 + 1 → okR x t = true) := hgo.out (by rw [HOK.out]; exact allTo_true (fun t ht => hal.out t (by omega)))
       have hH3 : Hid (Held w [(w.heap.size, ss)] [] wr) := hH1.out.on hbm.out
       clear hal hgo hbad HOK
       go_wp2_with fail
       go_roundw
       case rel => exact ⟨j2 + 1, by omega, by go_num, hH3, HG⟩
       case measure => simp [intOf]; omega
    ·
     have hltz2 : ¬ ((j2 : Int) + 1 ≤ 6) := by omega
     obtain rfl : RES = 0 := HE2.out (fun t ht => hall.out t (by omega))
     clear hall HE1 HE2
     go_wp2_with fail
     go_ret
     exact ⟨rfl, hH2.out.below⟩
end Go.Proofs.YtfbnnfpnjjjfcaaGreat

