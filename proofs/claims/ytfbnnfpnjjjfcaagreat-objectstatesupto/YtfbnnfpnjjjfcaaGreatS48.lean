/- works, and its like. No condition beyond what each says. -/
import Derived.Test.YtfbnnfpnjjjfcaaGreatS47
namespace Go.Proofs.YtfbnnfpnjjjfcaaGreat
set_option maxHeartbeats 16000000
set_option maxRecDepth 100000
open Tryz Go.RowKit List
set_option linter.unusedSimpArgs false
theorem wPut1 (w : World) : Calls prog 19 #[.agg #[Z, Z, Z, Z, Z, Z], .agg (clsC 5 ⟨#[98]⟩).toArray] w fun e w' => ∃ gs, e = .returned (.tuple #[.agg gs.toArray, .bool false, .int .i64 0]) ∧ StAt w' gs wst1 ∧ Below w.heap.size w w' := by
 have := Put_Class [Z, Z, Z, Z, Z, Z] (clsC 5 ⟨#[98]⟩) (fun _ => True) noState (clsO 5 ⟨#[98]⟩) w noState_rep (cls_rep _ _ _ _ (by decide)) rfl (by kernel_rfl)
 rw [show putSClass noState (clsO 5 ⟨#[98]⟩).2.2.2.2.2.1 = (wst1, false, 0) from by kernel_rfl] at this
 refine this.mono fun e w' h => ?_
 obtain ⟨gs, rfl, h1, h2⟩ := h.st
 exact ⟨gs, rfl, RState.firm.weak (h1.rstate wfit1) (fun _ _ _ => trivial), h2⟩
theorem wPut2 (gs : List Value) (D : Nat) (w : World) (h : RState (fun b => b ≠ D) w gs wst1) (hD : D < w.heap.size) : Calls prog 19 #[.agg gs.toArray, .agg (clsC 5 ⟨#[97]⟩).toArray] w fun e w' => ∃ gs2, e = .returned (.tuple #[.agg gs2.toArray, .bool false, .int .i64 0]) ∧ RState (fun b => b ≠ D) w' gs2 wst2 ∧ Below w.heap.size w w' := by
 have := Put_Class gs (clsC 5 ⟨#[97]⟩) _ wst1 (clsO 5 ⟨#[97]⟩) w h (cls_rep _ _ _ _ (by decide)) rfl (by kernel_rfl)
 rw [show putSClass wst1 (clsO 5 ⟨#[97]⟩).2.2.2.2.2.1 = (wst2, false, 0) from by kernel_rfl] at this
 refine this.mono fun e w' h => ?_
 obtain ⟨gs, rfl, h1, h2⟩ := h.st
 refine ⟨gs, rfl, RState.firm.weak (h1.rstate wfit2) (fun b _ hb => ?_), h2⟩
 rcases hb with hb | hb
 ·
  exact hb.1
 ·
  have : w.heap.size ≤ b := hb
  omega
theorem wChk (n k : Int) (h : checkO (clsO n ⟨#[]⟩) = k) (w : World) : Calls prog 9 #[.agg (clsC n ⟨#[]⟩).toArray] w fun e w' => e = .returned (.int .i64 k) ∧ Below w.heap.size w w' := by
 rw [← h]
 exact Check_calls _ (fun _ => True) _ w (cls_rep _ _ _ _ (by decide))
theorem works_calls (w : World) : Calls prog 14 #[] w fun e w' => e = .returned (.bool true) ∧ Below w.heap.size w w' := by
 go_enter func14, ntmps14
 go_wp2_with fail
 refine (class_calls _ _).mono ?_
 rintro e u1 ⟨rfl, hb1⟩
 go_wp2_with fail
 refine (wPut1 _).mono ?_
 rintro e u2 ⟨gs, rfl, hst, hb2⟩
 have hgl := hst.len
 have hgo := all_oneCell_toArray hst.one
 have higa : (prog.info? 61).map (·.size) = some gs.toArray.size := by simpa [hgl] using infoSta
 have hig : (prog.info? 61).map (·.size) = some gs.length := by rw [hgl]; exact infoSta
 have HF : Held w [] [(u2.heap.size, 6)] (u2.alloc (.cells #[Z, Z, Z, Z, Z, Z] 61)) := ((Held.start w).on (on2 hb1 hb2)).room rfl #[Z, Z, Z, Z, Z, Z] 61
 have HT : Hid ((u2.alloc (.cells #[Z, Z, Z, Z, Z, Z] 61)).there u2.heap.size 0 gs.toArray.size) := by have := HF.there 0 (b := u2.heap.size) rfl; simpa [Hid, hgl] using this
 have HT' : Hid ((u2.alloc (.cells #[Z, Z, Z, Z, Z, Z] 61)).there u2.heap.size 0 gs.length) := by have := HF.there 0 (b := u2.heap.size) rfl; rw [Hid, hgl]; exact this
 obtain ⟨u3, hu3⟩ : ∃ u3, u3 = (u2.alloc (.cells #[Z, Z, Z, Z, Z, Z] 61)).setCells u2.heap.size 0 gs := ⟨_, rfl⟩
 have HH3 : Hid (Held w [] [(u2.heap.size, 6)] u3) := by rw [Hid, hu3]; exact HF.wrote 0 rfl (by simp)
 have HRD : Hid (u3.rangeAt u2.heap.size 0 gs) := by rw [Hid, hu3]; exact World.rangeAt_setCells_same _ _ _ _ HT'.out
 have HST : Hid (RState (fun b => b ≠ u2.heap.size) u3 gs wst1) := by
  have h1 : RState (fun b => b ≠ u2.heap.size) u2 gs wst1 := RState.firm.weak hst (fun b hb _ => by omega)
  rw [Hid, hu3]
  exact RState.firm.kept h1 (Kept.below (below_setCells ((Below.refl _ u2).alloc (Nat.le_refl _) _) (Nat.le_refl _)))
 have HU3 : Hid (u3 = (u2.alloc (.cells #[Z, Z, Z, Z, Z, Z] 61)).setCells u2.heap.size 0 gs) := hu3
 clear hu3 HF hst hb1 hb2 HT'
 go_wp2_with (first | (refine wpList_store_mid rfl 61 _ _ rfl u2.heap.size 0 gs.toArray rfl rfl HT.out higa hgo ?_; refine wpl_at HU3.out ?_) | fail)
 clear HT HU3
 generalize u2.heap.size = D at HH3 HRD HST ⊢
 have HRDd : Hid (u3.drew.rangeAt D 0 gs) := range_on HRD.out (Below.refl _ _).drew (HH3.out.ltM 0 rfl)
 have HSTd : Hid (RState (fun b => b ≠ D) u3.drew gs wst1) := RState.firm.kept HST.out (Kept.below (Below.refl _ _).drew)
 clear HRD HST
 have HRD := HRDd
 have HST := HSTd
 clear HRDd HSTd
 refine t0 (Held w [] [(D, 6)]) (HH3.out.drew) (fun hH => ?_)
 generalize u3.drew = y0 at hH HRD HST ⊢
 clear HH3
 refine wpAnyH_ready (rs := [0, 1]) (by kernel_rfl) (by simp) ?_
 refine AllReadyH.cons rfl (fun K hK => ?g25x0) (AllReadyH.cons rfl (fun K hK => ?g25x1) (AllReadyH.nil))
 case' g25x0 =>
  refine want_yes (by rfl) (wp_load_mid 61 _ rfl D 0 rfl gs _ HRD.out underlying61 rfl hig ?_)
  refine hK.out _ _ hH (fun hH => ?_)
  clear hK K
  try simp only [Act.put, setIfInBounds_toArray, set_cons_zero, set_cons_succ, getElem_toArray, getElem_cons_zero, getElem_cons_succ]
  refine tr 1 (fun K hK => ?_)
  refine want_yes (by rfl) (call_enter (f := 45) (args := #[.string ⟨#[97]⟩]) (by kernel_rfl) (class_calls ⟨#[97]⟩ _) (fun e uc he => ?_))
  obtain ⟨rfl, hbc⟩ := he
  have HSn := RState.firm.kept HST.out (Kept.below hbc)
  clear HST
  have HST : Hid (RState (fun b => b ≠ D) _ gs wst1) := HSn
  clear HSn
  have HRn := range_on HRD.out hbc (hH.ltM 0 rfl)
  clear HRD
  have HRD : Hid (World.rangeAt _ D 0 gs) := HRn
  clear HRn
  refine ⟨_, rfl, hK.out _ _ (hH.on hbc) (fun hH => ?_)⟩
  clear hK K
  try go_frame
 case' g25x1 =>
  refine want_yes (by rfl) (call_enter (f := 45) (args := #[.string ⟨#[97]⟩]) (by kernel_rfl) (class_calls ⟨#[97]⟩ _) (fun e uc he => ?_))
  obtain ⟨rfl, hbc⟩ := he
  have HSn := RState.firm.kept HST.out (Kept.below hbc)
  clear HST
  have HST : Hid (RState (fun b => b ≠ D) _ gs wst1) := HSn
  clear HSn
  have HRn := range_on HRD.out hbc (hH.ltM 0 rfl)
  clear HRD
  have HRD : Hid (World.rangeAt _ D 0 gs) := HRn
  clear HRn
  refine ⟨_, rfl, hK.out _ _ (hH.on hbc) (fun hH => ?_)⟩
  clear hK K
  try simp only [Act.put, setIfInBounds_toArray, set_cons_zero, set_cons_succ, getElem_toArray, getElem_cons_zero, getElem_cons_succ]
  first | refine tr 0 (fun K hK => ?_) | refine ts 0 (fun K hK => ?_)
  refine want_yes (by rfl) (wp_load_mid 61 _ rfl D 0 rfl gs _ HRD.out underlying61 rfl hig ?_)
  refine hK.out _ _ hH (fun hH => ?_)
  clear hK K
  try go_frame
 all_goals
  refine tr 2 (fun K hK => ?_)
  refine want_yes (by rfl) (call_enter (f := 19) (args := #[.agg gs.toArray, .agg (clsC 5 ⟨#[97]⟩).toArray]) (by kernel_rfl) (wPut2 gs D _ HST.out (hH.ltM 0 rfl)) (fun e up he => ?_))
  obtain ⟨gs2, rfl, hs2, hbp⟩ := he
  have HS2 : Hid (RState (fun b => b ≠ D) up gs2 wst2) := hs2
  clear hs2 HST HRD
  refine ⟨_, rfl, hK.out _ _ (hH.on hbp) (fun hH => ?_)⟩
  clear hK K
  try go_frame
  refine tp 3 ?_; try go_frame
  refine tp 4 ?_; try go_frame
  refine tp 5 ?_; try go_frame
  refine tp 6 ?_; try go_frame
  first | refine tr 7 (fun K hK => ?_) | refine ts 7 (fun K hK => ?_)
  have hgl2 := RState.firm.len HS2.out
  have hig2 : (prog.info? 61).map (·.size) = some gs2.toArray.size := by simpa [hgl2] using infoSta
  have HT2 : Hid (World.there up D 0 gs2.toArray.size) := by have := hH.there 0 (b := D) rfl; simpa [Hid, hgl2] using this
  have HT3 : Hid (World.there up D 0 gs2.length) := by have := hH.there 0 (b := D) rfl; rw [Hid, hgl2]; exact this
  refine want_yes (by rfl) (wp_store_mid 61 _ _ rfl D 0 gs2.toArray rfl rfl HT2.out hig2 (all_oneCell_toArray (RState.firm.one HS2.out)) ?_)
  obtain ⟨W7, hW7⟩ : ∃ W7, W7 = up.setCells D 0 gs2 := ⟨_, rfl⟩
  have HRG : Hid (W7.rangeAt D 0 gs2) := by rw [Hid, hW7]; exact World.rangeAt_setCells_same _ _ _ _ HT3.out
  have HST7 : Hid (RState (fun b => b ≠ D) W7 gs2 wst2) := by rw [Hid, hW7]; exact RState.firm.kept HS2.out (kept_setCells (fun h => h rfl))
  refine at_world hW7 ?_
  refine hK.out _ _ (by rw [hW7]; exact hH.wrote 0 rfl (by simp)) (fun hH2 => ?_)
  clear hW7 HS2 HT2 HT3
  clear hK K hH; have hH := hH2; clear hH2
  try go_frame
  refine tp 8 ?_; try go_frame
  refine tp 9 ?_; try go_frame
  refine tz ?_
  obtain ⟨h0, h1, h2, h3, ⟨a4, n4, c4⟩, h5, rfl, -, -, -, -, q4, -⟩ := RState.out HST7.out
  simp only [wst2] at q4
  obtain rfl : n4 = 2 := q4.1.symm
  obtain ⟨B4, o4, rfl, hB4, hD4, hq4⟩ := q4.2.2.2.2 (by omega)
  obtain ⟨c40, hr40, hc40⟩ := hq4 0 (by omega)
  obtain ⟨r40, rfl⟩ := headClass hr40
  have HN4 : Hid (W7.cell? ⟨B4, o4 + 0 * 2 + 0, none⟩ = some (.string ⟨#[97]⟩)) := hc40 0 _ rfl
  have HB4 : Hid (B4 < W7.heap.size) := hB4
  clear hq4 hc40 hr40 hB4 hD4 q4 HST7
  have HWB : Hid (Below w.heap.size w W7) := hH.below
  have HDL : Hid (D < W7.heap.size) := hH.ltM 0 rfl
  clear hH
  go_wp2_with fail
  refine (class_calls _ _).mono ?_
  rintro e v1 ⟨rfl, hv1⟩
  go_wp2_with fail
  refine (wChk 5 40 wchk1 _).mono ?_
  rintro e v2 ⟨rfl, hv2⟩
  go_wp2_with fail
  refine (wChk 7 2 wchk2 _).mono ?_
  rintro e v3 ⟨rfl, hv3⟩
  have HV3 : Hid (Below W7.heap.size W7 v3) := on2 (on2 hv1 hv2) hv3
  have hk4 : v3.cell? ⟨D, 4, none⟩ = some (.slice (some ⟨B4, o4, none⟩) 2 c4) := by have := range_on HRG.out HV3.out HDL.out 4 _ rfl; simpa using this
  have hkl : D < v3.heap.size := Nat.lt_of_lt_of_le HDL.out HV3.out.size
  have hn4 : v3.cell? ⟨B4, o4, none⟩ = some (.string ⟨#[97]⟩) := by have := (HV3.out.cell (p := ⟨B4, o4 + 0 * 2 + 0, none⟩) HB4.out).trans HN4.out; simpa using this
  have hnl : B4 < v3.heap.size := Nat.lt_of_lt_of_le HB4.out HV3.out.size
  clear hv1 hv2 hv3 HRG
  go_wp2_with fail
  go_ret
  exact ⟨rfl, on2 HWB.out HV3.out⟩
end Go.Proofs.YtfbnnfpnjjjfcaaGreat

