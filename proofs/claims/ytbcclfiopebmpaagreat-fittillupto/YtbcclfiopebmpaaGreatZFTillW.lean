/- FitTill's walk. Condition: the arguments lie as is said of them, and hold no more than is said. -/
import Derived.Test.YtbcclfiopebmpaaGreatQ09
import Derived.Test.YtbcclfiopebmpaaGreatQ12
import Derived.Test.YtbcclfiopebmpaaGreatQ13
namespace Go.Proofs.YtbcclfiopebmpaaGreat
open Go.RowKit
set_option linter.unusedSimpArgs false
set_option maxRecDepth 100000

theorem sizeNode8 : (Tryz.prog.info? 36).map (·.size) = some 9 := by kernel_rfl
theorem RPod.reName {A : Where} {w : World} {ds : List Value} {y : PodD} (h : RPod A w ds y) {s : ByteArray} (hs : s.size ≤ 140737488355328) : RPod A w (ds.set 0 (.string s)) (s, y.2) := by
  obtain ⟨h2, h6, h7, h8, h9, h10, h11, h12, h13, rfl, p0, p1, p2, p3, p4, p5, p6, p7, p8, p9, p10, p11⟩ := h.out
  exact RPod.mk (x := (s, y.2)) (h2 := h2) (h6 := h6) (h7 := h7) (h8 := h8) (h9 := h9) (h10 := h10) (h11 := h11) (h12 := h12) (h13 := h13) hs p1 p2 p3 p4 p5 p6 p7 p8 p9 p10 p11
theorem Kept.below_ne {w : World} {u : World} {D : Nat} {vs : List Value} (h : w.heap.size ≤ D) : Kept (fun b => b < w.heap.size) u (u.setCells D 0 vs) := kept_setCells (fun hb => by have h1 : D < w.heap.size := hb; omega)
set_option maxHeartbeats 32000000 in
theorem till_walk (ds : List Value) (y : PodD) (ns : List Value) (x : NodeD) (a : Option Addr) (n cap : Nat) (L : List PodD) (lim : Int) (w : World) (hP : RPod (fun _ => True) w ds y) (hNB : RNodeB (fun _ => True) w ns x) (hL : SlAt RPod 16 296 (fun _ => True) w a n cap L) (hS : mPod y + sumBy mPod L ≤ 1048576) : Calls Tryz.prog 4 #[.agg ds.toArray, .agg ns.toArray, .slice a n cap, .int .i64 lim] w fun e w' => e = .returned (.bool true) ∧ Below w.heap.size w w' := by
  have hN := hNB.node.1
  have HRg : Hid (x.2.2.2.2.2.1 ≤ 9223372036854775807) := hNB.node.2
  have hlP : Hid (ds.length = 16) := RPod.firm.len hP
  have hiP : (Tryz.prog.info? 33).map (·.size) = some ds.length := by rw [RPod.firm.len hP]; exact sizePod7
  have hiN : (Tryz.prog.info? 36).map (·.size) = some ns.length := by rw [RNode.firm.len hN]; exact sizeNode8
  have hiP2 : (Tryz.prog.info? 33).map (·.size) = some ds.toArray.size := by have e : ds.toArray.size = 16 := (by simp [hlP.out]); rw [e]; exact sizePod7
  have HOP : Hid (ds.toArray.all (·.oneCell') = true) := all_oneCell_toArray (RPod.firm.one hP)
  have HP : Hid (∀ u, Below w.heap.size w u → RPod (fun _ => True) u ds y) := fun u hb => RPod.firm.kept hP (Kept.below hb)
  have HN : Hid (∀ u, Below w.heap.size w u → RNode (fun b => b < w.heap.size) u ns x) := fun u hb => RNode.firm.kept (RNode.firm.weak hN (fun b hb _ => hb)) (Kept.below hb)
  have HL : Hid (∀ u, Below w.heap.size w u → SlAt RPod 16 296 (fun b => b < w.heap.size) u a n cap L) := fun u hb => (hL.weak RPod.firm (fun b hb _ => hb)).on RPod.firm hb
  have HF : Hid (FitsP L) := fits_of (by omega)
  have hnl : Hid (L.length = n) := hL.1
  have hsm : Hid (n ≤ 1048576) := by have := len_sum L; have h2 := hL.1; rw [Hid]; omega
  have HSm : Hid (sumBy mPod L + mPod y ≤ 1048576) := by rw [Hid]; omega
  obtain ⟨hz0, hz0e⟩ : ∃ v0, ds[0]? = some v0 := ⟨ds[0]'(by rw [hlP.out]; omega), List.getElem?_eq_getElem _⟩
  have HZ0 : Hid (ds[0]? = some hz0) := hz0e
  obtain ⟨W2, hW2⟩ : ∃ W2, W2 = (w.alloc (.cells ds.toArray 33)).alloc (.cells ns.toArray 36) := ⟨_, rfl⟩
  have B2 : Hid (∀ u, Below W2.heap.size W2 u → Below w.heap.size w u) := fun u hb => on2 (by rw [hW2]; go_grown) hb
  have HS : Hid (∀ u, Below W2.heap.size W2 u → BoxL u w.heap.size ds ∧ BoxL u (w.heap.size + 1) ns) := fun u hb => ⟨BoxL.on (by rw [hW2]; exact (BoxL.new w 33 ds).on ((Below.refl _ _).alloc (Nat.le_refl _) _)) hb, BoxL.on (by have h1 := BoxL.new (w.alloc (.cells ds.toArray 33)) 36 ns; rw [hW2]; simpa using h1) hb⟩
  clear hP hN hL hS hNB hz0e
  go_enter Tryz.func4, Tryz.ntmps4
  go_wp2_with fail
  rw [← hW2]
  clear hW2
  refine (works7_calls W2).mono ?_
  rintro e w3 ⟨rfl, hb3⟩
  have B3 : Hid (Below W2.heap.size W2 w3) := hb3
  clear hb3
  have hAm := Among_calls lim 40 (by omega) (by omega) w3
  rw [show ((40 : Nat) : Int) = 40 from rfl] at hAm
  go_wp2_with fail
  refine hAm.mono ?_
  clear hAm
  rintro e w8 ⟨⟨t, rfl, ht⟩, hw8⟩
  rw [hw8]
  clear hw8 w8
  have Hx3 : Hid (BoxL w3 (w.heap.size + 1) ns) := (HS.out w3 B3.out).2
  go_wp2_with (first | (refine wpList_load_mid rfl 36 _ rfl (w.heap.size + 1) 0 rfl ns _ (Hx3.out).range Tryz.underlying36 rfl hiN ?_) | fail)
  refine (Of_calls ns a n cap (fun b => b < w.heap.size) (fun b => b < w.heap.size) x L w3 (HN.out _ (B2.out _ B3.out)) (HL.out _ (B2.out _ B3.out)) HF).mono ?_
  rintro e w4 ⟨fs, rfl, hI4, _, hb4⟩
  clear Hx3
  have hlW5 : fs.length = 15 := hI4.len
  have hif : (Tryz.prog.info? 44).map (·.size) = some fs.length := by rw [hlW5]; exact sizeInfo7
  have hif2 : (Tryz.prog.info? 44).map (·.size) = some fs.toArray.size := by have e : fs.toArray.size = 15 := (by simp [hlW5]); rw [e]; exact sizeInfo7
  have HOf : Hid (fs.toArray.all (·.oneCell') = true) := all_oneCell_toArray hI4.one
  have HTW5 : Hid ((w4.alloc (.cells #[.string ⟨#[]⟩, .slice none 0 0, .slice none 0 0, .bool false, .int .i64 0, .int .i64 0, .int .i64 0, .int .i64 0, .int .i64 0, .slice none 0 0, .int .i64 0, .int .i64 0, .int .i64 0, .slice none 0 0, .slice none 0 0] 44)).there w4.heap.size 0 fs.toArray.size) := by have e : fs.toArray.size = 15 := (by simp [hlW5]); rw [Hid, e]; exact (BoxL.new w4 44 [.string ⟨#[]⟩, .slice none 0 0, .slice none 0 0, .bool false, .int .i64 0, .int .i64 0, .int .i64 0, .int .i64 0, .int .i64 0, .slice none 0 0, .int .i64 0, .int .i64 0, .int .i64 0, .slice none 0 0, .slice none 0 0]).there
  obtain ⟨W5, hW5⟩ : ∃ W5, W5 = (w4.alloc (.cells #[.string ⟨#[]⟩, .slice none 0 0, .slice none 0 0, .bool false, .int .i64 0, .int .i64 0, .int .i64 0, .int .i64 0, .int .i64 0, .slice none 0 0, .int .i64 0, .int .i64 0, .int .i64 0, .slice none 0 0, .slice none 0 0] 44)).setCells w4.heap.size 0 fs := ⟨_, rfl⟩
  have XW5 : BoxL W5 w4.heap.size fs := by rw [hW5]; exact box_over (BoxL.new w4 44 [.string ⟨#[]⟩, .slice none 0 0, .slice none 0 0, .bool false, .int .i64 0, .int .i64 0, .int .i64 0, .int .i64 0, .int .i64 0, .slice none 0 0, .int .i64 0, .int .i64 0, .int .i64 0, .slice none 0 0, .slice none 0 0]) (by rw [hlW5]; rfl)
  have BW5 : Below w4.heap.size w4 W5 := by rw [hW5]; exact below_setCells ((Below.refl _ _).alloc (Nat.le_refl _) _) (Nat.le_refl _)
  have HWW5 : Hid (W5 = (w4.alloc (.cells #[.string ⟨#[]⟩, .slice none 0 0, .slice none 0 0, .bool false, .int .i64 0, .int .i64 0, .int .i64 0, .int .i64 0, .int .i64 0, .slice none 0 0, .int .i64 0, .int .i64 0, .int .i64 0, .slice none 0 0, .slice none 0 0] 44)).setCells w4.heap.size 0 fs.toArray.toList) := by rw [Hid, hW5]
  clear hW5
  have B24 : Hid (Below W2.heap.size W2 w4) := on2 B3.out hb4
  have HI5 : Hid (InfoAt (fun b => b < w.heap.size) (fun b => b ≠ w4.heap.size) W5 fs (ofP x L)) := (hI4.weak (A' := (fun b => b < w.heap.size)) (F' := (fun b => b ≠ w4.heap.size)) (fun _ _ h => h) (fun b hb _ => Nat.ne_of_lt hb)).on BW5
  have HX5 : Hid (BoxL W5 w4.heap.size fs) := XW5
  have HB5 : Hid (Below w4.heap.size w4 W5) := BW5
  have HPx : Hid (BoxL W5 w.heap.size ds) := (HS.out _ (on2 B24.out BW5)).1
  clear XW5 BW5 hI4 hb4 B3
  have HE1 : Hid ((ofP x L).1 = x) := rfl
  have hC := FMost_calls ds fs (fun _ => True) y (ofP x L) (t : Int) W5 (HP.out _ (B2.out _ (on2 B24.out HB5.out))) (RInfo.firm.weak HI5.out.info (fun _ _ _ => trivial)) (by rw [HE1.out]; exact HRg)
  go_wp2_with (first | (refine wpList_store_mid rfl 44 _ _ rfl w4.heap.size 0 fs.toArray rfl rfl HTW5.out hif2 HOf.out ?_; refine wpl_w HWW5.out ?_) | (refine wpList_load_mid rfl 33 _ rfl w.heap.size 0 rfl ds _ (HPx.out).range Tryz.underlying33 rfl hiP ?_) | (refine wpList_load_mid rfl 44 _ rfl w4.heap.size 0 rfl fs _ (HX5.out).range Tryz.underlying44 rfl hif ?_) | fail)
  refine hC.mono ?_
  rintro e w6 ⟨rfl, hb6⟩
  clear hC HTW5 HWW5 HOf
  obtain ⟨hm0, hm1⟩ := most_rng y (ofP x L) t
  obtain ⟨m, hm⟩ : ∃ m : Nat, mostP y (ofP x L) t = (m : Int) := ⟨(mostP y (ofP x L) t).toNat, by omega⟩
  have HM : Hid (mostP y (ofP x L) t = (m : Int)) := hm
  have hmt : m ≤ t := by omega
  have z1 : ¬ ((m : Int) < 0) := by omega
  have z2 : ¬ ((t : Int) < (m : Int)) := by omega
  have z1' : decide ((m : Int) < 0) = false := by simp
  have z3 : decide (t < m) = false := by simp; omega
  rw [hm]
  clear hm hm0 hm1
  have HT0 : Hid (TillI y (ofP x L) (sumBy mPod L) 0 (ofP x L)) := TillI.start y x L
  generalize ofP x L = X0 at HI5 HM HT0
  have HK0 : Hid (BoxL w6 w4.heap.size fs ∧ InfoAt (fun b => b < w.heap.size) (fun b => b ≠ w4.heap.size) w6 fs X0 ∧ Below w4.heap.size w4 w6) := ⟨HX5.out.on hb6, HI5.out.on hb6, on2 HB5.out hb6⟩
  clear hb6 HX5 HI5 HB5 HPx HE1
  go_wp2_with fail
  go_loopw [11] (fun i wr => ∃ (k : Nat) (j : InfoD) (cs : List Value), k ≤ m ∧ i = .int .i64 k ∧ Hid (BoxL wr w4.heap.size cs ∧ InfoAt (fun b => b < w.heap.size) (fun b => b ≠ w4.heap.size) wr cs j ∧ Below w4.heap.size w4 wr) ∧ Hid (TillI y X0 (sumBy mPod L) k j)) (fun i _ => m - (intOf i).toNat)
  case atStart => exact ⟨0, X0, fs, Nat.zero_le _, rfl, HK0, HT0⟩
  case round =>
    obtain ⟨k, j, cs, hk, rfl, hI, HJ⟩ := hrel
    have hlc : Hid (cs.length = 15) := hI.out.2.1.len
    have hic : (Tryz.prog.info? 44).map (·.size) = some cs.length := by rw [hlc.out]; exact sizeInfo7
    have Hb4r : Hid (Below W2.heap.size W2 wr) := on2 B24.out hI.out.2.2
    have hC := FCheck_calls ds cs (fun _ => True) y j wr (HP.out _ (B2.out _ Hb4r.out)) (RInfo.firm.weak hI.out.2.1.info (fun _ _ _ => trivial))
    have HPr : Hid (BoxL wr w.heap.size ds) := (HS.out _ Hb4r.out).1
    by_cases hlt : k < m
    · have hltz : (k : Int) < (m : Int) := by omega
      have h0 : why1 y j = 0 := till_in HJ.out.like ht (by rw [HM.out]; exact hltz)
      rw [h0] at hC
      clear h0
      go_wp2_with (first | (refine wpList_load_mid rfl 33 _ rfl w.heap.size 0 rfl ds _ (HPr.out).range Tryz.underlying33 rfl hiP ?_) | (refine wpList_load_mid rfl 44 _ rfl w4.heap.size 0 rfl cs _ (hI.out.1).range Tryz.underlying44 rfl hic ?_) | fail)
      refine hC.mono ?_
      rintro e w7 ⟨rfl, hb7⟩
      clear hC
      have HP7 : Hid (BoxL w7 w.heap.size ds) := HPr.out.on hb7
      have hlW8 := hlP.out
      have HTW8 : Hid ((w7.alloc (.cells #[.string ⟨#[]⟩, .int .i64 0, .slice none 0 0, .int .i64 0, .int .i64 0, .int .i64 0, .slice none 0 0, .slice none 0 0, .slice none 0 0, .slice none 0 0, .slice none 0 0, .slice none 0 0, .slice none 0 0, .slice none 0 0, .string ⟨#[]⟩, .string ⟨#[]⟩] 33)).there w7.heap.size 0 ds.toArray.size) := by have e : ds.toArray.size = 16 := (by simp [hlW8]); rw [Hid, e]; exact (BoxL.new w7 33 [.string ⟨#[]⟩, .int .i64 0, .slice none 0 0, .int .i64 0, .int .i64 0, .int .i64 0, .slice none 0 0, .slice none 0 0, .slice none 0 0, .slice none 0 0, .slice none 0 0, .slice none 0 0, .slice none 0 0, .slice none 0 0, .string ⟨#[]⟩, .string ⟨#[]⟩]).there
      obtain ⟨W8, hW8⟩ : ∃ W8, W8 = (w7.alloc (.cells #[.string ⟨#[]⟩, .int .i64 0, .slice none 0 0, .int .i64 0, .int .i64 0, .int .i64 0, .slice none 0 0, .slice none 0 0, .slice none 0 0, .slice none 0 0, .slice none 0 0, .slice none 0 0, .slice none 0 0, .slice none 0 0, .string ⟨#[]⟩, .string ⟨#[]⟩] 33)).setCells w7.heap.size 0 ds := ⟨_, rfl⟩
      have XW8 : BoxL W8 w7.heap.size ds := by rw [hW8]; exact box_over (BoxL.new w7 33 [.string ⟨#[]⟩, .int .i64 0, .slice none 0 0, .int .i64 0, .int .i64 0, .int .i64 0, .slice none 0 0, .slice none 0 0, .slice none 0 0, .slice none 0 0, .slice none 0 0, .slice none 0 0, .slice none 0 0, .slice none 0 0, .string ⟨#[]⟩, .string ⟨#[]⟩]) (by rw [hlW8]; rfl)
      have BW8 : Below w7.heap.size w7 W8 := by rw [hW8]; exact below_setCells ((Below.refl _ _).alloc (Nat.le_refl _) _) (Nat.le_refl _)
      have HWW8 : Hid (W8 = (w7.alloc (.cells #[.string ⟨#[]⟩, .int .i64 0, .slice none 0 0, .int .i64 0, .int .i64 0, .int .i64 0, .slice none 0 0, .slice none 0 0, .slice none 0 0, .slice none 0 0, .slice none 0 0, .slice none 0 0, .slice none 0 0, .slice none 0 0, .string ⟨#[]⟩, .string ⟨#[]⟩] 33)).setCells w7.heap.size 0 ds.toArray.toList) := by rw [Hid, hW8]
      clear hW8
      have HB8 : Hid (Below wr.heap.size wr W8) := on2 hb7 BW8
      have HX8 : Hid (∀ u, Below W8.heap.size W8 u → BoxL u w7.heap.size ds) := fun u hb => XW8.on hb
      have g7 : Hid (wr.heap.size ≤ w7.heap.size) := hb7.size
      clear XW8 BW8 hb7 hlW8
      have hIt := itoa_any k W8 (by omega)
      go_wp2_with (first | (refine wpList_load_mid rfl 33 _ rfl w.heap.size 0 rfl ds _ (HP7.out).range Tryz.underlying33 rfl hiP ?_) | (refine wpList_store_mid rfl 33 _ _ rfl w7.heap.size 0 ds.toArray rfl rfl HTW8.out hiP2 HOP.out ?_; refine wpl_w HWW8.out ?_) | fail)
      refine hIt.mono ?_
      rintro e w9 ⟨s1, rfl, hs1, hb9⟩
      clear hIt HP7 HTW8 HWW8
      have hIt := itoa_any n w9 hsm.out
      go_wp2_with fail
      refine hIt.mono ?_
      rintro e w10 ⟨s2, rfl, hs2, hb10⟩
      clear hIt
      have hx10 := HX8.out w10 (on2 hb9 hb10)
      obtain ⟨q0, f0⟩ := hx10.2 0 _ HZ0.out
      go_upto_region 15 with fail
      obtain ⟨S, hSE, hSz⟩ : ∃ S : ByteArray, S = (({ data := #[99, 111, 112, 121] } : ByteArray) ++ s1 ++ { data := #[46] } ++ s2) ∧ S.size ≤ 140737488355328 := ⟨_, rfl, by
        have e1 : ({ data := #[99, 111, 112, 121] } : ByteArray).size = 4 := rfl
        have e2 : ({ data := #[46] } : ByteArray).size = 1 := rfl
        simp only [ByteArray.size_append]
        omega⟩
      rw [← hSE]
      clear hSE
      have hb8w : Below wr.heap.size wr w10 := on2 HB8.out (on2 hb9 hb10)
      obtain ⟨W11, hW11⟩ : ∃ W11, W11 = w10.setCell ⟨w7.heap.size, 0, none⟩ (.string S) := ⟨_, rfl⟩
      have hb11 : Below wr.heap.size wr W11 := by rw [hW11]; exact hb8w.setCell g7.out _
      have hx11 : BoxL W11 w7.heap.size (ds.set 0 (.string S)) := by rw [hW11]; exact hx10.set 0 _ (by rw [hlP.out]; omega)
      rw [← hW11]
      clear hW11 q0 f0 hx10 hb8w hb9 hb10 HX8 HB8 hs1 hs2
      have HQr : Hid (RPod (fun _ => True) W11 (ds.set 0 (.string S)) (S, y.2)) := (HP.out _ (B2.out _ (on2 Hb4r.out hb11))).reName hSz
      have hiQ : (Tryz.prog.info? 33).map (·.size) = some (ds.set 0 (.string S)).length := by rw [List.length_set]; exact hiP
      have HX11 : Hid (BoxL W11 w7.heap.size (ds.set 0 (.string S))) := hx11
      have HY11 : Hid (BoxL W11 w4.heap.size cs) := hI.out.1.on hb11
      have HB11 : Hid (Below wr.heap.size wr W11) := hb11
      have HFA : Hid (FitsA j (S, y.2)) := HJ.out.fits (by omega) HSm.out S
      have hAd := Add_calls cs (ds.set 0 (.string S)) (fun b => b < w.heap.size) (fun b => b ≠ w4.heap.size) (fun _ => True) j (S, y.2) W11 (hI.out.2.1.on hb11) HQr HFA
      clear hb11 hx11
      generalize ds.set 0 (.string S) = qs at HX11 HQr hiQ hAd
      go_wp2_with (first | (refine wpList_load_mid rfl 44 _ rfl w4.heap.size 0 rfl cs _ (HY11.out).range Tryz.underlying44 rfl hic ?_) | (refine wpList_load_mid rfl 33 _ rfl w7.heap.size 0 rfl qs _ (HX11.out).range Tryz.underlying33 rfl hiQ ?_) | fail)
      refine hAd.mono ?_
      rintro e w12 ⟨gs, rfl, hI12, _, hb12⟩
      clear hAd HX11 HY11 HQr hiQ
      have hlW13 : gs.length = 15 := hI12.len
      have hig : (Tryz.prog.info? 44).map (·.size) = some gs.length := by rw [hlW13]; exact sizeInfo7
      have hig2 : (Tryz.prog.info? 44).map (·.size) = some gs.toArray.size := by have e : gs.toArray.size = 15 := (by simp [hlW13]); rw [e]; exact sizeInfo7
      have HOg : Hid (gs.toArray.all (·.oneCell') = true) := all_oneCell_toArray hI12.one
      have HTW13 : Hid ((w12.alloc (.cells #[.string ⟨#[]⟩, .slice none 0 0, .slice none 0 0, .bool false, .int .i64 0, .int .i64 0, .int .i64 0, .int .i64 0, .int .i64 0, .slice none 0 0, .int .i64 0, .int .i64 0, .int .i64 0, .slice none 0 0, .slice none 0 0] 44)).there w12.heap.size 0 gs.toArray.size) := by have e : gs.toArray.size = 15 := (by simp [hlW13]); rw [Hid, e]; exact (BoxL.new w12 44 [.string ⟨#[]⟩, .slice none 0 0, .slice none 0 0, .bool false, .int .i64 0, .int .i64 0, .int .i64 0, .int .i64 0, .int .i64 0, .slice none 0 0, .int .i64 0, .int .i64 0, .int .i64 0, .slice none 0 0, .slice none 0 0]).there
      obtain ⟨W13, hW13⟩ : ∃ W13, W13 = (w12.alloc (.cells #[.string ⟨#[]⟩, .slice none 0 0, .slice none 0 0, .bool false, .int .i64 0, .int .i64 0, .int .i64 0, .int .i64 0, .int .i64 0, .slice none 0 0, .int .i64 0, .int .i64 0, .int .i64 0, .slice none 0 0, .slice none 0 0] 44)).setCells w12.heap.size 0 gs := ⟨_, rfl⟩
      have XW13 : BoxL W13 w12.heap.size gs := by rw [hW13]; exact box_over (BoxL.new w12 44 [.string ⟨#[]⟩, .slice none 0 0, .slice none 0 0, .bool false, .int .i64 0, .int .i64 0, .int .i64 0, .int .i64 0, .int .i64 0, .slice none 0 0, .int .i64 0, .int .i64 0, .int .i64 0, .slice none 0 0, .slice none 0 0]) (by rw [hlW13]; rfl)
      have BW13 : Below w12.heap.size w12 W13 := by rw [hW13]; exact below_setCells ((Below.refl _ _).alloc (Nat.le_refl _) _) (Nat.le_refl _)
      have HWW13 : Hid (W13 = (w12.alloc (.cells #[.string ⟨#[]⟩, .slice none 0 0, .slice none 0 0, .bool false, .int .i64 0, .int .i64 0, .int .i64 0, .int .i64 0, .int .i64 0, .slice none 0 0, .int .i64 0, .int .i64 0, .int .i64 0, .slice none 0 0, .slice none 0 0] 44)).setCells w12.heap.size 0 gs.toArray.toList) := by rw [Hid, hW13]
      clear hW13
      have HB13 : Hid (Below wr.heap.size wr W13) := on2 HB11.out (on2 hb12 BW13)
      have HX13 : Hid (BoxL W13 w12.heap.size gs) := XW13
      have h11s : w4.heap.size < W11.heap.size := Nat.lt_of_lt_of_le hI.out.1.1 HB11.out.size
      have HY13 : Hid (BoxL W13 w4.heap.size cs) := hI.out.1.on HB13.out
      cases hh : hasB sEq j.2.1 S
      · have hE : addE j (S, y.2) = (addP j (S, y.2), 0) := by simp only [addE, hh]; rfl
        rw [hE] at hI12 ⊢
        have HJ2 : Hid (TillI y X0 (sumBy mPod L) (k + 1) (addP j (S, y.2))) := HJ.out.step hh
        generalize addP j (S, y.2) = j2 at hI12 HJ2
        have hI13 : InfoAt (fun b => b < w.heap.size) (fun b => b ≠ w4.heap.size) W13 gs j2 := (hI12.weak (A' := (fun b => b < w.heap.size)) (F' := (fun b => b ≠ w4.heap.size)) (fun _ _ h => h) (fun b _ h => by have h2 : W11.heap.size ≤ b := h; show b ≠ w4.heap.size; omega)).on BW13
        obtain ⟨W14, hW14⟩ : ∃ W14, W14 = W13.setCells w4.heap.size 0 gs := ⟨_, rfl⟩
        have HI14 : Hid (BoxL W14 w4.heap.size gs ∧ InfoAt (fun b => b < w.heap.size) (fun b => b ≠ w4.heap.size) W14 gs j2 ∧ Below w4.heap.size w4 W14) := by
          rw [hW14]
          refine ⟨box_over HY13.out (by rw [hlc.out, hlW13]), hI13.kept (Kept.below_ne ?_) (kept_setCells (fun h => h rfl)), below_setCells (on2 hI.out.2.2 HB13.out) (Nat.le_refl _)⟩
          have := (B2.out _ B24.out).size
          omega
        have HT14 : Hid (W13.there w4.heap.size 0 gs.toArray.size) := by have e : gs.toArray.size = cs.length := (by simp [hlW13, hlc.out]); rw [Hid, e]; exact HY13.out.there
        have HW14 : Hid (W14 = W13.setCells w4.heap.size 0 gs.toArray.toList) := by rw [Hid, hW14]
        clear hE hh hI13 hI12 hW14 XW13 BW13 hb12 hI HY13 HB13 HB11 hlW13
        go_wp2_with (first | (refine wpList_store_mid rfl 44 _ _ rfl w12.heap.size 0 gs.toArray rfl rfl HTW13.out hig2 HOg.out ?_; refine wpl_w HWW13.out ?_) | (refine wpList_load_mid rfl 44 _ rfl w12.heap.size 0 rfl gs _ (HX13.out).range Tryz.underlying44 rfl hig ?_) | (refine wpList_store_mid rfl 44 _ _ rfl w4.heap.size 0 gs.toArray rfl rfl HT14.out hig2 HOg.out ?_; refine wpl_w HW14.out ?_) | fail)
        go_roundw
        case rel => exact ⟨k + 1, j2, gs, by omega, by go_num, HI14, HJ2⟩
        case measure => simp [intOf]; omega
      · have hE : (addE j (S, y.2)).2 = 6 := by simp only [addE, hh]; rfl
        rw [hE]
        have hbf : Below w.heap.size w W13 := B2.out _ (on2 Hb4r.out HB13.out)
        clear hE hh hI12 XW13 BW13 hb12 hI HY13 HB13 HB11 hlW13 HX13
        go_wp2_with (first | (refine wpList_store_mid rfl 44 _ _ rfl w12.heap.size 0 gs.toArray rfl rfl HTW13.out hig2 HOg.out ?_; refine wpl_w HWW13.out ?_) | fail)
        go_ret
        exact ⟨rfl, hbf⟩
    · have hltz : ¬ ((k : Int) < (m : Int)) := by omega
      obtain rfl : k = m := by omega
      have hbf0 : Below w.heap.size w wr := B2.out _ Hb4r.out
      by_cases hkt : k = t
      · subst hkt
        go_wp2_with fail
        go_ret
        exact ⟨rfl, hbf0⟩
      · have hne : ¬ (k : Int) = (t : Int) := by omega
        have hne' : ((k : Int) == (t : Int)) = false := by simp; omega
        have h0 : ¬ why1 y j = 0 := till_end HJ.out.like HJ.out.zero ht HM.out.symm hne
        have hz : (why1 y j == 0) = false := by simpa using h0
        have hz2 : (why1 y j != 0) = true := by simpa using h0
        generalize why1 y j = q at h0 hz hz2 hC
        go_wp2_with (first | (refine load_w7 (by rfl) 33 _ rfl w.heap.size 0 rfl ds _ (HPr.out).range Tryz.underlying33 rfl hiP ?_) | (refine load_w7 (by rfl) 44 _ rfl w4.heap.size 0 rfl cs _ (hI.out.1).range Tryz.underlying44 rfl hic ?_) | fail)
        refine hC.mono ?_
        rintro e w7 ⟨rfl, hb7⟩
        have hbf : Below w.heap.size w w7 := on2 hbf0 hb7
        clear hC hb7 hI
        go_wp2_with fail
        go_ret
        exact ⟨rfl, hbf⟩
end Go.Proofs.YtbcclfiopebmpaaGreat
