/- ScoreMeasures, walked. Condition: what is handed in lies as is said of it. -/
import Derived.Test.YteihniiacfghoaaQ18
import Derived.Test.YteihniiacfghoaaQ08
import Derived.Test.YteihniiacfghoaaQ07
namespace Go.Proofs.Yteihniiacfghoaa
open Go.RowKit Go.Maps
set_option linter.unusedSimpArgs false
set_option maxRecDepth 100000

theorem infoInfoS : (Try.prog.info? 41).map (fun i => (i.zero, i.size, i.bytes)) = some (some (.agg #[.string ⟨#[]⟩, .slice none 0 0, .slice none 0 0, .bool false, .int .i64 0, .int .i64 0, .int .i64 0, .int .i64 0, .int .i64 0, .slice none 0 0, .int .i64 0, .int .i64 0, .int .i64 0, .slice none 0 0, .slice none 0 0]), 15, 208) := by kernel_rfl
set_option maxHeartbeats 8000000 in
theorem measures_walk (ps : List Value) (p : PodD) (a : Option Addr) (n cap : Nat) (L : List InfoD) (b : Option Addr) (m capb : Nat) (N : List Int) (rev : Bool) (w : World) (hp : RPod (fun _ => True) w ps p) (hL : SlAt RInfo 15 208 (fun _ => True) w a n cap L) (hN : SlAt RInt 1 8 (fun _ => True) w b m capb N) : Calls Try.prog 3 #[.agg ps.toArray, .slice a n cap, .slice b m capb, .bool rev] w fun e w' => e = .returned (.bool true) ∧ Below w.heap.size w w' := by
  have hn : Hid (L.length = n) := hL.1
  have hm : Hid (N.length = m) := hN.1
  have HLn : Hid (n * 208 ≤ 140737488351232) := hL.2.2.2.1
  have HMn : Hid (m * 8 ≤ 140737488351232) := hN.2.2.2.1
  have hml : n < 1000000000000000 := by have := HLn.out; omega
  have hiP : (Try.prog.info? 33).map (·.size) = some ps.length := by rw [RPod.firm.len hp]; exact sizePodS
  obtain ⟨W1, hW1⟩ : ∃ Z, Z = w.alloc (.cells ps.toArray 33) := ⟨_, rfl⟩
  have b1 : Below w.heap.size w W1 := by rw [hW1]; exact (Below.refl _ _).alloc (Nat.le_refl _) _
  have HX : Hid (BoxL W1 w.heap.size ps) := by rw [hW1]; exact BoxL.new w 33 _
  have HB1 : Hid (Below w.heap.size w W1) := b1
  have HP1 : Hid (RPod (fun _ => True) W1 ps p) := RPod.firm.kept hp (Kept.below b1)
  have HL1 : Hid (SlAt RInfo 15 208 (fun _ => True) W1 a n cap L) := hL.on RInfo.firm b1
  have HN1 : Hid (SlAt RInt 1 8 (fun _ => True) W1 b m capb N) := hN.on RInt.firm b1
  have HW1 : Hid (w.alloc (.cells ps.toArray 33) = W1) := hW1.symm
  obtain ⟨P, hP⟩ : ∃ P, P = w.heap.size := ⟨_, rfl⟩
  have HP : Hid (w.heap.size = P) := hP.symm
  rw [← hP] at HX
  obtain ⟨U1, hU1⟩ : ∃ Z, Z = W1.alloc (.cells #[] 41) := ⟨_, rfl⟩
  have bU : Below W1.heap.size W1 U1 := by rw [hU1]; exact (Below.refl _ _).alloc (Nat.le_refl _) _
  have HR1 : Hid (Row RInfo 15 (fun b => b < W1.heap.size) W1 U1 41 (.slice (some ⟨W1.heap.size, 0, none⟩) 0 0) []) := by rw [hU1]; exact Row.start _ W1 W1 _ (Below.refl _ _)
  have HSr : Hid (Src RInfo 15 (fun b => b < W1.heap.size ∧ Value.ownBlock (.slice (some ⟨W1.heap.size, 0, none⟩) 0 0) ≠ some b) U1 a n L) := by
    have h1 : SlAt RInfo 15 208 (fun b => b < W1.heap.size) U1 a n cap L := (HL1.out.weak RInfo.firm (fun b hb _ => hb)).on RInfo.firm bU
    exact (h1.src RInfo.firm).weak RInfo.firm (fun b _ hb => ⟨hb, fun e => by have e2 : (some W1.heap.size : Option Nat) = some b := e; have e3 := Option.some.inj e2; have h2 : b < W1.heap.size := hb; omega⟩)
  have HU1 : Hid (W1.alloc (.cells #[] 41) = U1) := hU1.symm
  have HLb : Hid ((([] : List InfoD).length + L.length) * 208 ≤ 140737488355328) := by have h1 := HLn.out; rw [Hid, List.length_nil, hn.out]; omega
  clear b1 hW1 hP hp hL hN hU1 bU
  go_enter Try.func3, Try.ntmps3
  go_upto_region 1 with fail
  rw [HW1.out, HP.out]
  clear HW1
  --M1
  go_wp2_with (first | (at_builtin; refine wpl_atG HU1.out.symm ?_; refine row_appendP RInfo.firm (A := (fun b => b < W1.heap.size)) (w0 := W1) rfl _ _ 34 41 rfl _ 208 infoInfoS Try.underlying34 rfl (by decide) (by decide) (.slice (some ⟨W1.heap.size, 0, none⟩) 0 0) [] rfl HR1.out a n cap L rfl HSr.out HLb.out ?_; intro v2 w2 hrow2 hg2 hw2) | fail)
  --M2
  rw [List.nil_append] at hrow2
  obtain ⟨oa, oc, oe, os⟩ := hrow2.sl (bytes := 208) RInfo.firm (by rw [hn.out]; exact HLn.out)
  have os := os.weak RInfo.firm (A' := (fun _ => True)) (fun _ _ _ => trivial)
  subst oe
  rw [hn.out] at os ⊢
  have HB2 : Hid (Below W1.heap.size W1 w2) := hrow2.below
  have HO2 : Hid (SlAt RInfo 15 208 (fun _ => True) w2 oa n oc L) := os
  have hI := Ints_copy b m capb (fun _ => True) N w2 (HN1.out.on RInt.firm HB2.out)
  clear os hrow2 hg2 hw2 HU1 HR1 HSr HLb
  --M3
  go_wp2_with fail
  refine hI.mono ?_
  rintro e w3 ⟨na, nc, rfl, hns, b3⟩
  have HB3 : Hid (Below W1.heap.size W1 w3) := on2 HB2.out b3
  have HA : Hid (∀ z, Below w3.heap.size w3 z → SlAt RInfo 15 208 (fun _ => True) z oa n oc L ∧ SlAt RInfo 15 208 (fun _ => True) z a n cap L ∧ RPod (fun _ => True) z ps p ∧ SlAt RInt 1 8 (fun _ => True) z na m nc N ∧ SlAt RInt 1 8 (fun _ => True) z b m capb N ∧ z.rangeAt P 0 ps) := fun z hz => ⟨HO2.out.on RInfo.firm (on2 b3 hz), HL1.out.on RInfo.firm (on2 HB3.out hz), RPod.firm.kept HP1.out (Kept.below (on2 HB3.out hz)), (hns.weak RInt.firm (fun _ _ _ => trivial)).on RInt.firm hz, HN1.out.on RInt.firm (on2 HB3.out hz), (HX.out.on (on2 HB3.out hz)).range⟩
  clear hI hns b3 HO2 HL1 HP1 HN1 HX HB2
  go_wp2_with fail
  --M4
  go_loopw [11] (fun i z => ∃ k : Nat, k ≤ n ∧ i = .int .i64 k ∧ Hid (Below w3.heap.size w3 z)) (fun i _ => n - (intOf i).toNat)
  case atStart => exact ⟨0, Nat.zero_le _, rfl, Below.refl _ _⟩
  case round =>
    obtain ⟨k, hk, rfl, hrun⟩ := hrel
    by_cases hlt : k < n
    · have hltz : (k : Int) < (n : Int) := by omega
      obtain ⟨D, off, rfl, hD, _, cs, hra, hva⟩ := (HA.out wr hrun.out).2.1.get hlt
      obtain ⟨E, of2, rfl, hE, _, ds, hrb, hvb⟩ := (HA.out wr hrun.out).1.get hlt
      obtain ⟨x, hx⟩ : ∃ x, x = L.getD k default := ⟨_, rfl⟩
      rw [← hx] at hra hrb
      have hiC : (Try.prog.info? 41).map (·.size) = some cs.length := by rw [RInfo.firm.len hra]; exact sizeInfoS
      have hiD : (Try.prog.info? 41).map (·.size) = some ds.length := by rw [RInfo.firm.len hrb]; exact sizeInfoS
      have HRa : Hid (∀ z, Below wr.heap.size wr z → z.rangeAt D (off + k * 15) cs ∧ RInfo (fun _ => True) z cs x ∧ z.rangeAt E (of2 + k * 15) ds ∧ RInfo (fun _ => True) z ds x ∧ RPod (fun _ => True) z ps p ∧ z.rangeAt P 0 ps) := fun z hz => ⟨fun j v hj => (hz.cell (p := ⟨D, off + k * 15 + j, none⟩) hD).trans (hva j v hj), RInfo.firm.kept hra (Kept.below hz), fun j v hj => (hz.cell (p := ⟨E, of2 + k * 15 + j, none⟩) hE).trans (hvb j v hj), RInfo.firm.kept hrb (Kept.below hz), (HA.out z (on2 hrun.out hz)).2.2.1, (HA.out z (on2 hrun.out hz)).2.2.2.2.2⟩
      obtain ⟨va, hv1⟩ : ∃ v, v = leastP p x := ⟨_, rfl⟩
      obtain ⟨vb, hv2⟩ : ∃ v, v = evenP p x := ⟨_, rfl⟩
      have HC1 : Hid (∀ z, Below wr.heap.size wr z → (Calls Try.prog 10 #[.agg ps.toArray, .agg ds.toArray] z fun e w' => e = .returned (.int .i64 va) ∧ Below z.heap.size z w') ∧ (Calls Try.prog 11 #[.agg ps.toArray, .agg cs.toArray] z fun e w' => e = .returned (.int .i64 va) ∧ Below z.heap.size z w')) := fun z hz => ⟨by rw [hv1]; exact Least_calls ps ds (fun _ => True) (fun _ => True) p x z (HRa.out z hz).2.2.2.2.1 (HRa.out z hz).2.2.2.1, by rw [hv1]; exact rLeast_calls ps cs (fun _ => True) (fun _ => True) p x z (HRa.out z hz).2.2.2.2.1 (HRa.out z hz).2.1⟩
      have HC2 : Hid (∀ z, Below wr.heap.size wr z → (Calls Try.prog 12 #[.agg ps.toArray, .agg ds.toArray] z fun e w' => e = .returned (.int .i64 vb) ∧ Below z.heap.size z w') ∧ (Calls Try.prog 13 #[.agg ps.toArray, .agg cs.toArray] z fun e w' => e = .returned (.int .i64 vb) ∧ Below z.heap.size z w')) := fun z hz => ⟨by rw [hv2]; exact Even_calls ps ds (fun _ => True) (fun _ => True) p x z (HRa.out z hz).2.2.2.2.1 (HRa.out z hz).2.2.2.1, by rw [hv2]; exact rEven_calls ps cs (fun _ => True) (fun _ => True) p x z (HRa.out z hz).2.2.2.2.1 (HRa.out z hz).2.1⟩
      have HRn : Hid (Below w3.heap.size w3 wr) := hrun.out
      clear hx hva hvb hra hrb hv1 hv2 hrun
      go_upto_region 6 with fail
      --M5
      have hb0 : Below wr.heap.size wr wr.drew := (Below.refl _ _).drew
      refine t0 (fun z => Below wr.heap.size wr z) hb0 (fun hHeld => ?_)
      generalize wr.drew = wd at hHeld ⊢
      clear hb0
      try go_frame
      refine tq 0 (.agg ps.toArray) (yieldsIf_load_mid (by rfl) 33 _ rfl P 0 (by go_simp) ps _ (fun z hz => (HRa.out z hz).2.2.2.2.2) Try.underlying33 rfl hiP) ?_ (hi := rfl)
      try go_frame
      refine' tk 1 ?_ ?_; rotate_left
      · intro z hz; clear hz; go_simp; try with_reducible rfl
      try go_frame
      refine' tk 2 ?_ ?_; rotate_left
      · intro z hz; clear hz; go_simp; try with_reducible rfl
      try go_frame
      refine' tk 3 ?_ ?_; rotate_left
      · intro z hz; clear hz; go_simp; try with_reducible rfl
      try go_frame
      refine tq 4 (.agg ds.toArray) (yieldsIf_load_mid (by rfl) 41 _ rfl E (of2 + k * 15) (by go_simp) ds _ (fun z hz => (HRa.out z hz).2.2.1) Try.underlying41 rfl hiD) ?_ (hi := rfl)
      try go_frame
      refine tq 6 (.agg ps.toArray) (yieldsIf_load_mid (by rfl) 33 _ rfl P 0 (by go_simp) ps _ (fun z hz => (HRa.out z hz).2.2.2.2.2) Try.underlying33 rfl hiP) ?_ (hi := rfl)
      try go_frame
      refine' tk 7 ?_ ?_; rotate_left
      · intro z hz; clear hz; go_simp; try with_reducible rfl
      try go_frame
      refine' tk 8 ?_ ?_; rotate_left
      · intro z hz; clear hz; go_simp; try with_reducible rfl
      try go_frame
      refine' tk 9 ?_ ?_; rotate_left
      · intro z hz; clear hz; go_simp; try with_reducible rfl
      try go_frame
      refine tq 10 (.agg cs.toArray) (yieldsIf_load_mid (by rfl) 41 _ rfl D (off + k * 15) (by go_simp) cs _ (fun z hz => (HRa.out z hz).1) Try.underlying41 rfl hiC) ?_ (hi := rfl)
      try go_frame
      have hA := (HC1.out wd hHeld).1
      refine tr 5 (fun K hK => ?_)
      go_simp
      refine hA.mono ?_
      rintro e v1w ⟨rfl, hq⟩
      clear hA
      have hb9 : Below wr.heap.size wr v1w := on2 hHeld hq
      go_wp2_with fail
      refine hK.out _ _ hb9 (fun hHeld2 => ?_)
      clear hb9
      clear hK K hHeld; have hHeld := hHeld2; clear hHeld2
      try go_frame
      have hA := (HC1.out v1w hHeld).2
      refine tr 11 (fun K hK => ?_)
      go_simp
      refine hA.mono ?_
      rintro e v2w ⟨rfl, hq⟩
      clear hA
      have hb9 : Below wr.heap.size wr v2w := on2 hHeld hq
      go_wp2_with fail
      refine hK.out _ _ hb9 (fun hHeld2 => ?_)
      clear hb9
      clear hK K hHeld; have hHeld := hHeld2; clear hHeld2
      try go_frame
      refine' tk 12 ?_ ?_; rotate_left
      · intro z hz; clear hz; go_simp; try with_reducible rfl
      try go_frame
      refine' tk 13 ?_ ?_; rotate_left
      · intro z hz; clear hz; go_simp; try with_reducible rfl
      try go_frame
      refine tq 14 (.agg ps.toArray) (yieldsIf_load_mid (by rfl) 33 _ rfl P 0 (by go_simp) ps _ (fun z hz => (HRa.out z hz).2.2.2.2.2) Try.underlying33 rfl hiP) ?_ (hi := rfl)
      try go_frame
      refine' tk 15 ?_ ?_; rotate_left
      · intro z hz; clear hz; go_simp; try with_reducible rfl
      try go_frame
      refine' tk 16 ?_ ?_; rotate_left
      · intro z hz; clear hz; go_simp; try with_reducible rfl
      try go_frame
      refine' tk 17 ?_ ?_; rotate_left
      · intro z hz; clear hz; go_simp; try with_reducible rfl
      try go_frame
      refine tq 18 (.agg ds.toArray) (yieldsIf_load_mid (by rfl) 41 _ rfl E (of2 + k * 15) (by go_simp) ds _ (fun z hz => (HRa.out z hz).2.2.1) Try.underlying41 rfl hiD) ?_ (hi := rfl)
      try go_frame
      refine tq 20 (.agg ps.toArray) (yieldsIf_load_mid (by rfl) 33 _ rfl P 0 (by go_simp) ps _ (fun z hz => (HRa.out z hz).2.2.2.2.2) Try.underlying33 rfl hiP) ?_ (hi := rfl)
      try go_frame
      refine' tk 21 ?_ ?_; rotate_left
      · intro z hz; clear hz; go_simp; try with_reducible rfl
      try go_frame
      refine' tk 22 ?_ ?_; rotate_left
      · intro z hz; clear hz; go_simp; try with_reducible rfl
      try go_frame
      refine' tk 23 ?_ ?_; rotate_left
      · intro z hz; clear hz; go_simp; try with_reducible rfl
      try go_frame
      refine tq 24 (.agg cs.toArray) (yieldsIf_load_mid (by rfl) 41 _ rfl D (off + k * 15) (by go_simp) cs _ (fun z hz => (HRa.out z hz).1) Try.underlying41 rfl hiC) ?_ (hi := rfl)
      try go_frame
      have hA := (HC2.out v2w hHeld).1
      refine tr 19 (fun K hK => ?_)
      go_simp
      refine hA.mono ?_
      rintro e v3w ⟨rfl, hq⟩
      clear hA
      have hb9 : Below wr.heap.size wr v3w := on2 hHeld hq
      go_wp2_with fail
      refine hK.out _ _ hb9 (fun hHeld2 => ?_)
      clear hb9
      clear hK K hHeld; have hHeld := hHeld2; clear hHeld2
      try go_frame
      have hA := (HC2.out v3w hHeld).2
      refine tr 25 (fun K hK => ?_)
      go_simp
      refine hA.mono ?_
      rintro e v4w ⟨rfl, hq⟩
      clear hA
      have hb9 : Below wr.heap.size wr v4w := on2 hHeld hq
      go_wp2_with fail
      refine hK.out _ _ hb9 (fun hHeld2 => ?_)
      clear hb9
      clear hK K hHeld; have hHeld := hHeld2; clear hHeld2
      try go_frame
      refine' tk 26 ?_ ?_; rotate_left
      · intro z hz; clear hz; go_simp; try with_reducible rfl
      try go_frame
      refine' tk 27 ?_ ?_; rotate_left
      · intro z hz; clear hz; go_simp; try with_reducible rfl
      try go_frame
      refine tz ?_
      have HE : Hid (Below w3.heap.size w3 v4w) := on2 HRn.out hHeld
      clear hHeld HC1 HC2 HRa HRn
      go_wp2_with fail
      go_roundw
      case rel => exact ⟨k + 1, by omega, by go_num, HE⟩
      case measure => simp [intOf]; omega
    · have hltz : ¬ (k : Int) < (n : Int) := by omega
      have HBr : Hid (Below w3.heap.size w3 wr) := hrun.out
      have HAw : Hid (∀ z, Below wr.heap.size wr z → SlAt RInfo 15 208 (fun _ => True) z oa n oc L ∧ SlAt RInfo 15 208 (fun _ => True) z a n cap L ∧ RPod (fun _ => True) z ps p ∧ SlAt RInt 1 8 (fun _ => True) z na m nc N ∧ SlAt RInt 1 8 (fun _ => True) z b m capb N ∧ z.rangeAt P 0 ps) := fun z hz => HA.out z (on2 HBr.out hz)
      obtain ⟨M1, hM1⟩ : ∃ M, M = calmP p L := ⟨_, rfl⟩
      obtain ⟨M2, hM2⟩ : ∃ M, M = likedP p L := ⟨_, rfl⟩
      obtain ⟨M3, hM3⟩ : ∃ M, M = normP N rev := ⟨_, rfl⟩
      have HM1 : Hid (calmP p L = M1 ∧ M1.length = n) := ⟨hM1.symm, by rw [hM1, calm_len, hn.out]⟩
      have HM2 : Hid (likedP p L = M2 ∧ M2.length = n) := ⟨hM2.symm, by rw [hM2, liked_len, hn.out]⟩
      have HM3 : Hid (normP N rev = M3 ∧ M3.length = m) := ⟨hM3.symm, by rw [hM3, norm_len, hm.out]⟩
      clear hrun hM1 hM2 hM3 HA
      go_upto_region 8 with fail
      --M6
      have hb0 : Below wr.heap.size wr wr.drew := (Below.refl _ _).drew
      refine t0 (fun z => Below wr.heap.size wr z) hb0 (fun hHeld => ?_)
      generalize wr.drew = wd at hHeld ⊢
      clear hb0
      try go_frame
      refine tq 0 (.agg ps.toArray) (yieldsIf_load_mid (by rfl) 33 _ rfl P 0 (by go_simp) ps _ (fun z hz => (HAw.out z hz).2.2.2.2.2) Try.underlying33 rfl hiP) ?_ (hi := rfl)
      try go_frame
      refine' tk 1 ?_ ?_; rotate_left
      · intro z hz; clear hz; go_simp; try with_reducible rfl
      try go_frame
      refine tq 3 (.agg ps.toArray) (yieldsIf_load_mid (by rfl) 33 _ rfl P 0 (by go_simp) ps _ (fun z hz => (HAw.out z hz).2.2.2.2.2) Try.underlying33 rfl hiP) ?_ (hi := rfl)
      try go_frame
      refine' tk 4 ?_ ?_; rotate_left
      · intro z hz; clear hz; go_simp; try with_reducible rfl
      try go_frame
      have hA := Calm_calls ps (fun _ => True) (fun _ => True) p oa n oc L wd (HAw.out _ hHeld).2.2.1 (HAw.out _ hHeld).1
      rw [HM1.out.1] at hA
      refine tr 2 (fun K hK => ?_)
      go_simp
      refine hA.mono ?_
      rintro e v1w ⟨u1, rfl, h1⟩
      clear hA
      have hb9 : Below wr.heap.size wr v1w := on2 hHeld h1.below
      go_wp2_with fail
      refine hK.out _ _ hb9 (fun hHeld2 => ?_)
      clear hb9
      clear hK K hHeld; have hHeld := hHeld2; clear hHeld2
      try go_frame
      have hA := rCalm_calls ps (fun _ => True) (fun _ => True) p a n cap L v1w (HAw.out _ hHeld).2.2.1 (HAw.out _ hHeld).2.1
      rw [HM1.out.1] at hA
      refine tr 5 (fun K hK => ?_)
      go_simp
      refine hA.mono ?_
      rintro e v2w ⟨u2, rfl, h2⟩
      clear hA
      have hb9 : Below wr.heap.size wr v2w := on2 hHeld h2.below
      go_wp2_with fail
      refine hK.out _ _ hb9 (fun hHeld2 => ?_)
      clear hb9
      clear hK K hHeld; have hHeld := hHeld2; clear hHeld2
      try go_frame
      obtain ⟨la, lc, rfl, ls⟩ := (h1.wAG RInt.firm (A' := (fun _ => True)) (fun _ h => h.elim)).slF (bytes := 8) RInt.firm (by rw [HM1.out.2]; have := HLn.out; omega)
      have ls := ls.weak RInt.firm (A' := (fun _ => True)) (fun _ _ _ => trivial)
      rw [HM1.out.2] at ls ⊢
      obtain ⟨ka, kc, rfl, ks⟩ := (h2.wAG RInt.firm (A' := (fun _ => True)) (fun _ h => h.elim)).slF (bytes := 8) RInt.firm (by rw [HM1.out.2]; have := HLn.out; omega)
      have ks := ks.weak RInt.firm (A' := (fun _ => True)) (fun _ _ _ => trivial)
      rw [HM1.out.2] at ks ⊢
      have hA := SameInts_calls la n lc (fun _ => True) M1 ka n kc (fun _ => True) M1 v2w (ls.on RInt.firm h2.below) ks
      rw [show decide ((M1 : List Int) = M1) = true from decide_eq_true rfl] at hA
      refine tr 6 (fun K hK => ?_)
      go_simp
      refine hA.mono ?_
      rintro e v3w ⟨rfl, q, hq⟩
      clear hA
      have hb9 : Below wr.heap.size wr v3w := on2 hHeld (by rw [hq]; exact below_drewN (Below.refl _ _) _)
      clear hq
      go_wp2_with fail
      refine hK.out _ _ hb9 (fun hHeld2 => ?_)
      clear hb9 ls ks h1 h2
      clear hK K hHeld; have hHeld := hHeld2; clear hHeld2
      try go_frame
      refine' tk 7 ?_ ?_; rotate_left
      · intro z hz; clear hz; go_simp; try with_reducible rfl
      try go_frame
      refine tq 8 (.agg ps.toArray) (yieldsIf_load_mid (by rfl) 33 _ rfl P 0 (by go_simp) ps _ (fun z hz => (HAw.out z hz).2.2.2.2.2) Try.underlying33 rfl hiP) ?_ (hi := rfl)
      try go_frame
      refine' tk 9 ?_ ?_; rotate_left
      · intro z hz; clear hz; go_simp; try with_reducible rfl
      try go_frame
      refine tq 11 (.agg ps.toArray) (yieldsIf_load_mid (by rfl) 33 _ rfl P 0 (by go_simp) ps _ (fun z hz => (HAw.out z hz).2.2.2.2.2) Try.underlying33 rfl hiP) ?_ (hi := rfl)
      try go_frame
      refine' tk 12 ?_ ?_; rotate_left
      · intro z hz; clear hz; go_simp; try with_reducible rfl
      try go_frame
      have hA := Liked_calls ps (fun _ => True) (fun _ => True) p oa n oc L v3w (HAw.out _ hHeld).2.2.1 (HAw.out _ hHeld).1
      rw [HM2.out.1] at hA
      refine tr 10 (fun K hK => ?_)
      go_simp
      refine hA.mono ?_
      rintro e v4w ⟨u1, rfl, h1⟩
      clear hA
      have hb9 : Below wr.heap.size wr v4w := on2 hHeld h1.below
      go_wp2_with fail
      refine hK.out _ _ hb9 (fun hHeld2 => ?_)
      clear hb9
      clear hK K hHeld; have hHeld := hHeld2; clear hHeld2
      try go_frame
      have hA := rLiked_calls ps (fun _ => True) (fun _ => True) p a n cap L v4w (HAw.out _ hHeld).2.2.1 (HAw.out _ hHeld).2.1
      rw [HM2.out.1] at hA
      refine tr 13 (fun K hK => ?_)
      go_simp
      refine hA.mono ?_
      rintro e v5w ⟨u2, rfl, h2⟩
      clear hA
      have hb9 : Below wr.heap.size wr v5w := on2 hHeld h2.below
      go_wp2_with fail
      refine hK.out _ _ hb9 (fun hHeld2 => ?_)
      clear hb9
      clear hK K hHeld; have hHeld := hHeld2; clear hHeld2
      try go_frame
      obtain ⟨la, lc, rfl, ls⟩ := (h1.wAG RInt.firm (A' := (fun _ => True)) (fun _ h => h.elim)).slF (bytes := 8) RInt.firm (by rw [HM2.out.2]; have := HLn.out; omega)
      have ls := ls.weak RInt.firm (A' := (fun _ => True)) (fun _ _ _ => trivial)
      rw [HM2.out.2] at ls ⊢
      obtain ⟨ka, kc, rfl, ks⟩ := (h2.wAG RInt.firm (A' := (fun _ => True)) (fun _ h => h.elim)).slF (bytes := 8) RInt.firm (by rw [HM2.out.2]; have := HLn.out; omega)
      have ks := ks.weak RInt.firm (A' := (fun _ => True)) (fun _ _ _ => trivial)
      rw [HM2.out.2] at ks ⊢
      have hA := SameInts_calls la n lc (fun _ => True) M2 ka n kc (fun _ => True) M2 v5w (ls.on RInt.firm h2.below) ks
      rw [show decide ((M2 : List Int) = M2) = true from decide_eq_true rfl] at hA
      refine tr 14 (fun K hK => ?_)
      go_simp
      refine hA.mono ?_
      rintro e v6w ⟨rfl, q, hq⟩
      clear hA
      have hb9 : Below wr.heap.size wr v6w := on2 hHeld (by rw [hq]; exact below_drewN (Below.refl _ _) _)
      clear hq
      go_wp2_with fail
      refine hK.out _ _ hb9 (fun hHeld2 => ?_)
      clear hb9 ls ks h1 h2
      clear hK K hHeld; have hHeld := hHeld2; clear hHeld2
      try go_frame
      refine' tk 15 ?_ ?_; rotate_left
      · intro z hz; clear hz; go_simp; try with_reducible rfl
      try go_frame
      refine' tk 16 ?_ ?_; rotate_left
      · intro z hz; clear hz; go_simp; try with_reducible rfl
      try go_frame
      refine' tk 17 ?_ ?_; rotate_left
      · intro z hz; clear hz; go_simp; try with_reducible rfl
      try go_frame
      refine' tk 18 ?_ ?_; rotate_left
      · intro z hz; clear hz; go_simp; try with_reducible rfl
      try go_frame
      refine' tk 20 ?_ ?_; rotate_left
      · intro z hz; clear hz; go_simp; try with_reducible rfl
      try go_frame
      refine' tk 21 ?_ ?_; rotate_left
      · intro z hz; clear hz; go_simp; try with_reducible rfl
      try go_frame
      have hA := Normal_calls na m nc (fun _ => True) N rev v6w (HAw.out _ hHeld).2.2.2.1
      rw [HM3.out.1] at hA
      refine tr 19 (fun K hK => ?_)
      go_simp
      refine hA.mono ?_
      rintro e v7w ⟨u1, rfl, h1⟩
      clear hA
      have hb9 : Below wr.heap.size wr v7w := on2 hHeld h1.below
      go_wp2_with fail
      refine hK.out _ _ hb9 (fun hHeld2 => ?_)
      clear hb9
      clear hK K hHeld; have hHeld := hHeld2; clear hHeld2
      try go_frame
      have hA := rNormal_calls b m capb (fun _ => True) N rev v7w (HAw.out _ hHeld).2.2.2.2.1
      rw [HM3.out.1] at hA
      refine tr 22 (fun K hK => ?_)
      go_simp
      refine hA.mono ?_
      rintro e v8w ⟨u2, rfl, h2⟩
      clear hA
      have hb9 : Below wr.heap.size wr v8w := on2 hHeld h2.below
      go_wp2_with fail
      refine hK.out _ _ hb9 (fun hHeld2 => ?_)
      clear hb9
      clear hK K hHeld; have hHeld := hHeld2; clear hHeld2
      try go_frame
      obtain ⟨la, lc, rfl, ls⟩ := (h1.wAG RInt.firm (A' := (fun _ => True)) (fun _ h => h.elim)).slF (bytes := 8) RInt.firm (by rw [HM3.out.2]; have := HMn.out; omega)
      have ls := ls.weak RInt.firm (A' := (fun _ => True)) (fun _ _ _ => trivial)
      rw [HM3.out.2] at ls ⊢
      obtain ⟨ka, kc, rfl, ks⟩ := (h2.wAG RInt.firm (A' := (fun _ => True)) (fun _ h => h.elim)).slF (bytes := 8) RInt.firm (by rw [HM3.out.2]; have := HMn.out; omega)
      have ks := ks.weak RInt.firm (A' := (fun _ => True)) (fun _ _ _ => trivial)
      rw [HM3.out.2] at ks ⊢
      have hA := SameInts_calls la m lc (fun _ => True) M3 ka m kc (fun _ => True) M3 v8w (ls.on RInt.firm h2.below) ks
      rw [show decide ((M3 : List Int) = M3) = true from decide_eq_true rfl] at hA
      refine tr 23 (fun K hK => ?_)
      go_simp
      refine hA.mono ?_
      rintro e v9w ⟨rfl, q, hq⟩
      clear hA
      have hb9 : Below wr.heap.size wr v9w := on2 hHeld (by rw [hq]; exact below_drewN (Below.refl _ _) _)
      clear hq
      go_wp2_with fail
      refine hK.out _ _ hb9 (fun hHeld2 => ?_)
      clear hb9 ls ks h1 h2
      clear hK K hHeld; have hHeld := hHeld2; clear hHeld2
      try go_frame
      refine' tk 24 ?_ ?_; rotate_left
      · intro z hz; clear hz; go_simp; try with_reducible rfl
      try go_frame
      refine' tk 25 ?_ ?_; rotate_left
      · intro z hz; clear hz; go_simp; try with_reducible rfl
      try go_frame
      refine' tk 26 ?_ ?_; rotate_left
      · intro z hz; clear hz; go_simp; try with_reducible rfl
      try go_frame
      refine' tk 27 ?_ ?_; rotate_left
      · intro z hz; clear hz; go_simp; try with_reducible rfl
      try go_frame
      have hA := SameInts_calls na m nc (fun _ => True) N b m capb (fun _ => True) N v9w (HAw.out _ hHeld).2.2.2.1 (HAw.out _ hHeld).2.2.2.2.1
      rw [show decide ((N : List Int) = N) = true from decide_eq_true rfl] at hA
      refine tr 28 (fun K hK => ?_)
      go_simp
      refine hA.mono ?_
      rintro e v10w ⟨rfl, q, hq⟩
      clear hA
      have hb9 : Below wr.heap.size wr v10w := on2 hHeld (by rw [hq]; exact below_drewN (Below.refl _ _) _)
      clear hq
      go_wp2_with fail
      refine hK.out _ _ hb9 (fun hHeld2 => ?_)
      clear hb9
      clear hK K hHeld; have hHeld := hHeld2; clear hHeld2
      try go_frame
      refine' tk 29 ?_ ?_; rotate_left
      · intro z hz; clear hz; go_simp; try with_reducible rfl
      try go_frame
      refine' tk 30 ?_ ?_; rotate_left
      · intro z hz; clear hz; go_simp; try with_reducible rfl
      try go_frame
      have hA := works16_calls v10w
      refine tr 31 (fun K hK => ?_)
      go_simp
      refine hA.mono ?_
      rintro e v11w ⟨rfl, hq⟩
      clear hA
      have hb9 : Below wr.heap.size wr v11w := on2 hHeld hq
      go_wp2_with fail
      refine hK.out _ _ hb9 (fun hHeld2 => ?_)
      clear hb9
      clear hK K hHeld; have hHeld := hHeld2; clear hHeld2
      try go_frame
      refine' tk 32 ?_ ?_; rotate_left
      · intro z hz; clear hz; go_simp; try with_reducible rfl
      try go_frame
      refine' tk 33 ?_ ?_; rotate_left
      · intro z hz; clear hz; go_simp; try with_reducible rfl
      try go_frame
      refine tz ?_
      have HE : Hid (Below w.heap.size w v11w) := on2 HB1.out (on2 HB3.out (on2 HBr.out hHeld))
      --M7
      go_wp2_with fail
      go_ret
      exact ⟨rfl, HE.out⟩
end Go.Proofs.Yteihniiacfghoaa
