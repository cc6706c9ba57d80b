/- ScoreWithin, walked. Condition: what is handed in lies as is said of it. -/
import Derived.Test.YteihniiacfghoaaQ18
namespace Go.Proofs.Yteihniiacfghoaa
open Go.RowKit Go.Maps
set_option linter.unusedSimpArgs false
set_option maxRecDepth 100000

/-- What the weights so far allow. -/
def mostQ (w : W4) : Nat → Int
  | 0 => 0
  | j + 1 => mostQ w j + 100 * cw (wtP w j)
theorem mostQ_all (w : W4) : mostQ w 4 = mostP w := by
  show 0 + 100 * cw w.1 + 100 * cw w.2.1 + 100 * cw w.2.2.1 + 100 * cw w.2.2.2 = mostP w
  unfold mostP; omega
theorem mostQ_in (w : W4) : ∀ j, j ≤ 4 → 0 ≤ mostQ w j ∧ mostQ w j ≤ 40000
  | 0, _ => ⟨Int.le_refl _, (by decide : (0 : Int) ≤ 40000)⟩
  | j + 1, h => by
    have : ∀ k, k ≤ 4 → 0 ≤ mostQ w k ∧ mostQ w k ≤ 10000 * k := fun k => by
      induction k with
      | zero => intro _; exact ⟨Int.le_refl _, by show (0 : Int) ≤ 10000 * ((0 : Nat) : Int); omega⟩
      | succ k ih =>
        intro hk
        have h1 := ih (by omega)
        have h2 := cw_ge (wtP w k); have h3 := cw_le (wtP w k)
        show 0 ≤ mostQ w k + 100 * cw (wtP w k) ∧ mostQ w k + 100 * cw (wtP w k) ≤ 10000 * ((k + 1 : Nat) : Int)
        omega
    have h1 := this (j + 1) h
    omega
set_option maxHeartbeats 4000000 in
theorem within_walk (ps : List Value) (p : PodD) (a : Option Addr) (n cap : Nat) (L : List InfoD) (w0 w1 w2 w3 : Int) (w : World) (hp : RPod (fun _ => True) w ps p) (hL : SlAt RInfo 15 208 (fun _ => True) w a n cap L) : Calls Try.prog 6 #[.agg ps.toArray, .slice a n cap, .agg #[.int .i64 w0, .int .i64 w1, .int .i64 w2, .int .i64 w3]] w fun e w' => e = .returned (.bool true) ∧ Below w.heap.size w w' := by
  have hn : Hid (L.length = n) := hL.1
  have HLn : Hid (n * 208 ≤ 140737488351232) := hL.2.2.2.1
  have hml : n < 1000000000000000 := by have := HLn.out; omega
  have hiP : (Try.prog.info? 33).map (·.size) = some ps.length := by rw [RPod.firm.len hp]; exact sizePodS
  obtain ⟨W2, hW2⟩ : ∃ W2, W2 = (w.alloc (.cells ps.toArray 33)).alloc (.cells #[.int .i64 w0, .int .i64 w1, .int .i64 w2, .int .i64 w3] 47) := ⟨_, rfl⟩
  have hB : PiB w W2 ps [.int .i64 w0, .int .i64 w1, .int .i64 w2, .int .i64 w3] := by rw [hW2]; exact PiB.new w ps [.int .i64 w0, .int .i64 w1, .int .i64 w2, .int .i64 w3] _ _
  have hW2' : (w.alloc (.cells ps.toArray 33)).alloc (.cells #[.int .i64 w0, .int .i64 w1, .int .i64 w2, .int .i64 w3] 47) = W2 := hW2.symm
  have HB : Hid (PiB w W2 ps [.int .i64 w0, .int .i64 w1, .int .i64 w2, .int .i64 w3]) := hB
  have HL0 : Hid (SlAt RInfo 15 208 (fun _ => True) w a n cap L) := hL
  have HP0 : Hid (RPod (fun _ => True) w ps p) := hp
  obtain ⟨P, hP⟩ : ∃ P, P = w.heap.size := ⟨_, rfl⟩
  obtain ⟨I, hI⟩ : ∃ I, I = w.heap.size + 1 := ⟨_, rfl⟩
  have HPI : Hid (w.heap.size = P ∧ w.heap.size + 1 = I) := ⟨hP.symm, hI.symm⟩
  clear hB hp hL hP hI hW2
  go_enter Try.func6, Try.ntmps6
  go_upto_region 1 with fail
  rw [HPI.out.2, HPI.out.1]
  clear hW2'
  go_wp2_with fail
  refine (works16_calls W2).mono ?_
  rintro e W3 ⟨rfl, b3⟩
  have HB3 : Hid (PiB w W3 ps [.int .i64 w0, .int .i64 w1, .int .i64 w2, .int .i64 w3]) := HB.out.on b3
  have HXs : Hid (∀ z, Below W3.heap.size W3 z → z.rangeAt P 0 ps ∧ z.rangeAt I 0 [.int .i64 w0, .int .i64 w1, .int .i64 w2, .int .i64 w3]) := fun z hz => by have h1 := (HB3.out.on hz).x.range; have h2 := (HB3.out.on hz).y.range; rw [HPI.out.2] at h2; rw [HPI.out.1] at h1; exact ⟨h1, h2⟩
  have HLp : Hid (∀ z, Below W3.heap.size W3 z → SlAt RInfo 15 208 (fun _ => True) z a n cap L ∧ RPod (fun _ => True) z ps p) := fun z hz => ⟨HL0.out.on RInfo.firm (on2 HB3.out.b hz), RPod.firm.kept HP0.out (Kept.below (on2 HB3.out.b hz))⟩
  have HBw : Hid (Below w.heap.size w W3) := HB3.out.b
  have HCw : Hid (∀ j, j < 4 → W3.cell? ⟨I, j, none⟩ = some (.int .i64 (wtP (w0, w1, w2, w3) j))) := fun j hj => by
    have h2 := HB3.out.y.2; rw [HPI.out.2] at h2
    rcases lt4 hj with rfl | rfl | rfl | rfl
    · exact (h2 0 _ rfl).1
    · exact (h2 1 _ rfl).1
    · exact (h2 2 _ rfl).1
    · exact (h2 3 _ rfl).1
  clear b3 HB HL0 HP0
  go_wp2_with fail
  --M1
  go_loop [7, 8] (fun m i => ∃ j : Nat, j ≤ 4 ∧ i = .int .i64 j ∧ m = .int .i64 (mostQ (w0, w1, w2, w3) j)) (fun _ i => 4 - (intOf i).toNat)
  case atStart => exact ⟨0, Nat.zero_le _, rfl, rfl⟩
  case round =>
    obtain ⟨j, hj, rfl, rfl⟩ := hrel
    by_cases hjl : j < 4
    · have hjz : (j : Int) < 4 := by omega
      have d0 := HCw.out j hjl
      obtain ⟨x, hx⟩ : ∃ x, x = wtP (w0, w1, w2, w3) j := ⟨_, rfl⟩
      obtain ⟨c, hc⟩ : ∃ c, c = clipZ 100 x := ⟨_, rfl⟩
      obtain ⟨q, hq⟩ : ∃ q, q = (if 100 < x then 100 else x) := ⟨_, rfl⟩
      have hmx : (if (0 : Int) < q then q else 0) = c := by rw [hc, hq]; unfold clipZ; repeat (first | split | omega)
      have hmn : (if 100 < x then 100 else x) = q := hq.symm
      have HMM : Hid (max 0 (min x 100) = c) := by rw [Hid, hc]; unfold clipZ; repeat (first | split | omega)
      have hc0 : 0 ≤ c ∧ c ≤ 100 := by rw [hc]; exact ⟨clipZ_ge (by decide) _, clipZ_le (by decide) _⟩
      have hm0 := mostQ_in (w0, w1, w2, w3) j hj
      have HT : Hid (mostQ (w0, w1, w2, w3) (j + 1) = mostQ (w0, w1, w2, w3) j + 100 * c) := by rw [hc, hx]; rfl
      obtain ⟨m, hm⟩ : ∃ m, m = mostQ (w0, w1, w2, w3) j := ⟨_, rfl⟩
      rw [← hm] at HT hm0
      rw [← hm]
      rw [← hx] at d0
      clear hx hc hq hm
      --M2
      go_wp2_with fail
      --M3
      go_round
      case rel => exact ⟨j + 1, by omega, by go_num, by first | (rw [HMM.out, HT.out]; done) | (rw [HT.out]; done)⟩
      case measure => simp [intOf]; omega
    · have hjz : ¬ (j : Int) < 4 := by omega
      have hj4 : j = 4 := by omega
      have HMq : Hid (mostQ (w0, w1, w2, w3) j = mostP (w0, w1, w2, w3)) := by rw [hj4]; exact mostQ_all _
      rw [HMq.out]
      obtain ⟨mo, hmo⟩ : ∃ m, m = mostP (w0, w1, w2, w3) := ⟨_, rfl⟩
      have HMo : Hid (mostP (w0, w1, w2, w3) = mo) := hmo.symm
      rw [← hmo]
      clear hj4 HMq hmo HCw
      go_upto_region 8 with fail
      --M4
      have hb0 : Below W3.heap.size W3 W3.drew := (Below.refl _ _).drew
      refine t0 (fun z => Below W3.heap.size W3 z) hb0 (fun hHeld => ?_)
      generalize W3.drew = wd at hHeld ⊢
      clear hb0
      try go_frame
      refine tq 0 (.agg ps.toArray) (yieldsIf_load_mid (by rfl) 33 _ rfl P 0 (by go_simp) ps _ (fun z hz => (HXs.out z hz).1) Try.underlying33 rfl hiP) ?_ (hi := rfl)
      try go_frame
      refine' tk 1 ?_ ?_; rotate_left
      · intro z hz; clear hz; go_simp; try with_reducible rfl
      try go_frame
      refine tq 2 (.agg #[.int .i64 w0, .int .i64 w1, .int .i64 w2, .int .i64 w3]) (yieldsIf_load_mid (by rfl) 47 _ rfl I 0 (by go_simp) [.int .i64 w0, .int .i64 w1, .int .i64 w2, .int .i64 w3] _ (fun z hz => (HXs.out z hz).2) Try.underlying47 rfl (by kernel_rfl)) ?_ (hi := rfl)
      try go_frame
      refine tq 4 (.agg ps.toArray) (yieldsIf_load_mid (by rfl) 33 _ rfl P 0 (by go_simp) ps _ (fun z hz => (HXs.out z hz).1) Try.underlying33 rfl hiP) ?_ (hi := rfl)
      try go_frame
      refine' tk 5 ?_ ?_; rotate_left
      · intro z hz; clear hz; go_simp; try with_reducible rfl
      try go_frame
      refine tq 7 (.agg ps.toArray) (yieldsIf_load_mid (by rfl) 33 _ rfl P 0 (by go_simp) ps _ (fun z hz => (HXs.out z hz).1) Try.underlying33 rfl hiP) ?_ (hi := rfl)
      try go_frame
      refine' tk 8 ?_ ?_; rotate_left
      · intro z hz; clear hz; go_simp; try with_reducible rfl
      try go_frame
      have hA := Total_calls ps (fun _ => True) (fun _ => True) p a n cap L w0 w1 w2 w3 wd (HLp.out _ hHeld).2 (HLp.out _ hHeld).1
      refine tr 3 (fun K hK => ?_)
      go_simp
      refine hA.mono ?_
      rintro e v1w ⟨v1, rfl, h1⟩
      clear hA
      have hb9 : Below W3.heap.size W3 v1w := on2 hHeld h1.below
      go_wp2_with fail
      refine hK.out _ _ hb9 (fun hHeld2 => ?_)
      clear hb9
      clear hK K hHeld; have hHeld := hHeld2; clear hHeld2
      try go_frame
      have hA := Calm_calls ps (fun _ => True) (fun _ => True) p a n cap L v1w (HLp.out _ hHeld).2 (HLp.out _ hHeld).1
      refine tr 6 (fun K hK => ?_)
      go_simp
      refine hA.mono ?_
      rintro e v2w ⟨v2, rfl, h2⟩
      clear hA
      have hb9 : Below W3.heap.size W3 v2w := on2 hHeld h2.below
      go_wp2_with fail
      refine hK.out _ _ hb9 (fun hHeld2 => ?_)
      clear hb9
      clear hK K hHeld; have hHeld := hHeld2; clear hHeld2
      try go_frame
      have hA := Liked_calls ps (fun _ => True) (fun _ => True) p a n cap L v2w (HLp.out _ hHeld).2 (HLp.out _ hHeld).1
      refine tr 9 (fun K hK => ?_)
      go_simp
      refine hA.mono ?_
      rintro e v3w ⟨v3, rfl, h3⟩
      clear hA
      have hb9 : Below W3.heap.size W3 v3w := on2 hHeld h3.below
      go_wp2_with fail
      refine hK.out _ _ hb9 (fun hHeld2 => ?_)
      clear hb9
      clear hK K hHeld; have hHeld := hHeld2; clear hHeld2
      try go_frame
      obtain ⟨la, lc, rfl, ls⟩ := (h1.wAG RInt.firm (A' := (fun _ => True)) (fun _ h => h.elim)).slF (bytes := 8) RInt.firm (by rw [total_len, hn.out]; have := HLn.out; omega)
      have ls := ls.weak RInt.firm (A' := (fun _ => True)) (fun _ _ _ => trivial)
      rw [total_len, hn.out] at ls ⊢
      obtain ⟨ka, kc, rfl, ks⟩ := (h2.wAG RInt.firm (A' := (fun _ => True)) (fun _ h => h.elim)).slF (bytes := 8) RInt.firm (by rw [calm_len, hn.out]; have := HLn.out; omega)
      have ks := ks.weak RInt.firm (A' := (fun _ => True)) (fun _ _ _ => trivial)
      rw [calm_len, hn.out] at ks ⊢
      obtain ⟨ma, mc, rfl, ms⟩ := (h3.wAG RInt.firm (A' := (fun _ => True)) (fun _ h => h.elim)).slF (bytes := 8) RInt.firm (by rw [liked_len, hn.out]; have := HLn.out; omega)
      have ms := ms.weak RInt.firm (A' := (fun _ => True)) (fun _ _ _ => trivial)
      rw [liked_len, hn.out] at ms ⊢
      have HSl : Hid (SlAt RInt 1 8 (fun _ => True) v3w la n lc (totalP p L (w0, w1, w2, w3)) ∧ SlAt RInt 1 8 (fun _ => True) v3w ka n kc (calmP p L) ∧ SlAt RInt 1 8 (fun _ => True) v3w ma n mc (likedP p L)) := ⟨(ls.on RInt.firm h2.below).on RInt.firm h3.below, ks.on RInt.firm h3.below, ms⟩
      clear ls ks ms h1 h2 h3
      refine' tk 10 ?_ ?_; rotate_left
      · intro z hz; clear hz; go_simp; try with_reducible rfl
      try go_frame
      refine' tk 11 ?_ ?_; rotate_left
      · intro z hz; clear hz; go_simp; try with_reducible rfl
      try go_frame
      refine' tk 12 ?_ ?_; rotate_left
      · intro z hz; clear hz; go_simp; try with_reducible rfl
      try go_frame
      refine tz ?_
      have HB8 : Hid (Below W3.heap.size W3 v3w) := hHeld
      clear hHeld
      go_wp2_with fail
      --M5
      go_loopw [12] (fun i z => ∃ k : Nat, k ≤ n ∧ i = .int .i64 k ∧ Hid (Below v3w.heap.size v3w z)) (fun i _ => n - (intOf i).toNat)
      case atStart => exact ⟨0, Nat.zero_le _, rfl, Below.refl _ _⟩
      case round =>
        clear hjz hjl hj
        obtain ⟨k, hk, rfl, hrun⟩ := hrel
        have HBz : Hid (Below W3.heap.size W3 wr) := on2 HB8.out hrun.out
        by_cases hlt : k < n
        · have hltz : (k : Int) < (n : Int) := by omega
          have hkl : k < L.length := by rw [hn.out]; exact hlt
          obtain ⟨D, off, rfl, hD, _, cs, hra, hva⟩ := (HLp.out wr HBz.out).1.get hlt
          obtain ⟨x, hx⟩ : ∃ x, x = L.getD k default := ⟨_, rfl⟩
          rw [← hx] at hra
          have hiI : (Try.prog.info? 41).map (·.size) = some cs.length := by rw [RInfo.firm.len hra]; exact sizeInfoS
          have HRa : Hid (∀ z, Below wr.heap.size wr z → z.rangeAt D (off + k * 15) cs ∧ RInfo (fun _ => True) z cs x) := fun z hz => ⟨fun j v hj => (hz.cell (p := ⟨D, off + k * 15 + j, none⟩) hD).trans (hva j v hj), RInfo.firm.kept hra (Kept.below hz)⟩
          obtain ⟨va, hv1⟩ : ∃ v, v = leastP p x := ⟨_, rfl⟩
          obtain ⟨vb, hv2⟩ : ∃ v, v = evenP p x := ⟨_, rfl⟩
          have HCa : Hid (∀ z, Below wr.heap.size wr z → (Calls Try.prog 10 #[.agg ps.toArray, .agg cs.toArray] z fun e w' => e = .returned (.int .i64 va) ∧ Below z.heap.size z w') ∧ (Calls Try.prog 12 #[.agg ps.toArray, .agg cs.toArray] z fun e w' => e = .returned (.int .i64 vb) ∧ Below z.heap.size z w')) := fun z hz => ⟨by rw [hv1]; exact Least_calls ps cs (fun _ => True) (fun _ => True) p x z (HLp.out z (on2 HBz.out hz)).2 (HRa.out z hz).2, by rw [hv2]; exact Even_calls ps cs (fun _ => True) (fun _ => True) p x z (HLp.out z (on2 HBz.out hz)).2 (HRa.out z hz).2⟩
          have ha0 : 0 ≤ va ∧ va ≤ 100 := by rw [hv1]; exact ⟨least_ge _ _, least_le _ _⟩
          have hb0' : 0 ≤ vb ∧ vb ≤ 100 := by rw [hv2]; exact ⟨even_ge _ _, even_le _ _⟩
          have hxy : Hid (Below W3.heap.size W3 wr) := HBz.out
          have HRn : Hid (Below v3w.heap.size v3w wr) := hrun.out
          clear hx hva hra hv1 hv2 hrun
          go_upto_region 14 with fail
          --M6
          have hb0 : Below wr.heap.size wr wr.drew := (Below.refl _ _).drew
          refine t0 (fun z => Below wr.heap.size wr z) hb0 (fun hHeld => ?_)
          generalize wr.drew = wd at hHeld ⊢
          clear hb0
          try go_frame
          refine tq 0 (.agg ps.toArray) (yieldsIf_load_mid (by rfl) 33 _ rfl P 0 (by go_simp) ps _ (fun z hz => (HXs.out z (on2 HBz.out hz)).1) Try.underlying33 rfl hiP) ?_ (hi := rfl)
          try go_frame
          refine' tk 1 ?_ ?_; rotate_left
          · intro z hz; clear hz; go_simp; try with_reducible rfl
          try go_frame
          refine' tk 2 ?_ ?_; rotate_left
          · intro z hz; clear hz; go_simp; try with_reducible rfl
          try go_frame
          refine' tk 3 ?_ ?_; rotate_left
          · intro z hz; clear hz; go_simp; try with_reducible rfl
          try go_frame
          refine tq 4 (.agg cs.toArray) (yieldsIf_load_mid (by rfl) 41 _ rfl D (off + k * 15) (by go_simp) cs _ (fun z hz => (HRa.out z hz).1) Try.underlying41 rfl hiI) ?_ (hi := rfl)
          try go_frame
          refine tq 6 (.agg ps.toArray) (yieldsIf_load_mid (by rfl) 33 _ rfl P 0 (by go_simp) ps _ (fun z hz => (HXs.out z (on2 HBz.out hz)).1) Try.underlying33 rfl hiP) ?_ (hi := rfl)
          try go_frame
          refine' tk 7 ?_ ?_; rotate_left
          · intro z hz; clear hz; go_simp; try with_reducible rfl
          try go_frame
          refine' tk 8 ?_ ?_; rotate_left
          · intro z hz; clear hz; go_simp; try with_reducible rfl
          try go_frame
          refine' tk 9 ?_ ?_; rotate_left
          · intro z hz; clear hz; go_simp; try with_reducible rfl
          try go_frame
          refine tq 10 (.agg cs.toArray) (yieldsIf_load_mid (by rfl) 41 _ rfl D (off + k * 15) (by go_simp) cs _ (fun z hz => (HRa.out z hz).1) Try.underlying41 rfl hiI) ?_ (hi := rfl)
          try go_frame
          have hA := (HCa.out wd hHeld).1
          refine tr 5 (fun K hK => ?_)
          go_simp
          refine hA.mono ?_
          rintro e v1w ⟨rfl, hq⟩
          clear hA
          have hb9 : Below wr.heap.size wr v1w := on2 hHeld hq
          go_wp2_with fail
          refine hK.out _ _ hb9 (fun hHeld2 => ?_)
          clear hb9
          clear hK K hHeld; have hHeld := hHeld2; clear hHeld2
          try go_frame
          have hA := (HCa.out v1w hHeld).2
          refine tr 11 (fun K hK => ?_)
          go_simp
          refine hA.mono ?_
          rintro e v2w ⟨rfl, hq⟩
          clear hA
          have hb9 : Below wr.heap.size wr v2w := on2 hHeld hq
          go_wp2_with fail
          refine hK.out _ _ hb9 (fun hHeld2 => ?_)
          clear hb9
          clear hK K hHeld; have hHeld := hHeld2; clear hHeld2
          try go_frame
          refine' tk 12 ?_ ?_; rotate_left
          · intro z hz; clear hz; go_simp; try with_reducible rfl
          try go_frame
          refine' tk 13 ?_ ?_; rotate_left
          · intro z hz; clear hz; go_simp; try with_reducible rfl
          try go_frame
          refine tz ?_
          have HE : Hid (Below v3w.heap.size v3w v2w) := on2 HRn.out hHeld
          have hcm := norm_in (L.map (shyI p)) true
          have hlk := norm_in (L.map (likeI p)) false
          have hcx : 0 ≤ (calmP p L).getD k default ∧ (calmP p L).getD k default ≤ 100 := getD_in hcm k
          have hlx : 0 ≤ (likedP p L).getD k default ∧ (likedP p L).getD k default ≤ 100 := getD_in hlk k
          have htx : 0 ≤ (totalP p L (w0, w1, w2, w3)).getD k default ∧ (totalP p L (w0, w1, w2, w3)).getD k default ≤ mo := by
            have e : (totalP p L (w0, w1, w2, w3)).getD k default = totalAt p L (w0, w1, w2, w3) k := by
              unfold totalP
              rw [List.getD_eq_getElem?_getD, List.getElem?_map, List.getElem?_range hkl]; rfl
            rw [e, ← HMo.out]; exact totalAt_in p L (w0, w1, w2, w3) k
          clear hcm hlk
          obtain ⟨D1, o1, rfl, hD1, _, c1s, hr1, hv1⟩ := (HSl.out.1.on RInt.firm HE.out).get hlt
          obtain rfl : c1s = [.int .i64 ((totalP p L (w0, w1, w2, w3)).getD k default)] := hr1
          obtain ⟨D2, o2, rfl, hD2, _, c2s, hr2, hv2⟩ := (HSl.out.2.1.on RInt.firm HE.out).get hlt
          obtain rfl : c2s = [.int .i64 ((calmP p L).getD k default)] := hr2
          obtain ⟨D3, o3, rfl, hD3, _, c3s, hr3, hv3⟩ := (HSl.out.2.2.on RInt.firm HE.out).get hlt
          obtain rfl : c3s = [.int .i64 ((likedP p L).getD k default)] := hr3
          have d1 := hv1 0 _ rfl
          have d2 := hv2 0 _ rfl
          have d3 := hv3 0 _ rfl
          rw [Nat.add_zero, Nat.mul_one] at d1 d2 d3
          generalize (totalP p L (w0, w1, w2, w3)).getD k default = x1 at d1 htx
          generalize (calmP p L).getD k default = x2 at d2 hcx
          generalize (likedP p L).getD k default = x3 at d3 hlx
          have n1 : ¬ va < 0 := by omega
          have n2 : ¬ 100 < va := by omega
          have n3 : ¬ vb < 0 := by omega
          have n4 : ¬ 100 < vb := by omega
          have n5 : ¬ x2 < 0 := by omega
          have n6 : ¬ 100 < x2 := by omega
          have n7 : ¬ x3 < 0 := by omega
          have n8 : ¬ 100 < x3 := by omega
          have n9 : ¬ x1 < 0 := by omega
          have n10 : ¬ mo < x1 := by omega
          clear hHeld hv1 hv2 hv3 hcx hlx htx ha0 hb0' HCa HRa HRn hxy HBz hD1 hD2 hD3
          --M7
          go_wp2_with fail
          --M8
          go_roundw
          case rel => exact ⟨k + 1, by omega, by go_num, HE⟩
          case measure => simp [intOf]; omega
        · have hltz : ¬ (k : Int) < (n : Int) := by omega
          have HE : Hid (Below w.heap.size w wr) := on2 HBw.out HBz.out
          clear HBz hrun
          go_wp2_with fail
          go_ret
          exact ⟨rfl, HE.out⟩
end Go.Proofs.Yteihniiacfghoaa
