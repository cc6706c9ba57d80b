/- The program's isRight. Condition: what lies lies as is said of it. -/
import Derived.Test.YtoacbobchngooaaDoorQ09
import Derived.Test.YtoacbobchngooaaDoorQ07
namespace Go.Proofs.YtoacbobchngooaaDoor
open Go.RowKit Go.Maps
set_option linter.unusedSimpArgs false
set_option maxRecDepth 100000

set_option maxHeartbeats 8000000 in
theorem isRight_calls (d : Option Addr) (n cap : Nat) (A : Where) (l : List PlugD) (w : World) (hL : Hid (SlAt RPlug 7 80 A w d n cap l)) : Calls Tryd.prog 26 #[.slice d n cap] w fun e w' => e = .returned (.bool (newB l)) ∧ Below w.heap.size w w' := by
  have hn : Hid (l.length = n) := hL.out.1
  have hml : n < 1000000000000000 := by have := hL.out.2.2.2.1; omega
  by_cases h64 : n ≤ 64
  case neg =>
    have HF : Hid (newB l = false) := new_len (by rw [hn.out]; exact h64)
    have h64z : (64 : Int) < (n : Int) := by omega
    go_enter Tryd.func26, Tryd.ntmps26
    go_wp2_with fail
    go_ret
    exact ⟨retB HF.out.symm, Below.refl _ _⟩
  have h64z : ¬ (64 : Int) < (n : Int) := by omega
  go_enter Tryd.func26, Tryd.ntmps26
  go_wp2_with fail
  --M1
  go_loopw [10] (fun i z => ∃ k : Nat, k ≤ n ∧ i = .int .i64 k ∧ Hid (Below w.heap.size w z) ∧ Hid (∀ j, j < k → okPl l j = true)) (fun i _ => n - (intOf i).toNat)
  case atStart => exact ⟨0, Nat.zero_le _, rfl, Below.refl _ _, fun j hj => absurd hj (Nat.not_lt_zero _)⟩
  case round =>
    obtain ⟨k, hk, rfl, hrun, hok⟩ := hrel
    by_cases hlt : k < n
    case neg =>
      have hltz : ¬ (k : Int) < (n : Int) := by omega
      have HF : Hid (newB l = true) := new_yes (by rw [hn.out]; exact h64) (fun i hi => hok.out i (by rw [hn.out] at hi; omega))
      clear hok
      go_wp2_with fail
      go_ret
      exact ⟨retB HF.out.symm, hrun.out⟩
    have hltz : (k : Int) < (n : Int) := by omega
    have hnz : (0 : Int) < (n : Int) := by omega
    have hn0 : 0 < n := by omega
    have hkl : k < l.length := by rw [hn.out]; exact hlt
    have hbw := hrun.out
    have HRb : Hid (Below w.heap.size w wr) := hrun.out
    obtain ⟨D, off, rfl, hD, hAD, cs, hra, hva⟩ := hL.out.get hlt
    obtain ⟨D0, of0, hde, hdl, hda, cs0, hr0, hv0⟩ := hL.out.get (i := 0) (by omega)
    obtain ⟨rfl, rfl⟩ : D = D0 ∧ off = of0 := by simpa using hde
    obtain ⟨ta, tm, tc, rfl, _, hs0⟩ := hr0.out
    have HTn : Hid ((plS (l.getD 0 default)).length = tm) := hs0.1
    have g6 := (hbw.cell (p := ⟨D, off + 0 * 7 + 6, none⟩) hD).trans (hv0 6 _ rfl)
    rw [Nat.zero_mul, Nat.add_zero] at g6
    obtain ⟨x, hx⟩ : ∃ x, x = l.getD k default := ⟨_, rfl⟩
    rw [← hx] at hra
    have HNum0 : Hid (∀ z, Below w.heap.size w z → Calls Tryd.prog 39 #[.agg cs.toArray] z fun e w' => e = .returned (.bool (plNumB x)) ∧ Below z.heap.size z w') := fun z hz => hasNumbers_calls A cs x z (RPlug.firm.kept hra (Kept.below hz))
    obtain ⟨sa, sn, sc, rfl, hsz, hss⟩ := hra.out
    have HSl : Hid ((plS x).length = sn) := hss.1
    have hsnb : sn < 1000000000000000 := by have := hss.2.2.2.1; omega
    have htnb : tm < 1000000000000000 := by have := hs0.2.2.2.1; omega
    obtain ⟨x1, hx1⟩ : ∃ y, y = x.1 := ⟨_, rfl⟩
    obtain ⟨x2, hx2⟩ : ∃ y, y = x.2.1 := ⟨_, rfl⟩
    obtain ⟨x3, hx3⟩ : ∃ y, y = x.2.2.1 := ⟨_, rfl⟩
    obtain ⟨x4, hx4⟩ : ∃ y, y = x.2.2.2.1 := ⟨_, rfl⟩
    obtain ⟨x5, hx5⟩ : ∃ y, y = x.2.2.2.2.1 := ⟨_, rfl⟩
    obtain ⟨x6, hx6⟩ : ∃ y, y = plW x := ⟨_, rfl⟩
    have HNum1 : Hid (∀ z, Below w.heap.size w z → Calls Tryd.prog 39 #[.agg #[.string x1, .int .i64 x2, .int .i64 x3, .int .i64 x4, .int .i64 x5, .int .i64 x6, .slice sa sn sc]] z fun e w' => e = .returned (.bool (plNumB x)) ∧ Below z.heap.size z w') := by rw [hx1, hx2, hx3, hx4, hx5, hx6]; exact HNum0.out
    have HOk : Hid (okPl l k = (!sNil x1 && (!hasB sEq ((l.take k).map Prod.fst) x1 && (plNumB x && decide (sn = tm))))) := by
      rw [Hid, okPl_num, ← hx, ← hx1, HSl.out, HTn.out]
    rw [← hx1, ← hx2, ← hx3, ← hx4, ← hx5, ← hx6] at hva
    have d0 := (hbw.cell (p := ⟨D, off + k * 7 + 0, none⟩) hD).trans (hva 0 _ rfl)
    have d1 := (hbw.cell (p := ⟨D, off + k * 7 + 1, none⟩) hD).trans (hva 1 _ rfl)
    have d2 := (hbw.cell (p := ⟨D, off + k * 7 + 2, none⟩) hD).trans (hva 2 _ rfl)
    have d3 := (hbw.cell (p := ⟨D, off + k * 7 + 3, none⟩) hD).trans (hva 3 _ rfl)
    have d4 := (hbw.cell (p := ⟨D, off + k * 7 + 4, none⟩) hD).trans (hva 4 _ rfl)
    have d5 := (hbw.cell (p := ⟨D, off + k * 7 + 5, none⟩) hD).trans (hva 5 _ rfl)
    have d6 := (hbw.cell (p := ⟨D, off + k * 7 + 6, none⟩) hD).trans (hva 6 _ rfl)
    rw [Nat.add_zero] at d0
    obtain ⟨W3, hW3⟩ : ∃ Z, Z = wr.alloc (.cells #[.string x1, .int .i64 x2, .int .i64 x3, .int .i64 x4, .int .i64 x5, .int .i64 x6, .slice sa sn sc] 33) := ⟨_, rfl⟩
    have b3 : Below wr.heap.size wr W3 := by rw [hW3]; exact (Below.refl _ _).alloc (Nat.le_refl _) _
    have q3 : BoxL W3 wr.heap.size [.string x1, .int .i64 x2, .int .i64 x3, .int .i64 x4, .int .i64 x5, .int .i64 x6, .slice sa sn sc] := by rw [hW3]; exact BoxL.new wr 33 _
    have HW3 : Hid (wr.alloc (.cells #[.string x1, .int .i64 x2, .int .i64 x3, .int .i64 x4, .int .i64 x5, .int .i64 x6, .slice sa sn sc] 33) = W3) := hW3.symm
    have hDr : D < wr.heap.size := Nat.lt_of_lt_of_le hD hbw.size
    have G6 := (b3.cell (p := ⟨D, off + 6, none⟩) hDr).trans g6
    obtain ⟨B, hB⟩ : ∃ B, B = wr.heap.size := ⟨_, rfl⟩
    have HBB : Hid (wr.heap.size = B) := hB.symm
    have HB3 : Hid (Below wr.heap.size wr W3) := b3
    rw [← hB] at q3
    have HC : Hid (∀ z, Kept (fun y => y = B ∨ y = D) W3 z → z.cell? ⟨B, 0, none⟩ = some (.string x1) ∧ z.cell? ⟨B, 1, none⟩ = some (.int .i64 x2) ∧ z.cell? ⟨B, 2, none⟩ = some (.int .i64 x3) ∧ z.cell? ⟨B, 3, none⟩ = some (.int .i64 x4) ∧ z.cell? ⟨B, 4, none⟩ = some (.int .i64 x5) ∧ z.cell? ⟨B, 5, none⟩ = some (.int .i64 x6) ∧ z.cell? ⟨B, 6, none⟩ = some (.slice sa sn sc) ∧ z.cell? ⟨D, off + 6, none⟩ = some (.slice ta tm tc)) := fun z hz => by
      have hB : ∀ j v, [.string x1, .int .i64 x2, .int .i64 x3, .int .i64 x4, .int .i64 x5, .int .i64 x6, .slice sa sn sc][j]? = some v → z.cell? ⟨B, j, none⟩ = some v := fun j v hj => (hz.cell (p := ⟨B, j, none⟩) (.inl rfl) q3.1).trans (q3.2 j v hj).1
      exact ⟨hB 0 _ rfl, hB 1 _ rfl, hB 2 _ rfl, hB 3 _ rfl, hB 4 _ rfl, hB 5 _ rfl, hB 6 _ rfl, (hz.cell (p := ⟨D, off + 6, none⟩) (.inr rfl) (Nat.lt_of_lt_of_le hDr b3.size)).trans G6⟩
    have HNum : Hid (∀ z, Below W3.heap.size W3 z → Calls Tryd.prog 39 #[.agg #[.string x1, .int .i64 x2, .int .i64 x3, .int .i64 x4, .int .i64 x5, .int .i64 x6, .slice sa sn sc]] z fun e w' => e = .returned (.bool (plNumB x)) ∧ Below z.heap.size z w') := fun z hz => HNum1.out z (on2 hbw (on2 b3 hz))
    have HHas : Hid (∀ z, Below W3.heap.size W3 z → Calls Tryd.prog 38 #[.slice (some ⟨D, off, none⟩) k cap, .string x1] z fun e w' => e = .returned (.bool (hasB sEq ((l.take k).map Prod.fst) x1)) ∧ Below z.heap.size z w') := fun z hz => hasName_calls _ k cap A (l.take k) x1 z ((sl_takeG (hL.out.on RPlug.firm (on2 hbw (on2 b3 hz))) (Nat.le_of_lt hlt)))
    have hkc : k ≤ cap := Nat.le_trans (Nat.le_of_lt hlt) hL.out.2.1
    have hkcz : (k : Int) ≤ (cap : Int) := by omega
    have hkc0 : (0 : Int) ≤ (k : Int) := by omega
    generalize hasB sEq ((l.take k).map Prod.fst) x1 = bh at HOk HHas
    generalize plNumB x = bn at HOk HNum
    clear hx hva hra hss hx1 hx2 hx3 hx4 hx5 hx6 hW3 b3 q3 hB hrun hr0 hv0 hs0 hde hdl hda hAD hbw HNum0 HNum1 G6 hDr
    go_upto_region 6 with fail
    rw [HW3.out, HBB.out]
    clear d0 d1 d2 d3 d4 d5 d6 HW3 g6
    --M2
    cases f1 : sNil x1
    case true =>
      have f1' : (x1.toList == []) = true := by unfold sNil at f1; simpa using f1
      have HB : Hid (newB l = false) := new_no hkl (by rw [HOk.out]; simp only [f1, Bool.not_true, Bool.false_and])
      clear HOk
      have hb0 : Below W3.heap.size W3 W3.drew := (Below.refl _ _).drew
      refine t0 (fun z => Kept (fun y => y = B ∨ y = D) W3 z) (Kept.below hb0) (fun hHeld => ?_)
      have Hd : Hid (Below W3.heap.size W3 W3.drew) := hb0
      generalize hwd : W3.drew = wd at hHeld Hd ⊢
      clear hwd hb0
      try go_frame
      refine' tk 0 ?_ ?_; rotate_left
      · intro z hz; obtain ⟨f0, f1, f2, f3, f4, f5, f6, f7⟩ := HC.out z hz; clear hz; go_simp; try with_reducible rfl
      try go_frame
      refine' tk 1 ?_ ?_; rotate_left
      · intro z hz; obtain ⟨f0, f1, f2, f3, f4, f5, f6, f7⟩ := HC.out z hz; clear hz; go_simp; try with_reducible rfl
      try go_frame
      refine' tk 2 ?_ ?_; rotate_left
      · intro z hz; obtain ⟨f0, f1, f2, f3, f4, f5, f6, f7⟩ := HC.out z hz; clear hz; go_simp; try with_reducible rfl
      try go_frame
      refine' tk 3 ?_ ?_; rotate_left
      · intro z hz; obtain ⟨f0, f1, f2, f3, f4, f5, f6, f7⟩ := HC.out z hz; clear hz; go_simp; try with_reducible rfl
      try go_frame
      refine tn 4 ?_
      try go_frame
      refine tn 5 ?_
      try go_frame
      refine tn 6 ?_
      try go_frame
      refine tn 7 ?_
      try go_frame
      refine tn 8 ?_
      try go_frame
      refine tn 9 ?_
      try go_frame
      refine' tk 10 ?_ ?_; rotate_left
      · intro z hz; obtain ⟨f0, f1, f2, f3, f4, f5, f6, f7⟩ := HC.out z hz; clear hz; go_simp; try with_reducible rfl
      try go_frame
      refine' tk 11 ?_ ?_; rotate_left
      · intro z hz; obtain ⟨f0, f1, f2, f3, f4, f5, f6, f7⟩ := HC.out z hz; clear hz; go_simp; try with_reducible rfl
      try go_frame
      refine tn 12 ?_
      try go_frame
      refine tn 13 ?_
      try go_frame
      refine tn 14 ?_
      try go_frame
      refine' tk 15 ?_ ?_; rotate_left
      · intro z hz; obtain ⟨f0, f1, f2, f3, f4, f5, f6, f7⟩ := HC.out z hz; clear hz; go_simp; try with_reducible rfl
      try go_frame
      refine' tk 16 ?_ ?_; rotate_left
      · intro z hz; obtain ⟨f0, f1, f2, f3, f4, f5, f6, f7⟩ := HC.out z hz; clear hz; go_simp; try with_reducible rfl
      try go_frame
      refine tn 17 ?_
      try go_frame
      refine tn 18 ?_
      try go_frame
      refine tn 19 ?_
      try go_frame
      refine tn 20 ?_
      try go_frame
      refine tn 21 ?_
      try go_frame
      refine tn 22 ?_
      try go_frame
      refine tn 23 ?_
      try go_frame
      refine tn 24 ?_
      try go_frame
      refine tn 25 ?_
      try go_frame
      refine' tk 26 ?_ ?_; rotate_left
      · intro z hz; obtain ⟨f0, f1, f2, f3, f4, f5, f6, f7⟩ := HC.out z hz; clear hz; go_simp; try with_reducible rfl
      try go_frame
      refine tz ?_
      clear hHeld
      have HE : Hid (Below w.heap.size w wd) := on2 HRb.out (on2 HB3.out Hd.out)
      clear Hd
      go_wp2_with fail
      go_ret
      exact ⟨retB HB.out.symm, HE.out⟩
    have f1' : (x1.toList == []) = false := by unfold sNil at f1; simpa using f1
    cases bh
    case true =>
      have HB : Hid (newB l = false) := new_no hkl (by rw [HOk.out]; simp only [Bool.not_true, Bool.false_and, Bool.and_false])
      clear HOk
      have hb0 : Below W3.heap.size W3 W3.drew := (Below.refl _ _).drew
      refine t0 (fun z => Kept (fun y => y = B ∨ y = D) W3 z) (Kept.below hb0) (fun hHeld => ?_)
      have Hd : Hid (Below W3.heap.size W3 W3.drew) := hb0
      generalize hwd : W3.drew = wd at hHeld Hd ⊢
      clear hwd hb0
      try go_frame
      refine' tk 0 ?_ ?_; rotate_left
      · intro z hz; obtain ⟨f0, f1, f2, f3, f4, f5, f6, f7⟩ := HC.out z hz; clear hz; go_simp; try with_reducible rfl
      try go_frame
      refine' tk 1 ?_ ?_; rotate_left
      · intro z hz; obtain ⟨f0, f1, f2, f3, f4, f5, f6, f7⟩ := HC.out z hz; clear hz; go_simp; try with_reducible rfl
      try go_frame
      refine' tk 2 ?_ ?_; rotate_left
      · intro z hz; obtain ⟨f0, f1, f2, f3, f4, f5, f6, f7⟩ := HC.out z hz; clear hz; go_simp; try with_reducible rfl
      try go_frame
      refine' tk 3 ?_ ?_; rotate_left
      · intro z hz; obtain ⟨f0, f1, f2, f3, f4, f5, f6, f7⟩ := HC.out z hz; clear hz; go_simp; try with_reducible rfl
      try go_frame
      refine' tk 4 ?_ ?_; rotate_left
      · intro z hz; obtain ⟨f0, f1, f2, f3, f4, f5, f6, f7⟩ := HC.out z hz; clear hz; go_simp; try with_reducible rfl
      try go_frame
      refine' tk 5 ?_ ?_; rotate_left
      · intro z hz; obtain ⟨f0, f1, f2, f3, f4, f5, f6, f7⟩ := HC.out z hz; clear hz; go_simp; try with_reducible rfl
      try go_frame
      refine' tk 6 ?_ ?_; rotate_left
      · intro z hz; obtain ⟨f0, f1, f2, f3, f4, f5, f6, f7⟩ := HC.out z hz; clear hz; go_simp; try with_reducible rfl
      try go_frame
      refine' tk 7 ?_ ?_; rotate_left
      · intro z hz; obtain ⟨f0, f1, f2, f3, f4, f5, f6, f7⟩ := HC.out z hz; clear hz; go_simp; try with_reducible rfl
      try go_frame
      refine' tk 8 ?_ ?_; rotate_left
      · intro z hz; obtain ⟨f0, f1, f2, f3, f4, f5, f6, f7⟩ := HC.out z hz; clear hz; go_simp; try with_reducible rfl
      try go_frame
      have hA := HHas.out wd Hd.out
      refine tr 9 (fun K hK => ?_)
      go_simp
      refine hA.mono ?_
      rintro e w5 ⟨rfl, b5⟩
      have Hdn : Hid (Below W3.heap.size W3 w5) := on2 Hd.out b5
      go_wp2_with fail
      refine hK.out _ _ (Kept.below Hdn.out) (fun hHeld2 => ?_)
      clear hK K hHeld b5 Hd; have hHeld := hHeld2; clear hHeld2
      try go_frame
      clear hA
      refine' tk 10 ?_ ?_; rotate_left
      · intro z hz; obtain ⟨f0, f1, f2, f3, f4, f5, f6, f7⟩ := HC.out z hz; clear hz; go_simp; try with_reducible rfl
      try go_frame
      refine' tk 11 ?_ ?_; rotate_left
      · intro z hz; obtain ⟨f0, f1, f2, f3, f4, f5, f6, f7⟩ := HC.out z hz; clear hz; go_simp; try with_reducible rfl
      try go_frame
      refine tn 12 ?_
      try go_frame
      refine tn 13 ?_
      try go_frame
      refine tn 14 ?_
      try go_frame
      refine' tk 15 ?_ ?_; rotate_left
      · intro z hz; obtain ⟨f0, f1, f2, f3, f4, f5, f6, f7⟩ := HC.out z hz; clear hz; go_simp; try with_reducible rfl
      try go_frame
      refine' tk 16 ?_ ?_; rotate_left
      · intro z hz; obtain ⟨f0, f1, f2, f3, f4, f5, f6, f7⟩ := HC.out z hz; clear hz; go_simp; try with_reducible rfl
      try go_frame
      refine tn 17 ?_
      try go_frame
      refine tn 18 ?_
      try go_frame
      refine tn 19 ?_
      try go_frame
      refine tn 20 ?_
      try go_frame
      refine tn 21 ?_
      try go_frame
      refine tn 22 ?_
      try go_frame
      refine tn 23 ?_
      try go_frame
      refine tn 24 ?_
      try go_frame
      refine tn 25 ?_
      try go_frame
      refine' tk 26 ?_ ?_; rotate_left
      · intro z hz; obtain ⟨f0, f1, f2, f3, f4, f5, f6, f7⟩ := HC.out z hz; clear hz; go_simp; try with_reducible rfl
      try go_frame
      refine tz ?_
      clear hHeld
      have HE : Hid (Below w.heap.size w w5) := on2 HRb.out (on2 HB3.out Hdn.out)
      clear Hdn
      go_wp2_with fail
      go_ret
      exact ⟨retB HB.out.symm, HE.out⟩
    cases bn
    case false =>
      have HB : Hid (newB l = false) := new_no hkl (by rw [HOk.out]; simp only [Bool.false_and, Bool.and_false])
      clear HOk
      have hb0 : Below W3.heap.size W3 W3.drew := (Below.refl _ _).drew
      refine t0 (fun z => Kept (fun y => y = B ∨ y = D) W3 z) (Kept.below hb0) (fun hHeld => ?_)
      have Hd : Hid (Below W3.heap.size W3 W3.drew) := hb0
      generalize hwd : W3.drew = wd at hHeld Hd ⊢
      clear hwd hb0
      try go_frame
      refine' tk 0 ?_ ?_; rotate_left
      · intro z hz; obtain ⟨f0, f1, f2, f3, f4, f5, f6, f7⟩ := HC.out z hz; clear hz; go_simp; try with_reducible rfl
      try go_frame
      refine' tk 1 ?_ ?_; rotate_left
      · intro z hz; obtain ⟨f0, f1, f2, f3, f4, f5, f6, f7⟩ := HC.out z hz; clear hz; go_simp; try with_reducible rfl
      try go_frame
      refine' tk 2 ?_ ?_; rotate_left
      · intro z hz; obtain ⟨f0, f1, f2, f3, f4, f5, f6, f7⟩ := HC.out z hz; clear hz; go_simp; try with_reducible rfl
      try go_frame
      refine' tk 3 ?_ ?_; rotate_left
      · intro z hz; obtain ⟨f0, f1, f2, f3, f4, f5, f6, f7⟩ := HC.out z hz; clear hz; go_simp; try with_reducible rfl
      try go_frame
      refine' tk 4 ?_ ?_; rotate_left
      · intro z hz; obtain ⟨f0, f1, f2, f3, f4, f5, f6, f7⟩ := HC.out z hz; clear hz; go_simp; try with_reducible rfl
      try go_frame
      refine' tk 5 ?_ ?_; rotate_left
      · intro z hz; obtain ⟨f0, f1, f2, f3, f4, f5, f6, f7⟩ := HC.out z hz; clear hz; go_simp; try with_reducible rfl
      try go_frame
      refine' tk 6 ?_ ?_; rotate_left
      · intro z hz; obtain ⟨f0, f1, f2, f3, f4, f5, f6, f7⟩ := HC.out z hz; clear hz; go_simp; try with_reducible rfl
      try go_frame
      refine' tk 7 ?_ ?_; rotate_left
      · intro z hz; obtain ⟨f0, f1, f2, f3, f4, f5, f6, f7⟩ := HC.out z hz; clear hz; go_simp; try with_reducible rfl
      try go_frame
      refine' tk 8 ?_ ?_; rotate_left
      · intro z hz; obtain ⟨f0, f1, f2, f3, f4, f5, f6, f7⟩ := HC.out z hz; clear hz; go_simp; try with_reducible rfl
      try go_frame
      have hA := HHas.out wd Hd.out
      refine tr 9 (fun K hK => ?_)
      go_simp
      refine hA.mono ?_
      rintro e w5 ⟨rfl, b5⟩
      have Hdn : Hid (Below W3.heap.size W3 w5) := on2 Hd.out b5
      go_wp2_with fail
      refine hK.out _ _ (Kept.below Hdn.out) (fun hHeld2 => ?_)
      clear hK K hHeld b5 Hd; have hHeld := hHeld2; clear hHeld2
      try go_frame
      clear hA
      refine' tk 10 ?_ ?_; rotate_left
      · intro z hz; obtain ⟨f0, f1, f2, f3, f4, f5, f6, f7⟩ := HC.out z hz; clear hz; go_simp; try with_reducible rfl
      try go_frame
      refine' tk 11 ?_ ?_; rotate_left
      · intro z hz; obtain ⟨f0, f1, f2, f3, f4, f5, f6, f7⟩ := HC.out z hz; clear hz; go_simp; try with_reducible rfl
      try go_frame
      refine' tk 12 ?_ ?_; rotate_left
      · intro z hz; obtain ⟨f0, f1, f2, f3, f4, f5, f6, f7⟩ := HC.out z hz; clear hz; go_simp; try with_reducible rfl
      try go_frame
      have hA := HNum.out w5 Hdn.out
      refine tr 13 (fun K hK => ?_)
      go_simp
      refine hA.mono ?_
      rintro e w6 ⟨rfl, b5⟩
      have Hdnn : Hid (Below W3.heap.size W3 w6) := on2 Hdn.out b5
      go_wp2_with fail
      refine hK.out _ _ (Kept.below Hdnn.out) (fun hHeld2 => ?_)
      clear hK K hHeld b5 Hdn; have hHeld := hHeld2; clear hHeld2
      try go_frame
      clear hA
      refine' tk 14 ?_ ?_; rotate_left
      · intro z hz; obtain ⟨f0, f1, f2, f3, f4, f5, f6, f7⟩ := HC.out z hz; clear hz; go_simp; try with_reducible rfl
      try go_frame
      refine' tk 15 ?_ ?_; rotate_left
      · intro z hz; obtain ⟨f0, f1, f2, f3, f4, f5, f6, f7⟩ := HC.out z hz; clear hz; go_simp; try with_reducible rfl
      try go_frame
      refine' tk 16 ?_ ?_; rotate_left
      · intro z hz; obtain ⟨f0, f1, f2, f3, f4, f5, f6, f7⟩ := HC.out z hz; clear hz; go_simp; try with_reducible rfl
      try go_frame
      refine tn 17 ?_
      try go_frame
      refine tn 18 ?_
      try go_frame
      refine tn 19 ?_
      try go_frame
      refine tn 20 ?_
      try go_frame
      refine tn 21 ?_
      try go_frame
      refine tn 22 ?_
      try go_frame
      refine tn 23 ?_
      try go_frame
      refine tn 24 ?_
      try go_frame
      refine tn 25 ?_
      try go_frame
      refine' tk 26 ?_ ?_; rotate_left
      · intro z hz; obtain ⟨f0, f1, f2, f3, f4, f5, f6, f7⟩ := HC.out z hz; clear hz; go_simp; try with_reducible rfl
      try go_frame
      refine tz ?_
      clear hHeld
      have HE : Hid (Below w.heap.size w w6) := on2 HRb.out (on2 HB3.out Hdnn.out)
      clear Hdnn
      go_wp2_with fail
      go_ret
      exact ⟨retB HB.out.symm, HE.out⟩
    by_cases hln : sn = tm
    case neg =>
      have hnz2 : ((sn : Int) != (tm : Int)) = true := by have h : (sn : Int) ≠ (tm : Int) := (by omega); simpa using h
      have HB : Hid (newB l = false) := new_no hkl (by rw [HOk.out, decide_eq_false hln]; simp only [Bool.false_and, Bool.and_false])
      clear HOk
      have hb0 : Below W3.heap.size W3 W3.drew := (Below.refl _ _).drew
      refine t0 (fun z => Kept (fun y => y = B ∨ y = D) W3 z) (Kept.below hb0) (fun hHeld => ?_)
      have Hd : Hid (Below W3.heap.size W3 W3.drew) := hb0
      generalize hwd : W3.drew = wd at hHeld Hd ⊢
      clear hwd hb0
      try go_frame
      refine' tk 0 ?_ ?_; rotate_left
      · intro z hz; obtain ⟨f0, f1, f2, f3, f4, f5, f6, f7⟩ := HC.out z hz; clear hz; go_simp; try with_reducible rfl
      try go_frame
      refine' tk 1 ?_ ?_; rotate_left
      · intro z hz; obtain ⟨f0, f1, f2, f3, f4, f5, f6, f7⟩ := HC.out z hz; clear hz; go_simp; try with_reducible rfl
      try go_frame
      refine' tk 2 ?_ ?_; rotate_left
      · intro z hz; obtain ⟨f0, f1, f2, f3, f4, f5, f6, f7⟩ := HC.out z hz; clear hz; go_simp; try with_reducible rfl
      try go_frame
      refine' tk 3 ?_ ?_; rotate_left
      · intro z hz; obtain ⟨f0, f1, f2, f3, f4, f5, f6, f7⟩ := HC.out z hz; clear hz; go_simp; try with_reducible rfl
      try go_frame
      refine' tk 4 ?_ ?_; rotate_left
      · intro z hz; obtain ⟨f0, f1, f2, f3, f4, f5, f6, f7⟩ := HC.out z hz; clear hz; go_simp; try with_reducible rfl
      try go_frame
      refine' tk 5 ?_ ?_; rotate_left
      · intro z hz; obtain ⟨f0, f1, f2, f3, f4, f5, f6, f7⟩ := HC.out z hz; clear hz; go_simp; try with_reducible rfl
      try go_frame
      refine' tk 6 ?_ ?_; rotate_left
      · intro z hz; obtain ⟨f0, f1, f2, f3, f4, f5, f6, f7⟩ := HC.out z hz; clear hz; go_simp; try with_reducible rfl
      try go_frame
      refine' tk 7 ?_ ?_; rotate_left
      · intro z hz; obtain ⟨f0, f1, f2, f3, f4, f5, f6, f7⟩ := HC.out z hz; clear hz; go_simp; try with_reducible rfl
      try go_frame
      refine' tk 8 ?_ ?_; rotate_left
      · intro z hz; obtain ⟨f0, f1, f2, f3, f4, f5, f6, f7⟩ := HC.out z hz; clear hz; go_simp; try with_reducible rfl
      try go_frame
      have hA := HHas.out wd Hd.out
      refine tr 9 (fun K hK => ?_)
      go_simp
      refine hA.mono ?_
      rintro e w5 ⟨rfl, b5⟩
      have Hdn : Hid (Below W3.heap.size W3 w5) := on2 Hd.out b5
      go_wp2_with fail
      refine hK.out _ _ (Kept.below Hdn.out) (fun hHeld2 => ?_)
      clear hK K hHeld b5 Hd; have hHeld := hHeld2; clear hHeld2
      try go_frame
      clear hA
      refine' tk 10 ?_ ?_; rotate_left
      · intro z hz; obtain ⟨f0, f1, f2, f3, f4, f5, f6, f7⟩ := HC.out z hz; clear hz; go_simp; try with_reducible rfl
      try go_frame
      refine' tk 11 ?_ ?_; rotate_left
      · intro z hz; obtain ⟨f0, f1, f2, f3, f4, f5, f6, f7⟩ := HC.out z hz; clear hz; go_simp; try with_reducible rfl
      try go_frame
      refine' tk 12 ?_ ?_; rotate_left
      · intro z hz; obtain ⟨f0, f1, f2, f3, f4, f5, f6, f7⟩ := HC.out z hz; clear hz; go_simp; try with_reducible rfl
      try go_frame
      have hA := HNum.out w5 Hdn.out
      refine tr 13 (fun K hK => ?_)
      go_simp
      refine hA.mono ?_
      rintro e w6 ⟨rfl, b5⟩
      have Hdnn : Hid (Below W3.heap.size W3 w6) := on2 Hdn.out b5
      go_wp2_with fail
      refine hK.out _ _ (Kept.below Hdnn.out) (fun hHeld2 => ?_)
      clear hK K hHeld b5 Hdn; have hHeld := hHeld2; clear hHeld2
      try go_frame
      clear hA
      refine' tk 14 ?_ ?_; rotate_left
      · intro z hz; obtain ⟨f0, f1, f2, f3, f4, f5, f6, f7⟩ := HC.out z hz; clear hz; go_simp; try with_reducible rfl
      try go_frame
      refine' tk 15 ?_ ?_; rotate_left
      · intro z hz; obtain ⟨f0, f1, f2, f3, f4, f5, f6, f7⟩ := HC.out z hz; clear hz; go_simp; try with_reducible rfl
      try go_frame
      refine' tk 16 ?_ ?_; rotate_left
      · intro z hz; obtain ⟨f0, f1, f2, f3, f4, f5, f6, f7⟩ := HC.out z hz; clear hz; go_simp; try with_reducible rfl
      try go_frame
      refine' tk 17 ?_ ?_; rotate_left
      · intro z hz; obtain ⟨f0, f1, f2, f3, f4, f5, f6, f7⟩ := HC.out z hz; clear hz; go_simp; try with_reducible rfl
      try go_frame
      refine' tk 18 ?_ ?_; rotate_left
      · intro z hz; obtain ⟨f0, f1, f2, f3, f4, f5, f6, f7⟩ := HC.out z hz; clear hz; go_simp; try with_reducible rfl
      try go_frame
      refine' tk 19 ?_ ?_; rotate_left
      · intro z hz; obtain ⟨f0, f1, f2, f3, f4, f5, f6, f7⟩ := HC.out z hz; clear hz; go_simp; try with_reducible rfl
      try go_frame
      refine' tk 20 ?_ ?_; rotate_left
      · intro z hz; obtain ⟨f0, f1, f2, f3, f4, f5, f6, f7⟩ := HC.out z hz; clear hz; go_simp; try with_reducible rfl
      try go_frame
      refine' tk 21 ?_ ?_; rotate_left
      · intro z hz; obtain ⟨f0, f1, f2, f3, f4, f5, f6, f7⟩ := HC.out z hz; clear hz; go_simp; try with_reducible rfl
      try go_frame
      refine' tk 22 ?_ ?_; rotate_left
      · intro z hz; obtain ⟨f0, f1, f2, f3, f4, f5, f6, f7⟩ := HC.out z hz; clear hz; go_simp; try with_reducible rfl
      try go_frame
      refine' tk 23 ?_ ?_; rotate_left
      · intro z hz; obtain ⟨f0, f1, f2, f3, f4, f5, f6, f7⟩ := HC.out z hz; clear hz; go_simp; try with_reducible rfl
      try go_frame
      refine' tk 24 ?_ ?_; rotate_left
      · intro z hz; obtain ⟨f0, f1, f2, f3, f4, f5, f6, f7⟩ := HC.out z hz; clear hz; go_simp; try with_reducible rfl
      try go_frame
      refine' tk 25 ?_ ?_; rotate_left
      · intro z hz; obtain ⟨f0, f1, f2, f3, f4, f5, f6, f7⟩ := HC.out z hz; clear hz; go_simp; try with_reducible rfl
      try go_frame
      refine' tk 26 ?_ ?_; rotate_left
      · intro z hz; obtain ⟨f0, f1, f2, f3, f4, f5, f6, f7⟩ := HC.out z hz; clear hz; go_simp; try with_reducible rfl
      try go_frame
      refine tz ?_
      clear hHeld
      have HE : Hid (Below w.heap.size w w6) := on2 HRb.out (on2 HB3.out Hdnn.out)
      clear Hdnn
      go_wp2_with fail
      go_ret
      exact ⟨retB HB.out.symm, HE.out⟩
    have hnz2 : ((sn : Int) != (tm : Int)) = false := by subst hln; simp
    have HK : Hid (∀ j, j < k + 1 → okPl l j = true) := fun j hj => by
      rcases Nat.lt_succ_iff_lt_or_eq.1 hj with h | h
      · exact hok.out j h
      · rw [h, HOk.out, f1, decide_eq_true hln]; rfl
    clear HOk hok hln
    have hb0 : Below W3.heap.size W3 W3.drew := (Below.refl _ _).drew
    refine t0 (fun z => Kept (fun y => y = B ∨ y = D) W3 z) (Kept.below hb0) (fun hHeld => ?_)
    have Hd : Hid (Below W3.heap.size W3 W3.drew) := hb0
    generalize hwd : W3.drew = wd at hHeld Hd ⊢
    clear hwd hb0
    try go_frame
    refine' tk 0 ?_ ?_; rotate_left
    · intro z hz; obtain ⟨f0, f1, f2, f3, f4, f5, f6, f7⟩ := HC.out z hz; clear hz; go_simp; try with_reducible rfl
    try go_frame
    refine' tk 1 ?_ ?_; rotate_left
    · intro z hz; obtain ⟨f0, f1, f2, f3, f4, f5, f6, f7⟩ := HC.out z hz; clear hz; go_simp; try with_reducible rfl
    try go_frame
    refine' tk 2 ?_ ?_; rotate_left
    · intro z hz; obtain ⟨f0, f1, f2, f3, f4, f5, f6, f7⟩ := HC.out z hz; clear hz; go_simp; try with_reducible rfl
    try go_frame
    refine' tk 3 ?_ ?_; rotate_left
    · intro z hz; obtain ⟨f0, f1, f2, f3, f4, f5, f6, f7⟩ := HC.out z hz; clear hz; go_simp; try with_reducible rfl
    try go_frame
    refine' tk 4 ?_ ?_; rotate_left
    · intro z hz; obtain ⟨f0, f1, f2, f3, f4, f5, f6, f7⟩ := HC.out z hz; clear hz; go_simp; try with_reducible rfl
    try go_frame
    refine' tk 5 ?_ ?_; rotate_left
    · intro z hz; obtain ⟨f0, f1, f2, f3, f4, f5, f6, f7⟩ := HC.out z hz; clear hz; go_simp; try with_reducible rfl
    try go_frame
    refine' tk 6 ?_ ?_; rotate_left
    · intro z hz; obtain ⟨f0, f1, f2, f3, f4, f5, f6, f7⟩ := HC.out z hz; clear hz; go_simp; try with_reducible rfl
    try go_frame
    refine' tk 7 ?_ ?_; rotate_left
    · intro z hz; obtain ⟨f0, f1, f2, f3, f4, f5, f6, f7⟩ := HC.out z hz; clear hz; go_simp; try with_reducible rfl
    try go_frame
    refine' tk 8 ?_ ?_; rotate_left
    · intro z hz; obtain ⟨f0, f1, f2, f3, f4, f5, f6, f7⟩ := HC.out z hz; clear hz; go_simp; try with_reducible rfl
    try go_frame
    have hA := HHas.out wd Hd.out
    refine tr 9 (fun K hK => ?_)
    go_simp
    refine hA.mono ?_
    rintro e w5 ⟨rfl, b5⟩
    have Hdn : Hid (Below W3.heap.size W3 w5) := on2 Hd.out b5
    go_wp2_with fail
    refine hK.out _ _ (Kept.below Hdn.out) (fun hHeld2 => ?_)
    clear hK K hHeld b5 Hd; have hHeld := hHeld2; clear hHeld2
    try go_frame
    clear hA
    refine' tk 10 ?_ ?_; rotate_left
    · intro z hz; obtain ⟨f0, f1, f2, f3, f4, f5, f6, f7⟩ := HC.out z hz; clear hz; go_simp; try with_reducible rfl
    try go_frame
    refine' tk 11 ?_ ?_; rotate_left
    · intro z hz; obtain ⟨f0, f1, f2, f3, f4, f5, f6, f7⟩ := HC.out z hz; clear hz; go_simp; try with_reducible rfl
    try go_frame
    refine' tk 12 ?_ ?_; rotate_left
    · intro z hz; obtain ⟨f0, f1, f2, f3, f4, f5, f6, f7⟩ := HC.out z hz; clear hz; go_simp; try with_reducible rfl
    try go_frame
    have hA := HNum.out w5 Hdn.out
    refine tr 13 (fun K hK => ?_)
    go_simp
    refine hA.mono ?_
    rintro e w6 ⟨rfl, b5⟩
    have Hdnn : Hid (Below W3.heap.size W3 w6) := on2 Hdn.out b5
    go_wp2_with fail
    refine hK.out _ _ (Kept.below Hdnn.out) (fun hHeld2 => ?_)
    clear hK K hHeld b5 Hdn; have hHeld := hHeld2; clear hHeld2
    try go_frame
    clear hA
    refine' tk 14 ?_ ?_; rotate_left
    · intro z hz; obtain ⟨f0, f1, f2, f3, f4, f5, f6, f7⟩ := HC.out z hz; clear hz; go_simp; try with_reducible rfl
    try go_frame
    refine' tk 15 ?_ ?_; rotate_left
    · intro z hz; obtain ⟨f0, f1, f2, f3, f4, f5, f6, f7⟩ := HC.out z hz; clear hz; go_simp; try with_reducible rfl
    try go_frame
    refine' tk 16 ?_ ?_; rotate_left
    · intro z hz; obtain ⟨f0, f1, f2, f3, f4, f5, f6, f7⟩ := HC.out z hz; clear hz; go_simp; try with_reducible rfl
    try go_frame
    refine' tk 17 ?_ ?_; rotate_left
    · intro z hz; obtain ⟨f0, f1, f2, f3, f4, f5, f6, f7⟩ := HC.out z hz; clear hz; go_simp; try with_reducible rfl
    try go_frame
    refine' tk 18 ?_ ?_; rotate_left
    · intro z hz; obtain ⟨f0, f1, f2, f3, f4, f5, f6, f7⟩ := HC.out z hz; clear hz; go_simp; try with_reducible rfl
    try go_frame
    refine' tk 19 ?_ ?_; rotate_left
    · intro z hz; obtain ⟨f0, f1, f2, f3, f4, f5, f6, f7⟩ := HC.out z hz; clear hz; go_simp; try with_reducible rfl
    try go_frame
    refine' tk 20 ?_ ?_; rotate_left
    · intro z hz; obtain ⟨f0, f1, f2, f3, f4, f5, f6, f7⟩ := HC.out z hz; clear hz; go_simp; try with_reducible rfl
    try go_frame
    refine' tk 21 ?_ ?_; rotate_left
    · intro z hz; obtain ⟨f0, f1, f2, f3, f4, f5, f6, f7⟩ := HC.out z hz; clear hz; go_simp; try with_reducible rfl
    try go_frame
    refine' tk 22 ?_ ?_; rotate_left
    · intro z hz; obtain ⟨f0, f1, f2, f3, f4, f5, f6, f7⟩ := HC.out z hz; clear hz; go_simp; try with_reducible rfl
    try go_frame
    refine' tk 23 ?_ ?_; rotate_left
    · intro z hz; obtain ⟨f0, f1, f2, f3, f4, f5, f6, f7⟩ := HC.out z hz; clear hz; go_simp; try with_reducible rfl
    try go_frame
    refine' tk 24 ?_ ?_; rotate_left
    · intro z hz; obtain ⟨f0, f1, f2, f3, f4, f5, f6, f7⟩ := HC.out z hz; clear hz; go_simp; try with_reducible rfl
    try go_frame
    refine' tk 25 ?_ ?_; rotate_left
    · intro z hz; obtain ⟨f0, f1, f2, f3, f4, f5, f6, f7⟩ := HC.out z hz; clear hz; go_simp; try with_reducible rfl
    try go_frame
    refine' tk 26 ?_ ?_; rotate_left
    · intro z hz; obtain ⟨f0, f1, f2, f3, f4, f5, f6, f7⟩ := HC.out z hz; clear hz; go_simp; try with_reducible rfl
    try go_frame
    refine tz ?_
    clear hHeld
    have HE : Hid (Below w.heap.size w w6) := on2 HRb.out (on2 HB3.out Hdnn.out)
    clear Hdnn
    --M3
    go_wp2_with fail
    go_roundw
    case rel => exact ⟨k + 1, by omega, by go_num, HE, HK⟩
    case measure => simp [intOf]; omega
end Go.Proofs.YtoacbobchngooaaDoor
