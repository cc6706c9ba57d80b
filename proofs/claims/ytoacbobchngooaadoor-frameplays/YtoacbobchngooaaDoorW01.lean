/- The document's New. Condition: what is handed in lies as is said of it. -/
import Derived.Test.YtoacbobchngooaaDoorQ09
import Derived.Test.YtoacbobchngooaaDoorQ07
namespace Go.Proofs.YtoacbobchngooaaDoor
open Go.RowKit Go.Maps
set_option linter.unusedSimpArgs false
set_option maxRecDepth 100000

def RNewO (l : List PlugD) (w : World) (e : Ending) (w' : World) : Prop :=
  Below w.heap.size w w' ∧ ((newB l = true ∧ ∃ p la lc b Q, e = .returned (.tuple #[.pointer (some ⟨p, 0, none⟩), .int .i64 0]) ∧ RfE w w' p la l.length lc b (.slice none 0 0) Q (newP l) ∧ ∀ x, Q x → w.heap.size ≤ x) ∨ (newB l = false ∧ e = .returned (.tuple #[.pointer none, .int .i64 170])))
/-- While it is made: k of the plugins are in. -/
def NwI (w : World) (p : Nat) (l : List PlugD) (nm : Value) (k : Nat) (z : World) : Prop :=
  ∃ a b Q, NwE w z p a b nm Q (l.take k) ((l.take k).map fun _ => false) ((l.take k).map Prod.fst)
theorem NwI.below {w z : World} {p k : Nat} {l : List PlugD} {nm : Value} (h : NwI w p l nm k z) : Below w.heap.size w z := by
  obtain ⟨a, b, Q, h⟩ := h; exact h.below
set_option maxHeartbeats 8000000 in
theorem rnew_calls (d : Option Addr) (n cap : Nat) (A : Where) (l : List PlugD) (w : World) (hL : Hid (SlAt RPlug 7 80 A w d n cap l)) : Calls Tryd.prog 10 #[.slice d n cap] w (RNewO l w) := by
  have hn : Hid (l.length = n) := hL.out.1
  have HLn : Hid (n * 80 ≤ 140737488351232) := hL.out.2.2.2.1
  have hml : n < 1000000000000000 := by have := HLn.out; omega
  by_cases h64 : n ≤ 64
  case neg =>
    have HF : Hid (newB l = false) := new_len (by rw [hn.out]; exact h64)
    have h64z : (64 : Int) < (n : Int) := by omega
    go_enter Tryd.func10, Tryd.ntmps10
    go_wp2_with fail
    go_ret2
    exact ⟨Below.refl _ _, .inr ⟨HF.out, rfl⟩⟩
  have h64z : ¬ (64 : Int) < (n : Int) := by omega
  obtain ⟨Z1, hZ1⟩ : ∃ Z, Z = w.alloc (.cells #[.slice none 0 0, .slice none 0 0, .slice none 0 0] 42) := ⟨_, rfl⟩
  have c1 : Below w.heap.size w Z1 := by rw [hZ1]; exact (Below.refl _ _).alloc (Nat.le_refl _) _
  have t1 : BoxL Z1 w.heap.size [.slice none 0 0, .slice none 0 0, .slice none 0 0] := by rw [hZ1]; exact BoxL.new w _ _
  have HZ1 : Hid (w.alloc (.cells #[.slice none 0 0, .slice none 0 0, .slice none 0 0] 42) = Z1) := hZ1.symm
  obtain ⟨Z2, hZ2⟩ : ∃ Z, Z = Z1.alloc (.cells #[] 9) := ⟨_, rfl⟩
  have c2 : Below Z1.heap.size Z1 Z2 := by rw [hZ2]; exact (Below.refl _ _).alloc (Nat.le_refl _) _
  have HZ2 : Hid (Z1.alloc (.cells #[] 9) = Z2) := hZ2.symm
  have b2 : Below w.heap.size w Z2 := on2 c1 c2
  obtain ⟨p, hp⟩ : ∃ p, p = w.heap.size := ⟨_, rfl⟩
  have HP : Hid (w.heap.size = p) := hp.symm
  rw [← hp] at t1
  have HI0 : Hid (NwI w p l (.slice (some ⟨Z1.heap.size, 0, none⟩) 0 0) 0 Z2) := by
    have hs : p < Z1.heap.size := t1.1
    refine ⟨.slice none 0 0, .slice none 0 0, fun _ => False, t1.on c2, (Row.nil _ w _).on RPlug.firm b2, (Row.nil _ w _).on RBool.firm b2, ?_, Nat.le_of_eq hp.symm, fun x h => h.elim, (fun e => by cases e), (fun e => by cases e), (fun e => ?_), (fun x e => by cases e), (fun x e => by cases e), (fun x e => by cases e)⟩
    · have h := Row.start (R := RStr) (k := 1) (fun _ => False) w Z1 9 c1; rw [← hZ2] at h; exact h
    · have e1 : Z1.heap.size = p := by simpa [Value.ownBlock] using e
      omega
  clear hZ1 c1 t1 hZ2 c2 b2 hp
  go_enter Tryd.func10, Tryd.ntmps10
  go_upto_region 4 with fail
  rw [HZ1.out, HP.out]
  go_upto_region 5 with fail
  rw [HZ2.out]
  clear HZ1 HZ2 HP
  go_wp2_with fail
  --M1
  go_loopw [5, 6] (fun nm i z => ∃ k : Nat, k ≤ n ∧ i = .int .i64 k ∧ Hid (NwI w p l nm k z) ∧ Hid (∀ j, j < k → okPl l j = true)) (fun _ i _ => n - (intOf i).toNat)
  case atStart => exact ⟨0, Nat.zero_le _, rfl, HI0, fun j hj => absurd hj (Nat.not_lt_zero _)⟩
  case round =>
    clear HI0
    obtain ⟨k, hk, rfl, hrun, hok⟩ := hrel
    by_cases hlt : k < n
    case neg =>
      have hltz : ¬ (k : Int) < (n : Int) := by omega
      have HE : Hid (RNewO l w (.returned (.tuple #[.pointer (some ⟨p, 0, none⟩), .int .i64 0])) wr) := by
        obtain ⟨a, b, Q, h⟩ := hrun.out
        have e : l.take k = l := List.take_of_length_le (by rw [hn.out]; omega)
        rw [e] at h
        obtain ⟨la, lc, _, hr⟩ := h.done (by rw [hn.out]; exact h64)
        exact ⟨h.below, .inl ⟨new_yes (by rw [hn.out]; exact h64) (fun i hi => hok.out i (by rw [hn.out] at hi; omega)), p, la, lc, b, _, rfl, hr, fun x hx => hx.elim (fun q => (h.nq x q).1) (fun e => (h.ra.lt e).1)⟩⟩
      clear hrun hok
      go_wp2_with fail
      go_ret2
      exact HE.out
    · have hltz : (k : Int) < (n : Int) := by omega
      have hnz : (0 : Int) < (n : Int) := by omega
      have hkl : k < l.length := by rw [hn.out]; exact hlt
      have hbw := hrun.out.below
      obtain ⟨D, off, rfl, hD, hAD, cs, hra, hva⟩ := hL.out.get hlt
      obtain ⟨D0, of0, hde, hdl, hda, cs0, hr0, hv0⟩ := hL.out.get (i := 0) (by omega)
      obtain ⟨rfl, rfl⟩ : D = D0 ∧ off = of0 := by simpa using hde
      obtain ⟨ta, tn, tc, rfl, _, hs0⟩ := hr0.out
      have HTn : Hid ((plS (l.getD 0 default)).length = tn) := hs0.1
      have g6 := (hbw.cell (p := ⟨D, off + 0 * 7 + 6, none⟩) hD).trans (hv0 6 _ rfl)
      rw [Nat.zero_mul, Nat.add_zero] at g6
      obtain ⟨x, hx⟩ : ∃ x, x = l.getD k default := ⟨_, rfl⟩
      rw [← hx] at hra
      obtain ⟨sa, sn, sc, rfl, hsz, hss⟩ := hra.out
      have HSn : Hid (l.take (k + 1) = l.take k ++ [x]) := by rw [Hid, take_snocF hkl, ← hx]
      have HSl : Hid ((plS x).length = sn) := hss.1
      have hsnb : sn < 1000000000000000 := by have := hss.2.2.2.1; omega
      have HSs : Hid (∀ z, Below w.heap.size w z → SlAt RInt 1 8 A z sa sn sc (plS x)) := fun z hz => hss.on RInt.firm hz
      obtain ⟨x1, hx1⟩ : ∃ y, y = x.1 := ⟨_, rfl⟩
      obtain ⟨x2, hx2⟩ : ∃ y, y = x.2.1 := ⟨_, rfl⟩
      obtain ⟨x3, hx3⟩ : ∃ y, y = x.2.2.1 := ⟨_, rfl⟩
      obtain ⟨x4, hx4⟩ : ∃ y, y = x.2.2.2.1 := ⟨_, rfl⟩
      obtain ⟨x5, hx5⟩ : ∃ y, y = x.2.2.2.2.1 := ⟨_, rfl⟩
      obtain ⟨x6, hx6⟩ : ∃ y, y = plW x := ⟨_, rfl⟩
      have HE7 : Hid (∀ (A : Where) (u : World) (ga : Option Addr) (gn gc : Nat), SlAt RInt 1 8 A u ga gn gc (plS x) → RPlug A u [.string x1, .int .i64 x2, .int .i64 x3, .int .i64 x4, .int .i64 x5, .int .i64 x6, .slice ga gn gc] x) := fun A u ga gn gc h => by rw [hx1, hx2, hx3, hx4, hx5, hx6]; exact RPlug.mk hsz h
      have HOk : Hid (okPl l k = (!sNil x1 && (!hasB sEq ((l.take k).map Prod.fst) x1 && (codeB x2 && (codeB x3 && (codeB x4 && (codeB x5 && (hundB x6 && (decide (sn = tn) && (plS x).all hundB))))))))) := by
        unfold okPl; rw [Hid, ← hx, ← hx1, ← hx2, ← hx3, ← hx4, ← hx5, ← hx6, HSl.out, HTn.out]
      have HX1 : Hid (x.1 = x1) := hx1.symm
      rw [← hx1, ← hx2, ← hx3, ← hx4, ← hx5, ← hx6] at hva
      have d0 := (hbw.cell (p := ⟨D, off + k * 7 + 0, none⟩) hD).trans (hva 0 _ rfl)
      have d1 := (hbw.cell (p := ⟨D, off + k * 7 + 1, none⟩) hD).trans (hva 1 _ rfl)
      have d2 := (hbw.cell (p := ⟨D, off + k * 7 + 2, none⟩) hD).trans (hva 2 _ rfl)
      have d3 := (hbw.cell (p := ⟨D, off + k * 7 + 3, none⟩) hD).trans (hva 3 _ rfl)
      have d4 := (hbw.cell (p := ⟨D, off + k * 7 + 4, none⟩) hD).trans (hva 4 _ rfl)
      have d5 := (hbw.cell (p := ⟨D, off + k * 7 + 5, none⟩) hD).trans (hva 5 _ rfl)
      have d6 := (hbw.cell (p := ⟨D, off + k * 7 + 6, none⟩) hD).trans (hva 6 _ rfl)
      rw [Nat.add_zero] at d0
      obtain ⟨W3, hW3⟩ : ∃ Z, Z = wr.alloc (.cells #[.string x1, .int .i64 x2, .int .i64 x3, .int .i64 x4, .int .i64 x5, .int .i64 x6, .slice sa sn sc] 33) := ⟨_, rfl⟩
      have b3 : Below wr.heap.size wr W3 := by rw [hW3]; exact (Below.refl _ _).alloc (Nat.le_refl _) _
      have q3 : BoxL W3 wr.heap.size [.string x1, .int .i64 x2, .int .i64 x3, .int .i64 x4, .int .i64 x5, .int .i64 x6, .slice sa sn sc] := by rw [hW3]; exact BoxL.new wr 33 _
      have HW3 : Hid (wr.alloc (.cells #[.string x1, .int .i64 x2, .int .i64 x3, .int .i64 x4, .int .i64 x5, .int .i64 x6, .slice sa sn sc] 33) = W3) := hW3.symm
      have G6 := (b3.cell (p := ⟨D, off + 6, none⟩) (Nat.lt_of_lt_of_le hD hbw.size)).trans g6
      obtain ⟨B, hB⟩ : ∃ B, B = wr.heap.size := ⟨_, rfl⟩
      have HBB : Hid (wr.heap.size = B) := hB.symm
      have HB3 : Hid (Below wr.heap.size wr W3) := b3
      rw [← hB] at q3
      have HQ3 : Hid (BoxL W3 B [.string x1, .int .i64 x2, .int .i64 x3, .int .i64 x4, .int .i64 x5, .int .i64 x6, .slice sa sn sc]) := q3
      obtain ⟨a, b, Q, hN⟩ := hrun.out
      obtain ⟨aa, an, ac, rfl⟩ := hN.ra.headG
      obtain ⟨ba, bn, bc, rfl⟩ := hN.rb.headG
      obtain ⟨na, nn, nc, rfl⟩ := hN.rn.headG
      have HNl : Hid (((l.take k).map Prod.fst).length = nn) := by
        obtain ⟨na', nc', e1, _⟩ := hN.rn.slO RStr.firm (bytes := 16) (by rw [List.length_map, List.length_take]; omega)
        injection e1 with _ e2 _; exact e2.symm
      have HHas : Hid (∀ z, Below wr.heap.size wr z → SlAt RStr 1 16 (fun _ => True) z na nn nc ((l.take k).map Prod.fst)) := by
        obtain ⟨na', nc', e1, h1⟩ := hN.rn.slO RStr.firm (bytes := 16) (by rw [List.length_map, List.length_take]; omega)
        injection e1 with e1 e2 e3
        subst e1; subst e2; subst e3
        exact fun z hz => (h1.weak RStr.firm (fun _ _ _ => trivial)).on RStr.firm hz
      have HN : Hid (NwE w wr p (.slice aa an ac) (.slice ba bn bc) (.slice na nn nc) Q (l.take k) ((l.take k).map fun _ => false) ((l.take k).map Prod.fst)) := hN
      have e0 := (q3.2 0 _ rfl).1
      have e1 := (q3.2 1 _ rfl).1
      have e2 := (q3.2 2 _ rfl).1
      have e3 := (q3.2 3 _ rfl).1
      have e4 := (q3.2 4 _ rfl).1
      have e5 := (q3.2 5 _ rfl).1
      have e6 := (q3.2 6 _ rfl).1
      have HRb : Hid (Below w.heap.size w wr) := hN.below
      clear hx hva hra hss hx1 hx2 hx3 hx4 hx5 hx6 hW3 b3 q3 hB hrun hN hr0 hv0 hs0 hde hdl hda hAD hbw
      go_upto_region 8 with fail
      go_upto_region 9 with fail
      --M2
      rw [HW3.out, HBB.out]
      clear d0 d1 d2 d3 d4 d5 d6 HW3 g6
      replace HHas : Hid (∀ z, Calls Tryd.prog 28 #[.slice na nn nc, .string x1] (W3.drewN z) fun e w' => e = .returned (.bool (hasB sEq ((l.take k).map Prod.fst) x1)) ∧ w' = W3.drewN z) := fun z => Has_calls na nn nc (fun _ => True) _ x1 _ (HHas.out _ (below_drewN HB3.out z))
      --M3
      cases f1 : sNil x1
      case true =>
        have f1' : x1.toList.isEmpty = true := f1
        have HB : Hid (newB l = false) := new_no hkl (by rw [HOk.out]; simp only [f1, Bool.not_true, Bool.not_false, Bool.and_true, Bool.true_and, Bool.false_and, Bool.and_false, decide_true, decide_false])
        clear HOk
        go_big_quiet (first | (go_at_call 28; exact Calls.quiet_of_same (HHas.out _)) | (go_at_call 29; exact Calls.quiet_of_same (code_as _ _ (by assumption) _)))
        generalize hZ : World.drewN _ _ = Z
        have HE : Hid (Below w.heap.size w Z) := by rw [← hZ]; exact on2 HRb.out (below_drewN HB3.out _)
        clear hZ HB3 HQ3 G6 e0 e1 e2 e3 e4 e5 e6
        go_wp2_with fail
        go_ret2
        exact ⟨HE.out, .inr ⟨HB.out, rfl⟩⟩
      have f1' : x1.toList.isEmpty = false := f1
      cases f2 : hasB sEq ((l.take k).map Prod.fst) x1
      case true =>
        rw [f2] at HHas
        have HB : Hid (newB l = false) := new_no hkl (by rw [HOk.out]; simp only [f1, f2, Bool.not_true, Bool.not_false, Bool.and_true, Bool.true_and, Bool.false_and, Bool.and_false, decide_true, decide_false])
        clear HOk
        go_big_quiet (first | (go_at_call 28; exact Calls.quiet_of_same (HHas.out _)) | (go_at_call 29; exact Calls.quiet_of_same (code_as _ _ (by assumption) _)))
        generalize hZ : World.drewN _ _ = Z
        have HE : Hid (Below w.heap.size w Z) := by rw [← hZ]; exact on2 HRb.out (below_drewN HB3.out _)
        clear hZ HB3 HQ3 G6 e0 e1 e2 e3 e4 e5 e6
        go_wp2_with fail
        go_ret2
        exact ⟨HE.out, .inr ⟨HB.out, rfl⟩⟩
      rw [f2] at HHas
      cases f3 : codeB x2
      case false =>
        have HB : Hid (newB l = false) := new_no hkl (by rw [HOk.out]; simp only [f1, f2, f3, Bool.not_true, Bool.not_false, Bool.and_true, Bool.true_and, Bool.false_and, Bool.and_false, decide_true, decide_false])
        clear HOk
        go_big_quiet (first | (go_at_call 28; exact Calls.quiet_of_same (HHas.out _)) | (go_at_call 29; exact Calls.quiet_of_same (code_as _ _ (by assumption) _)))
        generalize hZ : World.drewN _ _ = Z
        have HE : Hid (Below w.heap.size w Z) := by rw [← hZ]; exact on2 HRb.out (below_drewN HB3.out _)
        clear hZ HB3 HQ3 G6 e0 e1 e2 e3 e4 e5 e6
        go_wp2_with fail
        go_ret2
        exact ⟨HE.out, .inr ⟨HB.out, rfl⟩⟩
      cases f4 : codeB x3
      case false =>
        have HB : Hid (newB l = false) := new_no hkl (by rw [HOk.out]; simp only [f1, f2, f3, f4, Bool.not_true, Bool.not_false, Bool.and_true, Bool.true_and, Bool.false_and, Bool.and_false, decide_true, decide_false])
        clear HOk
        go_big_quiet (first | (go_at_call 28; exact Calls.quiet_of_same (HHas.out _)) | (go_at_call 29; exact Calls.quiet_of_same (code_as _ _ (by assumption) _)))
        generalize hZ : World.drewN _ _ = Z
        have HE : Hid (Below w.heap.size w Z) := by rw [← hZ]; exact on2 HRb.out (below_drewN HB3.out _)
        clear hZ HB3 HQ3 G6 e0 e1 e2 e3 e4 e5 e6
        go_wp2_with fail
        go_ret2
        exact ⟨HE.out, .inr ⟨HB.out, rfl⟩⟩
      cases f5 : codeB x4
      case false =>
        have HB : Hid (newB l = false) := new_no hkl (by rw [HOk.out]; simp only [f1, f2, f3, f4, f5, Bool.not_true, Bool.not_false, Bool.and_true, Bool.true_and, Bool.false_and, Bool.and_false, decide_true, decide_false])
        clear HOk
        go_big_quiet (first | (go_at_call 28; exact Calls.quiet_of_same (HHas.out _)) | (go_at_call 29; exact Calls.quiet_of_same (code_as _ _ (by assumption) _)))
        generalize hZ : World.drewN _ _ = Z
        have HE : Hid (Below w.heap.size w Z) := by rw [← hZ]; exact on2 HRb.out (below_drewN HB3.out _)
        clear hZ HB3 HQ3 G6 e0 e1 e2 e3 e4 e5 e6
        go_wp2_with fail
        go_ret2
        exact ⟨HE.out, .inr ⟨HB.out, rfl⟩⟩
      cases f6 : codeB x5
      case false =>
        have HB : Hid (newB l = false) := new_no hkl (by rw [HOk.out]; simp only [f1, f2, f3, f4, f5, f6, Bool.not_true, Bool.not_false, Bool.and_true, Bool.true_and, Bool.false_and, Bool.and_false, decide_true, decide_false])
        clear HOk
        go_big_quiet (first | (go_at_call 28; exact Calls.quiet_of_same (HHas.out _)) | (go_at_call 29; exact Calls.quiet_of_same (code_as _ _ (by assumption) _)))
        generalize hZ : World.drewN _ _ = Z
        have HE : Hid (Below w.heap.size w Z) := by rw [← hZ]; exact on2 HRb.out (below_drewN HB3.out _)
        clear hZ HB3 HQ3 G6 e0 e1 e2 e3 e4 e5 e6
        go_wp2_with fail
        go_ret2
        exact ⟨HE.out, .inr ⟨HB.out, rfl⟩⟩
      by_cases f7 : x6 < 0
      case pos =>
        have f9 : hundB x6 = false := by unfold hundB; rw [decide_eq_false (by omega : ¬ 0 ≤ x6), Bool.false_and]
        have HB : Hid (newB l = false) := new_no hkl (by rw [HOk.out]; simp only [f1, f2, f3, f4, f5, f6, f9, Bool.not_true, Bool.not_false, Bool.and_true, Bool.true_and, Bool.false_and, Bool.and_false, decide_true, decide_false])
        clear HOk
        go_big_quiet (first | (go_at_call 28; exact Calls.quiet_of_same (HHas.out _)) | (go_at_call 29; exact Calls.quiet_of_same (code_as _ _ (by assumption) _)))
        generalize hZ : World.drewN _ _ = Z
        have HE : Hid (Below w.heap.size w Z) := by rw [← hZ]; exact on2 HRb.out (below_drewN HB3.out _)
        clear hZ HB3 HQ3 G6 e0 e1 e2 e3 e4 e5 e6
        go_wp2_with fail
        go_ret2
        exact ⟨HE.out, .inr ⟨HB.out, rfl⟩⟩
      by_cases f8 : 100 < x6
      case pos =>
        have f9 : hundB x6 = false := by unfold hundB; rw [decide_eq_false (by omega : ¬ x6 ≤ 100), Bool.and_false]
        have HB : Hid (newB l = false) := new_no hkl (by rw [HOk.out]; simp only [f1, f2, f3, f4, f5, f6, f9, Bool.not_true, Bool.not_false, Bool.and_true, Bool.true_and, Bool.false_and, Bool.and_false, decide_true, decide_false])
        clear HOk
        go_big_quiet (first | (go_at_call 28; exact Calls.quiet_of_same (HHas.out _)) | (go_at_call 29; exact Calls.quiet_of_same (code_as _ _ (by assumption) _)))
        generalize hZ : World.drewN _ _ = Z
        have HE : Hid (Below w.heap.size w Z) := by rw [← hZ]; exact on2 HRb.out (below_drewN HB3.out _)
        clear hZ HB3 HQ3 G6 e0 e1 e2 e3 e4 e5 e6
        go_wp2_with fail
        go_ret2
        exact ⟨HE.out, .inr ⟨HB.out, rfl⟩⟩
      have f9 : hundB x6 = true := by unfold hundB; rw [decide_eq_true (by omega : 0 ≤ x6), decide_eq_true (by omega : x6 ≤ 100)]; rfl
      by_cases f10 : sn = tn
      case neg =>
        have f11 : ((sn : Int) != (tn : Int)) = true := by rw [bne_iff_ne]; omega
        have HB : Hid (newB l = false) := new_no hkl (by rw [HOk.out]; simp only [f1, f2, f3, f4, f5, f6, f9, f10, Bool.not_true, Bool.not_false, Bool.and_true, Bool.true_and, Bool.false_and, Bool.and_false, decide_true, decide_false])
        clear HOk
        go_big_quiet (first | (go_at_call 28; exact Calls.quiet_of_same (HHas.out _)) | (go_at_call 29; exact Calls.quiet_of_same (code_as _ _ (by assumption) _)))
        generalize hZ : World.drewN _ _ = Z
        have HE : Hid (Below w.heap.size w Z) := by rw [← hZ]; exact on2 HRb.out (below_drewN HB3.out _)
        clear hZ HB3 HQ3 G6 e0 e1 e2 e3 e4 e5 e6
        go_wp2_with fail
        go_ret2
        exact ⟨HE.out, .inr ⟨HB.out, rfl⟩⟩
      subst f10
      have f11 : ((sn : Int) != (sn : Int)) = false := by simp
      have HOk2 : Hid (okPl l k = (plS x).all hundB) := by rw [Hid, HOk.out]; simp only [f1, f2, f3, f4, f5, f6, f9, Bool.not_true, Bool.not_false, Bool.and_true, Bool.true_and, decide_true]
      clear HOk
      --M4
      go_big_quiet (first | (go_at_call 28; exact Calls.quiet_of_same (HHas.out _)) | (go_at_call 29; exact Calls.quiet_of_same (code_as _ _ (by assumption) _)))
      --M4b
      generalize hZ : World.drewN _ _ = Z
      have HBZ : Hid (Below wr.heap.size wr Z) := by rw [← hZ]; exact below_drewN HB3.out _
      have HQZ : Hid (BoxL Z B [.string x1, .int .i64 x2, .int .i64 x3, .int .i64 x4, .int .i64 x5, .int .i64 x6, .slice sa sn sc]) := by rw [← hZ]; exact HQ3.out.on (below_drewN (Below.refl _ _) _)
      clear hZ HB3 HQ3 G6 e0 e1 e2 e3 e4 e5 e6 HHas
      have e6 := (HQZ.out.2 6 _ rfl).1
      --M4c
      go_wp2_with fail
      --M5
      go_loop [8] (fun i => ∃ j : Nat, j ≤ sn ∧ i = .int .i64 j ∧ Hid (((plS x).take j).all hundB = true)) (fun i => sn - (intOf i).toNat)
      case atStart => exact ⟨0, Nat.zero_le _, rfl, rfl⟩
      case round =>
        obtain ⟨j, hj, rfl, hall⟩ := hrel
        by_cases hjl : j < sn
        case pos =>
          have hjz : (j : Int) < (sn : Int) := by omega
          have hjL : j < (plS x).length := by rw [HSl.out]; exact hjl
          have HE : Hid (Below w.heap.size w Z) := on2 HRb.out HBZ.out
          obtain ⟨E, oe, rfl, hE, hAE, es, hre, hve⟩ := (HSs.out Z HE.out).get hjl
          obtain rfl : es = [.int .i64 ((plS x).getD j default)] := hre
          have s0 := hve 0 _ rfl
          rw [Nat.add_zero, Nat.mul_one] at s0
          have HX : Hid (((plS x).take (j + 1)).all hundB = (((plS x).take j).all hundB && hundB ((plS x).getD j default))) := all_snocF hundB (plS x) hjL
          have HNb : Hid (hundB ((plS x).getD j default) = false → newB l = false) := fun h => new_no hkl (by rw [HOk2.out]; exact all_noF hundB (plS x) hjL h)
          generalize (plS x).getD j default = y at s0 HX HNb
          clear hve
          by_cases g1 : y < 0
          case pos =>
            have HB : Hid (newB l = false) := HNb.out (by unfold hundB; rw [decide_eq_false (by omega : ¬ 0 ≤ y)]; rfl)
            clear HX HNb
            go_wp2_with fail
            go_ret2
            exact ⟨HE.out, .inr ⟨HB.out, rfl⟩⟩
          by_cases g2 : 100 < y
          case pos =>
            have HB : Hid (newB l = false) := HNb.out (by unfold hundB; rw [decide_eq_false (by omega : ¬ y ≤ 100), Bool.and_false])
            clear HX HNb
            go_wp2_with fail
            go_ret2
            exact ⟨HE.out, .inr ⟨HB.out, rfl⟩⟩
          have HA : Hid (((plS x).take (j + 1)).all hundB = true) := by rw [Hid, HX.out, hall.out]; unfold hundB; rw [decide_eq_true (by omega : 0 ≤ y), decide_eq_true (by omega : y ≤ 100)]; rfl
          clear HX HNb hall
          go_wp2_with fail
          go_round
          case rel => exact ⟨j + 1, by omega, by go_num, HA⟩
          case measure => simp [intOf]; omega
        --M6
        have hjz : ¬ (j : Int) < (sn : Int) := by omega
        have HOkk : Hid (okPl l k = true) := by
          have h := hall.out
          rw [List.take_of_length_le (by rw [HSl.out]; omega)] at h
          rw [Hid, HOk2.out, h]
        have HP0 : Hid (p < wr.heap.size) := HN.out.box.1
        have HaB : Hid (∀ y, (Value.slice aa an ac).ownBlock = some y → y < wr.heap.size) := fun y e => (HN.out.ra.lt e).2
        have HbB : Hid (∀ y, (Value.slice ba bn bc).ownBlock = some y → y < wr.heap.size) := fun y e => (HN.out.rb.lt e).2
        have HnB : Hid (∀ y, (Value.slice na nn nc).ownBlock = some y → y < wr.heap.size) := fun y e => (HN.out.rn.lt e).2
        have HqB : Hid (∀ y, Q y → y < wr.heap.size) := fun y e => (HN.out.nq y e).2.1
        have HkL : Hid ((l.take k).length ≤ 64) := by rw [Hid, List.length_take]; omega
        have e0 := (HQZ.out.2 0 _ rfl).1
        obtain ⟨W4, hW4⟩ : ∃ Y, Y = Z.alloc (.cells #[.string x1] 9) := ⟨_, rfl⟩
        have b4 : Below Z.heap.size Z W4 := by rw [hW4]; exact (Below.refl _ _).alloc (Nat.le_refl _) _
        have q4 : BoxL W4 Z.heap.size [.string x1] := by rw [hW4]; exact BoxL.new Z 9 _
        have HW4 : Hid (W4 = Z.alloc (.cells #[.string x1] 9)) := hW4
        have HN4 : Hid (NwE w W4 p (.slice aa an ac) (.slice ba bn bc) (.slice na nn nc) Q (l.take k) ((l.take k).map fun _ => false) ((l.take k).map Prod.fst)) := HN.out.on (on2 HBZ.out b4)
        have HQ4 : Hid (BoxL W4 B [.string x1, .int .i64 x2, .int .i64 x3, .int .i64 x4, .int .i64 x5, .int .i64 x6, .slice sa sn sc]) := HQZ.out.on b4
        have HSr4 : Hid (Src RStr 1 (fun b => False ∧ (Value.slice na nn nc).ownBlock ≠ some b) W4 (some ⟨Z.heap.size, 0, none⟩) 1 [x1]) := src_boxG RStr.firm q4 ⟨rfl, by rw [← HX1.out]; exact hsz⟩
        have HLb4 : Hid ((((l.take k).map Prod.fst).length + [x1].length) * 16 ≤ 140737488355328) := by have h1 := HkL.out; rw [Hid, List.length_map, List.length_singleton]; omega
        have HS4 : Hid (wr.heap.size ≤ Z.heap.size ∧ Z.heap.size ≤ W4.heap.size) := ⟨HBZ.out.size, b4.size⟩
        clear hW4 b4 q4 hall
        go_upto_region 17 with (at_builtin; refine wpl_atG HW4.out ?_; refine row_appendP RStr.firm (A := fun _ => False) (w0 := w) rfl _ _ 37 9 rfl _ 16 infoStrF Tryd.underlying37 rfl (by decide) (by decide) (.slice na nn nc) ((l.take k).map Prod.fst) rfl HN4.out.rn (some ⟨Z.heap.size, 0, none⟩) 1 1 [x1] rfl HSr4.out HLb4.out ?_; intro v5 w5 hrow5 hg5 hw5)
        --M7
        clear e6 e0
        obtain ⟨n5a, n5n, n5c, rfl⟩ := hrow5.headG
        have N5 := HN4.out.name hg5 hrow5 hw5
        have q5 : BoxL w5 B [.string x1, .int .i64 x2, .int .i64 x3, .int .i64 x4, .int .i64 x5, .int .i64 x6, .slice sa sn sc] := HQ4.out.kept (A := fun x => x = B) (Kept.grown hg5 (fun y e hk => by have h1 := HnB.out y e; have h2 := HBB.out; have h3 : y = B := hk; omega)) rfl
        have H5B : Hid ((Value.slice n5a n5n n5c).ownBlock ≠ some B) := fun e => by
          have h2 := HBB.out
          rcases hw5 with h | h
          · rw [h] at e; have h1 := HnB.out B e; omega
          · rw [h] at e; have h1 := Option.some.inj e; have h3 := HS4.out; have h4 := HQZ.out.1; omega
        have HN5 : Hid (NwE w w5 p (.slice aa an ac) (.slice ba bn bc) (.slice n5a n5n n5c) Q (l.take k) ((l.take k).map fun _ => false) ((l.take k).map Prod.fst ++ [x1])) := N5
        have HQ5 : Hid (BoxL w5 B [.string x1, .int .i64 x2, .int .i64 x3, .int .i64 x4, .int .i64 x5, .int .i64 x6, .slice sa sn sc]) := q5
        have hI := Ints_copy sa sn sc A (plS x) w5 (HSs.out w5 N5.below)
        have HS5 : Hid (B < w5.heap.size) := q5.1
        have e6 := (q5.2 6 _ rfl).1
        clear hrow5 hg5 hw5 N5 q5 HN4 HQ4 HSr4 HLb4 HW4
        go_wp2_with fail
        refine hI.mono ?_
        rintro e w6 ⟨ga, gc, rfl, hg6, b6⟩
        clear hI e6
        have q6 := HQ5.out.on b6
        have f6 := (q6.2 6 _ rfl).1
        have n6 := (q6.2 6 _ rfl).2
        obtain ⟨W7, hW7⟩ : ∃ Y, Y = w6.setCell ⟨B, 6, none⟩ (.slice ga sn gc) := ⟨_, rfl⟩
        have q7 : BoxL W7 B [.string x1, .int .i64 x2, .int .i64 x3, .int .i64 x4, .int .i64 x5, .int .i64 x6, .slice ga sn gc] := by rw [hW7]; exact q6.set 6 (.slice ga sn gc) (by simp)
        have hnq : ¬ Q B := fun h => by have h1 := HqB.out B h; have h2 := HBB.out; omega
        have s7 : W7.heap.size = w6.heap.size := by rw [hW7]; simp
        have N7 : NwE w W7 p (.slice aa an ac) (.slice ba bn bc) (.slice n5a n5n n5c) (fun y => Q y ∨ (w5.heap.size ≤ y ∧ y < w6.heap.size)) (l.take k) ((l.take k).map fun _ => false) ((l.take k).map Prod.fst ++ [x1]) := by
          have h := (HN5.out.on b6).side (j := 6) (.slice ga sn gc) (by have h1 := HRb.out.size; have h2 := HBB.out; omega) (by have h1 := HP0.out; have h2 := HBB.out; omega) (fun e => by have h1 := HaB.out B e; have h2 := HBB.out; omega) (fun e => by have h1 := HbB.out B e; have h2 := HBB.out; omega) H5B.out hnq
          rw [← hW7] at h
          refine h.more (fun y hy => .inl hy) (fun y hy => ?_)
          rcases hy with hy | hy
          · exact h.nq y hy
          · have h1 := HN5.out.below.size
            have h2 := HN5.out.box.1
            exact ⟨by omega, by omega, by omega, fun e => by have h3 := (HN5.out.rb.lt e).2; omega, fun e => by have h3 := (HN5.out.rn.lt e).2; omega⟩
        have hgB : SlAt RInt 1 8 (fun y => (Q y ∨ (w5.heap.size ≤ y ∧ y < w6.heap.size)) ∧ (Value.slice aa an ac).ownBlock ≠ some y) W7 ga sn gc (plS x) := by
          have hg0 : SlAt RInt 1 8 (fun y => (Q y ∨ (w5.heap.size ≤ y ∧ y < w6.heap.size)) ∧ (Value.slice aa an ac).ownBlock ≠ some y) w6 ga sn gc (plS x) := hg6.weak RInt.firm (fun y hb h => ⟨.inr ⟨h, hb⟩, fun e => by have h1 := (HN5.out.ra.lt e).2; have h2 : w5.heap.size ≤ y := h; omega⟩)
          exact hg0.kept RInt.firm (by rw [hW7]; exact Kept.set (p := ⟨B, 6, none⟩) (fun h => h.1.elim hnq (fun h => by have h1 := HS5.out; have h2 : w5.heap.size ≤ B := h.1; omega)) _)
        have HN7 : Hid (NwE w W7 p (.slice aa an ac) (.slice ba bn bc) (.slice n5a n5n n5c) (fun y => Q y ∨ (w5.heap.size ≤ y ∧ y < w6.heap.size)) (l.take k) ((l.take k).map fun _ => false) ((l.take k).map Prod.fst ++ [x1])) := N7
        have HgB : Hid (SlAt RInt 1 8 (fun y => (Q y ∨ (w5.heap.size ≤ y ∧ y < w6.heap.size)) ∧ (Value.slice aa an ac).ownBlock ≠ some y) W7 ga sn gc (plS x)) := hgB
        have HC : Hid (∀ z, Kept (fun y => y = p ∨ y = B) W7 z → z.cell? ⟨p, 0, none⟩ = some (.slice aa an ac) ∧ z.cell? ⟨B, 0, none⟩ = some (.string x1) ∧ z.cell? ⟨B, 1, none⟩ = some (.int .i64 x2) ∧ z.cell? ⟨B, 2, none⟩ = some (.int .i64 x3) ∧ z.cell? ⟨B, 3, none⟩ = some (.int .i64 x4) ∧ z.cell? ⟨B, 4, none⟩ = some (.int .i64 x5) ∧ z.cell? ⟨B, 5, none⟩ = some (.int .i64 x6) ∧ z.cell? ⟨B, 6, none⟩ = some (.slice ga sn gc)) := fun z hz => by
          have hB : ∀ j v, [.string x1, .int .i64 x2, .int .i64 x3, .int .i64 x4, .int .i64 x5, .int .i64 x6, .slice ga sn gc][j]? = some v → z.cell? ⟨B, j, none⟩ = some v := fun j v hj => (hz.cell (p := ⟨B, j, none⟩) (.inr rfl) q7.1).trans (q7.2 j v hj).1
          exact ⟨(hz.cell (p := ⟨p, 0, none⟩) (.inl rfl) N7.box.1).trans (N7.box.2 0 _ rfl).1, hB 0 _ rfl, hB 1 _ rfl, hB 2 _ rfl, hB 3 _ rfl, hB 4 _ rfl, hB 5 _ rfl, hB 6 _ rfl⟩
        have HNp : Hid (∀ y, (Value.slice aa an ac).ownBlock = some y → ¬ (y = p ∨ y = B)) := fun y e hk => by
          rcases hk with rfl | rfl
          · exact N7.na e
          · have h1 := HaB.out _ e; have h2 := HBB.out; omega
        have HW7 : Hid (w6.setCell ⟨B, 6, none⟩ (.slice ga sn gc) = W7) := hW7.symm
        clear hW7 q7 q6 N7 hgB hg6 b6 s7 hnq
        go_upto_region 18 with fail
        --M8
        rw [HW7.out]
        clear f6 n6 HW7
        have hb0 : Below W7.heap.size W7 W7.drew := (Below.refl _ _).drew
        refine u0 10 (fun z => Kept (fun y => y = p ∨ y = B) W7 z) (Kept.below hb0) (fun hHeld => ?_)
        have Hd0 : Hid (Below W7.heap.size W7 W7.drew) := hb0
        generalize hwd : W7.drew = wd at hHeld Hd0 ⊢
        clear hwd hb0
        try go_frame
        --M9
        refine' uk 0 ?_ ?_; rotate_left
        · intro z hz; obtain ⟨f0, f1, f2, f3, f4, f5, f6, f7⟩ := HC.out z hz; clear hz; go_simp; try with_reducible rfl
        try go_frame
        refine' uk 1 ?_ ?_; rotate_left
        · intro z hz; obtain ⟨f0, f1, f2, f3, f4, f5, f6, f7⟩ := HC.out z hz; clear hz; go_simp; try with_reducible rfl
        try go_frame
        refine' uk 2 ?_ ?_; rotate_left
        · intro z hz; obtain ⟨f0, f1, f2, f3, f4, f5, f6, f7⟩ := HC.out z hz; clear hz; go_simp; try with_reducible rfl
        try go_frame
        refine' uk 3 ?_ ?_; rotate_left
        · intro z hz; obtain ⟨f0, f1, f2, f3, f4, f5, f6, f7⟩ := HC.out z hz; clear hz; go_simp; try with_reducible rfl
        try go_frame
        refine' uk 4 ?_ ?_; rotate_left
        · intro z hz; obtain ⟨f0, f1, f2, f3, f4, f5, f6, f7⟩ := HC.out z hz; clear hz; go_simp; try with_reducible rfl
        try go_frame
        refine' uk 5 ?_ ?_; rotate_left
        · intro z hz; obtain ⟨f0, f1, f2, f3, f4, f5, f6, f7⟩ := HC.out z hz; clear hz; go_simp; try with_reducible rfl
        try go_frame
        --M10
        refine ur 6 (fun K hK => ?_)
        go_simp
        obtain ⟨W8, hW8⟩ : ∃ Y, Y = wd.alloc (.cells #[.string x1, .int .i64 x2, .int .i64 x3, .int .i64 x4, .int .i64 x5, .int .i64 x6, .slice ga sn gc] 33) := ⟨_, rfl⟩
        have b8 : Below wd.heap.size wd W8 := by rw [hW8]; exact (Below.refl _ _).alloc (Nat.le_refl _) _
        have q8 : BoxL W8 wd.heap.size [.string x1, .int .i64 x2, .int .i64 x3, .int .i64 x4, .int .i64 x5, .int .i64 x6, .slice ga sn gc] := by rw [hW8]; exact BoxL.new wd 33 _
        rw [← hW8]
        clear hW8
        have HN8 : Hid (NwE w W8 p (.slice aa an ac) (.slice ba bn bc) (.slice n5a n5n n5c) (fun y => Q y ∨ (w5.heap.size ≤ y ∧ y < w6.heap.size)) (l.take k) ((l.take k).map fun _ => false) ((l.take k).map Prod.fst ++ [x1])) := HN7.out.on (on2 Hd0.out b8)
        have HSr8 : Hid (Src RPlug 7 (fun y => (fun y => Q y ∨ (w5.heap.size ≤ y ∧ y < w6.heap.size)) y ∧ (Value.slice aa an ac).ownBlock ≠ some y) W8 (some ⟨wd.heap.size, 0, none⟩) 1 [x]) := src_boxG RPlug.firm q8 (HE7.out _ _ _ _ _ (HgB.out.on RInt.firm (on2 Hd0.out b8)))
        have HLb8 : Hid (((l.take k).length + [x].length) * 80 ≤ 140737488355328) := by have h1 := HkL.out; rw [Hid, List.length_singleton]; omega
        refine hK.out _ _ (hHeld.trans (Kept.below b8)) (fun hHeld2 => ?_)
        clear hK K hHeld; have hHeld := hHeld2; clear hHeld2
        clear b8 q8 Hd0
        try go_frame
        --M11
        refine ur 7 (fun K hK => ?_)
        refine want_yesF (by rfl) (row_appendP_wp RPlug.firm (A := (fun y => Q y ∨ (w5.heap.size ≤ y ∧ y < w6.heap.size))) (w0 := w) _ _ 22 33 rfl _ 80 infoPlug Tryd.underlying22 rfl (by decide) (by decide) (.slice aa an ac) (l.take k) rfl HN8.out.ra (some ⟨wd.heap.size, 0, none⟩) 1 1 [x] rfl HSr8.out HLb8.out ?_)
        intro v9 w9 hrow9 hg9 hw9
        obtain ⟨v9a, v9n, v9c, rfl⟩ := hrow9.headG
        refine hK.out _ _ (hHeld.trans (Kept.grown hg9 (fun y e hk => HNp.out y e hk))) (fun hHeld2 => ?_)
        clear hK K hHeld; have hHeld := hHeld2; clear hHeld2
        try go_frame
        refine' uk 8 ?_ ?_; rotate_left
        · intro z hz; clear hz; go_simp; try with_reducible rfl
        try go_frame
        refine' uk 9 ?_ ?_; rotate_left
        · intro z hz; clear hz; go_simp; try with_reducible rfl
        try go_frame
        --M12
        refine uz 10 (fun K hK => ?_)
        have hN := HN8.out.plug hg9 hrow9 hw9
        have hbx := HN8.out.box.kept (A := fun y => (Value.slice aa an ac).ownBlock ≠ some y) (Kept.grown hg9 (fun y e hk => hk e)) HN8.out.na
        have g0 := (hbx.2 0 _ rfl).1
        have g1 := (hbx.2 0 _ rfl).2
        go_simp
        --M13
        obtain ⟨W10, hW10⟩ : ∃ Y, Y = w9.setCell ⟨p, 0, none⟩ (.slice v9a v9n v9c) := ⟨_, rfl⟩
        rw [← hW10]
        rw [← hW10] at hN
        refine hK.out _ (NoPanic.normal ?_)
        have HN10 : Hid (NwE w W10 p (.slice v9a v9n v9c) (.slice ba bn bc) (.slice n5a n5n n5c) (fun y => Q y ∨ (w5.heap.size ≤ y ∧ y < w6.heap.size)) (l.take k ++ [x]) ((l.take k).map fun _ => false) ((l.take k).map Prod.fst ++ [x1])) := hN
        clear hK K hHeld hN g0 g1 hW10 hrow9 hg9 hw9 hbx HN8 HSr8 HLb8 HC HNp HN7 HgB
        --M14
        have g0 := (HN10.out.box.2 1 _ rfl).1
        obtain ⟨W11, hW11⟩ : ∃ Y, Y = W10.alloc (.cells #[.bool false] 4) := ⟨_, rfl⟩
        have b11 : Below W10.heap.size W10 W11 := by rw [hW11]; exact (Below.refl _ _).alloc (Nat.le_refl _) _
        have q11 : BoxL W11 W10.heap.size [.bool false] := by rw [hW11]; exact BoxL.new W10 4 _
        have HW11 : Hid (W11 = W10.alloc (.cells #[.bool false] 4)) := hW11
        have HN11 : Hid (NwE w W11 p (.slice v9a v9n v9c) (.slice ba bn bc) (.slice n5a n5n n5c) (fun y => Q y ∨ (w5.heap.size ≤ y ∧ y < w6.heap.size)) (l.take k ++ [x]) ((l.take k).map fun _ => false) ((l.take k).map Prod.fst ++ [x1])) := HN10.out.on b11
        have HSr11 : Hid (Src RBool 1 (fun y => False ∧ (Value.slice ba bn bc).ownBlock ≠ some y) W11 (some ⟨W10.heap.size, 0, none⟩) 1 [false]) := src_boxG RBool.firm q11 rfl
        have HLb11 : Hid ((((l.take k).map fun _ => false).length + [false].length) * 1 ≤ 140737488355328) := by have h1 := HkL.out; rw [Hid, List.length_map, List.length_singleton]; omega
        clear hW11 b11 q11
        go_wp2_with (at_builtin; refine wpl_atG HW11.out ?_; refine row_appendP RBool.firm (A := fun _ => False) (w0 := w) rfl _ _ 40 4 rfl _ 1 infoBoolF Tryd.underlying40 rfl (by decide) (by decide) (.slice ba bn bc) ((l.take k).map fun _ => false) rfl HN11.out.rb (some ⟨W10.heap.size, 0, none⟩) 1 1 [false] rfl HSr11.out HLb11.out ?_; intro v12 w12 hrow12 hg12 hw12; obtain ⟨v12a, v12n, v12c, rfl⟩ := hrow12.headG; have hbx := HN11.out.box.kept (A := fun y => (Value.slice ba bn bc).ownBlock ≠ some y) (Kept.grown hg12 (fun y e hk => hk e)) HN11.out.nb; have h0 := (hbx.2 1 _ rfl).1; have h1 := (hbx.2 1 _ rfl).2)
        --M15
        have hN := HN11.out.skip hg12 hrow12 hw12
        have HE : Hid (NwI w p l (.slice n5a n5n n5c) (k + 1) (w12.setCell ⟨p, 1, none⟩ (.slice v12a v12n v12c))) := by
          refine ⟨.slice v9a v9n v9c, .slice v12a v12n v12c, (fun y => Q y ∨ (w5.heap.size ≤ y ∧ y < w6.heap.size)), ?_⟩
          rw [HSn.out, List.map_append, List.map_append]; rw [← HX1.out] at hN; exact hN
        have HK : Hid (∀ j, j < k + 1 → okPl l j = true) := fun j hj => by
          rcases Nat.lt_succ_iff_lt_or_eq.1 hj with h | h
          · exact hok.out j h
          · rw [h]; exact HOkk.out
        clear hN hbx h0 h1 g0 hrow12 hg12 hw12 HN11 HSr11 HLb11 HW11 HN10
        go_roundw
        case rel => exact ⟨k + 1, by omega, by go_num, HE, HK⟩
        case measure => simp [intOf]; omega
end Go.Proofs.YtoacbobchngooaaDoor
