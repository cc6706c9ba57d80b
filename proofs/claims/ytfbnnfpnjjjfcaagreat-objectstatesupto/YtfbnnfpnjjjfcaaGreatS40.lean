/- kept.rightIn at Class: all are right, and their names rise, and its like. No condition beyond what each says. -/
import Derived.Laws.Cover1
import Derived.Test.YtfbnnfpnjjjfcaaGreatS22
namespace Go.Proofs.YtfbnnfpnjjjfcaaGreat
set_option maxHeartbeats 16000000
set_option maxRecDepth 100000
open Tryz Go.RowKit
set_option linter.unusedSimpArgs false
theorem risingClass_calls (s : String) (hm : ∀ w, (method 406 152 (.agg #[]) s).run prog w = .ok (278, .agg #[]) w) (a : Option Addr) (n cap : Nat) (A : Where) (L : List ClassD) (w : World) (hL : Hid (SlAt RClass 2 24 A w a n cap L)) : Calls prog 296 #[.slice a n cap, .func (.method s) #[.iface 152 (.agg #[])] #[]] w fun e w' => e = .returned (.bool (risesBy sLt (fun x => x.1) L)) ∧ Below w.heap.size w w' := by
 have hlen := hL.out.len (by decide)
 have HN : Hid (L.length = n) := hL.out.1
 go_enter func296, ntmps296
 go_wp2
 go_loopw [5] (fun i wr => ∃ k : Nat, 1 ≤ k ∧ (k ≤ n ∨ k = 1) ∧ i = .int .i64 k ∧ Below w.heap.size w wr ∧ Hid (∀ j, j < k → (decide (j = 0) || sLt ((fun x => x.1) (L.getD (j - 1) default)) ((fun x => x.1) (L.getD j default))) = true)) (fun i _ => n - (intOf i).toNat)
 case atStart => exact ⟨1, Nat.le_refl _, .inr rfl, rfl, Below.refl _ _, fun j hj => (by have h0 : j = 0 := (by omega); simp [h0])⟩
 case round =>
  obtain ⟨k, hk1, hk, rfl, hbel, hall⟩ := hrel
  by_cases hlt : k < n
  ·
   obtain ⟨m, hm⟩ : ∃ m, Hid (k = m + 1) := ⟨k - 1, by unfold Hid; omega⟩
   have hme := hm.out
   have hmw : IntKind.i64.wrap ((k : Int) - 1) = (m : Int) := by rw [hme]; simp only [Int.natCast_add, Int.cast_ofNat_Int, Int.add_sub_cancel]; simp [IntKind.wrap, IntKind.bits, IntKind.signed]; omega
   have hml : m < n := by omega
   have hkm : k - 1 = m := by omega
   obtain ⟨B, off, ea, hB, _, ds, hrd, hvd⟩ := (hL.out.on RClass.firm hbel).get hlt
   obtain ⟨B', off', ea', _, _, cs, hrc, hvc⟩ := (hL.out.on RClass.firm hbel).get hml
   rw [ea] at ea'
   obtain ⟨rfl, rfl⟩ : B = B' ∧ off = off' := by simpa using ea'
   subst ea
   have HBW : Hid (B < wr.heap.size) := hB
   have hltz : (k : Int) < (n : Int) := by omega
   have hmlz : (m : Int) < (n : Int) := by omega
   have HC : Hid (wr.rangeAt B (off + m * 2) cs) := hvc
   have HD : Hid (wr.rangeAt B (off + k * 2) ds) := hvd
   have hci : (prog.info? 42).map (·.size) = some cs.length := by rw [RClass.firm.len hrc]; exact itClass
   have hdi : (prog.info? 42).map (·.size) = some ds.length := by rw [RClass.firm.len hrd]; exact itClass
   have HRc : Hid (RClass A wr cs (L.getD m default)) := hrc
   have HRd : Hid (RClass A wr ds (L.getD k default)) := hrd
   have hbad : Hid (sLt ((fun x => x.1) (L.getD m default)) ((fun x => x.1) (L.getD k default)) = false → risesBy sLt (fun x => x.1) L = false) := fun h => allTo_false (k := k) (by rw [HN.out]; exact hlt) (by rw [hkm, h]; simp; omega)
   have hgo : Hid (sLt ((fun x => x.1) (L.getD m default)) ((fun x => x.1) (L.getD k default)) = true → ∀ j, j < k + 1 → (decide (j = 0) || sLt ((fun x => x.1) (L.getD (j - 1) default)) ((fun x => x.1) (L.getD j default))) = true) := fun h j hj => by
    rcases Nat.lt_succ_iff_lt_or_eq.1 hj with h' | rfl
    ·
     exact hall.out j h'
    ·
     rw [hkm, h]; simp
   clear hall hvc hvd hrc hrd hme hkm ea'
   generalize L.getD m default = x at hbad hgo HRc
   generalize L.getD k default = y at hbad hgo HRd
   cases hc : sLt ((fun x => x.1) x) ((fun x => x.1) y)
   ·
    have HF : Hid (risesBy sLt (fun x => x.1) L = false) := hbad.out hc
    simp only [sLt] at hc
    clear hbad hgo
    go_wp2_with fail
    refine t0 (fun u => Below wr.heap.size wr u ∧ u.rangeAt B (off + m * 2) cs ∧ u.rangeAt B (off + k * 2) ds) (⟨(Below.refl _ _).drew, HC.out, HD.out⟩) (fun hH => ?_)
    refine tp 0 ?_; try go_frame
    refine tp 1 ?_; try go_frame
    refine tp 2 ?_; try go_frame
    refine tp 3 ?_; try go_frame
    refine tp 4 ?_; try go_frame
    refine tq 5 (.agg cs.toArray) (yieldsIf_load_mid (by rfl) 42 _ rfl B (off + m * 2) rfl cs _ (fun u hu => hu.2.1) underlying42 rfl hci) ?_ (hi := rfl)
    try go_frame
    refine tp 7 ?_; try go_frame
    refine tp 8 ?_; try go_frame
    refine tp 9 ?_; try go_frame
    refine tp 10 ?_; try go_frame
    refine tq 11 (.agg ds.toArray) (yieldsIf_load_mid (by rfl) 42 _ rfl B (off + k * 2) rfl ds _ (fun u hu => hu.2.2) underlying42 rfl hdi) ?_ (hi := rfl)
    try go_frame
    refine tr 6 (fun K hK => ?_)
    refine want_yes (by rfl) (call_enter (f := 278) (args := #[.agg #[], .agg cs.toArray]) (by go_simp) (Class_named cs A x _ (RClass.firm.kept HRc.out (Kept.below hH.1))) (fun e u1 he => ?_))
    obtain ⟨rfl, hb1⟩ := he
    refine ⟨_, rfl, hK.out _ _ (⟨on2 hH.1 hb1, range_on hH.2.1 hb1 (Nat.lt_of_lt_of_le HBW.out hH.1.size), range_on hH.2.2 hb1 (Nat.lt_of_lt_of_le HBW.out hH.1.size)⟩) (fun hH => ?_)⟩
    clear hK K
    try go_frame
    refine tr 12 (fun K hK => ?_)
    refine want_yes (by rfl) (call_enter (f := 278) (args := #[.agg #[], .agg ds.toArray]) (by go_simp) (Class_named ds A y _ (RClass.firm.kept HRd.out (Kept.below hH.1))) (fun e u1 he => ?_))
    obtain ⟨rfl, hb1⟩ := he
    have HB2 : Hid (Below wr.heap.size wr u1) := on2 hH.1 hb1
    refine ⟨_, rfl, hK.out _ _ (⟨on2 hH.1 hb1, range_on hH.2.1 hb1 (Nat.lt_of_lt_of_le HBW.out hH.1.size), range_on hH.2.2 hb1 (Nat.lt_of_lt_of_le HBW.out hH.1.size)⟩) (fun hH => ?_)⟩
    clear hK K
    try go_frame
    refine tp 13 ?_; try go_frame
    refine tz ?_
    skip
    go_wp2_with fail
    go_ret
    exact ⟨retb HF.out.symm, on2 hbel HB2.out⟩
   ·
    have HG := hgo.out hc
    have HG2 : Hid (∀ j, j < k + 1 → (decide (j = 0) || sLt ((fun x => x.1) (L.getD (j - 1) default)) ((fun x => x.1) (L.getD j default))) = true) := HG
    simp only [sLt] at hc
    clear hbad hgo HG
    go_wp2_with fail
    refine t0 (fun u => Below wr.heap.size wr u ∧ u.rangeAt B (off + m * 2) cs ∧ u.rangeAt B (off + k * 2) ds) (⟨(Below.refl _ _).drew, HC.out, HD.out⟩) (fun hH => ?_)
    refine tp 0 ?_; try go_frame
    refine tp 1 ?_; try go_frame
    refine tp 2 ?_; try go_frame
    refine tp 3 ?_; try go_frame
    refine tp 4 ?_; try go_frame
    refine tq 5 (.agg cs.toArray) (yieldsIf_load_mid (by rfl) 42 _ rfl B (off + m * 2) rfl cs _ (fun u hu => hu.2.1) underlying42 rfl hci) ?_ (hi := rfl)
    try go_frame
    refine tp 7 ?_; try go_frame
    refine tp 8 ?_; try go_frame
    refine tp 9 ?_; try go_frame
    refine tp 10 ?_; try go_frame
    refine tq 11 (.agg ds.toArray) (yieldsIf_load_mid (by rfl) 42 _ rfl B (off + k * 2) rfl ds _ (fun u hu => hu.2.2) underlying42 rfl hdi) ?_ (hi := rfl)
    try go_frame
    refine tr 6 (fun K hK => ?_)
    refine want_yes (by rfl) (call_enter (f := 278) (args := #[.agg #[], .agg cs.toArray]) (by go_simp) (Class_named cs A x _ (RClass.firm.kept HRc.out (Kept.below hH.1))) (fun e u1 he => ?_))
    obtain ⟨rfl, hb1⟩ := he
    refine ⟨_, rfl, hK.out _ _ (⟨on2 hH.1 hb1, range_on hH.2.1 hb1 (Nat.lt_of_lt_of_le HBW.out hH.1.size), range_on hH.2.2 hb1 (Nat.lt_of_lt_of_le HBW.out hH.1.size)⟩) (fun hH => ?_)⟩
    clear hK K
    try go_frame
    refine tr 12 (fun K hK => ?_)
    refine want_yes (by rfl) (call_enter (f := 278) (args := #[.agg #[], .agg ds.toArray]) (by go_simp) (Class_named ds A y _ (RClass.firm.kept HRd.out (Kept.below hH.1))) (fun e u1 he => ?_))
    obtain ⟨rfl, hb1⟩ := he
    have HB2 : Hid (Below wr.heap.size wr u1) := on2 hH.1 hb1
    refine ⟨_, rfl, hK.out _ _ (⟨on2 hH.1 hb1, range_on hH.2.1 hb1 (Nat.lt_of_lt_of_le HBW.out hH.1.size), range_on hH.2.2 hb1 (Nat.lt_of_lt_of_le HBW.out hH.1.size)⟩) (fun hH => ?_)⟩
    clear hK K
    try go_frame
    refine tp 13 ?_; try go_frame
    refine tz ?_
    skip
    go_wp2_with fail
    go_roundw
    case rel => exact ⟨k + 1, by omega, .inl (by omega), by go_num, on2 hbel HB2.out, HG2⟩
    case measure => simp [intOf]; omega
  ·
   have HF : Hid (risesBy sLt (fun x => x.1) L = true) := allTo_true (fun j hj => hall.out j (by rw [HN.out] at hj; omega))
   clear hall
   go_wp2
   go_ret
   exact ⟨retb HF.out.symm, hbel⟩
theorem Class_krightIn (h0 h1 h2 h3 h4 h5 : Hd) (A : Where) (L : List ClassD) (w : World) (h : Hid (SlAt RClass 2 24 A w h4.1 h4.2.1 h4.2.2 L)) : Calls prog 290 #[.agg #[.iface 152 (.agg #[])], .agg #[J h0, J h1, J h2, J h3, J h4, J h5]] w fun e w' => e = .returned (.bool (L.all rightClass && risesBy sLt (fun x => x.1) L)) ∧ Below w.heap.size w w' := by
 have hL := Class_list (J h0) (J h1) (J h2) (J h3) (J h4) (J h5)
 have HH0 : Hid (Held w [(w.heap.size + 1, [J h0, J h1, J h2, J h3, J h4, J h5]), (w.heap.size, [.iface 152 (.agg #[])])] [] ((w.alloc (.cells #[.iface 152 (.agg #[])] 156)).alloc (.cells #[J h0, J h1, J h2, J h3, J h4, J h5] 61))) := ((Held.start w).push rfl [.iface 152 (.agg #[])] 156).push (by simp) [J h0, J h1, J h2, J h3, J h4, J h5] 61
 obtain ⟨r, hr⟩ : ∃ r, L.all rightClass = r := ⟨_, rfl⟩
 obtain ⟨q, hq⟩ : ∃ q, risesBy sLt (fun x : ClassD => x.1) L = q := ⟨_, rfl⟩
 have HF : Hid ((L.all rightClass && risesBy sLt (fun x : ClassD => x.1) L) = (r && q)) := by rw [Hid, hr, hq]
 have HA : Hid (∀ s, (∀ w, (method 406 152 (.agg #[]) s).run prog w = .ok (280, .agg #[]) w) → ∀ u, Below w.heap.size w u → Calls prog 295 #[J h4, .func (.method s) #[.iface 152 (.agg #[])] #[]] u fun e w' => e = .returned (.bool r) ∧ Below u.heap.size u w') := fun s hm u hu => by rw [← hr]; exact allRightClass_calls s hm _ _ _ A L u (h.out.kept RClass.firm (Kept.below hu))
 have HB : Hid (∀ s, (∀ w, (method 406 152 (.agg #[]) s).run prog w = .ok (278, .agg #[]) w) → ∀ u, Below w.heap.size w u → Calls prog 296 #[J h4, .func (.method s) #[.iface 152 (.agg #[])] #[]] u fun e w' => e = .returned (.bool q) ∧ Below u.heap.size u w') := fun s hm u hu => by rw [← hq]; exact risingClass_calls s hm _ _ _ A L u (h.out.kept RClass.firm (Kept.below hu))
 clear hr hq h
 go_enter func290, ntmps290
 go_wp2_with fail
 refine (hL _).mono ?_
 rintro e w1 ⟨rfl, hb1⟩
 have HH1 : Hid (Held w [(w.heap.size + 1, [J h0, J h1, J h2, J h3, J h4, J h5]), (w.heap.size, [.iface 152 (.agg #[])])] [] w1) := HH0.out.on hb1
 have k0 := HH1.out.cell 1 (b := w.heap.size) rfl 0 rfl
 have kl0 := HH1.out.lt 1 (b := w.heap.size) rfl
 clear HH0 hb1 hL
 go_wp2_with fail
 clear k0 kl0
 refine (HA.out _ (fun _ => by kernel_rfl) _ HH1.out.below).mono ?_
 rintro e w2 ⟨rfl, hb2⟩
 have HH2 : Hid (Held w [(w.heap.size + 1, [J h0, J h1, J h2, J h3, J h4, J h5]), (w.heap.size, [.iface 152 (.agg #[])])] [] w2) := HH1.out.on hb2
 clear HH1 hb2 HA
 cases r
 ·
  go_wp2_with fail
  go_ret
  exact ⟨retb (by rw [HF.out] <;> simp), HH2.out.below⟩
 ·
  have k0 := HH2.out.cell 1 (b := w.heap.size) rfl 0 rfl
  have kl0 := HH2.out.lt 1 (b := w.heap.size) rfl
  go_wp2_with fail
  clear k0 kl0
  refine (HB.out _ (fun _ => by kernel_rfl) _ HH2.out.below).mono ?_
  rintro e w3 ⟨rfl, hb3⟩
  go_wp2_with fail
  go_ret
  exact ⟨retb (by rw [HF.out] <;> simp), on2 HH2.out.below hb3⟩
theorem risingBudget_calls (s : String) (hm : ∀ w, (method 406 157 (.agg #[]) s).run prog w = .ok (309, .agg #[]) w) (a : Option Addr) (n cap : Nat) (A : Where) (L : List BudgetD) (w : World) (hL : Hid (SlAt RBudget 3 48 A w a n cap L)) : Calls prog 327 #[.slice a n cap, .func (.method s) #[.iface 157 (.agg #[])] #[]] w fun e w' => e = .returned (.bool (risesBy sLt (fun x => x.1) L)) ∧ Below w.heap.size w w' := by
 have hlen := hL.out.len (by decide)
 have HN : Hid (L.length = n) := hL.out.1
 go_enter func327, ntmps327
 go_wp2
 go_loopw [5] (fun i wr => ∃ k : Nat, 1 ≤ k ∧ (k ≤ n ∨ k = 1) ∧ i = .int .i64 k ∧ Below w.heap.size w wr ∧ Hid (∀ j, j < k → (decide (j = 0) || sLt ((fun x => x.1) (L.getD (j - 1) default)) ((fun x => x.1) (L.getD j default))) = true)) (fun i _ => n - (intOf i).toNat)
 case atStart => exact ⟨1, Nat.le_refl _, .inr rfl, rfl, Below.refl _ _, fun j hj => (by have h0 : j = 0 := (by omega); simp [h0])⟩
 case round =>
  obtain ⟨k, hk1, hk, rfl, hbel, hall⟩ := hrel
  by_cases hlt : k < n
  ·
   obtain ⟨m, hm⟩ : ∃ m, Hid (k = m + 1) := ⟨k - 1, by unfold Hid; omega⟩
   have hme := hm.out
   have hmw : IntKind.i64.wrap ((k : Int) - 1) = (m : Int) := by rw [hme]; simp only [Int.natCast_add, Int.cast_ofNat_Int, Int.add_sub_cancel]; simp [IntKind.wrap, IntKind.bits, IntKind.signed]; omega
   have hml : m < n := by omega
   have hkm : k - 1 = m := by omega
   obtain ⟨B, off, ea, hB, _, ds, hrd, hvd⟩ := (hL.out.on RBudget.firm hbel).get hlt
   obtain ⟨B', off', ea', _, _, cs, hrc, hvc⟩ := (hL.out.on RBudget.firm hbel).get hml
   rw [ea] at ea'
   obtain ⟨rfl, rfl⟩ : B = B' ∧ off = off' := by simpa using ea'
   subst ea
   have HBW : Hid (B < wr.heap.size) := hB
   have hltz : (k : Int) < (n : Int) := by omega
   have hmlz : (m : Int) < (n : Int) := by omega
   have HC : Hid (wr.rangeAt B (off + m * 3) cs) := hvc
   have HD : Hid (wr.rangeAt B (off + k * 3) ds) := hvd
   have hci : (prog.info? 44).map (·.size) = some cs.length := by rw [RBudget.firm.len hrc]; exact itBudget
   have hdi : (prog.info? 44).map (·.size) = some ds.length := by rw [RBudget.firm.len hrd]; exact itBudget
   have HRc : Hid (RBudget A wr cs (L.getD m default)) := hrc
   have HRd : Hid (RBudget A wr ds (L.getD k default)) := hrd
   have hbad : Hid (sLt ((fun x => x.1) (L.getD m default)) ((fun x => x.1) (L.getD k default)) = false → risesBy sLt (fun x => x.1) L = false) := fun h => allTo_false (k := k) (by rw [HN.out]; exact hlt) (by rw [hkm, h]; simp; omega)
   have hgo : Hid (sLt ((fun x => x.1) (L.getD m default)) ((fun x => x.1) (L.getD k default)) = true → ∀ j, j < k + 1 → (decide (j = 0) || sLt ((fun x => x.1) (L.getD (j - 1) default)) ((fun x => x.1) (L.getD j default))) = true) := fun h j hj => by
    rcases Nat.lt_succ_iff_lt_or_eq.1 hj with h' | rfl
    ·
     exact hall.out j h'
    ·
     rw [hkm, h]; simp
   clear hall hvc hvd hrc hrd hme hkm ea'
   generalize L.getD m default = x at hbad hgo HRc
   generalize L.getD k default = y at hbad hgo HRd
   cases hc : sLt ((fun x => x.1) x) ((fun x => x.1) y)
   ·
    have HF : Hid (risesBy sLt (fun x => x.1) L = false) := hbad.out hc
    simp only [sLt] at hc
    clear hbad hgo
    go_wp2_with fail
    refine t0 (fun u => Below wr.heap.size wr u ∧ u.rangeAt B (off + m * 3) cs ∧ u.rangeAt B (off + k * 3) ds) (⟨(Below.refl _ _).drew, HC.out, HD.out⟩) (fun hH => ?_)
    refine tp 0 ?_; try go_frame
    refine tp 1 ?_; try go_frame
    refine tp 2 ?_; try go_frame
    refine tp 3 ?_; try go_frame
    refine tp 4 ?_; try go_frame
    refine tq 5 (.agg cs.toArray) (yieldsIf_load_mid (by rfl) 44 _ rfl B (off + m * 3) rfl cs _ (fun u hu => hu.2.1) underlying44 rfl hci) ?_ (hi := rfl)
    try go_frame
    refine tp 7 ?_; try go_frame
    refine tp 8 ?_; try go_frame
    refine tp 9 ?_; try go_frame
    refine tp 10 ?_; try go_frame
    refine tq 11 (.agg ds.toArray) (yieldsIf_load_mid (by rfl) 44 _ rfl B (off + k * 3) rfl ds _ (fun u hu => hu.2.2) underlying44 rfl hdi) ?_ (hi := rfl)
    try go_frame
    refine tr 6 (fun K hK => ?_)
    refine want_yes (by rfl) (call_enter (f := 309) (args := #[.agg #[], .agg cs.toArray]) (by go_simp) (Budget_named cs A x _ (RBudget.firm.kept HRc.out (Kept.below hH.1))) (fun e u1 he => ?_))
    obtain ⟨rfl, hb1⟩ := he
    refine ⟨_, rfl, hK.out _ _ (⟨on2 hH.1 hb1, range_on hH.2.1 hb1 (Nat.lt_of_lt_of_le HBW.out hH.1.size), range_on hH.2.2 hb1 (Nat.lt_of_lt_of_le HBW.out hH.1.size)⟩) (fun hH => ?_)⟩
    clear hK K
    try go_frame
    refine tr 12 (fun K hK => ?_)
    refine want_yes (by rfl) (call_enter (f := 309) (args := #[.agg #[], .agg ds.toArray]) (by go_simp) (Budget_named ds A y _ (RBudget.firm.kept HRd.out (Kept.below hH.1))) (fun e u1 he => ?_))
    obtain ⟨rfl, hb1⟩ := he
    have HB2 : Hid (Below wr.heap.size wr u1) := on2 hH.1 hb1
    refine ⟨_, rfl, hK.out _ _ (⟨on2 hH.1 hb1, range_on hH.2.1 hb1 (Nat.lt_of_lt_of_le HBW.out hH.1.size), range_on hH.2.2 hb1 (Nat.lt_of_lt_of_le HBW.out hH.1.size)⟩) (fun hH => ?_)⟩
    clear hK K
    try go_frame
    refine tp 13 ?_; try go_frame
    refine tz ?_
    skip
    go_wp2_with fail
    go_ret
    exact ⟨retb HF.out.symm, on2 hbel HB2.out⟩
   ·
    have HG := hgo.out hc
    have HG2 : Hid (∀ j, j < k + 1 → (decide (j = 0) || sLt ((fun x => x.1) (L.getD (j - 1) default)) ((fun x => x.1) (L.getD j default))) = true) := HG
    simp only [sLt] at hc
    clear hbad hgo HG
    go_wp2_with fail
    refine t0 (fun u => Below wr.heap.size wr u ∧ u.rangeAt B (off + m * 3) cs ∧ u.rangeAt B (off + k * 3) ds) (⟨(Below.refl _ _).drew, HC.out, HD.out⟩) (fun hH => ?_)
    refine tp 0 ?_; try go_frame
    refine tp 1 ?_; try go_frame
    refine tp 2 ?_; try go_frame
    refine tp 3 ?_; try go_frame
    refine tp 4 ?_; try go_frame
    refine tq 5 (.agg cs.toArray) (yieldsIf_load_mid (by rfl) 44 _ rfl B (off + m * 3) rfl cs _ (fun u hu => hu.2.1) underlying44 rfl hci) ?_ (hi := rfl)
    try go_frame
    refine tp 7 ?_; try go_frame
    refine tp 8 ?_; try go_frame
    refine tp 9 ?_; try go_frame
    refine tp 10 ?_; try go_frame
    refine tq 11 (.agg ds.toArray) (yieldsIf_load_mid (by rfl) 44 _ rfl B (off + k * 3) rfl ds _ (fun u hu => hu.2.2) underlying44 rfl hdi) ?_ (hi := rfl)
    try go_frame
    refine tr 6 (fun K hK => ?_)
    refine want_yes (by rfl) (call_enter (f := 309) (args := #[.agg #[], .agg cs.toArray]) (by go_simp) (Budget_named cs A x _ (RBudget.firm.kept HRc.out (Kept.below hH.1))) (fun e u1 he => ?_))
    obtain ⟨rfl, hb1⟩ := he
    refine ⟨_, rfl, hK.out _ _ (⟨on2 hH.1 hb1, range_on hH.2.1 hb1 (Nat.lt_of_lt_of_le HBW.out hH.1.size), range_on hH.2.2 hb1 (Nat.lt_of_lt_of_le HBW.out hH.1.size)⟩) (fun hH => ?_)⟩
    clear hK K
    try go_frame
    refine tr 12 (fun K hK => ?_)
    refine want_yes (by rfl) (call_enter (f := 309) (args := #[.agg #[], .agg ds.toArray]) (by go_simp) (Budget_named ds A y _ (RBudget.firm.kept HRd.out (Kept.below hH.1))) (fun e u1 he => ?_))
    obtain ⟨rfl, hb1⟩ := he
    have HB2 : Hid (Below wr.heap.size wr u1) := on2 hH.1 hb1
    refine ⟨_, rfl, hK.out _ _ (⟨on2 hH.1 hb1, range_on hH.2.1 hb1 (Nat.lt_of_lt_of_le HBW.out hH.1.size), range_on hH.2.2 hb1 (Nat.lt_of_lt_of_le HBW.out hH.1.size)⟩) (fun hH => ?_)⟩
    clear hK K
    try go_frame
    refine tp 13 ?_; try go_frame
    refine tz ?_
    skip
    go_wp2_with fail
    go_roundw
    case rel => exact ⟨k + 1, by omega, .inl (by omega), by go_num, on2 hbel HB2.out, HG2⟩
    case measure => simp [intOf]; omega
  ·
   have HF : Hid (risesBy sLt (fun x => x.1) L = true) := allTo_true (fun j hj => hall.out j (by rw [HN.out] at hj; omega))
   clear hall
   go_wp2
   go_ret
   exact ⟨retb HF.out.symm, hbel⟩
theorem Budget_krightIn (h0 h1 h2 h3 h4 h5 : Hd) (A : Where) (L : List BudgetD) (w : World) (h : Hid (SlAt RBudget 3 48 A w h5.1 h5.2.1 h5.2.2 L)) : Calls prog 321 #[.agg #[.iface 157 (.agg #[])], .agg #[J h0, J h1, J h2, J h3, J h4, J h5]] w fun e w' => e = .returned (.bool (L.all rightBudget && risesBy sLt (fun x => x.1) L)) ∧ Below w.heap.size w w' := by
 have hL := Budget_list (J h0) (J h1) (J h2) (J h3) (J h4) (J h5)
 have HH0 : Hid (Held w [(w.heap.size + 1, [J h0, J h1, J h2, J h3, J h4, J h5]), (w.heap.size, [.iface 157 (.agg #[])])] [] ((w.alloc (.cells #[.iface 157 (.agg #[])] 161)).alloc (.cells #[J h0, J h1, J h2, J h3, J h4, J h5] 61))) := ((Held.start w).push rfl [.iface 157 (.agg #[])] 161).push (by simp) [J h0, J h1, J h2, J h3, J h4, J h5] 61
 obtain ⟨r, hr⟩ : ∃ r, L.all rightBudget = r := ⟨_, rfl⟩
 obtain ⟨q, hq⟩ : ∃ q, risesBy sLt (fun x : BudgetD => x.1) L = q := ⟨_, rfl⟩
 have HF : Hid ((L.all rightBudget && risesBy sLt (fun x : BudgetD => x.1) L) = (r && q)) := by rw [Hid, hr, hq]
 have HA : Hid (∀ s, (∀ w, (method 406 157 (.agg #[]) s).run prog w = .ok (311, .agg #[]) w) → ∀ u, Below w.heap.size w u → Calls prog 326 #[J h5, .func (.method s) #[.iface 157 (.agg #[])] #[]] u fun e w' => e = .returned (.bool r) ∧ Below u.heap.size u w') := fun s hm u hu => by rw [← hr]; exact allRightBudget_calls s hm _ _ _ A L u (h.out.kept RBudget.firm (Kept.below hu))
 have HB : Hid (∀ s, (∀ w, (method 406 157 (.agg #[]) s).run prog w = .ok (309, .agg #[]) w) → ∀ u, Below w.heap.size w u → Calls prog 327 #[J h5, .func (.method s) #[.iface 157 (.agg #[])] #[]] u fun e w' => e = .returned (.bool q) ∧ Below u.heap.size u w') := fun s hm u hu => by rw [← hq]; exact risingBudget_calls s hm _ _ _ A L u (h.out.kept RBudget.firm (Kept.below hu))
 clear hr hq h
 go_enter func321, ntmps321
 go_wp2_with fail
 refine (hL _).mono ?_
 rintro e w1 ⟨rfl, hb1⟩
 have HH1 : Hid (Held w [(w.heap.size + 1, [J h0, J h1, J h2, J h3, J h4, J h5]), (w.heap.size, [.iface 157 (.agg #[])])] [] w1) := HH0.out.on hb1
 have k0 := HH1.out.cell 1 (b := w.heap.size) rfl 0 rfl
 have kl0 := HH1.out.lt 1 (b := w.heap.size) rfl
 clear HH0 hb1 hL
 go_wp2_with fail
 clear k0 kl0
 refine (HA.out _ (fun _ => by kernel_rfl) _ HH1.out.below).mono ?_
 rintro e w2 ⟨rfl, hb2⟩
 have HH2 : Hid (Held w [(w.heap.size + 1, [J h0, J h1, J h2, J h3, J h4, J h5]), (w.heap.size, [.iface 157 (.agg #[])])] [] w2) := HH1.out.on hb2
 clear HH1 hb2 HA
 cases r
 ·
  go_wp2_with fail
  go_ret
  exact ⟨retb (by rw [HF.out] <;> simp), HH2.out.below⟩
 ·
  have k0 := HH2.out.cell 1 (b := w.heap.size) rfl 0 rfl
  have kl0 := HH2.out.lt 1 (b := w.heap.size) rfl
  go_wp2_with fail
  clear k0 kl0
  refine (HB.out _ (fun _ => by kernel_rfl) _ HH2.out.below).mono ?_
  rintro e w3 ⟨rfl, hb3⟩
  go_wp2_with fail
  go_ret
  exact ⟨retb (by rw [HF.out] <;> simp), on2 HH2.out.below hb3⟩
end Go.Proofs.YtfbnnfpnjjjfcaaGreat

