/- kept.rightIn at Budget: all are right, and their names rise, and its like. No condition beyond what each says. -/
import Derived.Laws.Cover1
import Derived.Test.YtikncmcceeacmaaGreatQ20
namespace Go.Proofs.YtikncmcceeacmaaGreat
set_option maxHeartbeats 16000000
set_option maxRecDepth 100000
open Tryz Go.RowKit
set_option linter.unusedSimpArgs false
theorem risingBudget_calls (s : String) (hm : ∀ w, (method 406 157 (.agg #[]) s).run prog w = .ok (309, .agg #[]) w) (a : Option Addr) (n cap : Nat) (A : Where) (L : List BudgetD) (w : World) (hL : Hid (SlAt RBudget 3 48 A w a n cap L)) : Calls prog 327 #[.slice a n cap, .func (.method s) #[.iface 157 (.agg #[])] #[]] w fun e w' => e = .returned (.bool (risesBy sLt (fun x => x.1) L)) ∧ Below w.heap.size w w' := by
 have hlen := hL.out.len (by decide)
 have HN : Hid (L.length = n) := hL.out.1
 go_enter func327, ntmps327
 go_wp2
 go_loopw [5] (fun i wr => ∃ k : Nat, 1 ≤ k ∧ (k ≤ n ∨ k = 1) ∧ i = .int .i64 k ∧ Below w.heap.size w wr ∧ Hid (∀ j, j < k → (decide (j = 0) || sLt ((fun x => x.1) (L.getD (j - 1) default)) ((fun x => x.1) (L.getD j default))) = true)) (fun i _ => n - (intOf i).toNat)
 case atStart => exact ⟨1, Nat.le_refl _, .inr rfl, rfl, Below.refl _ _, fun j hj => (by have h0 : j = 0 := (by omega); simp [h0])⟩
 case round =>
  obtain ⟨k, hk1, hk, rfl, hbel, hall⟩ := hrel
  by_cases hlt : k < n
  ·
   obtain ⟨m, hm⟩ : ∃ m, Hid (k = m + 1) := ⟨k - 1, by unfold Hid; omega⟩
   have hme := hm.out
   have hmw : IntKind.i64.wrap ((k : Int) - 1) = (m : Int) := by rw [hme]; simp only [Int.natCast_add, Int.cast_ofNat_Int, Int.add_sub_cancel]; simp [IntKind.wrap, IntKind.bits, IntKind.signed]; omega
   have hml : m < n := by omega
   have hkm : k - 1 = m := by omega
   obtain ⟨B, off, ea, hB, _, ds, hrd, hvd⟩ := (hL.out.on RBudget.firm hbel).get hlt
   obtain ⟨B', off', ea', _, _, cs, hrc, hvc⟩ := (hL.out.on RBudget.firm hbel).get hml
   rw [ea] at ea'
   obtain ⟨rfl, rfl⟩ : B = B' ∧ off = off' := by simpa using ea'
   subst ea
   have HBW : Hid (B < wr.heap.size) := hB
   have hltz : (k : Int) < (n : Int) := by omega
   have hmlz : (m : Int) < (n : Int) := by omega
   have HC : Hid (wr.rangeAt B (off + m * 3) cs) := hvc
   have HD : Hid (wr.rangeAt B (off + k * 3) ds) := hvd
   have hci : (prog.info? 44).map (·.size) = some cs.length := by rw [RBudget.firm.len hrc]; exact itBudget
   have hdi : (prog.info? 44).map (·.size) = some ds.length := by rw [RBudget.firm.len hrd]; exact itBudget
   have HRc : Hid (RBudget A wr cs (L.getD m default)) := hrc
   have HRd : Hid (RBudget A wr ds (L.getD k default)) := hrd
   have hbad : Hid (sLt ((fun x => x.1) (L.getD m default)) ((fun x => x.1) (L.getD k default)) = false → risesBy sLt (fun x => x.1) L = false) := fun h => allTo_false (k := k) (by rw [HN.out]; exact hlt) (by rw [hkm, h]; simp; omega)
   have hgo : Hid (sLt ((fun x => x.1) (L.getD m default)) ((fun x => x.1) (L.getD k default)) = true → ∀ j, j < k + 1 → (decide (j = 0) || sLt ((fun x => x.1) (L.getD (j - 1) default)) ((fun x => x.1) (L.getD j default))) = true) := fun h j hj => by
    rcases Nat.lt_succ_iff_lt_or_eq.1 hj with h' | rfl
    ·
     exact hall.out j h'
    ·
     rw [hkm, h]; simp
   clear hall hvc hvd hrc hrd hme hkm ea'
   generalize L.getD m default = x at hbad hgo HRc
   generalize L.getD k default = y at hbad hgo HRd
   cases hc : sLt ((fun x => x.1) x) ((fun x => x.1) y)
   ·
    have HF : Hid (risesBy sLt (fun x => x.1) L = false) := hbad.out hc
    simp only [sLt] at hc
    clear hbad hgo
    go_wp2_with fail
    refine t0 (fun u => Below wr.heap.size wr u ∧ u.rangeAt B (off + m * 3) cs ∧ u.rangeAt B (off + k * 3) ds) (⟨(Below.refl _ _).drew, HC.out, HD.out⟩) (fun hH => ?_)
    refine tp 0 ?_; try go_frame
    refine tp 1 ?_; try go_frame
    refine tp 2 ?_; try go_frame
    refine tp 3 ?_; try go_frame
    refine tp 4 ?_; try go_frame
    refine tq 5 (.agg cs.toArray) (yieldsIf_load_mid (by rfl) 44 _ rfl B (off + m * 3) rfl cs _ (fun u hu => hu.2.1) underlying44 rfl hci) ?_ (hi := rfl)
    try go_frame
    refine tp 7 ?_; try go_frame
    refine tp 8 ?_; try go_frame
    refine tp 9 ?_; try go_frame
    refine tp 10 ?_; try go_frame
    refine tq 11 (.agg ds.toArray) (yieldsIf_load_mid (by rfl) 44 _ rfl B (off + k * 3) rfl ds _ (fun u hu => hu.2.2) underlying44 rfl hdi) ?_ (hi := rfl)
    try go_frame
    refine tr 6 (fun K hK => ?_)
    refine want_yes (by rfl) (call_enter (f := 309) (args := #[.agg #[], .agg cs.toArray]) (by go_simp) (Budget_named cs A x _ (RBudget.firm.kept HRc.out (Kept.below hH.1))) (fun e u1 he => ?_))
    obtain ⟨rfl, hb1⟩ := he
    refine ⟨_, rfl, hK.out _ _ (⟨on2 hH.1 hb1, range_on hH.2.1 hb1 (Nat.lt_of_lt_of_le HBW.out hH.1.size), range_on hH.2.2 hb1 (Nat.lt_of_lt_of_le HBW.out hH.1.size)⟩) (fun hH => ?_)⟩
    clear hK K
    try go_frame
    refine tr 12 (fun K hK => ?_)
    refine want_yes (by rfl) (call_enter (f := 309) (args := #[.agg #[], .agg ds.toArray]) (by go_simp) (Budget_named ds A y _ (RBudget.firm.kept HRd.out (Kept.below hH.1))) (fun e u1 he => ?_))
    obtain ⟨rfl, hb1⟩ := he
    have HB2 : Hid (Below wr.heap.size wr u1) := on2 hH.1 hb1
    refine ⟨_, rfl, hK.out _ _ (⟨on2 hH.1 hb1, range_on hH.2.1 hb1 (Nat.lt_of_lt_of_le HBW.out hH.1.size), range_on hH.2.2 hb1 (Nat.lt_of_lt_of_le HBW.out hH.1.size)⟩) (fun hH => ?_)⟩
    clear hK K
    try go_frame
    refine tp 13 ?_; try go_frame
    refine tz ?_
    skip
    go_wp2_with fail
    go_ret
    exact ⟨retb HF.out.symm, on2 hbel HB2.out⟩
   ·
    have HG := hgo.out hc
    have HG2 : Hid (∀ j, j < k + 1 → (decide (j = 0) || sLt ((fun x => x.1) (L.getD (j - 1) default)) ((fun x => x.1) (L.getD j default))) = true) := HG
    simp only [sLt] at hc
    clear hbad hgo HG
    go_wp2_with fail
    refine t0 (fun u => Below wr.heap.size wr u ∧ u.rangeAt B (off + m * 3) cs ∧ u.rangeAt B (off + k * 3) ds) (⟨(Below.refl _ _).drew, HC.out, HD.out⟩) (fun hH => ?_)
    refine tp 0 ?_; try go_frame
    refine tp 1 ?_; try go_frame
    refine tp 2 ?_; try go_frame
    refine tp 3 ?_; try go_frame
    refine tp 4 ?_; try go_frame
    refine tq 5 (.agg cs.toArray) (yieldsIf_load_mid (by rfl) 44 _ rfl B (off + m * 3) rfl cs _ (fun u hu => hu.2.1) underlying44 rfl hci) ?_ (hi := rfl)
    try go_frame
    refine tp 7 ?_; try go_frame
    refine tp 8 ?_; try go_frame
    refine tp 9 ?_; try go_frame
    refine tp 10 ?_; try go_frame
    refine tq 11 (.agg ds.toArray) (yieldsIf_load_mid (by rfl) 44 _ rfl B (off + k * 3) rfl ds _ (fun u hu => hu.2.2) underlying44 rfl hdi) ?_ (hi := rfl)
    try go_frame
    refine tr 6 (fun K hK => ?_)
    refine want_yes (by rfl) (call_enter (f := 309) (args := #[.agg #[], .agg cs.toArray]) (by go_simp) (Budget_named cs A x _ (RBudget.firm.kept HRc.out (Kept.below hH.1))) (fun e u1 he => ?_))
    obtain ⟨rfl, hb1⟩ := he
    refine ⟨_, rfl, hK.out _ _ (⟨on2 hH.1 hb1, range_on hH.2.1 hb1 (Nat.lt_of_lt_of_le HBW.out hH.1.size), range_on hH.2.2 hb1 (Nat.lt_of_lt_of_le HBW.out hH.1.size)⟩) (fun hH => ?_)⟩
    clear hK K
    try go_frame
    refine tr 12 (fun K hK => ?_)
    refine want_yes (by rfl) (call_enter (f := 309) (args := #[.agg #[], .agg ds.toArray]) (by go_simp) (Budget_named ds A y _ (RBudget.firm.kept HRd.out (Kept.below hH.1))) (fun e u1 he => ?_))
    obtain ⟨rfl, hb1⟩ := he
    have HB2 : Hid (Below wr.heap.size wr u1) := on2 hH.1 hb1
    refine ⟨_, rfl, hK.out _ _ (⟨on2 hH.1 hb1, range_on hH.2.1 hb1 (Nat.lt_of_lt_of_le HBW.out hH.1.size), range_on hH.2.2 hb1 (Nat.lt_of_lt_of_le HBW.out hH.1.size)⟩) (fun hH => ?_)⟩
    clear hK K
    try go_frame
    refine tp 13 ?_; try go_frame
    refine tz ?_
    skip
    go_wp2_with fail
    go_roundw
    case rel => exact ⟨k + 1, by omega, .inl (by omega), by go_num, on2 hbel HB2.out, HG2⟩
    case measure => simp [intOf]; omega
  ·
   have HF : Hid (risesBy sLt (fun x => x.1) L = true) := allTo_true (fun j hj => hall.out j (by rw [HN.out] at hj; omega))
   clear hall
   go_wp2
   go_ret
   exact ⟨retb HF.out.symm, hbel⟩
theorem Budget_krightIn (h0 h1 h2 h3 h4 h5 : Hd) (A : Where) (L : List BudgetD) (w : World) (h : Hid (SlAt RBudget 3 48 A w h5.1 h5.2.1 h5.2.2 L)) : Calls prog 321 #[.agg #[.iface 157 (.agg #[])], .agg #[J h0, J h1, J h2, J h3, J h4, J h5]] w fun e w' => e = .returned (.bool (L.all rightBudget && risesBy sLt (fun x => x.1) L)) ∧ Below w.heap.size w w' := by
 have hL := Budget_list (J h0) (J h1) (J h2) (J h3) (J h4) (J h5)
 have HH0 : Hid (Held w [(w.heap.size + 1, [J h0, J h1, J h2, J h3, J h4, J h5]), (w.heap.size, [.iface 157 (.agg #[])])] [] ((w.alloc (.cells #[.iface 157 (.agg #[])] 161)).alloc (.cells #[J h0, J h1, J h2, J h3, J h4, J h5] 61))) := ((Held.start w).push rfl [.iface 157 (.agg #[])] 161).push (by simp) [J h0, J h1, J h2, J h3, J h4, J h5] 61
 obtain ⟨r, hr⟩ : ∃ r, L.all rightBudget = r := ⟨_, rfl⟩
 obtain ⟨q, hq⟩ : ∃ q, risesBy sLt (fun x : BudgetD => x.1) L = q := ⟨_, rfl⟩
 have HF : Hid ((L.all rightBudget && risesBy sLt (fun x : BudgetD => x.1) L) = (r && q)) := by rw [Hid, hr, hq]
 have HA : Hid (∀ s, (∀ w, (method 406 157 (.agg #[]) s).run prog w = .ok (311, .agg #[]) w) → ∀ u, Below w.heap.size w u → Calls prog 326 #[J h5, .func (.method s) #[.iface 157 (.agg #[])] #[]] u fun e w' => e = .returned (.bool r) ∧ Below u.heap.size u w') := fun s hm u hu => by rw [← hr]; exact allRightBudget_calls s hm _ _ _ A L u (h.out.kept RBudget.firm (Kept.below hu))
 have HB : Hid (∀ s, (∀ w, (method 406 157 (.agg #[]) s).run prog w = .ok (309, .agg #[]) w) → ∀ u, Below w.heap.size w u → Calls prog 327 #[J h5, .func (.method s) #[.iface 157 (.agg #[])] #[]] u fun e w' => e = .returned (.bool q) ∧ Below u.heap.size u w') := fun s hm u hu => by rw [← hq]; exact risingBudget_calls s hm _ _ _ A L u (h.out.kept RBudget.firm (Kept.below hu))
 clear hr hq h
 go_enter func321, ntmps321
 go_wp2_with fail
 refine (hL _).mono ?_
 rintro e w1 ⟨rfl, hb1⟩
 have HH1 : Hid (Held w [(w.heap.size + 1, [J h0, J h1, J h2, J h3, J h4, J h5]), (w.heap.size, [.iface 157 (.agg #[])])] [] w1) := HH0.out.on hb1
 have k0 := HH1.out.cell 1 (b := w.heap.size) rfl 0 rfl
 have kl0 := HH1.out.lt 1 (b := w.heap.size) rfl
 clear HH0 hb1 hL
 go_wp2_with fail
 clear k0 kl0
 refine (HA.out _ (fun _ => by kernel_rfl) _ HH1.out.below).mono ?_
 rintro e w2 ⟨rfl, hb2⟩
 have HH2 : Hid (Held w [(w.heap.size + 1, [J h0, J h1, J h2, J h3, J h4, J h5]), (w.heap.size, [.iface 157 (.agg #[])])] [] w2) := HH1.out.on hb2
 clear HH1 hb2 HA
 cases r
 ·
  go_wp2_with fail
  go_ret
  exact ⟨retb (by rw [HF.out] <;> simp), HH2.out.below⟩
 ·
  have k0 := HH2.out.cell 1 (b := w.heap.size) rfl 0 rfl
  have kl0 := HH2.out.lt 1 (b := w.heap.size) rfl
  go_wp2_with fail
  clear k0 kl0
  refine (HB.out _ (fun _ => by kernel_rfl) _ HH2.out.below).mono ?_
  rintro e w3 ⟨rfl, hb3⟩
  go_wp2_with fail
  go_ret
  exact ⟨retb (by rw [HF.out] <;> simp), on2 HH2.out.below hb3⟩
theorem objParts {A : Where} {w : World} {cs : List Value} {x : ObjectD} (h : RObject A w cs x) : ∃ cp cn cv cm cl cb, cs = [.int .i64 x.1] ++ (cp ++ (cn ++ (cv ++ (cm ++ (cl ++ cb))))) ∧ RPod A w cp x.2.1 ∧ RNode A w cn x.2.2.1 ∧ RVolume A w cv x.2.2.2.1 ∧ RClaim A w cm x.2.2.2.2.1 ∧ RClass A w cl x.2.2.2.2.2.1 ∧ RBudget A w cb x.2.2.2.2.2.2 := by
 obtain ⟨c0, d0, rfl, rfl, cp, d1, rfl, h0, cn, d2, rfl, h1, cv, d3, rfl, h2, cm, d4, rfl, h3, cl, cb, rfl, h4, h5⟩ := h
 exact ⟨cp, cn, cv, cm, cl, cb, rfl, h0, h1, h2, h3, h4, h5⟩
theorem obj0 {A : Where} {w : World} {cs : List Value} {x : ObjectD} (h : RObject A w cs x) : cs[0]? = some (.int .i64 x.1) := by
 obtain ⟨cp, cn, cv, cm, cl, cb, rfl, _⟩ := objParts h
 rfl
theorem partPod {A : Where} {w : World} {cs : List Value} {x : ObjectD} (h : RObject A w cs x) : ∃ p c q, cs = p ++ (c ++ q) ∧ p.length = 1 ∧ RPod A w c x.2.1 := by
 obtain ⟨cp, cn, cv, cm, cl, cb, rfl, h0, h1, h2, h3, h4, h5⟩ := objParts h
 exact ⟨[.int .i64 x.1], cp, cn ++ (cv ++ (cm ++ (cl ++ (cb)))), by simp [List.append_assoc], by simp only [List.length_append, List.length_cons, List.length_nil], h0⟩
theorem Pod_oright (cs : List Value) (A : Where) (x : ObjectD) (w : World) (h : RObject A w cs x) : Calls prog 159 #[.agg #[.iface 132 (.agg #[])], .agg cs.toArray] w fun e w' => e = .returned (.bool (rightPod x.2.1)) ∧ Below w.heap.size w w' := by
 have hl := RObject.firm.len h
 obtain ⟨p, c, q, rfl, hp, hr⟩ := partPod h
 exact Pod_kright p c q _ A w hr hp hl
theorem Pod_oblank (cs : List Value) (A : Where) (x : ObjectD) (w : World) (h : RObject A w cs x) : Calls prog 153 #[.agg #[.iface 132 (.agg #[])], .agg cs.toArray] w fun e w' => e = .returned (.bool (blankPod x.2.1)) ∧ Below w.heap.size w w' := by
 have hl := RObject.firm.len h
 obtain ⟨p, c, q, rfl, hp, hr⟩ := partPod h
 exact Pod_kblank p c q _ A w hr hp hl
theorem Pod_oname (cs : List Value) (A : Where) (x : ObjectD) (w : World) (h : RObject A w cs x) : Calls prog 156 #[.agg #[.iface 132 (.agg #[])], .agg cs.toArray] w fun e w' => e = .returned (.string x.2.1.1) ∧ Below w.heap.size w w' := by
 have hl := RObject.firm.len h
 obtain ⟨p, c, q, rfl, hp, hr⟩ := partPod h
 exact Pod_kname p c q _ A w hr hp hl
theorem partNode {A : Where} {w : World} {cs : List Value} {x : ObjectD} (h : RObject A w cs x) : ∃ p c q, cs = p ++ (c ++ q) ∧ p.length = 17 ∧ RNode A w c x.2.2.1 := by
 obtain ⟨cp, cn, cv, cm, cl, cb, rfl, h0, h1, h2, h3, h4, h5⟩ := objParts h
 exact ⟨[.int .i64 x.1] ++ cp, cn, cv ++ (cm ++ (cl ++ (cb))), by simp [List.append_assoc], by simp only [List.length_append, List.length_cons, List.length_nil, RPod.firm.len h0], h1⟩
theorem Node_oright (cs : List Value) (A : Where) (x : ObjectD) (w : World) (h : RObject A w cs x) : Calls prog 196 #[.agg #[.iface 137 (.agg #[])], .agg cs.toArray] w fun e w' => e = .returned (.bool (rightNode x.2.2.1)) ∧ Below w.heap.size w w' := by
 have hl := RObject.firm.len h
 obtain ⟨p, c, q, rfl, hp, hr⟩ := partNode h
 exact Node_kright p c q _ A w hr hp hl
theorem Node_oblank (cs : List Value) (A : Where) (x : ObjectD) (w : World) (h : RObject A w cs x) : Calls prog 190 #[.agg #[.iface 137 (.agg #[])], .agg cs.toArray] w fun e w' => e = .returned (.bool (blankNode x.2.2.1)) ∧ Below w.heap.size w w' := by
 have hl := RObject.firm.len h
 obtain ⟨p, c, q, rfl, hp, hr⟩ := partNode h
 exact Node_kblank p c q _ A w hr hp hl
theorem Node_oname (cs : List Value) (A : Where) (x : ObjectD) (w : World) (h : RObject A w cs x) : Calls prog 193 #[.agg #[.iface 137 (.agg #[])], .agg cs.toArray] w fun e w' => e = .returned (.string x.2.2.1.1) ∧ Below w.heap.size w w' := by
 have hl := RObject.firm.len h
 obtain ⟨p, c, q, rfl, hp, hr⟩ := partNode h
 exact Node_kname p c q _ A w hr hp hl
theorem partVolume {A : Where} {w : World} {cs : List Value} {x : ObjectD} (h : RObject A w cs x) : ∃ p c q, cs = p ++ (c ++ q) ∧ p.length = 26 ∧ RVolume A w c x.2.2.2.1 := by
 obtain ⟨cp, cn, cv, cm, cl, cb, rfl, h0, h1, h2, h3, h4, h5⟩ := objParts h
 exact ⟨[.int .i64 x.1] ++ cp ++ cn, cv, cm ++ (cl ++ (cb)), by simp [List.append_assoc], by simp only [List.length_append, List.length_cons, List.length_nil, RPod.firm.len h0, RNode.firm.len h1], h2⟩
theorem Volume_oright (cs : List Value) (A : Where) (x : ObjectD) (w : World) (h : RObject A w cs x) : Calls prog 227 #[.agg #[.iface 142 (.agg #[])], .agg cs.toArray] w fun e w' => e = .returned (.bool (rightVolume x.2.2.2.1)) ∧ Below w.heap.size w w' := by
 have hl := RObject.firm.len h
 obtain ⟨p, c, q, rfl, hp, hr⟩ := partVolume h
 exact Volume_kright p c q _ A w hr hp hl
theorem Volume_oblank (cs : List Value) (A : Where) (x : ObjectD) (w : World) (h : RObject A w cs x) : Calls prog 221 #[.agg #[.iface 142 (.agg #[])], .agg cs.toArray] w fun e w' => e = .returned (.bool (blankVolume x.2.2.2.1)) ∧ Below w.heap.size w w' := by
 have hl := RObject.firm.len h
 obtain ⟨p, c, q, rfl, hp, hr⟩ := partVolume h
 exact Volume_kblank p c q _ A w hr hp hl
theorem Volume_oname (cs : List Value) (A : Where) (x : ObjectD) (w : World) (h : RObject A w cs x) : Calls prog 224 #[.agg #[.iface 142 (.agg #[])], .agg cs.toArray] w fun e w' => e = .returned (.string x.2.2.2.1.1) ∧ Below w.heap.size w w' := by
 have hl := RObject.firm.len h
 obtain ⟨p, c, q, rfl, hp, hr⟩ := partVolume h
 exact Volume_kname p c q _ A w hr hp hl
theorem partClaim {A : Where} {w : World} {cs : List Value} {x : ObjectD} (h : RObject A w cs x) : ∃ p c q, cs = p ++ (c ++ q) ∧ p.length = 31 ∧ RClaim A w c x.2.2.2.2.1 := by
 obtain ⟨cp, cn, cv, cm, cl, cb, rfl, h0, h1, h2, h3, h4, h5⟩ := objParts h
 exact ⟨[.int .i64 x.1] ++ cp ++ cn ++ cv, cm, cl ++ (cb), by simp [List.append_assoc], by simp only [List.length_append, List.length_cons, List.length_nil, RPod.firm.len h0, RNode.firm.len h1, RVolume.firm.len h2], h3⟩
theorem Claim_oright (cs : List Value) (A : Where) (x : ObjectD) (w : World) (h : RObject A w cs x) : Calls prog 258 #[.agg #[.iface 147 (.agg #[])], .agg cs.toArray] w fun e w' => e = .returned (.bool (rightClaim x.2.2.2.2.1)) ∧ Below w.heap.size w w' := by
 have hl := RObject.firm.len h
 obtain ⟨p, c, q, rfl, hp, hr⟩ := partClaim h
 exact Claim_kright p c q _ A w hr hp hl
theorem Claim_oblank (cs : List Value) (A : Where) (x : ObjectD) (w : World) (h : RObject A w cs x) : Calls prog 252 #[.agg #[.iface 147 (.agg #[])], .agg cs.toArray] w fun e w' => e = .returned (.bool (blankClaim x.2.2.2.2.1)) ∧ Below w.heap.size w w' := by
 have hl := RObject.firm.len h
 obtain ⟨p, c, q, rfl, hp, hr⟩ := partClaim h
 exact Claim_kblank p c q _ A w hr hp hl
theorem Claim_oname (cs : List Value) (A : Where) (x : ObjectD) (w : World) (h : RObject A w cs x) : Calls prog 255 #[.agg #[.iface 147 (.agg #[])], .agg cs.toArray] w fun e w' => e = .returned (.string x.2.2.2.2.1.1) ∧ Below w.heap.size w w' := by
 have hl := RObject.firm.len h
 obtain ⟨p, c, q, rfl, hp, hr⟩ := partClaim h
 exact Claim_kname p c q _ A w hr hp hl
theorem partClass {A : Where} {w : World} {cs : List Value} {x : ObjectD} (h : RObject A w cs x) : ∃ p c q, cs = p ++ (c ++ q) ∧ p.length = 35 ∧ RClass A w c x.2.2.2.2.2.1 := by
 obtain ⟨cp, cn, cv, cm, cl, cb, rfl, h0, h1, h2, h3, h4, h5⟩ := objParts h
 exact ⟨[.int .i64 x.1] ++ cp ++ cn ++ cv ++ cm, cl, cb, by simp [List.append_assoc], by simp only [List.length_append, List.length_cons, List.length_nil, RPod.firm.len h0, RNode.firm.len h1, RVolume.firm.len h2, RClaim.firm.len h3], h4⟩
theorem Class_oright (cs : List Value) (A : Where) (x : ObjectD) (w : World) (h : RObject A w cs x) : Calls prog 289 #[.agg #[.iface 152 (.agg #[])], .agg cs.toArray] w fun e w' => e = .returned (.bool (rightClass x.2.2.2.2.2.1)) ∧ Below w.heap.size w w' := by
 have hl := RObject.firm.len h
 obtain ⟨p, c, q, rfl, hp, hr⟩ := partClass h
 exact Class_kright p c q _ A w hr hp hl
theorem Class_oblank (cs : List Value) (A : Where) (x : ObjectD) (w : World) (h : RObject A w cs x) : Calls prog 283 #[.agg #[.iface 152 (.agg #[])], .agg cs.toArray] w fun e w' => e = .returned (.bool (blankClass x.2.2.2.2.2.1)) ∧ Below w.heap.size w w' := by
 have hl := RObject.firm.len h
 obtain ⟨p, c, q, rfl, hp, hr⟩ := partClass h
 exact Class_kblank p c q _ A w hr hp hl
theorem Class_oname (cs : List Value) (A : Where) (x : ObjectD) (w : World) (h : RObject A w cs x) : Calls prog 286 #[.agg #[.iface 152 (.agg #[])], .agg cs.toArray] w fun e w' => e = .returned (.string x.2.2.2.2.2.1.1) ∧ Below w.heap.size w w' := by
 have hl := RObject.firm.len h
 obtain ⟨p, c, q, rfl, hp, hr⟩ := partClass h
 exact Class_kname p c q _ A w hr hp hl
theorem partBudget {A : Where} {w : World} {cs : List Value} {x : ObjectD} (h : RObject A w cs x) : ∃ p c q, cs = p ++ (c ++ q) ∧ p.length = 37 ∧ RBudget A w c x.2.2.2.2.2.2 := by
 obtain ⟨cp, cn, cv, cm, cl, cb, rfl, h0, h1, h2, h3, h4, h5⟩ := objParts h
 exact ⟨[.int .i64 x.1] ++ cp ++ cn ++ cv ++ cm ++ cl, cb, [], by simp [List.append_assoc], by simp only [List.length_append, List.length_cons, List.length_nil, RPod.firm.len h0, RNode.firm.len h1, RVolume.firm.len h2, RClaim.firm.len h3, RClass.firm.len h4], h5⟩
theorem Budget_oright (cs : List Value) (A : Where) (x : ObjectD) (w : World) (h : RObject A w cs x) : Calls prog 320 #[.agg #[.iface 157 (.agg #[])], .agg cs.toArray] w fun e w' => e = .returned (.bool (rightBudget x.2.2.2.2.2.2)) ∧ Below w.heap.size w w' := by
 have hl := RObject.firm.len h
 obtain ⟨p, c, q, rfl, hp, hr⟩ := partBudget h
 exact Budget_kright p c q _ A w hr hp hl
theorem Budget_oblank (cs : List Value) (A : Where) (x : ObjectD) (w : World) (h : RObject A w cs x) : Calls prog 314 #[.agg #[.iface 157 (.agg #[])], .agg cs.toArray] w fun e w' => e = .returned (.bool (blankBudget x.2.2.2.2.2.2)) ∧ Below w.heap.size w w' := by
 have hl := RObject.firm.len h
 obtain ⟨p, c, q, rfl, hp, hr⟩ := partBudget h
 exact Budget_kblank p c q _ A w hr hp hl
theorem Budget_oname (cs : List Value) (A : Where) (x : ObjectD) (w : World) (h : RObject A w cs x) : Calls prog 317 #[.agg #[.iface 157 (.agg #[])], .agg cs.toArray] w fun e w' => e = .returned (.string x.2.2.2.2.2.2.1) ∧ Below w.heap.size w w' := by
 have hl := RObject.firm.len h
 obtain ⟨p, c, q, rfl, hp, hr⟩ := partBudget h
 exact Budget_kname p c q _ A w hr hp hl
def okO (x : ObjectD) (j : Nat) : Bool := match j with
 | 0 => (x.1 == 1) || blankPod x.2.1
 | 1 => (x.1 == 2) || blankNode x.2.2.1
 | 2 => (x.1 == 3) || blankVolume x.2.2.2.1
 | 3 => (x.1 == 4) || blankClaim x.2.2.2.2.1
 | 4 => (x.1 == 5) || blankClass x.2.2.2.2.2.1
 | 5 => (x.1 == 6) || blankBudget x.2.2.2.2.2.2
 | _ => true
def othersB (x : ObjectD) : Bool := allTo 6 (okO x)
theorem kinds_calls (w : World) : Calls prog 46 #[] w fun e w' => e = .returned (.slice (some ⟨w.heap.size, 0, none⟩) 6 6) ∧ w' = w.alloc (.cells #[.iface 136 (.agg #[.iface 132 (.agg #[])]), .iface 141 (.agg #[.iface 137 (.agg #[])]), .iface 146 (.agg #[.iface 142 (.agg #[])]), .iface 151 (.agg #[.iface 147 (.agg #[])]), .iface 156 (.agg #[.iface 152 (.agg #[])]), .iface 161 (.agg #[.iface 157 (.agg #[])])] 84) := by
 go_enter func46, ntmps46
 go_wp2_with fail
 go_ret
 exact ⟨rfl, rfl⟩
theorem othersBlank_calls (cs : List Value) (A : Where) (x : ObjectD) (w : World) (h : Hid (RObject A w cs x)) : Calls prog 34 #[.agg cs.toArray] w fun e w' => e = .returned (.bool (othersB x)) ∧ Below w.heap.size w w' := by
 have hi : (prog.info? 46).map (·.size) = some cs.length := by rw [RObject.firm.len h.out]; exact infoObj
 have H0 : Hid (cs[0]? = some (.int .i64 x.1)) := obj0 h.out
 obtain ⟨U0, hU0⟩ : ∃ U0, U0 = w.alloc (.cells cs.toArray 46) := ⟨_, rfl⟩
 have HS0 : Hid (U0.heap.size = w.heap.size + 1) := by rw [Hid, hU0]; simp
 have HH0 : Hid (Held w [(w.heap.size, cs)] [] U0) := by rw [Hid, hU0]; exact (Held.start w).push rfl cs _
 go_enter func34, ntmps34
 go_wp2_with fail
 rw [← hU0]
 clear hU0
 refine (kinds_calls _).mono ?_
 rintro e u1 ⟨rfl, hu1⟩
 have HH1 : Hid (Held w [(w.heap.size + 1, [.iface 136 (.agg #[.iface 132 (.agg #[])]), .iface 141 (.agg #[.iface 137 (.agg #[])]), .iface 146 (.agg #[.iface 142 (.agg #[])]), .iface 151 (.agg #[.iface 147 (.agg #[])]), .iface 156 (.agg #[.iface 152 (.agg #[])]), .iface 161 (.agg #[.iface 157 (.agg #[])])]), (w.heap.size, cs)] [] u1) := by rw [Hid, hu1]; exact HH0.out.push HS0.out [.iface 136 (.agg #[.iface 132 (.agg #[])]), .iface 141 (.agg #[.iface 137 (.agg #[])]), .iface 146 (.agg #[.iface 142 (.agg #[])]), .iface 151 (.agg #[.iface 147 (.agg #[])]), .iface 156 (.agg #[.iface 152 (.agg #[])]), .iface 161 (.agg #[.iface 157 (.agg #[])])] _
 rw [HS0.out]
 clear hu1 HH0 HS0
 go_wp2_with fail
 go_loopw [7] (fun i wr => ∃ k : Nat, k ≤ 6 ∧ i = .int .i64 k ∧ Hid (Held w [(w.heap.size + 1, [.iface 136 (.agg #[.iface 132 (.agg #[])]), .iface 141 (.agg #[.iface 137 (.agg #[])]), .iface 146 (.agg #[.iface 142 (.agg #[])]), .iface 151 (.agg #[.iface 147 (.agg #[])]), .iface 156 (.agg #[.iface 152 (.agg #[])]), .iface 161 (.agg #[.iface 157 (.agg #[])])]), (w.heap.size, cs)] [] wr) ∧ Hid (∀ j, j < k → okO x j = true)) (fun i _ => 6 - (intOf i).toNat)
 case atStart => exact ⟨0, Nat.zero_le _, rfl, HH1, fun j hj => absurd hj (Nat.not_lt_zero _)⟩
 case round =>
  obtain ⟨k, hk, rfl, hH, hall⟩ := hrel
  clear HH1
  have HR : Hid (wr.rangeAt w.heap.size 0 cs) := hH.out.get 1 rfl
  have hk0 : wr.cell? ⟨w.heap.size, 0, none⟩ = some (.int .i64 x.1) := by have := hH.out.cell 1 (b := w.heap.size) rfl 0 H0.out; exact this
  have hkl := hH.out.lt 1 (b := w.heap.size) rfl
  have HO : Hid (RObject A wr cs x) := RObject.firm.kept h.out (Kept.below hH.out.below)
  have hgo : ∀ m, m = k → okO x m = true → Hid (∀ j, j < k + 1 → okO x j = true) := fun m hm hb j hj => by
   rcases Nat.lt_succ_iff_lt_or_eq.1 hj with h' | h'
   ·
    exact hall.out j h'
   ·
    rw [h', ← hm]; exact hb
  have HGO : Hid (∀ m, m = k → okO x m = true → Hid (∀ j, j < k + 1 → okO x j = true)) := hgo
  have HBAD : Hid (k < 6 → okO x k = false → othersB x = false) := fun h1 h2 => allTo_false h1 h2
  have HEND : Hid (k = 6 → othersB x = true) := fun h1 => allTo_true (fun j hj => hall.out j (by omega))
  clear hall hgo
  have hcase : k = 0 ∨ k = 1 ∨ k = 2 ∨ k = 3 ∨ k = 4 ∨ k = 5 ∨ k = 6 := by omega
  clear hk
  rcases hcase with rfl | rfl | rfl | rfl | rfl | rfl | rfl
  ·
   have hc0 := hH.out.cell 0 (b := w.heap.size + 1) rfl 0 rfl
   have hcl := hH.out.lt 0 (b := w.heap.size + 1) rfl
   by_cases he : x.1 = 1
   ·
    have HG : Hid (∀ j, j < 0 + 1 → okO x j = true) := HGO.out 0 rfl (by simp [okO, he])
    have ht : ((1 : Int) != x.1) = false := by rw [he]; rfl
    clear HGO HBAD HEND he
    go_wp2_with fail
    go_roundw
    case rel => exact ⟨1, by omega, by go_num, hH, HG⟩
    case measure => simp [intOf]
   ·
    have ht : ((1 : Int) != x.1) = true := by rw [bne_iff_ne]; exact fun e => he e.symm
    have HC := Pod_oblank cs A x wr HO.out
    have HV : Hid (okO x 0 = blankPod x.2.1) := by simp [Hid, okO, he]
    generalize blankPod x.2.1 = r at HC HV
    clear he
    go_wp2_with (first | (refine BigFrame.wpList_want rfl (fun _ hKK => wp_load_mid 46 _ rfl w.heap.size 0 rfl cs _ HR.out underlying46 rfl hi (hKK _ _ ?_))) | fail)
    refine HC.mono ?_
    rintro e wr2 ⟨rfl, hb2⟩
    have HH2 : Hid (Held w [(w.heap.size + 1, [.iface 136 (.agg #[.iface 132 (.agg #[])]), .iface 141 (.agg #[.iface 137 (.agg #[])]), .iface 146 (.agg #[.iface 142 (.agg #[])]), .iface 151 (.agg #[.iface 147 (.agg #[])]), .iface 156 (.agg #[.iface 152 (.agg #[])]), .iface 161 (.agg #[.iface 157 (.agg #[])])]), (w.heap.size, cs)] [] wr2) := hH.out.on hb2
    cases r
    ·
     have HF : Hid (othersB x = false) := HBAD.out (by omega) HV.out
     clear HGO HBAD HEND hc0 hcl hk0 hkl
     go_wp2_with fail
     go_ret
     exact ⟨retb HF.out.symm, HH2.out.below⟩
    ·
     have HG : Hid (∀ j, j < 0 + 1 → okO x j = true) := HGO.out 0 rfl HV.out
     clear HGO HBAD HEND hc0 hcl hk0 hkl
     go_wp2_with fail
     go_roundw
     case rel => exact ⟨1, by omega, by go_num, HH2, HG⟩
     case measure => simp [intOf]
  ·
   have hc0 := hH.out.cell 0 (b := w.heap.size + 1) rfl 1 rfl
   have hcl := hH.out.lt 0 (b := w.heap.size + 1) rfl
   by_cases he : x.1 = 2
   ·
    have HG : Hid (∀ j, j < 1 + 1 → okO x j = true) := HGO.out 1 rfl (by simp [okO, he])
    have ht : ((2 : Int) != x.1) = false := by rw [he]; rfl
    clear HGO HBAD HEND he
    go_wp2_with fail
    go_roundw
    case rel => exact ⟨2, by omega, by go_num, hH, HG⟩
    case measure => simp [intOf]
   ·
    have ht : ((2 : Int) != x.1) = true := by rw [bne_iff_ne]; exact fun e => he e.symm
    have HC := Node_oblank cs A x wr HO.out
    have HV : Hid (okO x 1 = blankNode x.2.2.1) := by simp [Hid, okO, he]
    generalize blankNode x.2.2.1 = r at HC HV
    clear he
    go_wp2_with (first | (refine BigFrame.wpList_want rfl (fun _ hKK => wp_load_mid 46 _ rfl w.heap.size 0 rfl cs _ HR.out underlying46 rfl hi (hKK _ _ ?_))) | fail)
    refine HC.mono ?_
    rintro e wr2 ⟨rfl, hb2⟩
    have HH2 : Hid (Held w [(w.heap.size + 1, [.iface 136 (.agg #[.iface 132 (.agg #[])]), .iface 141 (.agg #[.iface 137 (.agg #[])]), .iface 146 (.agg #[.iface 142 (.agg #[])]), .iface 151 (.agg #[.iface 147 (.agg #[])]), .iface 156 (.agg #[.iface 152 (.agg #[])]), .iface 161 (.agg #[.iface 157 (.agg #[])])]), (w.heap.size, cs)] [] wr2) := hH.out.on hb2
    cases r
    ·
     have HF : Hid (othersB x = false) := HBAD.out (by omega) HV.out
     clear HGO HBAD HEND hc0 hcl hk0 hkl
     go_wp2_with fail
     go_ret
     exact ⟨retb HF.out.symm, HH2.out.below⟩
    ·
     have HG : Hid (∀ j, j < 1 + 1 → okO x j = true) := HGO.out 1 rfl HV.out
     clear HGO HBAD HEND hc0 hcl hk0 hkl
     go_wp2_with fail
     go_roundw
     case rel => exact ⟨2, by omega, by go_num, HH2, HG⟩
     case measure => simp [intOf]
  ·
   have hc0 := hH.out.cell 0 (b := w.heap.size + 1) rfl 2 rfl
   have hcl := hH.out.lt 0 (b := w.heap.size + 1) rfl
   by_cases he : x.1 = 3
   ·
    have HG : Hid (∀ j, j < 2 + 1 → okO x j = true) := HGO.out 2 rfl (by simp [okO, he])
    have ht : ((3 : Int) != x.1) = false := by rw [he]; rfl
    clear HGO HBAD HEND he
    go_wp2_with fail
    go_roundw
    case rel => exact ⟨3, by omega, by go_num, hH, HG⟩
    case measure => simp [intOf]
   ·
    have ht : ((3 : Int) != x.1) = true := by rw [bne_iff_ne]; exact fun e => he e.symm
    have HC := Volume_oblank cs A x wr HO.out
    have HV : Hid (okO x 2 = blankVolume x.2.2.2.1) := by simp [Hid, okO, he]
    generalize blankVolume x.2.2.2.1 = r at HC HV
    clear he
    go_wp2_with (first | (refine BigFrame.wpList_want rfl (fun _ hKK => wp_load_mid 46 _ rfl w.heap.size 0 rfl cs _ HR.out underlying46 rfl hi (hKK _ _ ?_))) | fail)
    refine HC.mono ?_
    rintro e wr2 ⟨rfl, hb2⟩
    have HH2 : Hid (Held w [(w.heap.size + 1, [.iface 136 (.agg #[.iface 132 (.agg #[])]), .iface 141 (.agg #[.iface 137 (.agg #[])]), .iface 146 (.agg #[.iface 142 (.agg #[])]), .iface 151 (.agg #[.iface 147 (.agg #[])]), .iface 156 (.agg #[.iface 152 (.agg #[])]), .iface 161 (.agg #[.iface 157 (.agg #[])])]), (w.heap.size, cs)] [] wr2) := hH.out.on hb2
    cases r
    ·
     have HF : Hid (othersB x = false) := HBAD.out (by omega) HV.out
     clear HGO HBAD HEND hc0 hcl hk0 hkl
     go_wp2_with fail
     go_ret
     exact ⟨retb HF.out.symm, HH2.out.below⟩
    ·
     have HG : Hid (∀ j, j < 2 + 1 → okO x j = true) := HGO.out 2 rfl HV.out
     clear HGO HBAD HEND hc0 hcl hk0 hkl
     go_wp2_with fail
     go_roundw
     case rel => exact ⟨3, by omega, by go_num, HH2, HG⟩
     case measure => simp [intOf]
  ·
   have hc0 := hH.out.cell 0 (b := w.heap.size + 1) rfl 3 rfl
   have hcl := hH.out.lt 0 (b := w.heap.size + 1) rfl
   by_cases he : x.1 = 4
   ·
    have HG : Hid (∀ j, j < 3 + 1 → okO x j = true) := HGO.out 3 rfl (by simp [okO, he])
    have ht : ((4 : Int) != x.1) = false := by rw [he]; rfl
    clear HGO HBAD HEND he
    go_wp2_with fail
    go_roundw
    case rel => exact ⟨4, by omega, by go_num, hH, HG⟩
    case measure => simp [intOf]
   ·
    have ht : ((4 : Int) != x.1) = true := by rw [bne_iff_ne]; exact fun e => he e.symm
    have HC := Claim_oblank cs A x wr HO.out
    have HV : Hid (okO x 3 = blankClaim x.2.2.2.2.1) := by simp [Hid, okO, he]
    generalize blankClaim x.2.2.2.2.1 = r at HC HV
    clear he
    go_wp2_with (first | (refine BigFrame.wpList_want rfl (fun _ hKK => wp_load_mid 46 _ rfl w.heap.size 0 rfl cs _ HR.out underlying46 rfl hi (hKK _ _ ?_))) | fail)
    refine HC.mono ?_
    rintro e wr2 ⟨rfl, hb2⟩
    have HH2 : Hid (Held w [(w.heap.size + 1, [.iface 136 (.agg #[.iface 132 (.agg #[])]), .iface 141 (.agg #[.iface 137 (.agg #[])]), .iface 146 (.agg #[.iface 142 (.agg #[])]), .iface 151 (.agg #[.iface 147 (.agg #[])]), .iface 156 (.agg #[.iface 152 (.agg #[])]), .iface 161 (.agg #[.iface 157 (.agg #[])])]), (w.heap.size, cs)] [] wr2) := hH.out.on hb2
    cases r
    ·
     have HF : Hid (othersB x = false) := HBAD.out (by omega) HV.out
     clear HGO HBAD HEND hc0 hcl hk0 hkl
     go_wp2_with fail
     go_ret
     exact ⟨retb HF.out.symm, HH2.out.below⟩
    ·
     have HG : Hid (∀ j, j < 3 + 1 → okO x j = true) := HGO.out 3 rfl HV.out
     clear HGO HBAD HEND hc0 hcl hk0 hkl
     go_wp2_with fail
     go_roundw
     case rel => exact ⟨4, by omega, by go_num, HH2, HG⟩
     case measure => simp [intOf]
  ·
   have hc0 := hH.out.cell 0 (b := w.heap.size + 1) rfl 4 rfl
   have hcl := hH.out.lt 0 (b := w.heap.size + 1) rfl
   by_cases he : x.1 = 5
   ·
    have HG : Hid (∀ j, j < 4 + 1 → okO x j = true) := HGO.out 4 rfl (by simp [okO, he])
    have ht : ((5 : Int) != x.1) = false := by rw [he]; rfl
    clear HGO HBAD HEND he
    go_wp2_with fail
    go_roundw
    case rel => exact ⟨5, by omega, by go_num, hH, HG⟩
    case measure => simp [intOf]
   ·
    have ht : ((5 : Int) != x.1) = true := by rw [bne_iff_ne]; exact fun e => he e.symm
    have HC := Class_oblank cs A x wr HO.out
    have HV : Hid (okO x 4 = blankClass x.2.2.2.2.2.1) := by simp [Hid, okO, he]
    generalize blankClass x.2.2.2.2.2.1 = r at HC HV
    clear he
    go_wp2_with (first | (refine BigFrame.wpList_want rfl (fun _ hKK => wp_load_mid 46 _ rfl w.heap.size 0 rfl cs _ HR.out underlying46 rfl hi (hKK _ _ ?_))) | fail)
    refine HC.mono ?_
    rintro e wr2 ⟨rfl, hb2⟩
    have HH2 : Hid (Held w [(w.heap.size + 1, [.iface 136 (.agg #[.iface 132 (.agg #[])]), .iface 141 (.agg #[.iface 137 (.agg #[])]), .iface 146 (.agg #[.iface 142 (.agg #[])]), .iface 151 (.agg #[.iface 147 (.agg #[])]), .iface 156 (.agg #[.iface 152 (.agg #[])]), .iface 161 (.agg #[.iface 157 (.agg #[])])]), (w.heap.size, cs)] [] wr2) := hH.out.on hb2
    cases r
    ·
     have HF : Hid (othersB x = false) := HBAD.out (by omega) HV.out
     clear HGO HBAD HEND hc0 hcl hk0 hkl
     go_wp2_with fail
     go_ret
     exact ⟨retb HF.out.symm, HH2.out.below⟩
    ·
     have HG : Hid (∀ j, j < 4 + 1 → okO x j = true) := HGO.out 4 rfl HV.out
     clear HGO HBAD HEND hc0 hcl hk0 hkl
     go_wp2_with fail
     go_roundw
     case rel => exact ⟨5, by omega, by go_num, HH2, HG⟩
     case measure => simp [intOf]
  ·
   have hc0 := hH.out.cell 0 (b := w.heap.size + 1) rfl 5 rfl
   have hcl := hH.out.lt 0 (b := w.heap.size + 1) rfl
   by_cases he : x.1 = 6
   ·
    have HG : Hid (∀ j, j < 5 + 1 → okO x j = true) := HGO.out 5 rfl (by simp [okO, he])
    have ht : ((6 : Int) != x.1) = false := by rw [he]; rfl
    clear HGO HBAD HEND he
    go_wp2_with fail
    go_roundw
    case rel => exact ⟨6, by omega, by go_num, hH, HG⟩
    case measure => simp [intOf]
   ·
    have ht : ((6 : Int) != x.1) = true := by rw [bne_iff_ne]; exact fun e => he e.symm
    have HC := Budget_oblank cs A x wr HO.out
    have HV : Hid (okO x 5 = blankBudget x.2.2.2.2.2.2) := by simp [Hid, okO, he]
    generalize blankBudget x.2.2.2.2.2.2 = r at HC HV
    clear he
    go_wp2_with (first | (refine BigFrame.wpList_want rfl (fun _ hKK => wp_load_mid 46 _ rfl w.heap.size 0 rfl cs _ HR.out underlying46 rfl hi (hKK _ _ ?_))) | fail)
    refine HC.mono ?_
    rintro e wr2 ⟨rfl, hb2⟩
    have HH2 : Hid (Held w [(w.heap.size + 1, [.iface 136 (.agg #[.iface 132 (.agg #[])]), .iface 141 (.agg #[.iface 137 (.agg #[])]), .iface 146 (.agg #[.iface 142 (.agg #[])]), .iface 151 (.agg #[.iface 147 (.agg #[])]), .iface 156 (.agg #[.iface 152 (.agg #[])]), .iface 161 (.agg #[.iface 157 (.agg #[])])]), (w.heap.size, cs)] [] wr2) := hH.out.on hb2
    cases r
    ·
     have HF : Hid (othersB x = false) := HBAD.out (by omega) HV.out
     clear HGO HBAD HEND hc0 hcl hk0 hkl
     go_wp2_with fail
     go_ret
     exact ⟨retb HF.out.symm, HH2.out.below⟩
    ·
     have HG : Hid (∀ j, j < 5 + 1 → okO x j = true) := HGO.out 5 rfl HV.out
     clear HGO HBAD HEND hc0 hcl hk0 hkl
     go_wp2_with fail
     go_roundw
     case rel => exact ⟨6, by omega, by go_num, HH2, HG⟩
     case measure => simp [intOf]
  ·
   have HF : Hid (othersB x = true) := HEND.out rfl
   clear HGO HBAD HEND
   go_wp2_with fail
   go_ret
   exact ⟨retb HF.out.symm, hH.out.below⟩
end Go.Proofs.YtikncmcceeacmaaGreat

