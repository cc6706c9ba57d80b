/- kept.remove at Class, and its like. No condition beyond what each says. -/
import Derived.Laws.Cover1
import Derived.Great.BuildSlice
import Derived.Test.YtfbnnfpnjjjfcaaGreatS37
namespace Go.Proofs.YtfbnnfpnjjjfcaaGreat
set_option maxHeartbeats 16000000
set_option maxRecDepth 100000
open Tryz Go.RowKit
set_option linter.unusedSimpArgs false
theorem risingPod_calls (s : String) (hm : ∀ w, (method 406 132 (.agg #[]) s).run prog w = .ok (95, .agg #[]) w) (a : Option Addr) (n cap : Nat) (A : Where) (L : List PodD) (w : World) (hL : Hid (SlAt RPod 16 296 A w a n cap L)) : Calls prog 166 #[.slice a n cap, .func (.method s) #[.iface 132 (.agg #[])] #[]] w fun e w' => e = .returned (.bool (risesBy sLt (fun x => x.1) L)) ∧ Below w.heap.size w w' := by
 have hlen := hL.out.len (by decide)
 have HN : Hid (L.length = n) := hL.out.1
 go_enter func166, ntmps166
 go_wp2
 go_loopw [5] (fun i wr => ∃ k : Nat, 1 ≤ k ∧ (k ≤ n ∨ k = 1) ∧ i = .int .i64 k ∧ Below w.heap.size w wr ∧ Hid (∀ j, j < k → (decide (j = 0) || sLt ((fun x => x.1) (L.getD (j - 1) default)) ((fun x => x.1) (L.getD j default))) = true)) (fun i _ => n - (intOf i).toNat)
 case atStart => exact ⟨1, Nat.le_refl _, .inr rfl, rfl, Below.refl _ _, fun j hj => (by have h0 : j = 0 := (by omega); simp [h0])⟩
 case round =>
  obtain ⟨k, hk1, hk, rfl, hbel, hall⟩ := hrel
  by_cases hlt : k < n
  ·
   obtain ⟨m, hm⟩ : ∃ m, Hid (k = m + 1) := ⟨k - 1, by unfold Hid; omega⟩
   have hme := hm.out
   have hmw : IntKind.i64.wrap ((k : Int) - 1) = (m : Int) := by rw [hme]; simp only [Int.natCast_add, Int.cast_ofNat_Int, Int.add_sub_cancel]; simp [IntKind.wrap, IntKind.bits, IntKind.signed]; omega
   have hml : m < n := by omega
   have hkm : k - 1 = m := by omega
   obtain ⟨B, off, ea, hB, _, ds, hrd, hvd⟩ := (hL.out.on RPod.firm hbel).get hlt
   obtain ⟨B', off', ea', _, _, cs, hrc, hvc⟩ := (hL.out.on RPod.firm hbel).get hml
   rw [ea] at ea'
   obtain ⟨rfl, rfl⟩ : B = B' ∧ off = off' := by simpa using ea'
   subst ea
   have HBW : Hid (B < wr.heap.size) := hB
   have hltz : (k : Int) < (n : Int) := by omega
   have hmlz : (m : Int) < (n : Int) := by omega
   have HC : Hid (wr.rangeAt B (off + m * 16) cs) := hvc
   have HD : Hid (wr.rangeAt B (off + k * 16) ds) := hvd
   have hci : (prog.info? 33).map (·.size) = some cs.length := by rw [RPod.firm.len hrc]; exact itPod
   have hdi : (prog.info? 33).map (·.size) = some ds.length := by rw [RPod.firm.len hrd]; exact itPod
   have HRc : Hid (RPod A wr cs (L.getD m default)) := hrc
   have HRd : Hid (RPod A wr ds (L.getD k default)) := hrd
   have hbad : Hid (sLt ((fun x => x.1) (L.getD m default)) ((fun x => x.1) (L.getD k default)) = false → risesBy sLt (fun x => x.1) L = false) := fun h => allTo_false (k := k) (by rw [HN.out]; exact hlt) (by rw [hkm, h]; simp; omega)
   have hgo : Hid (sLt ((fun x => x.1) (L.getD m default)) ((fun x => x.1) (L.getD k default)) = true → ∀ j, j < k + 1 → (decide (j = 0) || sLt ((fun x => x.1) (L.getD (j - 1) default)) ((fun x => x.1) (L.getD j default))) = true) := fun h j hj => by
    rcases Nat.lt_succ_iff_lt_or_eq.1 hj with h' | rfl
    ·
     exact hall.out j h'
    ·
     rw [hkm, h]; simp
   clear hall hvc hvd hrc hrd hme hkm ea'
   generalize L.getD m default = x at hbad hgo HRc
   generalize L.getD k default = y at hbad hgo HRd
   cases hc : sLt ((fun x => x.1) x) ((fun x => x.1) y)
   ·
    have HF : Hid (risesBy sLt (fun x => x.1) L = false) := hbad.out hc
    simp only [sLt] at hc
    clear hbad hgo
    go_wp2_with fail
    refine t0 (fun u => Below wr.heap.size wr u ∧ u.rangeAt B (off + m * 16) cs ∧ u.rangeAt B (off + k * 16) ds) (⟨(Below.refl _ _).drew, HC.out, HD.out⟩) (fun hH => ?_)
    refine tp 0 ?_; try go_frame
    refine tp 1 ?_; try go_frame
    refine tp 2 ?_; try go_frame
    refine tp 3 ?_; try go_frame
    refine tp 4 ?_; try go_frame
    refine tq 5 (.agg cs.toArray) (yieldsIf_load_mid (by rfl) 33 _ rfl B (off + m * 16) rfl cs _ (fun u hu => hu.2.1) underlying33 rfl hci) ?_ (hi := rfl)
    try go_frame
    refine tp 7 ?_; try go_frame
    refine tp 8 ?_; try go_frame
    refine tp 9 ?_; try go_frame
    refine tp 10 ?_; try go_frame
    refine tq 11 (.agg ds.toArray) (yieldsIf_load_mid (by rfl) 33 _ rfl B (off + k * 16) rfl ds _ (fun u hu => hu.2.2) underlying33 rfl hdi) ?_ (hi := rfl)
    try go_frame
    refine tr 6 (fun K hK => ?_)
    refine want_yes (by rfl) (call_enter (f := 95) (args := #[.agg #[], .agg cs.toArray]) (by go_simp) (Pod_named cs A x _ (RPod.firm.kept HRc.out (Kept.below hH.1))) (fun e u1 he => ?_))
    obtain ⟨rfl, hb1⟩ := he
    refine ⟨_, rfl, hK.out _ _ (⟨on2 hH.1 hb1, range_on hH.2.1 hb1 (Nat.lt_of_lt_of_le HBW.out hH.1.size), range_on hH.2.2 hb1 (Nat.lt_of_lt_of_le HBW.out hH.1.size)⟩) (fun hH => ?_)⟩
    clear hK K
    try go_frame
    refine tr 12 (fun K hK => ?_)
    refine want_yes (by rfl) (call_enter (f := 95) (args := #[.agg #[], .agg ds.toArray]) (by go_simp) (Pod_named ds A y _ (RPod.firm.kept HRd.out (Kept.below hH.1))) (fun e u1 he => ?_))
    obtain ⟨rfl, hb1⟩ := he
    have HB2 : Hid (Below wr.heap.size wr u1) := on2 hH.1 hb1
    refine ⟨_, rfl, hK.out _ _ (⟨on2 hH.1 hb1, range_on hH.2.1 hb1 (Nat.lt_of_lt_of_le HBW.out hH.1.size), range_on hH.2.2 hb1 (Nat.lt_of_lt_of_le HBW.out hH.1.size)⟩) (fun hH => ?_)⟩
    clear hK K
    try go_frame
    refine tp 13 ?_; try go_frame
    refine tz ?_
    skip
    go_wp2_with fail
    go_ret
    exact ⟨retb HF.out.symm, on2 hbel HB2.out⟩
   ·
    have HG := hgo.out hc
    have HG2 : Hid (∀ j, j < k + 1 → (decide (j = 0) || sLt ((fun x => x.1) (L.getD (j - 1) default)) ((fun x => x.1) (L.getD j default))) = true) := HG
    simp only [sLt] at hc
    clear hbad hgo HG
    go_wp2_with fail
    refine t0 (fun u => Below wr.heap.size wr u ∧ u.rangeAt B (off + m * 16) cs ∧ u.rangeAt B (off + k * 16) ds) (⟨(Below.refl _ _).drew, HC.out, HD.out⟩) (fun hH => ?_)
    refine tp 0 ?_; try go_frame
    refine tp 1 ?_; try go_frame
    refine tp 2 ?_; try go_frame
    refine tp 3 ?_; try go_frame
    refine tp 4 ?_; try go_frame
    refine tq 5 (.agg cs.toArray) (yieldsIf_load_mid (by rfl) 33 _ rfl B (off + m * 16) rfl cs _ (fun u hu => hu.2.1) underlying33 rfl hci) ?_ (hi := rfl)
    try go_frame
    refine tp 7 ?_; try go_frame
    refine tp 8 ?_; try go_frame
    refine tp 9 ?_; try go_frame
    refine tp 10 ?_; try go_frame
    refine tq 11 (.agg ds.toArray) (yieldsIf_load_mid (by rfl) 33 _ rfl B (off + k * 16) rfl ds _ (fun u hu => hu.2.2) underlying33 rfl hdi) ?_ (hi := rfl)
    try go_frame
    refine tr 6 (fun K hK => ?_)
    refine want_yes (by rfl) (call_enter (f := 95) (args := #[.agg #[], .agg cs.toArray]) (by go_simp) (Pod_named cs A x _ (RPod.firm.kept HRc.out (Kept.below hH.1))) (fun e u1 he => ?_))
    obtain ⟨rfl, hb1⟩ := he
    refine ⟨_, rfl, hK.out _ _ (⟨on2 hH.1 hb1, range_on hH.2.1 hb1 (Nat.lt_of_lt_of_le HBW.out hH.1.size), range_on hH.2.2 hb1 (Nat.lt_of_lt_of_le HBW.out hH.1.size)⟩) (fun hH => ?_)⟩
    clear hK K
    try go_frame
    refine tr 12 (fun K hK => ?_)
    refine want_yes (by rfl) (call_enter (f := 95) (args := #[.agg #[], .agg ds.toArray]) (by go_simp) (Pod_named ds A y _ (RPod.firm.kept HRd.out (Kept.below hH.1))) (fun e u1 he => ?_))
    obtain ⟨rfl, hb1⟩ := he
    have HB2 : Hid (Below wr.heap.size wr u1) := on2 hH.1 hb1
    refine ⟨_, rfl, hK.out _ _ (⟨on2 hH.1 hb1, range_on hH.2.1 hb1 (Nat.lt_of_lt_of_le HBW.out hH.1.size), range_on hH.2.2 hb1 (Nat.lt_of_lt_of_le HBW.out hH.1.size)⟩) (fun hH => ?_)⟩
    clear hK K
    try go_frame
    refine tp 13 ?_; try go_frame
    refine tz ?_
    skip
    go_wp2_with fail
    go_roundw
    case rel => exact ⟨k + 1, by omega, .inl (by omega), by go_num, on2 hbel HB2.out, HG2⟩
    case measure => simp [intOf]; omega
  ·
   have HF : Hid (risesBy sLt (fun x => x.1) L = true) := allTo_true (fun j hj => hall.out j (by rw [HN.out] at hj; omega))
   clear hall
   go_wp2
   go_ret
   exact ⟨retb HF.out.symm, hbel⟩
theorem Pod_krightIn (h0 h1 h2 h3 h4 h5 : Hd) (A : Where) (L : List PodD) (w : World) (h : Hid (SlAt RPod 16 296 A w h0.1 h0.2.1 h0.2.2 L)) : Calls prog 160 #[.agg #[.iface 132 (.agg #[])], .agg #[J h0, J h1, J h2, J h3, J h4, J h5]] w fun e w' => e = .returned (.bool (L.all rightPod && risesBy sLt (fun x => x.1) L)) ∧ Below w.heap.size w w' := by
 have hL := Pod_list (J h0) (J h1) (J h2) (J h3) (J h4) (J h5)
 have HH0 : Hid (Held w [(w.heap.size + 1, [J h0, J h1, J h2, J h3, J h4, J h5]), (w.heap.size, [.iface 132 (.agg #[])])] [] ((w.alloc (.cells #[.iface 132 (.agg #[])] 136)).alloc (.cells #[J h0, J h1, J h2, J h3, J h4, J h5] 61))) := ((Held.start w).push rfl [.iface 132 (.agg #[])] 136).push (by simp) [J h0, J h1, J h2, J h3, J h4, J h5] 61
 obtain ⟨r, hr⟩ : ∃ r, L.all rightPod = r := ⟨_, rfl⟩
 obtain ⟨q, hq⟩ : ∃ q, risesBy sLt (fun x : PodD => x.1) L = q := ⟨_, rfl⟩
 have HF : Hid ((L.all rightPod && risesBy sLt (fun x : PodD => x.1) L) = (r && q)) := by rw [Hid, hr, hq]
 have HA : Hid (∀ s, (∀ w, (method 406 132 (.agg #[]) s).run prog w = .ok (96, .agg #[]) w) → ∀ u, Below w.heap.size w u → Calls prog 165 #[J h0, .func (.method s) #[.iface 132 (.agg #[])] #[]] u fun e w' => e = .returned (.bool r) ∧ Below u.heap.size u w') := fun s hm u hu => by rw [← hr]; exact allRightPod_calls s hm _ _ _ A L u (h.out.kept RPod.firm (Kept.below hu))
 have HB : Hid (∀ s, (∀ w, (method 406 132 (.agg #[]) s).run prog w = .ok (95, .agg #[]) w) → ∀ u, Below w.heap.size w u → Calls prog 166 #[J h0, .func (.method s) #[.iface 132 (.agg #[])] #[]] u fun e w' => e = .returned (.bool q) ∧ Below u.heap.size u w') := fun s hm u hu => by rw [← hq]; exact risingPod_calls s hm _ _ _ A L u (h.out.kept RPod.firm (Kept.below hu))
 clear hr hq h
 go_enter func160, ntmps160
 go_wp2_with fail
 refine (hL _).mono ?_
 rintro e w1 ⟨rfl, hb1⟩
 have HH1 : Hid (Held w [(w.heap.size + 1, [J h0, J h1, J h2, J h3, J h4, J h5]), (w.heap.size, [.iface 132 (.agg #[])])] [] w1) := HH0.out.on hb1
 have k0 := HH1.out.cell 1 (b := w.heap.size) rfl 0 rfl
 have kl0 := HH1.out.lt 1 (b := w.heap.size) rfl
 clear HH0 hb1 hL
 go_wp2_with fail
 clear k0 kl0
 refine (HA.out _ (fun _ => by kernel_rfl) _ HH1.out.below).mono ?_
 rintro e w2 ⟨rfl, hb2⟩
 have HH2 : Hid (Held w [(w.heap.size + 1, [J h0, J h1, J h2, J h3, J h4, J h5]), (w.heap.size, [.iface 132 (.agg #[])])] [] w2) := HH1.out.on hb2
 clear HH1 hb2 HA
 cases r
 ·
  go_wp2_with fail
  go_ret
  exact ⟨retb (by rw [HF.out] <;> simp), HH2.out.below⟩
 ·
  have k0 := HH2.out.cell 1 (b := w.heap.size) rfl 0 rfl
  have kl0 := HH2.out.lt 1 (b := w.heap.size) rfl
  go_wp2_with fail
  clear k0 kl0
  refine (HB.out _ (fun _ => by kernel_rfl) _ HH2.out.below).mono ?_
  rintro e w3 ⟨rfl, hb3⟩
  go_wp2_with fail
  go_ret
  exact ⟨retb (by rw [HF.out] <;> simp), on2 HH2.out.below hb3⟩
theorem risingNode_calls (s : String) (hm : ∀ w, (method 406 137 (.agg #[]) s).run prog w = .ok (179, .agg #[]) w) (a : Option Addr) (n cap : Nat) (A : Where) (L : List NodeD) (w : World) (hL : Hid (SlAt RNode 9 112 A w a n cap L)) : Calls prog 203 #[.slice a n cap, .func (.method s) #[.iface 137 (.agg #[])] #[]] w fun e w' => e = .returned (.bool (risesBy sLt (fun x => x.1) L)) ∧ Below w.heap.size w w' := by
 have hlen := hL.out.len (by decide)
 have HN : Hid (L.length = n) := hL.out.1
 go_enter func203, ntmps203
 go_wp2
 go_loopw [5] (fun i wr => ∃ k : Nat, 1 ≤ k ∧ (k ≤ n ∨ k = 1) ∧ i = .int .i64 k ∧ Below w.heap.size w wr ∧ Hid (∀ j, j < k → (decide (j = 0) || sLt ((fun x => x.1) (L.getD (j - 1) default)) ((fun x => x.1) (L.getD j default))) = true)) (fun i _ => n - (intOf i).toNat)
 case atStart => exact ⟨1, Nat.le_refl _, .inr rfl, rfl, Below.refl _ _, fun j hj => (by have h0 : j = 0 := (by omega); simp [h0])⟩
 case round =>
  obtain ⟨k, hk1, hk, rfl, hbel, hall⟩ := hrel
  by_cases hlt : k < n
  ·
   obtain ⟨m, hm⟩ : ∃ m, Hid (k = m + 1) := ⟨k - 1, by unfold Hid; omega⟩
   have hme := hm.out
   have hmw : IntKind.i64.wrap ((k : Int) - 1) = (m : Int) := by rw [hme]; simp only [Int.natCast_add, Int.cast_ofNat_Int, Int.add_sub_cancel]; simp [IntKind.wrap, IntKind.bits, IntKind.signed]; omega
   have hml : m < n := by omega
   have hkm : k - 1 = m := by omega
   obtain ⟨B, off, ea, hB, _, ds, hrd, hvd⟩ := (hL.out.on RNode.firm hbel).get hlt
   obtain ⟨B', off', ea', _, _, cs, hrc, hvc⟩ := (hL.out.on RNode.firm hbel).get hml
   rw [ea] at ea'
   obtain ⟨rfl, rfl⟩ : B = B' ∧ off = off' := by simpa using ea'
   subst ea
   have HBW : Hid (B < wr.heap.size) := hB
   have hltz : (k : Int) < (n : Int) := by omega
   have hmlz : (m : Int) < (n : Int) := by omega
   have HC : Hid (wr.rangeAt B (off + m * 9) cs) := hvc
   have HD : Hid (wr.rangeAt B (off + k * 9) ds) := hvd
   have hci : (prog.info? 36).map (·.size) = some cs.length := by rw [RNode.firm.len hrc]; exact itNode
   have hdi : (prog.info? 36).map (·.size) = some ds.length := by rw [RNode.firm.len hrd]; exact itNode
   have HRc : Hid (RNode A wr cs (L.getD m default)) := hrc
   have HRd : Hid (RNode A wr ds (L.getD k default)) := hrd
   have hbad : Hid (sLt ((fun x => x.1) (L.getD m default)) ((fun x => x.1) (L.getD k default)) = false → risesBy sLt (fun x => x.1) L = false) := fun h => allTo_false (k := k) (by rw [HN.out]; exact hlt) (by rw [hkm, h]; simp; omega)
   have hgo : Hid (sLt ((fun x => x.1) (L.getD m default)) ((fun x => x.1) (L.getD k default)) = true → ∀ j, j < k + 1 → (decide (j = 0) || sLt ((fun x => x.1) (L.getD (j - 1) default)) ((fun x => x.1) (L.getD j default))) = true) := fun h j hj => by
    rcases Nat.lt_succ_iff_lt_or_eq.1 hj with h' | rfl
    ·
     exact hall.out j h'
    ·
     rw [hkm, h]; simp
   clear hall hvc hvd hrc hrd hme hkm ea'
   generalize L.getD m default = x at hbad hgo HRc
   generalize L.getD k default = y at hbad hgo HRd
   cases hc : sLt ((fun x => x.1) x) ((fun x => x.1) y)
   ·
    have HF : Hid (risesBy sLt (fun x => x.1) L = false) := hbad.out hc
    simp only [sLt] at hc
    clear hbad hgo
    go_wp2_with fail
    refine t0 (fun u => Below wr.heap.size wr u ∧ u.rangeAt B (off + m * 9) cs ∧ u.rangeAt B (off + k * 9) ds) (⟨(Below.refl _ _).drew, HC.out, HD.out⟩) (fun hH => ?_)
    refine tp 0 ?_; try go_frame
    refine tp 1 ?_; try go_frame
    refine tp 2 ?_; try go_frame
    refine tp 3 ?_; try go_frame
    refine tp 4 ?_; try go_frame
    refine tq 5 (.agg cs.toArray) (yieldsIf_load_mid (by rfl) 36 _ rfl B (off + m * 9) rfl cs _ (fun u hu => hu.2.1) underlying36 rfl hci) ?_ (hi := rfl)
    try go_frame
    refine tp 7 ?_; try go_frame
    refine tp 8 ?_; try go_frame
    refine tp 9 ?_; try go_frame
    refine tp 10 ?_; try go_frame
    refine tq 11 (.agg ds.toArray) (yieldsIf_load_mid (by rfl) 36 _ rfl B (off + k * 9) rfl ds _ (fun u hu => hu.2.2) underlying36 rfl hdi) ?_ (hi := rfl)
    try go_frame
    refine tr 6 (fun K hK => ?_)
    refine want_yes (by rfl) (call_enter (f := 179) (args := #[.agg #[], .agg cs.toArray]) (by go_simp) (Node_named cs A x _ (RNode.firm.kept HRc.out (Kept.below hH.1))) (fun e u1 he => ?_))
    obtain ⟨rfl, hb1⟩ := he
    refine ⟨_, rfl, hK.out _ _ (⟨on2 hH.1 hb1, range_on hH.2.1 hb1 (Nat.lt_of_lt_of_le HBW.out hH.1.size), range_on hH.2.2 hb1 (Nat.lt_of_lt_of_le HBW.out hH.1.size)⟩) (fun hH => ?_)⟩
    clear hK K
    try go_frame
    refine tr 12 (fun K hK => ?_)
    refine want_yes (by rfl) (call_enter (f := 179) (args := #[.agg #[], .agg ds.toArray]) (by go_simp) (Node_named ds A y _ (RNode.firm.kept HRd.out (Kept.below hH.1))) (fun e u1 he => ?_))
    obtain ⟨rfl, hb1⟩ := he
    have HB2 : Hid (Below wr.heap.size wr u1) := on2 hH.1 hb1
    refine ⟨_, rfl, hK.out _ _ (⟨on2 hH.1 hb1, range_on hH.2.1 hb1 (Nat.lt_of_lt_of_le HBW.out hH.1.size), range_on hH.2.2 hb1 (Nat.lt_of_lt_of_le HBW.out hH.1.size)⟩) (fun hH => ?_)⟩
    clear hK K
    try go_frame
    refine tp 13 ?_; try go_frame
    refine tz ?_
    skip
    go_wp2_with fail
    go_ret
    exact ⟨retb HF.out.symm, on2 hbel HB2.out⟩
   ·
    have HG := hgo.out hc
    have HG2 : Hid (∀ j, j < k + 1 → (decide (j = 0) || sLt ((fun x => x.1) (L.getD (j - 1) default)) ((fun x => x.1) (L.getD j default))) = true) := HG
    simp only [sLt] at hc
    clear hbad hgo HG
    go_wp2_with fail
    refine t0 (fun u => Below wr.heap.size wr u ∧ u.rangeAt B (off + m * 9) cs ∧ u.rangeAt B (off + k * 9) ds) (⟨(Below.refl _ _).drew, HC.out, HD.out⟩) (fun hH => ?_)
    refine tp 0 ?_; try go_frame
    refine tp 1 ?_; try go_frame
    refine tp 2 ?_; try go_frame
    refine tp 3 ?_; try go_frame
    refine tp 4 ?_; try go_frame
    refine tq 5 (.agg cs.toArray) (yieldsIf_load_mid (by rfl) 36 _ rfl B (off + m * 9) rfl cs _ (fun u hu => hu.2.1) underlying36 rfl hci) ?_ (hi := rfl)
    try go_frame
    refine tp 7 ?_; try go_frame
    refine tp 8 ?_; try go_frame
    refine tp 9 ?_; try go_frame
    refine tp 10 ?_; try go_frame
    refine tq 11 (.agg ds.toArray) (yieldsIf_load_mid (by rfl) 36 _ rfl B (off + k * 9) rfl ds _ (fun u hu => hu.2.2) underlying36 rfl hdi) ?_ (hi := rfl)
    try go_frame
    refine tr 6 (fun K hK => ?_)
    refine want_yes (by rfl) (call_enter (f := 179) (args := #[.agg #[], .agg cs.toArray]) (by go_simp) (Node_named cs A x _ (RNode.firm.kept HRc.out (Kept.below hH.1))) (fun e u1 he => ?_))
    obtain ⟨rfl, hb1⟩ := he
    refine ⟨_, rfl, hK.out _ _ (⟨on2 hH.1 hb1, range_on hH.2.1 hb1 (Nat.lt_of_lt_of_le HBW.out hH.1.size), range_on hH.2.2 hb1 (Nat.lt_of_lt_of_le HBW.out hH.1.size)⟩) (fun hH => ?_)⟩
    clear hK K
    try go_frame
    refine tr 12 (fun K hK => ?_)
    refine want_yes (by rfl) (call_enter (f := 179) (args := #[.agg #[], .agg ds.toArray]) (by go_simp) (Node_named ds A y _ (RNode.firm.kept HRd.out (Kept.below hH.1))) (fun e u1 he => ?_))
    obtain ⟨rfl, hb1⟩ := he
    have HB2 : Hid (Below wr.heap.size wr u1) := on2 hH.1 hb1
    refine ⟨_, rfl, hK.out _ _ (⟨on2 hH.1 hb1, range_on hH.2.1 hb1 (Nat.lt_of_lt_of_le HBW.out hH.1.size), range_on hH.2.2 hb1 (Nat.lt_of_lt_of_le HBW.out hH.1.size)⟩) (fun hH => ?_)⟩
    clear hK K
    try go_frame
    refine tp 13 ?_; try go_frame
    refine tz ?_
    skip
    go_wp2_with fail
    go_roundw
    case rel => exact ⟨k + 1, by omega, .inl (by omega), by go_num, on2 hbel HB2.out, HG2⟩
    case measure => simp [intOf]; omega
  ·
   have HF : Hid (risesBy sLt (fun x => x.1) L = true) := allTo_true (fun j hj => hall.out j (by rw [HN.out] at hj; omega))
   clear hall
   go_wp2
   go_ret
   exact ⟨retb HF.out.symm, hbel⟩
theorem Node_krightIn (h0 h1 h2 h3 h4 h5 : Hd) (A : Where) (L : List NodeD) (w : World) (h : Hid (SlAt RNode 9 112 A w h1.1 h1.2.1 h1.2.2 L)) : Calls prog 197 #[.agg #[.iface 137 (.agg #[])], .agg #[J h0, J h1, J h2, J h3, J h4, J h5]] w fun e w' => e = .returned (.bool (L.all rightNode && risesBy sLt (fun x => x.1) L)) ∧ Below w.heap.size w w' := by
 have hL := Node_list (J h0) (J h1) (J h2) (J h3) (J h4) (J h5)
 have HH0 : Hid (Held w [(w.heap.size + 1, [J h0, J h1, J h2, J h3, J h4, J h5]), (w.heap.size, [.iface 137 (.agg #[])])] [] ((w.alloc (.cells #[.iface 137 (.agg #[])] 141)).alloc (.cells #[J h0, J h1, J h2, J h3, J h4, J h5] 61))) := ((Held.start w).push rfl [.iface 137 (.agg #[])] 141).push (by simp) [J h0, J h1, J h2, J h3, J h4, J h5] 61
 obtain ⟨r, hr⟩ : ∃ r, L.all rightNode = r := ⟨_, rfl⟩
 obtain ⟨q, hq⟩ : ∃ q, risesBy sLt (fun x : NodeD => x.1) L = q := ⟨_, rfl⟩
 have HF : Hid ((L.all rightNode && risesBy sLt (fun x : NodeD => x.1) L) = (r && q)) := by rw [Hid, hr, hq]
 have HA : Hid (∀ s, (∀ w, (method 406 137 (.agg #[]) s).run prog w = .ok (181, .agg #[]) w) → ∀ u, Below w.heap.size w u → Calls prog 202 #[J h1, .func (.method s) #[.iface 137 (.agg #[])] #[]] u fun e w' => e = .returned (.bool r) ∧ Below u.heap.size u w') := fun s hm u hu => by rw [← hr]; exact allRightNode_calls s hm _ _ _ A L u (h.out.kept RNode.firm (Kept.below hu))
 have HB : Hid (∀ s, (∀ w, (method 406 137 (.agg #[]) s).run prog w = .ok (179, .agg #[]) w) → ∀ u, Below w.heap.size w u → Calls prog 203 #[J h1, .func (.method s) #[.iface 137 (.agg #[])] #[]] u fun e w' => e = .returned (.bool q) ∧ Below u.heap.size u w') := fun s hm u hu => by rw [← hq]; exact risingNode_calls s hm _ _ _ A L u (h.out.kept RNode.firm (Kept.below hu))
 clear hr hq h
 go_enter func197, ntmps197
 go_wp2_with fail
 refine (hL _).mono ?_
 rintro e w1 ⟨rfl, hb1⟩
 have HH1 : Hid (Held w [(w.heap.size + 1, [J h0, J h1, J h2, J h3, J h4, J h5]), (w.heap.size, [.iface 137 (.agg #[])])] [] w1) := HH0.out.on hb1
 have k0 := HH1.out.cell 1 (b := w.heap.size) rfl 0 rfl
 have kl0 := HH1.out.lt 1 (b := w.heap.size) rfl
 clear HH0 hb1 hL
 go_wp2_with fail
 clear k0 kl0
 refine (HA.out _ (fun _ => by kernel_rfl) _ HH1.out.below).mono ?_
 rintro e w2 ⟨rfl, hb2⟩
 have HH2 : Hid (Held w [(w.heap.size + 1, [J h0, J h1, J h2, J h3, J h4, J h5]), (w.heap.size, [.iface 137 (.agg #[])])] [] w2) := HH1.out.on hb2
 clear HH1 hb2 HA
 cases r
 ·
  go_wp2_with fail
  go_ret
  exact ⟨retb (by rw [HF.out] <;> simp), HH2.out.below⟩
 ·
  have k0 := HH2.out.cell 1 (b := w.heap.size) rfl 0 rfl
  have kl0 := HH2.out.lt 1 (b := w.heap.size) rfl
  go_wp2_with fail
  clear k0 kl0
  refine (HB.out _ (fun _ => by kernel_rfl) _ HH2.out.below).mono ?_
  rintro e w3 ⟨rfl, hb3⟩
  go_wp2_with fail
  go_ret
  exact ⟨retb (by rw [HF.out] <;> simp), on2 HH2.out.below hb3⟩
end Go.Proofs.YtfbnnfpnjjjfcaaGreat

