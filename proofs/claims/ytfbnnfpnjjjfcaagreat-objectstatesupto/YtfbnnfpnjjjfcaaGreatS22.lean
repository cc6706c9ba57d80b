/- slices.IndexFunc and ContainsFunc at Budget, with whatever function is handed in, and its like. No condition beyond what each says. -/
import Derived.Shelf.Abstract
import Derived.Test.YtfbnnfpnjjjfcaaGreatS21
namespace Go.Proofs.YtfbnnfpnjjjfcaaGreat
set_option maxHeartbeats 16000000
set_option maxRecDepth 100000
open Tryz Go.RowKit
set_option linter.unusedSimpArgs false
theorem itBudget : (prog.info? 44).map (·.size) = some 3 := by kernel_rfl
def PredBudget (g : Nat) (lb : Array Value) (p : BudgetD → Bool) (w : World) : Prop :=
 ∀ (W : World) (cs : List Value) (x : BudgetD), Below w.heap.size w W → RBudget (fun _ => True) W cs x → Calls prog g (#[.agg cs.toArray] ++ lb) W fun e w' => e = .returned (.bool (p x)) ∧ Below W.heap.size W w'
theorem IndexBudget_calls (a : Option Addr) (n cap : Nat) (A : Where) (L : List BudgetD) (w : World) (hL : Hid (SlAt RBudget 3 48 A w a n cap L)) (p : BudgetD → Bool) (g : Nat) (lb : Array Value) (eg : ∀ args w, (callFunc g args).run prog w = .ok (.enter g args) w) (hp : Hid (PredBudget g lb p w)) :
  Calls prog 328 #[.slice a n cap, .func (.func g) #[] lb] w fun e w' => ((∃ i : Nat, i < L.length ∧ p (L.getD i default) = true ∧ (∀ j, j < i → p (L.getD j default) = false) ∧ e = .returned (.int .i64 i)) ∨ ((∀ j, j < L.length → p (L.getD j default) = false) ∧ e = .returned (.int .i64 (-1)))) ∧ Below w.heap.size w w' := by
 have hlen := hL.out.len (by decide)
 have HN : Hid (L.length = n) := hL.out.1
 go_enter func328, ntmps328
 go_wp2
 go_loopw [8] (fun i wr => ∃ k : Nat, k ≤ n ∧ i = .int .i64 k ∧ Below w.heap.size w wr ∧ Hid (∀ j, j < k → p (L.getD j default) = false)) (fun i _ => n - (intOf i).toNat)
 case atStart => exact ⟨0, Nat.zero_le _, rfl, Below.refl _ _, fun j hj => absurd hj (Nat.not_lt_zero _)⟩
 case round =>
  obtain ⟨k, hk, rfl, hbel, hall⟩ := hrel
  by_cases hlt : k < n
  ·
   obtain ⟨B, off, rfl, hB, _, cs, hr, hv⟩ := (hL.out.on RBudget.firm hbel).get hlt
   have HV : Hid (wr.rangeAt B (off + k * 3) cs) := hv
   have hi : (prog.info? 44).map (·.size) = some cs.length := by rw [RBudget.firm.len hr]; exact itBudget
   have hcall := hp.out wr cs (L.getD k default) hbel (RBudget.firm.weak hr (fun _ _ _ => trivial))
   clear hv hr
   have HG : Hid (p (L.getD k default) = false → ∀ j, j < k + 1 → p (L.getD j default) = false) := fun h j hj => by
    rcases Nat.lt_succ_iff_lt_or_eq.1 hj with h' | rfl
    ·
     exact hall.out j h'
    ·
     exact h
   have HF : Hid (p (L.getD k default) = true → ∃ i : Nat, i < L.length ∧ p (L.getD i default) = true ∧ (∀ j, j < i → p (L.getD j default) = false) ∧ Ending.returned (.int .i64 k) = .returned (.int .i64 i)) := fun h => ⟨k, by rw [HN.out]; exact hlt, h, hall.out, rfl⟩
   clear hall
   generalize L.getD k default = x at hcall HG HF
   cases hq : p x
   ·
    have HG' : Hid (∀ j, j < k + 1 → p (L.getD j default) = false) := HG.out hq
    rw [hq] at hcall
    clear HG HF hq
    go_wp2_with (first | (refine wpList_load_mid rfl 44 _ rfl B (off + k * 3) rfl cs _ HV.out underlying44 rfl hi ?_) | fail)
    refine hcall.mono ?_
    rintro e w' ⟨rfl, hb'⟩
    go_wp2_with fail
    go_roundw
    case rel => exact ⟨k + 1, by omega, by go_num, on2 hbel hb', HG'⟩
    case measure => simp [intOf]; omega
   ·
    have HF' := HF.out hq
    have HF2 : Hid (∃ i : Nat, i < L.length ∧ p (L.getD i default) = true ∧ (∀ j, j < i → p (L.getD j default) = false) ∧ Ending.returned (.int .i64 k) = .returned (.int .i64 i)) := HF'
    rw [hq] at hcall
    clear HG HF hq HF'
    go_wp2_with (first | (refine wpList_load_mid rfl 44 _ rfl B (off + k * 3) rfl cs _ HV.out underlying44 rfl hi ?_) | fail)
    refine hcall.mono ?_
    rintro e w' ⟨rfl, hb'⟩
    go_wp2_with fail
    go_ret
    exact ⟨.inl HF2.out, on2 hbel hb'⟩
  ·
   have HA : Hid (∀ j, j < L.length → p (L.getD j default) = false) := fun j hj => hall.out j (by rw [HN.out] at hj; omega)
   clear hall
   go_wp2
   go_ret
   exact ⟨.inr ⟨HA.out, rfl⟩, hbel⟩
theorem ContainsBudget_calls (a : Option Addr) (n cap : Nat) (A : Where) (L : List BudgetD) (w : World) (hL : Hid (SlAt RBudget 3 48 A w a n cap L)) (p : BudgetD → Bool) (g : Nat) (lb : Array Value) (eg : ∀ args w, (callFunc g args).run prog w = .ok (.enter g args) w) (hp : Hid (PredBudget g lb p w)) :
  Calls prog 333 #[.slice a n cap, .func (.func g) #[] lb] w fun e w' => e = .returned (.bool (L.any p)) ∧ Below w.heap.size w w' := by
 have hI := IndexBudget_calls a n cap A L w hL p g lb eg hp
 go_enter func333, ntmps333
 go_wp2_with fail
 refine hI.mono ?_
 rintro e w1 ⟨⟨i, hi, hy, _, rfl⟩ | ⟨hn, rfl⟩, hb⟩
 ·
  have HA : Hid (L.any p = true) := any_yes hi hy
  clear hy
  go_wp2_with fail
  go_ret
  exact ⟨retb HA.out.symm, hb⟩
 ·
  have HA : Hid (L.any p = false) := any_no hn
  clear hn
  go_wp2_with fail
  go_ret
  exact ⟨retb HA.out.symm, hb⟩
theorem all1Budget (s : String) (hm : ∀ w, (method 406 157 (.agg #[]) s).run prog w = .ok (311, .agg #[]) w) (p : BudgetD → Bool) (D : Nat) (w : World) (hD : D < w.heap.size) (cD : w.cell? ⟨D, 0, none⟩ = some (.func (.method s) #[.iface 157 (.agg #[])] #[])) (hpr : p = rightBudget) : PredBudget 334 #[.pointer (some ⟨D, 0, none⟩)] (fun x => !p x) w := fun W cs x hb hr0 => by
 have hr : Hid (RBudget (fun _ => True) W cs x) := hr0
 clear hr0
 have HV : Hid ((W.alloc (.cells cs.toArray 44)).rangeAt W.heap.size 0 cs) := range_all rfl
 have hi : (prog.info? 44).map (·.size) = some cs.length := by rw [RBudget.firm.len hr.out]; exact itBudget
 have HB0 : Hid (Below w.heap.size w (W.alloc (.cells cs.toArray 44))) := on2 hb (by go_grown)
 have HBW : Hid (Below W.heap.size W (W.alloc (.cells cs.toArray 44))) := by unfold Hid; go_grown
 have hDW : D < W.heap.size := by have := hb.size; omega
 have hne : D ≠ W.heap.size := by omega
 have d0 := (hb.cell (p := ⟨D, 0, none⟩) hD).trans cD
 subst hpr
 have hcall := (Budget_right cs _ x (W.alloc (.cells cs.toArray 44)) (RBudget.firm.kept hr.out (Kept.alloc _ _ _)))
 show Calls prog 334 #[.agg cs.toArray, .pointer (some ⟨D, 0, none⟩)] W fun e w' => e = .returned (.bool (!rightBudget x)) ∧ Below W.heap.size W w'
 generalize rightBudget x = r at hcall ⊢
 clear cD hb
 go_enter func334, ntmps334
 go_wp2_with (first | (refine wpList_load_mid rfl 44 _ rfl W.heap.size 0 rfl cs _ HV.out underlying44 rfl hi ?_) | fail)
 refine hcall.mono ?_
 rintro e w1 ⟨rfl, hb1⟩
 go_wp2_with fail
 go_ret
 exact ⟨rfl, on2 HBW.out hb1⟩
theorem entsBudget : ∀ args w, (callFunc 334 args).run prog w = .ok (.enter 334 args) w := Go.Proofs.enters_of func334 (by kernel_rfl) rfl
theorem not_anyBudget (L : List BudgetD) (p : BudgetD → Bool) : (!L.any (fun x => !p x)) = L.all p := by
 rw [Bool.eq_iff_iff]; simp
theorem allRightBudget_calls (s : String) (hm : ∀ w, (method 406 157 (.agg #[]) s).run prog w = .ok (311, .agg #[]) w) (a : Option Addr) (n cap : Nat) (A : Where) (L : List BudgetD) (w : World) (hL : Hid (SlAt RBudget 3 48 A w a n cap L)) : Calls prog 326 #[.slice a n cap, .func (.method s) #[.iface 157 (.agg #[])] #[]] w fun e w' => e = .returned (.bool (L.all rightBudget)) ∧ Below w.heap.size w w' := by
 have hb0 : Below w.heap.size w (w.alloc (.cells #[.func (.method s) #[.iface 157 (.agg #[])] #[]] 92)) := by go_grown
 have hC := ContainsBudget_calls a n cap A L (w.alloc (.cells #[.func (.method s) #[.iface 157 (.agg #[])] #[]] 92)) (hL.out.on RBudget.firm hb0) (fun x => !rightBudget x) 334 #[.pointer (some ⟨w.heap.size, 0, none⟩)] entsBudget (all1Budget s hm rightBudget w.heap.size _ (by simp) (by simp [go_sem]) rfl)
 have HF := not_anyBudget L rightBudget
 generalize L.any (fun x => !rightBudget x) = r at hC HF
 have HF2 : Hid ((!r) = L.all rightBudget) := HF
 clear HF hL
 go_enter func326, ntmps326
 go_wp2_with fail
 refine hC.mono ?_
 rintro e w1 ⟨rfl, hb1⟩
 go_wp2_with fail
 go_ret
 exact ⟨retb HF2.out, on2 hb0 hb1⟩
theorem Budget_kright (p c q : List Value) (x : BudgetD) (A : Where) (w : World) (h : Hid (RBudget A w c x)) (hp : p.length = 37) (hall : (p ++ (c ++ q)).length = 40) : Calls prog 320 #[.agg #[.iface 157 (.agg #[])], .agg (p ++ (c ++ q)).toArray] w fun e w' => e = .returned (.bool (rightBudget x)) ∧ Below w.heap.size w w' := by
 have hi : (prog.info? 46).map (·.size) = some (p ++ (c ++ q)).length := by rw [hall]; exact infoObj
 have HH : Hid (Held w [(w.heap.size + 1, p ++ (c ++ q)), (w.heap.size, [.iface 157 (.agg #[])])] [] ((w.alloc (.cells #[.iface 157 (.agg #[])] 161)).alloc (.cells (p ++ (c ++ q)).toArray 46))) := ((Held.start w).push rfl [.iface 157 (.agg #[])] 161).push (by simp) (p ++ (c ++ q)) 46
 have hc := RBudget.firm.len h.out
 have h1 := RBudget.firm.one h.out
 go_enter func320, ntmps320
 go_wp2_with fail
 refine t0 (Held w [(w.heap.size + 1, p ++ (c ++ q)), (w.heap.size, [.iface 157 (.agg #[])])] []) (HH.out.drew) (fun hH => ?_)
 refine tp 0 ?_; try go_frame
 refine' tk 1 ?_ ?_; rotate_left
 ·
  intro u hu; have hc0 := Held.cell hu 1 rfl 0 rfl; clear hu; go_simp; try with_reducible rfl
 try go_frame
 refine tp 2 ?_; try go_frame
 refine' tk 3 ?_ ?_; rotate_left
 ·
  intro u hu; have hc0 := Held.cell hu 1 rfl 0 rfl; clear hu; go_simp; try with_reducible rfl
 try go_frame
 refine tq 4 (.agg (p ++ (c ++ q)).toArray) (yieldsIf_load_mid (by rfl) 46 _ rfl (w.heap.size + 1) 0 rfl (p ++ (c ++ q)) _ (fun u hu => Held.get hu 0 rfl) underlying46 rfl hi) ?_ (hi := rfl)
 try go_frame
 refine tp 6 ?_; try go_frame
 refine tp 7 ?_; try go_frame
 refine tr 5 (fun K hK => ?_)
 refine want_yes (by rfl) (call_enter (f := 308) (args := #[.agg #[], .agg (p ++ (c ++ q)).toArray]) (by kernel_rfl) (Budget_member p c q hp hc h1 _) (fun e u1 he => ?_))
 obtain ⟨rfl, hb1⟩ := he
 have HB1 : Hid (Below w.heap.size w u1) := on2 hH.below hb1
 refine ⟨_, rfl, hK.out _ _ (hH.on hb1) (fun hH => ?_)⟩
 clear hK K
 try go_frame
 refine tr 8 (fun K hK => ?_)
 refine want_yes (by rfl) (call_enter (f := 311) (args := #[.agg #[], .agg c.toArray]) (by kernel_rfl) (Budget_right c A x _ (RBudget.firm.kept h.out (Kept.below HB1.out))) (fun e u1 he => ?_))
 obtain ⟨rfl, hb2⟩ := he
 have HB2 : Hid (Below w.heap.size w u1) := on2 hH.below hb2
 refine ⟨_, rfl, hK.out _ _ (hH.on hb2) (fun hH => ?_)⟩
 clear hK K
 try go_frame
 refine tp 9 ?_; try go_frame
 refine tz ?_
 go_wp2_with fail
 go_ret
 exact ⟨rfl, HB2.out⟩
theorem Budget_kblank (p c q : List Value) (x : BudgetD) (A : Where) (w : World) (h : Hid (RBudget A w c x)) (hp : p.length = 37) (hall : (p ++ (c ++ q)).length = 40) : Calls prog 314 #[.agg #[.iface 157 (.agg #[])], .agg (p ++ (c ++ q)).toArray] w fun e w' => e = .returned (.bool (blankBudget x)) ∧ Below w.heap.size w w' := by
 have hi : (prog.info? 46).map (·.size) = some (p ++ (c ++ q)).length := by rw [hall]; exact infoObj
 have HH : Hid (Held w [(w.heap.size + 1, p ++ (c ++ q)), (w.heap.size, [.iface 157 (.agg #[])])] [] ((w.alloc (.cells #[.iface 157 (.agg #[])] 161)).alloc (.cells (p ++ (c ++ q)).toArray 46))) := ((Held.start w).push rfl [.iface 157 (.agg #[])] 161).push (by simp) (p ++ (c ++ q)) 46
 have hc := RBudget.firm.len h.out
 have h1 := RBudget.firm.one h.out
 go_enter func314, ntmps314
 go_wp2_with fail
 refine t0 (Held w [(w.heap.size + 1, p ++ (c ++ q)), (w.heap.size, [.iface 157 (.agg #[])])] []) (HH.out.drew) (fun hH => ?_)
 refine tp 0 ?_; try go_frame
 refine' tk 1 ?_ ?_; rotate_left
 ·
  intro u hu; have hc0 := Held.cell hu 1 rfl 0 rfl; clear hu; go_simp; try with_reducible rfl
 try go_frame
 refine tp 2 ?_; try go_frame
 refine' tk 3 ?_ ?_; rotate_left
 ·
  intro u hu; have hc0 := Held.cell hu 1 rfl 0 rfl; clear hu; go_simp; try with_reducible rfl
 try go_frame
 refine tq 4 (.agg (p ++ (c ++ q)).toArray) (yieldsIf_load_mid (by rfl) 46 _ rfl (w.heap.size + 1) 0 rfl (p ++ (c ++ q)) _ (fun u hu => Held.get hu 0 rfl) underlying46 rfl hi) ?_ (hi := rfl)
 try go_frame
 refine tp 6 ?_; try go_frame
 refine tp 7 ?_; try go_frame
 refine tr 5 (fun K hK => ?_)
 refine want_yes (by rfl) (call_enter (f := 308) (args := #[.agg #[], .agg (p ++ (c ++ q)).toArray]) (by kernel_rfl) (Budget_member p c q hp hc h1 _) (fun e u1 he => ?_))
 obtain ⟨rfl, hb1⟩ := he
 have HB1 : Hid (Below w.heap.size w u1) := on2 hH.below hb1
 refine ⟨_, rfl, hK.out _ _ (hH.on hb1) (fun hH => ?_)⟩
 clear hK K
 try go_frame
 refine tr 8 (fun K hK => ?_)
 refine want_yes (by rfl) (call_enter (f := 306) (args := #[.agg #[], .agg c.toArray]) (by kernel_rfl) (Budget_blank c A x _ (RBudget.firm.kept h.out (Kept.below HB1.out))) (fun e u1 he => ?_))
 obtain ⟨rfl, hb2⟩ := he
 have HB2 : Hid (Below w.heap.size w u1) := on2 hH.below hb2
 refine ⟨_, rfl, hK.out _ _ (hH.on hb2) (fun hH => ?_)⟩
 clear hK K
 try go_frame
 refine tp 9 ?_; try go_frame
 refine tz ?_
 go_wp2_with fail
 go_ret
 exact ⟨rfl, HB2.out⟩
theorem headBudget {A : Where} {w : World} {c : List Value} {x : BudgetD} (h : RBudget A w c x) : ∃ r, c = .string x.1 :: r := by
 obtain ⟨c1, d, rfl, ⟨rfl, _⟩, _⟩ := h
 exact ⟨d, rfl⟩
theorem Budget_named (c : List Value) (A : Where) (x : BudgetD) (w : World) (h : RBudget A w c x) : Calls prog 309 #[.agg #[], .agg c.toArray] w fun e w' => e = .returned (.string x.1) ∧ Below w.heap.size w w' := by
 obtain ⟨r, rfl⟩ := headBudget h
 exact Budget_name x.1 r w
theorem Budget_kcount (h0 h1 h2 h3 h4 h5 : Hd) (w : World) : Calls prog 315 #[.agg #[.iface 157 (.agg #[])], .agg #[J h0, J h1, J h2, J h3, J h4, J h5]] w fun e w' => e = .returned (.int .i64 (h5.2.1 : Nat)) ∧ Below w.heap.size w w' := by
 have hL := Budget_list (J h0) (J h1) (J h2) (J h3) (J h4) (J h5)
 go_enter func315, ntmps315
 go_wp2_with fail
 refine (hL _).mono ?_
 rintro e w1 ⟨rfl, hb1⟩
 go_wp2_with fail
 go_ret
 exact ⟨rfl, on2 (by go_grown) hb1⟩
theorem objParts {A : Where} {w : World} {cs : List Value} {x : ObjectD} (h : RObject A w cs x) : ∃ cp cn cv cm cl cb, cs = [.int .i64 x.1] ++ (cp ++ (cn ++ (cv ++ (cm ++ (cl ++ cb))))) ∧ RPod A w cp x.2.1 ∧ RNode A w cn x.2.2.1 ∧ RVolume A w cv x.2.2.2.1 ∧ RClaim A w cm x.2.2.2.2.1 ∧ RClass A w cl x.2.2.2.2.2.1 ∧ RBudget A w cb x.2.2.2.2.2.2 := by
 obtain ⟨c0, d0, rfl, rfl, cp, d1, rfl, h0, cn, d2, rfl, h1, cv, d3, rfl, h2, cm, d4, rfl, h3, cl, cb, rfl, h4, h5⟩ := h
 exact ⟨cp, cn, cv, cm, cl, cb, rfl, h0, h1, h2, h3, h4, h5⟩
theorem obj0 {A : Where} {w : World} {cs : List Value} {x : ObjectD} (h : RObject A w cs x) : cs[0]? = some (.int .i64 x.1) := by
 obtain ⟨cp, cn, cv, cm, cl, cb, rfl, _⟩ := objParts h
 rfl
theorem partPod {A : Where} {w : World} {cs : List Value} {x : ObjectD} (h : RObject A w cs x) : ∃ p c q, cs = p ++ (c ++ q) ∧ p.length = 1 ∧ RPod A w c x.2.1 := by
 obtain ⟨cp, cn, cv, cm, cl, cb, rfl, h0, h1, h2, h3, h4, h5⟩ := objParts h
 exact ⟨[.int .i64 x.1], cp, cn ++ (cv ++ (cm ++ (cl ++ (cb)))), by simp [List.append_assoc], by simp only [List.length_append, List.length_cons, List.length_nil], h0⟩
theorem Pod_oright (cs : List Value) (A : Where) (x : ObjectD) (w : World) (h : RObject A w cs x) : Calls prog 159 #[.agg #[.iface 132 (.agg #[])], .agg cs.toArray] w fun e w' => e = .returned (.bool (rightPod x.2.1)) ∧ Below w.heap.size w w' := by
 have hl := RObject.firm.len h
 obtain ⟨p, c, q, rfl, hp, hr⟩ := partPod h
 exact Pod_kright p c q _ A w hr hp hl
theorem Pod_oblank (cs : List Value) (A : Where) (x : ObjectD) (w : World) (h : RObject A w cs x) : Calls prog 153 #[.agg #[.iface 132 (.agg #[])], .agg cs.toArray] w fun e w' => e = .returned (.bool (blankPod x.2.1)) ∧ Below w.heap.size w w' := by
 have hl := RObject.firm.len h
 obtain ⟨p, c, q, rfl, hp, hr⟩ := partPod h
 exact Pod_kblank p c q _ A w hr hp hl
theorem partNode {A : Where} {w : World} {cs : List Value} {x : ObjectD} (h : RObject A w cs x) : ∃ p c q, cs = p ++ (c ++ q) ∧ p.length = 17 ∧ RNode A w c x.2.2.1 := by
 obtain ⟨cp, cn, cv, cm, cl, cb, rfl, h0, h1, h2, h3, h4, h5⟩ := objParts h
 exact ⟨[.int .i64 x.1] ++ cp, cn, cv ++ (cm ++ (cl ++ (cb))), by simp [List.append_assoc], by simp only [List.length_append, List.length_cons, List.length_nil, RPod.firm.len h0], h1⟩
theorem Node_oright (cs : List Value) (A : Where) (x : ObjectD) (w : World) (h : RObject A w cs x) : Calls prog 196 #[.agg #[.iface 137 (.agg #[])], .agg cs.toArray] w fun e w' => e = .returned (.bool (rightNode x.2.2.1)) ∧ Below w.heap.size w w' := by
 have hl := RObject.firm.len h
 obtain ⟨p, c, q, rfl, hp, hr⟩ := partNode h
 exact Node_kright p c q _ A w hr hp hl
theorem Node_oblank (cs : List Value) (A : Where) (x : ObjectD) (w : World) (h : RObject A w cs x) : Calls prog 190 #[.agg #[.iface 137 (.agg #[])], .agg cs.toArray] w fun e w' => e = .returned (.bool (blankNode x.2.2.1)) ∧ Below w.heap.size w w' := by
 have hl := RObject.firm.len h
 obtain ⟨p, c, q, rfl, hp, hr⟩ := partNode h
 exact Node_kblank p c q _ A w hr hp hl
theorem partVolume {A : Where} {w : World} {cs : List Value} {x : ObjectD} (h : RObject A w cs x) : ∃ p c q, cs = p ++ (c ++ q) ∧ p.length = 26 ∧ RVolume A w c x.2.2.2.1 := by
 obtain ⟨cp, cn, cv, cm, cl, cb, rfl, h0, h1, h2, h3, h4, h5⟩ := objParts h
 exact ⟨[.int .i64 x.1] ++ cp ++ cn, cv, cm ++ (cl ++ (cb)), by simp [List.append_assoc], by simp only [List.length_append, List.length_cons, List.length_nil, RPod.firm.len h0, RNode.firm.len h1], h2⟩
theorem Volume_oright (cs : List Value) (A : Where) (x : ObjectD) (w : World) (h : RObject A w cs x) : Calls prog 227 #[.agg #[.iface 142 (.agg #[])], .agg cs.toArray] w fun e w' => e = .returned (.bool (rightVolume x.2.2.2.1)) ∧ Below w.heap.size w w' := by
 have hl := RObject.firm.len h
 obtain ⟨p, c, q, rfl, hp, hr⟩ := partVolume h
 exact Volume_kright p c q _ A w hr hp hl
theorem Volume_oblank (cs : List Value) (A : Where) (x : ObjectD) (w : World) (h : RObject A w cs x) : Calls prog 221 #[.agg #[.iface 142 (.agg #[])], .agg cs.toArray] w fun e w' => e = .returned (.bool (blankVolume x.2.2.2.1)) ∧ Below w.heap.size w w' := by
 have hl := RObject.firm.len h
 obtain ⟨p, c, q, rfl, hp, hr⟩ := partVolume h
 exact Volume_kblank p c q _ A w hr hp hl
theorem partClaim {A : Where} {w : World} {cs : List Value} {x : ObjectD} (h : RObject A w cs x) : ∃ p c q, cs = p ++ (c ++ q) ∧ p.length = 31 ∧ RClaim A w c x.2.2.2.2.1 := by
 obtain ⟨cp, cn, cv, cm, cl, cb, rfl, h0, h1, h2, h3, h4, h5⟩ := objParts h
 exact ⟨[.int .i64 x.1] ++ cp ++ cn ++ cv, cm, cl ++ (cb), by simp [List.append_assoc], by simp only [List.length_append, List.length_cons, List.length_nil, RPod.firm.len h0, RNode.firm.len h1, RVolume.firm.len h2], h3⟩
theorem Claim_oright (cs : List Value) (A : Where) (x : ObjectD) (w : World) (h : RObject A w cs x) : Calls prog 258 #[.agg #[.iface 147 (.agg #[])], .agg cs.toArray] w fun e w' => e = .returned (.bool (rightClaim x.2.2.2.2.1)) ∧ Below w.heap.size w w' := by
 have hl := RObject.firm.len h
 obtain ⟨p, c, q, rfl, hp, hr⟩ := partClaim h
 exact Claim_kright p c q _ A w hr hp hl
theorem Claim_oblank (cs : List Value) (A : Where) (x : ObjectD) (w : World) (h : RObject A w cs x) : Calls prog 252 #[.agg #[.iface 147 (.agg #[])], .agg cs.toArray] w fun e w' => e = .returned (.bool (blankClaim x.2.2.2.2.1)) ∧ Below w.heap.size w w' := by
 have hl := RObject.firm.len h
 obtain ⟨p, c, q, rfl, hp, hr⟩ := partClaim h
 exact Claim_kblank p c q _ A w hr hp hl
theorem partClass {A : Where} {w : World} {cs : List Value} {x : ObjectD} (h : RObject A w cs x) : ∃ p c q, cs = p ++ (c ++ q) ∧ p.length = 35 ∧ RClass A w c x.2.2.2.2.2.1 := by
 obtain ⟨cp, cn, cv, cm, cl, cb, rfl, h0, h1, h2, h3, h4, h5⟩ := objParts h
 exact ⟨[.int .i64 x.1] ++ cp ++ cn ++ cv ++ cm, cl, cb, by simp [List.append_assoc], by simp only [List.length_append, List.length_cons, List.length_nil, RPod.firm.len h0, RNode.firm.len h1, RVolume.firm.len h2, RClaim.firm.len h3], h4⟩
theorem Class_oright (cs : List Value) (A : Where) (x : ObjectD) (w : World) (h : RObject A w cs x) : Calls prog 289 #[.agg #[.iface 152 (.agg #[])], .agg cs.toArray] w fun e w' => e = .returned (.bool (rightClass x.2.2.2.2.2.1)) ∧ Below w.heap.size w w' := by
 have hl := RObject.firm.len h
 obtain ⟨p, c, q, rfl, hp, hr⟩ := partClass h
 exact Class_kright p c q _ A w hr hp hl
theorem Class_oblank (cs : List Value) (A : Where) (x : ObjectD) (w : World) (h : RObject A w cs x) : Calls prog 283 #[.agg #[.iface 152 (.agg #[])], .agg cs.toArray] w fun e w' => e = .returned (.bool (blankClass x.2.2.2.2.2.1)) ∧ Below w.heap.size w w' := by
 have hl := RObject.firm.len h
 obtain ⟨p, c, q, rfl, hp, hr⟩ := partClass h
 exact Class_kblank p c q _ A w hr hp hl
theorem partBudget {A : Where} {w : World} {cs : List Value} {x : ObjectD} (h : RObject A w cs x) : ∃ p c q, cs = p ++ (c ++ q) ∧ p.length = 37 ∧ RBudget A w c x.2.2.2.2.2.2 := by
 obtain ⟨cp, cn, cv, cm, cl, cb, rfl, h0, h1, h2, h3, h4, h5⟩ := objParts h
 exact ⟨[.int .i64 x.1] ++ cp ++ cn ++ cv ++ cm ++ cl, cb, [], by simp [List.append_assoc], by simp only [List.length_append, List.length_cons, List.length_nil, RPod.firm.len h0, RNode.firm.len h1, RVolume.firm.len h2, RClaim.firm.len h3, RClass.firm.len h4], h5⟩
theorem Budget_oright (cs : List Value) (A : Where) (x : ObjectD) (w : World) (h : RObject A w cs x) : Calls prog 320 #[.agg #[.iface 157 (.agg #[])], .agg cs.toArray] w fun e w' => e = .returned (.bool (rightBudget x.2.2.2.2.2.2)) ∧ Below w.heap.size w w' := by
 have hl := RObject.firm.len h
 obtain ⟨p, c, q, rfl, hp, hr⟩ := partBudget h
 exact Budget_kright p c q _ A w hr hp hl
theorem Budget_oblank (cs : List Value) (A : Where) (x : ObjectD) (w : World) (h : RObject A w cs x) : Calls prog 314 #[.agg #[.iface 157 (.agg #[])], .agg cs.toArray] w fun e w' => e = .returned (.bool (blankBudget x.2.2.2.2.2.2)) ∧ Below w.heap.size w w' := by
 have hl := RObject.firm.len h
 obtain ⟨p, c, q, rfl, hp, hr⟩ := partBudget h
 exact Budget_kblank p c q _ A w hr hp hl
end Go.Proofs.YtfbnnfpnjjjfcaaGreat

