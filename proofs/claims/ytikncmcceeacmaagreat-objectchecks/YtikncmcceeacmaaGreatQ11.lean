/- kept.right, blank, name, count at Class, and its like. No condition beyond what each says. -/
import Derived.Shelf.Abstract
import Derived.Test.YtikncmcceeacmaaGreatQ10
namespace Go.Proofs.YtikncmcceeacmaaGreat
set_option maxHeartbeats 16000000
set_option maxRecDepth 100000
open Tryz Go.RowKit
set_option linter.unusedSimpArgs false
theorem Class_kright (p c q : List Value) (x : ClassD) (A : Where) (w : World) (h : Hid (RClass A w c x)) (hp : p.length = 35) (hall : (p ++ (c ++ q)).length = 40) : Calls prog 289 #[.agg #[.iface 152 (.agg #[])], .agg (p ++ (c ++ q)).toArray] w fun e w' => e = .returned (.bool (rightClass x)) ∧ Below w.heap.size w w' := by
 have hi : (prog.info? 46).map (·.size) = some (p ++ (c ++ q)).length := by rw [hall]; exact infoObj
 have HH : Hid (Held w [(w.heap.size + 1, p ++ (c ++ q)), (w.heap.size, [.iface 152 (.agg #[])])] [] ((w.alloc (.cells #[.iface 152 (.agg #[])] 156)).alloc (.cells (p ++ (c ++ q)).toArray 46))) := ((Held.start w).push rfl [.iface 152 (.agg #[])] 156).push (by simp) (p ++ (c ++ q)) 46
 have hc := RClass.firm.len h.out
 have h1 := RClass.firm.one h.out
 go_enter func289, ntmps289
 go_wp2_with fail
 refine t0 (Held w [(w.heap.size + 1, p ++ (c ++ q)), (w.heap.size, [.iface 152 (.agg #[])])] []) (HH.out.drew) (fun hH => ?_)
 refine tp 0 ?_; try go_frame
 refine' tk 1 ?_ ?_; rotate_left
 ·
  intro u hu; have hc0 := Held.cell hu 1 rfl 0 rfl; clear hu; go_simp; try with_reducible rfl
 try go_frame
 refine tp 2 ?_; try go_frame
 refine' tk 3 ?_ ?_; rotate_left
 ·
  intro u hu; have hc0 := Held.cell hu 1 rfl 0 rfl; clear hu; go_simp; try with_reducible rfl
 try go_frame
 refine tq 4 (.agg (p ++ (c ++ q)).toArray) (yieldsIf_load_mid (by rfl) 46 _ rfl (w.heap.size + 1) 0 rfl (p ++ (c ++ q)) _ (fun u hu => Held.get hu 0 rfl) underlying46 rfl hi) ?_ (hi := rfl)
 try go_frame
 refine tp 6 ?_; try go_frame
 refine tp 7 ?_; try go_frame
 refine tr 5 (fun K hK => ?_)
 refine want_yes (by rfl) (call_enter (f := 277) (args := #[.agg #[], .agg (p ++ (c ++ q)).toArray]) (by kernel_rfl) (Class_member p c q hp hc h1 _) (fun e u1 he => ?_))
 obtain ⟨rfl, hb1⟩ := he
 have HB1 : Hid (Below w.heap.size w u1) := on2 hH.below hb1
 refine ⟨_, rfl, hK.out _ _ (hH.on hb1) (fun hH => ?_)⟩
 clear hK K
 try go_frame
 refine tr 8 (fun K hK => ?_)
 refine want_yes (by rfl) (call_enter (f := 280) (args := #[.agg #[], .agg c.toArray]) (by kernel_rfl) (Class_right c A x _ (RClass.firm.kept h.out (Kept.below HB1.out))) (fun e u1 he => ?_))
 obtain ⟨rfl, hb2⟩ := he
 have HB2 : Hid (Below w.heap.size w u1) := on2 hH.below hb2
 refine ⟨_, rfl, hK.out _ _ (hH.on hb2) (fun hH => ?_)⟩
 clear hK K
 try go_frame
 refine tp 9 ?_; try go_frame
 refine tz ?_
 go_wp2_with fail
 go_ret
 exact ⟨rfl, HB2.out⟩
theorem Class_kblank (p c q : List Value) (x : ClassD) (A : Where) (w : World) (h : Hid (RClass A w c x)) (hp : p.length = 35) (hall : (p ++ (c ++ q)).length = 40) : Calls prog 283 #[.agg #[.iface 152 (.agg #[])], .agg (p ++ (c ++ q)).toArray] w fun e w' => e = .returned (.bool (blankClass x)) ∧ Below w.heap.size w w' := by
 have hi : (prog.info? 46).map (·.size) = some (p ++ (c ++ q)).length := by rw [hall]; exact infoObj
 have HH : Hid (Held w [(w.heap.size + 1, p ++ (c ++ q)), (w.heap.size, [.iface 152 (.agg #[])])] [] ((w.alloc (.cells #[.iface 152 (.agg #[])] 156)).alloc (.cells (p ++ (c ++ q)).toArray 46))) := ((Held.start w).push rfl [.iface 152 (.agg #[])] 156).push (by simp) (p ++ (c ++ q)) 46
 have hc := RClass.firm.len h.out
 have h1 := RClass.firm.one h.out
 go_enter func283, ntmps283
 go_wp2_with fail
 refine t0 (Held w [(w.heap.size + 1, p ++ (c ++ q)), (w.heap.size, [.iface 152 (.agg #[])])] []) (HH.out.drew) (fun hH => ?_)
 refine tp 0 ?_; try go_frame
 refine' tk 1 ?_ ?_; rotate_left
 ·
  intro u hu; have hc0 := Held.cell hu 1 rfl 0 rfl; clear hu; go_simp; try with_reducible rfl
 try go_frame
 refine tp 2 ?_; try go_frame
 refine' tk 3 ?_ ?_; rotate_left
 ·
  intro u hu; have hc0 := Held.cell hu 1 rfl 0 rfl; clear hu; go_simp; try with_reducible rfl
 try go_frame
 refine tq 4 (.agg (p ++ (c ++ q)).toArray) (yieldsIf_load_mid (by rfl) 46 _ rfl (w.heap.size + 1) 0 rfl (p ++ (c ++ q)) _ (fun u hu => Held.get hu 0 rfl) underlying46 rfl hi) ?_ (hi := rfl)
 try go_frame
 refine tp 6 ?_; try go_frame
 refine tp 7 ?_; try go_frame
 refine tr 5 (fun K hK => ?_)
 refine want_yes (by rfl) (call_enter (f := 277) (args := #[.agg #[], .agg (p ++ (c ++ q)).toArray]) (by kernel_rfl) (Class_member p c q hp hc h1 _) (fun e u1 he => ?_))
 obtain ⟨rfl, hb1⟩ := he
 have HB1 : Hid (Below w.heap.size w u1) := on2 hH.below hb1
 refine ⟨_, rfl, hK.out _ _ (hH.on hb1) (fun hH => ?_)⟩
 clear hK K
 try go_frame
 refine tr 8 (fun K hK => ?_)
 refine want_yes (by rfl) (call_enter (f := 275) (args := #[.agg #[], .agg c.toArray]) (by kernel_rfl) (Class_blank c A x _ (RClass.firm.kept h.out (Kept.below HB1.out))) (fun e u1 he => ?_))
 obtain ⟨rfl, hb2⟩ := he
 have HB2 : Hid (Below w.heap.size w u1) := on2 hH.below hb2
 refine ⟨_, rfl, hK.out _ _ (hH.on hb2) (fun hH => ?_)⟩
 clear hK K
 try go_frame
 refine tp 9 ?_; try go_frame
 refine tz ?_
 go_wp2_with fail
 go_ret
 exact ⟨rfl, HB2.out⟩
theorem headClass {A : Where} {w : World} {c : List Value} {x : ClassD} (h : RClass A w c x) : ∃ r, c = .string x.1 :: r := by
 obtain ⟨c1, d, rfl, ⟨rfl, _⟩, _⟩ := h
 exact ⟨d, rfl⟩
theorem Class_named (c : List Value) (A : Where) (x : ClassD) (w : World) (h : RClass A w c x) : Calls prog 278 #[.agg #[], .agg c.toArray] w fun e w' => e = .returned (.string x.1) ∧ Below w.heap.size w w' := by
 obtain ⟨r, rfl⟩ := headClass h
 exact Class_name x.1 r w
theorem Class_kname (p c q : List Value) (x : ClassD) (A : Where) (w : World) (h : Hid (RClass A w c x)) (hp : p.length = 35) (hall : (p ++ (c ++ q)).length = 40) : Calls prog 286 #[.agg #[.iface 152 (.agg #[])], .agg (p ++ (c ++ q)).toArray] w fun e w' => e = .returned (.string x.1) ∧ Below w.heap.size w w' := by
 have hi : (prog.info? 46).map (·.size) = some (p ++ (c ++ q)).length := by rw [hall]; exact infoObj
 have HH : Hid (Held w [(w.heap.size + 1, p ++ (c ++ q)), (w.heap.size, [.iface 152 (.agg #[])])] [] ((w.alloc (.cells #[.iface 152 (.agg #[])] 156)).alloc (.cells (p ++ (c ++ q)).toArray 46))) := ((Held.start w).push rfl [.iface 152 (.agg #[])] 156).push (by simp) (p ++ (c ++ q)) 46
 have hc := RClass.firm.len h.out
 have h1 := RClass.firm.one h.out
 go_enter func286, ntmps286
 go_wp2_with fail
 refine t0 (Held w [(w.heap.size + 1, p ++ (c ++ q)), (w.heap.size, [.iface 152 (.agg #[])])] []) (HH.out.drew) (fun hH => ?_)
 refine tp 0 ?_; try go_frame
 refine' tk 1 ?_ ?_; rotate_left
 ·
  intro u hu; have hc0 := Held.cell hu 1 rfl 0 rfl; clear hu; go_simp; try with_reducible rfl
 try go_frame
 refine tp 2 ?_; try go_frame
 refine' tk 3 ?_ ?_; rotate_left
 ·
  intro u hu; have hc0 := Held.cell hu 1 rfl 0 rfl; clear hu; go_simp; try with_reducible rfl
 try go_frame
 refine tq 4 (.agg (p ++ (c ++ q)).toArray) (yieldsIf_load_mid (by rfl) 46 _ rfl (w.heap.size + 1) 0 rfl (p ++ (c ++ q)) _ (fun u hu => Held.get hu 0 rfl) underlying46 rfl hi) ?_ (hi := rfl)
 try go_frame
 refine tp 6 ?_; try go_frame
 refine tp 7 ?_; try go_frame
 refine tr 5 (fun K hK => ?_)
 refine want_yes (by rfl) (call_enter (f := 277) (args := #[.agg #[], .agg (p ++ (c ++ q)).toArray]) (by kernel_rfl) (Class_member p c q hp hc h1 _) (fun e u1 he => ?_))
 obtain ⟨rfl, hb1⟩ := he
 have HB1 : Hid (Below w.heap.size w u1) := on2 hH.below hb1
 refine ⟨_, rfl, hK.out _ _ (hH.on hb1) (fun hH => ?_)⟩
 clear hK K
 try go_frame
 refine tr 8 (fun K hK => ?_)
 refine want_yes (by rfl) (call_enter (f := 278) (args := #[.agg #[], .agg c.toArray]) (by kernel_rfl) (Class_named c A x _ (RClass.firm.kept h.out (Kept.below HB1.out))) (fun e u1 he => ?_))
 obtain ⟨rfl, hb2⟩ := he
 have HB2 : Hid (Below w.heap.size w u1) := on2 hH.below hb2
 refine ⟨_, rfl, hK.out _ _ (hH.on hb2) (fun hH => ?_)⟩
 clear hK K
 try go_frame
 refine tp 9 ?_; try go_frame
 refine tz ?_
 go_wp2_with fail
 go_ret
 exact ⟨rfl, HB2.out⟩
theorem sizBudget : (prog.info? 44).map (·.size) = some 3 := by kernel_rfl
theorem Budget_member (p c q : List Value) (hp : p.length = 37) (hc : c.length = 3) (h1 : ∀ v ∈ c, v.oneCell' = true) (w : World) : Calls prog 308 #[.agg #[], .agg (p ++ (c ++ q)).toArray] w fun e w' => e = .returned (.agg c.toArray) ∧ Below w.heap.size w w' := by
 have hi : (prog.info? 44).map (·.size) = some c.length := by rw [hc]; exact sizBudget
 have Hr : ∀ T z, Hid ((((w.alloc (.cells #[] T)).alloc (.cells (p ++ (c ++ q)).toArray 46)).alloc (.cells z 44)).rangeAt (w.heap.size + 1) 37 c) := fun T z => World.rangeAt_alloc (range_new (by simp) hp) _
 have Ht : ∀ T z, z.size = 3 → Hid ((((w.alloc (.cells #[] T)).alloc (.cells (p ++ (c ++ q)).toArray 46)).alloc (.cells z 44)).there (w.heap.size + 1 + 1) 0 c.toArray.size) := fun T z hz => there_new (by simp) (by simp [hc, hz])
 have h1' := all_oneCell_toArray h1
 have HE : Hid (c.toArray.size = 3) := by simp [Hid, hc]
 clear hp hc h1
 go_enter func308, ntmps308
 go_wp2_with (first | (refine wpList_load_mid rfl 44 _ rfl (w.heap.size + 1) 37 rfl c _ (Hr _ _).out underlying44 rfl hi ?_) | (refine wpList_store_mid rfl 44 _ _ rfl (w.heap.size + 1 + 1) 0 c.toArray rfl rfl (Ht _ _ rfl).out (by simpa using hi) h1' ?_))
 have HT := (Ht 157 #[.string ⟨#[]⟩, Z, .int .i64 0] rfl).out
 refine bodyPost_ret (v := .agg c.toArray) (res_cell (p := 4) (ty := 44) rfl _ _ (w.heap.size + 1 + 1) c _ rfl (World.rangeAt_setCells_same _ _ _ _ (by simpa using HT)) underlying44 rfl hi) rfl ⟨rfl, below_setCells (by go_grown) (by omega)⟩
theorem Budget_kright (p c q : List Value) (x : BudgetD) (A : Where) (w : World) (h : Hid (RBudget A w c x)) (hp : p.length = 37) (hall : (p ++ (c ++ q)).length = 40) : Calls prog 320 #[.agg #[.iface 157 (.agg #[])], .agg (p ++ (c ++ q)).toArray] w fun e w' => e = .returned (.bool (rightBudget x)) ∧ Below w.heap.size w w' := by
 have hi : (prog.info? 46).map (·.size) = some (p ++ (c ++ q)).length := by rw [hall]; exact infoObj
 have HH : Hid (Held w [(w.heap.size + 1, p ++ (c ++ q)), (w.heap.size, [.iface 157 (.agg #[])])] [] ((w.alloc (.cells #[.iface 157 (.agg #[])] 161)).alloc (.cells (p ++ (c ++ q)).toArray 46))) := ((Held.start w).push rfl [.iface 157 (.agg #[])] 161).push (by simp) (p ++ (c ++ q)) 46
 have hc := RBudget.firm.len h.out
 have h1 := RBudget.firm.one h.out
 go_enter func320, ntmps320
 go_wp2_with fail
 refine t0 (Held w [(w.heap.size + 1, p ++ (c ++ q)), (w.heap.size, [.iface 157 (.agg #[])])] []) (HH.out.drew) (fun hH => ?_)
 refine tp 0 ?_; try go_frame
 refine' tk 1 ?_ ?_; rotate_left
 ·
  intro u hu; have hc0 := Held.cell hu 1 rfl 0 rfl; clear hu; go_simp; try with_reducible rfl
 try go_frame
 refine tp 2 ?_; try go_frame
 refine' tk 3 ?_ ?_; rotate_left
 ·
  intro u hu; have hc0 := Held.cell hu 1 rfl 0 rfl; clear hu; go_simp; try with_reducible rfl
 try go_frame
 refine tq 4 (.agg (p ++ (c ++ q)).toArray) (yieldsIf_load_mid (by rfl) 46 _ rfl (w.heap.size + 1) 0 rfl (p ++ (c ++ q)) _ (fun u hu => Held.get hu 0 rfl) underlying46 rfl hi) ?_ (hi := rfl)
 try go_frame
 refine tp 6 ?_; try go_frame
 refine tp 7 ?_; try go_frame
 refine tr 5 (fun K hK => ?_)
 refine want_yes (by rfl) (call_enter (f := 308) (args := #[.agg #[], .agg (p ++ (c ++ q)).toArray]) (by kernel_rfl) (Budget_member p c q hp hc h1 _) (fun e u1 he => ?_))
 obtain ⟨rfl, hb1⟩ := he
 have HB1 : Hid (Below w.heap.size w u1) := on2 hH.below hb1
 refine ⟨_, rfl, hK.out _ _ (hH.on hb1) (fun hH => ?_)⟩
 clear hK K
 try go_frame
 refine tr 8 (fun K hK => ?_)
 refine want_yes (by rfl) (call_enter (f := 311) (args := #[.agg #[], .agg c.toArray]) (by kernel_rfl) (Budget_right c A x _ (RBudget.firm.kept h.out (Kept.below HB1.out))) (fun e u1 he => ?_))
 obtain ⟨rfl, hb2⟩ := he
 have HB2 : Hid (Below w.heap.size w u1) := on2 hH.below hb2
 refine ⟨_, rfl, hK.out _ _ (hH.on hb2) (fun hH => ?_)⟩
 clear hK K
 try go_frame
 refine tp 9 ?_; try go_frame
 refine tz ?_
 go_wp2_with fail
 go_ret
 exact ⟨rfl, HB2.out⟩
theorem Budget_kblank (p c q : List Value) (x : BudgetD) (A : Where) (w : World) (h : Hid (RBudget A w c x)) (hp : p.length = 37) (hall : (p ++ (c ++ q)).length = 40) : Calls prog 314 #[.agg #[.iface 157 (.agg #[])], .agg (p ++ (c ++ q)).toArray] w fun e w' => e = .returned (.bool (blankBudget x)) ∧ Below w.heap.size w w' := by
 have hi : (prog.info? 46).map (·.size) = some (p ++ (c ++ q)).length := by rw [hall]; exact infoObj
 have HH : Hid (Held w [(w.heap.size + 1, p ++ (c ++ q)), (w.heap.size, [.iface 157 (.agg #[])])] [] ((w.alloc (.cells #[.iface 157 (.agg #[])] 161)).alloc (.cells (p ++ (c ++ q)).toArray 46))) := ((Held.start w).push rfl [.iface 157 (.agg #[])] 161).push (by simp) (p ++ (c ++ q)) 46
 have hc := RBudget.firm.len h.out
 have h1 := RBudget.firm.one h.out
 go_enter func314, ntmps314
 go_wp2_with fail
 refine t0 (Held w [(w.heap.size + 1, p ++ (c ++ q)), (w.heap.size, [.iface 157 (.agg #[])])] []) (HH.out.drew) (fun hH => ?_)
 refine tp 0 ?_; try go_frame
 refine' tk 1 ?_ ?_; rotate_left
 ·
  intro u hu; have hc0 := Held.cell hu 1 rfl 0 rfl; clear hu; go_simp; try with_reducible rfl
 try go_frame
 refine tp 2 ?_; try go_frame
 refine' tk 3 ?_ ?_; rotate_left
 ·
  intro u hu; have hc0 := Held.cell hu 1 rfl 0 rfl; clear hu; go_simp; try with_reducible rfl
 try go_frame
 refine tq 4 (.agg (p ++ (c ++ q)).toArray) (yieldsIf_load_mid (by rfl) 46 _ rfl (w.heap.size + 1) 0 rfl (p ++ (c ++ q)) _ (fun u hu => Held.get hu 0 rfl) underlying46 rfl hi) ?_ (hi := rfl)
 try go_frame
 refine tp 6 ?_; try go_frame
 refine tp 7 ?_; try go_frame
 refine tr 5 (fun K hK => ?_)
 refine want_yes (by rfl) (call_enter (f := 308) (args := #[.agg #[], .agg (p ++ (c ++ q)).toArray]) (by kernel_rfl) (Budget_member p c q hp hc h1 _) (fun e u1 he => ?_))
 obtain ⟨rfl, hb1⟩ := he
 have HB1 : Hid (Below w.heap.size w u1) := on2 hH.below hb1
 refine ⟨_, rfl, hK.out _ _ (hH.on hb1) (fun hH => ?_)⟩
 clear hK K
 try go_frame
 refine tr 8 (fun K hK => ?_)
 refine want_yes (by rfl) (call_enter (f := 306) (args := #[.agg #[], .agg c.toArray]) (by kernel_rfl) (Budget_blank c A x _ (RBudget.firm.kept h.out (Kept.below HB1.out))) (fun e u1 he => ?_))
 obtain ⟨rfl, hb2⟩ := he
 have HB2 : Hid (Below w.heap.size w u1) := on2 hH.below hb2
 refine ⟨_, rfl, hK.out _ _ (hH.on hb2) (fun hH => ?_)⟩
 clear hK K
 try go_frame
 refine tp 9 ?_; try go_frame
 refine tz ?_
 go_wp2_with fail
 go_ret
 exact ⟨rfl, HB2.out⟩
theorem headBudget {A : Where} {w : World} {c : List Value} {x : BudgetD} (h : RBudget A w c x) : ∃ r, c = .string x.1 :: r := by
 obtain ⟨c1, d, rfl, ⟨rfl, _⟩, _⟩ := h
 exact ⟨d, rfl⟩
theorem Budget_named (c : List Value) (A : Where) (x : BudgetD) (w : World) (h : RBudget A w c x) : Calls prog 309 #[.agg #[], .agg c.toArray] w fun e w' => e = .returned (.string x.1) ∧ Below w.heap.size w w' := by
 obtain ⟨r, rfl⟩ := headBudget h
 exact Budget_name x.1 r w
theorem Budget_kname (p c q : List Value) (x : BudgetD) (A : Where) (w : World) (h : Hid (RBudget A w c x)) (hp : p.length = 37) (hall : (p ++ (c ++ q)).length = 40) : Calls prog 317 #[.agg #[.iface 157 (.agg #[])], .agg (p ++ (c ++ q)).toArray] w fun e w' => e = .returned (.string x.1) ∧ Below w.heap.size w w' := by
 have hi : (prog.info? 46).map (·.size) = some (p ++ (c ++ q)).length := by rw [hall]; exact infoObj
 have HH : Hid (Held w [(w.heap.size + 1, p ++ (c ++ q)), (w.heap.size, [.iface 157 (.agg #[])])] [] ((w.alloc (.cells #[.iface 157 (.agg #[])] 161)).alloc (.cells (p ++ (c ++ q)).toArray 46))) := ((Held.start w).push rfl [.iface 157 (.agg #[])] 161).push (by simp) (p ++ (c ++ q)) 46
 have hc := RBudget.firm.len h.out
 have h1 := RBudget.firm.one h.out
 go_enter func317, ntmps317
 go_wp2_with fail
 refine t0 (Held w [(w.heap.size + 1, p ++ (c ++ q)), (w.heap.size, [.iface 157 (.agg #[])])] []) (HH.out.drew) (fun hH => ?_)
 refine tp 0 ?_; try go_frame
 refine' tk 1 ?_ ?_; rotate_left
 ·
  intro u hu; have hc0 := Held.cell hu 1 rfl 0 rfl; clear hu; go_simp; try with_reducible rfl
 try go_frame
 refine tp 2 ?_; try go_frame
 refine' tk 3 ?_ ?_; rotate_left
 ·
  intro u hu; have hc0 := Held.cell hu 1 rfl 0 rfl; clear hu; go_simp; try with_reducible rfl
 try go_frame
 refine tq 4 (.agg (p ++ (c ++ q)).toArray) (yieldsIf_load_mid (by rfl) 46 _ rfl (w.heap.size + 1) 0 rfl (p ++ (c ++ q)) _ (fun u hu => Held.get hu 0 rfl) underlying46 rfl hi) ?_ (hi := rfl)
 try go_frame
 refine tp 6 ?_; try go_frame
 refine tp 7 ?_; try go_frame
 refine tr 5 (fun K hK => ?_)
 refine want_yes (by rfl) (call_enter (f := 308) (args := #[.agg #[], .agg (p ++ (c ++ q)).toArray]) (by kernel_rfl) (Budget_member p c q hp hc h1 _) (fun e u1 he => ?_))
 obtain ⟨rfl, hb1⟩ := he
 have HB1 : Hid (Below w.heap.size w u1) := on2 hH.below hb1
 refine ⟨_, rfl, hK.out _ _ (hH.on hb1) (fun hH => ?_)⟩
 clear hK K
 try go_frame
 refine tr 8 (fun K hK => ?_)
 refine want_yes (by rfl) (call_enter (f := 309) (args := #[.agg #[], .agg c.toArray]) (by kernel_rfl) (Budget_named c A x _ (RBudget.firm.kept h.out (Kept.below HB1.out))) (fun e u1 he => ?_))
 obtain ⟨rfl, hb2⟩ := he
 have HB2 : Hid (Below w.heap.size w u1) := on2 hH.below hb2
 refine ⟨_, rfl, hK.out _ _ (hH.on hb2) (fun hH => ?_)⟩
 clear hK K
 try go_frame
 refine tp 9 ?_; try go_frame
 refine tz ?_
 go_wp2_with fail
 go_ret
 exact ⟨rfl, HB2.out⟩
theorem objParts {A : Where} {w : World} {cs : List Value} {x : ObjectD} (h : RObject A w cs x) : ∃ cp cn cv cm cl cb, cs = [.int .i64 x.1] ++ (cp ++ (cn ++ (cv ++ (cm ++ (cl ++ cb))))) ∧ RPod A w cp x.2.1 ∧ RNode A w cn x.2.2.1 ∧ RVolume A w cv x.2.2.2.1 ∧ RClaim A w cm x.2.2.2.2.1 ∧ RClass A w cl x.2.2.2.2.2.1 ∧ RBudget A w cb x.2.2.2.2.2.2 := by
 obtain ⟨c0, d0, rfl, rfl, cp, d1, rfl, h0, cn, d2, rfl, h1, cv, d3, rfl, h2, cm, d4, rfl, h3, cl, cb, rfl, h4, h5⟩ := h
 exact ⟨cp, cn, cv, cm, cl, cb, rfl, h0, h1, h2, h3, h4, h5⟩
theorem obj0 {A : Where} {w : World} {cs : List Value} {x : ObjectD} (h : RObject A w cs x) : cs[0]? = some (.int .i64 x.1) := by
 obtain ⟨cp, cn, cv, cm, cl, cb, rfl, _⟩ := objParts h
 rfl
theorem partPod {A : Where} {w : World} {cs : List Value} {x : ObjectD} (h : RObject A w cs x) : ∃ p c q, cs = p ++ (c ++ q) ∧ p.length = 1 ∧ RPod A w c x.2.1 := by
 obtain ⟨cp, cn, cv, cm, cl, cb, rfl, h0, h1, h2, h3, h4, h5⟩ := objParts h
 exact ⟨[.int .i64 x.1], cp, cn ++ (cv ++ (cm ++ (cl ++ (cb)))), by simp [List.append_assoc], by simp only [List.length_append, List.length_cons, List.length_nil], h0⟩
theorem Pod_oright (cs : List Value) (A : Where) (x : ObjectD) (w : World) (h : RObject A w cs x) : Calls prog 159 #[.agg #[.iface 132 (.agg #[])], .agg cs.toArray] w fun e w' => e = .returned (.bool (rightPod x.2.1)) ∧ Below w.heap.size w w' := by
 have hl := RObject.firm.len h
 obtain ⟨p, c, q, rfl, hp, hr⟩ := partPod h
 exact Pod_kright p c q _ A w hr hp hl
theorem Pod_oblank (cs : List Value) (A : Where) (x : ObjectD) (w : World) (h : RObject A w cs x) : Calls prog 153 #[.agg #[.iface 132 (.agg #[])], .agg cs.toArray] w fun e w' => e = .returned (.bool (blankPod x.2.1)) ∧ Below w.heap.size w w' := by
 have hl := RObject.firm.len h
 obtain ⟨p, c, q, rfl, hp, hr⟩ := partPod h
 exact Pod_kblank p c q _ A w hr hp hl
theorem Pod_oname (cs : List Value) (A : Where) (x : ObjectD) (w : World) (h : RObject A w cs x) : Calls prog 156 #[.agg #[.iface 132 (.agg #[])], .agg cs.toArray] w fun e w' => e = .returned (.string x.2.1.1) ∧ Below w.heap.size w w' := by
 have hl := RObject.firm.len h
 obtain ⟨p, c, q, rfl, hp, hr⟩ := partPod h
 exact Pod_kname p c q _ A w hr hp hl
theorem partNode {A : Where} {w : World} {cs : List Value} {x : ObjectD} (h : RObject A w cs x) : ∃ p c q, cs = p ++ (c ++ q) ∧ p.length = 17 ∧ RNode A w c x.2.2.1 := by
 obtain ⟨cp, cn, cv, cm, cl, cb, rfl, h0, h1, h2, h3, h4, h5⟩ := objParts h
 exact ⟨[.int .i64 x.1] ++ cp, cn, cv ++ (cm ++ (cl ++ (cb))), by simp [List.append_assoc], by simp only [List.length_append, List.length_cons, List.length_nil, RPod.firm.len h0], h1⟩
theorem Node_oright (cs : List Value) (A : Where) (x : ObjectD) (w : World) (h : RObject A w cs x) : Calls prog 196 #[.agg #[.iface 137 (.agg #[])], .agg cs.toArray] w fun e w' => e = .returned (.bool (rightNode x.2.2.1)) ∧ Below w.heap.size w w' := by
 have hl := RObject.firm.len h
 obtain ⟨p, c, q, rfl, hp, hr⟩ := partNode h
 exact Node_kright p c q _ A w hr hp hl
theorem Node_oblank (cs : List Value) (A : Where) (x : ObjectD) (w : World) (h : RObject A w cs x) : Calls prog 190 #[.agg #[.iface 137 (.agg #[])], .agg cs.toArray] w fun e w' => e = .returned (.bool (blankNode x.2.2.1)) ∧ Below w.heap.size w w' := by
 have hl := RObject.firm.len h
 obtain ⟨p, c, q, rfl, hp, hr⟩ := partNode h
 exact Node_kblank p c q _ A w hr hp hl
theorem Node_oname (cs : List Value) (A : Where) (x : ObjectD) (w : World) (h : RObject A w cs x) : Calls prog 193 #[.agg #[.iface 137 (.agg #[])], .agg cs.toArray] w fun e w' => e = .returned (.string x.2.2.1.1) ∧ Below w.heap.size w w' := by
 have hl := RObject.firm.len h
 obtain ⟨p, c, q, rfl, hp, hr⟩ := partNode h
 exact Node_kname p c q _ A w hr hp hl
theorem partVolume {A : Where} {w : World} {cs : List Value} {x : ObjectD} (h : RObject A w cs x) : ∃ p c q, cs = p ++ (c ++ q) ∧ p.length = 26 ∧ RVolume A w c x.2.2.2.1 := by
 obtain ⟨cp, cn, cv, cm, cl, cb, rfl, h0, h1, h2, h3, h4, h5⟩ := objParts h
 exact ⟨[.int .i64 x.1] ++ cp ++ cn, cv, cm ++ (cl ++ (cb)), by simp [List.append_assoc], by simp only [List.length_append, List.length_cons, List.length_nil, RPod.firm.len h0, RNode.firm.len h1], h2⟩
theorem Volume_oright (cs : List Value) (A : Where) (x : ObjectD) (w : World) (h : RObject A w cs x) : Calls prog 227 #[.agg #[.iface 142 (.agg #[])], .agg cs.toArray] w fun e w' => e = .returned (.bool (rightVolume x.2.2.2.1)) ∧ Below w.heap.size w w' := by
 have hl := RObject.firm.len h
 obtain ⟨p, c, q, rfl, hp, hr⟩ := partVolume h
 exact Volume_kright p c q _ A w hr hp hl
theorem Volume_oblank (cs : List Value) (A : Where) (x : ObjectD) (w : World) (h : RObject A w cs x) : Calls prog 221 #[.agg #[.iface 142 (.agg #[])], .agg cs.toArray] w fun e w' => e = .returned (.bool (blankVolume x.2.2.2.1)) ∧ Below w.heap.size w w' := by
 have hl := RObject.firm.len h
 obtain ⟨p, c, q, rfl, hp, hr⟩ := partVolume h
 exact Volume_kblank p c q _ A w hr hp hl
theorem Volume_oname (cs : List Value) (A : Where) (x : ObjectD) (w : World) (h : RObject A w cs x) : Calls prog 224 #[.agg #[.iface 142 (.agg #[])], .agg cs.toArray] w fun e w' => e = .returned (.string x.2.2.2.1.1) ∧ Below w.heap.size w w' := by
 have hl := RObject.firm.len h
 obtain ⟨p, c, q, rfl, hp, hr⟩ := partVolume h
 exact Volume_kname p c q _ A w hr hp hl
theorem partClaim {A : Where} {w : World} {cs : List Value} {x : ObjectD} (h : RObject A w cs x) : ∃ p c q, cs = p ++ (c ++ q) ∧ p.length = 31 ∧ RClaim A w c x.2.2.2.2.1 := by
 obtain ⟨cp, cn, cv, cm, cl, cb, rfl, h0, h1, h2, h3, h4, h5⟩ := objParts h
 exact ⟨[.int .i64 x.1] ++ cp ++ cn ++ cv, cm, cl ++ (cb), by simp [List.append_assoc], by simp only [List.length_append, List.length_cons, List.length_nil, RPod.firm.len h0, RNode.firm.len h1, RVolume.firm.len h2], h3⟩
theorem Claim_oright (cs : List Value) (A : Where) (x : ObjectD) (w : World) (h : RObject A w cs x) : Calls prog 258 #[.agg #[.iface 147 (.agg #[])], .agg cs.toArray] w fun e w' => e = .returned (.bool (rightClaim x.2.2.2.2.1)) ∧ Below w.heap.size w w' := by
 have hl := RObject.firm.len h
 obtain ⟨p, c, q, rfl, hp, hr⟩ := partClaim h
 exact Claim_kright p c q _ A w hr hp hl
theorem Claim_oblank (cs : List Value) (A : Where) (x : ObjectD) (w : World) (h : RObject A w cs x) : Calls prog 252 #[.agg #[.iface 147 (.agg #[])], .agg cs.toArray] w fun e w' => e = .returned (.bool (blankClaim x.2.2.2.2.1)) ∧ Below w.heap.size w w' := by
 have hl := RObject.firm.len h
 obtain ⟨p, c, q, rfl, hp, hr⟩ := partClaim h
 exact Claim_kblank p c q _ A w hr hp hl
theorem Claim_oname (cs : List Value) (A : Where) (x : ObjectD) (w : World) (h : RObject A w cs x) : Calls prog 255 #[.agg #[.iface 147 (.agg #[])], .agg cs.toArray] w fun e w' => e = .returned (.string x.2.2.2.2.1.1) ∧ Below w.heap.size w w' := by
 have hl := RObject.firm.len h
 obtain ⟨p, c, q, rfl, hp, hr⟩ := partClaim h
 exact Claim_kname p c q _ A w hr hp hl
theorem partClass {A : Where} {w : World} {cs : List Value} {x : ObjectD} (h : RObject A w cs x) : ∃ p c q, cs = p ++ (c ++ q) ∧ p.length = 35 ∧ RClass A w c x.2.2.2.2.2.1 := by
 obtain ⟨cp, cn, cv, cm, cl, cb, rfl, h0, h1, h2, h3, h4, h5⟩ := objParts h
 exact ⟨[.int .i64 x.1] ++ cp ++ cn ++ cv ++ cm, cl, cb, by simp [List.append_assoc], by simp only [List.length_append, List.length_cons, List.length_nil, RPod.firm.len h0, RNode.firm.len h1, RVolume.firm.len h2, RClaim.firm.len h3], h4⟩
theorem Class_oright (cs : List Value) (A : Where) (x : ObjectD) (w : World) (h : RObject A w cs x) : Calls prog 289 #[.agg #[.iface 152 (.agg #[])], .agg cs.toArray] w fun e w' => e = .returned (.bool (rightClass x.2.2.2.2.2.1)) ∧ Below w.heap.size w w' := by
 have hl := RObject.firm.len h
 obtain ⟨p, c, q, rfl, hp, hr⟩ := partClass h
 exact Class_kright p c q _ A w hr hp hl
theorem Class_oblank (cs : List Value) (A : Where) (x : ObjectD) (w : World) (h : RObject A w cs x) : Calls prog 283 #[.agg #[.iface 152 (.agg #[])], .agg cs.toArray] w fun e w' => e = .returned (.bool (blankClass x.2.2.2.2.2.1)) ∧ Below w.heap.size w w' := by
 have hl := RObject.firm.len h
 obtain ⟨p, c, q, rfl, hp, hr⟩ := partClass h
 exact Class_kblank p c q _ A w hr hp hl
theorem Class_oname (cs : List Value) (A : Where) (x : ObjectD) (w : World) (h : RObject A w cs x) : Calls prog 286 #[.agg #[.iface 152 (.agg #[])], .agg cs.toArray] w fun e w' => e = .returned (.string x.2.2.2.2.2.1.1) ∧ Below w.heap.size w w' := by
 have hl := RObject.firm.len h
 obtain ⟨p, c, q, rfl, hp, hr⟩ := partClass h
 exact Class_kname p c q _ A w hr hp hl
theorem partBudget {A : Where} {w : World} {cs : List Value} {x : ObjectD} (h : RObject A w cs x) : ∃ p c q, cs = p ++ (c ++ q) ∧ p.length = 37 ∧ RBudget A w c x.2.2.2.2.2.2 := by
 obtain ⟨cp, cn, cv, cm, cl, cb, rfl, h0, h1, h2, h3, h4, h5⟩ := objParts h
 exact ⟨[.int .i64 x.1] ++ cp ++ cn ++ cv ++ cm ++ cl, cb, [], by simp [List.append_assoc], by simp only [List.length_append, List.length_cons, List.length_nil, RPod.firm.len h0, RNode.firm.len h1, RVolume.firm.len h2, RClaim.firm.len h3, RClass.firm.len h4], h5⟩
theorem Budget_oright (cs : List Value) (A : Where) (x : ObjectD) (w : World) (h : RObject A w cs x) : Calls prog 320 #[.agg #[.iface 157 (.agg #[])], .agg cs.toArray] w fun e w' => e = .returned (.bool (rightBudget x.2.2.2.2.2.2)) ∧ Below w.heap.size w w' := by
 have hl := RObject.firm.len h
 obtain ⟨p, c, q, rfl, hp, hr⟩ := partBudget h
 exact Budget_kright p c q _ A w hr hp hl
theorem Budget_oblank (cs : List Value) (A : Where) (x : ObjectD) (w : World) (h : RObject A w cs x) : Calls prog 314 #[.agg #[.iface 157 (.agg #[])], .agg cs.toArray] w fun e w' => e = .returned (.bool (blankBudget x.2.2.2.2.2.2)) ∧ Below w.heap.size w w' := by
 have hl := RObject.firm.len h
 obtain ⟨p, c, q, rfl, hp, hr⟩ := partBudget h
 exact Budget_kblank p c q _ A w hr hp hl
theorem Budget_oname (cs : List Value) (A : Where) (x : ObjectD) (w : World) (h : RObject A w cs x) : Calls prog 317 #[.agg #[.iface 157 (.agg #[])], .agg cs.toArray] w fun e w' => e = .returned (.string x.2.2.2.2.2.2.1) ∧ Below w.heap.size w w' := by
 have hl := RObject.firm.len h
 obtain ⟨p, c, q, rfl, hp, hr⟩ := partBudget h
 exact Budget_kname p c q _ A w hr hp hl
def okO (x : ObjectD) (j : Nat) : Bool := match j with
 | 0 => (x.1 == 1) || blankPod x.2.1
 | 1 => (x.1 == 2) || blankNode x.2.2.1
 | 2 => (x.1 == 3) || blankVolume x.2.2.2.1
 | 3 => (x.1 == 4) || blankClaim x.2.2.2.2.1
 | 4 => (x.1 == 5) || blankClass x.2.2.2.2.2.1
 | 5 => (x.1 == 6) || blankBudget x.2.2.2.2.2.2
 | _ => true
def othersB (x : ObjectD) : Bool := allTo 6 (okO x)
theorem kinds_calls (w : World) : Calls prog 46 #[] w fun e w' => e = .returned (.slice (some ⟨w.heap.size, 0, none⟩) 6 6) ∧ w' = w.alloc (.cells #[.iface 136 (.agg #[.iface 132 (.agg #[])]), .iface 141 (.agg #[.iface 137 (.agg #[])]), .iface 146 (.agg #[.iface 142 (.agg #[])]), .iface 151 (.agg #[.iface 147 (.agg #[])]), .iface 156 (.agg #[.iface 152 (.agg #[])]), .iface 161 (.agg #[.iface 157 (.agg #[])])] 84) := by
 go_enter func46, ntmps46
 go_wp2_with fail
 go_ret
 exact ⟨rfl, rfl⟩
theorem othersBlank_calls (cs : List Value) (A : Where) (x : ObjectD) (w : World) (h : Hid (RObject A w cs x)) : Calls prog 34 #[.agg cs.toArray] w fun e w' => e = .returned (.bool (othersB x)) ∧ Below w.heap.size w w' := by
 have hi : (prog.info? 46).map (·.size) = some cs.length := by rw [RObject.firm.len h.out]; exact infoObj
 have H0 : Hid (cs[0]? = some (.int .i64 x.1)) := obj0 h.out
 obtain ⟨U0, hU0⟩ : ∃ U0, U0 = w.alloc (.cells cs.toArray 46) := ⟨_, rfl⟩
 have HS0 : Hid (U0.heap.size = w.heap.size + 1) := by rw [Hid, hU0]; simp
 have HH0 : Hid (Held w [(w.heap.size, cs)] [] U0) := by rw [Hid, hU0]; exact (Held.start w).push rfl cs _
 go_enter func34, ntmps34
 go_wp2_with fail
 rw [← hU0]
 clear hU0
 refine (kinds_calls _).mono ?_
 rintro e u1 ⟨rfl, hu1⟩
 have HH1 : Hid (Held w [(w.heap.size + 1, [.iface 136 (.agg #[.iface 132 (.agg #[])]), .iface 141 (.agg #[.iface 137 (.agg #[])]), .iface 146 (.agg #[.iface 142 (.agg #[])]), .iface 151 (.agg #[.iface 147 (.agg #[])]), .iface 156 (.agg #[.iface 152 (.agg #[])]), .iface 161 (.agg #[.iface 157 (.agg #[])])]), (w.heap.size, cs)] [] u1) := by rw [Hid, hu1]; exact HH0.out.push HS0.out [.iface 136 (.agg #[.iface 132 (.agg #[])]), .iface 141 (.agg #[.iface 137 (.agg #[])]), .iface 146 (.agg #[.iface 142 (.agg #[])]), .iface 151 (.agg #[.iface 147 (.agg #[])]), .iface 156 (.agg #[.iface 152 (.agg #[])]), .iface 161 (.agg #[.iface 157 (.agg #[])])] _
 rw [HS0.out]
 clear hu1 HH0 HS0
 go_wp2_with fail
 go_loopw [7] (fun i wr => ∃ k : Nat, k ≤ 6 ∧ i = .int .i64 k ∧ Hid (Held w [(w.heap.size + 1, [.iface 136 (.agg #[.iface 132 (.agg #[])]), .iface 141 (.agg #[.iface 137 (.agg #[])]), .iface 146 (.agg #[.iface 142 (.agg #[])]), .iface 151 (.agg #[.iface 147 (.agg #[])]), .iface 156 (.agg #[.iface 152 (.agg #[])]), .iface 161 (.agg #[.iface 157 (.agg #[])])]), (w.heap.size, cs)] [] wr) ∧ Hid (∀ j, j < k → okO x j = true)) (fun i _ => 6 - (intOf i).toNat)
 case atStart => exact ⟨0, Nat.zero_le _, rfl, HH1, fun j hj => absurd hj (Nat.not_lt_zero _)⟩
 case round =>
  obtain ⟨k, hk, rfl, hH, hall⟩ := hrel
  clear HH1
  have HR : Hid (wr.rangeAt w.heap.size 0 cs) := hH.out.get 1 rfl
  have hk0 : wr.cell? ⟨w.heap.size, 0, none⟩ = some (.int .i64 x.1) := by have := hH.out.cell 1 (b := w.heap.size) rfl 0 H0.out; exact this
  have hkl := hH.out.lt 1 (b := w.heap.size) rfl
  have HO : Hid (RObject A wr cs x) := RObject.firm.kept h.out (Kept.below hH.out.below)
  have hgo : ∀ m, m = k → okO x m = true → Hid (∀ j, j < k + 1 → okO x j = true) := fun m hm hb j hj => by
   rcases Nat.lt_succ_iff_lt_or_eq.1 hj with h' | h'
   ·
    exact hall.out j h'
   ·
    rw [h', ← hm]; exact hb
  have HGO : Hid (∀ m, m = k → okO x m = true → Hid (∀ j, j < k + 1 → okO x j = true)) := hgo
  have HBAD : Hid (k < 6 → okO x k = false → othersB x = false) := fun h1 h2 => allTo_false h1 h2
  have HEND : Hid (k = 6 → othersB x = true) := fun h1 => allTo_true (fun j hj => hall.out j (by omega))
  clear hall hgo
  have hcase : k = 0 ∨ k = 1 ∨ k = 2 ∨ k = 3 ∨ k = 4 ∨ k = 5 ∨ k = 6 := by omega
  clear hk
  rcases hcase with rfl | rfl | rfl | rfl | rfl | rfl | rfl
  ·
   have hc0 := hH.out.cell 0 (b := w.heap.size + 1) rfl 0 rfl
   have hcl := hH.out.lt 0 (b := w.heap.size + 1) rfl
   by_cases he : x.1 = 1
   ·
    have HG : Hid (∀ j, j < 0 + 1 → okO x j = true) := HGO.out 0 rfl (by simp [okO, he])
    have ht : ((1 : Int) != x.1) = false := by rw [he]; rfl
    clear HGO HBAD HEND he
    go_wp2_with fail
    go_roundw
    case rel => exact ⟨1, by omega, by go_num, hH, HG⟩
    case measure => simp [intOf]
   ·
    have ht : ((1 : Int) != x.1) = true := by rw [bne_iff_ne]; exact fun e => he e.symm
    have HC := Pod_oblank cs A x wr HO.out
    have HV : Hid (okO x 0 = blankPod x.2.1) := by simp [Hid, okO, he]
    generalize blankPod x.2.1 = r at HC HV
    clear he
    go_wp2_with (first | (refine BigFrame.wpList_want rfl (fun _ hKK => wp_load_mid 46 _ rfl w.heap.size 0 rfl cs _ HR.out underlying46 rfl hi (hKK _ _ ?_))) | fail)
    refine HC.mono ?_
    rintro e wr2 ⟨rfl, hb2⟩
    have HH2 : Hid (Held w [(w.heap.size + 1, [.iface 136 (.agg #[.iface 132 (.agg #[])]), .iface 141 (.agg #[.iface 137 (.agg #[])]), .iface 146 (.agg #[.iface 142 (.agg #[])]), .iface 151 (.agg #[.iface 147 (.agg #[])]), .iface 156 (.agg #[.iface 152 (.agg #[])]), .iface 161 (.agg #[.iface 157 (.agg #[])])]), (w.heap.size, cs)] [] wr2) := hH.out.on hb2
    cases r
    ·
     have HF : Hid (othersB x = false) := HBAD.out (by omega) HV.out
     clear HGO HBAD HEND hc0 hcl hk0 hkl
     go_wp2_with fail
     go_ret
     exact ⟨retb HF.out.symm, HH2.out.below⟩
    ·
     have HG : Hid (∀ j, j < 0 + 1 → okO x j = true) := HGO.out 0 rfl HV.out
     clear HGO HBAD HEND hc0 hcl hk0 hkl
     go_wp2_with fail
     go_roundw
     case rel => exact ⟨1, by omega, by go_num, HH2, HG⟩
     case measure => simp [intOf]
  ·
   have hc0 := hH.out.cell 0 (b := w.heap.size + 1) rfl 1 rfl
   have hcl := hH.out.lt 0 (b := w.heap.size + 1) rfl
   by_cases he : x.1 = 2
   ·
    have HG : Hid (∀ j, j < 1 + 1 → okO x j = true) := HGO.out 1 rfl (by simp [okO, he])
    have ht : ((2 : Int) != x.1) = false := by rw [he]; rfl
    clear HGO HBAD HEND he
    go_wp2_with fail
    go_roundw
    case rel => exact ⟨2, by omega, by go_num, hH, HG⟩
    case measure => simp [intOf]
   ·
    have ht : ((2 : Int) != x.1) = true := by rw [bne_iff_ne]; exact fun e => he e.symm
    have HC := Node_oblank cs A x wr HO.out
    have HV : Hid (okO x 1 = blankNode x.2.2.1) := by simp [Hid, okO, he]
    generalize blankNode x.2.2.1 = r at HC HV
    clear he
    go_wp2_with (first | (refine BigFrame.wpList_want rfl (fun _ hKK => wp_load_mid 46 _ rfl w.heap.size 0 rfl cs _ HR.out underlying46 rfl hi (hKK _ _ ?_))) | fail)
    refine HC.mono ?_
    rintro e wr2 ⟨rfl, hb2⟩
    have HH2 : Hid (Held w [(w.heap.size + 1, [.iface 136 (.agg #[.iface 132 (.agg #[])]), .iface 141 (.agg #[.iface 137 (.agg #[])]), .iface 146 (.agg #[.iface 142 (.agg #[])]), .iface 151 (.agg #[.iface 147 (.agg #[])]), .iface 156 (.agg #[.iface 152 (.agg #[])]), .iface 161 (.agg #[.iface 157 (.agg #[])])]), (w.heap.size, cs)] [] wr2) := hH.out.on hb2
    cases r
    ·
     have HF : Hid (othersB x = false) := HBAD.out (by omega) HV.out
     clear HGO HBAD HEND hc0 hcl hk0 hkl
     go_wp2_with fail
     go_ret
     exact ⟨retb HF.out.symm, HH2.out.below⟩
    ·
     have HG : Hid (∀ j, j < 1 + 1 → okO x j = true) := HGO.out 1 rfl HV.out
     clear HGO HBAD HEND hc0 hcl hk0 hkl
     go_wp2_with fail
     go_roundw
     case rel => exact ⟨2, by omega, by go_num, HH2, HG⟩
     case measure => simp [intOf]
  ·
   have hc0 := hH.out.cell 0 (b := w.heap.size + 1) rfl 2 rfl
   have hcl := hH.out.lt 0 (b := w.heap.size + 1) rfl
   by_cases he : x.1 = 3
   ·
    have HG : Hid (∀ j, j < 2 + 1 → okO x j = true) := HGO.out 2 rfl (by simp [okO, he])
    have ht : ((3 : Int) != x.1) = false := by rw [he]; rfl
    clear HGO HBAD HEND he
    go_wp2_with fail
    go_roundw
    case rel => exact ⟨3, by omega, by go_num, hH, HG⟩
    case measure => simp [intOf]
   ·
    have ht : ((3 : Int) != x.1) = true := by rw [bne_iff_ne]; exact fun e => he e.symm
    have HC := Volume_oblank cs A x wr HO.out
    have HV : Hid (okO x 2 = blankVolume x.2.2.2.1) := by simp [Hid, okO, he]
    generalize blankVolume x.2.2.2.1 = r at HC HV
    clear he
    go_wp2_with (first | (refine BigFrame.wpList_want rfl (fun _ hKK => wp_load_mid 46 _ rfl w.heap.size 0 rfl cs _ HR.out underlying46 rfl hi (hKK _ _ ?_))) | fail)
    refine HC.mono ?_
    rintro e wr2 ⟨rfl, hb2⟩
    have HH2 : Hid (Held w [(w.heap.size + 1, [.iface 136 (.agg #[.iface 132 (.agg #[])]), .iface 141 (.agg #[.iface 137 (.agg #[])]), .iface 146 (.agg #[.iface 142 (.agg #[])]), .iface 151 (.agg #[.iface 147 (.agg #[])]), .iface 156 (.agg #[.iface 152 (.agg #[])]), .iface 161 (.agg #[.iface 157 (.agg #[])])]), (w.heap.size, cs)] [] wr2) := hH.out.on hb2
    cases r
    ·
     have HF : Hid (othersB x = false) := HBAD.out (by omega) HV.out
     clear HGO HBAD HEND hc0 hcl hk0 hkl
     go_wp2_with fail
     go_ret
     exact ⟨retb HF.out.symm, HH2.out.below⟩
    ·
     have HG : Hid (∀ j, j < 2 + 1 → okO x j = true) := HGO.out 2 rfl HV.out
     clear HGO HBAD HEND hc0 hcl hk0 hkl
     go_wp2_with fail
     go_roundw
     case rel => exact ⟨3, by omega, by go_num, HH2, HG⟩
     case measure => simp [intOf]
  ·
   have hc0 := hH.out.cell 0 (b := w.heap.size + 1) rfl 3 rfl
   have hcl := hH.out.lt 0 (b := w.heap.size + 1) rfl
   by_cases he : x.1 = 4
   ·
    have HG : Hid (∀ j, j < 3 + 1 → okO x j = true) := HGO.out 3 rfl (by simp [okO, he])
    have ht : ((4 : Int) != x.1) = false := by rw [he]; rfl
    clear HGO HBAD HEND he
    go_wp2_with fail
    go_roundw
    case rel => exact ⟨4, by omega, by go_num, hH, HG⟩
    case measure => simp [intOf]
   ·
    have ht : ((4 : Int) != x.1) = true := by rw [bne_iff_ne]; exact fun e => he e.symm
    have HC := Claim_oblank cs A x wr HO.out
    have HV : Hid (okO x 3 = blankClaim x.2.2.2.2.1) := by simp [Hid, okO, he]
    generalize blankClaim x.2.2.2.2.1 = r at HC HV
    clear he
    go_wp2_with (first | (refine BigFrame.wpList_want rfl (fun _ hKK => wp_load_mid 46 _ rfl w.heap.size 0 rfl cs _ HR.out underlying46 rfl hi (hKK _ _ ?_))) | fail)
    refine HC.mono ?_
    rintro e wr2 ⟨rfl, hb2⟩
    have HH2 : Hid (Held w [(w.heap.size + 1, [.iface 136 (.agg #[.iface 132 (.agg #[])]), .iface 141 (.agg #[.iface 137 (.agg #[])]), .iface 146 (.agg #[.iface 142 (.agg #[])]), .iface 151 (.agg #[.iface 147 (.agg #[])]), .iface 156 (.agg #[.iface 152 (.agg #[])]), .iface 161 (.agg #[.iface 157 (.agg #[])])]), (w.heap.size, cs)] [] wr2) := hH.out.on hb2
    cases r
    ·
     have HF : Hid (othersB x = false) := HBAD.out (by omega) HV.out
     clear HGO HBAD HEND hc0 hcl hk0 hkl
     go_wp2_with fail
     go_ret
     exact ⟨retb HF.out.symm, HH2.out.below⟩
    ·
     have HG : Hid (∀ j, j < 3 + 1 → okO x j = true) := HGO.out 3 rfl HV.out
     clear HGO HBAD HEND hc0 hcl hk0 hkl
     go_wp2_with fail
     go_roundw
     case rel => exact ⟨4, by omega, by go_num, HH2, HG⟩
     case measure => simp [intOf]
  ·
   have hc0 := hH.out.cell 0 (b := w.heap.size + 1) rfl 4 rfl
   have hcl := hH.out.lt 0 (b := w.heap.size + 1) rfl
   by_cases he : x.1 = 5
   ·
    have HG : Hid (∀ j, j < 4 + 1 → okO x j = true) := HGO.out 4 rfl (by simp [okO, he])
    have ht : ((5 : Int) != x.1) = false := by rw [he]; rfl
    clear HGO HBAD HEND he
    go_wp2_with fail
    go_roundw
    case rel => exact ⟨5, by omega, by go_num, hH, HG⟩
    case measure => simp [intOf]
   ·
    have ht : ((5 : Int) != x.1) = true := by rw [bne_iff_ne]; exact fun e => he e.symm
    have HC := Class_oblank cs A x wr HO.out
    have HV : Hid (okO x 4 = blankClass x.2.2.2.2.2.1) := by simp [Hid, okO, he]
    generalize blankClass x.2.2.2.2.2.1 = r at HC HV
    clear he
    go_wp2_with (first | (refine BigFrame.wpList_want rfl (fun _ hKK => wp_load_mid 46 _ rfl w.heap.size 0 rfl cs _ HR.out underlying46 rfl hi (hKK _ _ ?_))) | fail)
    refine HC.mono ?_
    rintro e wr2 ⟨rfl, hb2⟩
    have HH2 : Hid (Held w [(w.heap.size + 1, [.iface 136 (.agg #[.iface 132 (.agg #[])]), .iface 141 (.agg #[.iface 137 (.agg #[])]), .iface 146 (.agg #[.iface 142 (.agg #[])]), .iface 151 (.agg #[.iface 147 (.agg #[])]), .iface 156 (.agg #[.iface 152 (.agg #[])]), .iface 161 (.agg #[.iface 157 (.agg #[])])]), (w.heap.size, cs)] [] wr2) := hH.out.on hb2
    cases r
    ·
     have HF : Hid (othersB x = false) := HBAD.out (by omega) HV.out
     clear HGO HBAD HEND hc0 hcl hk0 hkl
     go_wp2_with fail
     go_ret
     exact ⟨retb HF.out.symm, HH2.out.below⟩
    ·
     have HG : Hid (∀ j, j < 4 + 1 → okO x j = true) := HGO.out 4 rfl HV.out
     clear HGO HBAD HEND hc0 hcl hk0 hkl
     go_wp2_with fail
     go_roundw
     case rel => exact ⟨5, by omega, by go_num, HH2, HG⟩
     case measure => simp [intOf]
  ·
   have hc0 := hH.out.cell 0 (b := w.heap.size + 1) rfl 5 rfl
   have hcl := hH.out.lt 0 (b := w.heap.size + 1) rfl
   by_cases he : x.1 = 6
   ·
    have HG : Hid (∀ j, j < 5 + 1 → okO x j = true) := HGO.out 5 rfl (by simp [okO, he])
    have ht : ((6 : Int) != x.1) = false := by rw [he]; rfl
    clear HGO HBAD HEND he
    go_wp2_with fail
    go_roundw
    case rel => exact ⟨6, by omega, by go_num, hH, HG⟩
    case measure => simp [intOf]
   ·
    have ht : ((6 : Int) != x.1) = true := by rw [bne_iff_ne]; exact fun e => he e.symm
    have HC := Budget_oblank cs A x wr HO.out
    have HV : Hid (okO x 5 = blankBudget x.2.2.2.2.2.2) := by simp [Hid, okO, he]
    generalize blankBudget x.2.2.2.2.2.2 = r at HC HV
    clear he
    go_wp2_with (first | (refine BigFrame.wpList_want rfl (fun _ hKK => wp_load_mid 46 _ rfl w.heap.size 0 rfl cs _ HR.out underlying46 rfl hi (hKK _ _ ?_))) | fail)
    refine HC.mono ?_
    rintro e wr2 ⟨rfl, hb2⟩
    have HH2 : Hid (Held w [(w.heap.size + 1, [.iface 136 (.agg #[.iface 132 (.agg #[])]), .iface 141 (.agg #[.iface 137 (.agg #[])]), .iface 146 (.agg #[.iface 142 (.agg #[])]), .iface 151 (.agg #[.iface 147 (.agg #[])]), .iface 156 (.agg #[.iface 152 (.agg #[])]), .iface 161 (.agg #[.iface 157 (.agg #[])])]), (w.heap.size, cs)] [] wr2) := hH.out.on hb2
    cases r
    ·
     have HF : Hid (othersB x = false) := HBAD.out (by omega) HV.out
     clear HGO HBAD HEND hc0 hcl hk0 hkl
     go_wp2_with fail
     go_ret
     exact ⟨retb HF.out.symm, HH2.out.below⟩
    ·
     have HG : Hid (∀ j, j < 5 + 1 → okO x j = true) := HGO.out 5 rfl HV.out
     clear HGO HBAD HEND hc0 hcl hk0 hkl
     go_wp2_with fail
     go_roundw
     case rel => exact ⟨6, by omega, by go_num, HH2, HG⟩
     case measure => simp [intOf]
  ·
   have HF : Hid (othersB x = true) := HEND.out rfl
   clear HGO HBAD HEND
   go_wp2_with fail
   go_ret
   exact ⟨retb HF.out.symm, hH.out.below⟩
end Go.Proofs.YtikncmcceeacmaaGreat

