/- kept.right, blank, name, count at Pod, and its like. No condition beyond what each says. -/
import Derived.Shelf.Abstract
import Derived.Test.YtikncmcceeacmaaGreatQ09
namespace Go.Proofs.YtikncmcceeacmaaGreat
set_option maxHeartbeats 16000000
set_option maxRecDepth 100000
open Tryz Go.RowKit
set_option linter.unusedSimpArgs false
theorem Pod_kright (p c q : List Value) (x : PodD) (A : Where) (w : World) (h : Hid (RPod A w c x)) (hp : p.length = 1) (hall : (p ++ (c ++ q)).length = 40) : Calls prog 159 #[.agg #[.iface 132 (.agg #[])], .agg (p ++ (c ++ q)).toArray] w fun e w' => e = .returned (.bool (rightPod x)) ∧ Below w.heap.size w w' := by
 have hi : (prog.info? 46).map (·.size) = some (p ++ (c ++ q)).length := by rw [hall]; exact infoObj
 have HH : Hid (Held w [(w.heap.size + 1, p ++ (c ++ q)), (w.heap.size, [.iface 132 (.agg #[])])] [] ((w.alloc (.cells #[.iface 132 (.agg #[])] 136)).alloc (.cells (p ++ (c ++ q)).toArray 46))) := ((Held.start w).push rfl [.iface 132 (.agg #[])] 136).push (by simp) (p ++ (c ++ q)) 46
 have hc := RPod.firm.len h.out
 have h1 := RPod.firm.one h.out
 go_enter func159, ntmps159
 go_wp2_with fail
 refine t0 (Held w [(w.heap.size + 1, p ++ (c ++ q)), (w.heap.size, [.iface 132 (.agg #[])])] []) (HH.out.drew) (fun hH => ?_)
 refine tp 0 ?_; try go_frame
 refine' tk 1 ?_ ?_; rotate_left
 ·
  intro u hu; have hc0 := Held.cell hu 1 rfl 0 rfl; clear hu; go_simp; try with_reducible rfl
 try go_frame
 refine tp 2 ?_; try go_frame
 refine' tk 3 ?_ ?_; rotate_left
 ·
  intro u hu; have hc0 := Held.cell hu 1 rfl 0 rfl; clear hu; go_simp; try with_reducible rfl
 try go_frame
 refine tq 4 (.agg (p ++ (c ++ q)).toArray) (yieldsIf_load_mid (by rfl) 46 _ rfl (w.heap.size + 1) 0 rfl (p ++ (c ++ q)) _ (fun u hu => Held.get hu 0 rfl) underlying46 rfl hi) ?_ (hi := rfl)
 try go_frame
 refine tp 6 ?_; try go_frame
 refine tp 7 ?_; try go_frame
 refine tr 5 (fun K hK => ?_)
 refine want_yes (by rfl) (call_enter (f := 339) (args := #[.agg #[], .agg (p ++ (c ++ q)).toArray]) (by kernel_rfl) (Pod_member p c q hp hc h1 _) (fun e u1 he => ?_))
 obtain ⟨rfl, hb1⟩ := he
 have HB1 : Hid (Below w.heap.size w u1) := on2 hH.below hb1
 refine ⟨_, rfl, hK.out _ _ (hH.on hb1) (fun hH => ?_)⟩
 clear hK K
 try go_frame
 refine tr 8 (fun K hK => ?_)
 refine want_yes (by rfl) (call_enter (f := 96) (args := #[.agg #[], .agg c.toArray]) (by kernel_rfl) (Pod_right c A x _ (RPod.firm.kept h.out (Kept.below HB1.out))) (fun e u1 he => ?_))
 obtain ⟨rfl, hb2⟩ := he
 have HB2 : Hid (Below w.heap.size w u1) := on2 hH.below hb2
 refine ⟨_, rfl, hK.out _ _ (hH.on hb2) (fun hH => ?_)⟩
 clear hK K
 try go_frame
 refine tp 9 ?_; try go_frame
 refine tz ?_
 go_wp2_with fail
 go_ret
 exact ⟨rfl, HB2.out⟩
theorem Pod_kblank (p c q : List Value) (x : PodD) (A : Where) (w : World) (h : Hid (RPod A w c x)) (hp : p.length = 1) (hall : (p ++ (c ++ q)).length = 40) : Calls prog 153 #[.agg #[.iface 132 (.agg #[])], .agg (p ++ (c ++ q)).toArray] w fun e w' => e = .returned (.bool (blankPod x)) ∧ Below w.heap.size w w' := by
 have hi : (prog.info? 46).map (·.size) = some (p ++ (c ++ q)).length := by rw [hall]; exact infoObj
 have HH : Hid (Held w [(w.heap.size + 1, p ++ (c ++ q)), (w.heap.size, [.iface 132 (.agg #[])])] [] ((w.alloc (.cells #[.iface 132 (.agg #[])] 136)).alloc (.cells (p ++ (c ++ q)).toArray 46))) := ((Held.start w).push rfl [.iface 132 (.agg #[])] 136).push (by simp) (p ++ (c ++ q)) 46
 have hc := RPod.firm.len h.out
 have h1 := RPod.firm.one h.out
 go_enter func153, ntmps153
 go_wp2_with fail
 refine t0 (Held w [(w.heap.size + 1, p ++ (c ++ q)), (w.heap.size, [.iface 132 (.agg #[])])] []) (HH.out.drew) (fun hH => ?_)
 refine tp 0 ?_; try go_frame
 refine' tk 1 ?_ ?_; rotate_left
 ·
  intro u hu; have hc0 := Held.cell hu 1 rfl 0 rfl; clear hu; go_simp; try with_reducible rfl
 try go_frame
 refine tp 2 ?_; try go_frame
 refine' tk 3 ?_ ?_; rotate_left
 ·
  intro u hu; have hc0 := Held.cell hu 1 rfl 0 rfl; clear hu; go_simp; try with_reducible rfl
 try go_frame
 refine tq 4 (.agg (p ++ (c ++ q)).toArray) (yieldsIf_load_mid (by rfl) 46 _ rfl (w.heap.size + 1) 0 rfl (p ++ (c ++ q)) _ (fun u hu => Held.get hu 0 rfl) underlying46 rfl hi) ?_ (hi := rfl)
 try go_frame
 refine tp 6 ?_; try go_frame
 refine tp 7 ?_; try go_frame
 refine tr 5 (fun K hK => ?_)
 refine want_yes (by rfl) (call_enter (f := 339) (args := #[.agg #[], .agg (p ++ (c ++ q)).toArray]) (by kernel_rfl) (Pod_member p c q hp hc h1 _) (fun e u1 he => ?_))
 obtain ⟨rfl, hb1⟩ := he
 have HB1 : Hid (Below w.heap.size w u1) := on2 hH.below hb1
 refine ⟨_, rfl, hK.out _ _ (hH.on hb1) (fun hH => ?_)⟩
 clear hK K
 try go_frame
 refine tr 8 (fun K hK => ?_)
 refine want_yes (by rfl) (call_enter (f := 94) (args := #[.agg #[], .agg c.toArray]) (by kernel_rfl) (Pod_blank c A x _ (RPod.firm.kept h.out (Kept.below HB1.out))) (fun e u1 he => ?_))
 obtain ⟨rfl, hb2⟩ := he
 have HB2 : Hid (Below w.heap.size w u1) := on2 hH.below hb2
 refine ⟨_, rfl, hK.out _ _ (hH.on hb2) (fun hH => ?_)⟩
 clear hK K
 try go_frame
 refine tp 9 ?_; try go_frame
 refine tz ?_
 go_wp2_with fail
 go_ret
 exact ⟨rfl, HB2.out⟩
theorem headPod {A : Where} {w : World} {c : List Value} {x : PodD} (h : RPod A w c x) : ∃ r, c = .string x.1 :: r := by
 obtain ⟨c1, d, rfl, ⟨rfl, _⟩, _⟩ := h
 exact ⟨d, rfl⟩
theorem Pod_named (c : List Value) (A : Where) (x : PodD) (w : World) (h : RPod A w c x) : Calls prog 95 #[.agg #[], .agg c.toArray] w fun e w' => e = .returned (.string x.1) ∧ Below w.heap.size w w' := by
 obtain ⟨r, rfl⟩ := headPod h
 exact Pod_name x.1 r w
theorem Pod_kname (p c q : List Value) (x : PodD) (A : Where) (w : World) (h : Hid (RPod A w c x)) (hp : p.length = 1) (hall : (p ++ (c ++ q)).length = 40) : Calls prog 156 #[.agg #[.iface 132 (.agg #[])], .agg (p ++ (c ++ q)).toArray] w fun e w' => e = .returned (.string x.1) ∧ Below w.heap.size w w' := by
 have hi : (prog.info? 46).map (·.size) = some (p ++ (c ++ q)).length := by rw [hall]; exact infoObj
 have HH : Hid (Held w [(w.heap.size + 1, p ++ (c ++ q)), (w.heap.size, [.iface 132 (.agg #[])])] [] ((w.alloc (.cells #[.iface 132 (.agg #[])] 136)).alloc (.cells (p ++ (c ++ q)).toArray 46))) := ((Held.start w).push rfl [.iface 132 (.agg #[])] 136).push (by simp) (p ++ (c ++ q)) 46
 have hc := RPod.firm.len h.out
 have h1 := RPod.firm.one h.out
 go_enter func156, ntmps156
 go_wp2_with fail
 refine t0 (Held w [(w.heap.size + 1, p ++ (c ++ q)), (w.heap.size, [.iface 132 (.agg #[])])] []) (HH.out.drew) (fun hH => ?_)
 refine tp 0 ?_; try go_frame
 refine' tk 1 ?_ ?_; rotate_left
 ·
  intro u hu; have hc0 := Held.cell hu 1 rfl 0 rfl; clear hu; go_simp; try with_reducible rfl
 try go_frame
 refine tp 2 ?_; try go_frame
 refine' tk 3 ?_ ?_; rotate_left
 ·
  intro u hu; have hc0 := Held.cell hu 1 rfl 0 rfl; clear hu; go_simp; try with_reducible rfl
 try go_frame
 refine tq 4 (.agg (p ++ (c ++ q)).toArray) (yieldsIf_load_mid (by rfl) 46 _ rfl (w.heap.size + 1) 0 rfl (p ++ (c ++ q)) _ (fun u hu => Held.get hu 0 rfl) underlying46 rfl hi) ?_ (hi := rfl)
 try go_frame
 refine tp 6 ?_; try go_frame
 refine tp 7 ?_; try go_frame
 refine tr 5 (fun K hK => ?_)
 refine want_yes (by rfl) (call_enter (f := 339) (args := #[.agg #[], .agg (p ++ (c ++ q)).toArray]) (by kernel_rfl) (Pod_member p c q hp hc h1 _) (fun e u1 he => ?_))
 obtain ⟨rfl, hb1⟩ := he
 have HB1 : Hid (Below w.heap.size w u1) := on2 hH.below hb1
 refine ⟨_, rfl, hK.out _ _ (hH.on hb1) (fun hH => ?_)⟩
 clear hK K
 try go_frame
 refine tr 8 (fun K hK => ?_)
 refine want_yes (by rfl) (call_enter (f := 95) (args := #[.agg #[], .agg c.toArray]) (by kernel_rfl) (Pod_named c A x _ (RPod.firm.kept h.out (Kept.below HB1.out))) (fun e u1 he => ?_))
 obtain ⟨rfl, hb2⟩ := he
 have HB2 : Hid (Below w.heap.size w u1) := on2 hH.below hb2
 refine ⟨_, rfl, hK.out _ _ (hH.on hb2) (fun hH => ?_)⟩
 clear hK K
 try go_frame
 refine tp 9 ?_; try go_frame
 refine tz ?_
 go_wp2_with fail
 go_ret
 exact ⟨rfl, HB2.out⟩
theorem sizNode : (prog.info? 36).map (·.size) = some 9 := by kernel_rfl
theorem Node_member (p c q : List Value) (hp : p.length = 17) (hc : c.length = 9) (h1 : ∀ v ∈ c, v.oneCell' = true) (w : World) : Calls prog 178 #[.agg #[], .agg (p ++ (c ++ q)).toArray] w fun e w' => e = .returned (.agg c.toArray) ∧ Below w.heap.size w w' := by
 have hi : (prog.info? 36).map (·.size) = some c.length := by rw [hc]; exact sizNode
 have Hr : ∀ T z, Hid ((((w.alloc (.cells #[] T)).alloc (.cells (p ++ (c ++ q)).toArray 46)).alloc (.cells z 36)).rangeAt (w.heap.size + 1) 17 c) := fun T z => World.rangeAt_alloc (range_new (by simp) hp) _
 have Ht : ∀ T z, z.size = 9 → Hid ((((w.alloc (.cells #[] T)).alloc (.cells (p ++ (c ++ q)).toArray 46)).alloc (.cells z 36)).there (w.heap.size + 1 + 1) 0 c.toArray.size) := fun T z hz => there_new (by simp) (by simp [hc, hz])
 have h1' := all_oneCell_toArray h1
 have HE : Hid (c.toArray.size = 9) := by simp [Hid, hc]
 clear hp hc h1
 go_enter func178, ntmps178
 go_wp2_with (first | (refine wpList_load_mid rfl 36 _ rfl (w.heap.size + 1) 17 rfl c _ (Hr _ _).out underlying36 rfl hi ?_) | (refine wpList_store_mid rfl 36 _ _ rfl (w.heap.size + 1 + 1) 0 c.toArray rfl rfl (Ht _ _ rfl).out (by simpa using hi) h1' ?_))
 have HT := (Ht 137 #[.string ⟨#[]⟩, Z, Z, .bool false, .int .i64 0, .int .i64 0, .int .i64 0, .int .i64 0, .int .i64 0] rfl).out
 refine bodyPost_ret (v := .agg c.toArray) (res_cell (p := 4) (ty := 36) rfl _ _ (w.heap.size + 1 + 1) c _ rfl (World.rangeAt_setCells_same _ _ _ _ (by simpa using HT)) underlying36 rfl hi) rfl ⟨rfl, below_setCells (by go_grown) (by omega)⟩
theorem Node_right (c : List Value) (A : Where) (x : NodeD) (w : World) (h : Hid (RNode A w c x)) : Calls prog 181 #[.agg #[], .agg c.toArray] w fun e w' => e = .returned (.bool (rightNode x)) ∧ Below w.heap.size w w' := by
 obtain ⟨h1, h2, rfl, _, hl, ht⟩ := h.out.out
 have HL : Hid (SlAt RLabel 2 32 A w h1.1 h1.2.1 h1.2.2 x.2.1) := hl
 have HT : Hid (SlAt RTaint 3 40 A w h2.1 h2.2.1 h2.2.2 x.2.2.1) := ht
 clear h hl ht
 have HH0 : Hid (Held w [(w.heap.size + 1, [.string x.1, J h1, J h2, .bool x.2.2.2.1, .int .i64 x.2.2.2.2.1.1, .int .i64 x.2.2.2.2.1.2.1, .int .i64 x.2.2.2.2.1.2.2, .int .i64 x.2.2.2.2.2.1, .int .i64 x.2.2.2.2.2.2]), (w.heap.size, [])] [] ((w.alloc (.cells #[] 137)).alloc (.cells #[.string x.1, J h1, J h2, .bool x.2.2.2.1, .int .i64 x.2.2.2.2.1.1, .int .i64 x.2.2.2.2.1.2.1, .int .i64 x.2.2.2.2.1.2.2, .int .i64 x.2.2.2.2.2.1, .int .i64 x.2.2.2.2.2.2] 36))) := (((Held.start w).push rfl [] 137).push (by simp) [.string x.1, J h1, J h2, .bool x.2.2.2.1, .int .i64 x.2.2.2.2.1.1, .int .i64 x.2.2.2.2.1.2.1, .int .i64 x.2.2.2.2.1.2.2, .int .i64 x.2.2.2.2.2.1, .int .i64 x.2.2.2.2.2.2] 36)
 obtain ⟨b0, e0⟩ : ∃ b : Bool, wordB x.1 = b := ⟨_, rfl⟩
 obtain ⟨n1, g1⟩ : ∃ n : Int, checkI x.2.1 = n := ⟨_, rfl⟩
 obtain ⟨b1, e1⟩ : ∃ b : Bool, (n1 == 0) = b := ⟨_, rfl⟩
 obtain ⟨n2, g2⟩ : ∃ n : Int, Tn.checkT x.2.2.1 = n := ⟨_, rfl⟩
 obtain ⟨b2, e2⟩ : ∃ b : Bool, (n2 == 0) = b := ⟨_, rfl⟩
 obtain ⟨b3, e3⟩ : ∃ b : Bool, resB x.2.2.2.2.1 = b := ⟨_, rfl⟩
 obtain ⟨b4, e4⟩ : ∃ b : Bool, withinB x.2.2.2.2.2.1 0 1000 = b := ⟨_, rfl⟩
 obtain ⟨b5, e5⟩ : ∃ b : Bool, withinB x.2.2.2.2.2.2 0 1000 = b := ⟨_, rfl⟩
 have HF : Hid (rightNode x = (b0 && b1 && b2 && b3 && b4 && b5)) := by rw [Hid, ← e0, ← e1, ← g1, ← e2, ← g2, ← e3, ← e4, ← e5]; rfl
 have HC0 : Hid (∀ u, Below w.heap.size w u → Calls prog 97 #[.string x.1] u fun e w' => e = .returned (.bool b0) ∧ Below u.heap.size u w') := fun u hu => by rw [← e0]; exact calls_same (Word_calls x.1 _)
 clear e0
 have HC1 : Hid (∀ u, Below w.heap.size w u → Calls prog 99 #[J h1] u fun e w' => e = .returned (.int .i64 n1) ∧ Below u.heap.size u w') := fun u hu => by rw [← g1]; exact labCheck _ _ _ A x.2.1 _ (HL.out.kept RLabel.firm (Kept.below hu))
 clear g1
 have HC2 : Hid (∀ u, Below w.heap.size w u → Calls prog 183 #[J h2] u fun e w' => e = .returned (.int .i64 n2) ∧ Below u.heap.size u w') := fun u hu => by rw [← g2]; exact tntCheck _ _ _ A x.2.2.1 _ (HT.out.kept RTaint.firm (Kept.below hu))
 clear g2
 have HC3 : Hid (∀ u, Below w.heap.size w u → Calls prog 102 #[.agg #[.int .i64 x.2.2.2.2.1.1, .int .i64 x.2.2.2.2.1.2.1, .int .i64 x.2.2.2.2.1.2.2]] u fun e w' => e = .returned (.bool b3) ∧ Below u.heap.size u w') := fun u hu => by rw [← e3]; exact areAmounts_calls x.2.2.2.2.1 _
 clear e3
 have HC4 : Hid (∀ u, Below w.heap.size w u → Calls prog 98 #[.int .i64 x.2.2.2.2.2.1, .int .i64 0, .int .i64 1000] u fun e w' => e = .returned (.bool b4) ∧ Below u.heap.size u w') := fun u hu => by rw [← e4]; exact calls_same (within_calls x.2.2.2.2.2.1 0 1000 _)
 clear e4
 have HC5 : Hid (∀ u, Below w.heap.size w u → Calls prog 98 #[.int .i64 x.2.2.2.2.2.2, .int .i64 0, .int .i64 1000] u fun e w' => e = .returned (.bool b5) ∧ Below u.heap.size u w') := fun u hu => by rw [← e5]; exact calls_same (within_calls x.2.2.2.2.2.2 0 1000 _)
 clear e5
 go_enter func181, ntmps181
 go_wp2_with fail
 refine (HC0.out _ HH0.out.below).mono ?_
 rintro e u1 ⟨rfl, hb1⟩
 have HH1 : Hid (Held w [(w.heap.size + 1, [.string x.1, J h1, J h2, .bool x.2.2.2.1, .int .i64 x.2.2.2.2.1.1, .int .i64 x.2.2.2.2.1.2.1, .int .i64 x.2.2.2.2.1.2.2, .int .i64 x.2.2.2.2.2.1, .int .i64 x.2.2.2.2.2.2]), (w.heap.size, [])] [] u1) := HH0.out.on hb1
 clear hb1 HH0 HC0
 cases b0
 ·
  clear HC1 HC2 HC3 HC4 HC5
  go_wp2_with fail
  go_ret
  exact ⟨retb (by rw [HF.out] <;> simp), HH1.out.below⟩
 have k0_1 := HH1.out.cell 0 (b := w.heap.size + 1) rfl 1 rfl
 have kl0 := HH1.out.lt 0 rfl
 go_wp2_with fail
 clear k0_1 kl0
 refine (HC1.out _ HH1.out.below).mono ?_
 rintro e u2 ⟨rfl, hb2⟩
 have HH2 : Hid (Held w [(w.heap.size + 1, [.string x.1, J h1, J h2, .bool x.2.2.2.1, .int .i64 x.2.2.2.2.1.1, .int .i64 x.2.2.2.2.1.2.1, .int .i64 x.2.2.2.2.1.2.2, .int .i64 x.2.2.2.2.2.1, .int .i64 x.2.2.2.2.2.2]), (w.heap.size, [])] [] u2) := HH1.out.on hb2
 clear hb2 HH1 HC1
 cases b1
 ·
  clear HC2 HC3 HC4 HC5
  go_wp2_with fail
  go_ret
  exact ⟨retb (by rw [HF.out] <;> simp), HH2.out.below⟩
 have k1_2 := HH2.out.cell 0 (b := w.heap.size + 1) rfl 2 rfl
 have kl1 := HH2.out.lt 0 rfl
 go_wp2_with fail
 clear k1_2 kl1
 refine (HC2.out _ HH2.out.below).mono ?_
 rintro e u3 ⟨rfl, hb3⟩
 have HH3 : Hid (Held w [(w.heap.size + 1, [.string x.1, J h1, J h2, .bool x.2.2.2.1, .int .i64 x.2.2.2.2.1.1, .int .i64 x.2.2.2.2.1.2.1, .int .i64 x.2.2.2.2.1.2.2, .int .i64 x.2.2.2.2.2.1, .int .i64 x.2.2.2.2.2.2]), (w.heap.size, [])] [] u3) := HH2.out.on hb3
 clear hb3 HH2 HC2
 cases b2
 ·
  clear HC3 HC4 HC5
  go_wp2_with fail
  go_ret
  exact ⟨retb (by rw [HF.out] <;> simp), HH3.out.below⟩
 have k2_4 := HH3.out.cell 0 (b := w.heap.size + 1) rfl 4 rfl
 have k2_5 := HH3.out.cell 0 (b := w.heap.size + 1) rfl 5 rfl
 have k2_6 := HH3.out.cell 0 (b := w.heap.size + 1) rfl 6 rfl
 have kl2 := HH3.out.lt 0 rfl
 go_wp2_with fail
 clear k2_4 k2_5 k2_6 kl2
 refine (HC3.out _ HH3.out.below).mono ?_
 rintro e u4 ⟨rfl, hb4⟩
 have HH4 : Hid (Held w [(w.heap.size + 1, [.string x.1, J h1, J h2, .bool x.2.2.2.1, .int .i64 x.2.2.2.2.1.1, .int .i64 x.2.2.2.2.1.2.1, .int .i64 x.2.2.2.2.1.2.2, .int .i64 x.2.2.2.2.2.1, .int .i64 x.2.2.2.2.2.2]), (w.heap.size, [])] [] u4) := HH3.out.on hb4
 clear hb4 HH3 HC3
 cases b3
 ·
  clear HC4 HC5
  go_wp2_with fail
  go_ret
  exact ⟨retb (by rw [HF.out] <;> simp), HH4.out.below⟩
 have k3_7 := HH4.out.cell 0 (b := w.heap.size + 1) rfl 7 rfl
 have kl3 := HH4.out.lt 0 rfl
 go_wp2_with fail
 clear k3_7 kl3
 refine (HC4.out _ HH4.out.below).mono ?_
 rintro e u5 ⟨rfl, hb5⟩
 have HH5 : Hid (Held w [(w.heap.size + 1, [.string x.1, J h1, J h2, .bool x.2.2.2.1, .int .i64 x.2.2.2.2.1.1, .int .i64 x.2.2.2.2.1.2.1, .int .i64 x.2.2.2.2.1.2.2, .int .i64 x.2.2.2.2.2.1, .int .i64 x.2.2.2.2.2.2]), (w.heap.size, [])] [] u5) := HH4.out.on hb5
 clear hb5 HH4 HC4
 cases b4
 ·
  clear HC5
  go_wp2_with fail
  go_ret
  exact ⟨retb (by rw [HF.out] <;> simp), HH5.out.below⟩
 have k4_8 := HH5.out.cell 0 (b := w.heap.size + 1) rfl 8 rfl
 have kl4 := HH5.out.lt 0 rfl
 go_wp2_with fail
 clear k4_8 kl4
 refine (HC5.out _ HH5.out.below).mono ?_
 rintro e u6 ⟨rfl, hb6⟩
 have HH6 : Hid (Held w [(w.heap.size + 1, [.string x.1, J h1, J h2, .bool x.2.2.2.1, .int .i64 x.2.2.2.2.1.1, .int .i64 x.2.2.2.2.1.2.1, .int .i64 x.2.2.2.2.1.2.2, .int .i64 x.2.2.2.2.2.1, .int .i64 x.2.2.2.2.2.2]), (w.heap.size, [])] [] u6) := HH5.out.on hb6
 clear hb6 HH5 HC5
 cases b5
 ·
  skip
  go_wp2_with fail
  go_ret
  exact ⟨retb (by rw [HF.out] <;> simp), HH6.out.below⟩
 go_wp2_with fail
 go_ret
 exact ⟨retb (by rw [HF.out] <;> simp), HH6.out.below⟩
theorem Node_blank (c : List Value) (A : Where) (x : NodeD) (w : World) (h : Hid (RNode A w c x)) : Calls prog 176 #[.agg #[], .agg c.toArray] w fun e w' => e = .returned (.bool (blankNode x)) ∧ Below w.heap.size w w' := by
 obtain ⟨h1, h2, rfl, _, g1, g2⟩ := h.out.out
 have l1 := g1.len (by decide)
 have l2 := g2.len (by decide)
 have H1 : Hid (SlAt RLabel 2 32 A w h1.1 h1.2.1 h1.2.2 x.2.1) := g1
 have H2 : Hid (SlAt RTaint 3 40 A w h2.1 h2.2.1 h2.2.2 x.2.2.1) := g2
 clear h g1 g2
 have HB : Hid (Below w.heap.size w ((w.alloc (.cells #[] 137)).alloc (.cells #[.string x.1, J h1, J h2, .bool x.2.2.2.1, .int .i64 x.2.2.2.2.1.1, .int .i64 x.2.2.2.2.1.2.1, .int .i64 x.2.2.2.2.1.2.2, .int .i64 x.2.2.2.2.2.1, .int .i64 x.2.2.2.2.2.2] 36))) := by unfold Hid; go_grown
 obtain ⟨b0, e0⟩ : ∃ b : Bool, (emptyL x.2.1 && emptyL x.2.2.1) = b := ⟨_, rfl⟩
 obtain ⟨b1, e1⟩ : ∃ b : Bool, sNil x.1 = b := ⟨_, rfl⟩
 obtain ⟨b2, e2⟩ : ∃ b : Bool, (!x.2.2.2.1) = b := ⟨_, rfl⟩
 obtain ⟨b3, e3⟩ : ∃ b : Bool, resZ x.2.2.2.2.1 = b := ⟨_, rfl⟩
 obtain ⟨b4, e4⟩ : ∃ b : Bool, (x.2.2.2.2.2.1 == 0) = b := ⟨_, rfl⟩
 obtain ⟨b5, e5⟩ : ∃ b : Bool, (x.2.2.2.2.2.2 == 0) = b := ⟨_, rfl⟩
 have HF : Hid (blankNode x = (b0 && b1 && b2 && b3 && b4 && b5)) := by rw [Hid, ← e0, ← e1, ← e2, ← e3, ← e4, ← e5]; rfl
 have t0 : ((h1.2.1 : Int) + (h2.2.1 : Int) == 0) = b0 := by rw [← e0]; simp only [emptyL, H1.out.1, H2.out.1]; rw [Bool.eq_iff_iff]; simp; omega
 clear e0
 have t1 : x.1.toList.isEmpty = b1 := by exact e1
 clear e1
 have t2 : (!x.2.2.2.1) = b2 := by exact e2
 clear e2
 have t3 : resZ x.2.2.2.2.1 = b3 := by exact e3
 clear e3
 have t4 : (x.2.2.2.2.2.1 == 0) = b4 := by exact e4
 clear e4
 have t5 : (x.2.2.2.2.2.2 == 0) = b5 := by exact e5
 clear e5
 have hE := eqR0 x.2.2.2.2.1
 have hG := guardR
 cases b0
 ·
  go_enter func176, ntmps176
  go_wp2_with fail
  go_ret
  exact ⟨retb (by rw [HF.out] <;> simp), HB.out⟩
 cases b1
 ·
  go_enter func176, ntmps176
  go_wp2_with fail
  go_ret
  exact ⟨retb (by rw [HF.out] <;> simp), HB.out⟩
 cases b2
 ·
  go_enter func176, ntmps176
  go_wp2_with fail
  go_ret
  exact ⟨retb (by rw [HF.out] <;> simp), HB.out⟩
 cases b3
 ·
  go_enter func176, ntmps176
  go_wp2_with fail
  go_ret
  exact ⟨retb (by rw [HF.out] <;> simp), HB.out⟩
 cases b4
 ·
  go_enter func176, ntmps176
  go_wp2_with fail
  go_ret
  exact ⟨retb (by rw [HF.out] <;> simp), HB.out⟩
 cases b5
 ·
  go_enter func176, ntmps176
  go_wp2_with fail
  go_ret
  exact ⟨retb (by rw [HF.out] <;> simp), HB.out⟩
 go_enter func176, ntmps176
 go_wp2_with fail
 go_ret
 exact ⟨retb (by rw [HF.out] <;> simp), HB.out⟩
theorem Node_kright (p c q : List Value) (x : NodeD) (A : Where) (w : World) (h : Hid (RNode A w c x)) (hp : p.length = 17) (hall : (p ++ (c ++ q)).length = 40) : Calls prog 196 #[.agg #[.iface 137 (.agg #[])], .agg (p ++ (c ++ q)).toArray] w fun e w' => e = .returned (.bool (rightNode x)) ∧ Below w.heap.size w w' := by
 have hi : (prog.info? 46).map (·.size) = some (p ++ (c ++ q)).length := by rw [hall]; exact infoObj
 have HH : Hid (Held w [(w.heap.size + 1, p ++ (c ++ q)), (w.heap.size, [.iface 137 (.agg #[])])] [] ((w.alloc (.cells #[.iface 137 (.agg #[])] 141)).alloc (.cells (p ++ (c ++ q)).toArray 46))) := ((Held.start w).push rfl [.iface 137 (.agg #[])] 141).push (by simp) (p ++ (c ++ q)) 46
 have hc := RNode.firm.len h.out
 have h1 := RNode.firm.one h.out
 go_enter func196, ntmps196
 go_wp2_with fail
 refine t0 (Held w [(w.heap.size + 1, p ++ (c ++ q)), (w.heap.size, [.iface 137 (.agg #[])])] []) (HH.out.drew) (fun hH => ?_)
 refine tp 0 ?_; try go_frame
 refine' tk 1 ?_ ?_; rotate_left
 ·
  intro u hu; have hc0 := Held.cell hu 1 rfl 0 rfl; clear hu; go_simp; try with_reducible rfl
 try go_frame
 refine tp 2 ?_; try go_frame
 refine' tk 3 ?_ ?_; rotate_left
 ·
  intro u hu; have hc0 := Held.cell hu 1 rfl 0 rfl; clear hu; go_simp; try with_reducible rfl
 try go_frame
 refine tq 4 (.agg (p ++ (c ++ q)).toArray) (yieldsIf_load_mid (by rfl) 46 _ rfl (w.heap.size + 1) 0 rfl (p ++ (c ++ q)) _ (fun u hu => Held.get hu 0 rfl) underlying46 rfl hi) ?_ (hi := rfl)
 try go_frame
 refine tp 6 ?_; try go_frame
 refine tp 7 ?_; try go_frame
 refine tr 5 (fun K hK => ?_)
 refine want_yes (by rfl) (call_enter (f := 178) (args := #[.agg #[], .agg (p ++ (c ++ q)).toArray]) (by kernel_rfl) (Node_member p c q hp hc h1 _) (fun e u1 he => ?_))
 obtain ⟨rfl, hb1⟩ := he
 have HB1 : Hid (Below w.heap.size w u1) := on2 hH.below hb1
 refine ⟨_, rfl, hK.out _ _ (hH.on hb1) (fun hH => ?_)⟩
 clear hK K
 try go_frame
 refine tr 8 (fun K hK => ?_)
 refine want_yes (by rfl) (call_enter (f := 181) (args := #[.agg #[], .agg c.toArray]) (by kernel_rfl) (Node_right c A x _ (RNode.firm.kept h.out (Kept.below HB1.out))) (fun e u1 he => ?_))
 obtain ⟨rfl, hb2⟩ := he
 have HB2 : Hid (Below w.heap.size w u1) := on2 hH.below hb2
 refine ⟨_, rfl, hK.out _ _ (hH.on hb2) (fun hH => ?_)⟩
 clear hK K
 try go_frame
 refine tp 9 ?_; try go_frame
 refine tz ?_
 go_wp2_with fail
 go_ret
 exact ⟨rfl, HB2.out⟩
theorem Node_kblank (p c q : List Value) (x : NodeD) (A : Where) (w : World) (h : Hid (RNode A w c x)) (hp : p.length = 17) (hall : (p ++ (c ++ q)).length = 40) : Calls prog 190 #[.agg #[.iface 137 (.agg #[])], .agg (p ++ (c ++ q)).toArray] w fun e w' => e = .returned (.bool (blankNode x)) ∧ Below w.heap.size w w' := by
 have hi : (prog.info? 46).map (·.size) = some (p ++ (c ++ q)).length := by rw [hall]; exact infoObj
 have HH : Hid (Held w [(w.heap.size + 1, p ++ (c ++ q)), (w.heap.size, [.iface 137 (.agg #[])])] [] ((w.alloc (.cells #[.iface 137 (.agg #[])] 141)).alloc (.cells (p ++ (c ++ q)).toArray 46))) := ((Held.start w).push rfl [.iface 137 (.agg #[])] 141).push (by simp) (p ++ (c ++ q)) 46
 have hc := RNode.firm.len h.out
 have h1 := RNode.firm.one h.out
 go_enter func190, ntmps190
 go_wp2_with fail
 refine t0 (Held w [(w.heap.size + 1, p ++ (c ++ q)), (w.heap.size, [.iface 137 (.agg #[])])] []) (HH.out.drew) (fun hH => ?_)
 refine tp 0 ?_; try go_frame
 refine' tk 1 ?_ ?_; rotate_left
 ·
  intro u hu; have hc0 := Held.cell hu 1 rfl 0 rfl; clear hu; go_simp; try with_reducible rfl
 try go_frame
 refine tp 2 ?_; try go_frame
 refine' tk 3 ?_ ?_; rotate_left
 ·
  intro u hu; have hc0 := Held.cell hu 1 rfl 0 rfl; clear hu; go_simp; try with_reducible rfl
 try go_frame
 refine tq 4 (.agg (p ++ (c ++ q)).toArray) (yieldsIf_load_mid (by rfl) 46 _ rfl (w.heap.size + 1) 0 rfl (p ++ (c ++ q)) _ (fun u hu => Held.get hu 0 rfl) underlying46 rfl hi) ?_ (hi := rfl)
 try go_frame
 refine tp 6 ?_; try go_frame
 refine tp 7 ?_; try go_frame
 refine tr 5 (fun K hK => ?_)
 refine want_yes (by rfl) (call_enter (f := 178) (args := #[.agg #[], .agg (p ++ (c ++ q)).toArray]) (by kernel_rfl) (Node_member p c q hp hc h1 _) (fun e u1 he => ?_))
 obtain ⟨rfl, hb1⟩ := he
 have HB1 : Hid (Below w.heap.size w u1) := on2 hH.below hb1
 refine ⟨_, rfl, hK.out _ _ (hH.on hb1) (fun hH => ?_)⟩
 clear hK K
 try go_frame
 refine tr 8 (fun K hK => ?_)
 refine want_yes (by rfl) (call_enter (f := 176) (args := #[.agg #[], .agg c.toArray]) (by kernel_rfl) (Node_blank c A x _ (RNode.firm.kept h.out (Kept.below HB1.out))) (fun e u1 he => ?_))
 obtain ⟨rfl, hb2⟩ := he
 have HB2 : Hid (Below w.heap.size w u1) := on2 hH.below hb2
 refine ⟨_, rfl, hK.out _ _ (hH.on hb2) (fun hH => ?_)⟩
 clear hK K
 try go_frame
 refine tp 9 ?_; try go_frame
 refine tz ?_
 go_wp2_with fail
 go_ret
 exact ⟨rfl, HB2.out⟩
theorem headNode {A : Where} {w : World} {c : List Value} {x : NodeD} (h : RNode A w c x) : ∃ r, c = .string x.1 :: r := by
 obtain ⟨c1, d, rfl, ⟨rfl, _⟩, _⟩ := h
 exact ⟨d, rfl⟩
theorem Node_named (c : List Value) (A : Where) (x : NodeD) (w : World) (h : RNode A w c x) : Calls prog 179 #[.agg #[], .agg c.toArray] w fun e w' => e = .returned (.string x.1) ∧ Below w.heap.size w w' := by
 obtain ⟨r, rfl⟩ := headNode h
 exact Node_name x.1 r w
theorem Node_kname (p c q : List Value) (x : NodeD) (A : Where) (w : World) (h : Hid (RNode A w c x)) (hp : p.length = 17) (hall : (p ++ (c ++ q)).length = 40) : Calls prog 193 #[.agg #[.iface 137 (.agg #[])], .agg (p ++ (c ++ q)).toArray] w fun e w' => e = .returned (.string x.1) ∧ Below w.heap.size w w' := by
 have hi : (prog.info? 46).map (·.size) = some (p ++ (c ++ q)).length := by rw [hall]; exact infoObj
 have HH : Hid (Held w [(w.heap.size + 1, p ++ (c ++ q)), (w.heap.size, [.iface 137 (.agg #[])])] [] ((w.alloc (.cells #[.iface 137 (.agg #[])] 141)).alloc (.cells (p ++ (c ++ q)).toArray 46))) := ((Held.start w).push rfl [.iface 137 (.agg #[])] 141).push (by simp) (p ++ (c ++ q)) 46
 have hc := RNode.firm.len h.out
 have h1 := RNode.firm.one h.out
 go_enter func193, ntmps193
 go_wp2_with fail
 refine t0 (Held w [(w.heap.size + 1, p ++ (c ++ q)), (w.heap.size, [.iface 137 (.agg #[])])] []) (HH.out.drew) (fun hH => ?_)
 refine tp 0 ?_; try go_frame
 refine' tk 1 ?_ ?_; rotate_left
 ·
  intro u hu; have hc0 := Held.cell hu 1 rfl 0 rfl; clear hu; go_simp; try with_reducible rfl
 try go_frame
 refine tp 2 ?_; try go_frame
 refine' tk 3 ?_ ?_; rotate_left
 ·
  intro u hu; have hc0 := Held.cell hu 1 rfl 0 rfl; clear hu; go_simp; try with_reducible rfl
 try go_frame
 refine tq 4 (.agg (p ++ (c ++ q)).toArray) (yieldsIf_load_mid (by rfl) 46 _ rfl (w.heap.size + 1) 0 rfl (p ++ (c ++ q)) _ (fun u hu => Held.get hu 0 rfl) underlying46 rfl hi) ?_ (hi := rfl)
 try go_frame
 refine tp 6 ?_; try go_frame
 refine tp 7 ?_; try go_frame
 refine tr 5 (fun K hK => ?_)
 refine want_yes (by rfl) (call_enter (f := 178) (args := #[.agg #[], .agg (p ++ (c ++ q)).toArray]) (by kernel_rfl) (Node_member p c q hp hc h1 _) (fun e u1 he => ?_))
 obtain ⟨rfl, hb1⟩ := he
 have HB1 : Hid (Below w.heap.size w u1) := on2 hH.below hb1
 refine ⟨_, rfl, hK.out _ _ (hH.on hb1) (fun hH => ?_)⟩
 clear hK K
 try go_frame
 refine tr 8 (fun K hK => ?_)
 refine want_yes (by rfl) (call_enter (f := 179) (args := #[.agg #[], .agg c.toArray]) (by kernel_rfl) (Node_named c A x _ (RNode.firm.kept h.out (Kept.below HB1.out))) (fun e u1 he => ?_))
 obtain ⟨rfl, hb2⟩ := he
 have HB2 : Hid (Below w.heap.size w u1) := on2 hH.below hb2
 refine ⟨_, rfl, hK.out _ _ (hH.on hb2) (fun hH => ?_)⟩
 clear hK K
 try go_frame
 refine tp 9 ?_; try go_frame
 refine tz ?_
 go_wp2_with fail
 go_ret
 exact ⟨rfl, HB2.out⟩
theorem sizVolume : (prog.info? 38).map (·.size) = some 5 := by kernel_rfl
theorem Volume_member (p c q : List Value) (hp : p.length = 26) (hc : c.length = 5) (h1 : ∀ v ∈ c, v.oneCell' = true) (w : World) : Calls prog 215 #[.agg #[], .agg (p ++ (c ++ q)).toArray] w fun e w' => e = .returned (.agg c.toArray) ∧ Below w.heap.size w w' := by
 have hi : (prog.info? 38).map (·.size) = some c.length := by rw [hc]; exact sizVolume
 have Hr : ∀ T z, Hid ((((w.alloc (.cells #[] T)).alloc (.cells (p ++ (c ++ q)).toArray 46)).alloc (.cells z 38)).rangeAt (w.heap.size + 1) 26 c) := fun T z => World.rangeAt_alloc (range_new (by simp) hp) _
 have Ht : ∀ T z, z.size = 5 → Hid ((((w.alloc (.cells #[] T)).alloc (.cells (p ++ (c ++ q)).toArray 46)).alloc (.cells z 38)).there (w.heap.size + 1 + 1) 0 c.toArray.size) := fun T z hz => there_new (by simp) (by simp [hc, hz])
 have h1' := all_oneCell_toArray h1
 have HE : Hid (c.toArray.size = 5) := by simp [Hid, hc]
 clear hp hc h1
 go_enter func215, ntmps215
 go_wp2_with (first | (refine wpList_load_mid rfl 38 _ rfl (w.heap.size + 1) 26 rfl c _ (Hr _ _).out underlying38 rfl hi ?_) | (refine wpList_store_mid rfl 38 _ _ rfl (w.heap.size + 1 + 1) 0 c.toArray rfl rfl (Ht _ _ rfl).out (by simpa using hi) h1' ?_))
 have HT := (Ht 142 #[.string ⟨#[]⟩, .int .i64 0, .string ⟨#[]⟩, Z, .string ⟨#[]⟩] rfl).out
 refine bodyPost_ret (v := .agg c.toArray) (res_cell (p := 4) (ty := 38) rfl _ _ (w.heap.size + 1 + 1) c _ rfl (World.rangeAt_setCells_same _ _ _ _ (by simpa using HT)) underlying38 rfl hi) rfl ⟨rfl, below_setCells (by go_grown) (by omega)⟩
theorem Volume_kright (p c q : List Value) (x : VolumeD) (A : Where) (w : World) (h : Hid (RVolume A w c x)) (hp : p.length = 26) (hall : (p ++ (c ++ q)).length = 40) : Calls prog 227 #[.agg #[.iface 142 (.agg #[])], .agg (p ++ (c ++ q)).toArray] w fun e w' => e = .returned (.bool (rightVolume x)) ∧ Below w.heap.size w w' := by
 have hi : (prog.info? 46).map (·.size) = some (p ++ (c ++ q)).length := by rw [hall]; exact infoObj
 have HH : Hid (Held w [(w.heap.size + 1, p ++ (c ++ q)), (w.heap.size, [.iface 142 (.agg #[])])] [] ((w.alloc (.cells #[.iface 142 (.agg #[])] 146)).alloc (.cells (p ++ (c ++ q)).toArray 46))) := ((Held.start w).push rfl [.iface 142 (.agg #[])] 146).push (by simp) (p ++ (c ++ q)) 46
 have hc := RVolume.firm.len h.out
 have h1 := RVolume.firm.one h.out
 go_enter func227, ntmps227
 go_wp2_with fail
 refine t0 (Held w [(w.heap.size + 1, p ++ (c ++ q)), (w.heap.size, [.iface 142 (.agg #[])])] []) (HH.out.drew) (fun hH => ?_)
 refine tp 0 ?_; try go_frame
 refine' tk 1 ?_ ?_; rotate_left
 ·
  intro u hu; have hc0 := Held.cell hu 1 rfl 0 rfl; clear hu; go_simp; try with_reducible rfl
 try go_frame
 refine tp 2 ?_; try go_frame
 refine' tk 3 ?_ ?_; rotate_left
 ·
  intro u hu; have hc0 := Held.cell hu 1 rfl 0 rfl; clear hu; go_simp; try with_reducible rfl
 try go_frame
 refine tq 4 (.agg (p ++ (c ++ q)).toArray) (yieldsIf_load_mid (by rfl) 46 _ rfl (w.heap.size + 1) 0 rfl (p ++ (c ++ q)) _ (fun u hu => Held.get hu 0 rfl) underlying46 rfl hi) ?_ (hi := rfl)
 try go_frame
 refine tp 6 ?_; try go_frame
 refine tp 7 ?_; try go_frame
 refine tr 5 (fun K hK => ?_)
 refine want_yes (by rfl) (call_enter (f := 215) (args := #[.agg #[], .agg (p ++ (c ++ q)).toArray]) (by kernel_rfl) (Volume_member p c q hp hc h1 _) (fun e u1 he => ?_))
 obtain ⟨rfl, hb1⟩ := he
 have HB1 : Hid (Below w.heap.size w u1) := on2 hH.below hb1
 refine ⟨_, rfl, hK.out _ _ (hH.on hb1) (fun hH => ?_)⟩
 clear hK K
 try go_frame
 refine tr 8 (fun K hK => ?_)
 refine want_yes (by rfl) (call_enter (f := 218) (args := #[.agg #[], .agg c.toArray]) (by kernel_rfl) (Volume_right c A x _ (RVolume.firm.kept h.out (Kept.below HB1.out))) (fun e u1 he => ?_))
 obtain ⟨rfl, hb2⟩ := he
 have HB2 : Hid (Below w.heap.size w u1) := on2 hH.below hb2
 refine ⟨_, rfl, hK.out _ _ (hH.on hb2) (fun hH => ?_)⟩
 clear hK K
 try go_frame
 refine tp 9 ?_; try go_frame
 refine tz ?_
 go_wp2_with fail
 go_ret
 exact ⟨rfl, HB2.out⟩
theorem Volume_kblank (p c q : List Value) (x : VolumeD) (A : Where) (w : World) (h : Hid (RVolume A w c x)) (hp : p.length = 26) (hall : (p ++ (c ++ q)).length = 40) : Calls prog 221 #[.agg #[.iface 142 (.agg #[])], .agg (p ++ (c ++ q)).toArray] w fun e w' => e = .returned (.bool (blankVolume x)) ∧ Below w.heap.size w w' := by
 have hi : (prog.info? 46).map (·.size) = some (p ++ (c ++ q)).length := by rw [hall]; exact infoObj
 have HH : Hid (Held w [(w.heap.size + 1, p ++ (c ++ q)), (w.heap.size, [.iface 142 (.agg #[])])] [] ((w.alloc (.cells #[.iface 142 (.agg #[])] 146)).alloc (.cells (p ++ (c ++ q)).toArray 46))) := ((Held.start w).push rfl [.iface 142 (.agg #[])] 146).push (by simp) (p ++ (c ++ q)) 46
 have hc := RVolume.firm.len h.out
 have h1 := RVolume.firm.one h.out
 go_enter func221, ntmps221
 go_wp2_with fail
 refine t0 (Held w [(w.heap.size + 1, p ++ (c ++ q)), (w.heap.size, [.iface 142 (.agg #[])])] []) (HH.out.drew) (fun hH => ?_)
 refine tp 0 ?_; try go_frame
 refine' tk 1 ?_ ?_; rotate_left
 ·
  intro u hu; have hc0 := Held.cell hu 1 rfl 0 rfl; clear hu; go_simp; try with_reducible rfl
 try go_frame
 refine tp 2 ?_; try go_frame
 refine' tk 3 ?_ ?_; rotate_left
 ·
  intro u hu; have hc0 := Held.cell hu 1 rfl 0 rfl; clear hu; go_simp; try with_reducible rfl
 try go_frame
 refine tq 4 (.agg (p ++ (c ++ q)).toArray) (yieldsIf_load_mid (by rfl) 46 _ rfl (w.heap.size + 1) 0 rfl (p ++ (c ++ q)) _ (fun u hu => Held.get hu 0 rfl) underlying46 rfl hi) ?_ (hi := rfl)
 try go_frame
 refine tp 6 ?_; try go_frame
 refine tp 7 ?_; try go_frame
 refine tr 5 (fun K hK => ?_)
 refine want_yes (by rfl) (call_enter (f := 215) (args := #[.agg #[], .agg (p ++ (c ++ q)).toArray]) (by kernel_rfl) (Volume_member p c q hp hc h1 _) (fun e u1 he => ?_))
 obtain ⟨rfl, hb1⟩ := he
 have HB1 : Hid (Below w.heap.size w u1) := on2 hH.below hb1
 refine ⟨_, rfl, hK.out _ _ (hH.on hb1) (fun hH => ?_)⟩
 clear hK K
 try go_frame
 refine tr 8 (fun K hK => ?_)
 refine want_yes (by rfl) (call_enter (f := 213) (args := #[.agg #[], .agg c.toArray]) (by kernel_rfl) (Volume_blank c A x _ (RVolume.firm.kept h.out (Kept.below HB1.out))) (fun e u1 he => ?_))
 obtain ⟨rfl, hb2⟩ := he
 have HB2 : Hid (Below w.heap.size w u1) := on2 hH.below hb2
 refine ⟨_, rfl, hK.out _ _ (hH.on hb2) (fun hH => ?_)⟩
 clear hK K
 try go_frame
 refine tp 9 ?_; try go_frame
 refine tz ?_
 go_wp2_with fail
 go_ret
 exact ⟨rfl, HB2.out⟩
theorem headVolume {A : Where} {w : World} {c : List Value} {x : VolumeD} (h : RVolume A w c x) : ∃ r, c = .string x.1 :: r := by
 obtain ⟨c1, d, rfl, ⟨rfl, _⟩, _⟩ := h
 exact ⟨d, rfl⟩
theorem Volume_named (c : List Value) (A : Where) (x : VolumeD) (w : World) (h : RVolume A w c x) : Calls prog 216 #[.agg #[], .agg c.toArray] w fun e w' => e = .returned (.string x.1) ∧ Below w.heap.size w w' := by
 obtain ⟨r, rfl⟩ := headVolume h
 exact Volume_name x.1 r w
theorem Volume_kname (p c q : List Value) (x : VolumeD) (A : Where) (w : World) (h : Hid (RVolume A w c x)) (hp : p.length = 26) (hall : (p ++ (c ++ q)).length = 40) : Calls prog 224 #[.agg #[.iface 142 (.agg #[])], .agg (p ++ (c ++ q)).toArray] w fun e w' => e = .returned (.string x.1) ∧ Below w.heap.size w w' := by
 have hi : (prog.info? 46).map (·.size) = some (p ++ (c ++ q)).length := by rw [hall]; exact infoObj
 have HH : Hid (Held w [(w.heap.size + 1, p ++ (c ++ q)), (w.heap.size, [.iface 142 (.agg #[])])] [] ((w.alloc (.cells #[.iface 142 (.agg #[])] 146)).alloc (.cells (p ++ (c ++ q)).toArray 46))) := ((Held.start w).push rfl [.iface 142 (.agg #[])] 146).push (by simp) (p ++ (c ++ q)) 46
 have hc := RVolume.firm.len h.out
 have h1 := RVolume.firm.one h.out
 go_enter func224, ntmps224
 go_wp2_with fail
 refine t0 (Held w [(w.heap.size + 1, p ++ (c ++ q)), (w.heap.size, [.iface 142 (.agg #[])])] []) (HH.out.drew) (fun hH => ?_)
 refine tp 0 ?_; try go_frame
 refine' tk 1 ?_ ?_; rotate_left
 ·
  intro u hu; have hc0 := Held.cell hu 1 rfl 0 rfl; clear hu; go_simp; try with_reducible rfl
 try go_frame
 refine tp 2 ?_; try go_frame
 refine' tk 3 ?_ ?_; rotate_left
 ·
  intro u hu; have hc0 := Held.cell hu 1 rfl 0 rfl; clear hu; go_simp; try with_reducible rfl
 try go_frame
 refine tq 4 (.agg (p ++ (c ++ q)).toArray) (yieldsIf_load_mid (by rfl) 46 _ rfl (w.heap.size + 1) 0 rfl (p ++ (c ++ q)) _ (fun u hu => Held.get hu 0 rfl) underlying46 rfl hi) ?_ (hi := rfl)
 try go_frame
 refine tp 6 ?_; try go_frame
 refine tp 7 ?_; try go_frame
 refine tr 5 (fun K hK => ?_)
 refine want_yes (by rfl) (call_enter (f := 215) (args := #[.agg #[], .agg (p ++ (c ++ q)).toArray]) (by kernel_rfl) (Volume_member p c q hp hc h1 _) (fun e u1 he => ?_))
 obtain ⟨rfl, hb1⟩ := he
 have HB1 : Hid (Below w.heap.size w u1) := on2 hH.below hb1
 refine ⟨_, rfl, hK.out _ _ (hH.on hb1) (fun hH => ?_)⟩
 clear hK K
 try go_frame
 refine tr 8 (fun K hK => ?_)
 refine want_yes (by rfl) (call_enter (f := 216) (args := #[.agg #[], .agg c.toArray]) (by kernel_rfl) (Volume_named c A x _ (RVolume.firm.kept h.out (Kept.below HB1.out))) (fun e u1 he => ?_))
 obtain ⟨rfl, hb2⟩ := he
 have HB2 : Hid (Below w.heap.size w u1) := on2 hH.below hb2
 refine ⟨_, rfl, hK.out _ _ (hH.on hb2) (fun hH => ?_)⟩
 clear hK K
 try go_frame
 refine tp 9 ?_; try go_frame
 refine tz ?_
 go_wp2_with fail
 go_ret
 exact ⟨rfl, HB2.out⟩
theorem sizClaim : (prog.info? 40).map (·.size) = some 4 := by kernel_rfl
theorem Claim_member (p c q : List Value) (hp : p.length = 31) (hc : c.length = 4) (h1 : ∀ v ∈ c, v.oneCell' = true) (w : World) : Calls prog 246 #[.agg #[], .agg (p ++ (c ++ q)).toArray] w fun e w' => e = .returned (.agg c.toArray) ∧ Below w.heap.size w w' := by
 have hi : (prog.info? 40).map (·.size) = some c.length := by rw [hc]; exact sizClaim
 have Hr : ∀ T z, Hid ((((w.alloc (.cells #[] T)).alloc (.cells (p ++ (c ++ q)).toArray 46)).alloc (.cells z 40)).rangeAt (w.heap.size + 1) 31 c) := fun T z => World.rangeAt_alloc (range_new (by simp) hp) _
 have Ht : ∀ T z, z.size = 4 → Hid ((((w.alloc (.cells #[] T)).alloc (.cells (p ++ (c ++ q)).toArray 46)).alloc (.cells z 40)).there (w.heap.size + 1 + 1) 0 c.toArray.size) := fun T z hz => there_new (by simp) (by simp [hc, hz])
 have h1' := all_oneCell_toArray h1
 have HE : Hid (c.toArray.size = 4) := by simp [Hid, hc]
 clear hp hc h1
 go_enter func246, ntmps246
 go_wp2_with (first | (refine wpList_load_mid rfl 40 _ rfl (w.heap.size + 1) 31 rfl c _ (Hr _ _).out underlying40 rfl hi ?_) | (refine wpList_store_mid rfl 40 _ _ rfl (w.heap.size + 1 + 1) 0 c.toArray rfl rfl (Ht _ _ rfl).out (by simpa using hi) h1' ?_))
 have HT := (Ht 147 #[.string ⟨#[]⟩, .int .i64 0, .string ⟨#[]⟩, .string ⟨#[]⟩] rfl).out
 refine bodyPost_ret (v := .agg c.toArray) (res_cell (p := 4) (ty := 40) rfl _ _ (w.heap.size + 1 + 1) c _ rfl (World.rangeAt_setCells_same _ _ _ _ (by simpa using HT)) underlying40 rfl hi) rfl ⟨rfl, below_setCells (by go_grown) (by omega)⟩
theorem Claim_kright (p c q : List Value) (x : ClaimD) (A : Where) (w : World) (h : Hid (RClaim A w c x)) (hp : p.length = 31) (hall : (p ++ (c ++ q)).length = 40) : Calls prog 258 #[.agg #[.iface 147 (.agg #[])], .agg (p ++ (c ++ q)).toArray] w fun e w' => e = .returned (.bool (rightClaim x)) ∧ Below w.heap.size w w' := by
 have hi : (prog.info? 46).map (·.size) = some (p ++ (c ++ q)).length := by rw [hall]; exact infoObj
 have HH : Hid (Held w [(w.heap.size + 1, p ++ (c ++ q)), (w.heap.size, [.iface 147 (.agg #[])])] [] ((w.alloc (.cells #[.iface 147 (.agg #[])] 151)).alloc (.cells (p ++ (c ++ q)).toArray 46))) := ((Held.start w).push rfl [.iface 147 (.agg #[])] 151).push (by simp) (p ++ (c ++ q)) 46
 have hc := RClaim.firm.len h.out
 have h1 := RClaim.firm.one h.out
 go_enter func258, ntmps258
 go_wp2_with fail
 refine t0 (Held w [(w.heap.size + 1, p ++ (c ++ q)), (w.heap.size, [.iface 147 (.agg #[])])] []) (HH.out.drew) (fun hH => ?_)
 refine tp 0 ?_; try go_frame
 refine' tk 1 ?_ ?_; rotate_left
 ·
  intro u hu; have hc0 := Held.cell hu 1 rfl 0 rfl; clear hu; go_simp; try with_reducible rfl
 try go_frame
 refine tp 2 ?_; try go_frame
 refine' tk 3 ?_ ?_; rotate_left
 ·
  intro u hu; have hc0 := Held.cell hu 1 rfl 0 rfl; clear hu; go_simp; try with_reducible rfl
 try go_frame
 refine tq 4 (.agg (p ++ (c ++ q)).toArray) (yieldsIf_load_mid (by rfl) 46 _ rfl (w.heap.size + 1) 0 rfl (p ++ (c ++ q)) _ (fun u hu => Held.get hu 0 rfl) underlying46 rfl hi) ?_ (hi := rfl)
 try go_frame
 refine tp 6 ?_; try go_frame
 refine tp 7 ?_; try go_frame
 refine tr 5 (fun K hK => ?_)
 refine want_yes (by rfl) (call_enter (f := 246) (args := #[.agg #[], .agg (p ++ (c ++ q)).toArray]) (by kernel_rfl) (Claim_member p c q hp hc h1 _) (fun e u1 he => ?_))
 obtain ⟨rfl, hb1⟩ := he
 have HB1 : Hid (Below w.heap.size w u1) := on2 hH.below hb1
 refine ⟨_, rfl, hK.out _ _ (hH.on hb1) (fun hH => ?_)⟩
 clear hK K
 try go_frame
 refine tr 8 (fun K hK => ?_)
 refine want_yes (by rfl) (call_enter (f := 249) (args := #[.agg #[], .agg c.toArray]) (by kernel_rfl) (Claim_right c A x _ (RClaim.firm.kept h.out (Kept.below HB1.out))) (fun e u1 he => ?_))
 obtain ⟨rfl, hb2⟩ := he
 have HB2 : Hid (Below w.heap.size w u1) := on2 hH.below hb2
 refine ⟨_, rfl, hK.out _ _ (hH.on hb2) (fun hH => ?_)⟩
 clear hK K
 try go_frame
 refine tp 9 ?_; try go_frame
 refine tz ?_
 go_wp2_with fail
 go_ret
 exact ⟨rfl, HB2.out⟩
theorem Claim_kblank (p c q : List Value) (x : ClaimD) (A : Where) (w : World) (h : Hid (RClaim A w c x)) (hp : p.length = 31) (hall : (p ++ (c ++ q)).length = 40) : Calls prog 252 #[.agg #[.iface 147 (.agg #[])], .agg (p ++ (c ++ q)).toArray] w fun e w' => e = .returned (.bool (blankClaim x)) ∧ Below w.heap.size w w' := by
 have hi : (prog.info? 46).map (·.size) = some (p ++ (c ++ q)).length := by rw [hall]; exact infoObj
 have HH : Hid (Held w [(w.heap.size + 1, p ++ (c ++ q)), (w.heap.size, [.iface 147 (.agg #[])])] [] ((w.alloc (.cells #[.iface 147 (.agg #[])] 151)).alloc (.cells (p ++ (c ++ q)).toArray 46))) := ((Held.start w).push rfl [.iface 147 (.agg #[])] 151).push (by simp) (p ++ (c ++ q)) 46
 have hc := RClaim.firm.len h.out
 have h1 := RClaim.firm.one h.out
 go_enter func252, ntmps252
 go_wp2_with fail
 refine t0 (Held w [(w.heap.size + 1, p ++ (c ++ q)), (w.heap.size, [.iface 147 (.agg #[])])] []) (HH.out.drew) (fun hH => ?_)
 refine tp 0 ?_; try go_frame
 refine' tk 1 ?_ ?_; rotate_left
 ·
  intro u hu; have hc0 := Held.cell hu 1 rfl 0 rfl; clear hu; go_simp; try with_reducible rfl
 try go_frame
 refine tp 2 ?_; try go_frame
 refine' tk 3 ?_ ?_; rotate_left
 ·
  intro u hu; have hc0 := Held.cell hu 1 rfl 0 rfl; clear hu; go_simp; try with_reducible rfl
 try go_frame
 refine tq 4 (.agg (p ++ (c ++ q)).toArray) (yieldsIf_load_mid (by rfl) 46 _ rfl (w.heap.size + 1) 0 rfl (p ++ (c ++ q)) _ (fun u hu => Held.get hu 0 rfl) underlying46 rfl hi) ?_ (hi := rfl)
 try go_frame
 refine tp 6 ?_; try go_frame
 refine tp 7 ?_; try go_frame
 refine tr 5 (fun K hK => ?_)
 refine want_yes (by rfl) (call_enter (f := 246) (args := #[.agg #[], .agg (p ++ (c ++ q)).toArray]) (by kernel_rfl) (Claim_member p c q hp hc h1 _) (fun e u1 he => ?_))
 obtain ⟨rfl, hb1⟩ := he
 have HB1 : Hid (Below w.heap.size w u1) := on2 hH.below hb1
 refine ⟨_, rfl, hK.out _ _ (hH.on hb1) (fun hH => ?_)⟩
 clear hK K
 try go_frame
 refine tr 8 (fun K hK => ?_)
 refine want_yes (by rfl) (call_enter (f := 244) (args := #[.agg #[], .agg c.toArray]) (by kernel_rfl) (Claim_blank c A x _ (RClaim.firm.kept h.out (Kept.below HB1.out))) (fun e u1 he => ?_))
 obtain ⟨rfl, hb2⟩ := he
 have HB2 : Hid (Below w.heap.size w u1) := on2 hH.below hb2
 refine ⟨_, rfl, hK.out _ _ (hH.on hb2) (fun hH => ?_)⟩
 clear hK K
 try go_frame
 refine tp 9 ?_; try go_frame
 refine tz ?_
 go_wp2_with fail
 go_ret
 exact ⟨rfl, HB2.out⟩
theorem headClaim {A : Where} {w : World} {c : List Value} {x : ClaimD} (h : RClaim A w c x) : ∃ r, c = .string x.1 :: r := by
 obtain ⟨c1, d, rfl, ⟨rfl, _⟩, _⟩ := h
 exact ⟨d, rfl⟩
theorem Claim_named (c : List Value) (A : Where) (x : ClaimD) (w : World) (h : RClaim A w c x) : Calls prog 247 #[.agg #[], .agg c.toArray] w fun e w' => e = .returned (.string x.1) ∧ Below w.heap.size w w' := by
 obtain ⟨r, rfl⟩ := headClaim h
 exact Claim_name x.1 r w
theorem Claim_kname (p c q : List Value) (x : ClaimD) (A : Where) (w : World) (h : Hid (RClaim A w c x)) (hp : p.length = 31) (hall : (p ++ (c ++ q)).length = 40) : Calls prog 255 #[.agg #[.iface 147 (.agg #[])], .agg (p ++ (c ++ q)).toArray] w fun e w' => e = .returned (.string x.1) ∧ Below w.heap.size w w' := by
 have hi : (prog.info? 46).map (·.size) = some (p ++ (c ++ q)).length := by rw [hall]; exact infoObj
 have HH : Hid (Held w [(w.heap.size + 1, p ++ (c ++ q)), (w.heap.size, [.iface 147 (.agg #[])])] [] ((w.alloc (.cells #[.iface 147 (.agg #[])] 151)).alloc (.cells (p ++ (c ++ q)).toArray 46))) := ((Held.start w).push rfl [.iface 147 (.agg #[])] 151).push (by simp) (p ++ (c ++ q)) 46
 have hc := RClaim.firm.len h.out
 have h1 := RClaim.firm.one h.out
 go_enter func255, ntmps255
 go_wp2_with fail
 refine t0 (Held w [(w.heap.size + 1, p ++ (c ++ q)), (w.heap.size, [.iface 147 (.agg #[])])] []) (HH.out.drew) (fun hH => ?_)
 refine tp 0 ?_; try go_frame
 refine' tk 1 ?_ ?_; rotate_left
 ·
  intro u hu; have hc0 := Held.cell hu 1 rfl 0 rfl; clear hu; go_simp; try with_reducible rfl
 try go_frame
 refine tp 2 ?_; try go_frame
 refine' tk 3 ?_ ?_; rotate_left
 ·
  intro u hu; have hc0 := Held.cell hu 1 rfl 0 rfl; clear hu; go_simp; try with_reducible rfl
 try go_frame
 refine tq 4 (.agg (p ++ (c ++ q)).toArray) (yieldsIf_load_mid (by rfl) 46 _ rfl (w.heap.size + 1) 0 rfl (p ++ (c ++ q)) _ (fun u hu => Held.get hu 0 rfl) underlying46 rfl hi) ?_ (hi := rfl)
 try go_frame
 refine tp 6 ?_; try go_frame
 refine tp 7 ?_; try go_frame
 refine tr 5 (fun K hK => ?_)
 refine want_yes (by rfl) (call_enter (f := 246) (args := #[.agg #[], .agg (p ++ (c ++ q)).toArray]) (by kernel_rfl) (Claim_member p c q hp hc h1 _) (fun e u1 he => ?_))
 obtain ⟨rfl, hb1⟩ := he
 have HB1 : Hid (Below w.heap.size w u1) := on2 hH.below hb1
 refine ⟨_, rfl, hK.out _ _ (hH.on hb1) (fun hH => ?_)⟩
 clear hK K
 try go_frame
 refine tr 8 (fun K hK => ?_)
 refine want_yes (by rfl) (call_enter (f := 247) (args := #[.agg #[], .agg c.toArray]) (by kernel_rfl) (Claim_named c A x _ (RClaim.firm.kept h.out (Kept.below HB1.out))) (fun e u1 he => ?_))
 obtain ⟨rfl, hb2⟩ := he
 have HB2 : Hid (Below w.heap.size w u1) := on2 hH.below hb2
 refine ⟨_, rfl, hK.out _ _ (hH.on hb2) (fun hH => ?_)⟩
 clear hK K
 try go_frame
 refine tp 9 ?_; try go_frame
 refine tz ?_
 go_wp2_with fail
 go_ret
 exact ⟨rfl, HB2.out⟩
theorem sizClass : (prog.info? 42).map (·.size) = some 2 := by kernel_rfl
theorem Class_member (p c q : List Value) (hp : p.length = 35) (hc : c.length = 2) (h1 : ∀ v ∈ c, v.oneCell' = true) (w : World) : Calls prog 277 #[.agg #[], .agg (p ++ (c ++ q)).toArray] w fun e w' => e = .returned (.agg c.toArray) ∧ Below w.heap.size w w' := by
 have hi : (prog.info? 42).map (·.size) = some c.length := by rw [hc]; exact sizClass
 have Hr : ∀ T z, Hid ((((w.alloc (.cells #[] T)).alloc (.cells (p ++ (c ++ q)).toArray 46)).alloc (.cells z 42)).rangeAt (w.heap.size + 1) 35 c) := fun T z => World.rangeAt_alloc (range_new (by simp) hp) _
 have Ht : ∀ T z, z.size = 2 → Hid ((((w.alloc (.cells #[] T)).alloc (.cells (p ++ (c ++ q)).toArray 46)).alloc (.cells z 42)).there (w.heap.size + 1 + 1) 0 c.toArray.size) := fun T z hz => there_new (by simp) (by simp [hc, hz])
 have h1' := all_oneCell_toArray h1
 have HE : Hid (c.toArray.size = 2) := by simp [Hid, hc]
 clear hp hc h1
 go_enter func277, ntmps277
 go_wp2_with (first | (refine wpList_load_mid rfl 42 _ rfl (w.heap.size + 1) 35 rfl c _ (Hr _ _).out underlying42 rfl hi ?_) | (refine wpList_store_mid rfl 42 _ _ rfl (w.heap.size + 1 + 1) 0 c.toArray rfl rfl (Ht _ _ rfl).out (by simpa using hi) h1' ?_))
 have HT := (Ht 152 #[.string ⟨#[]⟩, .bool false] rfl).out
 refine bodyPost_ret (v := .agg c.toArray) (res_cell (p := 4) (ty := 42) rfl _ _ (w.heap.size + 1 + 1) c _ rfl (World.rangeAt_setCells_same _ _ _ _ (by simpa using HT)) underlying42 rfl hi) rfl ⟨rfl, below_setCells (by go_grown) (by omega)⟩
theorem Class_with (h0 h1 h2 h3 h4 h5 h : Hd) (w : World) : Calls prog 281 #[.agg #[], .agg #[J h0, J h1, J h2, J h3, J h4, J h5], J h] w fun e w' => e = .returned (.agg #[J h0, J h1, J h2, J h3, J h, J h5]) ∧ Below w.heap.size w w' := by
 go_enter func281, ntmps281
 go_wp2_with fail
 refine bodyPost_ret (v := .agg #[J h0, J h1, J h2, J h3, J h, J h5]) (by simp [results, results281, go_sem]) rfl ⟨rfl, by go_grown⟩
theorem itClass : (prog.info? 42).map (·.size) = some 2 := by kernel_rfl
def PredClass (g : Nat) (lb : Array Value) (p : ClassD → Bool) (w : World) : Prop :=
 ∀ (W : World) (cs : List Value) (x : ClassD), Below w.heap.size w W → RClass (fun _ => True) W cs x → Calls prog g (#[.agg cs.toArray] ++ lb) W fun e w' => e = .returned (.bool (p x)) ∧ Below W.heap.size W w'
theorem IndexClass_calls (a : Option Addr) (n cap : Nat) (A : Where) (L : List ClassD) (w : World) (hL : Hid (SlAt RClass 2 24 A w a n cap L)) (p : ClassD → Bool) (g : Nat) (lb : Array Value) (eg : ∀ args w, (callFunc g args).run prog w = .ok (.enter g args) w) (hp : Hid (PredClass g lb p w)) :
  Calls prog 297 #[.slice a n cap, .func (.func g) #[] lb] w fun e w' => ((∃ i : Nat, i < L.length ∧ p (L.getD i default) = true ∧ (∀ j, j < i → p (L.getD j default) = false) ∧ e = .returned (.int .i64 i)) ∨ ((∀ j, j < L.length → p (L.getD j default) = false) ∧ e = .returned (.int .i64 (-1)))) ∧ Below w.heap.size w w' := by
 have hlen := hL.out.len (by decide)
 have HN : Hid (L.length = n) := hL.out.1
 go_enter func297, ntmps297
 go_wp2
 go_loopw [8] (fun i wr => ∃ k : Nat, k ≤ n ∧ i = .int .i64 k ∧ Below w.heap.size w wr ∧ Hid (∀ j, j < k → p (L.getD j default) = false)) (fun i _ => n - (intOf i).toNat)
 case atStart => exact ⟨0, Nat.zero_le _, rfl, Below.refl _ _, fun j hj => absurd hj (Nat.not_lt_zero _)⟩
 case round =>
  obtain ⟨k, hk, rfl, hbel, hall⟩ := hrel
  by_cases hlt : k < n
  ·
   obtain ⟨B, off, rfl, hB, _, cs, hr, hv⟩ := (hL.out.on RClass.firm hbel).get hlt
   have HV : Hid (wr.rangeAt B (off + k * 2) cs) := hv
   have hi : (prog.info? 42).map (·.size) = some cs.length := by rw [RClass.firm.len hr]; exact itClass
   have hcall := hp.out wr cs (L.getD k default) hbel (RClass.firm.weak hr (fun _ _ _ => trivial))
   clear hv hr
   have HG : Hid (p (L.getD k default) = false → ∀ j, j < k + 1 → p (L.getD j default) = false) := fun h j hj => by
    rcases Nat.lt_succ_iff_lt_or_eq.1 hj with h' | rfl
    ·
     exact hall.out j h'
    ·
     exact h
   have HF : Hid (p (L.getD k default) = true → ∃ i : Nat, i < L.length ∧ p (L.getD i default) = true ∧ (∀ j, j < i → p (L.getD j default) = false) ∧ Ending.returned (.int .i64 k) = .returned (.int .i64 i)) := fun h => ⟨k, by rw [HN.out]; exact hlt, h, hall.out, rfl⟩
   clear hall
   generalize L.getD k default = x at hcall HG HF
   cases hq : p x
   ·
    have HG' : Hid (∀ j, j < k + 1 → p (L.getD j default) = false) := HG.out hq
    rw [hq] at hcall
    clear HG HF hq
    go_wp2_with (first | (refine wpList_load_mid rfl 42 _ rfl B (off + k * 2) rfl cs _ HV.out underlying42 rfl hi ?_) | fail)
    refine hcall.mono ?_
    rintro e w' ⟨rfl, hb'⟩
    go_wp2_with fail
    go_roundw
    case rel => exact ⟨k + 1, by omega, by go_num, on2 hbel hb', HG'⟩
    case measure => simp [intOf]; omega
   ·
    have HF' := HF.out hq
    have HF2 : Hid (∃ i : Nat, i < L.length ∧ p (L.getD i default) = true ∧ (∀ j, j < i → p (L.getD j default) = false) ∧ Ending.returned (.int .i64 k) = .returned (.int .i64 i)) := HF'
    rw [hq] at hcall
    clear HG HF hq HF'
    go_wp2_with (first | (refine wpList_load_mid rfl 42 _ rfl B (off + k * 2) rfl cs _ HV.out underlying42 rfl hi ?_) | fail)
    refine hcall.mono ?_
    rintro e w' ⟨rfl, hb'⟩
    go_wp2_with fail
    go_ret
    exact ⟨.inl HF2.out, on2 hbel hb'⟩
  ·
   have HA : Hid (∀ j, j < L.length → p (L.getD j default) = false) := fun j hj => hall.out j (by rw [HN.out] at hj; omega)
   clear hall
   go_wp2
   go_ret
   exact ⟨.inr ⟨HA.out, rfl⟩, hbel⟩
end Go.Proofs.YtikncmcceeacmaaGreat

