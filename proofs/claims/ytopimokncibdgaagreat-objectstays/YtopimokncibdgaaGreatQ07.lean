/- What pods tell of an object: its member; a state with other ones: cells alone., and its like. No condition beyond what each says. -/
import Derived.Laws.StructEq
import Derived.Shelf.Abstract
import Derived.Test.YtopimokncibdgaaGreatQ06
namespace Go.Proofs.YtopimokncibdgaaGreat
set_option maxHeartbeats 16000000
set_option maxRecDepth 100000
open Tryz Go.RowKit
set_option linter.unusedSimpArgs false
theorem sizPod : (prog.info? 33).map (·.size) = some 16 := by kernel_rfl
theorem Pod_member (p c q : List Value) (hp : p.length = 1) (hc : c.length = 16) (h1 : ∀ v ∈ c, v.oneCell' = true) (w : World) : Calls prog 340 #[.agg #[], .agg (p ++ (c ++ q)).toArray] w fun e w' => e = .returned (.agg c.toArray) ∧ Below w.heap.size w w' := by
 have hi : (prog.info? 33).map (·.size) = some c.length := by rw [hc]; exact sizPod
 have Hr : ∀ T z, Hid ((((w.alloc (.cells #[] T)).alloc (.cells (p ++ (c ++ q)).toArray 46)).alloc (.cells z 33)).rangeAt (w.heap.size + 1) 1 c) := fun T z => World.rangeAt_alloc (range_new (by simp) hp) _
 have Ht : ∀ T z, z.size = 16 → Hid ((((w.alloc (.cells #[] T)).alloc (.cells (p ++ (c ++ q)).toArray 46)).alloc (.cells z 33)).there (w.heap.size + 1 + 1) 0 c.toArray.size) := fun T z hz => there_new (by simp) (by simp [hc, hz])
 have h1' := all_oneCell_toArray h1
 have HE : Hid (c.toArray.size = 16) := by simp [Hid, hc]
 clear hp hc h1
 go_enter func340, ntmps340
 go_wp2_with (first | (refine wpList_load_mid rfl 33 _ rfl (w.heap.size + 1) 1 rfl c _ (Hr _ _).out underlying33 rfl hi ?_) | (refine wpList_store_mid rfl 33 _ _ rfl (w.heap.size + 1 + 1) 0 c.toArray rfl rfl (Ht _ _ rfl).out (by simpa using hi) h1' ?_))
 have HT := (Ht 132 #[.string ⟨#[]⟩, .int .i64 0, Z, .int .i64 0, .int .i64 0, .int .i64 0, Z, Z, Z, Z, Z, Z, Z, Z, .string ⟨#[]⟩, .string ⟨#[]⟩] rfl).out
 refine bodyPost_ret (v := .agg c.toArray) (res_cell (p := 4) (ty := 33) rfl _ _ (w.heap.size + 1 + 1) c _ rfl (World.rangeAt_setCells_same _ _ _ _ (by simpa using HT)) underlying33 rfl hi) rfl ⟨rfl, below_setCells (by go_grown) (by omega)⟩
theorem Pod_with (h0 h1 h2 h3 h4 h5 h : Hd) (w : World) : Calls prog 342 #[.agg #[], .agg #[J h0, J h1, J h2, J h3, J h4, J h5], J h] w fun e w' => e = .returned (.agg #[J h, J h1, J h2, J h3, J h4, J h5]) ∧ Below w.heap.size w w' := by
 go_enter func342, ntmps342
 go_wp2_with fail
 refine bodyPost_ret (v := .agg #[J h, J h1, J h2, J h3, J h4, J h5]) (by simp [results, results342, go_sem]) rfl ⟨rfl, by go_grown⟩
theorem areAmounts_calls (r : ResD) (w : World) : Calls prog 103 #[.agg #[.int .i64 r.1, .int .i64 r.2.1, .int .i64 r.2.2]] w fun e w' => e = .returned (.bool (resB r)) ∧ Below w.heap.size w w' := by
 have HH0 : Hid (Held w [(w.heap.size, [.int .i64 r.1, .int .i64 r.2.1, .int .i64 r.2.2])] [] (w.alloc (.cells #[.int .i64 r.1, .int .i64 r.2.1, .int .i64 r.2.2] 24))) := ((Held.start w).push rfl [.int .i64 r.1, .int .i64 r.2.1, .int .i64 r.2.2] 24)
 obtain ⟨b0, e0⟩ : ∃ b : Bool, amountB r.1 = b := ⟨_, rfl⟩
 obtain ⟨b1, e1⟩ : ∃ b : Bool, amountB r.2.1 = b := ⟨_, rfl⟩
 obtain ⟨b2, e2⟩ : ∃ b : Bool, amountB r.2.2 = b := ⟨_, rfl⟩
 have HF : Hid (resB r = (b0 && b1 && b2)) := by rw [Hid, ← e0, ← e1, ← e2]; rfl
 have HC0 : Hid (∀ u, Below w.heap.size w u → Calls prog 120 #[.int .i64 r.1] u fun e w' => e = .returned (.bool b0) ∧ Below u.heap.size u w') := fun u hu => by rw [← e0]; exact calls_same (isAmount_calls r.1 _)
 clear e0
 have HC1 : Hid (∀ u, Below w.heap.size w u → Calls prog 120 #[.int .i64 r.2.1] u fun e w' => e = .returned (.bool b1) ∧ Below u.heap.size u w') := fun u hu => by rw [← e1]; exact calls_same (isAmount_calls r.2.1 _)
 clear e1
 have HC2 : Hid (∀ u, Below w.heap.size w u → Calls prog 120 #[.int .i64 r.2.2] u fun e w' => e = .returned (.bool b2) ∧ Below u.heap.size u w') := fun u hu => by rw [← e2]; exact calls_same (isAmount_calls r.2.2 _)
 clear e2
 go_enter func103, ntmps103
 go_wp2_with fail
 refine (HC0.out _ HH0.out.below).mono ?_
 rintro e u1 ⟨rfl, hb1⟩
 have HH1 : Hid (Held w [(w.heap.size, [.int .i64 r.1, .int .i64 r.2.1, .int .i64 r.2.2])] [] u1) := HH0.out.on hb1
 clear hb1 HH0 HC0
 cases b0
 ·
  clear HC1 HC2
  go_wp2_with fail
  go_ret
  exact ⟨retb (by rw [HF.out] <;> simp), HH1.out.below⟩
 have k0_1 := HH1.out.cell 0 (b := w.heap.size) rfl 1 rfl
 have kl0 := HH1.out.lt 0 rfl
 go_wp2_with fail
 clear k0_1 kl0
 refine (HC1.out _ HH1.out.below).mono ?_
 rintro e u2 ⟨rfl, hb2⟩
 have HH2 : Hid (Held w [(w.heap.size, [.int .i64 r.1, .int .i64 r.2.1, .int .i64 r.2.2])] [] u2) := HH1.out.on hb2
 clear hb2 HH1 HC1
 cases b1
 ·
  clear HC2
  go_wp2_with fail
  go_ret
  exact ⟨retb (by rw [HF.out] <;> simp), HH2.out.below⟩
 have k1_2 := HH2.out.cell 0 (b := w.heap.size) rfl 2 rfl
 have kl1 := HH2.out.lt 0 rfl
 go_wp2_with fail
 clear k1_2 kl1
 refine (HC2.out _ HH2.out.below).mono ?_
 rintro e u3 ⟨rfl, hb3⟩
 have HH3 : Hid (Held w [(w.heap.size, [.int .i64 r.1, .int .i64 r.2.1, .int .i64 r.2.2])] [] u3) := HH2.out.on hb3
 clear hb3 HH2 HC2
 cases b2
 ·
  skip
  go_wp2_with fail
  go_ret
  exact ⟨retb (by rw [HF.out] <;> simp), HH3.out.below⟩
 go_wp2_with fail
 go_ret
 exact ⟨retb (by rw [HF.out] <;> simp), HH3.out.below⟩
theorem isPrefer_calls (c : List Value) (A : Where) (x : PreferD) (w : World) (h : Hid (RPrefer A w c x)) : Calls prog 105 #[.agg c.toArray] w fun e w' => e = .returned (.bool (preferB x)) ∧ Below w.heap.size w w' := by
 obtain ⟨h0, rfl, hs⟩ := h.out.out
 have HS : Hid (SlAt RReq 3 48 A w h0.1 h0.2.1 h0.2.2 x.1) := hs
 clear h hs
 have HH0 : Hid (Held w [(w.heap.size, [J h0, .int .i64 x.2])] [] (w.alloc (.cells #[J h0, .int .i64 x.2] 108))) := ((Held.start w).push rfl [J h0, .int .i64 x.2] 108)
 obtain ⟨b0, e0⟩ : ∃ b : Bool, reqsB x.1 = b := ⟨_, rfl⟩
 obtain ⟨b1, e1⟩ : ∃ b : Bool, withinB x.2 1 100 = b := ⟨_, rfl⟩
 have HF : Hid (preferB x = (b0 && b1)) := by rw [Hid, ← e0, ← e1]; rfl
 have HC0 : Hid (∀ u, Below w.heap.size w u → Calls prog 101 #[J h0] u fun e w' => e = .returned (.bool b0) ∧ Below u.heap.size u w') := fun u hu => by rw [← e0]; exact areReqs_calls _ _ _ A x.1 _ (HS.out.kept RReq.firm (Kept.below hu))
 clear e0
 have HC1 : Hid (∀ u, Below w.heap.size w u → Calls prog 99 #[.int .i64 x.2, .int .i64 1, .int .i64 100] u fun e w' => e = .returned (.bool b1) ∧ Below u.heap.size u w') := fun u hu => by rw [← e1]; exact calls_same (within_calls x.2 1 100 _)
 clear e1
 go_enter func105, ntmps105
 go_wp2_with fail
 refine (HC0.out _ HH0.out.below).mono ?_
 rintro e u1 ⟨rfl, hb1⟩
 have HH1 : Hid (Held w [(w.heap.size, [J h0, .int .i64 x.2])] [] u1) := HH0.out.on hb1
 clear hb1 HH0 HC0
 cases b0
 ·
  clear HC1
  go_wp2_with fail
  go_ret
  exact ⟨retb (by rw [HF.out] <;> simp), HH1.out.below⟩
 have k0_1 := HH1.out.cell 0 (b := w.heap.size) rfl 1 rfl
 have kl0 := HH1.out.lt 0 rfl
 go_wp2_with fail
 clear k0_1 kl0
 refine (HC1.out _ HH1.out.below).mono ?_
 rintro e u2 ⟨rfl, hb2⟩
 have HH2 : Hid (Held w [(w.heap.size, [J h0, .int .i64 x.2])] [] u2) := HH1.out.on hb2
 clear hb2 HH1 HC1
 cases b1
 ·
  skip
  go_wp2_with fail
  go_ret
  exact ⟨retb (by rw [HF.out] <;> simp), HH2.out.below⟩
 go_wp2_with fail
 go_ret
 exact ⟨retb (by rw [HF.out] <;> simp), HH2.out.below⟩
theorem isTerm_calls (c : List Value) (A : Where) (x : TermD) (w : World) (h : Hid (RTerm A w c x)) : Calls prog 110 #[.agg c.toArray] w fun e w' => e = .returned (.bool (termB x)) ∧ Below w.heap.size w w' := by
 obtain ⟨h0, rfl, hs, _⟩ := h.out.out
 have HS : Hid (SlAt RReq 3 48 A w h0.1 h0.2.1 h0.2.2 x.1) := hs
 clear h hs
 have HH0 : Hid (Held w [(w.heap.size, [J h0, .string x.2])] [] (w.alloc (.cells #[J h0, .string x.2] 171))) := ((Held.start w).push rfl [J h0, .string x.2] 171)
 obtain ⟨b0, e0⟩ : ∃ b : Bool, reqsB x.1 = b := ⟨_, rfl⟩
 obtain ⟨b1, e1⟩ : ∃ b : Bool, wordB x.2 = b := ⟨_, rfl⟩
 have HF : Hid (termB x = (b0 && b1)) := by rw [Hid, ← e0, ← e1]; rfl
 have HC0 : Hid (∀ u, Below w.heap.size w u → Calls prog 101 #[J h0] u fun e w' => e = .returned (.bool b0) ∧ Below u.heap.size u w') := fun u hu => by rw [← e0]; exact areReqs_calls _ _ _ A x.1 _ (HS.out.kept RReq.firm (Kept.below hu))
 clear e0
 have HC1 : Hid (∀ u, Below w.heap.size w u → Calls prog 98 #[.string x.2] u fun e w' => e = .returned (.bool b1) ∧ Below u.heap.size u w') := fun u hu => by rw [← e1]; exact calls_same (Word_calls x.2 _)
 clear e1
 go_enter func110, ntmps110
 go_wp2_with fail
 refine (HC0.out _ HH0.out.below).mono ?_
 rintro e u1 ⟨rfl, hb1⟩
 have HH1 : Hid (Held w [(w.heap.size, [J h0, .string x.2])] [] u1) := HH0.out.on hb1
 clear hb1 HH0 HC0
 cases b0
 ·
  clear HC1
  go_wp2_with fail
  go_ret
  exact ⟨retb (by rw [HF.out] <;> simp), HH1.out.below⟩
 have k0_1 := HH1.out.cell 0 (b := w.heap.size) rfl 1 rfl
 have kl0 := HH1.out.lt 0 rfl
 go_wp2_with fail
 clear k0_1 kl0
 refine (HC1.out _ HH1.out.below).mono ?_
 rintro e u2 ⟨rfl, hb2⟩
 have HH2 : Hid (Held w [(w.heap.size, [J h0, .string x.2])] [] u2) := HH1.out.on hb2
 clear hb2 HH1 HC1
 cases b1
 ·
  skip
  go_wp2_with fail
  go_ret
  exact ⟨retb (by rw [HF.out] <;> simp), HH2.out.below⟩
 go_wp2_with fail
 go_ret
 exact ⟨retb (by rw [HF.out] <;> simp), HH2.out.below⟩
theorem isSpread_calls (c : List Value) (A : Where) (x : SpreadD) (w : World) (h : Hid (RSpread A w c x)) : Calls prog 112 #[.agg c.toArray] w fun e w' => e = .returned (.bool (spreadB x)) ∧ Below w.heap.size w w' := by
 obtain ⟨h3, rfl, _, hs⟩ := h.out.out
 have HS : Hid (SlAt RReq 3 48 A w h3.1 h3.2.1 h3.2.2 x.2.2.2) := hs
 clear h hs
 have HH0 : Hid (Held w [(w.heap.size, [.string x.1, .int .i64 x.2.1, .int .i64 x.2.2.1, J h3])] [] (w.alloc (.cells #[.string x.1, .int .i64 x.2.1, .int .i64 x.2.2.1, J h3] 112))) := ((Held.start w).push rfl [.string x.1, .int .i64 x.2.1, .int .i64 x.2.2.1, J h3] 112)
 obtain ⟨b0, e0⟩ : ∃ b : Bool, wordB x.1 = b := ⟨_, rfl⟩
 obtain ⟨b1, e1⟩ : ∃ b : Bool, withinB x.2.1 1 1000 = b := ⟨_, rfl⟩
 obtain ⟨b2, e2⟩ : ∃ b : Bool, withinB x.2.2.1 0 1000 = b := ⟨_, rfl⟩
 obtain ⟨b3, e3⟩ : ∃ b : Bool, reqsB x.2.2.2 = b := ⟨_, rfl⟩
 have HF : Hid (spreadB x = (b0 && b1 && b2 && b3)) := by rw [Hid, ← e0, ← e1, ← e2, ← e3]; rfl
 have HC0 : Hid (∀ u, Below w.heap.size w u → Calls prog 98 #[.string x.1] u fun e w' => e = .returned (.bool b0) ∧ Below u.heap.size u w') := fun u hu => by rw [← e0]; exact calls_same (Word_calls x.1 _)
 clear e0
 have HC1 : Hid (∀ u, Below w.heap.size w u → Calls prog 99 #[.int .i64 x.2.1, .int .i64 1, .int .i64 1000] u fun e w' => e = .returned (.bool b1) ∧ Below u.heap.size u w') := fun u hu => by rw [← e1]; exact calls_same (within_calls x.2.1 1 1000 _)
 clear e1
 have HC2 : Hid (∀ u, Below w.heap.size w u → Calls prog 99 #[.int .i64 x.2.2.1, .int .i64 0, .int .i64 1000] u fun e w' => e = .returned (.bool b2) ∧ Below u.heap.size u w') := fun u hu => by rw [← e2]; exact calls_same (within_calls x.2.2.1 0 1000 _)
 clear e2
 have HC3 : Hid (∀ u, Below w.heap.size w u → Calls prog 101 #[J h3] u fun e w' => e = .returned (.bool b3) ∧ Below u.heap.size u w') := fun u hu => by rw [← e3]; exact areReqs_calls _ _ _ A x.2.2.2 _ (HS.out.kept RReq.firm (Kept.below hu))
 clear e3
 go_enter func112, ntmps112
 go_wp2_with fail
 refine (HC0.out _ HH0.out.below).mono ?_
 rintro e u1 ⟨rfl, hb1⟩
 have HH1 : Hid (Held w [(w.heap.size, [.string x.1, .int .i64 x.2.1, .int .i64 x.2.2.1, J h3])] [] u1) := HH0.out.on hb1
 clear hb1 HH0 HC0
 cases b0
 ·
  clear HC1 HC2 HC3
  go_wp2_with fail
  go_ret
  exact ⟨retb (by rw [HF.out] <;> simp), HH1.out.below⟩
 have k0_1 := HH1.out.cell 0 (b := w.heap.size) rfl 1 rfl
 have kl0 := HH1.out.lt 0 rfl
 go_wp2_with fail
 clear k0_1 kl0
 refine (HC1.out _ HH1.out.below).mono ?_
 rintro e u2 ⟨rfl, hb2⟩
 have HH2 : Hid (Held w [(w.heap.size, [.string x.1, .int .i64 x.2.1, .int .i64 x.2.2.1, J h3])] [] u2) := HH1.out.on hb2
 clear hb2 HH1 HC1
 cases b1
 ·
  clear HC2 HC3
  go_wp2_with fail
  go_ret
  exact ⟨retb (by rw [HF.out] <;> simp), HH2.out.below⟩
 have k1_2 := HH2.out.cell 0 (b := w.heap.size) rfl 2 rfl
 have kl1 := HH2.out.lt 0 rfl
 go_wp2_with fail
 clear k1_2 kl1
 refine (HC2.out _ HH2.out.below).mono ?_
 rintro e u3 ⟨rfl, hb3⟩
 have HH3 : Hid (Held w [(w.heap.size, [.string x.1, .int .i64 x.2.1, .int .i64 x.2.2.1, J h3])] [] u3) := HH2.out.on hb3
 clear hb3 HH2 HC2
 cases b2
 ·
  clear HC3
  go_wp2_with fail
  go_ret
  exact ⟨retb (by rw [HF.out] <;> simp), HH3.out.below⟩
 have k2_3 := HH3.out.cell 0 (b := w.heap.size) rfl 3 rfl
 have kl2 := HH3.out.lt 0 rfl
 go_wp2_with fail
 clear k2_3 kl2
 refine (HC3.out _ HH3.out.below).mono ?_
 rintro e u4 ⟨rfl, hb4⟩
 have HH4 : Hid (Held w [(w.heap.size, [.string x.1, .int .i64 x.2.1, .int .i64 x.2.2.1, J h3])] [] u4) := HH3.out.on hb4
 clear hb4 HH3 HC3
 cases b3
 ·
  skip
  go_wp2_with fail
  go_ret
  exact ⟨retb (by rw [HF.out] <;> simp), HH4.out.below⟩
 go_wp2_with fail
 go_ret
 exact ⟨retb (by rw [HF.out] <;> simp), HH4.out.below⟩
theorem Class_right (c : List Value) (A : Where) (x : ClassD) (w : World) (h : Hid (RClass A w c x)) : Calls prog 281 #[.agg #[], .agg c.toArray] w fun e w' => e = .returned (.bool (rightClass x)) ∧ Below w.heap.size w w' := by
 obtain ⟨rfl, _⟩ := h.out.out
 clear h
 have HH0 : Hid (Held w [(w.heap.size + 1, [.string x.1, .bool x.2]), (w.heap.size, [])] [] ((w.alloc (.cells #[] 152)).alloc (.cells #[.string x.1, .bool x.2] 42))) := (((Held.start w).push rfl [] 152).push (by simp) [.string x.1, .bool x.2] 42)
 obtain ⟨b0, e0⟩ : ∃ b : Bool, wordB x.1 = b := ⟨_, rfl⟩
 have HF : Hid (rightClass x = (b0)) := by rw [Hid, ← e0]; rfl
 have HC0 : Hid (∀ u, Below w.heap.size w u → Calls prog 98 #[.string x.1] u fun e w' => e = .returned (.bool b0) ∧ Below u.heap.size u w') := fun u hu => by rw [← e0]; exact calls_same (Word_calls x.1 _)
 clear e0
 go_enter func281, ntmps281
 go_wp2_with fail
 refine (HC0.out _ HH0.out.below).mono ?_
 rintro e u1 ⟨rfl, hb1⟩
 have HH1 : Hid (Held w [(w.heap.size + 1, [.string x.1, .bool x.2]), (w.heap.size, [])] [] u1) := HH0.out.on hb1
 clear hb1 HH0 HC0
 cases b0
 ·
  skip
  go_wp2_with fail
  go_ret
  exact ⟨retb (by rw [HF.out] <;> simp), HH1.out.below⟩
 go_wp2_with fail
 go_ret
 exact ⟨retb (by rw [HF.out] <;> simp), HH1.out.below⟩
theorem Claim_right (c : List Value) (A : Where) (x : ClaimD) (w : World) (h : Hid (RClaim A w c x)) : Calls prog 250 #[.agg #[], .agg c.toArray] w fun e w' => e = .returned (.bool (rightClaim x)) ∧ Below w.heap.size w w' := by
 obtain ⟨rfl, _⟩ := h.out.out
 clear h
 have HH0 : Hid (Held w [(w.heap.size + 1, [.string x.1, .int .i64 x.2.1, .string x.2.2.1, .string x.2.2.2]), (w.heap.size, [])] [] ((w.alloc (.cells #[] 147)).alloc (.cells #[.string x.1, .int .i64 x.2.1, .string x.2.2.1, .string x.2.2.2] 40))) := (((Held.start w).push rfl [] 147).push (by simp) [.string x.1, .int .i64 x.2.1, .string x.2.2.1, .string x.2.2.2] 40)
 obtain ⟨b0, e0⟩ : ∃ b : Bool, wordB x.1 = b := ⟨_, rfl⟩
 obtain ⟨b1, e1⟩ : ∃ b : Bool, amountB x.2.1 = b := ⟨_, rfl⟩
 obtain ⟨b2, e2⟩ : ∃ b : Bool, wordB x.2.2.1 = b := ⟨_, rfl⟩
 obtain ⟨b3, e3⟩ : ∃ b : Bool, nameNone x.2.2.2 = b := ⟨_, rfl⟩
 have HF : Hid (rightClaim x = (b0 && b1 && b2 && b3)) := by rw [Hid, ← e0, ← e1, ← e2, ← e3]; rfl
 have HC0 : Hid (∀ u, Below w.heap.size w u → Calls prog 98 #[.string x.1] u fun e w' => e = .returned (.bool b0) ∧ Below u.heap.size u w') := fun u hu => by rw [← e0]; exact calls_same (Word_calls x.1 _)
 clear e0
 have HC1 : Hid (∀ u, Below w.heap.size w u → Calls prog 120 #[.int .i64 x.2.1] u fun e w' => e = .returned (.bool b1) ∧ Below u.heap.size u w') := fun u hu => by rw [← e1]; exact calls_same (isAmount_calls x.2.1 _)
 clear e1
 have HC2 : Hid (∀ u, Below w.heap.size w u → Calls prog 98 #[.string x.2.2.1] u fun e w' => e = .returned (.bool b2) ∧ Below u.heap.size u w') := fun u hu => by rw [← e2]; exact calls_same (Word_calls x.2.2.1 _)
 clear e2
 have HC3 : Hid (∀ u, Below w.heap.size w u → Calls prog 115 #[.string x.2.2.2] u fun e w' => e = .returned (.bool b3) ∧ Below u.heap.size u w') := fun u hu => by rw [← e3]; exact calls_same (isNameOrNone_calls x.2.2.2 _)
 clear e3
 go_enter func250, ntmps250
 go_wp2_with fail
 refine (HC0.out _ HH0.out.below).mono ?_
 rintro e u1 ⟨rfl, hb1⟩
 have HH1 : Hid (Held w [(w.heap.size + 1, [.string x.1, .int .i64 x.2.1, .string x.2.2.1, .string x.2.2.2]), (w.heap.size, [])] [] u1) := HH0.out.on hb1
 clear hb1 HH0 HC0
 cases b0
 ·
  clear HC1 HC2 HC3
  go_wp2_with fail
  go_ret
  exact ⟨retb (by rw [HF.out] <;> simp), HH1.out.below⟩
 have k0_1 := HH1.out.cell 0 (b := w.heap.size + 1) rfl 1 rfl
 have kl0 := HH1.out.lt 0 rfl
 go_wp2_with fail
 clear k0_1 kl0
 refine (HC1.out _ HH1.out.below).mono ?_
 rintro e u2 ⟨rfl, hb2⟩
 have HH2 : Hid (Held w [(w.heap.size + 1, [.string x.1, .int .i64 x.2.1, .string x.2.2.1, .string x.2.2.2]), (w.heap.size, [])] [] u2) := HH1.out.on hb2
 clear hb2 HH1 HC1
 cases b1
 ·
  clear HC2 HC3
  go_wp2_with fail
  go_ret
  exact ⟨retb (by rw [HF.out] <;> simp), HH2.out.below⟩
 have k1_2 := HH2.out.cell 0 (b := w.heap.size + 1) rfl 2 rfl
 have kl1 := HH2.out.lt 0 rfl
 go_wp2_with fail
 clear k1_2 kl1
 refine (HC2.out _ HH2.out.below).mono ?_
 rintro e u3 ⟨rfl, hb3⟩
 have HH3 : Hid (Held w [(w.heap.size + 1, [.string x.1, .int .i64 x.2.1, .string x.2.2.1, .string x.2.2.2]), (w.heap.size, [])] [] u3) := HH2.out.on hb3
 clear hb3 HH2 HC2
 cases b2
 ·
  clear HC3
  go_wp2_with fail
  go_ret
  exact ⟨retb (by rw [HF.out] <;> simp), HH3.out.below⟩
 have k2_3 := HH3.out.cell 0 (b := w.heap.size + 1) rfl 3 rfl
 have kl2 := HH3.out.lt 0 rfl
 go_wp2_with fail
 clear k2_3 kl2
 refine (HC3.out _ HH3.out.below).mono ?_
 rintro e u4 ⟨rfl, hb4⟩
 have HH4 : Hid (Held w [(w.heap.size + 1, [.string x.1, .int .i64 x.2.1, .string x.2.2.1, .string x.2.2.2]), (w.heap.size, [])] [] u4) := HH3.out.on hb4
 clear hb4 HH3 HC3
 cases b3
 ·
  skip
  go_wp2_with fail
  go_ret
  exact ⟨retb (by rw [HF.out] <;> simp), HH4.out.below⟩
 go_wp2_with fail
 go_ret
 exact ⟨retb (by rw [HF.out] <;> simp), HH4.out.below⟩
theorem Volume_right (c : List Value) (A : Where) (x : VolumeD) (w : World) (h : Hid (RVolume A w c x)) : Calls prog 219 #[.agg #[], .agg c.toArray] w fun e w' => e = .returned (.bool (rightVolume x)) ∧ Below w.heap.size w w' := by
 obtain ⟨h3, rfl, _, _, hs, _⟩ := h.out.out
 have HS : Hid (SlAt RReq 3 48 A w h3.1 h3.2.1 h3.2.2 x.2.2.2.1) := hs
 clear h hs
 have HH0 : Hid (Held w [(w.heap.size + 1, [.string x.1, .int .i64 x.2.1, .string x.2.2.1, J h3, .string x.2.2.2.2]), (w.heap.size, [])] [] ((w.alloc (.cells #[] 142)).alloc (.cells #[.string x.1, .int .i64 x.2.1, .string x.2.2.1, J h3, .string x.2.2.2.2] 38))) := (((Held.start w).push rfl [] 142).push (by simp) [.string x.1, .int .i64 x.2.1, .string x.2.2.1, J h3, .string x.2.2.2.2] 38)
 obtain ⟨b0, e0⟩ : ∃ b : Bool, wordB x.1 = b := ⟨_, rfl⟩
 obtain ⟨b1, e1⟩ : ∃ b : Bool, amountB x.2.1 = b := ⟨_, rfl⟩
 obtain ⟨b2, e2⟩ : ∃ b : Bool, wordB x.2.2.1 = b := ⟨_, rfl⟩
 obtain ⟨b3, e3⟩ : ∃ b : Bool, reqsB x.2.2.2.1 = b := ⟨_, rfl⟩
 obtain ⟨b4, e4⟩ : ∃ b : Bool, nameNone x.2.2.2.2 = b := ⟨_, rfl⟩
 have HF : Hid (rightVolume x = (b0 && b1 && b2 && b3 && b4)) := by rw [Hid, ← e0, ← e1, ← e2, ← e3, ← e4]; rfl
 have HC0 : Hid (∀ u, Below w.heap.size w u → Calls prog 98 #[.string x.1] u fun e w' => e = .returned (.bool b0) ∧ Below u.heap.size u w') := fun u hu => by rw [← e0]; exact calls_same (Word_calls x.1 _)
 clear e0
 have HC1 : Hid (∀ u, Below w.heap.size w u → Calls prog 120 #[.int .i64 x.2.1] u fun e w' => e = .returned (.bool b1) ∧ Below u.heap.size u w') := fun u hu => by rw [← e1]; exact calls_same (isAmount_calls x.2.1 _)
 clear e1
 have HC2 : Hid (∀ u, Below w.heap.size w u → Calls prog 98 #[.string x.2.2.1] u fun e w' => e = .returned (.bool b2) ∧ Below u.heap.size u w') := fun u hu => by rw [← e2]; exact calls_same (Word_calls x.2.2.1 _)
 clear e2
 have HC3 : Hid (∀ u, Below w.heap.size w u → Calls prog 101 #[J h3] u fun e w' => e = .returned (.bool b3) ∧ Below u.heap.size u w') := fun u hu => by rw [← e3]; exact areReqs_calls _ _ _ A x.2.2.2.1 _ (HS.out.kept RReq.firm (Kept.below hu))
 clear e3
 have HC4 : Hid (∀ u, Below w.heap.size w u → Calls prog 115 #[.string x.2.2.2.2] u fun e w' => e = .returned (.bool b4) ∧ Below u.heap.size u w') := fun u hu => by rw [← e4]; exact calls_same (isNameOrNone_calls x.2.2.2.2 _)
 clear e4
 go_enter func219, ntmps219
 go_wp2_with fail
 refine (HC0.out _ HH0.out.below).mono ?_
 rintro e u1 ⟨rfl, hb1⟩
 have HH1 : Hid (Held w [(w.heap.size + 1, [.string x.1, .int .i64 x.2.1, .string x.2.2.1, J h3, .string x.2.2.2.2]), (w.heap.size, [])] [] u1) := HH0.out.on hb1
 clear hb1 HH0 HC0
 cases b0
 ·
  clear HC1 HC2 HC3 HC4
  go_wp2_with fail
  go_ret
  exact ⟨retb (by rw [HF.out] <;> simp), HH1.out.below⟩
 have k0_1 := HH1.out.cell 0 (b := w.heap.size + 1) rfl 1 rfl
 have kl0 := HH1.out.lt 0 rfl
 go_wp2_with fail
 clear k0_1 kl0
 refine (HC1.out _ HH1.out.below).mono ?_
 rintro e u2 ⟨rfl, hb2⟩
 have HH2 : Hid (Held w [(w.heap.size + 1, [.string x.1, .int .i64 x.2.1, .string x.2.2.1, J h3, .string x.2.2.2.2]), (w.heap.size, [])] [] u2) := HH1.out.on hb2
 clear hb2 HH1 HC1
 cases b1
 ·
  clear HC2 HC3 HC4
  go_wp2_with fail
  go_ret
  exact ⟨retb (by rw [HF.out] <;> simp), HH2.out.below⟩
 have k1_2 := HH2.out.cell 0 (b := w.heap.size + 1) rfl 2 rfl
 have kl1 := HH2.out.lt 0 rfl
 go_wp2_with fail
 clear k1_2 kl1
 refine (HC2.out _ HH2.out.below).mono ?_
 rintro e u3 ⟨rfl, hb3⟩
 have HH3 : Hid (Held w [(w.heap.size + 1, [.string x.1, .int .i64 x.2.1, .string x.2.2.1, J h3, .string x.2.2.2.2]), (w.heap.size, [])] [] u3) := HH2.out.on hb3
 clear hb3 HH2 HC2
 cases b2
 ·
  clear HC3 HC4
  go_wp2_with fail
  go_ret
  exact ⟨retb (by rw [HF.out] <;> simp), HH3.out.below⟩
 have k2_3 := HH3.out.cell 0 (b := w.heap.size + 1) rfl 3 rfl
 have kl2 := HH3.out.lt 0 rfl
 go_wp2_with fail
 clear k2_3 kl2
 refine (HC3.out _ HH3.out.below).mono ?_
 rintro e u4 ⟨rfl, hb4⟩
 have HH4 : Hid (Held w [(w.heap.size + 1, [.string x.1, .int .i64 x.2.1, .string x.2.2.1, J h3, .string x.2.2.2.2]), (w.heap.size, [])] [] u4) := HH3.out.on hb4
 clear hb4 HH3 HC3
 cases b3
 ·
  clear HC4
  go_wp2_with fail
  go_ret
  exact ⟨retb (by rw [HF.out] <;> simp), HH4.out.below⟩
 have k3_4 := HH4.out.cell 0 (b := w.heap.size + 1) rfl 4 rfl
 have kl3 := HH4.out.lt 0 rfl
 go_wp2_with fail
 clear k3_4 kl3
 refine (HC4.out _ HH4.out.below).mono ?_
 rintro e u5 ⟨rfl, hb5⟩
 have HH5 : Hid (Held w [(w.heap.size + 1, [.string x.1, .int .i64 x.2.1, .string x.2.2.1, J h3, .string x.2.2.2.2]), (w.heap.size, [])] [] u5) := HH4.out.on hb5
 clear hb5 HH4 HC4
 cases b4
 ·
  skip
  go_wp2_with fail
  go_ret
  exact ⟨retb (by rw [HF.out] <;> simp), HH5.out.below⟩
 go_wp2_with fail
 go_ret
 exact ⟨retb (by rw [HF.out] <;> simp), HH5.out.below⟩
theorem Budget_right (c : List Value) (A : Where) (x : BudgetD) (w : World) (h : Hid (RBudget A w c x)) : Calls prog 312 #[.agg #[], .agg c.toArray] w fun e w' => e = .returned (.bool (rightBudget x)) ∧ Below w.heap.size w w' := by
 obtain ⟨h1, rfl, _, hs⟩ := h.out.out
 have HS : Hid (SlAt RReq 3 48 A w h1.1 h1.2.1 h1.2.2 x.2.1) := hs
 clear h hs
 have HH0 : Hid (Held w [(w.heap.size + 1, [.string x.1, J h1, .int .i64 x.2.2]), (w.heap.size, [])] [] ((w.alloc (.cells #[] 157)).alloc (.cells #[.string x.1, J h1, .int .i64 x.2.2] 44))) := (((Held.start w).push rfl [] 157).push (by simp) [.string x.1, J h1, .int .i64 x.2.2] 44)
 obtain ⟨b0, e0⟩ : ∃ b : Bool, wordB x.1 = b := ⟨_, rfl⟩
 obtain ⟨b1, e1⟩ : ∃ b : Bool, reqsB x.2.1 = b := ⟨_, rfl⟩
 obtain ⟨b2, e2⟩ : ∃ b : Bool, withinB x.2.2 0 1000 = b := ⟨_, rfl⟩
 have HF : Hid (rightBudget x = (b0 && b1 && b2)) := by rw [Hid, ← e0, ← e1, ← e2]; rfl
 have HC0 : Hid (∀ u, Below w.heap.size w u → Calls prog 98 #[.string x.1] u fun e w' => e = .returned (.bool b0) ∧ Below u.heap.size u w') := fun u hu => by rw [← e0]; exact calls_same (Word_calls x.1 _)
 clear e0
 have HC1 : Hid (∀ u, Below w.heap.size w u → Calls prog 101 #[J h1] u fun e w' => e = .returned (.bool b1) ∧ Below u.heap.size u w') := fun u hu => by rw [← e1]; exact areReqs_calls _ _ _ A x.2.1 _ (HS.out.kept RReq.firm (Kept.below hu))
 clear e1
 have HC2 : Hid (∀ u, Below w.heap.size w u → Calls prog 99 #[.int .i64 x.2.2, .int .i64 0, .int .i64 1000] u fun e w' => e = .returned (.bool b2) ∧ Below u.heap.size u w') := fun u hu => by rw [← e2]; exact calls_same (within_calls x.2.2 0 1000 _)
 clear e2
 go_enter func312, ntmps312
 go_wp2_with fail
 refine (HC0.out _ HH0.out.below).mono ?_
 rintro e u1 ⟨rfl, hb1⟩
 have HH1 : Hid (Held w [(w.heap.size + 1, [.string x.1, J h1, .int .i64 x.2.2]), (w.heap.size, [])] [] u1) := HH0.out.on hb1
 clear hb1 HH0 HC0
 cases b0
 ·
  clear HC1 HC2
  go_wp2_with fail
  go_ret
  exact ⟨retb (by rw [HF.out] <;> simp), HH1.out.below⟩
 have k0_1 := HH1.out.cell 0 (b := w.heap.size + 1) rfl 1 rfl
 have kl0 := HH1.out.lt 0 rfl
 go_wp2_with fail
 clear k0_1 kl0
 refine (HC1.out _ HH1.out.below).mono ?_
 rintro e u2 ⟨rfl, hb2⟩
 have HH2 : Hid (Held w [(w.heap.size + 1, [.string x.1, J h1, .int .i64 x.2.2]), (w.heap.size, [])] [] u2) := HH1.out.on hb2
 clear hb2 HH1 HC1
 cases b1
 ·
  clear HC2
  go_wp2_with fail
  go_ret
  exact ⟨retb (by rw [HF.out] <;> simp), HH2.out.below⟩
 have k1_2 := HH2.out.cell 0 (b := w.heap.size + 1) rfl 2 rfl
 have kl1 := HH2.out.lt 0 rfl
 go_wp2_with fail
 clear k1_2 kl1
 refine (HC2.out _ HH2.out.below).mono ?_
 rintro e u3 ⟨rfl, hb3⟩
 have HH3 : Hid (Held w [(w.heap.size + 1, [.string x.1, J h1, .int .i64 x.2.2]), (w.heap.size, [])] [] u3) := HH2.out.on hb3
 clear hb3 HH2 HC2
 cases b2
 ·
  skip
  go_wp2_with fail
  go_ret
  exact ⟨retb (by rw [HF.out] <;> simp), HH3.out.below⟩
 go_wp2_with fail
 go_ret
 exact ⟨retb (by rw [HF.out] <;> simp), HH3.out.below⟩
end Go.Proofs.YtopimokncibdgaaGreat

namespace Go.Proofs.YtopimokncibdgaaGreat.Tn
set_option maxHeartbeats 16000000
set_option maxRecDepth 100000
open Tryz Go.RowKit
set_option linter.unusedSimpArgs false
def PredT (g : Nat) (lb : Array Value) (p : Tnt → Bool) (w : World) : Prop :=
 ∀ (W : World) (x : Tnt), Below w.heap.size w W → Calls prog g (#[.agg #[.string x.1, .string x.2.1, .int .i64 x.2.2]] ++ lb) W fun e w' => e = .returned (.bool (p x)) ∧ Below W.heap.size W w'
theorem IndexT_calls (a : Option Addr) (cap : Nat) (L : List Tnt) (w : World) (hL : Hid (TntsAt w a L)) (p : Tnt → Bool) (g : Nat) (lb : Array Value) (eg : ∀ args w, (callFunc g args).run prog w = .ok (.enter g args) w) (hp : Hid (PredT g lb p w)) :
  Calls prog 189 #[.slice a L.length cap, .func (.func g) #[] lb] w fun e w' => ((∃ i : Nat, i < L.length ∧ p (L.getD i default) = true ∧ (∀ j, j < i → p (L.getD j default) = false) ∧ e = .returned (.int .i64 i)) ∨ ((∀ j, j < L.length → p (L.getD j default) = false) ∧ e = .returned (.int .i64 (-1)))) ∧ Below w.heap.size w w' := by
 have hlen := hL.out.1
 go_enter func189, ntmps189
 go_wp2
 go_loopw [8] (fun i wr => ∃ k : Nat, k ≤ L.length ∧ i = .int .i64 k ∧ Below w.heap.size w wr ∧ Hid (∀ j, j < k → p (L.getD j default) = false)) (fun i _ => L.length - (intOf i).toNat)
 case atStart => exact ⟨0, Nat.zero_le _, rfl, Below.refl _ _, fun j hj => absurd hj (Nat.not_lt_zero _)⟩
 case round =>
  obtain ⟨k, hk, rfl, hbel, hall⟩ := hrel
  by_cases hlt : k < L.length
  ·
   obtain ⟨B, off, rfl, hB, c0, c1, c2, ho⟩ := TntsAt.get hL.out hlt
   clear ho
   have d0 := (hbel.cell (p := ⟨B, off + k * 3, none⟩) hB).trans c0
   have d1 := (hbel.cell (p := ⟨B, off + k * 3 + 1, none⟩) hB).trans c1
   have d2 := (hbel.cell (p := ⟨B, off + k * 3 + 2, none⟩) hB).trans c2
   clear c0 c1 c2
   have hcall := hp.out wr (L.getD k default) hbel
   have HG : Hid (p (L.getD k default) = false → ∀ j, j < k + 1 → p (L.getD j default) = false) := fun h j hj => by
    rcases Nat.lt_succ_iff_lt_or_eq.1 hj with h' | rfl
    ·
     exact hall.out j h'
    ·
     exact h
   have HF : Hid (p (L.getD k default) = true → ∃ i : Nat, i < L.length ∧ p (L.getD i default) = true ∧ (∀ j, j < i → p (L.getD j default) = false) ∧ Ending.returned (.int .i64 k) = .returned (.int .i64 i)) := fun h => ⟨k, hlt, h, hall.out, rfl⟩
   clear hall
   generalize L.getD k default = x at d0 d1 d2 hcall HG HF
   cases hq : p x
   ·
    have HG' : Hid (∀ j, j < k + 1 → p (L.getD j default) = false) := HG.out hq
    rw [hq] at hcall
    clear HG HF hq
    go_wp2_with fail
    refine hcall.mono ?_
    rintro e w' ⟨rfl, hb'⟩
    go_wp2_with fail
    go_roundw
    case rel => exact ⟨k + 1, by omega, by go_num, on2 hbel hb', HG'⟩
    case measure => simp [intOf]; omega
   ·
    have HF' := HF.out hq
    have HF2 : Hid (∃ i : Nat, i < L.length ∧ p (L.getD i default) = true ∧ (∀ j, j < i → p (L.getD j default) = false) ∧ Ending.returned (.int .i64 k) = .returned (.int .i64 i)) := HF'
    rw [hq] at hcall
    clear HG HF hq HF'
    go_wp2_with fail
    refine hcall.mono ?_
    rintro e w' ⟨rfl, hb'⟩
    go_wp2_with fail
    go_ret
    exact ⟨.inl HF2.out, on2 hbel hb'⟩
  ·
   have HA : Hid (∀ j, j < L.length → p (L.getD j default) = false) := fun j hj => hall.out j (by omega)
   clear hall
   go_wp2
   go_ret
   exact ⟨.inr ⟨HA.out, rfl⟩, hbel⟩
theorem ContainsT_calls (a : Option Addr) (cap : Nat) (L : List Tnt) (w : World) (hL : Hid (TntsAt w a L)) (p : Tnt → Bool) (g : Nat) (lb : Array Value) (eg : ∀ args w, (callFunc g args).run prog w = .ok (.enter g args) w) (hp : Hid (PredT g lb p w)) :
  Calls prog 187 #[.slice a L.length cap, .func (.func g) #[] lb] w fun e w' => e = .returned (.bool (L.any p)) ∧ Below w.heap.size w w' := by
 have hI := IndexT_calls a cap L w hL p g lb eg hp
 go_enter func187, ntmps187
 go_wp2_with fail
 refine hI.mono ?_
 rintro e w1 ⟨⟨i, hi, hy, _, rfl⟩ | ⟨hn, rfl⟩, hb⟩
 ·
  have HA : Hid (L.any p = true) := any_yes hi hy
  clear hy
  go_wp2_with fail
  go_ret
  exact ⟨retb HA.out.symm, hb⟩
 ·
  have HA : Hid (L.any p = false) := any_no hn
  clear hn
  go_wp2_with fail
  go_ret
  exact ⟨retb HA.out.symm, hb⟩
end Go.Proofs.YtopimokncibdgaaGreat.Tn

namespace Go.Proofs.YtopimokncibdgaaGreat.Tn
set_option maxHeartbeats 16000000
set_option maxRecDepth 100000
open Tryz Go.RowKit
set_option linter.unusedSimpArgs false
theorem guardT : prog.eqGuardType prog.depth 130 = false := by kernel_rfl
theorem eqT (x y : Tnt) (w : World) : Sem.run prog (binOp .eql 130 (.agg #[.string x.1, .string x.2.1, .int .i64 x.2.2]) (.agg #[.string y.1, .string y.2.1, .int .i64 y.2.2])) w = .ok (.bool (tEq x y)) w := by
 have u3 := underlying3
 have a3 := Tryz.isAgg3
 have z3 := Tryz.sizeOf3
 have u9 := underlying9
 have a9 := Tryz.isAgg9
 have z9 := Tryz.sizeOf9
 have hS : prog.underlying 130 = some (.struct (prog.fieldsOf 130)) := by kernel_rfl
 have hp : prog.stoodInHeld 130 = false := by kernel_rfl
 rw [run_eql_struct, show (10000 : Nat) = 9999 + 1 from rfl, run_equalIn_agg w 9999 130 _ _ hS hp]
 simp only [Program.fieldsOf, underlying130]
 go_simp
 simp only [tEq, sEq]
 by_cases h1 : x.1.toList = y.1.toList <;> by_cases h2 : x.2.1.toList = y.2.1.toList <;> by_cases h3 : x.2.2 = y.2.2 <;> simp [h1, h2, h3]
def BeS (wB : World) (D E : Nat) (bk bv : ByteArray) (ba : Bool) (be : Int) (tk tv : ByteArray) (te : Int) (u : World) : Prop :=
 Below wB.heap.size wB u ∧ u.cell? ⟨D, 0, none⟩ = some (.string bk) ∧ u.cell? ⟨D, 1, none⟩ = some (.string bv) ∧ u.cell? ⟨D, 2, none⟩ = some (.bool ba) ∧ u.cell? ⟨D, 3, none⟩ = some (.int .i64 be) ∧
  u.cell? ⟨E, 0, none⟩ = some (.string tk) ∧ u.cell? ⟨E, 1, none⟩ = some (.string tv) ∧ u.cell? ⟨E, 2, none⟩ = some (.int .i64 te)
theorem BeS.to {wB u' : World} {D E : Nat} {bk bv : ByteArray} {ba : Bool} {be : Int} {tk tv : ByteArray} {te : Int} (h : BeS wB D E bk bv ba be tk tv te wB) (hD : D < wB.heap.size) (hE : E < wB.heap.size) (hb : Below wB.heap.size wB u') : BeS wB D E bk bv ba be tk tv te u' := by
 obtain ⟨_, h1, h2, h3, h4, h5, h6, h7⟩ := h
 exact ⟨hb, (hb.cell hD).trans h1, (hb.cell hD).trans h2, (hb.cell hD).trans h3, (hb.cell hD).trans h4, (hb.cell hE).trans h5, (hb.cell hE).trans h6, (hb.cell hE).trans h7⟩
end Go.Proofs.YtopimokncibdgaaGreat.Tn

namespace Go.Proofs.YtopimokncibdgaaGreat.Tn
set_option maxHeartbeats 16000000
set_option maxRecDepth 100000
open Tryz Go.RowKit Go.Shelf
set_option linter.unusedSimpArgs false
def BoxT (u : World) (D : Nat) (x : Tnt) : Prop :=
 D < u.heap.size ∧ (u.cell? ⟨D, 0, none⟩ = some (.string x.1) ∧ u.cell? ⟨D, 1, none⟩ = some (.string x.2.1) ∧ u.cell? ⟨D, 2, none⟩ = some (.int .i64 x.2.2)) ∧ u.frozen? ⟨D, 0, none⟩ = false ∧ u.frozen? ⟨D, 1, none⟩ = false ∧ u.frozen? ⟨D, 2, none⟩ = false
theorem BoxT.on {u u' : World} {D : Nat} {x : Tnt} (h : BoxT u D x) (hb : Below u.heap.size u u') : BoxT u' D x := by
 obtain ⟨hB, ⟨h0, h1, h2⟩, f0, f1, f2⟩ := h
 exact ⟨Nat.lt_of_lt_of_le hB hb.size, ⟨(hb.cell hB).trans h0, (hb.cell hB).trans h1, (hb.cell hB).trans h2⟩, (hb.frozen hB).trans f0, (hb.frozen hB).trans f1, (hb.frozen hB).trans f2⟩
theorem BoxT.new (u : World) (t : TypeId) (x : Tnt) : BoxT (u.alloc (.cells #[.string x.1, .string x.2.1, .int .i64 x.2.2] t)) u.heap.size x :=
 ⟨by simp, ⟨by simp [go_sem], by simp [go_sem], by simp [go_sem]⟩, by simp [go_sem], by simp [go_sem], by simp [go_sem]⟩
theorem enters36 : ∀ args w, (callFunc 188 args).run prog w = .ok (.enter 188 args) w := enters_of func188 (by kernel_rfl) rfl
theorem twin_eq (x t : Tnt) : tEq (x.1, t.2.1, x.2.2) t = (sEq x.1 t.1 && (x.2.2 == t.2.2)) := by simp [tEq, sEq_self]
theorem twinPred (t : Tnt) (D : Nat) (w : World) (hD : BoxT w D t) : PredT 188 #[.pointer (some ⟨D, 0, none⟩)] (fun x => sEq x.1 t.1 && (x.2.2 == t.2.2)) w := fun W x hb => by
 obtain ⟨hDl, ⟨c0, c1, c2⟩, _⟩ := hD
 have d0 := (hb.cell (p := ⟨D, 0, none⟩) hDl).trans c0
 have d1 := (hb.cell (p := ⟨D, 1, none⟩) hDl).trans c1
 have d2 := (hb.cell (p := ⟨D, 2, none⟩) hDl).trans c2
 have hDW : D < W.heap.size := by have := hb.size; omega
 have hne : D ≠ W.heap.size := by omega
 have HQ := eqT (x.1, t.2.1, x.2.2) t
 have HG := guardT
 rw [twin_eq] at HQ
 show Calls prog 188 #[.agg #[.string x.1, .string x.2.1, .int .i64 x.2.2], .pointer (some ⟨D, 0, none⟩)] W fun e w' => e = .returned (.bool (sEq x.1 t.1 && (x.2.2 == t.2.2))) ∧ Below W.heap.size W w'
 generalize (sEq x.1 t.1 && (x.2.2 == t.2.2)) = r at HQ ⊢
 clear c0 c1 c2
 go_enter func188, ntmps188
 go_wp2_with fail
 go_ret
 exact ⟨rfl, by go_grown⟩
theorem hasTwin_calls (t : Tnt) (a : Option Addr) (cap : Nat) (L : List Tnt) (w : World) (hL : Hid (TntsAt w a L)) : Calls prog 186 #[.slice a L.length cap, .agg #[.string t.1, .string t.2.1, .int .i64 t.2.2]] w fun e w' => e = .returned (.bool (twinB L t)) ∧ Below w.heap.size w w' := by
 have hb0 : Below w.heap.size w (w.alloc (.cells #[.string t.1, .string t.2.1, .int .i64 t.2.2] 130)) := by go_grown
 have hC := ContainsT_calls a cap L (w.alloc (.cells #[.string t.1, .string t.2.1, .int .i64 t.2.2] 130)) (hL.out.on hb0) (fun x => sEq x.1 t.1 && (x.2.2 == t.2.2)) 188 #[.pointer (some ⟨w.heap.size, 0, none⟩)] enters36 (twinPred t w.heap.size _ (BoxT.new w _ t))
 change Calls prog _ _ _ fun e w' => e = .returned (.bool (twinB L t)) ∧ _ at hC
 generalize twinB L t = r at hC ⊢
 go_enter func186, ntmps186
 go_wp2_with fail
 refine hC.mono ?_
 rintro e w1 ⟨rfl, hb1⟩
 go_wp2_with fail
 go_ret
 exact ⟨rfl, on2 hb0 hb1⟩
end Go.Proofs.YtopimokncibdgaaGreat.Tn

