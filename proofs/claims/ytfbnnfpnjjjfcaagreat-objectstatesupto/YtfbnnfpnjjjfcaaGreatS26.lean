/- The document's claims, volumes, budgets and nodes that are right, and its like. No condition beyond what each says. -/
import Derived.Test.YtfbnnfpnjjjfcaaGreatS25
namespace Go.Proofs.YtfbnnfpnjjjfcaaGreat
set_option maxHeartbeats 16000000
set_option maxRecDepth 100000
open Tryz Go.RowKit
set_option linter.unusedSimpArgs false
theorem rlabC (a : Option Addr) (n cap : Nat) (A : Where) (L : List Lab) (w : World) (h : SlAt RLabel 2 32 A w a n cap L) : Calls prog 55 #[.slice a n cap] w fun e w' => e = .returned (.int .i64 (checkI L)) ∧ Below w.heap.size w w' := by
 have hn := h.1
 subst hn
 exact rLCheck_calls a cap L w (labs_of h)
theorem rtntC (a : Option Addr) (n cap : Nat) (A : Where) (L : List Tnt) (w : World) (h : SlAt RTaint 3 40 A w a n cap L) : Calls prog 61 #[.slice a n cap] w fun e w' => e = .returned (.int .i64 (Tn.checkT L)) ∧ Below w.heap.size w w' := by
 have hn := h.1
 subst hn
 exact Tn.rCheck_calls a cap L w (tnts_of h)
theorem rbrC (a : Option Addr) (n cap : Nat) (A : Where) (L : List Bear) (w : World) (h : SlAt RBear 4 48 A w a n cap L) : Calls prog 57 #[.slice a n cap] w fun e w' => e = .returned (.int .i64 (Tn.checkBr L)) ∧ Below w.heap.size w w' := by
 have hn := h.1
 subst hn
 exact Tn.rCheckBears_calls a cap L w (bears_of h)
theorem rClaim_right (c : List Value) (A : Where) (x : ClaimD) (w : World) (h : Hid (RClaim A w c x)) : Calls prog 38 #[.agg c.toArray] w fun e w' => e = .returned (.bool (rightClaim x)) ∧ Below w.heap.size w w' := by
 obtain ⟨rfl, p0, p1, p2⟩ := h.out.out
 clear h
 have HH0 : Hid (Held w [(w.heap.size, [.string x.1, .int .i64 x.2.1, .string x.2.2.1, .string x.2.2.2])] [] (w.alloc (.cells #[.string x.1, .int .i64 x.2.1, .string x.2.2.1, .string x.2.2.2] 40))) := ((Held.start w).push rfl [.string x.1, .int .i64 x.2.1, .string x.2.2.1, .string x.2.2.2] 40)
 obtain ⟨b0, e0⟩ : ∃ b : Bool, wordB x.1 = b := ⟨_, rfl⟩
 obtain ⟨b1, e1⟩ : ∃ b : Bool, amountB x.2.1 = b := ⟨_, rfl⟩
 obtain ⟨b2, e2⟩ : ∃ b : Bool, wordB x.2.2.1 = b := ⟨_, rfl⟩
 obtain ⟨b3, e3⟩ : ∃ b : Bool, nameNone x.2.2.2 = b := ⟨_, rfl⟩
 have HF : Hid (rightClaim x = (b0 && b1 && b2 && b3)) := by rw [Hid, ← e0, ← e1, ← e2, ← e3]; rfl
 have HC0 : Hid (∀ u, Below w.heap.size w u → Calls prog 39 #[.string x.1] u fun e w' => e = .returned (.bool b0) ∧ Below u.heap.size u w') := fun u hu => by rw [← e0]; exact calls_same (rWord_calls x.1 p0 _)
 clear e0
 have HC1 : Hid (∀ u, Below w.heap.size w u → Calls prog 62 #[.int .i64 x.2.1] u fun e w' => e = .returned (.bool b1) ∧ Below u.heap.size u w') := fun u hu => by rw [← e1]; exact calls_same (rAmount_calls x.2.1 _)
 clear e1
 have HC2 : Hid (∀ u, Below w.heap.size w u → Calls prog 39 #[.string x.2.2.1] u fun e w' => e = .returned (.bool b2) ∧ Below u.heap.size u w') := fun u hu => by rw [← e2]; exact calls_same (rWord_calls x.2.2.1 p1 _)
 clear e2
 have HC3 : Hid (∀ u, Below w.heap.size w u → Calls prog 60 #[.string x.2.2.2] u fun e w' => e = .returned (.bool b3) ∧ Below u.heap.size u w') := fun u hu => by rw [← e3]; exact calls_same (rSome_calls x.2.2.2 p2 _)
 clear e3
 go_enter func38, ntmps38
 go_wp2_with fail
 refine (HC0.out _ HH0.out.below).mono ?_
 rintro e u1 ⟨rfl, hb1⟩
 have HH1 : Hid (Held w [(w.heap.size, [.string x.1, .int .i64 x.2.1, .string x.2.2.1, .string x.2.2.2])] [] u1) := HH0.out.on hb1
 clear hb1 HH0 HC0
 cases b0
 ·
  clear HC1 HC2 HC3
  go_wp2_with fail
  go_ret
  exact ⟨retb (by rw [HF.out] <;> simp), HH1.out.below⟩
 have k0_1 := HH1.out.cell 0 (b := w.heap.size) rfl 1 rfl
 have kl0 := HH1.out.lt 0 rfl
 go_wp2_with fail
 clear k0_1 kl0
 refine (HC1.out _ HH1.out.below).mono ?_
 rintro e u2 ⟨rfl, hb2⟩
 have HH2 : Hid (Held w [(w.heap.size, [.string x.1, .int .i64 x.2.1, .string x.2.2.1, .string x.2.2.2])] [] u2) := HH1.out.on hb2
 clear hb2 HH1 HC1
 cases b1
 ·
  clear HC2 HC3
  go_wp2_with fail
  go_ret
  exact ⟨retb (by rw [HF.out] <;> simp), HH2.out.below⟩
 have k1_2 := HH2.out.cell 0 (b := w.heap.size) rfl 2 rfl
 have kl1 := HH2.out.lt 0 rfl
 go_wp2_with fail
 clear k1_2 kl1
 refine (HC2.out _ HH2.out.below).mono ?_
 rintro e u3 ⟨rfl, hb3⟩
 have HH3 : Hid (Held w [(w.heap.size, [.string x.1, .int .i64 x.2.1, .string x.2.2.1, .string x.2.2.2])] [] u3) := HH2.out.on hb3
 clear hb3 HH2 HC2
 cases b2
 ·
  clear HC3
  go_wp2_with fail
  go_ret
  exact ⟨retb (by rw [HF.out] <;> simp), HH3.out.below⟩
 have k2_3 := HH3.out.cell 0 (b := w.heap.size) rfl 3 rfl
 have kl2 := HH3.out.lt 0 rfl
 go_wp2_with fail
 clear k2_3 kl2
 refine (HC3.out _ HH3.out.below).mono ?_
 rintro e u4 ⟨rfl, hb4⟩
 have HH4 : Hid (Held w [(w.heap.size, [.string x.1, .int .i64 x.2.1, .string x.2.2.1, .string x.2.2.2])] [] u4) := HH3.out.on hb4
 clear hb4 HH3 HC3
 cases b3
 ·
  skip
  go_wp2_with fail
  go_ret
  exact ⟨retb (by rw [HF.out] <;> simp), HH4.out.below⟩
 go_wp2_with fail
 go_ret
 exact ⟨retb (by rw [HF.out] <;> simp), HH4.out.below⟩
theorem rVolume_right (c : List Value) (A : Where) (x : VolumeD) (w : World) (h : Hid (RVolume A w c x)) : Calls prog 37 #[.agg c.toArray] w fun e w' => e = .returned (.bool (rightVolume x)) ∧ Below w.heap.size w w' := by
 obtain ⟨h3, rfl, p0, p1, hs, p2⟩ := h.out.out
 have HS : Hid (SlAt RReq 3 48 A w h3.1 h3.2.1 h3.2.2 x.2.2.2.1) := hs
 clear h hs
 have HH0 : Hid (Held w [(w.heap.size, [.string x.1, .int .i64 x.2.1, .string x.2.2.1, J h3, .string x.2.2.2.2])] [] (w.alloc (.cells #[.string x.1, .int .i64 x.2.1, .string x.2.2.1, J h3, .string x.2.2.2.2] 38))) := ((Held.start w).push rfl [.string x.1, .int .i64 x.2.1, .string x.2.2.1, J h3, .string x.2.2.2.2] 38)
 obtain ⟨b0, e0⟩ : ∃ b : Bool, wordB x.1 = b := ⟨_, rfl⟩
 obtain ⟨b1, e1⟩ : ∃ b : Bool, amountB x.2.1 = b := ⟨_, rfl⟩
 obtain ⟨b2, e2⟩ : ∃ b : Bool, wordB x.2.2.1 = b := ⟨_, rfl⟩
 obtain ⟨b3, e3⟩ : ∃ b : Bool, reqsB x.2.2.2.1 = b := ⟨_, rfl⟩
 obtain ⟨b4, e4⟩ : ∃ b : Bool, nameNone x.2.2.2.2 = b := ⟨_, rfl⟩
 have HF : Hid (rightVolume x = (b0 && b1 && b2 && b3 && b4)) := by rw [Hid, ← e0, ← e1, ← e2, ← e3, ← e4]; rfl
 have HC0 : Hid (∀ u, Below w.heap.size w u → Calls prog 39 #[.string x.1] u fun e w' => e = .returned (.bool b0) ∧ Below u.heap.size u w') := fun u hu => by rw [← e0]; exact calls_same (rWord_calls x.1 p0 _)
 clear e0
 have HC1 : Hid (∀ u, Below w.heap.size w u → Calls prog 62 #[.int .i64 x.2.1] u fun e w' => e = .returned (.bool b1) ∧ Below u.heap.size u w') := fun u hu => by rw [← e1]; exact calls_same (rAmount_calls x.2.1 _)
 clear e1
 have HC2 : Hid (∀ u, Below w.heap.size w u → Calls prog 39 #[.string x.2.2.1] u fun e w' => e = .returned (.bool b2) ∧ Below u.heap.size u w') := fun u hu => by rw [← e2]; exact calls_same (rWord_calls x.2.2.1 p1 _)
 clear e2
 have HC3 : Hid (∀ u, Below w.heap.size w u → Calls prog 56 #[J h3] u fun e w' => e = .returned (.bool b3) ∧ Below u.heap.size u w') := fun u hu => by rw [← e3]; exact rReqs_calls _ _ _ A x.2.2.2.1 _ (HS.out.kept RReq.firm (Kept.below hu))
 clear e3
 have HC4 : Hid (∀ u, Below w.heap.size w u → Calls prog 60 #[.string x.2.2.2.2] u fun e w' => e = .returned (.bool b4) ∧ Below u.heap.size u w') := fun u hu => by rw [← e4]; exact calls_same (rSome_calls x.2.2.2.2 p2 _)
 clear e4
 go_enter func37, ntmps37
 go_wp2_with fail
 refine (HC0.out _ HH0.out.below).mono ?_
 rintro e u1 ⟨rfl, hb1⟩
 have HH1 : Hid (Held w [(w.heap.size, [.string x.1, .int .i64 x.2.1, .string x.2.2.1, J h3, .string x.2.2.2.2])] [] u1) := HH0.out.on hb1
 clear hb1 HH0 HC0
 cases b0
 ·
  clear HC1 HC2 HC3 HC4
  go_wp2_with fail
  go_ret
  exact ⟨retb (by rw [HF.out] <;> simp), HH1.out.below⟩
 have k0_1 := HH1.out.cell 0 (b := w.heap.size) rfl 1 rfl
 have kl0 := HH1.out.lt 0 rfl
 go_wp2_with fail
 clear k0_1 kl0
 refine (HC1.out _ HH1.out.below).mono ?_
 rintro e u2 ⟨rfl, hb2⟩
 have HH2 : Hid (Held w [(w.heap.size, [.string x.1, .int .i64 x.2.1, .string x.2.2.1, J h3, .string x.2.2.2.2])] [] u2) := HH1.out.on hb2
 clear hb2 HH1 HC1
 cases b1
 ·
  clear HC2 HC3 HC4
  go_wp2_with fail
  go_ret
  exact ⟨retb (by rw [HF.out] <;> simp), HH2.out.below⟩
 have k1_2 := HH2.out.cell 0 (b := w.heap.size) rfl 2 rfl
 have kl1 := HH2.out.lt 0 rfl
 go_wp2_with fail
 clear k1_2 kl1
 refine (HC2.out _ HH2.out.below).mono ?_
 rintro e u3 ⟨rfl, hb3⟩
 have HH3 : Hid (Held w [(w.heap.size, [.string x.1, .int .i64 x.2.1, .string x.2.2.1, J h3, .string x.2.2.2.2])] [] u3) := HH2.out.on hb3
 clear hb3 HH2 HC2
 cases b2
 ·
  clear HC3 HC4
  go_wp2_with fail
  go_ret
  exact ⟨retb (by rw [HF.out] <;> simp), HH3.out.below⟩
 have k2_3 := HH3.out.cell 0 (b := w.heap.size) rfl 3 rfl
 have kl2 := HH3.out.lt 0 rfl
 go_wp2_with fail
 clear k2_3 kl2
 refine (HC3.out _ HH3.out.below).mono ?_
 rintro e u4 ⟨rfl, hb4⟩
 have HH4 : Hid (Held w [(w.heap.size, [.string x.1, .int .i64 x.2.1, .string x.2.2.1, J h3, .string x.2.2.2.2])] [] u4) := HH3.out.on hb4
 clear hb4 HH3 HC3
 cases b3
 ·
  clear HC4
  go_wp2_with fail
  go_ret
  exact ⟨retb (by rw [HF.out] <;> simp), HH4.out.below⟩
 have k3_4 := HH4.out.cell 0 (b := w.heap.size) rfl 4 rfl
 have kl3 := HH4.out.lt 0 rfl
 go_wp2_with fail
 clear k3_4 kl3
 refine (HC4.out _ HH4.out.below).mono ?_
 rintro e u5 ⟨rfl, hb5⟩
 have HH5 : Hid (Held w [(w.heap.size, [.string x.1, .int .i64 x.2.1, .string x.2.2.1, J h3, .string x.2.2.2.2])] [] u5) := HH4.out.on hb5
 clear hb5 HH4 HC4
 cases b4
 ·
  skip
  go_wp2_with fail
  go_ret
  exact ⟨retb (by rw [HF.out] <;> simp), HH5.out.below⟩
 go_wp2_with fail
 go_ret
 exact ⟨retb (by rw [HF.out] <;> simp), HH5.out.below⟩
theorem rBudget_right (c : List Value) (A : Where) (x : BudgetD) (w : World) (h : Hid (RBudget A w c x)) : Calls prog 40 #[.agg c.toArray] w fun e w' => e = .returned (.bool (rightBudget x)) ∧ Below w.heap.size w w' := by
 obtain ⟨h1, rfl, p0, hs⟩ := h.out.out
 have HS : Hid (SlAt RReq 3 48 A w h1.1 h1.2.1 h1.2.2 x.2.1) := hs
 clear h hs
 have HH0 : Hid (Held w [(w.heap.size, [.string x.1, J h1, .int .i64 x.2.2])] [] (w.alloc (.cells #[.string x.1, J h1, .int .i64 x.2.2] 44))) := ((Held.start w).push rfl [.string x.1, J h1, .int .i64 x.2.2] 44)
 obtain ⟨b0, e0⟩ : ∃ b : Bool, wordB x.1 = b := ⟨_, rfl⟩
 obtain ⟨b1, e1⟩ : ∃ b : Bool, reqsB x.2.1 = b := ⟨_, rfl⟩
 obtain ⟨b2, e2⟩ : ∃ b : Bool, withinB x.2.2 0 1000 = b := ⟨_, rfl⟩
 have HF : Hid (rightBudget x = (b0 && b1 && b2)) := by rw [Hid, ← e0, ← e1, ← e2]; rfl
 have HC0 : Hid (∀ u, Below w.heap.size w u → Calls prog 39 #[.string x.1] u fun e w' => e = .returned (.bool b0) ∧ Below u.heap.size u w') := fun u hu => by rw [← e0]; exact calls_same (rWord_calls x.1 p0 _)
 clear e0
 have HC1 : Hid (∀ u, Below w.heap.size w u → Calls prog 56 #[J h1] u fun e w' => e = .returned (.bool b1) ∧ Below u.heap.size u w') := fun u hu => by rw [← e1]; exact rReqs_calls _ _ _ A x.2.1 _ (HS.out.kept RReq.firm (Kept.below hu))
 clear e1
 have HC2 : Hid (∀ u, Below w.heap.size w u → Calls prog 54 #[.int .i64 x.2.2, .int .i64 0, .int .i64 1000] u fun e w' => e = .returned (.bool b2) ∧ Below u.heap.size u w') := fun u hu => by rw [← e2]; exact calls_same (rWithin_calls x.2.2 0 1000 _)
 clear e2
 go_enter func40, ntmps40
 go_wp2_with fail
 refine (HC0.out _ HH0.out.below).mono ?_
 rintro e u1 ⟨rfl, hb1⟩
 have HH1 : Hid (Held w [(w.heap.size, [.string x.1, J h1, .int .i64 x.2.2])] [] u1) := HH0.out.on hb1
 clear hb1 HH0 HC0
 cases b0
 ·
  clear HC1 HC2
  go_wp2_with fail
  go_ret
  exact ⟨retb (by rw [HF.out] <;> simp), HH1.out.below⟩
 have k0_1 := HH1.out.cell 0 (b := w.heap.size) rfl 1 rfl
 have kl0 := HH1.out.lt 0 rfl
 go_wp2_with fail
 clear k0_1 kl0
 refine (HC1.out _ HH1.out.below).mono ?_
 rintro e u2 ⟨rfl, hb2⟩
 have HH2 : Hid (Held w [(w.heap.size, [.string x.1, J h1, .int .i64 x.2.2])] [] u2) := HH1.out.on hb2
 clear hb2 HH1 HC1
 cases b1
 ·
  clear HC2
  go_wp2_with fail
  go_ret
  exact ⟨retb (by rw [HF.out] <;> simp), HH2.out.below⟩
 have k1_2 := HH2.out.cell 0 (b := w.heap.size) rfl 2 rfl
 have kl1 := HH2.out.lt 0 rfl
 go_wp2_with fail
 clear k1_2 kl1
 refine (HC2.out _ HH2.out.below).mono ?_
 rintro e u3 ⟨rfl, hb3⟩
 have HH3 : Hid (Held w [(w.heap.size, [.string x.1, J h1, .int .i64 x.2.2])] [] u3) := HH2.out.on hb3
 clear hb3 HH2 HC2
 cases b2
 ·
  skip
  go_wp2_with fail
  go_ret
  exact ⟨retb (by rw [HF.out] <;> simp), HH3.out.below⟩
 go_wp2_with fail
 go_ret
 exact ⟨retb (by rw [HF.out] <;> simp), HH3.out.below⟩
theorem rNode_right (c : List Value) (A : Where) (x : NodeD) (w : World) (h : Hid (RNode A w c x)) : Calls prog 36 #[.agg c.toArray] w fun e w' => e = .returned (.bool (rightNode x)) ∧ Below w.heap.size w w' := by
 obtain ⟨h1, h2, rfl, p0, g1, g2⟩ := h.out.out
 have H1 : Hid (SlAt RLabel 2 32 A w h1.1 h1.2.1 h1.2.2 x.2.1) := g1
 have H2 : Hid (SlAt RTaint 3 40 A w h2.1 h2.2.1 h2.2.2 x.2.2.1) := g2
 clear h g1 g2
 have HH0 : Hid (Held w [(w.heap.size, [.string x.1, J h1, J h2, .bool x.2.2.2.1, .int .i64 x.2.2.2.2.1.1, .int .i64 x.2.2.2.2.1.2.1, .int .i64 x.2.2.2.2.1.2.2, .int .i64 x.2.2.2.2.2.1, .int .i64 x.2.2.2.2.2.2])] [] (w.alloc (.cells #[.string x.1, J h1, J h2, .bool x.2.2.2.1, .int .i64 x.2.2.2.2.1.1, .int .i64 x.2.2.2.2.1.2.1, .int .i64 x.2.2.2.2.1.2.2, .int .i64 x.2.2.2.2.2.1, .int .i64 x.2.2.2.2.2.2] 36))) := ((Held.start w).push rfl [.string x.1, J h1, J h2, .bool x.2.2.2.1, .int .i64 x.2.2.2.2.1.1, .int .i64 x.2.2.2.2.1.2.1, .int .i64 x.2.2.2.2.1.2.2, .int .i64 x.2.2.2.2.2.1, .int .i64 x.2.2.2.2.2.2] 36)
 obtain ⟨b0, e0⟩ : ∃ b : Bool, wordB x.1 = b := ⟨_, rfl⟩
 obtain ⟨n1, g1⟩ : ∃ n : Int, checkI x.2.1 = n := ⟨_, rfl⟩
 obtain ⟨b1, e1⟩ : ∃ b : Bool, (n1 == 0) = b := ⟨_, rfl⟩
 obtain ⟨n2, g2⟩ : ∃ n : Int, Tn.checkT x.2.2.1 = n := ⟨_, rfl⟩
 obtain ⟨b2, e2⟩ : ∃ b : Bool, (n2 == 0) = b := ⟨_, rfl⟩
 obtain ⟨b3, e3⟩ : ∃ b : Bool, resB x.2.2.2.2.1 = b := ⟨_, rfl⟩
 obtain ⟨b4, e4⟩ : ∃ b : Bool, withinB x.2.2.2.2.2.1 0 1000 = b := ⟨_, rfl⟩
 obtain ⟨b5, e5⟩ : ∃ b : Bool, withinB x.2.2.2.2.2.2 0 1000 = b := ⟨_, rfl⟩
 have HF : Hid (rightNode x = (b0 && b1 && b2 && b3 && b4 && b5)) := by rw [Hid, ← e0, ← e1, ← g1, ← e2, ← g2, ← e3, ← e4, ← e5]; rfl
 have HC0 : Hid (∀ u, Below w.heap.size w u → Calls prog 39 #[.string x.1] u fun e w' => e = .returned (.bool b0) ∧ Below u.heap.size u w') := fun u hu => by rw [← e0]; exact calls_same (rWord_calls x.1 p0 _)
 clear e0
 have HC1 : Hid (∀ u, Below w.heap.size w u → Calls prog 55 #[J h1] u fun e w' => e = .returned (.int .i64 n1) ∧ Below u.heap.size u w') := fun u hu => by rw [← g1]; exact rlabC _ _ _ A x.2.1 _ (H1.out.kept RLabel.firm (Kept.below hu))
 clear g1
 have HC2 : Hid (∀ u, Below w.heap.size w u → Calls prog 61 #[J h2] u fun e w' => e = .returned (.int .i64 n2) ∧ Below u.heap.size u w') := fun u hu => by rw [← g2]; exact rtntC _ _ _ A x.2.2.1 _ (H2.out.kept RTaint.firm (Kept.below hu))
 clear g2
 have HC3 : Hid (∀ u, Below w.heap.size w u → Calls prog 58 #[.agg #[.int .i64 x.2.2.2.2.1.1, .int .i64 x.2.2.2.2.1.2.1, .int .i64 x.2.2.2.2.1.2.2]] u fun e w' => e = .returned (.bool b3) ∧ Below u.heap.size u w') := fun u hu => by rw [← e3]; exact rRes_calls x.2.2.2.2.1 _
 clear e3
 have HC4 : Hid (∀ u, Below w.heap.size w u → Calls prog 54 #[.int .i64 x.2.2.2.2.2.1, .int .i64 0, .int .i64 1000] u fun e w' => e = .returned (.bool b4) ∧ Below u.heap.size u w') := fun u hu => by rw [← e4]; exact calls_same (rWithin_calls x.2.2.2.2.2.1 0 1000 _)
 clear e4
 have HC5 : Hid (∀ u, Below w.heap.size w u → Calls prog 54 #[.int .i64 x.2.2.2.2.2.2, .int .i64 0, .int .i64 1000] u fun e w' => e = .returned (.bool b5) ∧ Below u.heap.size u w') := fun u hu => by rw [← e5]; exact calls_same (rWithin_calls x.2.2.2.2.2.2 0 1000 _)
 clear e5
 go_enter func36, ntmps36
 go_wp2_with fail
 refine (HC0.out _ HH0.out.below).mono ?_
 rintro e u1 ⟨rfl, hb1⟩
 have HH1 : Hid (Held w [(w.heap.size, [.string x.1, J h1, J h2, .bool x.2.2.2.1, .int .i64 x.2.2.2.2.1.1, .int .i64 x.2.2.2.2.1.2.1, .int .i64 x.2.2.2.2.1.2.2, .int .i64 x.2.2.2.2.2.1, .int .i64 x.2.2.2.2.2.2])] [] u1) := HH0.out.on hb1
 clear hb1 HH0 HC0
 cases b0
 ·
  clear HC1 HC2 HC3 HC4 HC5
  go_wp2_with fail
  go_ret
  exact ⟨retb (by rw [HF.out] <;> simp), HH1.out.below⟩
 have k0_1 := HH1.out.cell 0 (b := w.heap.size) rfl 1 rfl
 have kl0 := HH1.out.lt 0 rfl
 go_wp2_with fail
 clear k0_1 kl0
 refine (HC1.out _ HH1.out.below).mono ?_
 rintro e u2 ⟨rfl, hb2⟩
 have HH2 : Hid (Held w [(w.heap.size, [.string x.1, J h1, J h2, .bool x.2.2.2.1, .int .i64 x.2.2.2.2.1.1, .int .i64 x.2.2.2.2.1.2.1, .int .i64 x.2.2.2.2.1.2.2, .int .i64 x.2.2.2.2.2.1, .int .i64 x.2.2.2.2.2.2])] [] u2) := HH1.out.on hb2
 clear hb2 HH1 HC1
 cases b1
 ·
  clear HC2 HC3 HC4 HC5
  go_wp2_with fail
  go_ret
  exact ⟨retb (by rw [HF.out] <;> simp), HH2.out.below⟩
 have k1_2 := HH2.out.cell 0 (b := w.heap.size) rfl 2 rfl
 have kl1 := HH2.out.lt 0 rfl
 go_wp2_with fail
 clear k1_2 kl1
 refine (HC2.out _ HH2.out.below).mono ?_
 rintro e u3 ⟨rfl, hb3⟩
 have HH3 : Hid (Held w [(w.heap.size, [.string x.1, J h1, J h2, .bool x.2.2.2.1, .int .i64 x.2.2.2.2.1.1, .int .i64 x.2.2.2.2.1.2.1, .int .i64 x.2.2.2.2.1.2.2, .int .i64 x.2.2.2.2.2.1, .int .i64 x.2.2.2.2.2.2])] [] u3) := HH2.out.on hb3
 clear hb3 HH2 HC2
 cases b2
 ·
  clear HC3 HC4 HC5
  go_wp2_with fail
  go_ret
  exact ⟨retb (by rw [HF.out] <;> simp), HH3.out.below⟩
 have k2_4 := HH3.out.cell 0 (b := w.heap.size) rfl 4 rfl
 have k2_5 := HH3.out.cell 0 (b := w.heap.size) rfl 5 rfl
 have k2_6 := HH3.out.cell 0 (b := w.heap.size) rfl 6 rfl
 have kl2 := HH3.out.lt 0 rfl
 go_wp2_with fail
 clear k2_4 k2_5 k2_6 kl2
 refine (HC3.out _ HH3.out.below).mono ?_
 rintro e u4 ⟨rfl, hb4⟩
 have HH4 : Hid (Held w [(w.heap.size, [.string x.1, J h1, J h2, .bool x.2.2.2.1, .int .i64 x.2.2.2.2.1.1, .int .i64 x.2.2.2.2.1.2.1, .int .i64 x.2.2.2.2.1.2.2, .int .i64 x.2.2.2.2.2.1, .int .i64 x.2.2.2.2.2.2])] [] u4) := HH3.out.on hb4
 clear hb4 HH3 HC3
 cases b3
 ·
  clear HC4 HC5
  go_wp2_with fail
  go_ret
  exact ⟨retb (by rw [HF.out] <;> simp), HH4.out.below⟩
 have k3_7 := HH4.out.cell 0 (b := w.heap.size) rfl 7 rfl
 have kl3 := HH4.out.lt 0 rfl
 go_wp2_with fail
 clear k3_7 kl3
 refine (HC4.out _ HH4.out.below).mono ?_
 rintro e u5 ⟨rfl, hb5⟩
 have HH5 : Hid (Held w [(w.heap.size, [.string x.1, J h1, J h2, .bool x.2.2.2.1, .int .i64 x.2.2.2.2.1.1, .int .i64 x.2.2.2.2.1.2.1, .int .i64 x.2.2.2.2.1.2.2, .int .i64 x.2.2.2.2.2.1, .int .i64 x.2.2.2.2.2.2])] [] u5) := HH4.out.on hb5
 clear hb5 HH4 HC4
 cases b4
 ·
  clear HC5
  go_wp2_with fail
  go_ret
  exact ⟨retb (by rw [HF.out] <;> simp), HH5.out.below⟩
 have k4_8 := HH5.out.cell 0 (b := w.heap.size) rfl 8 rfl
 have kl4 := HH5.out.lt 0 rfl
 go_wp2_with fail
 clear k4_8 kl4
 refine (HC5.out _ HH5.out.below).mono ?_
 rintro e u6 ⟨rfl, hb6⟩
 have HH6 : Hid (Held w [(w.heap.size, [.string x.1, J h1, J h2, .bool x.2.2.2.1, .int .i64 x.2.2.2.2.1.1, .int .i64 x.2.2.2.2.1.2.1, .int .i64 x.2.2.2.2.1.2.2, .int .i64 x.2.2.2.2.2.1, .int .i64 x.2.2.2.2.2.2])] [] u6) := HH5.out.on hb6
 clear hb6 HH5 HC5
 cases b5
 ·
  skip
  go_wp2_with fail
  go_ret
  exact ⟨retb (by rw [HF.out] <;> simp), HH6.out.below⟩
 go_wp2_with fail
 go_ret
 exact ⟨retb (by rw [HF.out] <;> simp), HH6.out.below⟩
theorem rTerms_calls (a : Option Addr) (n cap : Nat) (A : Where) (L : List TermD) (w : World) (hL : Hid (SlAt RTerm 2 40 A w a n cap L)) : Calls prog 59 #[.slice a n cap] w fun e w' => e = .returned (.bool (itemsB termB L)) ∧ Below w.heap.size w w' := by
 have HN : Hid (L.length = n) := hL.out.1
 have hl := hL.out.len (by decide)
 go_enter func59, ntmps59
 go_wp2_with fail
 go_loopw [3] (fun i wr => ∃ k : Nat, k ≤ n ∧ i = .int .i64 k ∧ Below w.heap.size w wr ∧ Hid (∀ j, j < k → termB (L.getD j default) = true)) (fun i _ => n - (intOf i).toNat)
 case atStart => exact ⟨0, Nat.zero_le _, rfl, Below.refl _ _, fun j hj => absurd hj (Nat.not_lt_zero _)⟩
 case round =>
  obtain ⟨k, hk, rfl, hbel, hall⟩ := hrel
  by_cases hlt : k < n
  ·
   have hltz : (k : Int) < (n : Int) := by omega
   have hkL : Hid (k < L.length) := by rw [Hid, HN.out]; exact hlt
   obtain ⟨B, off, rfl, hB, _, cs, hr, hv⟩ := (hL.out.on RTerm.firm hbel).get hlt
   obtain ⟨h0, rfl, hs, hz⟩ := hr.out
   have d0 := hv 0 _ rfl
   have d1 := hv 1 _ rfl
   rw [Nat.add_zero] at d0
   have HS : Hid (SlAt RReq 3 48 A wr h0.1 h0.2.1 h0.2.2 (L.getD k default).1) := hs
   have HZ : Hid ((L.getD k default).2.size ≤ 140737488355328) := hz
   have hbad : Hid (termB (L.getD k default) = false → itemsB termB L = false) := fun h => by rw [itemsB, all_bad termB hkL.out h, Bool.and_false]
   have hgo : Hid (termB (L.getD k default) = true → ∀ j, j < k + 1 → termB (L.getD j default) = true) := fun h => go_on hall.out h
   clear hall hr hs hv hz hkL
   generalize L.getD k default = r at d0 d1 HS HZ hbad hgo
   have HM : Hid (∀ u, Below wr.heap.size wr u → Calls prog 56 #[J h0] u fun e w' => e = .returned (.bool (reqsB r.1)) ∧ Below u.heap.size u w') := fun u hu => rReqs_calls _ _ _ A _ u (HS.out.on RReq.firm hu)
   have HW : Hid (∀ u, Calls prog 39 #[.string r.2] u fun e w' => e = .returned (.bool (wordB r.2)) ∧ w' = u) := fun u => rWord_calls r.2 HZ.out u
   have hok : Hid (termB r = (reqsB r.1 && wordB r.2)) := rfl
   clear HS HZ
   generalize reqsB r.1 = q at HM hok
   generalize wordB r.2 = q2 at HW hok
   go_wp2_with fail
   refine (HM.out _ (Below.refl _ _)).mono ?_
   rintro e w1 ⟨rfl, hb1⟩
   have e1 := (hb1.cell (p := ⟨B, off + k * 2 + 1, none⟩) hB).trans d1
   have hB1 : B < w1.heap.size := Nat.lt_of_lt_of_le hB hb1.size
   clear d0 d1
   cases q
   ·
    have HF : Hid (itemsB termB L = false) := hbad.out (by rw [hok.out]; rfl)
    clear hgo hbad hok HM HW
    go_wp2_with fail
    go_ret
    exact ⟨retb HF.out.symm, on2 hbel hb1⟩
   ·
    go_wp2_with fail
    refine (HW.out _).mono ?_
    rintro e w2 ⟨rfl, hw2⟩
    subst hw2
    cases q2
    ·
     have HF : Hid (itemsB termB L = false) := hbad.out (by rw [hok.out]; rfl)
     clear hgo hbad hok HM HW
     go_wp2_with fail
     go_ret
     exact ⟨retb HF.out.symm, on2 hbel hb1⟩
    ·
     have HG : Hid (∀ j, j < k + 1 → termB (L.getD j default) = true) := hgo.out (by rw [hok.out]; rfl)
     clear hgo hbad hok HM HW
     go_wp2_with fail
     go_roundw
     case rel => exact ⟨k + 1, by omega, by go_num, on2 hbel hb1, HG⟩
     case measure => simp [intOf]; omega
  ·
   have hltz : ¬ ((k : Int) < (n : Int)) := by omega
   have HF : Hid (itemsB termB L = decide ((n : Int) ≤ 64)) := by
    rw [Hid, itemsB, all_to termB (fun j hj => hall.out j (by have := HN.out; omega)), Bool.and_true, HN.out, Bool.eq_iff_iff, decide_eq_true_eq, decide_eq_true_eq]; omega
   go_wp2_with fail
   go_ret
   exact ⟨retb HF.out.symm, hbel⟩
end Go.Proofs.YtfbnnfpnjjjfcaaGreat

