/- Pods that are right, and its like. No condition beyond what each says. -/
import Derived.Shelf.Abstract
import Derived.Test.YtfbnnfpnjjjfcaaGreatS13
import Derived.Test.YtfbnnfpnjjjfcaaGreatS17
import Derived.Test.YtfbnnfpnjjjfcaaGreatS09
namespace Go.Proofs.YtfbnnfpnjjjfcaaGreat
set_option maxHeartbeats 16000000
set_option maxRecDepth 100000
open Tryz Go.RowKit
set_option linter.unusedSimpArgs false
theorem ents_isPrefer : ∀ args w, (callFunc 104 args).run prog w = .ok (.enter 104 args) w := Go.Proofs.enters_of func104 (by kernel_rfl) rfl
theorem ents_isPort : ∀ args w, (callFunc 106 args).run prog w = .ok (.enter 106 args) w := Go.Proofs.enters_of func106 (by kernel_rfl) rfl
theorem ents_isTerm : ∀ args w, (callFunc 109 args).run prog w = .ok (.enter 109 args) w := Go.Proofs.enters_of func109 (by kernel_rfl) rfl
theorem ents_isSpread : ∀ args w, (callFunc 111 args).run prog w = .ok (.enter 111 args) w := Go.Proofs.enters_of func111 (by kernel_rfl) rfl
theorem ents_Word : ∀ args w, (callFunc 97 args).run prog w = .ok (.enter 97 args) w := Go.Proofs.enters_of func97 (by kernel_rfl) rfl
theorem preferB_pred (w : World) : PredPrefer 104 #[] preferB w := fun W cs x _ hr => isPrefer_calls cs _ x W hr
theorem termB_pred (w : World) : PredTerm 109 #[] termB w := fun W cs x _ hr => isTerm_calls cs _ x W hr
theorem spreadB_pred (w : World) : PredSpread 111 #[] spreadB w := fun W cs x _ hr => isSpread_calls cs _ x W hr
theorem isPort_calls (n : Int) (w : World) : Calls prog 106 #[.int .i64 n] w fun e w' => e = .returned (.bool (portB n)) ∧ w' = w := by
 have hC := within_calls n 1 65535
 change ∀ w, Calls prog 98 _ w fun e w' => e = .returned (.bool (portB n)) ∧ w' = w at hC
 generalize portB n = r at hC ⊢
 go_enter func106, ntmps106
 go_wp2_with fail
 refine (hC _).mono ?_
 rintro e w1 ⟨rfl, rfl⟩
 go_wp2_with fail
 go_ret
 exact ⟨rfl, rfl⟩
theorem portB_pred (w : World) : Predint 106 #[] portB w := fun W _ x _ _ => calls_same (isPort_calls x W)
theorem wordB_pred (w : World) : Predstring 97 #[] wordB w := fun W _ x _ _ => calls_same (Word_calls x W)
theorem Pod_right (c : List Value) (A : Where) (x : PodD) (w : World) (h : Hid (RPod A w c x)) : Calls prog 96 #[.agg #[], .agg c.toArray] w fun e w' => e = .returned (.bool (rightPod x)) ∧ Below w.heap.size w w' := by
 obtain ⟨h2, h6, h7, h8, h9, h10, h11, h12, h13, rfl, _, g2, g6, g7, g8, g9, g10, g11, g12, g13, _⟩ := h.out.out
 have H2 : Hid (SlAt RLabel 2 32 A w h2.1 h2.2.1 h2.2.2 x.2.2.1) := g2
 have H6 : Hid (SlAt RBear 4 48 A w h6.1 h6.2.1 h6.2.2 x.2.2.2.2.1) := g6
 have H7 : Hid (SlAt RReq 3 48 A w h7.1 h7.2.1 h7.2.2 x.2.2.2.2.2.1) := g7
 have H8 : Hid (SlAt RPrefer 2 32 A w h8.1 h8.2.1 h8.2.2 x.2.2.2.2.2.2.1) := g8
 have H9 : Hid (SlAt RInt 1 8 A w h9.1 h9.2.1 h9.2.2 x.2.2.2.2.2.2.2.1) := g9
 have H10 : Hid (SlAt RTerm 2 40 A w h10.1 h10.2.1 h10.2.2 x.2.2.2.2.2.2.2.2.1) := g10
 have H11 : Hid (SlAt RTerm 2 40 A w h11.1 h11.2.1 h11.2.2 x.2.2.2.2.2.2.2.2.2.1) := g11
 have H12 : Hid (SlAt RSpread 4 56 A w h12.1 h12.2.1 h12.2.2 x.2.2.2.2.2.2.2.2.2.2.1) := g12
 have H13 : Hid (SlAt RStr 1 16 A w h13.1 h13.2.1 h13.2.2 x.2.2.2.2.2.2.2.2.2.2.2.1) := g13
 clear h g2 g6 g7 g8 g9 g10 g11 g12 g13
 have HH0 : Hid (Held w [(w.heap.size + 1, [.string x.1, .int .i64 x.2.1, J h2, .int .i64 x.2.2.2.1.1, .int .i64 x.2.2.2.1.2.1, .int .i64 x.2.2.2.1.2.2, J h6, J h7, J h8, J h9, J h10, J h11, J h12, J h13, .string x.2.2.2.2.2.2.2.2.2.2.2.2.1, .string x.2.2.2.2.2.2.2.2.2.2.2.2.2]), (w.heap.size, [])] [] ((w.alloc (.cells #[] 132)).alloc (.cells #[.string x.1, .int .i64 x.2.1, J h2, .int .i64 x.2.2.2.1.1, .int .i64 x.2.2.2.1.2.1, .int .i64 x.2.2.2.1.2.2, J h6, J h7, J h8, J h9, J h10, J h11, J h12, J h13, .string x.2.2.2.2.2.2.2.2.2.2.2.2.1, .string x.2.2.2.2.2.2.2.2.2.2.2.2.2] 33))) := (((Held.start w).push rfl [] 132).push (by simp) [.string x.1, .int .i64 x.2.1, J h2, .int .i64 x.2.2.2.1.1, .int .i64 x.2.2.2.1.2.1, .int .i64 x.2.2.2.1.2.2, J h6, J h7, J h8, J h9, J h10, J h11, J h12, J h13, .string x.2.2.2.2.2.2.2.2.2.2.2.2.1, .string x.2.2.2.2.2.2.2.2.2.2.2.2.2] 33)
 obtain ⟨b0, e0⟩ : ∃ b : Bool, wordB x.1 = b := ⟨_, rfl⟩
 obtain ⟨b1, e1⟩ : ∃ b : Bool, withinB x.2.1 (-1073741824) 1073741824 = b := ⟨_, rfl⟩
 obtain ⟨n2, g2⟩ : ∃ n : Int, checkI x.2.2.1 = n := ⟨_, rfl⟩
 obtain ⟨b2, e2⟩ : ∃ b : Bool, (n2 == 0) = b := ⟨_, rfl⟩
 obtain ⟨b3, e3⟩ : ∃ b : Bool, reqsB x.2.2.2.2.2.1 = b := ⟨_, rfl⟩
 obtain ⟨n4, g4⟩ : ∃ n : Int, Tn.checkBr x.2.2.2.2.1 = n := ⟨_, rfl⟩
 obtain ⟨b4, e4⟩ : ∃ b : Bool, (n4 == 0) = b := ⟨_, rfl⟩
 obtain ⟨b5, e5⟩ : ∃ b : Bool, resB x.2.2.2.1 = b := ⟨_, rfl⟩
 obtain ⟨b6, e6⟩ : ∃ b : Bool, itemsB preferB x.2.2.2.2.2.2.1 = b := ⟨_, rfl⟩
 obtain ⟨b7, e7⟩ : ∃ b : Bool, itemsB portB x.2.2.2.2.2.2.2.1 = b := ⟨_, rfl⟩
 obtain ⟨b8, e8⟩ : ∃ b : Bool, risesBy iLt id x.2.2.2.2.2.2.2.1 = b := ⟨_, rfl⟩
 obtain ⟨b9, e9⟩ : ∃ b : Bool, itemsB termB x.2.2.2.2.2.2.2.2.1 = b := ⟨_, rfl⟩
 obtain ⟨b10, e10⟩ : ∃ b : Bool, itemsB termB x.2.2.2.2.2.2.2.2.2.1 = b := ⟨_, rfl⟩
 obtain ⟨b11, e11⟩ : ∃ b : Bool, itemsB spreadB x.2.2.2.2.2.2.2.2.2.2.1 = b := ⟨_, rfl⟩
 obtain ⟨b12, e12⟩ : ∃ b : Bool, itemsB wordB x.2.2.2.2.2.2.2.2.2.2.2.1 = b := ⟨_, rfl⟩
 obtain ⟨b13, e13⟩ : ∃ b : Bool, risesBy sLt id x.2.2.2.2.2.2.2.2.2.2.2.1 = b := ⟨_, rfl⟩
 obtain ⟨b14, e14⟩ : ∃ b : Bool, nameNone x.2.2.2.2.2.2.2.2.2.2.2.2.1 = b := ⟨_, rfl⟩
 obtain ⟨b15, e15⟩ : ∃ b : Bool, nameNone x.2.2.2.2.2.2.2.2.2.2.2.2.2 = b := ⟨_, rfl⟩
 have HF : Hid (rightPod x = (b0 && b1 && b2 && b3 && b4 && b5 && b6 && b7 && b8 && b9 && b10 && b11 && b12 && b13 && b14 && b15)) := by rw [Hid, ← e0, ← e1, ← e2, ← g2, ← e3, ← e4, ← g4, ← e5, ← e6, ← e7, ← e8, ← e9, ← e10, ← e11, ← e12, ← e13, ← e14, ← e15]; rfl
 have HC0 : Hid (∀ u, Below w.heap.size w u → Calls prog 97 #[.string x.1] u fun e w' => e = .returned (.bool b0) ∧ Below u.heap.size u w') := fun u hu => by rw [← e0]; exact calls_same (Word_calls x.1 _)
 clear e0
 have HC1 : Hid (∀ u, Below w.heap.size w u → Calls prog 98 #[.int .i64 x.2.1, .int .i64 (-1073741824), .int .i64 1073741824] u fun e w' => e = .returned (.bool b1) ∧ Below u.heap.size u w') := fun u hu => by rw [← e1]; exact calls_same (within_calls x.2.1 (-1073741824) 1073741824 _)
 clear e1
 have HC2 : Hid (∀ u, Below w.heap.size w u → Calls prog 99 #[J h2] u fun e w' => e = .returned (.int .i64 n2) ∧ Below u.heap.size u w') := fun u hu => by rw [← g2]; exact labCheck _ _ _ A x.2.2.1 _ (H2.out.kept RLabel.firm (Kept.below hu))
 clear g2
 have HC3 : Hid (∀ u, Below w.heap.size w u → Calls prog 100 #[J h7] u fun e w' => e = .returned (.bool b3) ∧ Below u.heap.size u w') := fun u hu => by rw [← e3]; exact areReqs_calls _ _ _ A x.2.2.2.2.2.1 _ (H7.out.kept RReq.firm (Kept.below hu))
 clear e3
 have HC4 : Hid (∀ u, Below w.heap.size w u → Calls prog 101 #[J h6] u fun e w' => e = .returned (.int .i64 n4) ∧ Below u.heap.size u w') := fun u hu => by rw [← g4]; exact bearCheck _ _ _ A x.2.2.2.2.1 _ (H6.out.kept RBear.firm (Kept.below hu))
 clear g4
 have HC5 : Hid (∀ u, Below w.heap.size w u → Calls prog 102 #[.agg #[.int .i64 x.2.2.2.1.1, .int .i64 x.2.2.2.1.2.1, .int .i64 x.2.2.2.1.2.2]] u fun e w' => e = .returned (.bool b5) ∧ Below u.heap.size u w') := fun u hu => by rw [← e5]; exact areAmounts_calls x.2.2.2.1 _
 clear e5
 have HC6 : Hid (∀ u, Below w.heap.size w u → Calls prog 103 #[J h8, .func (.func 104) #[] #[]] u fun e w' => e = .returned (.bool b6) ∧ Below u.heap.size u w') := fun u hu => by rw [← e6]; exact itemsPrefer_calls 104 ents_isPrefer _ _ _ A x.2.2.2.2.2.2.1 preferB _ (H8.out.kept RPrefer.firm (Kept.below hu)) (preferB_pred _)
 clear e6
 have HC7 : Hid (∀ u, Below w.heap.size w u → Calls prog 105 #[J h9, .func (.func 106) #[] #[]] u fun e w' => e = .returned (.bool b7) ∧ Below u.heap.size u w') := fun u hu => by rw [← e7]; exact itemsint_calls 106 ents_isPort _ _ _ A x.2.2.2.2.2.2.2.1 portB _ (H9.out.kept RInt.firm (Kept.below hu)) (portB_pred _)
 clear e7
 have HC8 : Hid (∀ u, Below w.heap.size w u → Calls prog 107 #[J h9] u fun e w' => e = .returned (.bool b8) ∧ Below u.heap.size u w') := fun u hu => by rw [← e8]; exact risesint_calls _ _ _ A x.2.2.2.2.2.2.2.1 _ (H9.out.kept RInt.firm (Kept.below hu))
 clear e8
 have HC9 : Hid (∀ u, Below w.heap.size w u → Calls prog 108 #[J h10, .func (.func 109) #[] #[]] u fun e w' => e = .returned (.bool b9) ∧ Below u.heap.size u w') := fun u hu => by rw [← e9]; exact itemsTerm_calls 109 ents_isTerm _ _ _ A x.2.2.2.2.2.2.2.2.1 termB _ (H10.out.kept RTerm.firm (Kept.below hu)) (termB_pred _)
 clear e9
 have HC10 : Hid (∀ u, Below w.heap.size w u → Calls prog 108 #[J h11, .func (.func 109) #[] #[]] u fun e w' => e = .returned (.bool b10) ∧ Below u.heap.size u w') := fun u hu => by rw [← e10]; exact itemsTerm_calls 109 ents_isTerm _ _ _ A x.2.2.2.2.2.2.2.2.2.1 termB _ (H11.out.kept RTerm.firm (Kept.below hu)) (termB_pred _)
 clear e10
 have HC11 : Hid (∀ u, Below w.heap.size w u → Calls prog 110 #[J h12, .func (.func 111) #[] #[]] u fun e w' => e = .returned (.bool b11) ∧ Below u.heap.size u w') := fun u hu => by rw [← e11]; exact itemsSpread_calls 111 ents_isSpread _ _ _ A x.2.2.2.2.2.2.2.2.2.2.1 spreadB _ (H12.out.kept RSpread.firm (Kept.below hu)) (spreadB_pred _)
 clear e11
 have HC12 : Hid (∀ u, Below w.heap.size w u → Calls prog 112 #[J h13, .func (.func 97) #[] #[]] u fun e w' => e = .returned (.bool b12) ∧ Below u.heap.size u w') := fun u hu => by rw [← e12]; exact itemsstring_calls 97 ents_Word _ _ _ A x.2.2.2.2.2.2.2.2.2.2.2.1 wordB _ (H13.out.kept RStr.firm (Kept.below hu)) (wordB_pred _)
 clear e12
 have HC13 : Hid (∀ u, Below w.heap.size w u → Calls prog 113 #[J h13] u fun e w' => e = .returned (.bool b13) ∧ Below u.heap.size u w') := fun u hu => by rw [← e13]; exact risesstring_calls _ _ _ A x.2.2.2.2.2.2.2.2.2.2.2.1 _ (H13.out.kept RStr.firm (Kept.below hu))
 clear e13
 have HC14 : Hid (∀ u, Below w.heap.size w u → Calls prog 114 #[.string x.2.2.2.2.2.2.2.2.2.2.2.2.1] u fun e w' => e = .returned (.bool b14) ∧ Below u.heap.size u w') := fun u hu => by rw [← e14]; exact calls_same (isNameOrNone_calls x.2.2.2.2.2.2.2.2.2.2.2.2.1 _)
 clear e14
 have HC15 : Hid (∀ u, Below w.heap.size w u → Calls prog 114 #[.string x.2.2.2.2.2.2.2.2.2.2.2.2.2] u fun e w' => e = .returned (.bool b15) ∧ Below u.heap.size u w') := fun u hu => by rw [← e15]; exact calls_same (isNameOrNone_calls x.2.2.2.2.2.2.2.2.2.2.2.2.2 _)
 clear e15
 go_enter func96, ntmps96
 go_wp2_with fail
 refine (HC0.out _ HH0.out.below).mono ?_
 rintro e u1 ⟨rfl, hb1⟩
 have HH1 : Hid (Held w [(w.heap.size + 1, [.string x.1, .int .i64 x.2.1, J h2, .int .i64 x.2.2.2.1.1, .int .i64 x.2.2.2.1.2.1, .int .i64 x.2.2.2.1.2.2, J h6, J h7, J h8, J h9, J h10, J h11, J h12, J h13, .string x.2.2.2.2.2.2.2.2.2.2.2.2.1, .string x.2.2.2.2.2.2.2.2.2.2.2.2.2]), (w.heap.size, [])] [] u1) := HH0.out.on hb1
 clear hb1 HH0 HC0
 cases b0
 ·
  clear HC1 HC2 HC3 HC4 HC5 HC6 HC7 HC8 HC9 HC10 HC11 HC12 HC13 HC14 HC15
  go_wp2_with fail
  go_ret
  exact ⟨retb (by rw [HF.out] <;> simp), HH1.out.below⟩
 have k0_1 := HH1.out.cell 0 (b := w.heap.size + 1) rfl 1 rfl
 have kl0 := HH1.out.lt 0 rfl
 go_wp2_with fail
 clear k0_1 kl0
 refine (HC1.out _ HH1.out.below).mono ?_
 rintro e u2 ⟨rfl, hb2⟩
 have HH2 : Hid (Held w [(w.heap.size + 1, [.string x.1, .int .i64 x.2.1, J h2, .int .i64 x.2.2.2.1.1, .int .i64 x.2.2.2.1.2.1, .int .i64 x.2.2.2.1.2.2, J h6, J h7, J h8, J h9, J h10, J h11, J h12, J h13, .string x.2.2.2.2.2.2.2.2.2.2.2.2.1, .string x.2.2.2.2.2.2.2.2.2.2.2.2.2]), (w.heap.size, [])] [] u2) := HH1.out.on hb2
 clear hb2 HH1 HC1
 cases b1
 ·
  clear HC2 HC3 HC4 HC5 HC6 HC7 HC8 HC9 HC10 HC11 HC12 HC13 HC14 HC15
  go_wp2_with fail
  go_ret
  exact ⟨retb (by rw [HF.out] <;> simp), HH2.out.below⟩
 have k1_2 := HH2.out.cell 0 (b := w.heap.size + 1) rfl 2 rfl
 have kl1 := HH2.out.lt 0 rfl
 go_wp2_with fail
 clear k1_2 kl1
 refine (HC2.out _ HH2.out.below).mono ?_
 rintro e u3 ⟨rfl, hb3⟩
 have HH3 : Hid (Held w [(w.heap.size + 1, [.string x.1, .int .i64 x.2.1, J h2, .int .i64 x.2.2.2.1.1, .int .i64 x.2.2.2.1.2.1, .int .i64 x.2.2.2.1.2.2, J h6, J h7, J h8, J h9, J h10, J h11, J h12, J h13, .string x.2.2.2.2.2.2.2.2.2.2.2.2.1, .string x.2.2.2.2.2.2.2.2.2.2.2.2.2]), (w.heap.size, [])] [] u3) := HH2.out.on hb3
 clear hb3 HH2 HC2
 cases b2
 ·
  clear HC3 HC4 HC5 HC6 HC7 HC8 HC9 HC10 HC11 HC12 HC13 HC14 HC15
  go_wp2_with fail
  go_ret
  exact ⟨retb (by rw [HF.out] <;> simp), HH3.out.below⟩
 have k2_7 := HH3.out.cell 0 (b := w.heap.size + 1) rfl 7 rfl
 have kl2 := HH3.out.lt 0 rfl
 go_wp2_with fail
 clear k2_7 kl2
 refine (HC3.out _ HH3.out.below).mono ?_
 rintro e u4 ⟨rfl, hb4⟩
 have HH4 : Hid (Held w [(w.heap.size + 1, [.string x.1, .int .i64 x.2.1, J h2, .int .i64 x.2.2.2.1.1, .int .i64 x.2.2.2.1.2.1, .int .i64 x.2.2.2.1.2.2, J h6, J h7, J h8, J h9, J h10, J h11, J h12, J h13, .string x.2.2.2.2.2.2.2.2.2.2.2.2.1, .string x.2.2.2.2.2.2.2.2.2.2.2.2.2]), (w.heap.size, [])] [] u4) := HH3.out.on hb4
 clear hb4 HH3 HC3
 cases b3
 ·
  clear HC4 HC5 HC6 HC7 HC8 HC9 HC10 HC11 HC12 HC13 HC14 HC15
  go_wp2_with fail
  go_ret
  exact ⟨retb (by rw [HF.out] <;> simp), HH4.out.below⟩
 have k3_6 := HH4.out.cell 0 (b := w.heap.size + 1) rfl 6 rfl
 have kl3 := HH4.out.lt 0 rfl
 go_wp2_with fail
 clear k3_6 kl3
 refine (HC4.out _ HH4.out.below).mono ?_
 rintro e u5 ⟨rfl, hb5⟩
 have HH5 : Hid (Held w [(w.heap.size + 1, [.string x.1, .int .i64 x.2.1, J h2, .int .i64 x.2.2.2.1.1, .int .i64 x.2.2.2.1.2.1, .int .i64 x.2.2.2.1.2.2, J h6, J h7, J h8, J h9, J h10, J h11, J h12, J h13, .string x.2.2.2.2.2.2.2.2.2.2.2.2.1, .string x.2.2.2.2.2.2.2.2.2.2.2.2.2]), (w.heap.size, [])] [] u5) := HH4.out.on hb5
 clear hb5 HH4 HC4
 cases b4
 ·
  clear HC5 HC6 HC7 HC8 HC9 HC10 HC11 HC12 HC13 HC14 HC15
  go_wp2_with fail
  go_ret
  exact ⟨retb (by rw [HF.out] <;> simp), HH5.out.below⟩
 have k4_3 := HH5.out.cell 0 (b := w.heap.size + 1) rfl 3 rfl
 have k4_4 := HH5.out.cell 0 (b := w.heap.size + 1) rfl 4 rfl
 have k4_5 := HH5.out.cell 0 (b := w.heap.size + 1) rfl 5 rfl
 have kl4 := HH5.out.lt 0 rfl
 go_wp2_with fail
 clear k4_3 k4_4 k4_5 kl4
 refine (HC5.out _ HH5.out.below).mono ?_
 rintro e u6 ⟨rfl, hb6⟩
 have HH6 : Hid (Held w [(w.heap.size + 1, [.string x.1, .int .i64 x.2.1, J h2, .int .i64 x.2.2.2.1.1, .int .i64 x.2.2.2.1.2.1, .int .i64 x.2.2.2.1.2.2, J h6, J h7, J h8, J h9, J h10, J h11, J h12, J h13, .string x.2.2.2.2.2.2.2.2.2.2.2.2.1, .string x.2.2.2.2.2.2.2.2.2.2.2.2.2]), (w.heap.size, [])] [] u6) := HH5.out.on hb6
 clear hb6 HH5 HC5
 cases b5
 ·
  clear HC6 HC7 HC8 HC9 HC10 HC11 HC12 HC13 HC14 HC15
  go_wp2_with fail
  go_ret
  exact ⟨retb (by rw [HF.out] <;> simp), HH6.out.below⟩
 have k5_8 := HH6.out.cell 0 (b := w.heap.size + 1) rfl 8 rfl
 have kl5 := HH6.out.lt 0 rfl
 go_wp2_with fail
 clear k5_8 kl5
 refine (HC6.out _ HH6.out.below).mono ?_
 rintro e u7 ⟨rfl, hb7⟩
 have HH7 : Hid (Held w [(w.heap.size + 1, [.string x.1, .int .i64 x.2.1, J h2, .int .i64 x.2.2.2.1.1, .int .i64 x.2.2.2.1.2.1, .int .i64 x.2.2.2.1.2.2, J h6, J h7, J h8, J h9, J h10, J h11, J h12, J h13, .string x.2.2.2.2.2.2.2.2.2.2.2.2.1, .string x.2.2.2.2.2.2.2.2.2.2.2.2.2]), (w.heap.size, [])] [] u7) := HH6.out.on hb7
 clear hb7 HH6 HC6
 cases b6
 ·
  clear HC7 HC8 HC9 HC10 HC11 HC12 HC13 HC14 HC15
  go_wp2_with fail
  go_ret
  exact ⟨retb (by rw [HF.out] <;> simp), HH7.out.below⟩
 have k6_9 := HH7.out.cell 0 (b := w.heap.size + 1) rfl 9 rfl
 have kl6 := HH7.out.lt 0 rfl
 go_wp2_with fail
 clear k6_9 kl6
 refine (HC7.out _ HH7.out.below).mono ?_
 rintro e u8 ⟨rfl, hb8⟩
 have HH8 : Hid (Held w [(w.heap.size + 1, [.string x.1, .int .i64 x.2.1, J h2, .int .i64 x.2.2.2.1.1, .int .i64 x.2.2.2.1.2.1, .int .i64 x.2.2.2.1.2.2, J h6, J h7, J h8, J h9, J h10, J h11, J h12, J h13, .string x.2.2.2.2.2.2.2.2.2.2.2.2.1, .string x.2.2.2.2.2.2.2.2.2.2.2.2.2]), (w.heap.size, [])] [] u8) := HH7.out.on hb8
 clear hb8 HH7 HC7
 cases b7
 ·
  clear HC8 HC9 HC10 HC11 HC12 HC13 HC14 HC15
  go_wp2_with fail
  go_ret
  exact ⟨retb (by rw [HF.out] <;> simp), HH8.out.below⟩
 have k7_9 := HH8.out.cell 0 (b := w.heap.size + 1) rfl 9 rfl
 have kl7 := HH8.out.lt 0 rfl
 go_wp2_with fail
 clear k7_9 kl7
 refine (HC8.out _ HH8.out.below).mono ?_
 rintro e u9 ⟨rfl, hb9⟩
 have HH9 : Hid (Held w [(w.heap.size + 1, [.string x.1, .int .i64 x.2.1, J h2, .int .i64 x.2.2.2.1.1, .int .i64 x.2.2.2.1.2.1, .int .i64 x.2.2.2.1.2.2, J h6, J h7, J h8, J h9, J h10, J h11, J h12, J h13, .string x.2.2.2.2.2.2.2.2.2.2.2.2.1, .string x.2.2.2.2.2.2.2.2.2.2.2.2.2]), (w.heap.size, [])] [] u9) := HH8.out.on hb9
 clear hb9 HH8 HC8
 cases b8
 ·
  clear HC9 HC10 HC11 HC12 HC13 HC14 HC15
  go_wp2_with fail
  go_ret
  exact ⟨retb (by rw [HF.out] <;> simp), HH9.out.below⟩
 have k8_10 := HH9.out.cell 0 (b := w.heap.size + 1) rfl 10 rfl
 have kl8 := HH9.out.lt 0 rfl
 go_wp2_with fail
 clear k8_10 kl8
 refine (HC9.out _ HH9.out.below).mono ?_
 rintro e u10 ⟨rfl, hb10⟩
 have HH10 : Hid (Held w [(w.heap.size + 1, [.string x.1, .int .i64 x.2.1, J h2, .int .i64 x.2.2.2.1.1, .int .i64 x.2.2.2.1.2.1, .int .i64 x.2.2.2.1.2.2, J h6, J h7, J h8, J h9, J h10, J h11, J h12, J h13, .string x.2.2.2.2.2.2.2.2.2.2.2.2.1, .string x.2.2.2.2.2.2.2.2.2.2.2.2.2]), (w.heap.size, [])] [] u10) := HH9.out.on hb10
 clear hb10 HH9 HC9
 cases b9
 ·
  clear HC10 HC11 HC12 HC13 HC14 HC15
  go_wp2_with fail
  go_ret
  exact ⟨retb (by rw [HF.out] <;> simp), HH10.out.below⟩
 have k9_11 := HH10.out.cell 0 (b := w.heap.size + 1) rfl 11 rfl
 have kl9 := HH10.out.lt 0 rfl
 go_wp2_with fail
 clear k9_11 kl9
 refine (HC10.out _ HH10.out.below).mono ?_
 rintro e u11 ⟨rfl, hb11⟩
 have HH11 : Hid (Held w [(w.heap.size + 1, [.string x.1, .int .i64 x.2.1, J h2, .int .i64 x.2.2.2.1.1, .int .i64 x.2.2.2.1.2.1, .int .i64 x.2.2.2.1.2.2, J h6, J h7, J h8, J h9, J h10, J h11, J h12, J h13, .string x.2.2.2.2.2.2.2.2.2.2.2.2.1, .string x.2.2.2.2.2.2.2.2.2.2.2.2.2]), (w.heap.size, [])] [] u11) := HH10.out.on hb11
 clear hb11 HH10 HC10
 cases b10
 ·
  clear HC11 HC12 HC13 HC14 HC15
  go_wp2_with fail
  go_ret
  exact ⟨retb (by rw [HF.out] <;> simp), HH11.out.below⟩
 have k10_12 := HH11.out.cell 0 (b := w.heap.size + 1) rfl 12 rfl
 have kl10 := HH11.out.lt 0 rfl
 go_wp2_with fail
 clear k10_12 kl10
 refine (HC11.out _ HH11.out.below).mono ?_
 rintro e u12 ⟨rfl, hb12⟩
 have HH12 : Hid (Held w [(w.heap.size + 1, [.string x.1, .int .i64 x.2.1, J h2, .int .i64 x.2.2.2.1.1, .int .i64 x.2.2.2.1.2.1, .int .i64 x.2.2.2.1.2.2, J h6, J h7, J h8, J h9, J h10, J h11, J h12, J h13, .string x.2.2.2.2.2.2.2.2.2.2.2.2.1, .string x.2.2.2.2.2.2.2.2.2.2.2.2.2]), (w.heap.size, [])] [] u12) := HH11.out.on hb12
 clear hb12 HH11 HC11
 cases b11
 ·
  clear HC12 HC13 HC14 HC15
  go_wp2_with fail
  go_ret
  exact ⟨retb (by rw [HF.out] <;> simp), HH12.out.below⟩
 have k11_13 := HH12.out.cell 0 (b := w.heap.size + 1) rfl 13 rfl
 have kl11 := HH12.out.lt 0 rfl
 go_wp2_with fail
 clear k11_13 kl11
 refine (HC12.out _ HH12.out.below).mono ?_
 rintro e u13 ⟨rfl, hb13⟩
 have HH13 : Hid (Held w [(w.heap.size + 1, [.string x.1, .int .i64 x.2.1, J h2, .int .i64 x.2.2.2.1.1, .int .i64 x.2.2.2.1.2.1, .int .i64 x.2.2.2.1.2.2, J h6, J h7, J h8, J h9, J h10, J h11, J h12, J h13, .string x.2.2.2.2.2.2.2.2.2.2.2.2.1, .string x.2.2.2.2.2.2.2.2.2.2.2.2.2]), (w.heap.size, [])] [] u13) := HH12.out.on hb13
 clear hb13 HH12 HC12
 cases b12
 ·
  clear HC13 HC14 HC15
  go_wp2_with fail
  go_ret
  exact ⟨retb (by rw [HF.out] <;> simp), HH13.out.below⟩
 have k12_13 := HH13.out.cell 0 (b := w.heap.size + 1) rfl 13 rfl
 have kl12 := HH13.out.lt 0 rfl
 go_wp2_with fail
 clear k12_13 kl12
 refine (HC13.out _ HH13.out.below).mono ?_
 rintro e u14 ⟨rfl, hb14⟩
 have HH14 : Hid (Held w [(w.heap.size + 1, [.string x.1, .int .i64 x.2.1, J h2, .int .i64 x.2.2.2.1.1, .int .i64 x.2.2.2.1.2.1, .int .i64 x.2.2.2.1.2.2, J h6, J h7, J h8, J h9, J h10, J h11, J h12, J h13, .string x.2.2.2.2.2.2.2.2.2.2.2.2.1, .string x.2.2.2.2.2.2.2.2.2.2.2.2.2]), (w.heap.size, [])] [] u14) := HH13.out.on hb14
 clear hb14 HH13 HC13
 cases b13
 ·
  clear HC14 HC15
  go_wp2_with fail
  go_ret
  exact ⟨retb (by rw [HF.out] <;> simp), HH14.out.below⟩
 have k13_14 := HH14.out.cell 0 (b := w.heap.size + 1) rfl 14 rfl
 have kl13 := HH14.out.lt 0 rfl
 go_wp2_with fail
 clear k13_14 kl13
 refine (HC14.out _ HH14.out.below).mono ?_
 rintro e u15 ⟨rfl, hb15⟩
 have HH15 : Hid (Held w [(w.heap.size + 1, [.string x.1, .int .i64 x.2.1, J h2, .int .i64 x.2.2.2.1.1, .int .i64 x.2.2.2.1.2.1, .int .i64 x.2.2.2.1.2.2, J h6, J h7, J h8, J h9, J h10, J h11, J h12, J h13, .string x.2.2.2.2.2.2.2.2.2.2.2.2.1, .string x.2.2.2.2.2.2.2.2.2.2.2.2.2]), (w.heap.size, [])] [] u15) := HH14.out.on hb15
 clear hb15 HH14 HC14
 cases b14
 ·
  clear HC15
  go_wp2_with fail
  go_ret
  exact ⟨retb (by rw [HF.out] <;> simp), HH15.out.below⟩
 have k14_15 := HH15.out.cell 0 (b := w.heap.size + 1) rfl 15 rfl
 have kl14 := HH15.out.lt 0 rfl
 go_wp2_with fail
 clear k14_15 kl14
 refine (HC15.out _ HH15.out.below).mono ?_
 rintro e u16 ⟨rfl, hb16⟩
 have HH16 : Hid (Held w [(w.heap.size + 1, [.string x.1, .int .i64 x.2.1, J h2, .int .i64 x.2.2.2.1.1, .int .i64 x.2.2.2.1.2.1, .int .i64 x.2.2.2.1.2.2, J h6, J h7, J h8, J h9, J h10, J h11, J h12, J h13, .string x.2.2.2.2.2.2.2.2.2.2.2.2.1, .string x.2.2.2.2.2.2.2.2.2.2.2.2.2]), (w.heap.size, [])] [] u16) := HH15.out.on hb16
 clear hb16 HH15 HC15
 cases b15
 ·
  skip
  go_wp2_with fail
  go_ret
  exact ⟨retb (by rw [HF.out] <;> simp), HH16.out.below⟩
 go_wp2_with fail
 go_ret
 exact ⟨retb (by rw [HF.out] <;> simp), HH16.out.below⟩
theorem all1Pod (s : String) (hm : ∀ w, (method 406 132 (.agg #[]) s).run prog w = .ok (96, .agg #[]) w) (p : PodD → Bool) (D : Nat) (w : World) (hD : D < w.heap.size) (cD : w.cell? ⟨D, 0, none⟩ = some (.func (.method s) #[.iface 132 (.agg #[])] #[])) (hpr : p = rightPod) : PredPod 173 #[.pointer (some ⟨D, 0, none⟩)] (fun x => !p x) w := fun W cs x hb hr0 => by
 have hr : Hid (RPod (fun _ => True) W cs x) := hr0
 clear hr0
 have HV : Hid ((W.alloc (.cells cs.toArray 33)).rangeAt W.heap.size 0 cs) := range_all rfl
 have hi : (prog.info? 33).map (·.size) = some cs.length := by rw [RPod.firm.len hr.out]; exact itPod
 have HB0 : Hid (Below w.heap.size w (W.alloc (.cells cs.toArray 33))) := on2 hb (by go_grown)
 have HBW : Hid (Below W.heap.size W (W.alloc (.cells cs.toArray 33))) := by unfold Hid; go_grown
 have hDW : D < W.heap.size := by have := hb.size; omega
 have hne : D ≠ W.heap.size := by omega
 have d0 := (hb.cell (p := ⟨D, 0, none⟩) hD).trans cD
 subst hpr
 have hcall := (Pod_right cs _ x (W.alloc (.cells cs.toArray 33)) (RPod.firm.kept hr.out (Kept.alloc _ _ _)))
 show Calls prog 173 #[.agg cs.toArray, .pointer (some ⟨D, 0, none⟩)] W fun e w' => e = .returned (.bool (!rightPod x)) ∧ Below W.heap.size W w'
 generalize rightPod x = r at hcall ⊢
 clear cD hb
 go_enter func173, ntmps173
 go_wp2_with (first | (refine wpList_load_mid rfl 33 _ rfl W.heap.size 0 rfl cs _ HV.out underlying33 rfl hi ?_) | fail)
 refine hcall.mono ?_
 rintro e w1 ⟨rfl, hb1⟩
 go_wp2_with fail
 go_ret
 exact ⟨rfl, on2 HBW.out hb1⟩
theorem entsPod : ∀ args w, (callFunc 173 args).run prog w = .ok (.enter 173 args) w := Go.Proofs.enters_of func173 (by kernel_rfl) rfl
theorem not_anyPod (L : List PodD) (p : PodD → Bool) : (!L.any (fun x => !p x)) = L.all p := by
 rw [Bool.eq_iff_iff]; simp
theorem allRightPod_calls (s : String) (hm : ∀ w, (method 406 132 (.agg #[]) s).run prog w = .ok (96, .agg #[]) w) (a : Option Addr) (n cap : Nat) (A : Where) (L : List PodD) (w : World) (hL : Hid (SlAt RPod 16 296 A w a n cap L)) : Calls prog 165 #[.slice a n cap, .func (.method s) #[.iface 132 (.agg #[])] #[]] w fun e w' => e = .returned (.bool (L.all rightPod)) ∧ Below w.heap.size w w' := by
 have hb0 : Below w.heap.size w (w.alloc (.cells #[.func (.method s) #[.iface 132 (.agg #[])] #[]] 87)) := by go_grown
 have hC := ContainsPod_calls a n cap A L (w.alloc (.cells #[.func (.method s) #[.iface 132 (.agg #[])] #[]] 87)) (hL.out.on RPod.firm hb0) (fun x => !rightPod x) 173 #[.pointer (some ⟨w.heap.size, 0, none⟩)] entsPod (all1Pod s hm rightPod w.heap.size _ (by simp) (by simp [go_sem]) rfl)
 have HF := not_anyPod L rightPod
 generalize L.any (fun x => !rightPod x) = r at hC HF
 have HF2 : Hid ((!r) = L.all rightPod) := HF
 clear HF hL
 go_enter func165, ntmps165
 go_wp2_with fail
 refine hC.mono ?_
 rintro e w1 ⟨rfl, hb1⟩
 go_wp2_with fail
 go_ret
 exact ⟨retb HF2.out, on2 hb0 hb1⟩
theorem Pod_blank (c : List Value) (A : Where) (x : PodD) (w : World) (h : Hid (RPod A w c x)) : Calls prog 94 #[.agg #[], .agg c.toArray] w fun e w' => e = .returned (.bool (blankPod x)) ∧ Below w.heap.size w w' := by
 obtain ⟨h2, h6, h7, h8, h9, h10, h11, h12, h13, rfl, _, g2, g6, g7, g8, g9, g10, g11, g12, g13, _⟩ := h.out.out
 have l2 := g2.len (by decide)
 have H2 : Hid (SlAt RLabel 2 32 A w h2.1 h2.2.1 h2.2.2 x.2.2.1) := g2
 have l6 := g6.len (by decide)
 have H6 : Hid (SlAt RBear 4 48 A w h6.1 h6.2.1 h6.2.2 x.2.2.2.2.1) := g6
 have l7 := g7.len (by decide)
 have H7 : Hid (SlAt RReq 3 48 A w h7.1 h7.2.1 h7.2.2 x.2.2.2.2.2.1) := g7
 have l8 := g8.len (by decide)
 have H8 : Hid (SlAt RPrefer 2 32 A w h8.1 h8.2.1 h8.2.2 x.2.2.2.2.2.2.1) := g8
 have l9 := g9.len (by decide)
 have H9 : Hid (SlAt RInt 1 8 A w h9.1 h9.2.1 h9.2.2 x.2.2.2.2.2.2.2.1) := g9
 have l10 := g10.len (by decide)
 have H10 : Hid (SlAt RTerm 2 40 A w h10.1 h10.2.1 h10.2.2 x.2.2.2.2.2.2.2.2.1) := g10
 have l11 := g11.len (by decide)
 have H11 : Hid (SlAt RTerm 2 40 A w h11.1 h11.2.1 h11.2.2 x.2.2.2.2.2.2.2.2.2.1) := g11
 have l12 := g12.len (by decide)
 have H12 : Hid (SlAt RSpread 4 56 A w h12.1 h12.2.1 h12.2.2 x.2.2.2.2.2.2.2.2.2.2.1) := g12
 have l13 := g13.len (by decide)
 have H13 : Hid (SlAt RStr 1 16 A w h13.1 h13.2.1 h13.2.2 x.2.2.2.2.2.2.2.2.2.2.2.1) := g13
 clear h g2 g6 g7 g8 g9 g10 g11 g12 g13
 have HB : Hid (Below w.heap.size w ((w.alloc (.cells #[] 132)).alloc (.cells #[.string x.1, .int .i64 x.2.1, J h2, .int .i64 x.2.2.2.1.1, .int .i64 x.2.2.2.1.2.1, .int .i64 x.2.2.2.1.2.2, J h6, J h7, J h8, J h9, J h10, J h11, J h12, J h13, .string x.2.2.2.2.2.2.2.2.2.2.2.2.1, .string x.2.2.2.2.2.2.2.2.2.2.2.2.2] 33))) := by unfold Hid; go_grown
 obtain ⟨b0, e0⟩ : ∃ b : Bool, (emptyL x.2.2.1 && emptyL x.2.2.2.2.1 && emptyL x.2.2.2.2.2.1 && emptyL x.2.2.2.2.2.2.1 && emptyL x.2.2.2.2.2.2.2.1 && emptyL x.2.2.2.2.2.2.2.2.1 && emptyL x.2.2.2.2.2.2.2.2.2.1 && emptyL x.2.2.2.2.2.2.2.2.2.2.1 && emptyL x.2.2.2.2.2.2.2.2.2.2.2.1) = b := ⟨_, rfl⟩
 obtain ⟨b1, e1⟩ : ∃ b : Bool, sNil x.1 = b := ⟨_, rfl⟩
 obtain ⟨b2, e2⟩ : ∃ b : Bool, (x.2.1 == 0) = b := ⟨_, rfl⟩
 obtain ⟨b3, e3⟩ : ∃ b : Bool, resZ x.2.2.2.1 = b := ⟨_, rfl⟩
 obtain ⟨b4, e4⟩ : ∃ b : Bool, sNil x.2.2.2.2.2.2.2.2.2.2.2.2.1 = b := ⟨_, rfl⟩
 obtain ⟨b5, e5⟩ : ∃ b : Bool, sNil x.2.2.2.2.2.2.2.2.2.2.2.2.2 = b := ⟨_, rfl⟩
 have HF : Hid (blankPod x = (b0 && b1 && b2 && b3 && b4 && b5)) := by rw [Hid, ← e0, ← e1, ← e2, ← e3, ← e4, ← e5]; rfl
 have t0 : ((h2.2.1 : Int) + (h6.2.1 : Int) + (h7.2.1 : Int) + (h8.2.1 : Int) + (h9.2.1 : Int) + (h10.2.1 : Int) + (h11.2.1 : Int) + (h12.2.1 : Int) + (h13.2.1 : Int) == 0) = b0 := by rw [← e0]; simp only [emptyL, H2.out.1, H6.out.1, H7.out.1, H8.out.1, H9.out.1, H10.out.1, H11.out.1, H12.out.1, H13.out.1]; rw [Bool.eq_iff_iff]; simp; omega
 clear e0
 have t1 : x.1.toList.isEmpty = b1 := by exact e1
 clear e1
 have t2 : (x.2.1 == 0) = b2 := by exact e2
 clear e2
 have t3 : resZ x.2.2.2.1 = b3 := by exact e3
 clear e3
 have t4 : x.2.2.2.2.2.2.2.2.2.2.2.2.1.toList.isEmpty = b4 := by exact e4
 clear e4
 have t5 : x.2.2.2.2.2.2.2.2.2.2.2.2.2.toList.isEmpty = b5 := by exact e5
 clear e5
 have hE := eqR0 x.2.2.2.1
 have hG := guardR
 cases b0
 ·
  go_enter func94, ntmps94
  go_wp2_with fail
  go_ret
  exact ⟨retb (by rw [HF.out] <;> simp), HB.out⟩
 cases b1
 ·
  go_enter func94, ntmps94
  go_wp2_with fail
  go_ret
  exact ⟨retb (by rw [HF.out] <;> simp), HB.out⟩
 cases b2
 ·
  go_enter func94, ntmps94
  go_wp2_with fail
  go_ret
  exact ⟨retb (by rw [HF.out] <;> simp), HB.out⟩
 cases b3
 ·
  go_enter func94, ntmps94
  go_wp2_with fail
  go_ret
  exact ⟨retb (by rw [HF.out] <;> simp), HB.out⟩
 cases b4
 ·
  go_enter func94, ntmps94
  go_wp2_with fail
  go_ret
  exact ⟨retb (by rw [HF.out] <;> simp), HB.out⟩
 cases b5
 ·
  go_enter func94, ntmps94
  go_wp2_with fail
  go_ret
  exact ⟨retb (by rw [HF.out] <;> simp), HB.out⟩
 go_enter func94, ntmps94
 go_wp2_with fail
 go_ret
 exact ⟨retb (by rw [HF.out] <;> simp), HB.out⟩
end Go.Proofs.YtfbnnfpnjjjfcaaGreat

