/- The document's pods that are right, and its like. No condition beyond what each says. -/
import Derived.Test.YtfbnnfpnjjjfcaaGreatS26
namespace Go.Proofs.YtfbnnfpnjjjfcaaGreat
set_option maxHeartbeats 16000000
set_option maxRecDepth 100000
open Tryz Go.RowKit
set_option linter.unusedSimpArgs false
def itQ {α : Type} [Inhabited α] (p : α → Bool) (lt : α → α → Bool) (L : List α) (k : Nat) : Bool := p (L.getD k default) && (decide (k = 0) || lt (L.getD (k - 1) default) (L.getD k default))
theorem itQ_bad {α : Type} [Inhabited α] {p : α → Bool} {lt : α → α → Bool} {L : List α} {k : Nat} (hk : k < L.length) (h : itQ p lt L k = false) : (itemsB p L && risesBy lt id L) = false := by
 rw [itQ, Bool.and_eq_false_iff] at h
 rcases h with h | h
 ·
  rw [itemsB, all_bad p hk h, Bool.and_false, Bool.false_and]
 ·
  rw [risesBy, allTo_false hk h, Bool.and_false]
theorem itQ_ok {α : Type} [Inhabited α] {p : α → Bool} {lt : α → α → Bool} {L : List α} (h : ∀ j, j < L.length → itQ p lt L j = true) (hl : L.length ≤ 64) : (itemsB p L && risesBy lt id L) = true := by
 have h1 : ∀ j, j < L.length → p (L.getD j default) = true := fun j hj => by have := h j hj; rw [itQ, Bool.and_eq_true] at this; exact this.1
 have h2 : ∀ j, j < L.length → (decide (j = 0) || lt (id (L.getD (j - 1) default)) (id (L.getD j default))) = true := fun j hj => by have := h j hj; rw [itQ, Bool.and_eq_true] at this; exact this.2
 rw [itemsB, all_to p h1, risesBy, allTo_true h2]
 simp [hl]
theorem prev_of {n k : Nat} (hlt : k < n) (hn : n ≤ 140737488351232) : (Hid (k = 0) ∧ decide (0 < k) = false) ∨ (Hid (0 < k) ∧ decide (0 < k) = true ∧ ∃ m : Nat, Hid (k = m + 1) ∧ IntKind.i64.wrap ((k : Int) - 1) = (m : Int) ∧ m < n) := by
 rcases Nat.eq_zero_or_pos k with h0 | h0
 ·
  exact .inl ⟨h0, by simp; omega⟩
 ·
  refine .inr ⟨h0, by simp; omega, k - 1, by unfold Hid; omega, ?_, by omega⟩
  obtain ⟨m, rfl⟩ : ∃ m, k = m + 1 := ⟨k - 1, by omega⟩
  simp only [Int.natCast_add, Int.cast_ofNat_Int, Int.add_sub_cancel, Nat.add_sub_cancel]
  simp [IntKind.wrap, IntKind.bits, IntKind.signed]; omega
theorem rPort_as (n : Int) (b : Bool) (h : portB n = b) (w : World) : Calls prog 54 #[.int .i64 n, .int .i64 1, .int .i64 65535] w fun e w' => e = .returned (.bool b) ∧ w' = w := h ▸ rWithin_calls n 1 65535 w
theorem rPod_right (c : List Value) (A : Where) (x : PodD) (w : World) (h : Hid (RPod A w c x)) : Calls prog 35 #[.agg c.toArray] w fun e w' => e = .returned (.bool (rightPod x)) ∧ Below w.heap.size w w' := by
 obtain ⟨nm, pri, lab, ⟨wa, wb, wc⟩, brs, ask, prf, prt, nea, apa, spr, clm, nod, hop⟩ := x
 obtain ⟨⟨a2, n2, m2⟩, ⟨a6, n6, m6⟩, ⟨a7, n7, m7⟩, ⟨a8, n8, m8⟩, ⟨a9, n9, m9⟩, ⟨a10, n10, m10⟩, ⟨a11, n11, m11⟩, ⟨a12, n12, m12⟩, ⟨a13, n13, m13⟩, rfl, z0, s2, s6, s7, s8, s9, s10, s11, s12, s13, z1, z2⟩ := h.out.out
 simp only at z0 z1 z2 s2 s6 s7 s8 s9 s10 s11 s12 s13 ⊢
 clear h
 have S2 : Hid (SlAt RLabel 2 32 A w a2 n2 m2 lab) := s2
 have S6 : Hid (SlAt RBear 4 48 A w a6 n6 m6 brs) := s6
 have S7 : Hid (SlAt RReq 3 48 A w a7 n7 m7 ask) := s7
 have S8 : Hid (SlAt RPrefer 2 32 A w a8 n8 m8 prf) := s8
 have S9 : Hid (SlAt RInt 1 8 A w a9 n9 m9 prt) := s9
 have S10 : Hid (SlAt RTerm 2 40 A w a10 n10 m10 nea) := s10
 have S11 : Hid (SlAt RTerm 2 40 A w a11 n11 m11 apa) := s11
 have S12 : Hid (SlAt RSpread 4 56 A w a12 n12 m12 spr) := s12
 have S13 : Hid (SlAt RStr 1 16 A w a13 n13 m13 clm) := s13
 generalize hR : rightPod (nm, pri, lab, (wa, wb, wc), brs, ask, prf, prt, nea, apa, spr, clm, nod, hop) = RES
 obtain ⟨b0, e_b0⟩ : ∃ b : Bool, wordB nm = b := ⟨_, rfl⟩
 obtain ⟨b1, e_b1⟩ : ∃ b : Bool, withinB pri (-1073741824) 1073741824 = b := ⟨_, rfl⟩
 obtain ⟨b3, e_b3⟩ : ∃ b : Bool, reqsB ask = b := ⟨_, rfl⟩
 obtain ⟨b5, e_b5⟩ : ∃ b : Bool, resB (wa, wb, wc) = b := ⟨_, rfl⟩
 obtain ⟨b9, e_b9⟩ : ∃ b : Bool, itemsB termB nea = b := ⟨_, rfl⟩
 obtain ⟨b10, e_b10⟩ : ∃ b : Bool, itemsB termB apa = b := ⟨_, rfl⟩
 obtain ⟨b14, e_b14⟩ : ∃ b : Bool, nameNone nod = b := ⟨_, rfl⟩
 obtain ⟨b15, e_b15⟩ : ∃ b : Bool, nameNone hop = b := ⟨_, rfl⟩
 obtain ⟨b6, e_b6⟩ : ∃ b : Bool, itemsB preferB prf = b := ⟨_, rfl⟩
 obtain ⟨bp, e_bp⟩ : ∃ b : Bool, (itemsB portB prt && risesBy iLt id prt) = b := ⟨_, rfl⟩
 obtain ⟨b11, e_b11⟩ : ∃ b : Bool, itemsB spreadB spr = b := ⟨_, rfl⟩
 obtain ⟨bc, e_bc⟩ : ∃ b : Bool, (itemsB wordB clm && risesBy sLt id clm) = b := ⟨_, rfl⟩
 obtain ⟨c2, e_c2⟩ : ∃ n : Int, checkI lab = n := ⟨_, rfl⟩
 obtain ⟨b2, e_b2⟩ : ∃ b : Bool, (c2 == 0) = b := ⟨_, rfl⟩
 have k_b2 : (c2 != 0) = !b2 := by rw [← e_b2]; rfl
 obtain ⟨c4, e_c4⟩ : ∃ n : Int, Tn.checkBr brs = n := ⟨_, rfl⟩
 obtain ⟨b4, e_b4⟩ : ∃ b : Bool, (c4 == 0) = b := ⟨_, rfl⟩
 have k_b4 : (c4 != 0) = !b4 := by rw [← e_b4]; rfl
 have HF : Hid (RES = (b0 && b1 && b2 && b3 && b4 && b5 && b9 && b10 && b14 && b15 && b6 && bp && b11 && bc)) := by
  rw [Hid, ← hR, rightPod, ← e_b0, ← e_b1, ← e_b3, ← e_b5, ← e_b9, ← e_b10, ← e_b14, ← e_b15, ← e_b6, ← e_bp, ← e_b11, ← e_bc, ← e_b2, ← e_c2, ← e_b4, ← e_c4]
  dsimp only
  ac_rfl
 clear hR e_b2 e_b4
 have HL6 : Hid ((64 : Int) < (n8 : Int) → b6 = false) := fun h => by rw [← e_b6, itemsB, s8.1]; simp; omega
 have HB6 : Hid (∀ k, k < n8 → preferB (prf.getD k default) = false → b6 = false) := fun k hk h => by rw [← e_b6, itemsB, all_bad preferB (by rw [s8.1]; exact hk) h, Bool.and_false]
 have HG6 : Hid ((n8 : Int) ≤ 64 → (∀ j, j < n8 → preferB (prf.getD j default) = true) → b6 = true) := fun h hj => by rw [← e_b6, itemsB, all_to preferB (fun j h1 => hj j (by rw [← s8.1]; exact h1)), s8.1]; simp; omega
 have HL11 : Hid ((64 : Int) < (n12 : Int) → b11 = false) := fun h => by rw [← e_b11, itemsB, s12.1]; simp; omega
 have HB11 : Hid (∀ k, k < n12 → spreadB (spr.getD k default) = false → b11 = false) := fun k hk h => by rw [← e_b11, itemsB, all_bad spreadB (by rw [s12.1]; exact hk) h, Bool.and_false]
 have HG11 : Hid ((n12 : Int) ≤ 64 → (∀ j, j < n12 → spreadB (spr.getD j default) = true) → b11 = true) := fun h hj => by rw [← e_b11, itemsB, all_to spreadB (fun j h1 => hj j (by rw [← s12.1]; exact h1)), s12.1]; simp; omega
 have HLbp : Hid ((64 : Int) < (n9 : Int) → bp = false) := fun h => by rw [← e_bp, itemsB, s9.1]; simp; omega
 have HBbp : Hid (∀ k, k < n9 → itQ portB iLt prt k = false → bp = false) := fun k hk h => by rw [← e_bp]; exact itQ_bad (by rw [s9.1]; exact hk) h
 have HGbp : Hid ((n9 : Int) ≤ 64 → (∀ j, j < n9 → itQ portB iLt prt j = true) → bp = true) := fun h hj => by rw [← e_bp]; exact itQ_ok (fun j h1 => hj j (by rw [← s9.1]; exact h1)) (by rw [s9.1]; omega)
 have HLbc : Hid ((64 : Int) < (n13 : Int) → bc = false) := fun h => by rw [← e_bc, itemsB, s13.1]; simp; omega
 have HBbc : Hid (∀ k, k < n13 → itQ wordB sLt clm k = false → bc = false) := fun k hk h => by rw [← e_bc]; exact itQ_bad (by rw [s13.1]; exact hk) h
 have HGbc : Hid ((n13 : Int) ≤ 64 → (∀ j, j < n13 → itQ wordB sLt clm j = true) → bc = true) := fun h hj => by rw [← e_bc]; exact itQ_ok (fun j h1 => hj j (by rw [← s13.1]; exact h1)) (by rw [s13.1]; omega)
 clear e_b6 e_bp e_b11 e_bc
 have Cb0 : Hid (∀ u, Below w.heap.size w u → Calls prog 39 #[.string nm] u fun e w' => e = .returned (.bool b0) ∧ Below u.heap.size u w') := fun u hu => by rw [← e_b0]; exact calls_same (rWord_calls nm z0 _)
 clear e_b0
 have Cb1 : Hid (∀ u, Below w.heap.size w u → Calls prog 54 #[.int .i64 pri, .int .i64 (-1073741824), .int .i64 1073741824] u fun e w' => e = .returned (.bool b1) ∧ Below u.heap.size u w') := fun u hu => by rw [← e_b1]; exact calls_same (rWithin_calls pri (-1073741824) 1073741824 _)
 clear e_b1
 have Cb2 : Hid (∀ u, Below w.heap.size w u → Calls prog 55 #[.slice a2 n2 m2] u fun e w' => e = .returned (.int .i64 c2) ∧ Below u.heap.size u w') := fun u hu => by rw [← e_c2]; exact rlabC _ _ _ A lab _ (S2.out.kept RLabel.firm (Kept.below hu))
 clear e_c2
 have Cb3 : Hid (∀ u, Below w.heap.size w u → Calls prog 56 #[.slice a7 n7 m7] u fun e w' => e = .returned (.bool b3) ∧ Below u.heap.size u w') := fun u hu => by rw [← e_b3]; exact rReqs_calls _ _ _ A ask _ (S7.out.kept RReq.firm (Kept.below hu))
 clear e_b3
 have Cb4 : Hid (∀ u, Below w.heap.size w u → Calls prog 57 #[.slice a6 n6 m6] u fun e w' => e = .returned (.int .i64 c4) ∧ Below u.heap.size u w') := fun u hu => by rw [← e_c4]; exact rbrC _ _ _ A brs _ (S6.out.kept RBear.firm (Kept.below hu))
 clear e_c4
 have Cb5 : Hid (∀ u, Below w.heap.size w u → Calls prog 58 #[.agg #[.int .i64 wa, .int .i64 wb, .int .i64 wc]] u fun e w' => e = .returned (.bool b5) ∧ Below u.heap.size u w') := fun u hu => by rw [← e_b5]; exact rRes_calls (wa, wb, wc) _
 clear e_b5
 have Cb9 : Hid (∀ u, Below w.heap.size w u → Calls prog 59 #[.slice a10 n10 m10] u fun e w' => e = .returned (.bool b9) ∧ Below u.heap.size u w') := fun u hu => by rw [← e_b9]; exact rTerms_calls _ _ _ A nea _ (S10.out.kept RTerm.firm (Kept.below hu))
 clear e_b9
 have Cb10 : Hid (∀ u, Below w.heap.size w u → Calls prog 59 #[.slice a11 n11 m11] u fun e w' => e = .returned (.bool b10) ∧ Below u.heap.size u w') := fun u hu => by rw [← e_b10]; exact rTerms_calls _ _ _ A apa _ (S11.out.kept RTerm.firm (Kept.below hu))
 clear e_b10
 have Cb14 : Hid (∀ u, Below w.heap.size w u → Calls prog 60 #[.string nod] u fun e w' => e = .returned (.bool b14) ∧ Below u.heap.size u w') := fun u hu => by rw [← e_b14]; exact calls_same (rSome_calls nod z1 _)
 clear e_b14
 have Cb15 : Hid (∀ u, Below w.heap.size w u → Calls prog 60 #[.string hop] u fun e w' => e = .returned (.bool b15) ∧ Below u.heap.size u w') := fun u hu => by rw [← e_b15]; exact calls_same (rSome_calls hop z2 _)
 clear e_b15
 clear s2 s6 s7 s8 s9 s10 s11 s12 s13 z0 z1 z2 S2 S6 S7 S10 S11
 have HH0 : Hid (Held w [(w.heap.size, [.string nm, .int .i64 pri, .slice a2 n2 m2, .int .i64 wa, .int .i64 wb, .int .i64 wc, .slice a6 n6 m6, .slice a7 n7 m7, .slice a8 n8 m8, .slice a9 n9 m9, .slice a10 n10 m10, .slice a11 n11 m11, .slice a12 n12 m12, .slice a13 n13 m13, .string nod, .string hop])] [] (w.alloc (.cells #[.string nm, .int .i64 pri, .slice a2 n2 m2, .int .i64 wa, .int .i64 wb, .int .i64 wc, .slice a6 n6 m6, .slice a7 n7 m7, .slice a8 n8 m8, .slice a9 n9 m9, .slice a10 n10 m10, .slice a11 n11 m11, .slice a12 n12 m12, .slice a13 n13 m13, .string nod, .string hop] 33))) := (Held.start w).push rfl [.string nm, .int .i64 pri, .slice a2 n2 m2, .int .i64 wa, .int .i64 wb, .int .i64 wc, .slice a6 n6 m6, .slice a7 n7 m7, .slice a8 n8 m8, .slice a9 n9 m9, .slice a10 n10 m10, .slice a11 n11 m11, .slice a12 n12 m12, .slice a13 n13 m13, .string nod, .string hop] 33
 go_enter func35, ntmps35
 go_wp2_with fail
 refine (Cb0.out _ HH0.out.below).mono ?_
 rintro e u1 ⟨rfl, hb⟩
 have HH1 : Hid (Held w [(w.heap.size, [.string nm, .int .i64 pri, .slice a2 n2 m2, .int .i64 wa, .int .i64 wb, .int .i64 wc, .slice a6 n6 m6, .slice a7 n7 m7, .slice a8 n8 m8, .slice a9 n9 m9, .slice a10 n10 m10, .slice a11 n11 m11, .slice a12 n12 m12, .slice a13 n13 m13, .string nod, .string hop])] [] u1) := HH0.out.on hb
 clear hb HH0 Cb0
 cases b0
 ·
  clear Cb1 Cb2 Cb3 Cb4 Cb5 Cb9 Cb10 Cb14 Cb15 HL6 HB6 HG6 HL11 HB11 HG11 HLbp HBbp HGbp HLbc HBbc HGbc S8 S9 S12 S13
  go_wp2_with fail
  go_ret
  exact ⟨retb (by rw [HF.out] <;> simp), HH1.out.below⟩
 have k1 := HH1.out.cell 0 (b := w.heap.size) rfl 1 rfl
 have kl := HH1.out.lt 0 rfl
 go_wp2_with fail
 clear kl k1
 refine (Cb1.out _ HH1.out.below).mono ?_
 rintro e u2 ⟨rfl, hb⟩
 have HH2 : Hid (Held w [(w.heap.size, [.string nm, .int .i64 pri, .slice a2 n2 m2, .int .i64 wa, .int .i64 wb, .int .i64 wc, .slice a6 n6 m6, .slice a7 n7 m7, .slice a8 n8 m8, .slice a9 n9 m9, .slice a10 n10 m10, .slice a11 n11 m11, .slice a12 n12 m12, .slice a13 n13 m13, .string nod, .string hop])] [] u2) := HH1.out.on hb
 clear hb HH1 Cb1
 cases b1
 ·
  clear Cb2 Cb3 Cb4 Cb5 Cb9 Cb10 Cb14 Cb15 HL6 HB6 HG6 HL11 HB11 HG11 HLbp HBbp HGbp HLbc HBbc HGbc S8 S9 S12 S13
  go_wp2_with fail
  go_ret
  exact ⟨retb (by rw [HF.out] <;> simp), HH2.out.below⟩
 have k2 := HH2.out.cell 0 (b := w.heap.size) rfl 2 rfl
 have kl := HH2.out.lt 0 rfl
 go_wp2_with fail
 clear kl k2
 refine (Cb2.out _ HH2.out.below).mono ?_
 rintro e u3 ⟨rfl, hb⟩
 have HH3 : Hid (Held w [(w.heap.size, [.string nm, .int .i64 pri, .slice a2 n2 m2, .int .i64 wa, .int .i64 wb, .int .i64 wc, .slice a6 n6 m6, .slice a7 n7 m7, .slice a8 n8 m8, .slice a9 n9 m9, .slice a10 n10 m10, .slice a11 n11 m11, .slice a12 n12 m12, .slice a13 n13 m13, .string nod, .string hop])] [] u3) := HH2.out.on hb
 clear hb HH2 Cb2
 cases b2 <;> simp only [Bool.not_false, Bool.not_true] at k_b2
 ·
  clear Cb3 Cb4 Cb5 Cb9 Cb10 Cb14 Cb15 HL6 HB6 HG6 HL11 HB11 HG11 HLbp HBbp HGbp HLbc HBbc HGbc S8 S9 S12 S13
  go_wp2_with fail
  go_ret
  exact ⟨retb (by rw [HF.out] <;> simp), HH3.out.below⟩
 have k7 := HH3.out.cell 0 (b := w.heap.size) rfl 7 rfl
 have kl := HH3.out.lt 0 rfl
 go_wp2_with fail
 clear kl k7 k_b2
 refine (Cb3.out _ HH3.out.below).mono ?_
 rintro e u4 ⟨rfl, hb⟩
 have HH4 : Hid (Held w [(w.heap.size, [.string nm, .int .i64 pri, .slice a2 n2 m2, .int .i64 wa, .int .i64 wb, .int .i64 wc, .slice a6 n6 m6, .slice a7 n7 m7, .slice a8 n8 m8, .slice a9 n9 m9, .slice a10 n10 m10, .slice a11 n11 m11, .slice a12 n12 m12, .slice a13 n13 m13, .string nod, .string hop])] [] u4) := HH3.out.on hb
 clear hb HH3 Cb3
 cases b3
 ·
  clear Cb4 Cb5 Cb9 Cb10 Cb14 Cb15 HL6 HB6 HG6 HL11 HB11 HG11 HLbp HBbp HGbp HLbc HBbc HGbc S8 S9 S12 S13
  go_wp2_with fail
  go_ret
  exact ⟨retb (by rw [HF.out] <;> simp), HH4.out.below⟩
 have k6 := HH4.out.cell 0 (b := w.heap.size) rfl 6 rfl
 have kl := HH4.out.lt 0 rfl
 go_wp2_with fail
 clear kl k6
 refine (Cb4.out _ HH4.out.below).mono ?_
 rintro e u5 ⟨rfl, hb⟩
 have HH5 : Hid (Held w [(w.heap.size, [.string nm, .int .i64 pri, .slice a2 n2 m2, .int .i64 wa, .int .i64 wb, .int .i64 wc, .slice a6 n6 m6, .slice a7 n7 m7, .slice a8 n8 m8, .slice a9 n9 m9, .slice a10 n10 m10, .slice a11 n11 m11, .slice a12 n12 m12, .slice a13 n13 m13, .string nod, .string hop])] [] u5) := HH4.out.on hb
 clear hb HH4 Cb4
 cases b4 <;> simp only [Bool.not_false, Bool.not_true] at k_b4
 ·
  clear Cb5 Cb9 Cb10 Cb14 Cb15 HL6 HB6 HG6 HL11 HB11 HG11 HLbp HBbp HGbp HLbc HBbc HGbc S8 S9 S12 S13
  go_wp2_with fail
  go_ret
  exact ⟨retb (by rw [HF.out] <;> simp), HH5.out.below⟩
 have k3 := HH5.out.cell 0 (b := w.heap.size) rfl 3 rfl
 have k4 := HH5.out.cell 0 (b := w.heap.size) rfl 4 rfl
 have k5 := HH5.out.cell 0 (b := w.heap.size) rfl 5 rfl
 have kl := HH5.out.lt 0 rfl
 go_wp2_with fail
 clear kl k3 k4 k5 k_b4
 refine (Cb5.out _ HH5.out.below).mono ?_
 rintro e u6 ⟨rfl, hb⟩
 have HH6 : Hid (Held w [(w.heap.size, [.string nm, .int .i64 pri, .slice a2 n2 m2, .int .i64 wa, .int .i64 wb, .int .i64 wc, .slice a6 n6 m6, .slice a7 n7 m7, .slice a8 n8 m8, .slice a9 n9 m9, .slice a10 n10 m10, .slice a11 n11 m11, .slice a12 n12 m12, .slice a13 n13 m13, .string nod, .string hop])] [] u6) := HH5.out.on hb
 clear hb HH5 Cb5
 cases b5
 ·
  clear Cb9 Cb10 Cb14 Cb15 HL6 HB6 HG6 HL11 HB11 HG11 HLbp HBbp HGbp HLbc HBbc HGbc S8 S9 S12 S13
  go_wp2_with fail
  go_ret
  exact ⟨retb (by rw [HF.out] <;> simp), HH6.out.below⟩
 have k10 := HH6.out.cell 0 (b := w.heap.size) rfl 10 rfl
 have kl := HH6.out.lt 0 rfl
 go_wp2_with fail
 clear kl k10
 refine (Cb9.out _ HH6.out.below).mono ?_
 rintro e u7 ⟨rfl, hb⟩
 have HH7 : Hid (Held w [(w.heap.size, [.string nm, .int .i64 pri, .slice a2 n2 m2, .int .i64 wa, .int .i64 wb, .int .i64 wc, .slice a6 n6 m6, .slice a7 n7 m7, .slice a8 n8 m8, .slice a9 n9 m9, .slice a10 n10 m10, .slice a11 n11 m11, .slice a12 n12 m12, .slice a13 n13 m13, .string nod, .string hop])] [] u7) := HH6.out.on hb
 clear hb HH6 Cb9
 cases b9
 ·
  clear Cb10 Cb14 Cb15 HL6 HB6 HG6 HL11 HB11 HG11 HLbp HBbp HGbp HLbc HBbc HGbc S8 S9 S12 S13
  go_wp2_with fail
  go_ret
  exact ⟨retb (by rw [HF.out] <;> simp), HH7.out.below⟩
 have k11 := HH7.out.cell 0 (b := w.heap.size) rfl 11 rfl
 have kl := HH7.out.lt 0 rfl
 go_wp2_with fail
 clear kl k11
 refine (Cb10.out _ HH7.out.below).mono ?_
 rintro e u8 ⟨rfl, hb⟩
 have HH8 : Hid (Held w [(w.heap.size, [.string nm, .int .i64 pri, .slice a2 n2 m2, .int .i64 wa, .int .i64 wb, .int .i64 wc, .slice a6 n6 m6, .slice a7 n7 m7, .slice a8 n8 m8, .slice a9 n9 m9, .slice a10 n10 m10, .slice a11 n11 m11, .slice a12 n12 m12, .slice a13 n13 m13, .string nod, .string hop])] [] u8) := HH7.out.on hb
 clear hb HH7 Cb10
 cases b10
 ·
  clear Cb14 Cb15 HL6 HB6 HG6 HL11 HB11 HG11 HLbp HBbp HGbp HLbc HBbc HGbc S8 S9 S12 S13
  go_wp2_with fail
  go_ret
  exact ⟨retb (by rw [HF.out] <;> simp), HH8.out.below⟩
 have k14 := HH8.out.cell 0 (b := w.heap.size) rfl 14 rfl
 have kl := HH8.out.lt 0 rfl
 go_wp2_with fail
 clear kl k14
 refine (Cb14.out _ HH8.out.below).mono ?_
 rintro e u9 ⟨rfl, hb⟩
 have HH9 : Hid (Held w [(w.heap.size, [.string nm, .int .i64 pri, .slice a2 n2 m2, .int .i64 wa, .int .i64 wb, .int .i64 wc, .slice a6 n6 m6, .slice a7 n7 m7, .slice a8 n8 m8, .slice a9 n9 m9, .slice a10 n10 m10, .slice a11 n11 m11, .slice a12 n12 m12, .slice a13 n13 m13, .string nod, .string hop])] [] u9) := HH8.out.on hb
 clear hb HH8 Cb14
 cases b14
 ·
  clear Cb15 HL6 HB6 HG6 HL11 HB11 HG11 HLbp HBbp HGbp HLbc HBbc HGbc S8 S9 S12 S13
  go_wp2_with fail
  go_ret
  exact ⟨retb (by rw [HF.out] <;> simp), HH9.out.below⟩
 have k15 := HH9.out.cell 0 (b := w.heap.size) rfl 15 rfl
 have kl := HH9.out.lt 0 rfl
 go_wp2_with fail
 clear kl k15
 refine (Cb15.out _ HH9.out.below).mono ?_
 rintro e u10 ⟨rfl, hb⟩
 have HH10 : Hid (Held w [(w.heap.size, [.string nm, .int .i64 pri, .slice a2 n2 m2, .int .i64 wa, .int .i64 wb, .int .i64 wc, .slice a6 n6 m6, .slice a7 n7 m7, .slice a8 n8 m8, .slice a9 n9 m9, .slice a10 n10 m10, .slice a11 n11 m11, .slice a12 n12 m12, .slice a13 n13 m13, .string nod, .string hop])] [] u10) := HH9.out.on hb
 clear hb HH9 Cb15
 cases b15
 ·
  clear  HL6 HB6 HG6 HL11 HB11 HG11 HLbp HBbp HGbp HLbc HBbc HGbc S8 S9 S12 S13
  go_wp2_with fail
  go_ret
  exact ⟨retb (by rw [HF.out] <;> simp), HH10.out.below⟩
 have k8 := HH10.out.cell 0 (b := w.heap.size) rfl 8 rfl
 have k9 := HH10.out.cell 0 (b := w.heap.size) rfl 9 rfl
 have k12 := HH10.out.cell 0 (b := w.heap.size) rfl 12 rfl
 have k13 := HH10.out.cell 0 (b := w.heap.size) rfl 13 rfl
 have kl := HH10.out.lt 0 rfl
 by_cases q8 : (64 : Int) < (n8 : Int)
 ·
  obtain rfl : b6 = false := HL6.out q8
  clear HL6 HB6 HG6 HL11 HB11 HG11 HLbp HBbp HGbp HLbc HBbc HGbc S8 S9 S12 S13
  go_wp2_with fail
  go_ret
  exact ⟨retb (by rw [HF.out] <;> simp), HH10.out.below⟩
 by_cases q9 : (64 : Int) < (n9 : Int)
 ·
  obtain rfl : bp = false := HLbp.out q9
  clear HL6 HB6 HG6 HL11 HB11 HG11 HLbp HBbp HGbp HLbc HBbc HGbc S8 S9 S12 S13
  go_wp2_with fail
  go_ret
  exact ⟨retb (by rw [HF.out] <;> simp), HH10.out.below⟩
 by_cases q12 : (64 : Int) < (n12 : Int)
 ·
  obtain rfl : b11 = false := HL11.out q12
  clear HL6 HB6 HG6 HL11 HB11 HG11 HLbp HBbp HGbp HLbc HBbc HGbc S8 S9 S12 S13
  go_wp2_with fail
  go_ret
  exact ⟨retb (by rw [HF.out] <;> simp), HH10.out.below⟩
 by_cases q13 : (64 : Int) < (n13 : Int)
 ·
  obtain rfl : bc = false := HLbc.out q13
  clear HL6 HB6 HG6 HL11 HB11 HG11 HLbp HBbp HGbp HLbc HBbc HGbc S8 S9 S12 S13
  go_wp2_with fail
  go_ret
  exact ⟨retb (by rw [HF.out] <;> simp), HH10.out.below⟩
 clear HL6 HL11 HLbp HLbc
 go_wp2_with fail
 clear k8 k9 k12 k13 kl
 have HQ8 : Hid ((n8 : Int) ≤ 64) := by rw [Hid]; omega
 have HQ9 : Hid ((n9 : Int) ≤ 64) := by rw [Hid]; omega
 have HQ12 : Hid ((n12 : Int) ≤ 64) := by rw [Hid]; omega
 have HQ13 : Hid ((n13 : Int) ≤ 64) := by rw [Hid]; omega
 clear q8 q9 q12 q13
 have hl8 := S8.out.len (by decide)
 go_loopw [3] (fun i wr => ∃ k : Nat, k ≤ n8 ∧ i = .int .i64 k ∧ Hid (Held w [(w.heap.size, [.string nm, .int .i64 pri, .slice a2 n2 m2, .int .i64 wa, .int .i64 wb, .int .i64 wc, .slice a6 n6 m6, .slice a7 n7 m7, .slice a8 n8 m8, .slice a9 n9 m9, .slice a10 n10 m10, .slice a11 n11 m11, .slice a12 n12 m12, .slice a13 n13 m13, .string nod, .string hop])] [] wr) ∧ Hid (∀ j, j < k → preferB (prf.getD j default) = true)) (fun i _ => n8 - (intOf i).toNat)
 case atStart => exact ⟨0, Nat.zero_le _, rfl, HH10, fun j hj => absurd hj (Nat.not_lt_zero _)⟩
 case round =>
  obtain ⟨k, hk, rfl, hH, hall⟩ := hrel
  have k8 := hH.out.cell 0 (b := w.heap.size) rfl 8 rfl
  have kl := hH.out.lt 0 rfl
  by_cases hlt : k < n8
  ·
   have hltz : (k : Int) < (n8 : Int) := by omega
   obtain ⟨B, off, rfl, hB, _, cs, hr, hv⟩ := (S8.out.on RPrefer.firm hH.out.below).get hlt
   clear HB11 HG11 HBbp HGbp HBbc HGbc S9 S12 S13 HQ9 HQ12 HQ13
   obtain ⟨h0, rfl, hs⟩ := hr.out
   have d0 := hv 0 _ rfl
   have d1 := hv 1 _ rfl
   rw [Nat.add_zero] at d0
   have HS : Hid (SlAt RReq 3 48 A wr h0.1 h0.2.1 h0.2.2 (prf.getD k default).1) := hs
   have hbad : Hid (preferB (prf.getD k default) = false → b6 = false) := fun h => HB6.out k hlt h
   have hgo : Hid (preferB (prf.getD k default) = true → ∀ j, j < k + 1 → preferB (prf.getD j default) = true) := fun h => go_on hall.out h
   clear hall hr hs hv HB6 HG6
   generalize prf.getD k default = r at d0 d1 HS hbad hgo
   have HM : Hid (∀ u, Below wr.heap.size wr u → Calls prog 56 #[J h0] u fun e w' => e = .returned (.bool (reqsB r.1)) ∧ Below u.heap.size u w') := fun u hu => rReqs_calls _ _ _ A _ u (HS.out.on RReq.firm hu)
   have HW : Hid (∀ u, Calls prog 54 #[.int .i64 r.2, .int .i64 1, .int .i64 100] u fun e w' => e = .returned (.bool (withinB r.2 1 100)) ∧ w' = u) := fun u => rWithin_calls r.2 1 100 u
   have hok : Hid (preferB r = (reqsB r.1 && withinB r.2 1 100)) := rfl
   clear HS
   generalize reqsB r.1 = q at HM hok
   generalize withinB r.2 1 100 = q2 at HW hok
   go_wp2_with fail
   refine (HM.out _ (Below.refl _ _)).mono ?_
   rintro e w1 ⟨rfl, hb1⟩
   have hH1 : Hid (Held w [(w.heap.size, [.string nm, .int .i64 pri, .slice a2 n2 m2, .int .i64 wa, .int .i64 wb, .int .i64 wc, .slice a6 n6 m6, .slice a7 n7 m7, .slice (some ⟨B, off, none⟩) n8 m8, .slice a9 n9 m9, .slice a10 n10 m10, .slice a11 n11 m11, .slice a12 n12 m12, .slice a13 n13 m13, .string nod, .string hop])] [] w1) := hH.out.on hb1
   have e1 := (hb1.cell (p := ⟨B, off + k * 2 + 1, none⟩) hB).trans d1
   have hB1 : B < w1.heap.size := Nat.lt_of_lt_of_le hB hb1.size
   clear d0 d1 k8 kl hb1 hH HM
   have k8 := hH1.out.cell 0 (b := w.heap.size) rfl 8 rfl
   have kl := hH1.out.lt 0 rfl
   cases q
   ·
    obtain rfl : b6 = false := hbad.out (by rw [hok.out]; rfl)
    clear hgo hbad hok HW
    go_wp2_with fail
    go_ret
    exact ⟨retb (by rw [HF.out] <;> simp), hH1.out.below⟩
   go_wp2_with fail
   refine (HW.out _).mono ?_
   rintro e w2 ⟨rfl, hw2⟩
   subst hw2
   cases q2
   ·
    obtain rfl : b6 = false := hbad.out (by rw [hok.out]; rfl)
    clear hgo hbad hok HW
    go_wp2_with fail
    go_ret
    exact ⟨retb (by rw [HF.out] <;> simp), hH1.out.below⟩
   have HG : Hid (∀ j, j < k + 1 → preferB (prf.getD j default) = true) := hgo.out (by rw [hok.out]; rfl)
   clear hgo hbad hok HW
   go_wp2_with fail
   go_roundw
   case rel => exact ⟨k + 1, by omega, by go_num, hH1, HG⟩
   case measure => simp [intOf]; omega
  ·
   have hltz : ¬ ((k : Int) < (n8 : Int)) := by omega
   obtain rfl : b6 = true := HG6.out HQ8.out (fun j hj => hall.out j (by omega))
   clear hall HG6 HB6
   go_wp2_with fail
   clear k8 kl
   have hl9 := S9.out.len (by decide)
   go_loopw [4] (fun i wr => ∃ k : Nat, k ≤ n9 ∧ i = .int .i64 k ∧ Hid (Held w [(w.heap.size, [.string nm, .int .i64 pri, .slice a2 n2 m2, .int .i64 wa, .int .i64 wb, .int .i64 wc, .slice a6 n6 m6, .slice a7 n7 m7, .slice a8 n8 m8, .slice a9 n9 m9, .slice a10 n10 m10, .slice a11 n11 m11, .slice a12 n12 m12, .slice a13 n13 m13, .string nod, .string hop])] [] wr) ∧ Hid (∀ j, j < k → itQ portB iLt prt j = true)) (fun i _ => n9 - (intOf i).toNat)
   case atStart => exact ⟨0, Nat.zero_le _, rfl, hH, fun j hj => absurd hj (Nat.not_lt_zero _)⟩
   case round =>
    obtain ⟨k, hk, rfl, hH, hall⟩ := hrel
    have k9 := hH.out.cell 0 (b := w.heap.size) rfl 9 rfl
    have kl := hH.out.lt 0 rfl
    by_cases hlt : k < n9
    ·
     have hltz : (k : Int) < (n9 : Int) := by omega
     obtain ⟨B, off, rfl, hB, _, cs, hr, hv⟩ := (S9.out.on RInt.firm hH.out.below).get hlt
     clear HB11 HG11 HBbc HGbc S12 S13 HQ12 HQ13
     obtain rfl := hr
     have d0 := hv 0 _ rfl
     rw [Nat.add_zero, Nat.mul_one] at d0
     have hbad : Hid (itQ portB iLt prt k = false → bp = false) := fun h => HBbp.out k hlt h
     have hgo : Hid (itQ portB iLt prt k = true → ∀ j, j < k + 1 → itQ portB iLt prt j = true) := fun h => go_on hall.out h
     have hok : Hid (itQ portB iLt prt k = (portB (prt.getD k default) && (decide (k = 0) || iLt (prt.getD (k - 1) default) (prt.getD k default)))) := rfl
     clear hall hv HBbp HGbp
     have HK := prev_of (n := n9) (k := k) hlt (by omega)
     cases hw : portB (prt.getD k default)
     ·
      obtain rfl : bp = false := hbad.out (by rw [hok.out, hw]; rfl)
      clear hbad hgo hok HK
      generalize prt.getD k default = x at d0 hw
      go_wp2_with fail
      go_big_quiet ((go_at_call 54; exact Calls.quiet_of_same (rPort_as _ _ (by assumption) _)))
      go_wp2_with fail
      go_ret
      exact ⟨retb (by rw [HF.out] <;> simp), (hH.out.on (below_drewN (Below.refl _ _) _)).below⟩
     rcases HK with ⟨h0, b0⟩ | ⟨h0, b0, m, hm, hmw, hml⟩
     ·
      have HG : Hid (∀ j, j < k + 1 → itQ portB iLt prt j = true) := hgo.out (by rw [hok.out, hw, h0.out]; rfl)
      clear hbad hgo hok h0
      generalize prt.getD k default = x at d0 hw
      go_wp2_with fail
      go_big_quiet ((go_at_call 54; exact Calls.quiet_of_same (rPort_as _ _ (by assumption) _)))
      go_wp2_with fail
      go_roundw
      case rel => exact ⟨k + 1, by omega, by go_num, hH.out.on (below_drewN (Below.refl _ _) _), HG⟩
      case measure => simp [intOf]; omega
     obtain ⟨B', off', e', hB', _, cs, hr, hv⟩ := (S9.out.on RInt.firm hH.out.below).get hml
     obtain ⟨rfl, rfl⟩ : B = B' ∧ off = off' := by simpa using e'
     obtain rfl := hr
     have p0 := hv 0 _ rfl
     rw [Nat.add_zero, Nat.mul_one] at p0
     have hkm : k - 1 = m := by have := hm.out; omega
     have hk0 : Hid (decide (k = 0) = false) := by have := h0.out; simp [Hid]; omega
     rw [hkm] at hok
     clear hv e' hB' hkm h0
     cases hs : iLt (prt.getD m default) (prt.getD k default)
     ·
      obtain rfl : bp = false := hbad.out (by rw [hok.out, hw, hs, hk0.out]; rfl)
      have hs2 : prt.getD k default ≤ prt.getD m default := by simpa [iLt] using hs
      clear hbad hgo hok hk0 hs
      generalize prt.getD k default = x at d0 hw hs2
      generalize prt.getD m default = y at p0 hs2
      go_wp2_with fail
      go_big_quiet ((go_at_call 54; exact Calls.quiet_of_same (rPort_as _ _ (by assumption) _)))
      go_wp2_with fail
      go_ret
      exact ⟨retb (by rw [HF.out] <;> simp), (hH.out.on (below_drewN (Below.refl _ _) _)).below⟩
     ·
      have HG : Hid (∀ j, j < k + 1 → itQ portB iLt prt j = true) := hgo.out (by rw [hok.out, hw, hs, hk0.out]; rfl)
      have hs2 : ¬ prt.getD k default ≤ prt.getD m default := by simpa [iLt] using hs
      clear hbad hgo hok hk0 hs
      generalize prt.getD k default = x at d0 hw hs2
      generalize prt.getD m default = y at p0 hs2
      go_wp2_with fail
      go_big_quiet ((go_at_call 54; exact Calls.quiet_of_same (rPort_as _ _ (by assumption) _)))
      go_wp2_with fail
      go_roundw
      case rel => exact ⟨k + 1, by omega, by go_num, hH.out.on (below_drewN (Below.refl _ _) _), HG⟩
      case measure => simp [intOf]; omega
    ·
     have hltz : ¬ ((k : Int) < (n9 : Int)) := by omega
     obtain rfl : bp = true := HGbp.out HQ9.out (fun j hj => hall.out j (by omega))
     clear hall HGbp HBbp
     go_wp2_with fail
     clear k9 kl
     have hl12 := S12.out.len (by decide)
     go_loopw [5] (fun i wr => ∃ k : Nat, k ≤ n12 ∧ i = .int .i64 k ∧ Hid (Held w [(w.heap.size, [.string nm, .int .i64 pri, .slice a2 n2 m2, .int .i64 wa, .int .i64 wb, .int .i64 wc, .slice a6 n6 m6, .slice a7 n7 m7, .slice a8 n8 m8, .slice a9 n9 m9, .slice a10 n10 m10, .slice a11 n11 m11, .slice a12 n12 m12, .slice a13 n13 m13, .string nod, .string hop])] [] wr) ∧ Hid (∀ j, j < k → spreadB (spr.getD j default) = true)) (fun i _ => n12 - (intOf i).toNat)
     case atStart => exact ⟨0, Nat.zero_le _, rfl, hH, fun j hj => absurd hj (Nat.not_lt_zero _)⟩
     case round =>
      obtain ⟨k, hk, rfl, hH, hall⟩ := hrel
      have k12 := hH.out.cell 0 (b := w.heap.size) rfl 12 rfl
      have kl := hH.out.lt 0 rfl
      by_cases hlt : k < n12
      ·
       have hltz : (k : Int) < (n12 : Int) := by omega
       obtain ⟨B, off, rfl, hB, _, cs, hr, hv⟩ := (S12.out.on RSpread.firm hH.out.below).get hlt
       clear HBbc HGbc S13 HQ13
       obtain ⟨h0, rfl, hz, hs⟩ := hr.out
       have d0 := hv 0 _ rfl
       have d1 := hv 1 _ rfl
       have d2 := hv 2 _ rfl
       have d3 := hv 3 _ rfl
       rw [Nat.add_zero] at d0
       have HS : Hid (SlAt RReq 3 48 A wr h0.1 h0.2.1 h0.2.2 (spr.getD k default).2.2.2) := hs
       have HZ : Hid ((spr.getD k default).1.size ≤ 140737488355328) := hz
       have hbad : Hid (spreadB (spr.getD k default) = false → b11 = false) := fun h => HB11.out k hlt h
       have hgo : Hid (spreadB (spr.getD k default) = true → ∀ j, j < k + 1 → spreadB (spr.getD j default) = true) := fun h => go_on hall.out h
       clear hall hr hs hz hv HB11 HG11
       generalize spr.getD k default = r at d0 d1 d2 d3 HS HZ hbad hgo
       obtain ⟨r0, r1, r2, r3⟩ := r
       simp only at d0 d1 d2 d3 HS HZ
       have HM : Hid (∀ u, Below wr.heap.size wr u → Calls prog 56 #[J h0] u fun e w' => e = .returned (.bool (reqsB r3)) ∧ Below u.heap.size u w') := fun u hu => rReqs_calls _ _ _ A _ u (HS.out.on RReq.firm hu)
       have HW : Hid (∀ u, Calls prog 39 #[.string r0] u fun e w' => e = .returned (.bool (wordB r0)) ∧ w' = u) := fun u => rWord_calls r0 HZ.out u
       have HV1 : Hid (∀ u, Calls prog 54 #[.int .i64 r1, .int .i64 1, .int .i64 1000] u fun e w' => e = .returned (.bool (withinB r1 1 1000)) ∧ w' = u) := fun u => rWithin_calls r1 1 1000 u
       have HV2 : Hid (∀ u, Calls prog 54 #[.int .i64 r2, .int .i64 0, .int .i64 1000] u fun e w' => e = .returned (.bool (withinB r2 0 1000)) ∧ w' = u) := fun u => rWithin_calls r2 0 1000 u
       have hok : Hid (spreadB (r0, r1, r2, r3) = (wordB r0 && withinB r1 1 1000 && withinB r2 0 1000 && reqsB r3)) := rfl
       clear HS HZ
       generalize wordB r0 = t0 at HW hok
       generalize withinB r1 1 1000 = t1 at HV1 hok
       generalize withinB r2 0 1000 = t2 at HV2 hok
       generalize reqsB r3 = t3 at HM hok
       go_wp2_with fail
       refine (HW.out _).mono ?_
       rintro e w1 ⟨rfl, hw1⟩
       subst hw1
       cases t0
       ·
        obtain rfl : b11 = false := hbad.out (by rw [hok.out]; rfl)
        clear hgo hbad hok HW HV1 HV2 HM
        go_wp2_with fail
        go_ret
        exact ⟨retb (by rw [HF.out] <;> simp), (hH.out.on (by go_grown)).below⟩
       go_wp2_with fail
       refine (HV1.out _).mono ?_
       rintro e w2 ⟨rfl, hw2⟩
       subst hw2
       cases t1
       ·
        obtain rfl : b11 = false := hbad.out (by rw [hok.out]; rfl)
        clear hgo hbad hok HW HV1 HV2 HM
        go_wp2_with fail
        go_ret
        exact ⟨retb (by rw [HF.out] <;> simp), (hH.out.on (by go_grown)).below⟩
       go_wp2_with fail
       refine (HV2.out _).mono ?_
       rintro e w3 ⟨rfl, hw3⟩
       subst hw3
       cases t2
       ·
        obtain rfl : b11 = false := hbad.out (by rw [hok.out]; rfl)
        clear hgo hbad hok HW HV1 HV2 HM
        go_wp2_with fail
        go_ret
        exact ⟨retb (by rw [HF.out] <;> simp), (hH.out.on (by go_grown)).below⟩
       go_wp2_with fail
       refine (HM.out _ (by go_grown)).mono ?_
       rintro e w4 ⟨rfl, hb4⟩
       have hH4 : Hid (Held w [(w.heap.size, [.string nm, .int .i64 pri, .slice a2 n2 m2, .int .i64 wa, .int .i64 wb, .int .i64 wc, .slice a6 n6 m6, .slice a7 n7 m7, .slice a8 n8 m8, .slice a9 n9 m9, .slice a10 n10 m10, .slice a11 n11 m11, .slice (some ⟨B, off, none⟩) n12 m12, .slice a13 n13 m13, .string nod, .string hop])] [] w4) := (hH.out.on (on2 (by go_grown) hb4))
       clear d0 d1 d2 d3 k12 kl hb4 hH HM HW HV1 HV2
       cases t3
       ·
        obtain rfl : b11 = false := hbad.out (by rw [hok.out]; rfl)
        clear hgo hbad hok
        go_wp2_with fail
        go_ret
        exact ⟨retb (by rw [HF.out] <;> simp), hH4.out.below⟩
       have HG : Hid (∀ j, j < k + 1 → spreadB (spr.getD j default) = true) := hgo.out (by rw [hok.out]; rfl)
       clear hgo hbad hok
       go_wp2_with fail
       go_roundw
       case rel => exact ⟨k + 1, by omega, by go_num, hH4, HG⟩
       case measure => simp [intOf]; omega
      ·
       have hltz : ¬ ((k : Int) < (n12 : Int)) := by omega
       obtain rfl : b11 = true := HG11.out HQ12.out (fun j hj => hall.out j (by omega))
       clear hall HG11 HB11
       go_wp2_with fail
       clear k12 kl
       have hl13 := S13.out.len (by decide)
       go_loopw [7] (fun i wr => ∃ k : Nat, k ≤ n13 ∧ i = .int .i64 k ∧ Hid (Held w [(w.heap.size, [.string nm, .int .i64 pri, .slice a2 n2 m2, .int .i64 wa, .int .i64 wb, .int .i64 wc, .slice a6 n6 m6, .slice a7 n7 m7, .slice a8 n8 m8, .slice a9 n9 m9, .slice a10 n10 m10, .slice a11 n11 m11, .slice a12 n12 m12, .slice a13 n13 m13, .string nod, .string hop])] [] wr) ∧ Hid (∀ j, j < k → itQ wordB sLt clm j = true)) (fun i _ => n13 - (intOf i).toNat)
       case atStart => exact ⟨0, Nat.zero_le _, rfl, hH, fun j hj => absurd hj (Nat.not_lt_zero _)⟩
       case round =>
        obtain ⟨k, hk, rfl, hH, hall⟩ := hrel
        have k13 := hH.out.cell 0 (b := w.heap.size) rfl 13 rfl
        have kl := hH.out.lt 0 rfl
        by_cases hlt : k < n13
        ·
         have hltz : (k : Int) < (n13 : Int) := by omega
         obtain ⟨B, off, rfl, hB, _, cs, hr, hv⟩ := (S13.out.on RStr.firm hH.out.below).get hlt
         obtain ⟨rfl, hz⟩ := hr
         have d0 := hv 0 _ rfl
         rw [Nat.add_zero, Nat.mul_one] at d0
         have hbad : Hid (itQ wordB sLt clm k = false → bc = false) := fun h => HBbc.out k hlt h
         have hgo : Hid (itQ wordB sLt clm k = true → ∀ j, j < k + 1 → itQ wordB sLt clm j = true) := fun h => go_on hall.out h
         have hok : Hid (itQ wordB sLt clm k = (wordB (clm.getD k default) && (decide (k = 0) || sLt (clm.getD (k - 1) default) (clm.getD k default)))) := rfl
         clear hall hv HBbc HGbc
         have HK := prev_of (n := n13) (k := k) hlt (by omega)
         cases hw : wordB (clm.getD k default)
         ·
          obtain rfl : bc = false := hbad.out (by rw [hok.out, hw]; rfl)
          clear hbad hgo hok HK
          generalize clm.getD k default = x at d0 hw hz
          go_wp2_with fail
          go_big_quiet ((go_at_call 39; exact Calls.quiet_of_same (rWord_as _ _ (by assumption) (by assumption) _)))
          go_wp2_with fail
          go_ret
          exact ⟨retb (by rw [HF.out] <;> simp), (hH.out.on (below_drewN (Below.refl _ _) _)).below⟩
         rcases HK with ⟨h0, b0⟩ | ⟨h0, b0, m, hm, hmw, hml⟩
         ·
          have HG : Hid (∀ j, j < k + 1 → itQ wordB sLt clm j = true) := hgo.out (by rw [hok.out, hw, h0.out]; rfl)
          clear hbad hgo hok h0
          generalize clm.getD k default = x at d0 hw hz
          go_wp2_with fail
          go_big_quiet ((go_at_call 39; exact Calls.quiet_of_same (rWord_as _ _ (by assumption) (by assumption) _)))
          go_wp2_with fail
          go_roundw
          case rel => exact ⟨k + 1, by omega, by go_num, hH.out.on (below_drewN (Below.refl _ _) _), HG⟩
          case measure => simp [intOf]; omega
         obtain ⟨B', off', e', hB', _, cs, hr, hv⟩ := (S13.out.on RStr.firm hH.out.below).get hml
         obtain ⟨rfl, rfl⟩ : B = B' ∧ off = off' := by simpa using e'
         obtain ⟨rfl, _⟩ := hr
         have p0 := hv 0 _ rfl
         rw [Nat.add_zero, Nat.mul_one] at p0
         have hkm : k - 1 = m := by have := hm.out; omega
         have hk0 : Hid (decide (k = 0) = false) := by have := h0.out; simp [Hid]; omega
         rw [hkm] at hok
         clear hv e' hB' hkm h0
         cases hs : sLt (clm.getD m default) (clm.getD k default)
         ·
          obtain rfl : bc = false := hbad.out (by rw [hok.out, hw, hs, hk0.out]; rfl)
          unfold sLt at hs
          clear hbad hgo hok hk0
          generalize clm.getD k default = x at d0 hw hs hz
          generalize clm.getD m default = y at p0 hs
          go_wp2_with fail
          go_big_quiet ((go_at_call 39; exact Calls.quiet_of_same (rWord_as _ _ (by assumption) (by assumption) _)))
          go_wp2_with fail
          go_ret
          exact ⟨retb (by rw [HF.out] <;> simp), (hH.out.on (below_drewN (Below.refl _ _) _)).below⟩
         ·
          have HG : Hid (∀ j, j < k + 1 → itQ wordB sLt clm j = true) := hgo.out (by rw [hok.out, hw, hs, hk0.out]; rfl)
          unfold sLt at hs
          clear hbad hgo hok hk0
          generalize clm.getD k default = x at d0 hw hs hz
          generalize clm.getD m default = y at p0 hs
          go_wp2_with fail
          go_big_quiet ((go_at_call 39; exact Calls.quiet_of_same (rWord_as _ _ (by assumption) (by assumption) _)))
          go_wp2_with fail
          go_roundw
          case rel => exact ⟨k + 1, by omega, by go_num, hH.out.on (below_drewN (Below.refl _ _) _), HG⟩
          case measure => simp [intOf]; omega
        ·
         have hltz : ¬ ((k : Int) < (n13 : Int)) := by omega
         obtain rfl : bc = true := HGbc.out HQ13.out (fun j hj => hall.out j (by omega))
         clear hall HGbc HBbc
         go_wp2_with fail
         clear k13 kl
         go_ret
         exact ⟨retb (by rw [HF.out] <;> simp), hH.out.below⟩
end Go.Proofs.YtfbnnfpnjjjfcaaGreat

