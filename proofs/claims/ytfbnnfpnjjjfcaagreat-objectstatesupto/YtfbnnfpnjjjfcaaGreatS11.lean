/- base.SamePod tells of a pod and one with nothing in it whether there is nothing in the first, and its like. No condition beyond what each says. -/
import Derived.Test.YtfbnnfpnjjjfcaaGreatS10
namespace Go.Proofs.YtfbnnfpnjjjfcaaGreat
set_option maxHeartbeats 16000000
set_option maxRecDepth 100000
open Tryz Go.RowKit
set_option linter.unusedSimpArgs false
theorem SamePod_zerob (c : List Value) (A : Where) (x : PodD) (w : World) (h : Hid (RPod A w c x)) (hs : Hid (scal x = true)) : Calls prog 41 #[.agg c.toArray, .agg #[.string ⟨#[]⟩, .int .i64 0, Z, .int .i64 0, .int .i64 0, .int .i64 0, Z, Z, Z, Z, Z, Z, Z, Z, .string ⟨#[]⟩, .string ⟨#[]⟩]] w fun e w' => e = .returned (.bool (blankPod x)) ∧ Below w.heap.size w w' := by
 obtain ⟨nm, pri, lab, ⟨wa, wb, wc⟩, brs, ask, prf, prt, nea, apa, spr, clm, nod, hop⟩ := x
 obtain ⟨⟨a2, n2, m2⟩, ⟨a6, n6, m6⟩, ⟨a7, n7, m7⟩, ⟨a8, n8, m8⟩, ⟨a9, n9, m9⟩, ⟨a10, n10, m10⟩, ⟨a11, n11, m11⟩, ⟨a12, n12, m12⟩, ⟨a13, n13, m13⟩, rfl, _, s2, s6, s7, s8, s9, s10, s11, s12, s13, _, _⟩ := h.out.out
 simp only at s2 s6 s7 s8 s9 s10 s11 s12 s13 ⊢
 clear h
 generalize hR : blankPod (nm, pri, lab, (wa, wb, wc), brs, ask, prf, prt, nea, apa, spr, clm, nod, hop) = RES
 obtain ⟨b0, e_b0⟩ : ∃ b : Bool, sNil nm = b := ⟨_, rfl⟩
 obtain ⟨b1, e_b1⟩ : ∃ b : Bool, (pri == 0) = b := ⟨_, rfl⟩
 obtain ⟨b3, e_b3⟩ : ∃ b : Bool, resZ (wa, wb, wc) = b := ⟨_, rfl⟩
 obtain ⟨b14, e_b14⟩ : ∃ b : Bool, sNil nod = b := ⟨_, rfl⟩
 obtain ⟨b15, e_b15⟩ : ∃ b : Bool, sNil hop = b := ⟨_, rfl⟩
 obtain ⟨b2, e_b2⟩ : ∃ b : Bool, emptyL lab = b := ⟨_, rfl⟩
 obtain ⟨b6, e_b6⟩ : ∃ b : Bool, emptyL brs = b := ⟨_, rfl⟩
 obtain ⟨b7, e_b7⟩ : ∃ b : Bool, emptyL ask = b := ⟨_, rfl⟩
 obtain ⟨b8, e_b8⟩ : ∃ b : Bool, emptyL prf = b := ⟨_, rfl⟩
 obtain ⟨b9, e_b9⟩ : ∃ b : Bool, emptyL prt = b := ⟨_, rfl⟩
 obtain ⟨b10, e_b10⟩ : ∃ b : Bool, emptyL nea = b := ⟨_, rfl⟩
 obtain ⟨b11, e_b11⟩ : ∃ b : Bool, emptyL apa = b := ⟨_, rfl⟩
 obtain ⟨b12, e_b12⟩ : ∃ b : Bool, emptyL spr = b := ⟨_, rfl⟩
 obtain ⟨b13, e_b13⟩ : ∃ b : Bool, emptyL clm = b := ⟨_, rfl⟩
 have HSC : Hid ((b0 && b1 && b3 && b14 && b15) = true) := by rw [Hid, ← e_b0, ← e_b1, ← e_b3, ← e_b14, ← e_b15]; exact hs.out
 clear hs
 have HF : Hid (RES = (b0 && b1 && b3 && b14 && b15 && b2 && b7 && b9 && b10 && b11 && b13 && b6 && b8 && b12)) := by
  rw [Hid, ← hR, blankPod, ← e_b0, ← e_b1, ← e_b3, ← e_b14, ← e_b15, ← e_b2, ← e_b7, ← e_b9, ← e_b10, ← e_b11, ← e_b13, ← e_b6, ← e_b8, ← e_b12]
  dsimp only
  ac_rfl
 clear hR
 have C2 : Hid (∀ u, Below w.heap.size w u → Calls prog 63 #[.slice a2 n2 m2, Z] u fun e w' => e = .returned (.bool b2) ∧ Below u.heap.size u w') := fun u hu => by
  refine (SameLabels_calls a2 n2 m2 A lab none 0 0 A [] u (s2.on RLabel.firm hu) (SlAt.nil _ _ _ _ (fun _ => rfl))).mono fun e w' ⟨h1, q, hq⟩ => ⟨?_, ?_⟩
  ·
   rw [h1, ← e_b2, emptyL_nil]
  ·
   rw [hq]; exact below_drewN (Below.refl _ _) _
 have C7 : Hid (∀ u, Below w.heap.size w u → Calls prog 64 #[.slice a7 n7 m7, Z] u fun e w' => e = .returned (.bool b7) ∧ Below u.heap.size u w') := fun u hu => by
  refine (SameReqs_calls a7 n7 m7 A ask none 0 0 A [] u (s7.on RReq.firm hu) (SlAt.nil _ _ _ _ (fun _ => rfl))).mono fun e w' ⟨h1, q, hq⟩ => ⟨?_, ?_⟩
  ·
   rw [h1, ← e_b7, emptyL_nil]
  ·
   rw [hq]; exact below_drewN (Below.refl _ _) _
 have C9 : Hid (∀ u, Below w.heap.size w u → Calls prog 65 #[.slice a9 n9 m9, Z] u fun e w' => e = .returned (.bool b9) ∧ Below u.heap.size u w') := fun u hu => by
  refine (SameInts_calls a9 n9 m9 A prt none 0 0 A [] u (s9.on RInt.firm hu) (SlAt.nil _ _ _ _ (fun _ => rfl))).mono fun e w' ⟨h1, q, hq⟩ => ⟨?_, ?_⟩
  ·
   rw [h1, ← e_b9, emptyL_nil]
  ·
   rw [hq]; exact below_drewN (Below.refl _ _) _
 have C10 : Hid (∀ u, Below w.heap.size w u → Calls prog 66 #[.slice a10 n10 m10, Z] u fun e w' => e = .returned (.bool b10) ∧ Below u.heap.size u w') := fun u hu => by
  refine (sameTerms_calls a10 n10 m10 A nea none 0 0 A [] u (s10.on RTerm.firm hu) (SlAt.nil _ _ _ _ (fun _ => rfl))).mono fun e w' ⟨h1, q, hq⟩ => ⟨?_, ?_⟩
  ·
   rw [h1, ← e_b10, emptyL_nil]
  ·
   rw [hq]; exact below_drewN (Below.refl _ _) _
 have C11 : Hid (∀ u, Below w.heap.size w u → Calls prog 66 #[.slice a11 n11 m11, Z] u fun e w' => e = .returned (.bool b11) ∧ Below u.heap.size u w') := fun u hu => by
  refine (sameTerms_calls a11 n11 m11 A apa none 0 0 A [] u (s11.on RTerm.firm hu) (SlAt.nil _ _ _ _ (fun _ => rfl))).mono fun e w' ⟨h1, q, hq⟩ => ⟨?_, ?_⟩
  ·
   rw [h1, ← e_b11, emptyL_nil]
  ·
   rw [hq]; exact below_drewN (Below.refl _ _) _
 have C13 : Hid (∀ u, Below w.heap.size w u → Calls prog 67 #[.slice a13 n13 m13, Z] u fun e w' => e = .returned (.bool b13) ∧ Below u.heap.size u w') := fun u hu => by
  refine (SameTexts_calls a13 n13 m13 A clm none 0 0 A [] u (s13.on RStr.firm hu) (SlAt.nil _ _ _ _ (fun _ => rfl))).mono fun e w' ⟨h1, q, hq⟩ => ⟨?_, ?_⟩
  ·
   rw [h1, ← e_b13, emptyL_nil]
  ·
   rw [hq]; exact below_drewN (Below.refl _ _) _
 have t0 : (nm.toList == []) = b0 := by rw [← e_b0, sNil]; cases nm.toList <;> rfl
 have t0s : nm.toList.isEmpty = b0 := e_b0
 have t14 : (nod.toList == []) = b14 := by rw [← e_b14, sNil]; cases nod.toList <;> rfl
 have t14s : nod.toList.isEmpty = b14 := e_b14
 have t15 : (hop.toList == []) = b15 := by rw [← e_b15, sNil]; cases hop.toList <;> rfl
 have t15s : hop.toList.isEmpty = b15 := e_b15
 have t1 : (pri != 0) = !b1 := by rw [← e_b1]; rfl
 have nR := neqR (wa, wb, wc) (0, 0, 0)
 have e3 : ((wa == 0) && ((wb == 0) && (wc == 0))) = b3 := e_b3
 simp only [e3] at nR
 have t6 : ((n6 : Int) != 0) = !b6 := by rw [← e_b6, emptyL, s6.1, Bool.eq_iff_iff]; simp
 have t8 : ((n8 : Int) != 0) = !b8 := by rw [← e_b8, emptyL, s8.1, Bool.eq_iff_iff]; simp
 have t12 : ((n12 : Int) != 0) = !b12 := by rw [← e_b12, emptyL, s12.1, Bool.eq_iff_iff]; simp
 clear e3 e_b0 e_b1 e_b3 e_b14 e_b15 e_b2 e_b7 e_b9 e_b10 e_b11 e_b13 e_b6 e_b8 e_b12 s2 s6 s7 s8 s9 s10 s11 s12 s13
 have HH0 : Hid (Held w [(w.heap.size + 1, [.string ⟨#[]⟩, .int .i64 0, Z, .int .i64 0, .int .i64 0, .int .i64 0, Z, Z, Z, Z, Z, Z, Z, Z, .string ⟨#[]⟩, .string ⟨#[]⟩]), (w.heap.size, [.string nm, .int .i64 pri, .slice a2 n2 m2, .int .i64 wa, .int .i64 wb, .int .i64 wc, .slice a6 n6 m6, .slice a7 n7 m7, .slice a8 n8 m8, .slice a9 n9 m9, .slice a10 n10 m10, .slice a11 n11 m11, .slice a12 n12 m12, .slice a13 n13 m13, .string nod, .string hop])] [] ((w.alloc (.cells #[.string nm, .int .i64 pri, .slice a2 n2 m2, .int .i64 wa, .int .i64 wb, .int .i64 wc, .slice a6 n6 m6, .slice a7 n7 m7, .slice a8 n8 m8, .slice a9 n9 m9, .slice a10 n10 m10, .slice a11 n11 m11, .slice a12 n12 m12, .slice a13 n13 m13, .string nod, .string hop] 33)).alloc (.cells #[.string ⟨#[]⟩, .int .i64 0, Z, .int .i64 0, .int .i64 0, .int .i64 0, Z, Z, Z, Z, Z, Z, Z, Z, .string ⟨#[]⟩, .string ⟨#[]⟩] 33))) := ((Held.start w).push rfl [.string nm, .int .i64 pri, .slice a2 n2 m2, .int .i64 wa, .int .i64 wb, .int .i64 wc, .slice a6 n6 m6, .slice a7 n7 m7, .slice a8 n8 m8, .slice a9 n9 m9, .slice a10 n10 m10, .slice a11 n11 m11, .slice a12 n12 m12, .slice a13 n13 m13, .string nod, .string hop] 33).push (by simp) [.string ⟨#[]⟩, .int .i64 0, Z, .int .i64 0, .int .i64 0, .int .i64 0, Z, Z, Z, Z, Z, Z, Z, Z, .string ⟨#[]⟩, .string ⟨#[]⟩] 33
 have hgr := guardR
 obtain ⟨W2, hW2⟩ : ∃ W2, W2 = ((w.alloc (.cells #[.string nm, .int .i64 pri, .slice a2 n2 m2, .int .i64 wa, .int .i64 wb, .int .i64 wc, .slice a6 n6 m6, .slice a7 n7 m7, .slice a8 n8 m8, .slice a9 n9 m9, .slice a10 n10 m10, .slice a11 n11 m11, .slice a12 n12 m12, .slice a13 n13 m13, .string nod, .string hop] 33)).alloc (.cells #[.string ⟨#[]⟩, .int .i64 0, Z, .int .i64 0, .int .i64 0, .int .i64 0, Z, Z, Z, Z, Z, Z, Z, Z, .string ⟨#[]⟩, .string ⟨#[]⟩] 33)) := ⟨_, rfl⟩
 rw [← hW2] at HH0
 go_enter func41, ntmps41
 go_upto_region 1 with fail
 rw [← hW2]
 clear hW2
 have p0 := HH0.out.cell 1 (b := w.heap.size) rfl 0 rfl
 have y0 := HH0.out.cell 0 (b := w.heap.size + 1) rfl 0 rfl
 have p1 := HH0.out.cell 1 (b := w.heap.size) rfl 1 rfl
 have y1 := HH0.out.cell 0 (b := w.heap.size + 1) rfl 1 rfl
 have p2 := HH0.out.cell 1 (b := w.heap.size) rfl 2 rfl
 have y2 := HH0.out.cell 0 (b := w.heap.size + 1) rfl 2 rfl
 have p3 := HH0.out.cell 1 (b := w.heap.size) rfl 3 rfl
 have y3 := HH0.out.cell 0 (b := w.heap.size + 1) rfl 3 rfl
 have p4 := HH0.out.cell 1 (b := w.heap.size) rfl 4 rfl
 have y4 := HH0.out.cell 0 (b := w.heap.size + 1) rfl 4 rfl
 have p5 := HH0.out.cell 1 (b := w.heap.size) rfl 5 rfl
 have y5 := HH0.out.cell 0 (b := w.heap.size + 1) rfl 5 rfl
 have p14 := HH0.out.cell 1 (b := w.heap.size) rfl 14 rfl
 have y14 := HH0.out.cell 0 (b := w.heap.size + 1) rfl 14 rfl
 have p15 := HH0.out.cell 1 (b := w.heap.size) rfl 15 rfl
 have y15 := HH0.out.cell 0 (b := w.heap.size + 1) rfl 15 rfl
 have kl := HH0.out.lt 0 rfl
 have kl2 := HH0.out.lt 1 rfl
 obtain ⟨⟨⟨⟨rfl, rfl⟩, rfl⟩, rfl⟩, rfl⟩ : (((b0 = true ∧ b1 = true) ∧ b3 = true) ∧ b14 = true) ∧ b15 = true := by simpa [Hid] using HSC
 simp only [Bool.not_true] at t1 nR
 clear HSC
 go_wp2_with fail
 clear kl kl2 p0 y0 p1 y1 p2 y2 p3 y3 p4 y4 p5 y5 p14 y14 p15 y15
 clear t0 t0s t1 nR t14 t14s t15 t15s
 refine (C2.out _ HH0.out.below).mono ?_
 rintro e u1 ⟨rfl, hb⟩
 have HH1 : Hid (Held w [(w.heap.size + 1, [.string ⟨#[]⟩, .int .i64 0, Z, .int .i64 0, .int .i64 0, .int .i64 0, Z, Z, Z, Z, Z, Z, Z, Z, .string ⟨#[]⟩, .string ⟨#[]⟩]), (w.heap.size, [.string nm, .int .i64 pri, .slice a2 n2 m2, .int .i64 wa, .int .i64 wb, .int .i64 wc, .slice a6 n6 m6, .slice a7 n7 m7, .slice a8 n8 m8, .slice a9 n9 m9, .slice a10 n10 m10, .slice a11 n11 m11, .slice a12 n12 m12, .slice a13 n13 m13, .string nod, .string hop])] [] u1) := HH0.out.on hb
 clear hb HH0 C2
 cases b2
 ·
  clear C7 C9 C10 C11 C13
  go_wp2_with fail
  go_ret
  exact ⟨retb (by rw [HF.out] <;> simp), HH1.out.below⟩
 have p7 := HH1.out.cell 1 (b := w.heap.size) rfl 7 rfl
 have y7 := HH1.out.cell 0 (b := w.heap.size + 1) rfl 7 rfl
 have kl := HH1.out.lt 0 rfl
 have kl2 := HH1.out.lt 1 rfl
 go_wp2_with fail
 clear kl kl2 p7 y7
 refine (C7.out _ HH1.out.below).mono ?_
 rintro e u2 ⟨rfl, hb⟩
 have HH2 : Hid (Held w [(w.heap.size + 1, [.string ⟨#[]⟩, .int .i64 0, Z, .int .i64 0, .int .i64 0, .int .i64 0, Z, Z, Z, Z, Z, Z, Z, Z, .string ⟨#[]⟩, .string ⟨#[]⟩]), (w.heap.size, [.string nm, .int .i64 pri, .slice a2 n2 m2, .int .i64 wa, .int .i64 wb, .int .i64 wc, .slice a6 n6 m6, .slice a7 n7 m7, .slice a8 n8 m8, .slice a9 n9 m9, .slice a10 n10 m10, .slice a11 n11 m11, .slice a12 n12 m12, .slice a13 n13 m13, .string nod, .string hop])] [] u2) := HH1.out.on hb
 clear hb HH1 C7
 cases b7
 ·
  clear C9 C10 C11 C13
  go_wp2_with fail
  go_ret
  exact ⟨retb (by rw [HF.out] <;> simp), HH2.out.below⟩
 have p9 := HH2.out.cell 1 (b := w.heap.size) rfl 9 rfl
 have y9 := HH2.out.cell 0 (b := w.heap.size + 1) rfl 9 rfl
 have kl := HH2.out.lt 0 rfl
 have kl2 := HH2.out.lt 1 rfl
 go_wp2_with fail
 clear kl kl2 p9 y9
 refine (C9.out _ HH2.out.below).mono ?_
 rintro e u3 ⟨rfl, hb⟩
 have HH3 : Hid (Held w [(w.heap.size + 1, [.string ⟨#[]⟩, .int .i64 0, Z, .int .i64 0, .int .i64 0, .int .i64 0, Z, Z, Z, Z, Z, Z, Z, Z, .string ⟨#[]⟩, .string ⟨#[]⟩]), (w.heap.size, [.string nm, .int .i64 pri, .slice a2 n2 m2, .int .i64 wa, .int .i64 wb, .int .i64 wc, .slice a6 n6 m6, .slice a7 n7 m7, .slice a8 n8 m8, .slice a9 n9 m9, .slice a10 n10 m10, .slice a11 n11 m11, .slice a12 n12 m12, .slice a13 n13 m13, .string nod, .string hop])] [] u3) := HH2.out.on hb
 clear hb HH2 C9
 cases b9
 ·
  clear C10 C11 C13
  go_wp2_with fail
  go_ret
  exact ⟨retb (by rw [HF.out] <;> simp), HH3.out.below⟩
 have p10 := HH3.out.cell 1 (b := w.heap.size) rfl 10 rfl
 have y10 := HH3.out.cell 0 (b := w.heap.size + 1) rfl 10 rfl
 have kl := HH3.out.lt 0 rfl
 have kl2 := HH3.out.lt 1 rfl
 go_wp2_with fail
 clear kl kl2 p10 y10
 refine (C10.out _ HH3.out.below).mono ?_
 rintro e u4 ⟨rfl, hb⟩
 have HH4 : Hid (Held w [(w.heap.size + 1, [.string ⟨#[]⟩, .int .i64 0, Z, .int .i64 0, .int .i64 0, .int .i64 0, Z, Z, Z, Z, Z, Z, Z, Z, .string ⟨#[]⟩, .string ⟨#[]⟩]), (w.heap.size, [.string nm, .int .i64 pri, .slice a2 n2 m2, .int .i64 wa, .int .i64 wb, .int .i64 wc, .slice a6 n6 m6, .slice a7 n7 m7, .slice a8 n8 m8, .slice a9 n9 m9, .slice a10 n10 m10, .slice a11 n11 m11, .slice a12 n12 m12, .slice a13 n13 m13, .string nod, .string hop])] [] u4) := HH3.out.on hb
 clear hb HH3 C10
 cases b10
 ·
  clear C11 C13
  go_wp2_with fail
  go_ret
  exact ⟨retb (by rw [HF.out] <;> simp), HH4.out.below⟩
 have p11 := HH4.out.cell 1 (b := w.heap.size) rfl 11 rfl
 have y11 := HH4.out.cell 0 (b := w.heap.size + 1) rfl 11 rfl
 have kl := HH4.out.lt 0 rfl
 have kl2 := HH4.out.lt 1 rfl
 go_wp2_with fail
 clear kl kl2 p11 y11
 refine (C11.out _ HH4.out.below).mono ?_
 rintro e u5 ⟨rfl, hb⟩
 have HH5 : Hid (Held w [(w.heap.size + 1, [.string ⟨#[]⟩, .int .i64 0, Z, .int .i64 0, .int .i64 0, .int .i64 0, Z, Z, Z, Z, Z, Z, Z, Z, .string ⟨#[]⟩, .string ⟨#[]⟩]), (w.heap.size, [.string nm, .int .i64 pri, .slice a2 n2 m2, .int .i64 wa, .int .i64 wb, .int .i64 wc, .slice a6 n6 m6, .slice a7 n7 m7, .slice a8 n8 m8, .slice a9 n9 m9, .slice a10 n10 m10, .slice a11 n11 m11, .slice a12 n12 m12, .slice a13 n13 m13, .string nod, .string hop])] [] u5) := HH4.out.on hb
 clear hb HH4 C11
 cases b11
 ·
  clear C13
  go_wp2_with fail
  go_ret
  exact ⟨retb (by rw [HF.out] <;> simp), HH5.out.below⟩
 have p13 := HH5.out.cell 1 (b := w.heap.size) rfl 13 rfl
 have y13 := HH5.out.cell 0 (b := w.heap.size + 1) rfl 13 rfl
 have kl := HH5.out.lt 0 rfl
 have kl2 := HH5.out.lt 1 rfl
 go_wp2_with fail
 clear kl kl2 p13 y13
 refine (C13.out _ HH5.out.below).mono ?_
 rintro e u6 ⟨rfl, hb⟩
 have HH6 : Hid (Held w [(w.heap.size + 1, [.string ⟨#[]⟩, .int .i64 0, Z, .int .i64 0, .int .i64 0, .int .i64 0, Z, Z, Z, Z, Z, Z, Z, Z, .string ⟨#[]⟩, .string ⟨#[]⟩]), (w.heap.size, [.string nm, .int .i64 pri, .slice a2 n2 m2, .int .i64 wa, .int .i64 wb, .int .i64 wc, .slice a6 n6 m6, .slice a7 n7 m7, .slice a8 n8 m8, .slice a9 n9 m9, .slice a10 n10 m10, .slice a11 n11 m11, .slice a12 n12 m12, .slice a13 n13 m13, .string nod, .string hop])] [] u6) := HH5.out.on hb
 clear hb HH5 C13
 cases b13
 ·
  skip
  go_wp2_with fail
  go_ret
  exact ⟨retb (by rw [HF.out] <;> simp), HH6.out.below⟩
 have p6 := HH6.out.cell 1 (b := w.heap.size) rfl 6 rfl
 have y6 := HH6.out.cell 0 (b := w.heap.size + 1) rfl 6 rfl
 have p8 := HH6.out.cell 1 (b := w.heap.size) rfl 8 rfl
 have y8 := HH6.out.cell 0 (b := w.heap.size + 1) rfl 8 rfl
 have p12 := HH6.out.cell 1 (b := w.heap.size) rfl 12 rfl
 have y12 := HH6.out.cell 0 (b := w.heap.size + 1) rfl 12 rfl
 have kl := HH6.out.lt 0 rfl
 have kl2 := HH6.out.lt 1 rfl
 cases b6 <;> simp only [Bool.not_false, Bool.not_true] at t6
 ·
  go_wp2_with fail
  go_ret
  exact ⟨retb (by rw [HF.out] <;> simp), HH6.out.below⟩
 cases b8 <;> simp only [Bool.not_false, Bool.not_true] at t8
 ·
  go_wp2_with fail
  go_ret
  exact ⟨retb (by rw [HF.out] <;> simp), HH6.out.below⟩
 cases b12 <;> simp only [Bool.not_false, Bool.not_true] at t12
 ·
  go_wp2_with fail
  go_ret
  exact ⟨retb (by rw [HF.out] <;> simp), HH6.out.below⟩
 obtain rfl : n6 = 0 := by have := bne_eq_false_iff_eq.1 t6; omega
 obtain rfl : n8 = 0 := by have := bne_eq_false_iff_eq.1 t8; omega
 obtain rfl : n12 = 0 := by have := bne_eq_false_iff_eq.1 t12; omega
 clear t6 t8 t12
 go_wp2_with fail
 go_loopw [5] (fun i wr => i = .int .i64 0 ∧ u6 = wr) (fun _ _ => 0)
 case atStart => exact ⟨rfl, rfl⟩
 case round =>
 obtain ⟨rfl, rfl⟩ := hrel
 go_wp2_with fail
 go_loopw [6] (fun i wr => i = .int .i64 0 ∧ u6 = wr) (fun _ _ => 0)
 case atStart => exact ⟨rfl, rfl⟩
 case round =>
 obtain ⟨rfl, rfl⟩ := hrel
 go_wp2_with fail
 go_loopw [7] (fun i wr => i = .int .i64 0 ∧ u6 = wr) (fun _ _ => 0)
 case atStart => exact ⟨rfl, rfl⟩
 case round =>
 obtain ⟨rfl, rfl⟩ := hrel
 go_wp2_with fail
 go_ret
 exact ⟨retb (by rw [HF.out] <;> simp), HH6.out.below⟩
end Go.Proofs.YtfbnnfpnjjjfcaaGreat

