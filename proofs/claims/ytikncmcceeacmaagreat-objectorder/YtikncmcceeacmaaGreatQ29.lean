/- base.SamePod says yes of two pods that hold the same, and changes nothing that was there, and its like. No condition beyond what each says. -/
import Derived.Test.YtikncmcceeacmaaGreatQ28
namespace Go.Proofs.YtikncmcceeacmaaGreat
set_option maxHeartbeats 16000000
set_option maxRecDepth 100000
open Tryz Go.RowKit
set_option linter.unusedSimpArgs false
theorem guardBe : prog.eqGuardType prog.depth 128 = false := by kernel_rfl
theorem neqR_same (a b c : Int) (w : World) : Sem.run prog (binOp .neq 24 (.agg #[.int .i64 a, .int .i64 b, .int .i64 c]) (.agg #[.int .i64 a, .int .i64 b, .int .i64 c])) w = .ok (.bool false) w := by
 have := neqR (a, b, c) (a, b, c) w
 simpa using this
theorem neqBe_same (a b : ByteArray) (c : Bool) (d : Int) (w : World) : Sem.run prog (binOp .neq 128 (.agg #[.string a, .string b, .bool c, .int .i64 d]) (.agg #[.string a, .string b, .bool c, .int .i64 d])) w = .ok (.bool false) w := by
 have u3 := underlying3
 have a3 := Tryz.isAgg3
 have z3 := Tryz.sizeOf3
 have u9 := underlying9
 have a9 := Tryz.isAgg9
 have z9 := Tryz.sizeOf9
 have u4 := underlying4
 have a4 := Tryz.isAgg4
 have z4 := Tryz.sizeOf4
 have hS : prog.underlying 128 = some (.struct (prog.fieldsOf 128)) := by kernel_rfl
 have hp : prog.stoodInHeld 128 = false := by kernel_rfl
 rw [run_neq_struct, show (10000 : Nat) = 9999 + 1 from rfl, run_equalIn_agg w 9999 128 _ _ hS hp]
 simp only [Program.fieldsOf, underlying128]
 go_simp
structure PB2 (w u : World) (P Y : List Value) : Prop where
 p : BoxL u w.heap.size P
 y : BoxL u (w.heap.size + 1) Y
 b : Below w.heap.size w u
theorem PB2.on {w u u' : World} {P Y : List Value} (h : PB2 w u P Y) (hb : Below u.heap.size u u') : PB2 w u' P Y := ⟨h.p.on hb, h.y.on hb, on2 h.b hb⟩
theorem SamePod_yes (cs ds : List Value) (A A' : Where) (x : PodD) (w : World) (h : Hid (RPod A w cs x)) (h' : Hid (RPod A' w ds x)) : Calls prog 41 #[.agg cs.toArray, .agg ds.toArray] w fun e w' => e = .returned (.bool true) ∧ Below w.heap.size w w' := by
 obtain ⟨nm, pri, lab, ⟨wa, wb, wc⟩, brs, ask, prf, prt, nea, apa, spr, clm, nod, hop⟩ := x
 obtain ⟨⟨a2, n2, m2⟩, ⟨a6, n6, m6⟩, ⟨a7, n7, m7⟩, ⟨a8, n8, m8⟩, ⟨a9, n9, m9⟩, ⟨a10, n10, m10⟩, ⟨a11, n11, m11⟩, ⟨a12, n12, m12⟩, ⟨a13, n13, m13⟩, rfl, _, s2, s6, s7, s8, s9, s10, s11, s12, s13, _, _⟩ := h.out.out
 obtain ⟨⟨b2, l2, k2⟩, ⟨b6, l6, k6⟩, ⟨b7, l7, k7⟩, ⟨b8, l8, k8⟩, ⟨b9, l9, k9⟩, ⟨b10, l10, k10⟩, ⟨b11, l11, k11⟩, ⟨b12, l12, k12⟩, ⟨b13, l13, k13⟩, rfl, _, t2, t6, t7, t8, t9, t10, t11, t12, t13, _, _⟩ := h'.out.out
 simp only at s2 t2 s6 t6 s7 t7 s8 t8 s9 t9 s10 t10 s11 t11 s12 t12 s13 t13 ⊢
 clear h h'
 obtain rfl : l2 = n2 := t2.1.symm.trans s2.1
 obtain rfl : l6 = n6 := t6.1.symm.trans s6.1
 obtain rfl : l7 = n7 := t7.1.symm.trans s7.1
 obtain rfl : l8 = n8 := t8.1.symm.trans s8.1
 obtain rfl : l9 = n9 := t9.1.symm.trans s9.1
 obtain rfl : l10 = n10 := t10.1.symm.trans s10.1
 obtain rfl : l11 = n11 := t11.1.symm.trans s11.1
 obtain rfl : l12 = n12 := t12.1.symm.trans s12.1
 obtain rfl : l13 = n13 := t13.1.symm.trans s13.1
 have S2 : Hid (SlAt RLabel 2 32 A w a2 l2 m2 lab) := s2
 have T2 : Hid (SlAt RLabel 2 32 A' w b2 l2 k2 lab) := t2
 have S6 : Hid (SlAt RBear 4 48 A w a6 l6 m6 brs) := s6
 have T6 : Hid (SlAt RBear 4 48 A' w b6 l6 k6 brs) := t6
 have S7 : Hid (SlAt RReq 3 48 A w a7 l7 m7 ask) := s7
 have T7 : Hid (SlAt RReq 3 48 A' w b7 l7 k7 ask) := t7
 have S8 : Hid (SlAt RPrefer 2 32 A w a8 l8 m8 prf) := s8
 have T8 : Hid (SlAt RPrefer 2 32 A' w b8 l8 k8 prf) := t8
 have S9 : Hid (SlAt RInt 1 8 A w a9 l9 m9 prt) := s9
 have T9 : Hid (SlAt RInt 1 8 A' w b9 l9 k9 prt) := t9
 have S10 : Hid (SlAt RTerm 2 40 A w a10 l10 m10 nea) := s10
 have T10 : Hid (SlAt RTerm 2 40 A' w b10 l10 k10 nea) := t10
 have S11 : Hid (SlAt RTerm 2 40 A w a11 l11 m11 apa) := s11
 have T11 : Hid (SlAt RTerm 2 40 A' w b11 l11 k11 apa) := t11
 have S12 : Hid (SlAt RSpread 4 56 A w a12 l12 m12 spr) := s12
 have T12 : Hid (SlAt RSpread 4 56 A' w b12 l12 k12 spr) := t12
 have S13 : Hid (SlAt RStr 1 16 A w a13 l13 m13 clm) := s13
 have T13 : Hid (SlAt RStr 1 16 A' w b13 l13 k13 clm) := t13
 clear s2 t2 s6 t6 s7 t7 s8 t8 s9 t9 s10 t10 s11 t11 s12 t12 s13 t13
 obtain ⟨W2, hW2⟩ : ∃ W2, W2 = ((w.alloc (.cells #[.string nm, .int .i64 pri, .slice a2 l2 m2, .int .i64 wa, .int .i64 wb, .int .i64 wc, .slice a6 l6 m6, .slice a7 l7 m7, .slice a8 l8 m8, .slice a9 l9 m9, .slice a10 l10 m10, .slice a11 l11 m11, .slice a12 l12 m12, .slice a13 l13 m13, .string nod, .string hop] 33)).alloc (.cells #[.string nm, .int .i64 pri, .slice b2 l2 k2, .int .i64 wa, .int .i64 wb, .int .i64 wc, .slice b6 l6 k6, .slice b7 l7 k7, .slice b8 l8 k8, .slice b9 l9 k9, .slice b10 l10 k10, .slice b11 l11 k11, .slice b12 l12 k12, .slice b13 l13 k13, .string nod, .string hop] 33)) := ⟨_, rfl⟩
 have B0 : Hid (PB2 w W2 [.string nm, .int .i64 pri, .slice a2 l2 m2, .int .i64 wa, .int .i64 wb, .int .i64 wc, .slice a6 l6 m6, .slice a7 l7 m7, .slice a8 l8 m8, .slice a9 l9 m9, .slice a10 l10 m10, .slice a11 l11 m11, .slice a12 l12 m12, .slice a13 l13 m13, .string nod, .string hop] [.string nm, .int .i64 pri, .slice b2 l2 k2, .int .i64 wa, .int .i64 wb, .int .i64 wc, .slice b6 l6 k6, .slice b7 l7 k7, .slice b8 l8 k8, .slice b9 l9 k9, .slice b10 l10 k10, .slice b11 l11 k11, .slice b12 l12 k12, .slice b13 l13 k13, .string nod, .string hop]) := by
  rw [hW2]
  refine ⟨(BoxL.new w 33 [.string nm, .int .i64 pri, .slice a2 l2 m2, .int .i64 wa, .int .i64 wb, .int .i64 wc, .slice a6 l6 m6, .slice a7 l7 m7, .slice a8 l8 m8, .slice a9 l9 m9, .slice a10 l10 m10, .slice a11 l11 m11, .slice a12 l12 m12, .slice a13 l13 m13, .string nod, .string hop]).on ((Below.refl _ _).alloc (Nat.le_refl _) _), ?_, by go_grown⟩
  have := BoxL.new (w.alloc (.cells #[.string nm, .int .i64 pri, .slice a2 l2 m2, .int .i64 wa, .int .i64 wb, .int .i64 wc, .slice a6 l6 m6, .slice a7 l7 m7, .slice a8 l8 m8, .slice a9 l9 m9, .slice a10 l10 m10, .slice a11 l11 m11, .slice a12 l12 m12, .slice a13 l13 m13, .string nod, .string hop] 33)) 33 [.string nm, .int .i64 pri, .slice b2 l2 k2, .int .i64 wa, .int .i64 wb, .int .i64 wc, .slice b6 l6 k6, .slice b7 l7 k7, .slice b8 l8 k8, .slice b9 l9 k9, .slice b10 l10 k10, .slice b11 l11 k11, .slice b12 l12 k12, .slice b13 l13 k13, .string nod, .string hop]
  simpa using this
 have hgr := guardR
 have hgb := guardBe
 have hqr := neqR_same wa wb wc
 go_enter func41, ntmps41
 go_wp2_with fail
 rw [← hW2]
 clear hW2
 refine (SameLabels_calls a2 l2 m2 A lab b2 l2 k2 A' lab W2 (S2.out.on RLabel.firm B0.out.b) (T2.out.on RLabel.firm B0.out.b)).mono ?_
 rintro e V2 ⟨he2, q, hq⟩
 replace he2 : e = .returned (.bool true) := by rw [he2]; simp
 subst he2
 have hb2 : Below W2.heap.size W2 V2 := by rw [hq]; exact below_drewN (Below.refl _ _) _
 have C2 := B0.out.on hb2
 have B2 : Hid (PB2 w V2 [.string nm, .int .i64 pri, .slice a2 l2 m2, .int .i64 wa, .int .i64 wb, .int .i64 wc, .slice a6 l6 m6, .slice a7 l7 m7, .slice a8 l8 m8, .slice a9 l9 m9, .slice a10 l10 m10, .slice a11 l11 m11, .slice a12 l12 m12, .slice a13 l13 m13, .string nod, .string hop] [.string nm, .int .i64 pri, .slice b2 l2 k2, .int .i64 wa, .int .i64 wb, .int .i64 wc, .slice b6 l6 k6, .slice b7 l7 k7, .slice b8 l8 k8, .slice b9 l9 k9, .slice b10 l10 k10, .slice b11 l11 k11, .slice b12 l12 k12, .slice b13 l13 k13, .string nod, .string hop]) := C2
 clear hq hb2 B0
 obtain ⟨p7, _⟩ := C2.p.2 7 _ rfl
 obtain ⟨y7, _⟩ := C2.y.2 7 _ rfl
 clear C2
 go_wp2_with fail
 clear p7 y7
 refine (SameReqs_calls a7 l7 m7 A ask b7 l7 k7 A' ask V2 (S7.out.on RReq.firm B2.out.b) (T7.out.on RReq.firm B2.out.b)).mono ?_
 rintro e V7 ⟨he7, q, hq⟩
 replace he7 : e = .returned (.bool true) := by rw [he7]; simp
 subst he7
 have hb7 : Below V2.heap.size V2 V7 := by rw [hq]; exact below_drewN (Below.refl _ _) _
 have C7 := B2.out.on hb7
 have B7 : Hid (PB2 w V7 [.string nm, .int .i64 pri, .slice a2 l2 m2, .int .i64 wa, .int .i64 wb, .int .i64 wc, .slice a6 l6 m6, .slice a7 l7 m7, .slice a8 l8 m8, .slice a9 l9 m9, .slice a10 l10 m10, .slice a11 l11 m11, .slice a12 l12 m12, .slice a13 l13 m13, .string nod, .string hop] [.string nm, .int .i64 pri, .slice b2 l2 k2, .int .i64 wa, .int .i64 wb, .int .i64 wc, .slice b6 l6 k6, .slice b7 l7 k7, .slice b8 l8 k8, .slice b9 l9 k9, .slice b10 l10 k10, .slice b11 l11 k11, .slice b12 l12 k12, .slice b13 l13 k13, .string nod, .string hop]) := C7
 clear hq hb7 B2
 obtain ⟨p9, _⟩ := C7.p.2 9 _ rfl
 obtain ⟨y9, _⟩ := C7.y.2 9 _ rfl
 clear C7
 go_wp2_with fail
 clear p9 y9
 refine (SameInts_calls a9 l9 m9 A prt b9 l9 k9 A' prt V7 (S9.out.on RInt.firm B7.out.b) (T9.out.on RInt.firm B7.out.b)).mono ?_
 rintro e V9 ⟨he9, q, hq⟩
 replace he9 : e = .returned (.bool true) := by rw [he9]; simp
 subst he9
 have hb9 : Below V7.heap.size V7 V9 := by rw [hq]; exact below_drewN (Below.refl _ _) _
 have C9 := B7.out.on hb9
 have B9 : Hid (PB2 w V9 [.string nm, .int .i64 pri, .slice a2 l2 m2, .int .i64 wa, .int .i64 wb, .int .i64 wc, .slice a6 l6 m6, .slice a7 l7 m7, .slice a8 l8 m8, .slice a9 l9 m9, .slice a10 l10 m10, .slice a11 l11 m11, .slice a12 l12 m12, .slice a13 l13 m13, .string nod, .string hop] [.string nm, .int .i64 pri, .slice b2 l2 k2, .int .i64 wa, .int .i64 wb, .int .i64 wc, .slice b6 l6 k6, .slice b7 l7 k7, .slice b8 l8 k8, .slice b9 l9 k9, .slice b10 l10 k10, .slice b11 l11 k11, .slice b12 l12 k12, .slice b13 l13 k13, .string nod, .string hop]) := C9
 clear hq hb9 B7
 obtain ⟨p10, _⟩ := C9.p.2 10 _ rfl
 obtain ⟨y10, _⟩ := C9.y.2 10 _ rfl
 clear C9
 go_wp2_with fail
 clear p10 y10
 refine (sameTerms_calls a10 l10 m10 A nea b10 l10 k10 A' nea V9 (S10.out.on RTerm.firm B9.out.b) (T10.out.on RTerm.firm B9.out.b)).mono ?_
 rintro e V10 ⟨he10, q, hq⟩
 replace he10 : e = .returned (.bool true) := by rw [he10]; simp
 subst he10
 have hb10 : Below V9.heap.size V9 V10 := by rw [hq]; exact below_drewN (Below.refl _ _) _
 have C10 := B9.out.on hb10
 have B10 : Hid (PB2 w V10 [.string nm, .int .i64 pri, .slice a2 l2 m2, .int .i64 wa, .int .i64 wb, .int .i64 wc, .slice a6 l6 m6, .slice a7 l7 m7, .slice a8 l8 m8, .slice a9 l9 m9, .slice a10 l10 m10, .slice a11 l11 m11, .slice a12 l12 m12, .slice a13 l13 m13, .string nod, .string hop] [.string nm, .int .i64 pri, .slice b2 l2 k2, .int .i64 wa, .int .i64 wb, .int .i64 wc, .slice b6 l6 k6, .slice b7 l7 k7, .slice b8 l8 k8, .slice b9 l9 k9, .slice b10 l10 k10, .slice b11 l11 k11, .slice b12 l12 k12, .slice b13 l13 k13, .string nod, .string hop]) := C10
 clear hq hb10 B9
 obtain ⟨p11, _⟩ := C10.p.2 11 _ rfl
 obtain ⟨y11, _⟩ := C10.y.2 11 _ rfl
 clear C10
 go_wp2_with fail
 clear p11 y11
 refine (sameTerms_calls a11 l11 m11 A apa b11 l11 k11 A' apa V10 (S11.out.on RTerm.firm B10.out.b) (T11.out.on RTerm.firm B10.out.b)).mono ?_
 rintro e V11 ⟨he11, q, hq⟩
 replace he11 : e = .returned (.bool true) := by rw [he11]; simp
 subst he11
 have hb11 : Below V10.heap.size V10 V11 := by rw [hq]; exact below_drewN (Below.refl _ _) _
 have C11 := B10.out.on hb11
 have B11 : Hid (PB2 w V11 [.string nm, .int .i64 pri, .slice a2 l2 m2, .int .i64 wa, .int .i64 wb, .int .i64 wc, .slice a6 l6 m6, .slice a7 l7 m7, .slice a8 l8 m8, .slice a9 l9 m9, .slice a10 l10 m10, .slice a11 l11 m11, .slice a12 l12 m12, .slice a13 l13 m13, .string nod, .string hop] [.string nm, .int .i64 pri, .slice b2 l2 k2, .int .i64 wa, .int .i64 wb, .int .i64 wc, .slice b6 l6 k6, .slice b7 l7 k7, .slice b8 l8 k8, .slice b9 l9 k9, .slice b10 l10 k10, .slice b11 l11 k11, .slice b12 l12 k12, .slice b13 l13 k13, .string nod, .string hop]) := C11
 clear hq hb11 B10
 obtain ⟨p13, _⟩ := C11.p.2 13 _ rfl
 obtain ⟨y13, _⟩ := C11.y.2 13 _ rfl
 clear C11
 go_wp2_with fail
 clear p13 y13
 refine (SameTexts_calls a13 l13 m13 A clm b13 l13 k13 A' clm V11 (S13.out.on RStr.firm B11.out.b) (T13.out.on RStr.firm B11.out.b)).mono ?_
 rintro e V13 ⟨he13, q, hq⟩
 replace he13 : e = .returned (.bool true) := by rw [he13]; simp
 subst he13
 have hb13 : Below V11.heap.size V11 V13 := by rw [hq]; exact below_drewN (Below.refl _ _) _
 have C13 := B11.out.on hb13
 have B13 : Hid (PB2 w V13 [.string nm, .int .i64 pri, .slice a2 l2 m2, .int .i64 wa, .int .i64 wb, .int .i64 wc, .slice a6 l6 m6, .slice a7 l7 m7, .slice a8 l8 m8, .slice a9 l9 m9, .slice a10 l10 m10, .slice a11 l11 m11, .slice a12 l12 m12, .slice a13 l13 m13, .string nod, .string hop] [.string nm, .int .i64 pri, .slice b2 l2 k2, .int .i64 wa, .int .i64 wb, .int .i64 wc, .slice b6 l6 k6, .slice b7 l7 k7, .slice b8 l8 k8, .slice b9 l9 k9, .slice b10 l10 k10, .slice b11 l11 k11, .slice b12 l12 k12, .slice b13 l13 k13, .string nod, .string hop]) := C13
 clear hq hb13 B11
 obtain ⟨p6, _⟩ := C13.p.2 6 _ rfl
 obtain ⟨y6, _⟩ := C13.y.2 6 _ rfl
 obtain ⟨p8, _⟩ := C13.p.2 8 _ rfl
 obtain ⟨y8, _⟩ := C13.y.2 8 _ rfl
 obtain ⟨p12, _⟩ := C13.p.2 12 _ rfl
 obtain ⟨y12, _⟩ := C13.y.2 12 _ rfl
 clear C13
 go_wp2_with fail
 clear p6 y6 p8 y8 p12 y12
 have hl6 := S6.out.len (by decide)
 go_loopw [5] (fun i wr => ∃ k : Nat, k ≤ l6 ∧ i = .int .i64 k ∧ Hid (PB2 w wr [.string nm, .int .i64 pri, .slice a2 l2 m2, .int .i64 wa, .int .i64 wb, .int .i64 wc, .slice a6 l6 m6, .slice a7 l7 m7, .slice a8 l8 m8, .slice a9 l9 m9, .slice a10 l10 m10, .slice a11 l11 m11, .slice a12 l12 m12, .slice a13 l13 m13, .string nod, .string hop] [.string nm, .int .i64 pri, .slice b2 l2 k2, .int .i64 wa, .int .i64 wb, .int .i64 wc, .slice b6 l6 k6, .slice b7 l7 k7, .slice b8 l8 k8, .slice b9 l9 k9, .slice b10 l10 k10, .slice b11 l11 k11, .slice b12 l12 k12, .slice b13 l13 k13, .string nod, .string hop])) (fun i _ => l6 - (intOf i).toNat)
 case atStart => exact ⟨0, Nat.zero_le _, rfl, B13⟩
 case round =>
  obtain ⟨k, hk, rfl, hB⟩ := hrel
  obtain ⟨p6, _⟩ := hB.out.p.2 6 _ rfl
  obtain ⟨y6, _⟩ := hB.out.y.2 6 _ rfl
  by_cases hlt : k < l6
  ·
   have hltz : (k : Int) < (l6 : Int) := by omega
   obtain ⟨D, off, rfl, hD, _, cs, hra, hva⟩ := (S6.out.on RBear.firm hB.out.b).get hlt
   obtain ⟨D', off', rfl, hD', _, cs', hrb, hvb⟩ := (T6.out.on RBear.firm hB.out.b).get hlt
   obtain ⟨rfl, _⟩ := hra.out
   obtain ⟨rfl, _⟩ := hrb.out
   have d0 := hva 0 _ rfl
   have g0 := hvb 0 _ rfl
   have d1 := hva 1 _ rfl
   have g1 := hvb 1 _ rfl
   have d2 := hva 2 _ rfl
   have g2 := hvb 2 _ rfl
   have d3 := hva 3 _ rfl
   have g3 := hvb 3 _ rfl
   rw [Nat.add_zero] at d0 g0
   clear hva hvb hra hrb
   generalize brs.getD k default = z at d0 d1 d2 d3 g0 g1 g2 g3
   obtain ⟨z0, z1, z2, z3⟩ := z
   simp only at d0 d1 d2 d3 g0 g1 g2 g3
   have nT := neqBe_same z0 z1 z2 z3
   go_wp2_with fail
   go_quiet (fail)
   go_wp2_with fail
   go_roundw
   case rel => exact ⟨k + 1, by omega, by go_num, hB.out.on (below_drewN (Below.refl _ _) _)⟩
   case measure => simp [intOf]; omega
  ·
   have hlz : ¬ ((k : Int) < (l6 : Int)) := by omega
   clear y6
   go_wp2_with fail
   have hl8 := S8.out.len (by decide)
   go_loopw [6] (fun i wr => ∃ k : Nat, k ≤ l8 ∧ i = .int .i64 k ∧ Hid (PB2 w wr [.string nm, .int .i64 pri, .slice a2 l2 m2, .int .i64 wa, .int .i64 wb, .int .i64 wc, .slice a6 l6 m6, .slice a7 l7 m7, .slice a8 l8 m8, .slice a9 l9 m9, .slice a10 l10 m10, .slice a11 l11 m11, .slice a12 l12 m12, .slice a13 l13 m13, .string nod, .string hop] [.string nm, .int .i64 pri, .slice b2 l2 k2, .int .i64 wa, .int .i64 wb, .int .i64 wc, .slice b6 l6 k6, .slice b7 l7 k7, .slice b8 l8 k8, .slice b9 l9 k9, .slice b10 l10 k10, .slice b11 l11 k11, .slice b12 l12 k12, .slice b13 l13 k13, .string nod, .string hop])) (fun i _ => l8 - (intOf i).toNat)
   case atStart => exact ⟨0, Nat.zero_le _, rfl, hB⟩
   case round =>
    obtain ⟨k, hk, rfl, hB⟩ := hrel
    obtain ⟨p8, _⟩ := hB.out.p.2 8 _ rfl
    obtain ⟨y8, _⟩ := hB.out.y.2 8 _ rfl
    by_cases hlt : k < l8
    ·
     have hltz : (k : Int) < (l8 : Int) := by omega
     obtain ⟨D, off, rfl, hD, _, cs, hra, hva⟩ := (S8.out.on RPrefer.firm hB.out.b).get hlt
     obtain ⟨D', off', rfl, hD', _, cs', hrb, hvb⟩ := (T8.out.on RPrefer.firm hB.out.b).get hlt
     obtain ⟨⟨c1, c2, c3⟩, rfl, hTa⟩ := hra.out
     obtain ⟨⟨e1, e2, e3⟩, rfl, hTb⟩ := hrb.out
     have d0 := hva 0 _ rfl
     have g0 := hvb 0 _ rfl
     have d1 := hva 1 _ rfl
     have g1 := hvb 1 _ rfl
     rw [Nat.add_zero] at d0 g0
     have HM : Hid (∀ m, Calls prog 64 #[.slice c1 c2 c3, .slice e1 e2 e3] (wr.drewN m) fun e w' => e = .returned (.bool true) ∧ ∃ q, w' = (wr.drewN m).drewN q) := fun m => by
      have := SameReqs_calls c1 c2 c3 A _ e1 e2 e3 A' _ (wr.drewN m) (hTa.on RReq.firm (below_drewN (Below.refl _ _) _)) (hTb.on RReq.firm (below_drewN (Below.refl _ _) _))
      simpa using this
     clear hva hvb hra hrb hTa hTb
     generalize prf.getD k default = z at d0 d1 g0 g1
     go_wp2_with fail
     go_quiet ((go_at_call 64; exact Calls.quiet_of (HM.out _)))
     go_wp2_with fail
     go_roundw
     case rel => exact ⟨k + 1, by omega, by go_num, hB.out.on (below_drewN (Below.refl _ _) _)⟩
     case measure => simp [intOf]; omega
    ·
     have hlz : ¬ ((k : Int) < (l8 : Int)) := by omega
     clear y8
     go_wp2_with fail
     have hl12 := S12.out.len (by decide)
     go_loopw [7] (fun i wr => ∃ k : Nat, k ≤ l12 ∧ i = .int .i64 k ∧ Hid (PB2 w wr [.string nm, .int .i64 pri, .slice a2 l2 m2, .int .i64 wa, .int .i64 wb, .int .i64 wc, .slice a6 l6 m6, .slice a7 l7 m7, .slice a8 l8 m8, .slice a9 l9 m9, .slice a10 l10 m10, .slice a11 l11 m11, .slice a12 l12 m12, .slice a13 l13 m13, .string nod, .string hop] [.string nm, .int .i64 pri, .slice b2 l2 k2, .int .i64 wa, .int .i64 wb, .int .i64 wc, .slice b6 l6 k6, .slice b7 l7 k7, .slice b8 l8 k8, .slice b9 l9 k9, .slice b10 l10 k10, .slice b11 l11 k11, .slice b12 l12 k12, .slice b13 l13 k13, .string nod, .string hop])) (fun i _ => l12 - (intOf i).toNat)
     case atStart => exact ⟨0, Nat.zero_le _, rfl, hB⟩
     case round =>
      obtain ⟨k, hk, rfl, hB⟩ := hrel
      obtain ⟨p12, _⟩ := hB.out.p.2 12 _ rfl
      obtain ⟨y12, _⟩ := hB.out.y.2 12 _ rfl
      by_cases hlt : k < l12
      ·
       have hltz : (k : Int) < (l12 : Int) := by omega
       obtain ⟨D, off, rfl, hD, _, cs, hra, hva⟩ := (S12.out.on RSpread.firm hB.out.b).get hlt
       obtain ⟨D', off', rfl, hD', _, cs', hrb, hvb⟩ := (T12.out.on RSpread.firm hB.out.b).get hlt
       obtain ⟨⟨c1, c2, c3⟩, rfl, _, hTa⟩ := hra.out
       obtain ⟨⟨e1, e2, e3⟩, rfl, _, hTb⟩ := hrb.out
       have d0 := hva 0 _ rfl
       have g0 := hvb 0 _ rfl
       have d1 := hva 1 _ rfl
       have g1 := hvb 1 _ rfl
       have d2 := hva 2 _ rfl
       have g2 := hvb 2 _ rfl
       have d3 := hva 3 _ rfl
       have g3 := hvb 3 _ rfl
       rw [Nat.add_zero] at d0 g0
       have hTa' : Hid (SlAt RReq 3 48 A wr c1 c2 c3 (spr.getD k default).2.2.2) := hTa
       have hTb' : Hid (SlAt RReq 3 48 A' wr e1 e2 e3 (spr.getD k default).2.2.2) := hTb
       clear hTa hTb hra hrb hva hvb
       generalize spr.getD k default = z at d0 d1 d2 d3 g0 g1 g2 g3 hTa' hTb'
       obtain ⟨z0, z1, z2, z3⟩ := z
       simp only at d0 d1 d2 d3 g0 g1 g2 g3 hTa' hTb'
       have hD1 : w.heap.size < wr.heap.size := hB.out.p.1
       have hD2 : w.heap.size + 1 < wr.heap.size := hB.out.y.1
       have : w.heap.size ≠ wr.heap.size := by omega
       have : w.heap.size ≠ wr.heap.size + 1 := by omega
       have : w.heap.size + 1 ≠ wr.heap.size := by omega
       have : w.heap.size + 1 ≠ wr.heap.size + 1 := by omega
       have : D ≠ wr.heap.size := by omega
       have : D ≠ wr.heap.size + 1 := by omega
       have : D' ≠ wr.heap.size := by omega
       have : D' ≠ wr.heap.size + 1 := by omega
       go_upto_region 18 with fail
       go_cut [8, 9] (fun p q wx => ∃ X Y : Nat, p = .pointer (some ⟨X, 0, none⟩) ∧ q = .pointer (some ⟨Y, 0, none⟩) ∧ wx.cell? ⟨X, 0, none⟩ = some (.string z0) ∧ wx.cell? ⟨X, 1, none⟩ = some (.int .i64 z1) ∧ wx.cell? ⟨X, 2, none⟩ = some (.int .i64 z2) ∧ wx.cell? ⟨X, 3, none⟩ = some (.slice c1 c2 c3) ∧ wx.cell? ⟨Y, 0, none⟩ = some (.string z0) ∧ wx.cell? ⟨Y, 1, none⟩ = some (.int .i64 z1) ∧ wx.cell? ⟨Y, 2, none⟩ = some (.int .i64 z2) ∧ wx.cell? ⟨Y, 3, none⟩ = some (.slice e1 e2 e3) ∧ Below wr.heap.size wr wx)
       case first =>
        go_region_held3 (fun w' => w'.cell? ⟨w.heap.size, 12, none⟩ = some (.slice (some ⟨D, off, none⟩) l12 m12) ∧ w'.cell? ⟨w.heap.size + 1, 12, none⟩ = some (.slice (some ⟨D', off', none⟩) l12 k12) ∧ w'.cell? ⟨D, off + k * 4, none⟩ = some (.string z0) ∧ w'.cell? ⟨D, off + k * 4 + 1, none⟩ = some (.int .i64 z1) ∧ w'.cell? ⟨D, off + k * 4 + 2, none⟩ = some (.int .i64 z2) ∧ w'.cell? ⟨D, off + k * 4 + 3, none⟩ = some (.slice c1 c2 c3) ∧ w'.cell? ⟨D', off' + k * 4, none⟩ = some (.string z0) ∧ w'.cell? ⟨D', off' + k * 4 + 1, none⟩ = some (.int .i64 z1) ∧ w'.cell? ⟨D', off' + k * 4 + 2, none⟩ = some (.int .i64 z2) ∧ w'.cell? ⟨D', off' + k * 4 + 3, none⟩ = some (.slice e1 e2 e3)) ((refine ⟨?_, ?_, ?_, ?_, ?_, ?_, ?_, ?_, ?_, ?_⟩) <;> (simp [*, go_sem]; done)) (fail)
        all_goals
         go_wp2_with fail
         go_meet
         refine ⟨_, _, rfl, rfl, ?_, ?_, ?_, ?_, ?_, ?_, ?_, ?_, ?_⟩
         all_goals first | (simp [go_sem]; done) | (simp [go_sem]; omega) | go_grown
       case rest =>
        obtain ⟨X, Y, rfl, rfl, x0, x1, x2, x3, v0, v1, v2, v3, hbc⟩ := hcut
        have hbe : Hid (Below wr.heap.size wr wc) := hbc
        clear hbc
        go_wp2_with fail
        refine (SameReqs_calls c1 c2 c3 A z3 e1 e2 e3 A' z3 wc (hTa'.out.on RReq.firm hbe.out) (hTb'.out.on RReq.firm hbe.out)).mono ?_
        rintro e V9 ⟨he, q, hq⟩
        replace he : e = .returned (.bool true) := by rw [he]; simp
        subst he
        have hb9 : Hid (Below wr.heap.size wr V9) := by rw [Hid, hq]; exact below_drewN hbe.out _
        clear hq
        go_wp2_with fail
        go_roundw
        case rel => exact ⟨k + 1, by omega, by go_num, hB.out.on hb9.out⟩
        case measure => simp [intOf]; omega
      ·
       have hlz : ¬ ((k : Int) < (l12 : Int)) := by omega
       clear y12
       go_wp2_with fail
       go_ret
       exact ⟨rfl, hB.out.b⟩
theorem tells_it {α : Type} {e : Ending} {x : α} (h : TellsEq e x x) : e = .returned (.bool true) := by
 obtain ⟨r, rfl, hr⟩ := h
 rw [hr.2 rfl]
theorem neqCl_same (x : ClaimD) (w : World) : Sem.run prog (binOp .neq 40 (.agg #[.string x.1, .int .i64 x.2.1, .string x.2.2.1, .string x.2.2.2]) (.agg #[.string x.1, .int .i64 x.2.1, .string x.2.2.1, .string x.2.2.2])) w = .ok (.bool false) w := by
 have u3 := underlying3
 have a3 := Tryz.isAgg3
 have z3 := Tryz.sizeOf3
 have u9 := underlying9
 have a9 := Tryz.isAgg9
 have z9 := Tryz.sizeOf9
 have hS : prog.underlying 40 = some (.struct (prog.fieldsOf 40)) := by kernel_rfl
 have hp : prog.stoodInHeld 40 = false := by kernel_rfl
 rw [run_neq_struct, show (10000 : Nat) = 9999 + 1 from rfl, run_equalIn_agg w 9999 40 _ _ hS hp]
 simp only [Program.fieldsOf, underlying40]
 go_simp
 try simp
theorem neqCs_same (x : ClassD) (w : World) : Sem.run prog (binOp .neq 42 (.agg #[.string x.1, .bool x.2]) (.agg #[.string x.1, .bool x.2])) w = .ok (.bool false) w := by
 have u4 := underlying4
 have a4 := Tryz.isAgg4
 have z4 := Tryz.sizeOf4
 have u9 := underlying9
 have a9 := Tryz.isAgg9
 have z9 := Tryz.sizeOf9
 have hS : prog.underlying 42 = some (.struct (prog.fieldsOf 42)) := by kernel_rfl
 have hp : prog.stoodInHeld 42 = false := by kernel_rfl
 rw [run_neq_struct, show (10000 : Nat) = 9999 + 1 from rfl, run_equalIn_agg w 9999 42 _ _ hS hp]
 simp only [Program.fieldsOf, underlying42]
 go_simp
 try simp
theorem guardCl : prog.eqGuardType prog.depth 40 = false := by kernel_rfl
theorem guardCs : prog.eqGuardType prog.depth 42 = false := by kernel_rfl
def SsS (D E : Nat) (P I : List Value) (B o C q : Nat) (c d : List Value) (u : World) : Prop := BoxL u D P ∧ BoxL u E I ∧ u.rangeAt B o c ∧ u.rangeAt C q d
theorem range_on8 {u u' : World} {B o : Nat} {c : List Value} (h : u.rangeAt B o c) (hB : B < u.heap.size) (hb : Below u.heap.size u u') : u'.rangeAt B o c := fun j v hj => (hb.cell (p := ⟨B, o + j, none⟩) hB).trans (h j v hj)
theorem SameState_yes (cs ds : List Value) (A A' : Where) (x : StateD) (w : World) (h : Hid (RState A w cs x)) (h' : Hid (RState A' w ds x)) : Calls prog 18 #[.agg cs.toArray, .agg ds.toArray] w fun e w' => e = .returned (.bool true) ∧ Below w.heap.size w w' := by
 obtain ⟨⟨a0, n0, c0⟩, ⟨a1, n1, c1⟩, ⟨a2, n2, c2⟩, ⟨a3, n3, c3⟩, ⟨a4, n4, c4⟩, ⟨a5, n5, c5⟩, rfl, p0, p1, p2, p3, p4, p5⟩ := h.out.out
 obtain ⟨⟨b0, m0, d0⟩, ⟨b1, m1, d1⟩, ⟨b2, m2, d2⟩, ⟨b3, m3, d3⟩, ⟨b4, m4, d4⟩, ⟨b5, m5, d5⟩, rfl, q0, q1, q2, q3, q4, q5⟩ := h'.out.out
 simp only at p0 q0 p1 q1 p2 q2 p3 q3 p4 q4 p5 q5
 obtain rfl : n0 = m0 := p0.1.symm.trans q0.1
 have P0 : Hid (∀ u, Below w.heap.size w u → SlAt RPod 16 296 A u a0 n0 c0 x.1) := fun u hb => p0.on RPod.firm hb
 have Q0 : Hid (∀ u, Below w.heap.size w u → SlAt RPod 16 296 A' u b0 n0 d0 x.1) := fun u hb => q0.on RPod.firm hb
 have l0 : n0 ≤ 140737488355328 := by have := p0.2.2.2.1; omega
 obtain rfl : n1 = m1 := p1.1.symm.trans q1.1
 have P1 : Hid (∀ u, Below w.heap.size w u → SlAt RNode 9 112 A u a1 n1 c1 x.2.1) := fun u hb => p1.on RNode.firm hb
 have Q1 : Hid (∀ u, Below w.heap.size w u → SlAt RNode 9 112 A' u b1 n1 d1 x.2.1) := fun u hb => q1.on RNode.firm hb
 have l1 : n1 ≤ 140737488355328 := by have := p1.2.2.2.1; omega
 obtain rfl : n2 = m2 := p2.1.symm.trans q2.1
 have P2 : Hid (∀ u, Below w.heap.size w u → SlAt RVolume 5 80 A u a2 n2 c2 x.2.2.1) := fun u hb => p2.on RVolume.firm hb
 have Q2 : Hid (∀ u, Below w.heap.size w u → SlAt RVolume 5 80 A' u b2 n2 d2 x.2.2.1) := fun u hb => q2.on RVolume.firm hb
 have l2 : n2 ≤ 140737488355328 := by have := p2.2.2.2.1; omega
 obtain rfl : n3 = m3 := p3.1.symm.trans q3.1
 have P3 : Hid (∀ u, Below w.heap.size w u → SlAt RClaim 4 56 A u a3 n3 c3 x.2.2.2.1) := fun u hb => p3.on RClaim.firm hb
 have Q3 : Hid (∀ u, Below w.heap.size w u → SlAt RClaim 4 56 A' u b3 n3 d3 x.2.2.2.1) := fun u hb => q3.on RClaim.firm hb
 have l3 : n3 ≤ 140737488355328 := by have := p3.2.2.2.1; omega
 obtain rfl : n4 = m4 := p4.1.symm.trans q4.1
 have P4 : Hid (∀ u, Below w.heap.size w u → SlAt RClass 2 24 A u a4 n4 c4 x.2.2.2.2.1) := fun u hb => p4.on RClass.firm hb
 have Q4 : Hid (∀ u, Below w.heap.size w u → SlAt RClass 2 24 A' u b4 n4 d4 x.2.2.2.2.1) := fun u hb => q4.on RClass.firm hb
 have l4 : n4 ≤ 140737488355328 := by have := p4.2.2.2.1; omega
 obtain rfl : n5 = m5 := p5.1.symm.trans q5.1
 have P5 : Hid (∀ u, Below w.heap.size w u → SlAt RBudget 3 48 A u a5 n5 c5 x.2.2.2.2.2) := fun u hb => p5.on RBudget.firm hb
 have Q5 : Hid (∀ u, Below w.heap.size w u → SlAt RBudget 3 48 A' u b5 n5 d5 x.2.2.2.2.2) := fun u hb => q5.on RBudget.firm hb
 have l5 : n5 ≤ 140737488355328 := by have := p5.2.2.2.1; omega
 clear h h' p0 q0 p1 q1 p2 q2 p3 q3 p4 q4 p5 q5
 obtain ⟨W2, hW2⟩ : ∃ W2, W2 = (w.alloc (.cells #[.slice a0 n0 c0, .slice a1 n1 c1, .slice a2 n2 c2, .slice a3 n3 c3, .slice a4 n4 c4, .slice a5 n5 c5] 61)).alloc (.cells #[.slice b0 n0 d0, .slice b1 n1 d1, .slice b2 n2 d2, .slice b3 n3 d3, .slice b4 n4 d4, .slice b5 n5 d5] 61) := ⟨_, rfl⟩
 have B2 : Hid (∀ u, Below W2.heap.size W2 u → Below w.heap.size w u) := fun u hb => on2 (by rw [hW2]; go_grown) hb
 have HS : Hid (∀ u, Below W2.heap.size W2 u → BoxL u w.heap.size [.slice a0 n0 c0, .slice a1 n1 c1, .slice a2 n2 c2, .slice a3 n3 c3, .slice a4 n4 c4, .slice a5 n5 c5] ∧ BoxL u (w.heap.size + 1) [.slice b0 n0 d0, .slice b1 n1 d1, .slice b2 n2 d2, .slice b3 n3 d3, .slice b4 n4 d4, .slice b5 n5 d5]) := fun u hb => ⟨BoxL.on (by rw [hW2]; exact (BoxL.new w 61 [.slice a0 n0 c0, .slice a1 n1 c1, .slice a2 n2 c2, .slice a3 n3 c3, .slice a4 n4 c4, .slice a5 n5 c5]).on ((Below.refl _ _).alloc (Nat.le_refl _) _)) hb, BoxL.on (by have h1 := BoxL.new (w.alloc (.cells #[.slice a0 n0 c0, .slice a1 n1 c1, .slice a2 n2 c2, .slice a3 n3 c3, .slice a4 n4 c4, .slice a5 n5 c5] 61)) 61 [.slice b0 n0 d0, .slice b1 n1 d1, .slice b2 n2 d2, .slice b3 n3 d3, .slice b4 n4 d4, .slice b5 n5 d5]; rw [hW2]; simpa using h1) hb⟩
 go_enter func18, ntmps18
 go_wp2_with fail
 rw [← hW2]
 clear hW2
 obtain ⟨P, hP⟩ : ∃ P : List Value, P = [.slice a0 n0 c0, .slice a1 n1 c1, .slice a2 n2 c2, .slice a3 n3 c3, .slice a4 n4 c4, .slice a5 n5 c5] := ⟨_, rfl⟩
 obtain ⟨I, hI0⟩ : ∃ I : List Value, I = [.slice b0 n0 d0, .slice b1 n1 d1, .slice b2 n2 d2, .slice b3 n3 d3, .slice b4 n4 d4, .slice b5 n5 d5] := ⟨_, rfl⟩
 rw [← hP, ← hI0] at HS
 have HP0 : Hid (P[0]? = some (.slice a0 n0 c0)) := by rw [Hid, hP]; rfl
 have HI0 : Hid (I[0]? = some (.slice b0 n0 d0)) := by rw [Hid, hI0]; rfl
 have HP1 : Hid (P[1]? = some (.slice a1 n1 c1)) := by rw [Hid, hP]; rfl
 have HI1 : Hid (I[1]? = some (.slice b1 n1 d1)) := by rw [Hid, hI0]; rfl
 have HP2 : Hid (P[2]? = some (.slice a2 n2 c2)) := by rw [Hid, hP]; rfl
 have HI2 : Hid (I[2]? = some (.slice b2 n2 d2)) := by rw [Hid, hI0]; rfl
 have HP3 : Hid (P[3]? = some (.slice a3 n3 c3)) := by rw [Hid, hP]; rfl
 have HI3 : Hid (I[3]? = some (.slice b3 n3 d3)) := by rw [Hid, hI0]; rfl
 have HP4 : Hid (P[4]? = some (.slice a4 n4 c4)) := by rw [Hid, hP]; rfl
 have HI4 : Hid (I[4]? = some (.slice b4 n4 d4)) := by rw [Hid, hI0]; rfl
 have HP5 : Hid (P[5]? = some (.slice a5 n5 c5)) := by rw [Hid, hP]; rfl
 have HI5 : Hid (I[5]? = some (.slice b5 n5 d5)) := by rw [Hid, hI0]; rfl
 clear hP hI0
 go_loopw [5] (fun i wr => ∃ k : Nat, k ≤ n0 ∧ i = .int .i64 k ∧ Hid (Below W2.heap.size W2 wr)) (fun i _ => n0 - (intOf i).toNat)
 case atStart => exact ⟨0, Nat.zero_le _, rfl, Below.refl _ _⟩
 case round =>
  obtain ⟨k, hk, rfl, hI⟩ := hrel
  obtain ⟨y0, _⟩ := (HS.out wr hI.out).1.2 0 _ HP0.out
  by_cases hlt : k < n0
  ·
   have hltz : (k : Int) < (n0 : Int) := by omega
   obtain ⟨B, o, rfl, hB, _, ca, r1, v1⟩ := (P0.out w (Below.refl _ _)).get hlt
   obtain ⟨C, q, rfl, hC, _, cb, r2, v2⟩ := (Q0.out w (Below.refl _ _)).get hlt
   generalize x.1.getD k default = z at r1 r2
   have hi1 : (prog.info? 33).map (·.size) = some ca.length := by rw [RPod.firm.len r1]; kernel_rfl
   have hi2 : (prog.info? 33).map (·.size) = some cb.length := by rw [RPod.firm.len r2]; kernel_rfl
   have H1 : Hid (∀ u, Below w.heap.size w u → RPod A u ca z) := fun u hb => RPod.firm.kept r1 (Kept.below hb)
   have H2 : Hid (∀ u, Below w.heap.size w u → RPod A' u cb z) := fun u hb => RPod.firm.kept r2 (Kept.below hb)
   have HT : Hid (∀ u, Below W2.heap.size W2 u → SsS w.heap.size (w.heap.size + 1) P I B (o + k * 16) C (q + k * 16) ca cb u) := fun u hb => ⟨(HS.out u hb).1, (HS.out u hb).2, range_on8 (fun j v hj => v1 j v hj) hB (B2.out u hb), range_on8 (fun j v hj => v2 j v hj) hC (B2.out u hb)⟩
   clear r1 r2 v1 v2
   go_upto_region 6 with fail
   refine t0 (SsS w.heap.size (w.heap.size + 1) P I B (o + k * 16) C (q + k * 16) ca cb) (HT.out _ (hI.out.drew)) (fun hH => ?_)
   refine tp 0 ?_; try go_frame
   refine' tk 1 ?_ ?_; rotate_left
   ·
    intro u hu; have e0 := (hu.1.2 0 _ HP0.out).1; have e1 := (hu.2.1.2 0 _ HI0.out).1; clear hu; go_simp; try with_reducible rfl
   try go_frame
   refine tp 2 ?_; try go_frame
   refine tp 3 ?_; try go_frame
   refine tq 4 (.agg (ca : List Value).toArray) (yieldsIf_load_mid rfl 33 _ rfl B (o + k * 16) rfl ca _ (fun u hu => hu.2.2.1) underlying33 rfl hi1) ?_; try go_frame
   refine tp 5 ?_; try go_frame
   refine' tk 6 ?_ ?_; rotate_left
   ·
    intro u hu; have e0 := (hu.1.2 0 _ HP0.out).1; have e1 := (hu.2.1.2 0 _ HI0.out).1; clear hu; go_simp; try with_reducible rfl
   try go_frame
   refine tp 7 ?_; try go_frame
   refine tp 8 ?_; try go_frame
   refine tq 9 (.agg (cb : List Value).toArray) (yieldsIf_load_mid rfl 33 _ rfl C (q + k * 16) rfl cb _ (fun u hu => hu.2.2.2) underlying33 rfl hi2) ?_; try go_frame
   refine tr 10 (fun K hK => ?_)
   go_simp
   refine (SamePod_yes ca cb A A' z wr.drew (H1.out _ (B2.out _ hI.out.drew)) (H2.out _ (B2.out _ hI.out.drew))).mono ?_
   rintro e v ⟨he, hbv⟩
   subst he
   have hbN : Below W2.heap.size W2 v := on2 hI.out.drew hbv
   go_wp2_with fail
   refine hK.out _ _ (HT.out _ hbN) (fun hH => ?_)
   clear hK K
   try go_frame
   refine tp 11 ?_; try go_frame
   refine tz ?_
   have HbN : Hid (Below W2.heap.size W2 _) := hbN
   clear hH HT hbN hI y0
   go_wp2_with fail
   go_roundw
   case rel => exact ⟨k + 1, by omega, by go_num, HbN⟩
   case measure => simp [intOf]; omega
  ·
   have hlz : ¬ ((k : Int) < (n0 : Int)) := by omega
   have BB0 : Hid (Below W2.heap.size W2 wr) := hI
   clear hI
   go_wp2_with fail
   clear y0 hlz hlt
   go_loopw [6] (fun i wr => ∃ k : Nat, k ≤ n1 ∧ i = .int .i64 k ∧ Hid (Below W2.heap.size W2 wr)) (fun i _ => n1 - (intOf i).toNat)
   case atStart => exact ⟨0, Nat.zero_le _, rfl, BB0⟩
   case round =>
    obtain ⟨k, hk, rfl, hI⟩ := hrel
    obtain ⟨y0, _⟩ := (HS.out wr hI.out).1.2 1 _ HP1.out
    by_cases hlt : k < n1
    ·
     have hltz : (k : Int) < (n1 : Int) := by omega
     obtain ⟨B, o, rfl, hB, _, ca, r1, v1⟩ := (P1.out w (Below.refl _ _)).get hlt
     obtain ⟨C, q, rfl, hC, _, cb, r2, v2⟩ := (Q1.out w (Below.refl _ _)).get hlt
     generalize x.2.1.getD k default = z at r1 r2
     have hi1 : (prog.info? 36).map (·.size) = some ca.length := by rw [RNode.firm.len r1]; kernel_rfl
     have hi2 : (prog.info? 36).map (·.size) = some cb.length := by rw [RNode.firm.len r2]; kernel_rfl
     have H1 : Hid (∀ u, Below w.heap.size w u → RNode A u ca z) := fun u hb => RNode.firm.kept r1 (Kept.below hb)
     have H2 : Hid (∀ u, Below w.heap.size w u → RNode A' u cb z) := fun u hb => RNode.firm.kept r2 (Kept.below hb)
     have HT : Hid (∀ u, Below W2.heap.size W2 u → SsS w.heap.size (w.heap.size + 1) P I B (o + k * 9) C (q + k * 9) ca cb u) := fun u hb => ⟨(HS.out u hb).1, (HS.out u hb).2, range_on8 (fun j v hj => v1 j v hj) hB (B2.out u hb), range_on8 (fun j v hj => v2 j v hj) hC (B2.out u hb)⟩
     clear r1 r2 v1 v2
     go_upto_region 11 with fail
     refine t0 (SsS w.heap.size (w.heap.size + 1) P I B (o + k * 9) C (q + k * 9) ca cb) (HT.out _ (hI.out.drew)) (fun hH => ?_)
     refine tp 0 ?_; try go_frame
     refine' tk 1 ?_ ?_; rotate_left
     ·
      intro u hu; have e0 := (hu.1.2 1 _ HP1.out).1; have e1 := (hu.2.1.2 1 _ HI1.out).1; clear hu; go_simp; try with_reducible rfl
     try go_frame
     refine tp 2 ?_; try go_frame
     refine tp 3 ?_; try go_frame
     refine tq 4 (.agg (ca : List Value).toArray) (yieldsIf_load_mid rfl 36 _ rfl B (o + k * 9) rfl ca _ (fun u hu => hu.2.2.1) underlying36 rfl hi1) ?_; try go_frame
     refine tp 5 ?_; try go_frame
     refine' tk 6 ?_ ?_; rotate_left
     ·
      intro u hu; have e0 := (hu.1.2 1 _ HP1.out).1; have e1 := (hu.2.1.2 1 _ HI1.out).1; clear hu; go_simp; try with_reducible rfl
     try go_frame
     refine tp 7 ?_; try go_frame
     refine tp 8 ?_; try go_frame
     refine tq 9 (.agg (cb : List Value).toArray) (yieldsIf_load_mid rfl 36 _ rfl C (q + k * 9) rfl cb _ (fun u hu => hu.2.2.2) underlying36 rfl hi2) ?_; try go_frame
     refine tr 10 (fun K hK => ?_)
     go_simp
     refine (SameNode_calls ca cb A A' z z wr.drew (H1.out _ (B2.out _ hI.out.drew)) (H2.out _ (B2.out _ hI.out.drew))).mono ?_
     rintro e v ⟨he, hbv⟩
     obtain rfl := tells_it he
     clear he
     have hbN : Below W2.heap.size W2 v := on2 hI.out.drew hbv
     go_wp2_with fail
     refine hK.out _ _ (HT.out _ hbN) (fun hH => ?_)
     clear hK K
     try go_frame
     refine tp 11 ?_; try go_frame
     refine tz ?_
     have HbN : Hid (Below W2.heap.size W2 _) := hbN
     clear hH HT hbN hI y0
     go_wp2_with fail
     go_roundw
     case rel => exact ⟨k + 1, by omega, by go_num, HbN⟩
     case measure => simp [intOf]; omega
    ·
     have hlz : ¬ ((k : Int) < (n1 : Int)) := by omega
     have BB1 : Hid (Below W2.heap.size W2 wr) := hI
     clear hI
     go_wp2_with fail
     clear y0 hlz hlt
     go_loopw [7] (fun i wr => ∃ k : Nat, k ≤ n2 ∧ i = .int .i64 k ∧ Hid (Below W2.heap.size W2 wr)) (fun i _ => n2 - (intOf i).toNat)
     case atStart => exact ⟨0, Nat.zero_le _, rfl, BB1⟩
     case round =>
      obtain ⟨k, hk, rfl, hI⟩ := hrel
      obtain ⟨y0, _⟩ := (HS.out wr hI.out).1.2 2 _ HP2.out
      by_cases hlt : k < n2
      ·
       have hltz : (k : Int) < (n2 : Int) := by omega
       obtain ⟨B, o, rfl, hB, _, ca, r1, v1⟩ := (P2.out w (Below.refl _ _)).get hlt
       obtain ⟨C, q, rfl, hC, _, cb, r2, v2⟩ := (Q2.out w (Below.refl _ _)).get hlt
       generalize x.2.2.1.getD k default = z at r1 r2
       have hi1 : (prog.info? 38).map (·.size) = some ca.length := by rw [RVolume.firm.len r1]; kernel_rfl
       have hi2 : (prog.info? 38).map (·.size) = some cb.length := by rw [RVolume.firm.len r2]; kernel_rfl
       have H1 : Hid (∀ u, Below w.heap.size w u → RVolume A u ca z) := fun u hb => RVolume.firm.kept r1 (Kept.below hb)
       have H2 : Hid (∀ u, Below w.heap.size w u → RVolume A' u cb z) := fun u hb => RVolume.firm.kept r2 (Kept.below hb)
       have HT : Hid (∀ u, Below W2.heap.size W2 u → SsS w.heap.size (w.heap.size + 1) P I B (o + k * 5) C (q + k * 5) ca cb u) := fun u hb => ⟨(HS.out u hb).1, (HS.out u hb).2, range_on8 (fun j v hj => v1 j v hj) hB (B2.out u hb), range_on8 (fun j v hj => v2 j v hj) hC (B2.out u hb)⟩
       clear r1 r2 v1 v2
       go_upto_region 16 with fail
       refine t0 (SsS w.heap.size (w.heap.size + 1) P I B (o + k * 5) C (q + k * 5) ca cb) (HT.out _ (hI.out.drew)) (fun hH => ?_)
       refine tp 0 ?_; try go_frame
       refine' tk 1 ?_ ?_; rotate_left
       ·
        intro u hu; have e0 := (hu.1.2 2 _ HP2.out).1; have e1 := (hu.2.1.2 2 _ HI2.out).1; clear hu; go_simp; try with_reducible rfl
       try go_frame
       refine tp 2 ?_; try go_frame
       refine tp 3 ?_; try go_frame
       refine tq 4 (.agg (ca : List Value).toArray) (yieldsIf_load_mid rfl 38 _ rfl B (o + k * 5) rfl ca _ (fun u hu => hu.2.2.1) underlying38 rfl hi1) ?_; try go_frame
       refine tp 5 ?_; try go_frame
       refine' tk 6 ?_ ?_; rotate_left
       ·
        intro u hu; have e0 := (hu.1.2 2 _ HP2.out).1; have e1 := (hu.2.1.2 2 _ HI2.out).1; clear hu; go_simp; try with_reducible rfl
       try go_frame
       refine tp 7 ?_; try go_frame
       refine tp 8 ?_; try go_frame
       refine tq 9 (.agg (cb : List Value).toArray) (yieldsIf_load_mid rfl 38 _ rfl C (q + k * 5) rfl cb _ (fun u hu => hu.2.2.2) underlying38 rfl hi2) ?_; try go_frame
       refine tr 10 (fun K hK => ?_)
       go_simp
       refine (SameVolume_calls ca cb A A' z z wr.drew (H1.out _ (B2.out _ hI.out.drew)) (H2.out _ (B2.out _ hI.out.drew))).mono ?_
       rintro e v ⟨he, hbv⟩
       obtain rfl := tells_it he
       clear he
       have hbN : Below W2.heap.size W2 v := on2 hI.out.drew hbv
       go_wp2_with fail
       refine hK.out _ _ (HT.out _ hbN) (fun hH => ?_)
       clear hK K
       try go_frame
       refine tp 11 ?_; try go_frame
       refine tz ?_
       have HbN : Hid (Below W2.heap.size W2 _) := hbN
       clear hH HT hbN hI y0
       go_wp2_with fail
       go_roundw
       case rel => exact ⟨k + 1, by omega, by go_num, HbN⟩
       case measure => simp [intOf]; omega
      ·
       have hlz : ¬ ((k : Int) < (n2 : Int)) := by omega
       have BB2 : Hid (Below W2.heap.size W2 wr) := hI
       clear hI
       go_wp2_with fail
       clear y0 hlz hlt
       go_loopw [8] (fun i wr => ∃ k : Nat, k ≤ n3 ∧ i = .int .i64 k ∧ Hid (Below W2.heap.size W2 wr)) (fun i _ => n3 - (intOf i).toNat)
       case atStart => exact ⟨0, Nat.zero_le _, rfl, BB2⟩
       case round =>
        obtain ⟨k, hk, rfl, hI⟩ := hrel
        obtain ⟨y0, _⟩ := (HS.out wr hI.out).1.2 3 _ HP3.out
        by_cases hlt : k < n3
        ·
         have hltz : (k : Int) < (n3 : Int) := by omega
         obtain ⟨B, o, rfl, hB, _, ca, r1, v1⟩ := (P3.out w (Below.refl _ _)).get hlt
         obtain ⟨C, q, rfl, hC, _, cb, r2, v2⟩ := (Q3.out w (Below.refl _ _)).get hlt
         generalize x.2.2.2.1.getD k default = z at r1 r2
         obtain ⟨rfl, _⟩ := r1.out
         obtain ⟨rfl, _⟩ := r2.out
         have hne := neqCl_same z
         have hgu := guardCl
         have hi1 : (prog.info? 40).map (·.size) = some ([.string z.1, .int .i64 z.2.1, .string z.2.2.1, .string z.2.2.2] : List Value).length := by kernel_rfl
         have hi2 := hi1
         have HT : Hid (∀ u, Below W2.heap.size W2 u → SsS w.heap.size (w.heap.size + 1) P I B (o + k * 4) C (q + k * 4) [.string z.1, .int .i64 z.2.1, .string z.2.2.1, .string z.2.2.2] [.string z.1, .int .i64 z.2.1, .string z.2.2.1, .string z.2.2.2] u) := fun u hb => ⟨(HS.out u hb).1, (HS.out u hb).2, range_on8 (fun j v hj => v1 j v hj) hB (B2.out u hb), range_on8 (fun j v hj => v2 j v hj) hC (B2.out u hb)⟩
         clear r1 r2 v1 v2
         go_upto_region 21 with fail
         refine t0 (SsS w.heap.size (w.heap.size + 1) P I B (o + k * 4) C (q + k * 4) [.string z.1, .int .i64 z.2.1, .string z.2.2.1, .string z.2.2.2] [.string z.1, .int .i64 z.2.1, .string z.2.2.1, .string z.2.2.2]) (HT.out _ (hI.out.drew)) (fun hH => ?_)
         refine tp 0 ?_; try go_frame
         refine' tk 1 ?_ ?_; rotate_left
         ·
          intro u hu; have e0 := (hu.1.2 3 _ HP3.out).1; have e1 := (hu.2.1.2 3 _ HI3.out).1; clear hu; go_simp; try with_reducible rfl
         try go_frame
         refine tp 2 ?_; try go_frame
         refine tp 3 ?_; try go_frame
         refine tq 4 (.agg ([.string z.1, .int .i64 z.2.1, .string z.2.2.1, .string z.2.2.2] : List Value).toArray) (yieldsIf_load_mid rfl 40 _ rfl B (o + k * 4) rfl [.string z.1, .int .i64 z.2.1, .string z.2.2.1, .string z.2.2.2] _ (fun u hu => hu.2.2.1) underlying40 rfl hi1) ?_; try go_frame
         refine tp 5 ?_; try go_frame
         refine' tk 6 ?_ ?_; rotate_left
         ·
          intro u hu; have e0 := (hu.1.2 3 _ HP3.out).1; have e1 := (hu.2.1.2 3 _ HI3.out).1; clear hu; go_simp; try with_reducible rfl
         try go_frame
         refine tp 7 ?_; try go_frame
         refine tp 8 ?_; try go_frame
         refine tq 9 (.agg ([.string z.1, .int .i64 z.2.1, .string z.2.2.1, .string z.2.2.2] : List Value).toArray) (yieldsIf_load_mid rfl 40 _ rfl C (q + k * 4) rfl [.string z.1, .int .i64 z.2.1, .string z.2.2.1, .string z.2.2.2] _ (fun u hu => hu.2.2.2) underlying40 rfl hi2) ?_; try go_frame
         refine tp 10 ?_; try go_frame
         have hbN : Below W2.heap.size W2 wr.drew := hI.out.drew
         refine tz ?_
         have HbN : Hid (Below W2.heap.size W2 _) := hbN
         clear hH HT hbN hI y0
         go_wp2_with fail
         go_roundw
         case rel => exact ⟨k + 1, by omega, by go_num, HbN⟩
         case measure => simp [intOf]; omega
        ·
         have hlz : ¬ ((k : Int) < (n3 : Int)) := by omega
         have BB3 : Hid (Below W2.heap.size W2 wr) := hI
         clear hI
         go_wp2_with fail
         clear y0 hlz hlt
         go_loopw [9] (fun i wr => ∃ k : Nat, k ≤ n4 ∧ i = .int .i64 k ∧ Hid (Below W2.heap.size W2 wr)) (fun i _ => n4 - (intOf i).toNat)
         case atStart => exact ⟨0, Nat.zero_le _, rfl, BB3⟩
         case round =>
          obtain ⟨k, hk, rfl, hI⟩ := hrel
          obtain ⟨y0, _⟩ := (HS.out wr hI.out).1.2 4 _ HP4.out
          by_cases hlt : k < n4
          ·
           have hltz : (k : Int) < (n4 : Int) := by omega
           obtain ⟨B, o, rfl, hB, _, ca, r1, v1⟩ := (P4.out w (Below.refl _ _)).get hlt
           obtain ⟨C, q, rfl, hC, _, cb, r2, v2⟩ := (Q4.out w (Below.refl _ _)).get hlt
           generalize x.2.2.2.2.1.getD k default = z at r1 r2
           obtain ⟨rfl, _⟩ := r1.out
           obtain ⟨rfl, _⟩ := r2.out
           have hne := neqCs_same z
           have hgu := guardCs
           have hi1 : (prog.info? 42).map (·.size) = some ([.string z.1, .bool z.2] : List Value).length := by kernel_rfl
           have hi2 := hi1
           have HT : Hid (∀ u, Below W2.heap.size W2 u → SsS w.heap.size (w.heap.size + 1) P I B (o + k * 2) C (q + k * 2) [.string z.1, .bool z.2] [.string z.1, .bool z.2] u) := fun u hb => ⟨(HS.out u hb).1, (HS.out u hb).2, range_on8 (fun j v hj => v1 j v hj) hB (B2.out u hb), range_on8 (fun j v hj => v2 j v hj) hC (B2.out u hb)⟩
           clear r1 r2 v1 v2
           go_upto_region 26 with fail
           refine t0 (SsS w.heap.size (w.heap.size + 1) P I B (o + k * 2) C (q + k * 2) [.string z.1, .bool z.2] [.string z.1, .bool z.2]) (HT.out _ (hI.out.drew)) (fun hH => ?_)
           refine tp 0 ?_; try go_frame
           refine' tk 1 ?_ ?_; rotate_left
           ·
            intro u hu; have e0 := (hu.1.2 4 _ HP4.out).1; have e1 := (hu.2.1.2 4 _ HI4.out).1; clear hu; go_simp; try with_reducible rfl
           try go_frame
           refine tp 2 ?_; try go_frame
           refine tp 3 ?_; try go_frame
           refine tq 4 (.agg ([.string z.1, .bool z.2] : List Value).toArray) (yieldsIf_load_mid rfl 42 _ rfl B (o + k * 2) rfl [.string z.1, .bool z.2] _ (fun u hu => hu.2.2.1) underlying42 rfl hi1) ?_; try go_frame
           refine tp 5 ?_; try go_frame
           refine' tk 6 ?_ ?_; rotate_left
           ·
            intro u hu; have e0 := (hu.1.2 4 _ HP4.out).1; have e1 := (hu.2.1.2 4 _ HI4.out).1; clear hu; go_simp; try with_reducible rfl
           try go_frame
           refine tp 7 ?_; try go_frame
           refine tp 8 ?_; try go_frame
           refine tq 9 (.agg ([.string z.1, .bool z.2] : List Value).toArray) (yieldsIf_load_mid rfl 42 _ rfl C (q + k * 2) rfl [.string z.1, .bool z.2] _ (fun u hu => hu.2.2.2) underlying42 rfl hi2) ?_; try go_frame
           refine tp 10 ?_; try go_frame
           have hbN : Below W2.heap.size W2 wr.drew := hI.out.drew
           refine tz ?_
           have HbN : Hid (Below W2.heap.size W2 _) := hbN
           clear hH HT hbN hI y0
           go_wp2_with fail
           go_roundw
           case rel => exact ⟨k + 1, by omega, by go_num, HbN⟩
           case measure => simp [intOf]; omega
          ·
           have hlz : ¬ ((k : Int) < (n4 : Int)) := by omega
           have BB4 : Hid (Below W2.heap.size W2 wr) := hI
           clear hI
           go_wp2_with fail
           clear y0 hlz hlt
           go_loopw [10] (fun i wr => ∃ k : Nat, k ≤ n5 ∧ i = .int .i64 k ∧ Hid (Below W2.heap.size W2 wr)) (fun i _ => n5 - (intOf i).toNat)
           case atStart => exact ⟨0, Nat.zero_le _, rfl, BB4⟩
           case round =>
            obtain ⟨k, hk, rfl, hI⟩ := hrel
            obtain ⟨y0, _⟩ := (HS.out wr hI.out).1.2 5 _ HP5.out
            by_cases hlt : k < n5
            ·
             have hltz : (k : Int) < (n5 : Int) := by omega
             obtain ⟨B, o, rfl, hB, _, ca, r1, v1⟩ := (P5.out w (Below.refl _ _)).get hlt
             obtain ⟨C, q, rfl, hC, _, cb, r2, v2⟩ := (Q5.out w (Below.refl _ _)).get hlt
             generalize x.2.2.2.2.2.getD k default = z at r1 r2
             have hi1 : (prog.info? 44).map (·.size) = some ca.length := by rw [RBudget.firm.len r1]; kernel_rfl
             have hi2 : (prog.info? 44).map (·.size) = some cb.length := by rw [RBudget.firm.len r2]; kernel_rfl
             have H1 : Hid (∀ u, Below w.heap.size w u → RBudget A u ca z) := fun u hb => RBudget.firm.kept r1 (Kept.below hb)
             have H2 : Hid (∀ u, Below w.heap.size w u → RBudget A' u cb z) := fun u hb => RBudget.firm.kept r2 (Kept.below hb)
             have HT : Hid (∀ u, Below W2.heap.size W2 u → SsS w.heap.size (w.heap.size + 1) P I B (o + k * 3) C (q + k * 3) ca cb u) := fun u hb => ⟨(HS.out u hb).1, (HS.out u hb).2, range_on8 (fun j v hj => v1 j v hj) hB (B2.out u hb), range_on8 (fun j v hj => v2 j v hj) hC (B2.out u hb)⟩
             clear r1 r2 v1 v2
             go_upto_region 31 with fail
             refine t0 (SsS w.heap.size (w.heap.size + 1) P I B (o + k * 3) C (q + k * 3) ca cb) (HT.out _ (hI.out.drew)) (fun hH => ?_)
             refine tp 0 ?_; try go_frame
             refine' tk 1 ?_ ?_; rotate_left
             ·
              intro u hu; have e0 := (hu.1.2 5 _ HP5.out).1; have e1 := (hu.2.1.2 5 _ HI5.out).1; clear hu; go_simp; try with_reducible rfl
             try go_frame
             refine tp 2 ?_; try go_frame
             refine tp 3 ?_; try go_frame
             refine tq 4 (.agg (ca : List Value).toArray) (yieldsIf_load_mid rfl 44 _ rfl B (o + k * 3) rfl ca _ (fun u hu => hu.2.2.1) underlying44 rfl hi1) ?_; try go_frame
             refine tp 5 ?_; try go_frame
             refine' tk 6 ?_ ?_; rotate_left
             ·
              intro u hu; have e0 := (hu.1.2 5 _ HP5.out).1; have e1 := (hu.2.1.2 5 _ HI5.out).1; clear hu; go_simp; try with_reducible rfl
             try go_frame
             refine tp 7 ?_; try go_frame
             refine tp 8 ?_; try go_frame
             refine tq 9 (.agg (cb : List Value).toArray) (yieldsIf_load_mid rfl 44 _ rfl C (q + k * 3) rfl cb _ (fun u hu => hu.2.2.2) underlying44 rfl hi2) ?_; try go_frame
             refine tr 10 (fun K hK => ?_)
             go_simp
             refine (SameBudget_calls ca cb A A' z z wr.drew (H1.out _ (B2.out _ hI.out.drew)) (H2.out _ (B2.out _ hI.out.drew))).mono ?_
             rintro e v ⟨he, hbv⟩
             obtain rfl := tells_it he
             clear he
             have hbN : Below W2.heap.size W2 v := on2 hI.out.drew hbv
             go_wp2_with fail
             refine hK.out _ _ (HT.out _ hbN) (fun hH => ?_)
             clear hK K
             try go_frame
             refine tp 11 ?_; try go_frame
             refine tz ?_
             have HbN : Hid (Below W2.heap.size W2 _) := hbN
             clear hH HT hbN hI y0
             go_wp2_with fail
             go_roundw
             case rel => exact ⟨k + 1, by omega, by go_num, HbN⟩
             case measure => simp [intOf]; omega
            ·
             have hlz : ¬ ((k : Int) < (n5 : Int)) := by omega
             have BB5 : Hid (Below W2.heap.size W2 wr) := hI
             clear hI
             go_wp2_with fail
             go_ret
             exact ⟨rfl, B2.out _ BB5.out⟩
end Go.Proofs.YtikncmcceeacmaaGreat

