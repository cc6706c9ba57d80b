/- base.SamePod says yes of two pods that hold the same, and changes nothing that was there. Condition: the arguments lie as is said of them. -/
import Derived.Test.YtmnldngojgldiaaGreatW02
import Derived.Test.YtmnldngojgldiaaGreatQ07
import Derived.Test.YtmnldngojgldiaaGreatQ08
namespace Go.Proofs.YtmnldngojgldiaaGreat
open Go.RowKit
set_option linter.unusedSimpArgs false
set_option maxRecDepth 100000

theorem guardBe : Tryz.prog.eqGuardType Tryz.prog.depth 114 = false := by kernel_rfl
theorem neqR_same (a b c : Int) (w : World) : Sem.run Tryz.prog (binOp .neq 54 (.agg #[.int .i64 a, .int .i64 b, .int .i64 c]) (.agg #[.int .i64 a, .int .i64 b, .int .i64 c])) w = .ok (.bool false) w := by
  have := neqR (a, b, c) (a, b, c) w
  simpa using this
theorem neqBe_same (a b : ByteArray) (c : Bool) (d : Int) (w : World) : Sem.run Tryz.prog (binOp .neq 114 (.agg #[.string a, .string b, .bool c, .int .i64 d]) (.agg #[.string a, .string b, .bool c, .int .i64 d])) w = .ok (.bool false) w := by
  have u3 := Tryz.underlying3
  have a3 := Tryz.isAgg3
  have z3 := Tryz.sizeOf3
  have u9 := Tryz.underlying9
  have a9 := Tryz.isAgg9
  have z9 := Tryz.sizeOf9
  have u4 := Tryz.underlying4
  have a4 := Tryz.isAgg4
  have z4 := Tryz.sizeOf4
  have hS : Tryz.prog.underlying 114 = some (.struct (Tryz.prog.fieldsOf 114)) := by kernel_rfl
  have hp : Tryz.prog.stoodInHeld 114 = false := by kernel_rfl
  rw [run_neq_struct, show (10000 : Nat) = 9999 + 1 from rfl, run_equalIn_agg w 9999 114 _ _ hS hp]
  simp only [Program.fieldsOf, Tryz.underlying114]
  go_simp
/-- The blocks of the two parameters. -/
structure PB2 (w u : World) (P Y : List Value) : Prop where
  p : BoxL u w.heap.size P
  y : BoxL u (w.heap.size + 1) Y
  b : Below w.heap.size w u
theorem PB2.on {w u u' : World} {P Y : List Value} (h : PB2 w u P Y) (hb : Below u.heap.size u u') : PB2 w u' P Y := ⟨h.p.on hb, h.y.on hb, on2 h.b hb⟩

set_option maxHeartbeats 8000000 in
theorem SamePod_yes (cs ds : List Value) (A A' : Where) (x : PodD) (w : World) (h : Hid (RPod A w cs x)) (h' : Hid (RPod A' w ds x)) : Calls Tryz.prog 18 #[.agg cs.toArray, .agg ds.toArray] w fun e w' => e = .returned (.bool true) ∧ Below w.heap.size w w' := by
  obtain ⟨nm, pri, lab, ⟨wa, wb, wc⟩, brs, ask, prf, prt, nea, apa, spr, clm, nod, hop⟩ := x
  obtain ⟨⟨a2, n2, m2⟩, ⟨a6, n6, m6⟩, ⟨a7, n7, m7⟩, ⟨a8, n8, m8⟩, ⟨a9, n9, m9⟩, ⟨a10, n10, m10⟩, ⟨a11, n11, m11⟩, ⟨a12, n12, m12⟩, ⟨a13, n13, m13⟩, rfl, _, s2, s6, s7, s8, s9, s10, s11, s12, s13, _, _⟩ := h.out.out
  obtain ⟨⟨b2, l2, k2⟩, ⟨b6, l6, k6⟩, ⟨b7, l7, k7⟩, ⟨b8, l8, k8⟩, ⟨b9, l9, k9⟩, ⟨b10, l10, k10⟩, ⟨b11, l11, k11⟩, ⟨b12, l12, k12⟩, ⟨b13, l13, k13⟩, rfl, _, t2, t6, t7, t8, t9, t10, t11, t12, t13, _, _⟩ := h'.out.out
  simp only at s2 t2 s6 t6 s7 t7 s8 t8 s9 t9 s10 t10 s11 t11 s12 t12 s13 t13 ⊢
  clear h h'
  obtain rfl : l2 = n2 := t2.1.symm.trans s2.1
  obtain rfl : l6 = n6 := t6.1.symm.trans s6.1
  obtain rfl : l7 = n7 := t7.1.symm.trans s7.1
  obtain rfl : l8 = n8 := t8.1.symm.trans s8.1
  obtain rfl : l9 = n9 := t9.1.symm.trans s9.1
  obtain rfl : l10 = n10 := t10.1.symm.trans s10.1
  obtain rfl : l11 = n11 := t11.1.symm.trans s11.1
  obtain rfl : l12 = n12 := t12.1.symm.trans s12.1
  obtain rfl : l13 = n13 := t13.1.symm.trans s13.1
  have S2 : Hid (SlAt RLabel 2 32 A w a2 l2 m2 lab) := s2
  have T2 : Hid (SlAt RLabel 2 32 A' w b2 l2 k2 lab) := t2
  have S6 : Hid (SlAt RBear 4 48 A w a6 l6 m6 brs) := s6
  have T6 : Hid (SlAt RBear 4 48 A' w b6 l6 k6 brs) := t6
  have S7 : Hid (SlAt RReq 3 48 A w a7 l7 m7 ask) := s7
  have T7 : Hid (SlAt RReq 3 48 A' w b7 l7 k7 ask) := t7
  have S8 : Hid (SlAt RPrefer 2 32 A w a8 l8 m8 prf) := s8
  have T8 : Hid (SlAt RPrefer 2 32 A' w b8 l8 k8 prf) := t8
  have S9 : Hid (SlAt RInt 1 8 A w a9 l9 m9 prt) := s9
  have T9 : Hid (SlAt RInt 1 8 A' w b9 l9 k9 prt) := t9
  have S10 : Hid (SlAt RTerm 2 40 A w a10 l10 m10 nea) := s10
  have T10 : Hid (SlAt RTerm 2 40 A' w b10 l10 k10 nea) := t10
  have S11 : Hid (SlAt RTerm 2 40 A w a11 l11 m11 apa) := s11
  have T11 : Hid (SlAt RTerm 2 40 A' w b11 l11 k11 apa) := t11
  have S12 : Hid (SlAt RSpread 4 56 A w a12 l12 m12 spr) := s12
  have T12 : Hid (SlAt RSpread 4 56 A' w b12 l12 k12 spr) := t12
  have S13 : Hid (SlAt RStr 1 16 A w a13 l13 m13 clm) := s13
  have T13 : Hid (SlAt RStr 1 16 A' w b13 l13 k13 clm) := t13
  clear s2 t2 s6 t6 s7 t7 s8 t8 s9 t9 s10 t10 s11 t11 s12 t12 s13 t13
  obtain ⟨W2, hW2⟩ : ∃ W2, W2 = ((w.alloc (.cells #[.string nm, .int .i64 pri, .slice a2 l2 m2, .int .i64 wa, .int .i64 wb, .int .i64 wc, .slice a6 l6 m6, .slice a7 l7 m7, .slice a8 l8 m8, .slice a9 l9 m9, .slice a10 l10 m10, .slice a11 l11 m11, .slice a12 l12 m12, .slice a13 l13 m13, .string nod, .string hop] 61)).alloc (.cells #[.string nm, .int .i64 pri, .slice b2 l2 k2, .int .i64 wa, .int .i64 wb, .int .i64 wc, .slice b6 l6 k6, .slice b7 l7 k7, .slice b8 l8 k8, .slice b9 l9 k9, .slice b10 l10 k10, .slice b11 l11 k11, .slice b12 l12 k12, .slice b13 l13 k13, .string nod, .string hop] 61)) := ⟨_, rfl⟩
  have B0 : Hid (PB2 w W2 [.string nm, .int .i64 pri, .slice a2 l2 m2, .int .i64 wa, .int .i64 wb, .int .i64 wc, .slice a6 l6 m6, .slice a7 l7 m7, .slice a8 l8 m8, .slice a9 l9 m9, .slice a10 l10 m10, .slice a11 l11 m11, .slice a12 l12 m12, .slice a13 l13 m13, .string nod, .string hop] [.string nm, .int .i64 pri, .slice b2 l2 k2, .int .i64 wa, .int .i64 wb, .int .i64 wc, .slice b6 l6 k6, .slice b7 l7 k7, .slice b8 l8 k8, .slice b9 l9 k9, .slice b10 l10 k10, .slice b11 l11 k11, .slice b12 l12 k12, .slice b13 l13 k13, .string nod, .string hop]) := by
    rw [hW2]
    refine ⟨(BoxL.new w 61 [.string nm, .int .i64 pri, .slice a2 l2 m2, .int .i64 wa, .int .i64 wb, .int .i64 wc, .slice a6 l6 m6, .slice a7 l7 m7, .slice a8 l8 m8, .slice a9 l9 m9, .slice a10 l10 m10, .slice a11 l11 m11, .slice a12 l12 m12, .slice a13 l13 m13, .string nod, .string hop]).on ((Below.refl _ _).alloc (Nat.le_refl _) _), ?_, by go_grown⟩
    have := BoxL.new (w.alloc (.cells #[.string nm, .int .i64 pri, .slice a2 l2 m2, .int .i64 wa, .int .i64 wb, .int .i64 wc, .slice a6 l6 m6, .slice a7 l7 m7, .slice a8 l8 m8, .slice a9 l9 m9, .slice a10 l10 m10, .slice a11 l11 m11, .slice a12 l12 m12, .slice a13 l13 m13, .string nod, .string hop] 61)) 61 [.string nm, .int .i64 pri, .slice b2 l2 k2, .int .i64 wa, .int .i64 wb, .int .i64 wc, .slice b6 l6 k6, .slice b7 l7 k7, .slice b8 l8 k8, .slice b9 l9 k9, .slice b10 l10 k10, .slice b11 l11 k11, .slice b12 l12 k12, .slice b13 l13 k13, .string nod, .string hop]
    simpa using this
  have hgr := guardR
  have hgb := guardBe
  have hqr := neqR_same wa wb wc
  go_enter Tryz.func18, Tryz.ntmps18
  go_wp2_with fail
  rw [← hW2]
  clear hW2
  refine (SameLabels_calls a2 l2 m2 A lab b2 l2 k2 A' lab W2 (S2.out.on RLabel.firm B0.out.b) (T2.out.on RLabel.firm B0.out.b)).mono ?_
  rintro e V2 ⟨he2, q, hq⟩
  replace he2 : e = .returned (.bool true) := by rw [he2]; simp
  subst he2
  have hb2 : Below W2.heap.size W2 V2 := by rw [hq]; exact below_drewN (Below.refl _ _) _
  have C2 := B0.out.on hb2
  have B2 : Hid (PB2 w V2 [.string nm, .int .i64 pri, .slice a2 l2 m2, .int .i64 wa, .int .i64 wb, .int .i64 wc, .slice a6 l6 m6, .slice a7 l7 m7, .slice a8 l8 m8, .slice a9 l9 m9, .slice a10 l10 m10, .slice a11 l11 m11, .slice a12 l12 m12, .slice a13 l13 m13, .string nod, .string hop] [.string nm, .int .i64 pri, .slice b2 l2 k2, .int .i64 wa, .int .i64 wb, .int .i64 wc, .slice b6 l6 k6, .slice b7 l7 k7, .slice b8 l8 k8, .slice b9 l9 k9, .slice b10 l10 k10, .slice b11 l11 k11, .slice b12 l12 k12, .slice b13 l13 k13, .string nod, .string hop]) := C2
  clear hq hb2 B0
  obtain ⟨p7, _⟩ := C2.p.2 7 _ rfl
  obtain ⟨y7, _⟩ := C2.y.2 7 _ rfl
  clear C2
  go_wp2_with fail
  clear p7 y7
  refine (SameReqs_calls a7 l7 m7 A ask b7 l7 k7 A' ask V2 (S7.out.on RReq.firm B2.out.b) (T7.out.on RReq.firm B2.out.b)).mono ?_
  rintro e V7 ⟨he7, q, hq⟩
  replace he7 : e = .returned (.bool true) := by rw [he7]; simp
  subst he7
  have hb7 : Below V2.heap.size V2 V7 := by rw [hq]; exact below_drewN (Below.refl _ _) _
  have C7 := B2.out.on hb7
  have B7 : Hid (PB2 w V7 [.string nm, .int .i64 pri, .slice a2 l2 m2, .int .i64 wa, .int .i64 wb, .int .i64 wc, .slice a6 l6 m6, .slice a7 l7 m7, .slice a8 l8 m8, .slice a9 l9 m9, .slice a10 l10 m10, .slice a11 l11 m11, .slice a12 l12 m12, .slice a13 l13 m13, .string nod, .string hop] [.string nm, .int .i64 pri, .slice b2 l2 k2, .int .i64 wa, .int .i64 wb, .int .i64 wc, .slice b6 l6 k6, .slice b7 l7 k7, .slice b8 l8 k8, .slice b9 l9 k9, .slice b10 l10 k10, .slice b11 l11 k11, .slice b12 l12 k12, .slice b13 l13 k13, .string nod, .string hop]) := C7
  clear hq hb7 B2
  obtain ⟨p9, _⟩ := C7.p.2 9 _ rfl
  obtain ⟨y9, _⟩ := C7.y.2 9 _ rfl
  clear C7
  go_wp2_with fail
  clear p9 y9
  refine (SameInts_calls a9 l9 m9 A prt b9 l9 k9 A' prt V7 (S9.out.on RInt.firm B7.out.b) (T9.out.on RInt.firm B7.out.b)).mono ?_
  rintro e V9 ⟨he9, q, hq⟩
  replace he9 : e = .returned (.bool true) := by rw [he9]; simp
  subst he9
  have hb9 : Below V7.heap.size V7 V9 := by rw [hq]; exact below_drewN (Below.refl _ _) _
  have C9 := B7.out.on hb9
  have B9 : Hid (PB2 w V9 [.string nm, .int .i64 pri, .slice a2 l2 m2, .int .i64 wa, .int .i64 wb, .int .i64 wc, .slice a6 l6 m6, .slice a7 l7 m7, .slice a8 l8 m8, .slice a9 l9 m9, .slice a10 l10 m10, .slice a11 l11 m11, .slice a12 l12 m12, .slice a13 l13 m13, .string nod, .string hop] [.string nm, .int .i64 pri, .slice b2 l2 k2, .int .i64 wa, .int .i64 wb, .int .i64 wc, .slice b6 l6 k6, .slice b7 l7 k7, .slice b8 l8 k8, .slice b9 l9 k9, .slice b10 l10 k10, .slice b11 l11 k11, .slice b12 l12 k12, .slice b13 l13 k13, .string nod, .string hop]) := C9
  clear hq hb9 B7
  obtain ⟨p10, _⟩ := C9.p.2 10 _ rfl
  obtain ⟨y10, _⟩ := C9.y.2 10 _ rfl
  clear C9
  go_wp2_with fail
  clear p10 y10
  refine (sameTerms_calls a10 l10 m10 A nea b10 l10 k10 A' nea V9 (S10.out.on RTerm.firm B9.out.b) (T10.out.on RTerm.firm B9.out.b)).mono ?_
  rintro e V10 ⟨he10, q, hq⟩
  replace he10 : e = .returned (.bool true) := by rw [he10]; simp
  subst he10
  have hb10 : Below V9.heap.size V9 V10 := by rw [hq]; exact below_drewN (Below.refl _ _) _
  have C10 := B9.out.on hb10
  have B10 : Hid (PB2 w V10 [.string nm, .int .i64 pri, .slice a2 l2 m2, .int .i64 wa, .int .i64 wb, .int .i64 wc, .slice a6 l6 m6, .slice a7 l7 m7, .slice a8 l8 m8, .slice a9 l9 m9, .slice a10 l10 m10, .slice a11 l11 m11, .slice a12 l12 m12, .slice a13 l13 m13, .string nod, .string hop] [.string nm, .int .i64 pri, .slice b2 l2 k2, .int .i64 wa, .int .i64 wb, .int .i64 wc, .slice b6 l6 k6, .slice b7 l7 k7, .slice b8 l8 k8, .slice b9 l9 k9, .slice b10 l10 k10, .slice b11 l11 k11, .slice b12 l12 k12, .slice b13 l13 k13, .string nod, .string hop]) := C10
  clear hq hb10 B9
  obtain ⟨p11, _⟩ := C10.p.2 11 _ rfl
  obtain ⟨y11, _⟩ := C10.y.2 11 _ rfl
  clear C10
  go_wp2_with fail
  clear p11 y11
  refine (sameTerms_calls a11 l11 m11 A apa b11 l11 k11 A' apa V10 (S11.out.on RTerm.firm B10.out.b) (T11.out.on RTerm.firm B10.out.b)).mono ?_
  rintro e V11 ⟨he11, q, hq⟩
  replace he11 : e = .returned (.bool true) := by rw [he11]; simp
  subst he11
  have hb11 : Below V10.heap.size V10 V11 := by rw [hq]; exact below_drewN (Below.refl _ _) _
  have C11 := B10.out.on hb11
  have B11 : Hid (PB2 w V11 [.string nm, .int .i64 pri, .slice a2 l2 m2, .int .i64 wa, .int .i64 wb, .int .i64 wc, .slice a6 l6 m6, .slice a7 l7 m7, .slice a8 l8 m8, .slice a9 l9 m9, .slice a10 l10 m10, .slice a11 l11 m11, .slice a12 l12 m12, .slice a13 l13 m13, .string nod, .string hop] [.string nm, .int .i64 pri, .slice b2 l2 k2, .int .i64 wa, .int .i64 wb, .int .i64 wc, .slice b6 l6 k6, .slice b7 l7 k7, .slice b8 l8 k8, .slice b9 l9 k9, .slice b10 l10 k10, .slice b11 l11 k11, .slice b12 l12 k12, .slice b13 l13 k13, .string nod, .string hop]) := C11
  clear hq hb11 B10
  obtain ⟨p13, _⟩ := C11.p.2 13 _ rfl
  obtain ⟨y13, _⟩ := C11.y.2 13 _ rfl
  clear C11
  go_wp2_with fail
  clear p13 y13
  refine (SameTexts_calls a13 l13 m13 A clm b13 l13 k13 A' clm V11 (S13.out.on RStr.firm B11.out.b) (T13.out.on RStr.firm B11.out.b)).mono ?_
  rintro e V13 ⟨he13, q, hq⟩
  replace he13 : e = .returned (.bool true) := by rw [he13]; simp
  subst he13
  have hb13 : Below V11.heap.size V11 V13 := by rw [hq]; exact below_drewN (Below.refl _ _) _
  have C13 := B11.out.on hb13
  have B13 : Hid (PB2 w V13 [.string nm, .int .i64 pri, .slice a2 l2 m2, .int .i64 wa, .int .i64 wb, .int .i64 wc, .slice a6 l6 m6, .slice a7 l7 m7, .slice a8 l8 m8, .slice a9 l9 m9, .slice a10 l10 m10, .slice a11 l11 m11, .slice a12 l12 m12, .slice a13 l13 m13, .string nod, .string hop] [.string nm, .int .i64 pri, .slice b2 l2 k2, .int .i64 wa, .int .i64 wb, .int .i64 wc, .slice b6 l6 k6, .slice b7 l7 k7, .slice b8 l8 k8, .slice b9 l9 k9, .slice b10 l10 k10, .slice b11 l11 k11, .slice b12 l12 k12, .slice b13 l13 k13, .string nod, .string hop]) := C13
  clear hq hb13 B11
  obtain ⟨p6, _⟩ := C13.p.2 6 _ rfl
  obtain ⟨y6, _⟩ := C13.y.2 6 _ rfl
  obtain ⟨p8, _⟩ := C13.p.2 8 _ rfl
  obtain ⟨y8, _⟩ := C13.y.2 8 _ rfl
  obtain ⟨p12, _⟩ := C13.p.2 12 _ rfl
  obtain ⟨y12, _⟩ := C13.y.2 12 _ rfl
  clear C13
  go_wp2_with fail
  clear p6 y6 p8 y8 p12 y12
  have hl6 := S6.out.len (by decide)
  go_loopw [5] (fun i wr => ∃ k : Nat, k ≤ l6 ∧ i = .int .i64 k ∧ Hid (PB2 w wr [.string nm, .int .i64 pri, .slice a2 l2 m2, .int .i64 wa, .int .i64 wb, .int .i64 wc, .slice a6 l6 m6, .slice a7 l7 m7, .slice a8 l8 m8, .slice a9 l9 m9, .slice a10 l10 m10, .slice a11 l11 m11, .slice a12 l12 m12, .slice a13 l13 m13, .string nod, .string hop] [.string nm, .int .i64 pri, .slice b2 l2 k2, .int .i64 wa, .int .i64 wb, .int .i64 wc, .slice b6 l6 k6, .slice b7 l7 k7, .slice b8 l8 k8, .slice b9 l9 k9, .slice b10 l10 k10, .slice b11 l11 k11, .slice b12 l12 k12, .slice b13 l13 k13, .string nod, .string hop])) (fun i _ => l6 - (intOf i).toNat)
  case atStart => exact ⟨0, Nat.zero_le _, rfl, B13⟩
  case round =>
    obtain ⟨k, hk, rfl, hB⟩ := hrel
    obtain ⟨p6, _⟩ := hB.out.p.2 6 _ rfl
    obtain ⟨y6, _⟩ := hB.out.y.2 6 _ rfl
    by_cases hlt : k < l6
    · have hltz : (k : Int) < (l6 : Int) := by omega
      obtain ⟨D, off, rfl, hD, _, cs, hra, hva⟩ := (S6.out.on RBear.firm hB.out.b).get hlt
      obtain ⟨D', off', rfl, hD', _, cs', hrb, hvb⟩ := (T6.out.on RBear.firm hB.out.b).get hlt
      obtain ⟨rfl, _⟩ := hra.out
      obtain ⟨rfl, _⟩ := hrb.out
      have d0 := hva 0 _ rfl
      have g0 := hvb 0 _ rfl
      have d1 := hva 1 _ rfl
      have g1 := hvb 1 _ rfl
      have d2 := hva 2 _ rfl
      have g2 := hvb 2 _ rfl
      have d3 := hva 3 _ rfl
      have g3 := hvb 3 _ rfl
      rw [Nat.add_zero] at d0 g0
      clear hva hvb hra hrb
      generalize brs.getD k default = z at d0 d1 d2 d3 g0 g1 g2 g3
      obtain ⟨z0, z1, z2, z3⟩ := z
      simp only at d0 d1 d2 d3 g0 g1 g2 g3
      have nT := neqBe_same z0 z1 z2 z3
      go_wp2_with fail
      go_quiet (fail)
      go_wp2_with fail
      go_roundw
      case rel => exact ⟨k + 1, by omega, by go_num, hB.out.on (below_drewN (Below.refl _ _) _)⟩
      case measure => simp [intOf]; omega
    · have hlz : ¬ ((k : Int) < (l6 : Int)) := by omega
      clear y6
      go_wp2_with fail
      have hl8 := S8.out.len (by decide)
      go_loopw [6] (fun i wr => ∃ k : Nat, k ≤ l8 ∧ i = .int .i64 k ∧ Hid (PB2 w wr [.string nm, .int .i64 pri, .slice a2 l2 m2, .int .i64 wa, .int .i64 wb, .int .i64 wc, .slice a6 l6 m6, .slice a7 l7 m7, .slice a8 l8 m8, .slice a9 l9 m9, .slice a10 l10 m10, .slice a11 l11 m11, .slice a12 l12 m12, .slice a13 l13 m13, .string nod, .string hop] [.string nm, .int .i64 pri, .slice b2 l2 k2, .int .i64 wa, .int .i64 wb, .int .i64 wc, .slice b6 l6 k6, .slice b7 l7 k7, .slice b8 l8 k8, .slice b9 l9 k9, .slice b10 l10 k10, .slice b11 l11 k11, .slice b12 l12 k12, .slice b13 l13 k13, .string nod, .string hop])) (fun i _ => l8 - (intOf i).toNat)
      case atStart => exact ⟨0, Nat.zero_le _, rfl, hB⟩
      case round =>
        obtain ⟨k, hk, rfl, hB⟩ := hrel
        obtain ⟨p8, _⟩ := hB.out.p.2 8 _ rfl
        obtain ⟨y8, _⟩ := hB.out.y.2 8 _ rfl
        by_cases hlt : k < l8
        · have hltz : (k : Int) < (l8 : Int) := by omega
          obtain ⟨D, off, rfl, hD, _, cs, hra, hva⟩ := (S8.out.on RPrefer.firm hB.out.b).get hlt
          obtain ⟨D', off', rfl, hD', _, cs', hrb, hvb⟩ := (T8.out.on RPrefer.firm hB.out.b).get hlt
          obtain ⟨⟨c1, c2, c3⟩, rfl, hTa⟩ := hra.out
          obtain ⟨⟨e1, e2, e3⟩, rfl, hTb⟩ := hrb.out
          have d0 := hva 0 _ rfl
          have g0 := hvb 0 _ rfl
          have d1 := hva 1 _ rfl
          have g1 := hvb 1 _ rfl
          rw [Nat.add_zero] at d0 g0
          have HM : Hid (∀ m, Calls Tryz.prog 41 #[.slice c1 c2 c3, .slice e1 e2 e3] (wr.drewN m) fun e w' => e = .returned (.bool true) ∧ ∃ q, w' = (wr.drewN m).drewN q) := fun m => by
            have := SameReqs_calls c1 c2 c3 A _ e1 e2 e3 A' _ (wr.drewN m) (hTa.on RReq.firm (below_drewN (Below.refl _ _) _)) (hTb.on RReq.firm (below_drewN (Below.refl _ _) _))
            simpa using this
          clear hva hvb hra hrb hTa hTb
          generalize prf.getD k default = z at d0 d1 g0 g1
          go_wp2_with fail
          go_quiet ((go_at_call 41; exact Calls.quiet_of (HM.out _)))
          go_wp2_with fail
          go_roundw
          case rel => exact ⟨k + 1, by omega, by go_num, hB.out.on (below_drewN (Below.refl _ _) _)⟩
          case measure => simp [intOf]; omega
        · have hlz : ¬ ((k : Int) < (l8 : Int)) := by omega
          clear y8
          go_wp2_with fail
          have hl12 := S12.out.len (by decide)
          go_loopw [7] (fun i wr => ∃ k : Nat, k ≤ l12 ∧ i = .int .i64 k ∧ Hid (PB2 w wr [.string nm, .int .i64 pri, .slice a2 l2 m2, .int .i64 wa, .int .i64 wb, .int .i64 wc, .slice a6 l6 m6, .slice a7 l7 m7, .slice a8 l8 m8, .slice a9 l9 m9, .slice a10 l10 m10, .slice a11 l11 m11, .slice a12 l12 m12, .slice a13 l13 m13, .string nod, .string hop] [.string nm, .int .i64 pri, .slice b2 l2 k2, .int .i64 wa, .int .i64 wb, .int .i64 wc, .slice b6 l6 k6, .slice b7 l7 k7, .slice b8 l8 k8, .slice b9 l9 k9, .slice b10 l10 k10, .slice b11 l11 k11, .slice b12 l12 k12, .slice b13 l13 k13, .string nod, .string hop])) (fun i _ => l12 - (intOf i).toNat)
          case atStart => exact ⟨0, Nat.zero_le _, rfl, hB⟩
          case round =>
            obtain ⟨k, hk, rfl, hB⟩ := hrel
            obtain ⟨p12, _⟩ := hB.out.p.2 12 _ rfl
            obtain ⟨y12, _⟩ := hB.out.y.2 12 _ rfl
            by_cases hlt : k < l12
            · have hltz : (k : Int) < (l12 : Int) := by omega
              obtain ⟨D, off, rfl, hD, _, cs, hra, hva⟩ := (S12.out.on RSpread.firm hB.out.b).get hlt
              obtain ⟨D', off', rfl, hD', _, cs', hrb, hvb⟩ := (T12.out.on RSpread.firm hB.out.b).get hlt
              obtain ⟨⟨c1, c2, c3⟩, rfl, _, hTa⟩ := hra.out
              obtain ⟨⟨e1, e2, e3⟩, rfl, _, hTb⟩ := hrb.out
              have d0 := hva 0 _ rfl
              have g0 := hvb 0 _ rfl
              have d1 := hva 1 _ rfl
              have g1 := hvb 1 _ rfl
              have d2 := hva 2 _ rfl
              have g2 := hvb 2 _ rfl
              have d3 := hva 3 _ rfl
              have g3 := hvb 3 _ rfl
              rw [Nat.add_zero] at d0 g0
              have hTa' : Hid (SlAt RReq 3 48 A wr c1 c2 c3 (spr.getD k default).2.2.2) := hTa
              have hTb' : Hid (SlAt RReq 3 48 A' wr e1 e2 e3 (spr.getD k default).2.2.2) := hTb
              clear hTa hTb hra hrb hva hvb
              generalize spr.getD k default = z at d0 d1 d2 d3 g0 g1 g2 g3 hTa' hTb'
              obtain ⟨z0, z1, z2, z3⟩ := z
              simp only at d0 d1 d2 d3 g0 g1 g2 g3 hTa' hTb'
              have hD1 : w.heap.size < wr.heap.size := hB.out.p.1
              have hD2 : w.heap.size + 1 < wr.heap.size := hB.out.y.1
              have : w.heap.size ≠ wr.heap.size := by omega
              have : w.heap.size ≠ wr.heap.size + 1 := by omega
              have : w.heap.size + 1 ≠ wr.heap.size := by omega
              have : w.heap.size + 1 ≠ wr.heap.size + 1 := by omega
              have : D ≠ wr.heap.size := by omega
              have : D ≠ wr.heap.size + 1 := by omega
              have : D' ≠ wr.heap.size := by omega
              have : D' ≠ wr.heap.size + 1 := by omega
              go_upto_region 18 with fail
              go_cut [8, 9] (fun p q wx => ∃ X Y : Nat, p = .pointer (some ⟨X, 0, none⟩) ∧ q = .pointer (some ⟨Y, 0, none⟩) ∧ wx.cell? ⟨X, 0, none⟩ = some (.string z0) ∧ wx.cell? ⟨X, 1, none⟩ = some (.int .i64 z1) ∧ wx.cell? ⟨X, 2, none⟩ = some (.int .i64 z2) ∧ wx.cell? ⟨X, 3, none⟩ = some (.slice c1 c2 c3) ∧ wx.cell? ⟨Y, 0, none⟩ = some (.string z0) ∧ wx.cell? ⟨Y, 1, none⟩ = some (.int .i64 z1) ∧ wx.cell? ⟨Y, 2, none⟩ = some (.int .i64 z2) ∧ wx.cell? ⟨Y, 3, none⟩ = some (.slice e1 e2 e3) ∧ Below wr.heap.size wr wx)
              case first =>
                go_region_held3 (fun w' => w'.cell? ⟨w.heap.size, 12, none⟩ = some (.slice (some ⟨D, off, none⟩) l12 m12) ∧ w'.cell? ⟨w.heap.size + 1, 12, none⟩ = some (.slice (some ⟨D', off', none⟩) l12 k12) ∧ w'.cell? ⟨D, off + k * 4, none⟩ = some (.string z0) ∧ w'.cell? ⟨D, off + k * 4 + 1, none⟩ = some (.int .i64 z1) ∧ w'.cell? ⟨D, off + k * 4 + 2, none⟩ = some (.int .i64 z2) ∧ w'.cell? ⟨D, off + k * 4 + 3, none⟩ = some (.slice c1 c2 c3) ∧ w'.cell? ⟨D', off' + k * 4, none⟩ = some (.string z0) ∧ w'.cell? ⟨D', off' + k * 4 + 1, none⟩ = some (.int .i64 z1) ∧ w'.cell? ⟨D', off' + k * 4 + 2, none⟩ = some (.int .i64 z2) ∧ w'.cell? ⟨D', off' + k * 4 + 3, none⟩ = some (.slice e1 e2 e3)) ((refine ⟨?_, ?_, ?_, ?_, ?_, ?_, ?_, ?_, ?_, ?_⟩) <;> (simp [*, go_sem]; done)) (fail)
                all_goals
                  go_wp2_with fail
                  go_meet
                  refine ⟨_, _, rfl, rfl, ?_, ?_, ?_, ?_, ?_, ?_, ?_, ?_, ?_⟩
                  all_goals first | (simp [go_sem]; done) | (simp [go_sem]; omega) | go_grown
              case rest =>
                obtain ⟨X, Y, rfl, rfl, x0, x1, x2, x3, v0, v1, v2, v3, hbc⟩ := hcut
                have hbe : Hid (Below wr.heap.size wr wc) := hbc
                clear hbc
                go_wp2_with fail
                refine (SameReqs_calls c1 c2 c3 A z3 e1 e2 e3 A' z3 wc (hTa'.out.on RReq.firm hbe.out) (hTb'.out.on RReq.firm hbe.out)).mono ?_
                rintro e V9 ⟨he, q, hq⟩
                replace he : e = .returned (.bool true) := by rw [he]; simp
                subst he
                have hb9 : Hid (Below wr.heap.size wr V9) := by rw [Hid, hq]; exact below_drewN hbe.out _
                clear hq
                go_wp2_with fail
                go_roundw
                case rel => exact ⟨k + 1, by omega, by go_num, hB.out.on hb9.out⟩
                case measure => simp [intOf]; omega
            · have hlz : ¬ ((k : Int) < (l12 : Int)) := by omega
              clear y12
              go_wp2_with fail
              go_ret
              exact ⟨rfl, hB.out.b⟩
end Go.Proofs.YtmnldngojgldiaaGreat
