/- base.SamePod tells whether two pods hold the same, and changes nothing that was there: the lists. Condition: the arguments lie as is said of them. -/
import Derived.Test.YtfnafgmengefaaaGreatDoorY04
namespace Go.Proofs.YtfnafgmengefaaaGreatDoor
open Go.RowKit
set_option linter.unusedSimpArgs false
set_option maxRecDepth 100000

set_option maxHeartbeats 16000000 in
theorem SamePod_calls (cs ds : List Value) (A A' : Where) (x y : PodD) (w : World) (h : Hid (RPod A w cs x)) (h' : Hid (RPod A' w ds y)) : Calls Tryz.prog 10 #[.agg cs.toArray, .agg ds.toArray] w fun e w' => TellsEq e x y ∧ Below w.heap.size w w' := by
  by_cases hsc : (x.1 = y.1 ∧ x.2.1 = y.2.1 ∧ x.2.2.2.1 = y.2.2.2.1 ∧ x.2.2.2.2.2.2.2.2.2.2.2.2.1 = y.2.2.2.2.2.2.2.2.2.2.2.2.1 ∧ x.2.2.2.2.2.2.2.2.2.2.2.2.2 = y.2.2.2.2.2.2.2.2.2.2.2.2.2)
  case neg => exact SamePod_scal cs ds A A' x y w h h' hsc
  obtain ⟨nm, pri, lab, ⟨wa, wb, wc⟩, brs, ask, prf, prt, nea, apa, spr, clm, nod, hop⟩ := x
  obtain ⟨nm', pri', lab', ⟨wa', wb', wc'⟩, brs', ask', prf', prt', nea', apa', spr', clm', nod', hop'⟩ := y
  obtain ⟨⟨a2, n2, m2⟩, ⟨a6, n6, m6⟩, ⟨a7, n7, m7⟩, ⟨a8, n8, m8⟩, ⟨a9, n9, m9⟩, ⟨a10, n10, m10⟩, ⟨a11, n11, m11⟩, ⟨a12, n12, m12⟩, ⟨a13, n13, m13⟩, rfl, _, s2, s6, s7, s8, s9, s10, s11, s12, s13, _, _⟩ := h.out.out
  obtain ⟨⟨b2, l2, k2⟩, ⟨b6, l6, k6⟩, ⟨b7, l7, k7⟩, ⟨b8, l8, k8⟩, ⟨b9, l9, k9⟩, ⟨b10, l10, k10⟩, ⟨b11, l11, k11⟩, ⟨b12, l12, k12⟩, ⟨b13, l13, k13⟩, rfl, _, t2, t6, t7, t8, t9, t10, t11, t12, t13, _, _⟩ := h'.out.out
  simp only at s2 t2 s6 t6 s7 t7 s8 t8 s9 t9 s10 t10 s11 t11 s12 t12 s13 t13 ⊢
  clear h h'
  simp only [Prod.mk.injEq] at hsc
  obtain ⟨rfl, rfl, ⟨rfl, rfl, rfl⟩, rfl, rfl⟩ := hsc
  have S2 : Hid (SlAt RLabel 2 32 A w a2 n2 m2 lab) := s2
  have T2 : Hid (SlAt RLabel 2 32 A' w b2 l2 k2 lab') := t2
  have S6 : Hid (SlAt RBear 4 48 A w a6 n6 m6 brs) := s6
  have T6 : Hid (SlAt RBear 4 48 A' w b6 l6 k6 brs') := t6
  have S7 : Hid (SlAt RReq 3 48 A w a7 n7 m7 ask) := s7
  have T7 : Hid (SlAt RReq 3 48 A' w b7 l7 k7 ask') := t7
  have S8 : Hid (SlAt RPrefer 2 32 A w a8 n8 m8 prf) := s8
  have T8 : Hid (SlAt RPrefer 2 32 A' w b8 l8 k8 prf') := t8
  have S9 : Hid (SlAt RInt 1 8 A w a9 n9 m9 prt) := s9
  have T9 : Hid (SlAt RInt 1 8 A' w b9 l9 k9 prt') := t9
  have S10 : Hid (SlAt RTerm 2 40 A w a10 n10 m10 nea) := s10
  have T10 : Hid (SlAt RTerm 2 40 A' w b10 l10 k10 nea') := t10
  have S11 : Hid (SlAt RTerm 2 40 A w a11 n11 m11 apa) := s11
  have T11 : Hid (SlAt RTerm 2 40 A' w b11 l11 k11 apa') := t11
  have S12 : Hid (SlAt RSpread 4 56 A w a12 n12 m12 spr) := s12
  have T12 : Hid (SlAt RSpread 4 56 A' w b12 l12 k12 spr') := t12
  have S13 : Hid (SlAt RStr 1 16 A w a13 n13 m13 clm) := s13
  have T13 : Hid (SlAt RStr 1 16 A' w b13 l13 k13 clm') := t13
  clear s2 t2 s6 t6 s7 t7 s8 t8 s9 t9 s10 t10 s11 t11 s12 t12 s13 t13
  obtain ⟨W2, hW2⟩ : ∃ W2, W2 = ((w.alloc (.cells #[.string nm, .int .i64 pri, .slice a2 n2 m2, .int .i64 wa, .int .i64 wb, .int .i64 wc, .slice a6 n6 m6, .slice a7 n7 m7, .slice a8 n8 m8, .slice a9 n9 m9, .slice a10 n10 m10, .slice a11 n11 m11, .slice a12 n12 m12, .slice a13 n13 m13, .string nod, .string hop] 33)).alloc (.cells #[.string nm, .int .i64 pri, .slice b2 l2 k2, .int .i64 wa, .int .i64 wb, .int .i64 wc, .slice b6 l6 k6, .slice b7 l7 k7, .slice b8 l8 k8, .slice b9 l9 k9, .slice b10 l10 k10, .slice b11 l11 k11, .slice b12 l12 k12, .slice b13 l13 k13, .string nod, .string hop] 33)) := ⟨_, rfl⟩
  have B0 : Hid (PB2 w W2 [.string nm, .int .i64 pri, .slice a2 n2 m2, .int .i64 wa, .int .i64 wb, .int .i64 wc, .slice a6 n6 m6, .slice a7 n7 m7, .slice a8 n8 m8, .slice a9 n9 m9, .slice a10 n10 m10, .slice a11 n11 m11, .slice a12 n12 m12, .slice a13 n13 m13, .string nod, .string hop] [.string nm, .int .i64 pri, .slice b2 l2 k2, .int .i64 wa, .int .i64 wb, .int .i64 wc, .slice b6 l6 k6, .slice b7 l7 k7, .slice b8 l8 k8, .slice b9 l9 k9, .slice b10 l10 k10, .slice b11 l11 k11, .slice b12 l12 k12, .slice b13 l13 k13, .string nod, .string hop]) := by
    rw [hW2]
    refine ⟨(BoxL.new w 33 [.string nm, .int .i64 pri, .slice a2 n2 m2, .int .i64 wa, .int .i64 wb, .int .i64 wc, .slice a6 n6 m6, .slice a7 n7 m7, .slice a8 n8 m8, .slice a9 n9 m9, .slice a10 n10 m10, .slice a11 n11 m11, .slice a12 n12 m12, .slice a13 n13 m13, .string nod, .string hop]).on ((Below.refl _ _).alloc (Nat.le_refl _) _), ?_, by go_grown⟩
    have := BoxL.new (w.alloc (.cells #[.string nm, .int .i64 pri, .slice a2 n2 m2, .int .i64 wa, .int .i64 wb, .int .i64 wc, .slice a6 n6 m6, .slice a7 n7 m7, .slice a8 n8 m8, .slice a9 n9 m9, .slice a10 n10 m10, .slice a11 n11 m11, .slice a12 n12 m12, .slice a13 n13 m13, .string nod, .string hop] 33)) 33 [.string nm, .int .i64 pri, .slice b2 l2 k2, .int .i64 wa, .int .i64 wb, .int .i64 wc, .slice b6 l6 k6, .slice b7 l7 k7, .slice b8 l8 k8, .slice b9 l9 k9, .slice b10 l10 k10, .slice b11 l11 k11, .slice b12 l12 k12, .slice b13 l13 k13, .string nod, .string hop]
    simpa using this
  obtain ⟨X, hX⟩ : ∃ X : PodD, X = ((nm, pri, lab, (wa, wb, wc), brs, ask, prf, prt, nea, apa, spr, clm, nod, hop) : PodD) := ⟨_, rfl⟩
  obtain ⟨Y, hY⟩ : ∃ Y : PodD, Y = ((nm, pri, lab', (wa, wb, wc), brs', ask', prf', prt', nea', apa', spr', clm', nod, hop) : PodD) := ⟨_, rfl⟩
  rw [← hX, ← hY]
  have HI : Hid (X = Y ↔ lab = lab' ∧ ask = ask' ∧ prt = prt' ∧ nea = nea' ∧ apa = apa' ∧ clm = clm' ∧ brs = brs' ∧ prf = prf' ∧ spr = spr') := by rw [Hid, hX, hY]; simp only [Prod.mk.injEq, true_and, and_true]; exact ⟨fun e => ⟨e.1, e.2.2.1, e.2.2.2.2.1, e.2.2.2.2.2.1, e.2.2.2.2.2.2.1, e.2.2.2.2.2.2.2.2, e.2.1, e.2.2.2.1, e.2.2.2.2.2.2.2.1⟩, fun e => ⟨e.1, e.2.2.2.2.2.2.1, e.2.1, e.2.2.2.2.2.2.2.1, e.2.2.1, e.2.2.2.1, e.2.2.2.2.1, e.2.2.2.2.2.2.2.2, e.2.2.2.2.2.1⟩⟩
  have hE : ∀ r, r = false → X ≠ Y → TellsEq (.returned (.bool r)) X Y := fun r hr hn => tells ⟨fun e => absurd e (by simp [hr]), fun e => absurd e hn⟩
  clear hX hY
  have hgr := guardR
  have hgb := guardBe
  have hqr := neqR_same wa wb wc
  go_enter Tryz.func10, Tryz.ntmps10
  go_wp2_with fail
  rw [← hW2]
  clear hW2
  refine (SameLabels_calls a2 n2 m2 A lab b2 l2 k2 A' lab' W2 (S2.out.on RLabel.firm B0.out.b) (T2.out.on RLabel.firm B0.out.b)).mono ?_
  rintro e V2 ⟨he2, q, hq⟩
  have hb2 : Below W2.heap.size W2 V2 := by rw [hq]; exact below_drewN (Below.refl _ _) _
  have C2 := B0.out.on hb2
  have B2 : Hid (PB2 w V2 [.string nm, .int .i64 pri, .slice a2 n2 m2, .int .i64 wa, .int .i64 wb, .int .i64 wc, .slice a6 n6 m6, .slice a7 n7 m7, .slice a8 n8 m8, .slice a9 n9 m9, .slice a10 n10 m10, .slice a11 n11 m11, .slice a12 n12 m12, .slice a13 n13 m13, .string nod, .string hop] [.string nm, .int .i64 pri, .slice b2 l2 k2, .int .i64 wa, .int .i64 wb, .int .i64 wc, .slice b6 l6 k6, .slice b7 l7 k7, .slice b8 l8 k8, .slice b9 l9 k9, .slice b10 l10 k10, .slice b11 l11 k11, .slice b12 l12 k12, .slice b13 l13 k13, .string nod, .string hop]) := C2
  clear hq hb2 B0
  by_cases hL2 : lab = lab'
  case neg =>
    replace he2 : e = .returned (.bool false) := by rw [he2]; simp [hL2]
    subst he2
    have HBl : Hid (Below w.heap.size w V2) := B2.out.b
    have HNe : Hid (X ≠ Y) := fun e => hL2 (by have := HI.out.1 e; exact this.1)
    clear C2 B2 S2 T2 S6 T6 S7 T7 S8 T8 S9 T9 S10 T10 S11 T11 S12 T12 S13 T13
    go_wp2_with fail
    go_ret
    exact ⟨hE _ rfl HNe.out, HBl.out⟩
  replace he2 : e = .returned (.bool true) := by rw [he2]; simp [hL2]
  subst he2
  have HL2 : Hid (lab = lab') := hL2
  clear hL2
  obtain ⟨p7, _⟩ := C2.p.2 7 _ rfl
  obtain ⟨y7, _⟩ := C2.y.2 7 _ rfl
  clear C2
  go_wp2_with fail
  clear p7 y7
  refine (SameReqs_calls a7 n7 m7 A ask b7 l7 k7 A' ask' V2 (S7.out.on RReq.firm B2.out.b) (T7.out.on RReq.firm B2.out.b)).mono ?_
  rintro e V7 ⟨he7, q, hq⟩
  have hb7 : Below V2.heap.size V2 V7 := by rw [hq]; exact below_drewN (Below.refl _ _) _
  have C7 := B2.out.on hb7
  have B7 : Hid (PB2 w V7 [.string nm, .int .i64 pri, .slice a2 n2 m2, .int .i64 wa, .int .i64 wb, .int .i64 wc, .slice a6 n6 m6, .slice a7 n7 m7, .slice a8 n8 m8, .slice a9 n9 m9, .slice a10 n10 m10, .slice a11 n11 m11, .slice a12 n12 m12, .slice a13 n13 m13, .string nod, .string hop] [.string nm, .int .i64 pri, .slice b2 l2 k2, .int .i64 wa, .int .i64 wb, .int .i64 wc, .slice b6 l6 k6, .slice b7 l7 k7, .slice b8 l8 k8, .slice b9 l9 k9, .slice b10 l10 k10, .slice b11 l11 k11, .slice b12 l12 k12, .slice b13 l13 k13, .string nod, .string hop]) := C7
  clear hq hb7 B2
  by_cases hL7 : ask = ask'
  case neg =>
    replace he7 : e = .returned (.bool false) := by rw [he7]; simp [hL7]
    subst he7
    have HBl : Hid (Below w.heap.size w V7) := B7.out.b
    have HNe : Hid (X ≠ Y) := fun e => hL7 (by have := HI.out.1 e; exact this.2.1)
    clear C7 B7 S2 T2 S6 T6 S7 T7 S8 T8 S9 T9 S10 T10 S11 T11 S12 T12 S13 T13
    go_wp2_with fail
    go_ret
    exact ⟨hE _ rfl HNe.out, HBl.out⟩
  replace he7 : e = .returned (.bool true) := by rw [he7]; simp [hL7]
  subst he7
  have HL7 : Hid (ask = ask') := hL7
  clear hL7
  obtain ⟨p9, _⟩ := C7.p.2 9 _ rfl
  obtain ⟨y9, _⟩ := C7.y.2 9 _ rfl
  clear C7
  go_wp2_with fail
  clear p9 y9
  refine (SameInts_calls a9 n9 m9 A prt b9 l9 k9 A' prt' V7 (S9.out.on RInt.firm B7.out.b) (T9.out.on RInt.firm B7.out.b)).mono ?_
  rintro e V9 ⟨he9, q, hq⟩
  have hb9 : Below V7.heap.size V7 V9 := by rw [hq]; exact below_drewN (Below.refl _ _) _
  have C9 := B7.out.on hb9
  have B9 : Hid (PB2 w V9 [.string nm, .int .i64 pri, .slice a2 n2 m2, .int .i64 wa, .int .i64 wb, .int .i64 wc, .slice a6 n6 m6, .slice a7 n7 m7, .slice a8 n8 m8, .slice a9 n9 m9, .slice a10 n10 m10, .slice a11 n11 m11, .slice a12 n12 m12, .slice a13 n13 m13, .string nod, .string hop] [.string nm, .int .i64 pri, .slice b2 l2 k2, .int .i64 wa, .int .i64 wb, .int .i64 wc, .slice b6 l6 k6, .slice b7 l7 k7, .slice b8 l8 k8, .slice b9 l9 k9, .slice b10 l10 k10, .slice b11 l11 k11, .slice b12 l12 k12, .slice b13 l13 k13, .string nod, .string hop]) := C9
  clear hq hb9 B7
  by_cases hL9 : prt = prt'
  case neg =>
    replace he9 : e = .returned (.bool false) := by rw [he9]; simp [hL9]
    subst he9
    have HBl : Hid (Below w.heap.size w V9) := B9.out.b
    have HNe : Hid (X ≠ Y) := fun e => hL9 (by have := HI.out.1 e; exact this.2.2.1)
    clear C9 B9 S2 T2 S6 T6 S7 T7 S8 T8 S9 T9 S10 T10 S11 T11 S12 T12 S13 T13
    go_wp2_with fail
    go_ret
    exact ⟨hE _ rfl HNe.out, HBl.out⟩
  replace he9 : e = .returned (.bool true) := by rw [he9]; simp [hL9]
  subst he9
  have HL9 : Hid (prt = prt') := hL9
  clear hL9
  obtain ⟨p10, _⟩ := C9.p.2 10 _ rfl
  obtain ⟨y10, _⟩ := C9.y.2 10 _ rfl
  clear C9
  go_wp2_with fail
  clear p10 y10
  refine (sameTerms_calls a10 n10 m10 A nea b10 l10 k10 A' nea' V9 (S10.out.on RTerm.firm B9.out.b) (T10.out.on RTerm.firm B9.out.b)).mono ?_
  rintro e V10 ⟨he10, q, hq⟩
  have hb10 : Below V9.heap.size V9 V10 := by rw [hq]; exact below_drewN (Below.refl _ _) _
  have C10 := B9.out.on hb10
  have B10 : Hid (PB2 w V10 [.string nm, .int .i64 pri, .slice a2 n2 m2, .int .i64 wa, .int .i64 wb, .int .i64 wc, .slice a6 n6 m6, .slice a7 n7 m7, .slice a8 n8 m8, .slice a9 n9 m9, .slice a10 n10 m10, .slice a11 n11 m11, .slice a12 n12 m12, .slice a13 n13 m13, .string nod, .string hop] [.string nm, .int .i64 pri, .slice b2 l2 k2, .int .i64 wa, .int .i64 wb, .int .i64 wc, .slice b6 l6 k6, .slice b7 l7 k7, .slice b8 l8 k8, .slice b9 l9 k9, .slice b10 l10 k10, .slice b11 l11 k11, .slice b12 l12 k12, .slice b13 l13 k13, .string nod, .string hop]) := C10
  clear hq hb10 B9
  by_cases hL10 : nea = nea'
  case neg =>
    replace he10 : e = .returned (.bool false) := by rw [he10]; simp [hL10]
    subst he10
    have HBl : Hid (Below w.heap.size w V10) := B10.out.b
    have HNe : Hid (X ≠ Y) := fun e => hL10 (by have := HI.out.1 e; exact this.2.2.2.1)
    clear C10 B10 S2 T2 S6 T6 S7 T7 S8 T8 S9 T9 S10 T10 S11 T11 S12 T12 S13 T13
    go_wp2_with fail
    go_ret
    exact ⟨hE _ rfl HNe.out, HBl.out⟩
  replace he10 : e = .returned (.bool true) := by rw [he10]; simp [hL10]
  subst he10
  have HL10 : Hid (nea = nea') := hL10
  clear hL10
  obtain ⟨p11, _⟩ := C10.p.2 11 _ rfl
  obtain ⟨y11, _⟩ := C10.y.2 11 _ rfl
  clear C10
  go_wp2_with fail
  clear p11 y11
  refine (sameTerms_calls a11 n11 m11 A apa b11 l11 k11 A' apa' V10 (S11.out.on RTerm.firm B10.out.b) (T11.out.on RTerm.firm B10.out.b)).mono ?_
  rintro e V11 ⟨he11, q, hq⟩
  have hb11 : Below V10.heap.size V10 V11 := by rw [hq]; exact below_drewN (Below.refl _ _) _
  have C11 := B10.out.on hb11
  have B11 : Hid (PB2 w V11 [.string nm, .int .i64 pri, .slice a2 n2 m2, .int .i64 wa, .int .i64 wb, .int .i64 wc, .slice a6 n6 m6, .slice a7 n7 m7, .slice a8 n8 m8, .slice a9 n9 m9, .slice a10 n10 m10, .slice a11 n11 m11, .slice a12 n12 m12, .slice a13 n13 m13, .string nod, .string hop] [.string nm, .int .i64 pri, .slice b2 l2 k2, .int .i64 wa, .int .i64 wb, .int .i64 wc, .slice b6 l6 k6, .slice b7 l7 k7, .slice b8 l8 k8, .slice b9 l9 k9, .slice b10 l10 k10, .slice b11 l11 k11, .slice b12 l12 k12, .slice b13 l13 k13, .string nod, .string hop]) := C11
  clear hq hb11 B10
  by_cases hL11 : apa = apa'
  case neg =>
    replace he11 : e = .returned (.bool false) := by rw [he11]; simp [hL11]
    subst he11
    have HBl : Hid (Below w.heap.size w V11) := B11.out.b
    have HNe : Hid (X ≠ Y) := fun e => hL11 (by have := HI.out.1 e; exact this.2.2.2.2.1)
    clear C11 B11 S2 T2 S6 T6 S7 T7 S8 T8 S9 T9 S10 T10 S11 T11 S12 T12 S13 T13
    go_wp2_with fail
    go_ret
    exact ⟨hE _ rfl HNe.out, HBl.out⟩
  replace he11 : e = .returned (.bool true) := by rw [he11]; simp [hL11]
  subst he11
  have HL11 : Hid (apa = apa') := hL11
  clear hL11
  obtain ⟨p13, _⟩ := C11.p.2 13 _ rfl
  obtain ⟨y13, _⟩ := C11.y.2 13 _ rfl
  clear C11
  go_wp2_with fail
  clear p13 y13
  refine (SameTexts_calls a13 n13 m13 A clm b13 l13 k13 A' clm' V11 (S13.out.on RStr.firm B11.out.b) (T13.out.on RStr.firm B11.out.b)).mono ?_
  rintro e V13 ⟨he13, q, hq⟩
  have hb13 : Below V11.heap.size V11 V13 := by rw [hq]; exact below_drewN (Below.refl _ _) _
  have C13 := B11.out.on hb13
  have B13 : Hid (PB2 w V13 [.string nm, .int .i64 pri, .slice a2 n2 m2, .int .i64 wa, .int .i64 wb, .int .i64 wc, .slice a6 n6 m6, .slice a7 n7 m7, .slice a8 n8 m8, .slice a9 n9 m9, .slice a10 n10 m10, .slice a11 n11 m11, .slice a12 n12 m12, .slice a13 n13 m13, .string nod, .string hop] [.string nm, .int .i64 pri, .slice b2 l2 k2, .int .i64 wa, .int .i64 wb, .int .i64 wc, .slice b6 l6 k6, .slice b7 l7 k7, .slice b8 l8 k8, .slice b9 l9 k9, .slice b10 l10 k10, .slice b11 l11 k11, .slice b12 l12 k12, .slice b13 l13 k13, .string nod, .string hop]) := C13
  clear hq hb13 B11
  by_cases hL13 : clm = clm'
  case neg =>
    replace he13 : e = .returned (.bool false) := by rw [he13]; simp [hL13]
    subst he13
    have HBl : Hid (Below w.heap.size w V13) := B13.out.b
    have HNe : Hid (X ≠ Y) := fun e => hL13 (by have := HI.out.1 e; exact this.2.2.2.2.2.1)
    clear C13 B13 S2 T2 S6 T6 S7 T7 S8 T8 S9 T9 S10 T10 S11 T11 S12 T12 S13 T13
    go_wp2_with fail
    go_ret
    exact ⟨hE _ rfl HNe.out, HBl.out⟩
  replace he13 : e = .returned (.bool true) := by rw [he13]; simp [hL13]
  subst he13
  have HL13 : Hid (clm = clm') := hL13
  clear hL13
  obtain ⟨p6, _⟩ := C13.p.2 6 _ rfl
  obtain ⟨y6, _⟩ := C13.y.2 6 _ rfl
  obtain ⟨p8, _⟩ := C13.p.2 8 _ rfl
  obtain ⟨y8, _⟩ := C13.y.2 8 _ rfl
  obtain ⟨p12, _⟩ := C13.p.2 12 _ rfl
  obtain ⟨y12, _⟩ := C13.y.2 12 _ rfl
  clear C13
  by_cases hn6 : n6 = l6
  case neg =>
    have HNe : Hid (X ≠ Y) := fun e => by
      have e2 := HI.out.1 e
      have e3 : brs = brs' := e2.2.2.2.2.2.2.1
      have e4 := S6.out.1; have e5 := T6.out.1; rw [e3] at e4; omega
    have hz6 : ((n6 : Int) == (l6 : Int)) = false := by simpa using (show ¬ ((n6 : Int) = (l6 : Int)) by omega)
    have HBl : Hid (Below w.heap.size w V13) := B13.out.b
    clear B13 S2 T2 S6 T6 S7 T7 S8 T8 S9 T9 S10 T10 S11 T11 S12 T12 S13 T13
    go_wp2_with fail
    go_ret
    exact ⟨hE _ rfl HNe.out, HBl.out⟩
  subst hn6
  by_cases hn8 : n8 = l8
  case neg =>
    have HNe : Hid (X ≠ Y) := fun e => by
      have e2 := HI.out.1 e
      have e3 : prf = prf' := e2.2.2.2.2.2.2.2.1
      have e4 := S8.out.1; have e5 := T8.out.1; rw [e3] at e4; omega
    have hz8 : ((n8 : Int) == (l8 : Int)) = false := by simpa using (show ¬ ((n8 : Int) = (l8 : Int)) by omega)
    have HBl : Hid (Below w.heap.size w V13) := B13.out.b
    clear B13 S2 T2 S6 T6 S7 T7 S8 T8 S9 T9 S10 T10 S11 T11 S12 T12 S13 T13
    go_wp2_with fail
    go_ret
    exact ⟨hE _ rfl HNe.out, HBl.out⟩
  subst hn8
  by_cases hn12 : n12 = l12
  case neg =>
    have HNe : Hid (X ≠ Y) := fun e => by
      have e2 := HI.out.1 e
      have e3 : spr = spr' := e2.2.2.2.2.2.2.2.2
      have e4 := S12.out.1; have e5 := T12.out.1; rw [e3] at e4; omega
    have hz12 : ((n12 : Int) == (l12 : Int)) = false := by simpa using (show ¬ ((n12 : Int) = (l12 : Int)) by omega)
    have HBl : Hid (Below w.heap.size w V13) := B13.out.b
    clear B13 S2 T2 S6 T6 S7 T7 S8 T8 S9 T9 S10 T10 S11 T11 S12 T12 S13 T13
    go_wp2_with fail
    go_ret
    exact ⟨hE _ rfl HNe.out, HBl.out⟩
  subst hn12
  go_wp2_with fail
  clear p6 y6 p8 y8 p12 y12
  have hl6 := S6.out.len (by decide)
  go_loopw [5] (fun i wr => ∃ k : Nat, k ≤ n6 ∧ i = .int .i64 k ∧ Hid (PB2 w wr [.string nm, .int .i64 pri, .slice a2 n2 m2, .int .i64 wa, .int .i64 wb, .int .i64 wc, .slice a6 n6 m6, .slice a7 n7 m7, .slice a8 n8 m8, .slice a9 n9 m9, .slice a10 n10 m10, .slice a11 n11 m11, .slice a12 n12 m12, .slice a13 n13 m13, .string nod, .string hop] [.string nm, .int .i64 pri, .slice b2 l2 k2, .int .i64 wa, .int .i64 wb, .int .i64 wc, .slice b6 n6 k6, .slice b7 l7 k7, .slice b8 n8 k8, .slice b9 l9 k9, .slice b10 l10 k10, .slice b11 l11 k11, .slice b12 n12 k12, .slice b13 l13 k13, .string nod, .string hop] ∧ ∀ j, j < k → brs.getD j default = brs'.getD j default)) (fun i _ => n6 - (intOf i).toNat)
  case atStart => exact ⟨0, Nat.zero_le _, rfl, B13.out, fun j hj => absurd hj (Nat.not_lt_zero _)⟩
  case round =>
    obtain ⟨k, hk, rfl, hBJ⟩ := hrel
    have hB : Hid (PB2 w wr [.string nm, .int .i64 pri, .slice a2 n2 m2, .int .i64 wa, .int .i64 wb, .int .i64 wc, .slice a6 n6 m6, .slice a7 n7 m7, .slice a8 n8 m8, .slice a9 n9 m9, .slice a10 n10 m10, .slice a11 n11 m11, .slice a12 n12 m12, .slice a13 n13 m13, .string nod, .string hop] [.string nm, .int .i64 pri, .slice b2 l2 k2, .int .i64 wa, .int .i64 wb, .int .i64 wc, .slice b6 n6 k6, .slice b7 l7 k7, .slice b8 n8 k8, .slice b9 l9 k9, .slice b10 l10 k10, .slice b11 l11 k11, .slice b12 n12 k12, .slice b13 l13 k13, .string nod, .string hop]) := hBJ.out.1
    have hJ : Hid (∀ j, j < k → brs.getD j default = brs'.getD j default) := hBJ.out.2
    clear hBJ
    obtain ⟨p6, _⟩ := hB.out.p.2 6 _ rfl
    obtain ⟨y6, _⟩ := hB.out.y.2 6 _ rfl
    by_cases hlt : k < n6
    · have hltz : (k : Int) < (n6 : Int) := by omega
      have HNx : Hid (brs.getD k default = brs'.getD k default → ∀ j, j < k + 1 → brs.getD j default = brs'.getD j default) := fun e j hj => by
        rcases Nat.lt_succ_iff_lt_or_eq.1 hj with h | rfl
        · exact hJ.out j h
        · exact e
      have HNo : Hid (¬ brs.getD k default = brs'.getD k default → X ≠ Y) := fun hn e => hn (by rw [show brs = brs' from (HI.out.1 e).2.2.2.2.2.2.1])
      obtain ⟨D, off, rfl, hD, _, cs, hra, hva⟩ := (S6.out.on RBear.firm hB.out.b).get hlt
      obtain ⟨D', off', rfl, hD', _, cs', hrb, hvb⟩ := (T6.out.on RBear.firm hB.out.b).get hlt
      obtain ⟨rfl, _⟩ := hra.out
      obtain ⟨rfl, _⟩ := hrb.out
      have d0 := hva 0 _ rfl
      have g0 := hvb 0 _ rfl
      have d1 := hva 1 _ rfl
      have g1 := hvb 1 _ rfl
      have d2 := hva 2 _ rfl
      have g2 := hvb 2 _ rfl
      have d3 := hva 3 _ rfl
      have g3 := hvb 3 _ rfl
      rw [Nat.add_zero] at d0 g0
      clear hva hvb hra hrb
      generalize brs.getD k default = z at d0 d1 d2 d3 HNx HNo
      generalize brs'.getD k default = z' at g0 g1 g2 g3 HNx HNo
      have nT := neqBe z z'
      cases hbz : be9Eq z z'
      ·
        rw [hbz] at nT
        have HNe : Hid (X ≠ Y) := HNo.out (fun e => by rw [(be9Eq_iff z z').2 e] at hbz; exact absurd hbz (by decide))
        obtain ⟨z0, z1, z2, z3⟩ := z
        obtain ⟨z0', z1', z2', z3'⟩ := z'
        simp only at d0 d1 d2 d3 g0 g1 g2 g3 nT
        clear hJ HNx HNo hbz
        go_wp2_with fail
        go_quiet (fail)
        go_wp2_with fail
        go_ret
        exact ⟨hE _ rfl HNe.out, on2 hB.out.b (below_drewN (Below.refl _ _) _)⟩
      ·
        rw [hbz] at nT
        have HNz := HNx.out ((be9Eq_iff z z').1 hbz)
        obtain ⟨z0, z1, z2, z3⟩ := z
        obtain ⟨z0', z1', z2', z3'⟩ := z'
        simp only at d0 d1 d2 d3 g0 g1 g2 g3 nT
        clear hJ HNx HNo hbz
        go_wp2_with fail
        go_quiet (fail)
        go_wp2_with fail
        go_roundw
        case rel => exact ⟨k + 1, by omega, by go_num, hB.out.on (below_drewN (Below.refl _ _) _), HNz⟩
        case measure => simp [intOf]; omega
    · have hlz : ¬ ((k : Int) < (n6 : Int)) := by omega
      have HL6 : Hid (brs = brs') := list_same (S6.out.1.trans T6.out.1.symm) (fun j hj => hJ.out j (by have := S6.out.1; omega))
      clear y6 hJ
      go_wp2_with fail
      have hl8 := S8.out.len (by decide)
      go_loopw [6] (fun i wr => ∃ k : Nat, k ≤ n8 ∧ i = .int .i64 k ∧ Hid (PB2 w wr [.string nm, .int .i64 pri, .slice a2 n2 m2, .int .i64 wa, .int .i64 wb, .int .i64 wc, .slice a6 n6 m6, .slice a7 n7 m7, .slice a8 n8 m8, .slice a9 n9 m9, .slice a10 n10 m10, .slice a11 n11 m11, .slice a12 n12 m12, .slice a13 n13 m13, .string nod, .string hop] [.string nm, .int .i64 pri, .slice b2 l2 k2, .int .i64 wa, .int .i64 wb, .int .i64 wc, .slice b6 n6 k6, .slice b7 l7 k7, .slice b8 n8 k8, .slice b9 l9 k9, .slice b10 l10 k10, .slice b11 l11 k11, .slice b12 n12 k12, .slice b13 l13 k13, .string nod, .string hop] ∧ ∀ j, j < k → prf.getD j default = prf'.getD j default)) (fun i _ => n8 - (intOf i).toNat)
      case atStart => exact ⟨0, Nat.zero_le _, rfl, hB.out, fun j hj => absurd hj (Nat.not_lt_zero _)⟩
      case round =>
        obtain ⟨k, hk, rfl, hBJ⟩ := hrel
        have hB : Hid (PB2 w wr [.string nm, .int .i64 pri, .slice a2 n2 m2, .int .i64 wa, .int .i64 wb, .int .i64 wc, .slice a6 n6 m6, .slice a7 n7 m7, .slice a8 n8 m8, .slice a9 n9 m9, .slice a10 n10 m10, .slice a11 n11 m11, .slice a12 n12 m12, .slice a13 n13 m13, .string nod, .string hop] [.string nm, .int .i64 pri, .slice b2 l2 k2, .int .i64 wa, .int .i64 wb, .int .i64 wc, .slice b6 n6 k6, .slice b7 l7 k7, .slice b8 n8 k8, .slice b9 l9 k9, .slice b10 l10 k10, .slice b11 l11 k11, .slice b12 n12 k12, .slice b13 l13 k13, .string nod, .string hop]) := hBJ.out.1
        have hJ : Hid (∀ j, j < k → prf.getD j default = prf'.getD j default) := hBJ.out.2
        clear hBJ
        obtain ⟨p8, _⟩ := hB.out.p.2 8 _ rfl
        obtain ⟨y8, _⟩ := hB.out.y.2 8 _ rfl
        by_cases hlt : k < n8
        · have hltz : (k : Int) < (n8 : Int) := by omega
          have HNx : Hid (prf.getD k default = prf'.getD k default → ∀ j, j < k + 1 → prf.getD j default = prf'.getD j default) := fun e j hj => by
            rcases Nat.lt_succ_iff_lt_or_eq.1 hj with h | rfl
            · exact hJ.out j h
            · exact e
          have HNo : Hid (¬ prf.getD k default = prf'.getD k default → X ≠ Y) := fun hn e => hn (by rw [show prf = prf' from (HI.out.1 e).2.2.2.2.2.2.2.1])
          obtain ⟨D, off, rfl, hD, _, cs, hra, hva⟩ := (S8.out.on RPrefer.firm hB.out.b).get hlt
          obtain ⟨D', off', rfl, hD', _, cs', hrb, hvb⟩ := (T8.out.on RPrefer.firm hB.out.b).get hlt
          obtain ⟨⟨c1, c2, c3⟩, rfl, hTa⟩ := hra.out
          obtain ⟨⟨e1, e2, e3⟩, rfl, hTb⟩ := hrb.out
          have d0 := hva 0 _ rfl
          have g0 := hvb 0 _ rfl
          have d1 := hva 1 _ rfl
          have g1 := hvb 1 _ rfl
          rw [Nat.add_zero] at d0 g0
          generalize prf.getD k default = z at d0 d1 hTa HNx HNo
          generalize prf'.getD k default = z' at g0 g1 hTb HNx HNo
          obtain ⟨z0, z1⟩ := z
          obtain ⟨z0', z1'⟩ := z'
          simp only at d0 d1 g0 g1 hTa hTb
          have HM : Hid (∀ m, Calls Tryz.prog 34 #[.slice c1 c2 c3, .slice e1 e2 e3] (wr.drewN m) fun e w' => e = .returned (.bool (decide (z0 = z0'))) ∧ ∃ q, w' = (wr.drewN m).drewN q) := fun m => SameReqs_calls c1 c2 c3 A z0 e1 e2 e3 A' z0' (wr.drewN m) (hTa.on RReq.firm (below_drewN (Below.refl _ _) _)) (hTb.on RReq.firm (below_drewN (Below.refl _ _) _))
          clear hva hvb hra hrb hTa hTb
          by_cases hz1 : z1 = z1'
          ·
            subst hz1
            by_cases hz0 : z0 = z0'
            ·
              have HM2 : Hid (∀ m, Calls Tryz.prog 34 #[.slice c1 c2 c3, .slice e1 e2 e3] (wr.drewN m) fun e w' => e = .returned (.bool true) ∧ ∃ q, w' = (wr.drewN m).drewN q) := fun m => by have := HM.out m; simpa [hz0] using this
              have HNz := HNx.out (by rw [hz0])
              clear HM HNx HNo hJ hz0
              go_wp2_with fail
              go_quiet ((go_at_call 34; exact Calls.quiet_of (HM2.out _)))
              go_wp2_with fail
              go_roundw
              case rel => exact ⟨k + 1, by omega, by go_num, hB.out.on (below_drewN (Below.refl _ _) _), HNz⟩
              case measure => simp [intOf]; omega
            ·
              have HM2 : Hid (∀ m, Calls Tryz.prog 34 #[.slice c1 c2 c3, .slice e1 e2 e3] (wr.drewN m) fun e w' => e = .returned (.bool false) ∧ ∃ q, w' = (wr.drewN m).drewN q) := fun m => by have := HM.out m; simpa [hz0] using this
              have HNe : Hid (X ≠ Y) := HNo.out (fun e => hz0 (congrArg Prod.fst e))
              clear HM HNx HNo hJ hz0
              go_wp2_with fail
              go_quiet ((go_at_call 34; exact Calls.quiet_of (HM2.out _)))
              go_wp2_with fail
              go_ret
              exact ⟨hE _ rfl HNe.out, on2 hB.out.b (below_drewN (Below.refl _ _) _)⟩
          ·
            have HNe : Hid (X ≠ Y) := HNo.out (fun e => hz1 (congrArg Prod.snd e))
            have hzf : (z1 == z1') = false := by simpa using hz1
            have hzf2 : (z1 != z1') = true := by simpa using hz1
            clear HM HNx HNo hJ
            go_wp2_with fail
            go_quiet (fail)
            go_wp2_with fail
            go_ret
            exact ⟨hE _ rfl HNe.out, on2 hB.out.b (below_drewN (Below.refl _ _) _)⟩
        · have hlz : ¬ ((k : Int) < (n8 : Int)) := by omega
          have HL8 : Hid (prf = prf') := list_same (S8.out.1.trans T8.out.1.symm) (fun j hj => hJ.out j (by have := S8.out.1; omega))
          clear y8 hJ
          go_wp2_with fail
          have hl12 := S12.out.len (by decide)
          go_loopw [7] (fun i wr => ∃ k : Nat, k ≤ n12 ∧ i = .int .i64 k ∧ Hid (PB2 w wr [.string nm, .int .i64 pri, .slice a2 n2 m2, .int .i64 wa, .int .i64 wb, .int .i64 wc, .slice a6 n6 m6, .slice a7 n7 m7, .slice a8 n8 m8, .slice a9 n9 m9, .slice a10 n10 m10, .slice a11 n11 m11, .slice a12 n12 m12, .slice a13 n13 m13, .string nod, .string hop] [.string nm, .int .i64 pri, .slice b2 l2 k2, .int .i64 wa, .int .i64 wb, .int .i64 wc, .slice b6 n6 k6, .slice b7 l7 k7, .slice b8 n8 k8, .slice b9 l9 k9, .slice b10 l10 k10, .slice b11 l11 k11, .slice b12 n12 k12, .slice b13 l13 k13, .string nod, .string hop] ∧ ∀ j, j < k → spr.getD j default = spr'.getD j default)) (fun i _ => n12 - (intOf i).toNat)
          case atStart => exact ⟨0, Nat.zero_le _, rfl, hB.out, fun j hj => absurd hj (Nat.not_lt_zero _)⟩
          case round =>
            obtain ⟨k, hk, rfl, hBJ⟩ := hrel
            have hB : Hid (PB2 w wr [.string nm, .int .i64 pri, .slice a2 n2 m2, .int .i64 wa, .int .i64 wb, .int .i64 wc, .slice a6 n6 m6, .slice a7 n7 m7, .slice a8 n8 m8, .slice a9 n9 m9, .slice a10 n10 m10, .slice a11 n11 m11, .slice a12 n12 m12, .slice a13 n13 m13, .string nod, .string hop] [.string nm, .int .i64 pri, .slice b2 l2 k2, .int .i64 wa, .int .i64 wb, .int .i64 wc, .slice b6 n6 k6, .slice b7 l7 k7, .slice b8 n8 k8, .slice b9 l9 k9, .slice b10 l10 k10, .slice b11 l11 k11, .slice b12 n12 k12, .slice b13 l13 k13, .string nod, .string hop]) := hBJ.out.1
            have hJ : Hid (∀ j, j < k → spr.getD j default = spr'.getD j default) := hBJ.out.2
            clear hBJ
            obtain ⟨p12, _⟩ := hB.out.p.2 12 _ rfl
            obtain ⟨y12, _⟩ := hB.out.y.2 12 _ rfl
            by_cases hlt : k < n12
            · have hltz : (k : Int) < (n12 : Int) := by omega
              have HNx : Hid (spr.getD k default = spr'.getD k default → ∀ j, j < k + 1 → spr.getD j default = spr'.getD j default) := fun e j hj => by
                rcases Nat.lt_succ_iff_lt_or_eq.1 hj with h | rfl
                · exact hJ.out j h
                · exact e
              have HNo : Hid (¬ spr.getD k default = spr'.getD k default → X ≠ Y) := fun hn e => hn (by rw [show spr = spr' from (HI.out.1 e).2.2.2.2.2.2.2.2])
              obtain ⟨D, off, rfl, hD, _, cs, hra, hva⟩ := (S12.out.on RSpread.firm hB.out.b).get hlt
              obtain ⟨D', off', rfl, hD', _, cs', hrb, hvb⟩ := (T12.out.on RSpread.firm hB.out.b).get hlt
              obtain ⟨⟨c1, c2, c3⟩, rfl, _, hTa⟩ := hra.out
              obtain ⟨⟨e1, e2, e3⟩, rfl, _, hTb⟩ := hrb.out
              have d0 := hva 0 _ rfl
              have g0 := hvb 0 _ rfl
              have d1 := hva 1 _ rfl
              have g1 := hvb 1 _ rfl
              have d2 := hva 2 _ rfl
              have g2 := hvb 2 _ rfl
              have d3 := hva 3 _ rfl
              have g3 := hvb 3 _ rfl
              rw [Nat.add_zero] at d0 g0
              clear hra hrb hva hvb
              generalize spr.getD k default = z at d0 d1 d2 d3 hTa HNx HNo
              generalize spr'.getD k default = z' at g0 g1 g2 g3 hTb HNx HNo
              obtain ⟨z0, z1, z2, z3⟩ := z
              obtain ⟨y0, y1, y2, y3⟩ := z'
              simp only at d0 d1 d2 d3 g0 g1 g2 g3 hTa hTb
              have hTa' : Hid (SlAt RReq 3 48 A wr c1 c2 c3 z3) := hTa
              have hTb' : Hid (SlAt RReq 3 48 A' wr e1 e2 e3 y3) := hTb
              clear hTa hTb
              have hD1 : w.heap.size < wr.heap.size := hB.out.p.1
              have hD2 : w.heap.size + 1 < wr.heap.size := hB.out.y.1
              have : w.heap.size ≠ wr.heap.size := by omega
              have : w.heap.size ≠ wr.heap.size + 1 := by omega
              have : w.heap.size + 1 ≠ wr.heap.size := by omega
              have : w.heap.size + 1 ≠ wr.heap.size + 1 := by omega
              have : D ≠ wr.heap.size := by omega
              have : D ≠ wr.heap.size + 1 := by omega
              have : D' ≠ wr.heap.size := by omega
              have : D' ≠ wr.heap.size + 1 := by omega
              go_upto_region 18 with fail
              go_cut [8, 9] (fun p q wx => ∃ X Y : Nat, p = .pointer (some ⟨X, 0, none⟩) ∧ q = .pointer (some ⟨Y, 0, none⟩) ∧ wx.cell? ⟨X, 0, none⟩ = some (.string z0) ∧ wx.cell? ⟨X, 1, none⟩ = some (.int .i64 z1) ∧ wx.cell? ⟨X, 2, none⟩ = some (.int .i64 z2) ∧ wx.cell? ⟨X, 3, none⟩ = some (.slice c1 c2 c3) ∧ wx.cell? ⟨Y, 0, none⟩ = some (.string y0) ∧ wx.cell? ⟨Y, 1, none⟩ = some (.int .i64 y1) ∧ wx.cell? ⟨Y, 2, none⟩ = some (.int .i64 y2) ∧ wx.cell? ⟨Y, 3, none⟩ = some (.slice e1 e2 e3) ∧ Below wr.heap.size wr wx)
              case first =>
                go_region_held3 (fun w' => w'.cell? ⟨w.heap.size, 12, none⟩ = some (.slice (some ⟨D, off, none⟩) n12 m12) ∧ w'.cell? ⟨w.heap.size + 1, 12, none⟩ = some (.slice (some ⟨D', off', none⟩) n12 k12) ∧ w'.cell? ⟨D, off + k * 4, none⟩ = some (.string z0) ∧ w'.cell? ⟨D, off + k * 4 + 1, none⟩ = some (.int .i64 z1) ∧ w'.cell? ⟨D, off + k * 4 + 2, none⟩ = some (.int .i64 z2) ∧ w'.cell? ⟨D, off + k * 4 + 3, none⟩ = some (.slice c1 c2 c3) ∧ w'.cell? ⟨D', off' + k * 4, none⟩ = some (.string y0) ∧ w'.cell? ⟨D', off' + k * 4 + 1, none⟩ = some (.int .i64 y1) ∧ w'.cell? ⟨D', off' + k * 4 + 2, none⟩ = some (.int .i64 y2) ∧ w'.cell? ⟨D', off' + k * 4 + 3, none⟩ = some (.slice e1 e2 e3)) ((refine ⟨?_, ?_, ?_, ?_, ?_, ?_, ?_, ?_, ?_, ?_⟩) <;> (simp [*, go_sem]; done)) (fail)
                all_goals
                  go_wp2_with fail
                  go_meet
                  refine ⟨_, _, rfl, rfl, ?_, ?_, ?_, ?_, ?_, ?_, ?_, ?_, ?_⟩
                  all_goals first | (simp [go_sem]; done) | (simp [go_sem]; omega) | go_grown
              case rest =>
                obtain ⟨X1, Y1, rfl, rfl, x0, x1, x2, x3, v0, v1, v2, v3, hbc⟩ := hcut
                have hbe : Hid (Below wr.heap.size wr wc) := hbc
                have HBl : Hid (Below w.heap.size w wc) := on2 hB.out.b hbc
                clear hbc d0 d1 d2 d3 g0 g1 g2 g3
                by_cases hz0 : z0 = y0
                case neg =>
                  have hzf : (z0.toList == y0.toList) = false := by cases h : (z0.toList == y0.toList); rfl; exact absurd ((sEq_iff _ _).1 h) hz0
                  have HNe : Hid (X ≠ Y) := HNo.out (fun e => hz0 (congrArg (fun t => t.1) e))
                  clear HNx HNo hJ hTa' hTb'
                  go_wp2_with fail
                  go_ret
                  exact ⟨hE _ rfl HNe.out, HBl.out⟩
                subst hz0
                by_cases hz1 : z1 = y1
                case neg =>
                  have hzf : (z1 == y1) = false := by simpa using hz1
                  have HNe : Hid (X ≠ Y) := HNo.out (fun e => hz1 (congrArg (fun t => t.2.1) e))
                  clear HNx HNo hJ hTa' hTb'
                  go_wp2_with fail
                  go_ret
                  exact ⟨hE _ rfl HNe.out, HBl.out⟩
                subst hz1
                by_cases hz2 : z2 = y2
                case neg =>
                  have hzf : (z2 == y2) = false := by simpa using hz2
                  have HNe : Hid (X ≠ Y) := HNo.out (fun e => hz2 (congrArg (fun t => t.2.2.1) e))
                  clear HNx HNo hJ hTa' hTb'
                  go_wp2_with fail
                  go_ret
                  exact ⟨hE _ rfl HNe.out, HBl.out⟩
                subst hz2
                go_wp2_with fail
                refine (SameReqs_calls c1 c2 c3 A z3 e1 e2 e3 A' y3 wc (hTa'.out.on RReq.firm hbe.out) (hTb'.out.on RReq.firm hbe.out)).mono ?_
                rintro e V9 ⟨he, q, hq⟩
                have hb9 : Hid (Below wr.heap.size wr V9) := by rw [Hid, hq]; exact below_drewN hbe.out _
                clear hq x0 x1 x2 x3 v0 v1 v2 v3
                by_cases hz3 : z3 = y3
                ·
                  replace he : e = .returned (.bool true) := by rw [he]; simp [hz3]
                  subst he
                  have HNz := HNx.out (by rw [hz3])
                  clear HNx HNo hJ hz3 hTa' hTb'
                  go_wp2_with fail
                  go_roundw
                  case rel => exact ⟨k + 1, by omega, by go_num, hB.out.on hb9.out, HNz⟩
                  case measure => simp [intOf]; omega
                ·
                  replace he : e = .returned (.bool false) := by rw [he]; simp [hz3]
                  subst he
                  have HNe : Hid (X ≠ Y) := HNo.out (fun e => hz3 (congrArg (fun t => t.2.2.2) e))
                  clear HNx HNo hJ hz3 hTa' hTb'
                  go_wp2_with fail
                  go_ret
                  exact ⟨hE _ rfl HNe.out, on2 hB.out.b hb9.out⟩
            · have hlz : ¬ ((k : Int) < (n12 : Int)) := by omega
              have HL12 : Hid (spr = spr') := list_same (S12.out.1.trans T12.out.1.symm) (fun j hj => hJ.out j (by have := S12.out.1; omega))
              clear y12 hJ
              go_wp2_with fail
              go_ret
              exact ⟨tells ⟨fun _ => HI.out.2 ⟨HL2.out, HL7.out, HL9.out, HL10.out, HL11.out, HL13.out, HL6.out, HL8.out, HL12.out⟩, fun _ => rfl⟩, hB.out.b⟩
end Go.Proofs.YtfnafgmengefaaaGreatDoor
