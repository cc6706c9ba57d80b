/- base.Pod gives a copy of its own. Condition: the argument lies as is said of it. -/
import Derived.Test.YtgofpmcoffgffaaW01
import Derived.Test.YtgofpmcoffgffaaQ05
import Derived.Test.YtgofpmcoffgffaaQ13
import Derived.Test.YtgofpmcoffgffaaQ06
namespace Go.Proofs.Ytgofpmcoffgffaa
open Go.RowKit
set_option linter.unusedSimpArgs false
set_option maxRecDepth 100000

theorem infoBear : (Try.prog.info? 205).map (fun i => (i.zero, i.size, i.bytes)) = some (some (.agg #[.string ⟨#[]⟩, .string ⟨#[]⟩, .bool false, .int .i64 0]), 4, 48) := by kernel_rfl
theorem infoPrefer : (Try.prog.info? 128).map (fun i => (i.zero, i.size, i.bytes)) = some (some (.agg #[.slice none 0 0, .int .i64 0]), 2, 32) := by kernel_rfl
theorem infoSpread : (Try.prog.info? 132).map (fun i => (i.zero, i.size, i.bytes)) = some (some (.agg #[.string ⟨#[]⟩, .int .i64 0, .int .i64 0, .slice none 0 0]), 4, 56) := by kernel_rfl
/-- The blocks of the parameter, of the result and of the variable. -/
structure PB (w u : World) (P Z Q : List Value) : Prop where
  p : BoxL u w.heap.size P
  z : BoxL u (w.heap.size + 1) Z
  q : BoxL u (w.heap.size + 1 + 1) Q
  b : Below w.heap.size w u
theorem PB.on {w u u' : World} {P Z Q : List Value} (h : PB w u P Z Q) (hb : Below u.heap.size u u') : PB w u' P Z Q :=
  ⟨h.p.on hb, h.z.on hb, h.q.on hb, on2 h.b hb⟩
theorem PB.set {w u : World} {P Z Q : List Value} (h : PB w u P Z Q) (i : Nat) (v : Value) (hi : i < Q.length) : PB w (u.setCell ⟨w.heap.size + 1 + 1, i, none⟩ v) P Z (Q.set i v) :=
  ⟨h.p.other (by simp; omega) v, h.z.other (by simp) v, h.q.set i v hi, h.b.setCell (by simp; omega) v⟩
theorem PB.sz {w u : World} {P Z Q : List Value} (h : PB w u P Z Q) : w.heap.size + 1 + 1 < u.heap.size := h.q.1
theorem PB.fr {w u W : World} {P Z Q : List Value} (h : PB w u P Z Q) (hW : W.heap.size = w.heap.size + 1 + 1 + 1) : ∀ b, Fresh u b → Fresh W b := fun b hb => show W.heap.size ≤ b by have h1 : u.heap.size ≤ b := hb; have := h.sz; omega

def PfS (w : World) (D off k : Nat) (hp v h0 h1 : Value) (u : World) : Prop :=
  u.cell? ⟨w.heap.size, 8, none⟩ = some hp ∧ u.cell? ⟨w.heap.size + 1 + 1, 8, none⟩ = some v ∧ u.frozen? ⟨w.heap.size + 1 + 1, 8, none⟩ = false ∧ u.cell? ⟨D, off + k * 2, none⟩ = some h0 ∧ u.cell? ⟨D, off + k * 2 + 1, none⟩ = some h1
def TwS (w : World) (h10 h11 : Value) (u : World) : Prop := u.cell? ⟨w.heap.size, 10, none⟩ = some h10 ∧ u.cell? ⟨w.heap.size, 11, none⟩ = some h11

set_option maxHeartbeats 8000000 in
theorem Pod_copy (cs : List Value) (A : Where) (x : PodD) (w : World) (h : Hid (RPod A w cs x)) : Calls Try.prog 21 #[.agg cs.toArray] w fun e w' => ∃ cs', e = .returned (.agg cs'.toArray) ∧ RPod (Fresh w) w' cs' x ∧ Below w.heap.size w w' := by
  obtain ⟨nm, pri, lab, ⟨wa, wb, wc⟩, brs, ask, prf, prt, nea, apa, spr, clm, nod, hop⟩ := x
  obtain ⟨⟨a2, n2, m2⟩, ⟨a6, n6, m6⟩, ⟨a7, n7, m7⟩, ⟨a8, n8, m8⟩, ⟨a9, n9, m9⟩, ⟨a10, n10, m10⟩, ⟨a11, n11, m11⟩, ⟨a12, n12, m12⟩, ⟨a13, n13, m13⟩, rfl, p0, s2, s6, s7, s8, s9, s10, s11, s12, s13, p14, p15⟩ := h.out.out
  simp only at p0 s2 s6 s7 s8 s9 s10 s11 s12 s13 p14 p15 ⊢
  clear h
  have S2 : Hid (SlAt RLabel 2 32 A w a2 n2 m2 lab) := s2
  have S6 : Hid (SlAt RBear 4 48 A w a6 n6 m6 brs) := s6
  have S7 : Hid (SlAt RReq 3 48 A w a7 n7 m7 ask) := s7
  have S8 : Hid (SlAt RPrefer 2 32 A w a8 n8 m8 prf) := s8
  have S9 : Hid (SlAt RInt 1 8 A w a9 n9 m9 prt) := s9
  have S10 : Hid (SlAt RTerm 2 40 A w a10 n10 m10 nea) := s10
  have S11 : Hid (SlAt RTerm 2 40 A w a11 n11 m11 apa) := s11
  have S12 : Hid (SlAt RSpread 4 56 A w a12 n12 m12 spr) := s12
  have S13 : Hid (SlAt RStr 1 16 A w a13 n13 m13 clm) := s13
  clear s2 s6 s7 s8 s9 s10 s11 s12 s13
  obtain ⟨W3, hW3⟩ : ∃ W3, W3 = (((w.alloc (.cells #[.string nm, .int .i64 pri, .slice a2 n2 m2, .int .i64 wa, .int .i64 wb, .int .i64 wc, .slice a6 n6 m6, .slice a7 n7 m7, .slice a8 n8 m8, .slice a9 n9 m9, .slice a10 n10 m10, .slice a11 n11 m11, .slice a12 n12 m12, .slice a13 n13 m13, .string nod, .string hop] 33)).alloc (.cells #[.string ⟨#[]⟩, .int .i64 0, .slice none 0 0, .int .i64 0, .int .i64 0, .int .i64 0, .slice none 0 0, .slice none 0 0, .slice none 0 0, .slice none 0 0, .slice none 0 0, .slice none 0 0, .slice none 0 0, .slice none 0 0, .string ⟨#[]⟩, .string ⟨#[]⟩] 33)).alloc (.cells #[.string nm, .int .i64 pri, .slice a2 n2 m2, .int .i64 wa, .int .i64 wb, .int .i64 wc, .slice a6 n6 m6, .slice a7 n7 m7, .slice a8 n8 m8, .slice a9 n9 m9, .slice a10 n10 m10, .slice a11 n11 m11, .slice a12 n12 m12, .slice a13 n13 m13, .string nod, .string hop] 33)) := ⟨_, rfl⟩
  have hsz : Hid (W3.heap.size = w.heap.size + 1 + 1 + 1) := by rw [Hid, hW3]; simp
  have B3 : Hid (PB w W3 [.string nm, .int .i64 pri, .slice a2 n2 m2, .int .i64 wa, .int .i64 wb, .int .i64 wc, .slice a6 n6 m6, .slice a7 n7 m7, .slice a8 n8 m8, .slice a9 n9 m9, .slice a10 n10 m10, .slice a11 n11 m11, .slice a12 n12 m12, .slice a13 n13 m13, .string nod, .string hop] [.string ⟨#[]⟩, .int .i64 0, .slice none 0 0, .int .i64 0, .int .i64 0, .int .i64 0, .slice none 0 0, .slice none 0 0, .slice none 0 0, .slice none 0 0, .slice none 0 0, .slice none 0 0, .slice none 0 0, .slice none 0 0, .string ⟨#[]⟩, .string ⟨#[]⟩] [.string nm, .int .i64 pri, .slice a2 n2 m2, .int .i64 wa, .int .i64 wb, .int .i64 wc, .slice a6 n6 m6, .slice a7 n7 m7, .slice a8 n8 m8, .slice a9 n9 m9, .slice a10 n10 m10, .slice a11 n11 m11, .slice a12 n12 m12, .slice a13 n13 m13, .string nod, .string hop]) := by
    rw [hW3]
    refine ⟨(BoxL.new w 33 [.string nm, .int .i64 pri, .slice a2 n2 m2, .int .i64 wa, .int .i64 wb, .int .i64 wc, .slice a6 n6 m6, .slice a7 n7 m7, .slice a8 n8 m8, .slice a9 n9 m9, .slice a10 n10 m10, .slice a11 n11 m11, .slice a12 n12 m12, .slice a13 n13 m13, .string nod, .string hop]).on (((Below.refl _ _).alloc (Nat.le_refl _) _).alloc (by simp) _), ?_, ?_, by go_grown⟩
    · have := (BoxL.new (w.alloc (.cells #[.string nm, .int .i64 pri, .slice a2 n2 m2, .int .i64 wa, .int .i64 wb, .int .i64 wc, .slice a6 n6 m6, .slice a7 n7 m7, .slice a8 n8 m8, .slice a9 n9 m9, .slice a10 n10 m10, .slice a11 n11 m11, .slice a12 n12 m12, .slice a13 n13 m13, .string nod, .string hop] 33)) 33 [.string ⟨#[]⟩, .int .i64 0, .slice none 0 0, .int .i64 0, .int .i64 0, .int .i64 0, .slice none 0 0, .slice none 0 0, .slice none 0 0, .slice none 0 0, .slice none 0 0, .slice none 0 0, .slice none 0 0, .slice none 0 0, .string ⟨#[]⟩, .string ⟨#[]⟩]).on ((Below.refl _ _).alloc (Nat.le_refl _) (.cells #[.string nm, .int .i64 pri, .slice a2 n2 m2, .int .i64 wa, .int .i64 wb, .int .i64 wc, .slice a6 n6 m6, .slice a7 n7 m7, .slice a8 n8 m8, .slice a9 n9 m9, .slice a10 n10 m10, .slice a11 n11 m11, .slice a12 n12 m12, .slice a13 n13 m13, .string nod, .string hop] 33))
      simpa using this
    · have := BoxL.new ((w.alloc (.cells #[.string nm, .int .i64 pri, .slice a2 n2 m2, .int .i64 wa, .int .i64 wb, .int .i64 wc, .slice a6 n6 m6, .slice a7 n7 m7, .slice a8 n8 m8, .slice a9 n9 m9, .slice a10 n10 m10, .slice a11 n11 m11, .slice a12 n12 m12, .slice a13 n13 m13, .string nod, .string hop] 33)).alloc (.cells #[.string ⟨#[]⟩, .int .i64 0, .slice none 0 0, .int .i64 0, .int .i64 0, .int .i64 0, .slice none 0 0, .slice none 0 0, .slice none 0 0, .slice none 0 0, .slice none 0 0, .slice none 0 0, .slice none 0 0, .slice none 0 0, .string ⟨#[]⟩, .string ⟨#[]⟩] 33)) 33 [.string nm, .int .i64 pri, .slice a2 n2 m2, .int .i64 wa, .int .i64 wb, .int .i64 wc, .slice a6 n6 m6, .slice a7 n7 m7, .slice a8 n8 m8, .slice a9 n9 m9, .slice a10 n10 m10, .slice a11 n11 m11, .slice a12 n12 m12, .slice a13 n13 m13, .string nod, .string hop]
      simpa using this
  go_enter Try.func21, Try.ntmps21
  go_wp2_with fail
  rw [← hW3]
  clear hW3
  refine (Labels_copy a2 n2 m2 A lab W3 (S2.out.on RLabel.firm B3.out.b)).mono ?_
  rintro e v2 ⟨b2, k2, rfl, hS2, hb2⟩
  have C2 := B3.out.on hb2
  obtain ⟨G2, sG2, g2, i2, o2⟩ := Stays.add (Stays.none W3) trivial RLabel.firm hS2
  replace sG2 : Hid (Stays W3 G2) := sG2
  replace i2 : Hid (∀ v, G2 v → _) := i2
  replace o2 : Hid (∀ v, G2 v → _) := o2
  have hs4 := C2.sz
  have hlt0 : w.heap.size < v2.heap.size := by omega
  have hne0 : w.heap.size ≠ v2.heap.size := by omega
  have hne1 : w.heap.size + 1 ≠ v2.heap.size := by omega
  have hne2 : w.heap.size + 1 + 1 ≠ v2.heap.size := by omega
  obtain ⟨q2, qf2⟩ := C2.q.2 2 _ rfl
  obtain ⟨p6, pf6⟩ := C2.p.2 6 _ rfl
  obtain ⟨W5, hW5⟩ : ∃ W5, W5 = v2.setCell ⟨w.heap.size + 1 + 1, 2, none⟩ (.slice b2 n2 k2) := ⟨_, rfl⟩
  have B5 : Hid (PB w W5 [.string nm, .int .i64 pri, .slice a2 n2 m2, .int .i64 wa, .int .i64 wb, .int .i64 wc, .slice a6 n6 m6, .slice a7 n7 m7, .slice a8 n8 m8, .slice a9 n9 m9, .slice a10 n10 m10, .slice a11 n11 m11, .slice a12 n12 m12, .slice a13 n13 m13, .string nod, .string hop] [.string ⟨#[]⟩, .int .i64 0, .slice none 0 0, .int .i64 0, .int .i64 0, .int .i64 0, .slice none 0 0, .slice none 0 0, .slice none 0 0, .slice none 0 0, .slice none 0 0, .slice none 0 0, .slice none 0 0, .slice none 0 0, .string ⟨#[]⟩, .string ⟨#[]⟩] [.string nm, .int .i64 pri, .slice b2 n2 k2, .int .i64 wa, .int .i64 wb, .int .i64 wc, .slice a6 n6 m6, .slice a7 n7 m7, .slice a8 n8 m8, .slice a9 n9 m9, .slice a10 n10 m10, .slice a11 n11 m11, .slice a12 n12 m12, .slice a13 n13 m13, .string nod, .string hop]) := by rw [hW5]; exact C2.set 2 _ (by simp)
  have g2' : Hid (G2 W5) := by rw [hW5]; exact sG2.out _ _ g2 (Kept.set (Fresh.not (by have := hsz.out; simp; omega)) _)
  clear g2 hS2 hb2; have g2 := g2'; clear g2'
  have hs5 : Hid (W5.heap.size = v2.heap.size) := by rw [Hid, hW5]; simp
  have HR : Hid (Row RBear 4 (Fresh W5) W5 (W5.alloc (.cells #[] 205)) 205 (.slice (some ⟨v2.heap.size, 0, none⟩) 0 0) []) := by rw [← hs5.out]; exact Row.start _ _ _ _ (Below.refl _ _)
  have HN : Hid (Src RBear 4 (fun b => Fresh W5 b ∧ Value.ownBlock (.slice (some ⟨v2.heap.size, 0, none⟩) 0 0) ≠ some b) (W5.alloc (.cells #[] 205)) a6 n6 brs) := ((S6.out.on RBear.firm (B5.out.b.alloc (by have := B5.out.sz; omega) _)).src RBear.firm).flat RBear.flat
  have HB : Hid ((([] : List Bear).length + brs.length) * 48 ≤ 140737488355328) := by have h1 := S6.out.2.2.2.1; have h2 := S6.out.1; rw [Hid, h2]; simp; omega
  clear C2
  go_wp2_with (at_builtin; go_must (rw [← hW5]); go_must (refine row_appendS RBear.firm (A := Fresh W5) (w0 := W5) rfl _ _ 25 205 rfl _ 48 infoBear Try.underlying25 rfl (by decide) (by decide) _ [] rfl HR.out a6 n6 m6 brs rfl HN.out HB.out ?_); clear q2 qf2 p6 pf6 hs4 hne0 hne1 hne2 hlt0 hW5; intro x6 v6 hr6 hg6; rw [List.nil_append] at hr6; obtain ⟨b6, k6, rfl, hS6⟩ := hr6.slF (bytes := 48) RBear.firm (by rw [S6.out.1]; exact S6.out.2.2.2.1); have hb6 := hr6.below; have C6 := B5.out.on hb6; rw [S6.out.1] at hS6 ⊢; have hs4 := C6.sz; have hlt0 : w.heap.size < v6.heap.size := (by omega); have hne0 : w.heap.size ≠ v6.heap.size := (by omega); have hne1 : w.heap.size + 1 ≠ v6.heap.size := (by omega); have hne2 : w.heap.size + 1 + 1 ≠ v6.heap.size := (by omega); obtain ⟨q6, qf6⟩ := C6.q.2 6 _ rfl; obtain ⟨p7, pf7⟩ := C6.p.2 7 _ rfl)
  obtain ⟨G6, sG6, g6, i6, o6⟩ := Stays.add (u := v6) sG2.out (sG2.out _ _ g2.out (Kept.below hb6)) RBear.firm (hS6.weak RBear.firm (fun b _ hb => B5.out.fr hsz.out b hb))
  replace sG6 : Hid (Stays W3 G6) := sG6
  replace i6 : Hid (∀ v, G6 v → _) := i6
  replace o6 : Hid (∀ v, G6 v → _) := o6
  obtain ⟨W7, hW7⟩ : ∃ W7, W7 = v6.setCell ⟨w.heap.size + 1 + 1, 6, none⟩ (.slice b6 n6 k6) := ⟨_, rfl⟩
  have B7 : Hid (PB w W7 [.string nm, .int .i64 pri, .slice a2 n2 m2, .int .i64 wa, .int .i64 wb, .int .i64 wc, .slice a6 n6 m6, .slice a7 n7 m7, .slice a8 n8 m8, .slice a9 n9 m9, .slice a10 n10 m10, .slice a11 n11 m11, .slice a12 n12 m12, .slice a13 n13 m13, .string nod, .string hop] [.string ⟨#[]⟩, .int .i64 0, .slice none 0 0, .int .i64 0, .int .i64 0, .int .i64 0, .slice none 0 0, .slice none 0 0, .slice none 0 0, .slice none 0 0, .slice none 0 0, .slice none 0 0, .slice none 0 0, .slice none 0 0, .string ⟨#[]⟩, .string ⟨#[]⟩] [.string nm, .int .i64 pri, .slice b2 n2 k2, .int .i64 wa, .int .i64 wb, .int .i64 wc, .slice b6 n6 k6, .slice a7 n7 m7, .slice a8 n8 m8, .slice a9 n9 m9, .slice a10 n10 m10, .slice a11 n11 m11, .slice a12 n12 m12, .slice a13 n13 m13, .string nod, .string hop]) := by rw [hW7]; exact C6.set 6 _ (by simp)
  have g6' : Hid (G6 W7) := by rw [hW7]; exact sG6.out _ _ g6 (Kept.set (Fresh.not (by have := hsz.out; simp; omega)) _)
  clear g6 hS6 hb6; have g6 := g6'; clear g6'
  rw [← hW7]
  clear hW7 C6 q6 qf6 p7 pf7 hs4 hlt0 hne0 hne1 hne2 hr6 hg6 HR HN HB
  refine (Reqs_copy a7 n7 m7 A ask W7 (S7.out.on RReq.firm B7.out.b)).mono ?_
  rintro e v7 ⟨b7, k7, rfl, hS7, hb7⟩
  have C7 := B7.out.on hb7
  obtain ⟨G7, sG7, g7, i7, o7⟩ := Stays.add (u := v7) sG6.out (sG6.out _ _ g6.out (Kept.below hb7)) RReq.firm (hS7.weak RReq.firm (fun b _ hb => B7.out.fr hsz.out b hb))
  replace sG7 : Hid (Stays W3 G7) := sG7
  replace i7 : Hid (∀ v, G7 v → _) := i7
  replace o7 : Hid (∀ v, G7 v → _) := o7
  have hs4 := C7.sz
  have hlt0 : w.heap.size < v7.heap.size := (by omega)
  have hne0 : w.heap.size ≠ v7.heap.size := (by omega)
  have hne1 : w.heap.size + 1 ≠ v7.heap.size := (by omega)
  have hne2 : w.heap.size + 1 + 1 ≠ v7.heap.size := (by omega)
  obtain ⟨q7, qf7⟩ := C7.q.2 7 _ rfl
  obtain ⟨q8, qf8⟩ := C7.q.2 8 _ rfl
  obtain ⟨p8, pf8⟩ := C7.p.2 8 _ rfl
  obtain ⟨W8, hW8⟩ : ∃ W8, W8 = v7.setCell ⟨w.heap.size + 1 + 1, 7, none⟩ (.slice b7 n7 k7) := ⟨_, rfl⟩
  have B8 : Hid (PB w W8 [.string nm, .int .i64 pri, .slice a2 n2 m2, .int .i64 wa, .int .i64 wb, .int .i64 wc, .slice a6 n6 m6, .slice a7 n7 m7, .slice a8 n8 m8, .slice a9 n9 m9, .slice a10 n10 m10, .slice a11 n11 m11, .slice a12 n12 m12, .slice a13 n13 m13, .string nod, .string hop] [.string ⟨#[]⟩, .int .i64 0, .slice none 0 0, .int .i64 0, .int .i64 0, .int .i64 0, .slice none 0 0, .slice none 0 0, .slice none 0 0, .slice none 0 0, .slice none 0 0, .slice none 0 0, .slice none 0 0, .slice none 0 0, .string ⟨#[]⟩, .string ⟨#[]⟩] [.string nm, .int .i64 pri, .slice b2 n2 k2, .int .i64 wa, .int .i64 wb, .int .i64 wc, .slice b6 n6 k6, .slice b7 n7 k7, .slice a8 n8 m8, .slice a9 n9 m9, .slice a10 n10 m10, .slice a11 n11 m11, .slice a12 n12 m12, .slice a13 n13 m13, .string nod, .string hop]) := by rw [hW8]; exact C7.set 7 _ (by simp)
  have g7' : Hid (G7 W8) := by rw [hW8]; exact sG7.out _ _ g7 (Kept.set (Fresh.not (by have := hsz.out; simp; omega)) _)
  clear g7 hS7 hb7; have g7 := g7'; clear g7'
  have hs8 : Hid (W8.heap.size = v7.heap.size) := by rw [Hid, hW8]; simp
  have HR : Hid (Row RPrefer 2 (Fresh (W8.setCell ⟨w.heap.size + 1 + 1, 8, none⟩ (.slice (some ⟨v7.heap.size, 0, none⟩) 0 0))) (W8.setCell ⟨w.heap.size + 1 + 1, 8, none⟩ (.slice (some ⟨v7.heap.size, 0, none⟩) 0 0)) ((W8.setCell ⟨w.heap.size + 1 + 1, 8, none⟩ (.slice (some ⟨v7.heap.size, 0, none⟩) 0 0)).alloc (.cells #[] 128)) 128 (.slice (some ⟨v7.heap.size, 0, none⟩) 0 0) (prf.take 0)) := by
    have h1 := Row.start (R := RPrefer) (k := 2) (Fresh (W8.setCell ⟨w.heap.size + 1 + 1, 8, none⟩ (.slice (some ⟨v7.heap.size, 0, none⟩) 0 0))) (W8.setCell ⟨w.heap.size + 1 + 1, 8, none⟩ (.slice (some ⟨v7.heap.size, 0, none⟩) 0 0)) (W8.setCell ⟨w.heap.size + 1 + 1, 8, none⟩ (.slice (some ⟨v7.heap.size, 0, none⟩) 0 0)) 128 (Below.refl _ _)
    simp only [World.size_setCell, hs8.out] at h1
    exact h1
  have B9 : Hid (PB w (W8.setCell ⟨w.heap.size + 1 + 1, 8, none⟩ (.slice (some ⟨v7.heap.size, 0, none⟩) 0 0)) [.string nm, .int .i64 pri, .slice a2 n2 m2, .int .i64 wa, .int .i64 wb, .int .i64 wc, .slice a6 n6 m6, .slice a7 n7 m7, .slice a8 n8 m8, .slice a9 n9 m9, .slice a10 n10 m10, .slice a11 n11 m11, .slice a12 n12 m12, .slice a13 n13 m13, .string nod, .string hop] [.string ⟨#[]⟩, .int .i64 0, .slice none 0 0, .int .i64 0, .int .i64 0, .int .i64 0, .slice none 0 0, .slice none 0 0, .slice none 0 0, .slice none 0 0, .slice none 0 0, .slice none 0 0, .slice none 0 0, .slice none 0 0, .string ⟨#[]⟩, .string ⟨#[]⟩] [.string nm, .int .i64 pri, .slice b2 n2 k2, .int .i64 wa, .int .i64 wb, .int .i64 wc, .slice b6 n6 k6, .slice b7 n7 k7, .slice (some ⟨v7.heap.size, 0, none⟩) 0 0, .slice a9 n9 m9, .slice a10 n10 m10, .slice a11 n11 m11, .slice a12 n12 m12, .slice a13 n13 m13, .string nod, .string hop]) := B8.out.set 8 _ (by simp)
  have g8 : Hid (G7 (W8.setCell ⟨w.heap.size + 1 + 1, 8, none⟩ (.slice (some ⟨v7.heap.size, 0, none⟩) 0 0))) := sG7.out _ _ g7.out (Kept.set (Fresh.not (by have := hsz.out; have := B8.out.sz; simp; omega)) _)
  clear C7
  go_wp2_with fail
  rw [← hW8]
  clear hW8 q7 qf7 q8 qf8 p8 pf8 hs4 hlt0 hne0 hne1 hne2
  go_loopw [4] (fun i wr => ∃ (k : Nat) (X : World) (v : Value), k ≤ n8 ∧ i = .int .i64 k ∧ Hid (PB w X [.string nm, .int .i64 pri, .slice a2 n2 m2, .int .i64 wa, .int .i64 wb, .int .i64 wc, .slice a6 n6 m6, .slice a7 n7 m7, .slice a8 n8 m8, .slice a9 n9 m9, .slice a10 n10 m10, .slice a11 n11 m11, .slice a12 n12 m12, .slice a13 n13 m13, .string nod, .string hop] [.string ⟨#[]⟩, .int .i64 0, .slice none 0 0, .int .i64 0, .int .i64 0, .int .i64 0, .slice none 0 0, .slice none 0 0, .slice none 0 0, .slice none 0 0, .slice none 0 0, .slice none 0 0, .slice none 0 0, .slice none 0 0, .string ⟨#[]⟩, .string ⟨#[]⟩] [.string nm, .int .i64 pri, .slice b2 n2 k2, .int .i64 wa, .int .i64 wb, .int .i64 wc, .slice b6 n6 k6, .slice b7 n7 k7, v, .slice a9 n9 m9, .slice a10 n10 m10, .slice a11 n11 m11, .slice a12 n12 m12, .slice a13 n13 m13, .string nod, .string hop]) ∧ Hid (Row RPrefer 2 (Fresh X) X wr 128 v (prf.take k)) ∧ Hid (G7 X)) (fun i _ => n8 - (intOf i).toNat)
  case atStart => exact ⟨0, _, _, Nat.zero_le _, rfl, B9, HR, g8⟩
  case round =>
    obtain ⟨k, X, v, hk, rfl, hB, hrow, hG⟩ := hrel
    have hbX : Below X.heap.size X wr := hrow.out.below
    have hBw := hB.out.on hbX
    obtain ⟨p8, pf8⟩ := hBw.p.2 8 _ rfl
    have hn8 : Hid (prf.length = n8) := S8.out.1
    have hbb8 : Hid (n8 * 32 ≤ 140737488351232) := S8.out.2.2.2.1
    have hl8 := S8.out.len (by decide)
    by_cases hlt : k < n8
    · have hltz : (k : Int) < (n8 : Int) := by omega
      have hkl : Hid (k < prf.length) := by rw [Hid, hn8.out]; exact hlt
      obtain ⟨D, off, rfl, hD, _, cs, hr, hv⟩ := S8.out.get hlt
      obtain ⟨⟨c1, c2, c3⟩, rfl, hT⟩ := hr.out
      have d0 := hv 0 _ rfl
      have d1 := hv 1 _ rfl
      rw [Nat.add_zero] at d0
      have HT : Hid (prf.take k ++ [prf.getD k default] = prf.take (k + 1)) := take_at hkl.out
      have HS : Hid (∀ {u : World}, Below X.heap.size X u → PfS w D off k (.slice (some ⟨D, off, none⟩) n8 m8) v (.slice c1 c2 c3) (.int .i64 (prf.getD k default).2) u) := fun {u} hb => ⟨((hB.out.on hb).p.2 8 _ rfl).1, ((hB.out.on hb).q.2 8 _ rfl).1, ((hB.out.on hb).q.2 8 _ rfl).2, ((hB.out.on hb).b.cell hD).trans d0, ((hB.out.on hb).b.cell hD).trans d1⟩
      have HC := Reqs_copy c1 c2 c3 A (prf.getD k default).1 wr.drew (hT.on RReq.firm hBw.b.drew)
      have HLb : Hid (((prf.take k).length + 1) * 32 ≤ 140737488355328) := by
        have := bytes_le hbb8.out hlt
        rw [Hid, List.length_take, hn8.out, Nat.min_eq_left (by omega)]
        exact this
      have hsX := hB.out.sz
      clear hr hT hv d0 d1 hBw
      generalize prf.getD k default = x at HT HS HC
      go_wp2_with fail
      refine u0 19 (PfS w D off k (.slice (some ⟨D, off, none⟩) n8 m8) v (.slice c1 c2 c3) (.int .i64 x.2)) (HS.out hbX.drew) (fun hHeld => ?_)
      refine' uk 0 ?_ ?_; rotate_left
      · intro u ⟨_, _, _, _, _⟩; go_simp; try with_reducible rfl
      try go_frame
      refine' uk 1 ?_ ?_; rotate_left
      · intro u ⟨_, _, _, _, _⟩; go_simp; try with_reducible rfl
      try go_frame
      refine' uk 2 ?_ ?_; rotate_left
      · intro u ⟨_, _, _, _, _⟩; go_simp; try with_reducible rfl
      try go_frame
      refine' uk 3 ?_ ?_; rotate_left
      · intro u ⟨_, _, _, _, _⟩; go_simp; try with_reducible rfl
      try go_frame
      refine' uk 4 ?_ ?_; rotate_left
      · intro u ⟨_, _, _, _, _⟩; go_simp; try with_reducible rfl
      try go_frame
      refine' uk 5 ?_ ?_; rotate_left
      · intro u ⟨_, _, _, _, _⟩; go_simp; try with_reducible rfl
      try go_frame
      refine' uk 6 ?_ ?_; rotate_left
      · intro u ⟨_, _, _, _, _⟩; go_simp; try with_reducible rfl
      try go_frame
      refine' uk 7 ?_ ?_; rotate_left
      · intro u ⟨_, _, _, _, _⟩; go_simp; try with_reducible rfl
      try go_frame
      refine' uk 9 ?_ ?_; rotate_left
      · intro u ⟨_, _, _, _, _⟩; go_simp; try with_reducible rfl
      try go_frame
      refine' uk 10 ?_ ?_; rotate_left
      · intro u ⟨_, _, _, _, _⟩; go_simp; try with_reducible rfl
      try go_frame
      refine' uk 11 ?_ ?_; rotate_left
      · intro u ⟨_, _, _, _, _⟩; go_simp; try with_reducible rfl
      try go_frame
      refine' uk 12 ?_ ?_; rotate_left
      · intro u ⟨_, _, _, _, _⟩; go_simp; try with_reducible rfl
      try go_frame
      refine' uk 13 ?_ ?_; rotate_left
      · intro u ⟨_, _, _, _, _⟩; go_simp; try with_reducible rfl
      try go_frame
      refine' uk 14 ?_ ?_; rotate_left
      · intro u ⟨_, _, _, _, _⟩; go_simp; try with_reducible rfl
      try go_frame
      refine ur 8 (fun K hK => ?_)
      go_simp
      refine HC.mono ?_
      rintro e w5 ⟨a5, c5, rfl, hS5, hb5⟩
      have hbX5 := on2 hbX.drew hb5
      have HR5 := hrow.out.on RPrefer.firm (((Below.refl _ wr).drew.trans (hb5.mono (Nat.le_refl _))))
      go_wp2_with fail
      refine hK.out _ _ (HS.out hbX5) (fun hHeld2 => ?_)
      clear hK K hHeld; have hHeld := hHeld2; clear hHeld2
      try go_frame
      refine' uk 15 ?_ ?_; rotate_left
      · intro u ⟨_, _, _, _, _⟩; go_simp; try with_reducible rfl
      try go_frame
      have hb6 : Below wr.heap.size wr (w5.alloc (.cells #[.slice a5 c2 c5, .int .i64 x.2] 128)) := ((Below.refl _ wr).drew.trans (hb5.mono (Nat.le_refl _))).alloc hb5.size _
      have HR6 := hrow.out.on RPrefer.firm hb6
      have HE : RPrefer (fun b => Fresh X b ∧ Value.ownBlock v ≠ some b) (w5.alloc (.cells #[.slice a5 c2 c5, .int .i64 x.2] 128)) [.slice a5 c2 c5, .int .i64 x.2] x := RPrefer.mk (h0 := (a5, c2, c5)) ((hS5.kept RReq.firm (Kept.alloc _ _ _)).weak RReq.firm (fun b _ hb => hrow.out.apart (u' := wr.drew) (Nat.le_refl _) b hb))
      have HCh := chunk_one RPrefer.firm HE
      have HX := one_cells w5 [.slice a5 c2 c5, .int .i64 x.2] 128
      refine ur 16 (fun K hK => ?_)
      go_simp
      refine hK.out _ _ (HS.out (on2 hbX hb6)) (fun hHeld2 => ?_)
      clear hK K hHeld; have hHeld := hHeld2; clear hHeld2
      try go_frame
      refine ur 17 (fun K hK => ?_)
      refine row_append_wp RPrefer.firm (A := Fresh X) (w0 := X) _ _ 27 128 rfl _ 32 infoPrefer Try.underlying27 rfl (by decide) (by decide) v (prf.take k) rfl HR6 ⟨w5.heap.size, 0, none⟩ 1 1 _ [x] rfl rfl HCh HX (by simp [Value.oneCell']) HLb.out ?_
      intro v9 w9 hrow9 hg9
      rw [HT.out] at hrow9
      obtain ⟨e9, c9, rfl, _⟩ := hrow9.slF (bytes := 32) RPrefer.firm (Nat.le_trans (Nat.mul_le_mul_right 32 (by rw [List.length_take, hn8.out]; omega)) hbb8.out)
      generalize (prf.take (k + 1)).length = l9 at hrow9 ⊢
      refine hK.out _ _ (HS.out hrow9.below) (fun hHeld2 => ?_)
      clear hK K hHeld; have hHeld := hHeld2; clear hHeld2
      try go_frame
      refine' uk 18 ?_ ?_; rotate_left
      · intro u ⟨_, _, _, _, _⟩; go_simp; try with_reducible rfl
      try go_frame
      have hrow9' : Hid (Row RPrefer 2 (Fresh (X.setCell ⟨w.heap.size + 1 + 1, 8, none⟩ (.slice e9 l9 c9))) (X.setCell ⟨w.heap.size + 1 + 1, 8, none⟩ (.slice e9 l9 c9)) (w9.setCell ⟨w.heap.size + 1 + 1, 8, none⟩ (.slice e9 l9 c9)) 128 (.slice e9 l9 c9) (prf.take (k + 1))) := hrow9.bothF RPrefer.firm hsX _
      have hB9 : Hid (PB w (X.setCell ⟨w.heap.size + 1 + 1, 8, none⟩ (.slice e9 l9 c9)) [.string nm, .int .i64 pri, .slice a2 n2 m2, .int .i64 wa, .int .i64 wb, .int .i64 wc, .slice a6 n6 m6, .slice a7 n7 m7, .slice (some ⟨D, off, none⟩) n8 m8, .slice a9 n9 m9, .slice a10 n10 m10, .slice a11 n11 m11, .slice a12 n12 m12, .slice a13 n13 m13, .string nod, .string hop] [.string ⟨#[]⟩, .int .i64 0, .slice none 0 0, .int .i64 0, .int .i64 0, .int .i64 0, .slice none 0 0, .slice none 0 0, .slice none 0 0, .slice none 0 0, .slice none 0 0, .slice none 0 0, .slice none 0 0, .slice none 0 0, .string ⟨#[]⟩, .string ⟨#[]⟩] [.string nm, .int .i64 pri, .slice b2 n2 k2, .int .i64 wa, .int .i64 wb, .int .i64 wc, .slice b6 n6 k6, .slice b7 n7 k7, .slice e9 l9 c9, .slice a9 n9 m9, .slice a10 n10 m10, .slice a11 n11 m11, .slice a12 n12 m12, .slice a13 n13 m13, .string nod, .string hop]) := hB.out.set 8 _ (by simp)
      have hG9 : Hid (G7 (X.setCell ⟨w.heap.size + 1 + 1, 8, none⟩ (.slice e9 l9 c9))) := sG7.out _ _ hG.out (Kept.set (Fresh.not (by have := hsz.out; have := hsX; simp; omega)) _)
      obtain ⟨_, q8, f8, _, _⟩ := hHeld
      refine uz 19 (fun K hK => ?_)
      go_simp
      refine hK.out _ (NoPanic.normal ?_)
      try go_frame
      clear hK K
      go_wp2_with fail
      go_roundw
      case rel => exact ⟨k + 1, _, _, by omega, by go_num, hB9, hrow9', hG9⟩
      case measure => simp [intOf]; omega
    · have hk8 : prf.take k = prf := List.take_of_length_le (by rw [hn8.out]; omega)
      rw [hk8] at hrow
      obtain ⟨b8, k8, rfl, hS8⟩ := hrow.out.slF (bytes := 32) RPrefer.firm (by rw [hn8.out]; exact hbb8.out)
      rw [hn8.out] at hS8 hB
      obtain ⟨G8, sG8, g8, i8, o8⟩ := Stays.add (u := wr) sG7.out (sG7.out _ _ hG.out (Kept.below hbX)) RPrefer.firm (hS8.weak RPrefer.firm (fun b _ hb => hB.out.fr hsz.out b hb))
      replace sG8 : Hid (Stays W3 G8) := sG8
      replace i8 : Hid (∀ v, G8 v → _) := i8
      replace o8 : Hid (∀ v, G8 v → _) := o8
      replace g8 : Hid (G8 wr) := g8
      have C8 : Hid (PB w wr [.string nm, .int .i64 pri, .slice a2 n2 m2, .int .i64 wa, .int .i64 wb, .int .i64 wc, .slice a6 n6 m6, .slice a7 n7 m7, .slice a8 n8 m8, .slice a9 n9 m9, .slice a10 n10 m10, .slice a11 n11 m11, .slice a12 n12 m12, .slice a13 n13 m13, .string nod, .string hop] [.string ⟨#[]⟩, .int .i64 0, .slice none 0 0, .int .i64 0, .int .i64 0, .int .i64 0, .slice none 0 0, .slice none 0 0, .slice none 0 0, .slice none 0 0, .slice none 0 0, .slice none 0 0, .slice none 0 0, .slice none 0 0, .string ⟨#[]⟩, .string ⟨#[]⟩] [.string nm, .int .i64 pri, .slice b2 n2 k2, .int .i64 wa, .int .i64 wb, .int .i64 wc, .slice b6 n6 k6, .slice b7 n7 k7, .slice b8 n8 k8, .slice a9 n9 m9, .slice a10 n10 m10, .slice a11 n11 m11, .slice a12 n12 m12, .slice a13 n13 m13, .string nod, .string hop]) := hB.out.on hbX
      have hlz : ¬ ((k : Int) < (n8 : Int)) := by omega
      obtain ⟨p9, pf9⟩ := C8.out.p.2 9 _ rfl
      clear hS8 hrow hB hG hbX hBw
      go_wp2_with fail
      refine (Ints_copy a9 n9 m9 A prt wr (S9.out.on RInt.firm C8.out.b)).mono ?_
      rintro e v9 ⟨b9, k9, rfl, hS9, hb9⟩
      have C9 := C8.out.on hb9
      obtain ⟨G9, sG9, g9, i9, o9⟩ := Stays.add (u := v9) sG8.out (sG8.out _ _ g8.out (Kept.below hb9)) RInt.firm (hS9.weak RInt.firm (fun b _ hb => C8.out.fr hsz.out b hb))
      replace sG9 : Hid (Stays W3 G9) := sG9
      replace i9 : Hid (∀ v, G9 v → _) := i9
      replace o9 : Hid (∀ v, G9 v → _) := o9
      replace g9 : Hid (G9 v9) := g9
      have hs4 := C9.sz
      have hlt0 : w.heap.size < v9.heap.size := (by omega)
      have hne0 : w.heap.size ≠ v9.heap.size := (by omega)
      have hne1 : w.heap.size + 1 ≠ v9.heap.size := (by omega)
      have hne2 : w.heap.size + 1 + 1 ≠ v9.heap.size := (by omega)
      clear p8 pf8 p9 pf9
      obtain ⟨q9, qf9⟩ := C9.q.2 9 _ rfl
      obtain ⟨W10, hW10⟩ : ∃ W10, W10 = v9.setCell ⟨w.heap.size + 1 + 1, 9, none⟩ (.slice b9 n9 k9) := ⟨_, rfl⟩
      have B10 : Hid (PB w W10 [.string nm, .int .i64 pri, .slice a2 n2 m2, .int .i64 wa, .int .i64 wb, .int .i64 wc, .slice a6 n6 m6, .slice a7 n7 m7, .slice a8 n8 m8, .slice a9 n9 m9, .slice a10 n10 m10, .slice a11 n11 m11, .slice a12 n12 m12, .slice a13 n13 m13, .string nod, .string hop] [.string ⟨#[]⟩, .int .i64 0, .slice none 0 0, .int .i64 0, .int .i64 0, .int .i64 0, .slice none 0 0, .slice none 0 0, .slice none 0 0, .slice none 0 0, .slice none 0 0, .slice none 0 0, .slice none 0 0, .slice none 0 0, .string ⟨#[]⟩, .string ⟨#[]⟩] [.string nm, .int .i64 pri, .slice b2 n2 k2, .int .i64 wa, .int .i64 wb, .int .i64 wc, .slice b6 n6 k6, .slice b7 n7 k7, .slice b8 n8 k8, .slice b9 n9 k9, .slice a10 n10 m10, .slice a11 n11 m11, .slice a12 n12 m12, .slice a13 n13 m13, .string nod, .string hop]) := by rw [hW10]; exact C9.set 9 _ (by simp)
      have gg9 : Hid (G9 W10) := by rw [hW10]; exact sG9.out _ _ g9.out (Kept.set (Fresh.not (by have := hsz.out; simp; omega)) _)
      clear C9 hS9 hb9 C8
      go_upto_region 11 with fail
      rw [← hW10]
      clear hW10 q9 qf9 hs4 hlt0 hne0 hne1 hne2 hlz
      have HS : Hid (∀ {u : World}, Below W10.heap.size W10 u → TwS w (.slice a10 n10 m10) (.slice a11 n11 m11) u) := fun {u} hb => ⟨((B10.out.on hb).p.2 10 _ rfl).1, ((B10.out.on hb).p.2 11 _ rfl).1⟩
      refine wp_region_noPanic ?_
      refine wp_region_held_drew (S := TwS w (.slice a10 n10 m10) (.slice a11 n11 m11)) (by kernel_rfl) (HS.out (Below.refl _ _).drew) (fun hHeld => ?_)
      refine' tk 0 ?_ ?_; rotate_left
      · intro u ⟨_, _⟩; go_simp; try with_reducible rfl
      try go_frame
      refine' tk 1 ?_ ?_; rotate_left
      · intro u ⟨_, _⟩; go_simp; try with_reducible rfl
      try go_frame
      refine' tk 3 ?_ ?_; rotate_left
      · intro u ⟨_, _⟩; go_simp; try with_reducible rfl
      try go_frame
      refine' tk 4 ?_ ?_; rotate_left
      · intro u ⟨_, _⟩; go_simp; try with_reducible rfl
      try go_frame
      refine tr 2 (fun K hK => ?_)
      go_simp
      refine (terms_copy a10 n10 m10 A nea W10.drew (S10.out.on RTerm.firm B10.out.b.drew)).mono ?_
      rintro e v10 ⟨b10, k10, rfl, hS10, hb10⟩
      have hc10 : Below W10.heap.size W10 v10 := on2 (Below.refl _ _).drew hb10
      go_wp2_with fail
      refine hK.out _ _ (HS.out hc10) (fun hHeld2 => ?_)
      clear hK K hHeld; have hHeld := hHeld2; clear hHeld2
      try go_frame
      refine' tk 6 ?_ ?_; rotate_left
      · intro u ⟨_, _⟩; go_simp; try with_reducible rfl
      try go_frame
      refine tr 5 (fun K hK => ?_)
      go_simp
      refine (terms_copy a11 n11 m11 A apa v10 (S11.out.on RTerm.firm (on2 B10.out.b hc10))).mono ?_
      rintro e v11 ⟨b11, k11, rfl, hS11, hb11⟩
      have hc11 : Below W10.heap.size W10 v11 := on2 hc10 hb11
      go_wp2_with fail
      refine hK.out _ _ (HS.out hc11) (fun hHeld2 => ?_)
      clear hK K hHeld; have hHeld := hHeld2; clear hHeld2
      try go_frame
      obtain ⟨G10, sG10, g10, i10, o10⟩ := Stays.add (u := v10) sG9.out (sG9.out _ _ gg9.out (Kept.below hc10)) RTerm.firm (hS10.weak RTerm.firm (fun b _ hb => B10.out.fr hsz.out b hb))
      replace sG10 : Hid (Stays W3 G10) := sG10
      replace i10 : Hid (∀ v, G10 v → _) := i10
      replace o10 : Hid (∀ v, G10 v → _) := o10
      replace g10 : Hid (G10 v10) := g10
      have hd10 := B10.out.on hc10
      obtain ⟨G11, sG11, g11, i11, o11⟩ := Stays.add (u := v11) sG10.out (sG10.out _ _ g10.out (Kept.below hb11)) RTerm.firm (hS11.weak RTerm.firm (fun b _ hb => hd10.fr hsz.out b hb))
      replace sG11 : Hid (Stays W3 G11) := sG11
      replace i11 : Hid (∀ v, G11 v → _) := i11
      replace o11 : Hid (∀ v, G11 v → _) := o11
      replace g11 : Hid (G11 v11) := g11
      have C11 := B10.out.on hc11
      have hs4 := C11.sz
      obtain ⟨q10, qf10⟩ := C11.q.2 10 _ rfl
      obtain ⟨q11, qf11⟩ := C11.q.2 11 _ rfl
      have C11a : PB w (v11.setCell ⟨w.heap.size + 1 + 1, 10, none⟩ (.slice b10 n10 k10)) [.string nm, .int .i64 pri, .slice a2 n2 m2, .int .i64 wa, .int .i64 wb, .int .i64 wc, .slice a6 n6 m6, .slice a7 n7 m7, .slice a8 n8 m8, .slice a9 n9 m9, .slice a10 n10 m10, .slice a11 n11 m11, .slice a12 n12 m12, .slice a13 n13 m13, .string nod, .string hop] [.string ⟨#[]⟩, .int .i64 0, .slice none 0 0, .int .i64 0, .int .i64 0, .int .i64 0, .slice none 0 0, .slice none 0 0, .slice none 0 0, .slice none 0 0, .slice none 0 0, .slice none 0 0, .slice none 0 0, .slice none 0 0, .string ⟨#[]⟩, .string ⟨#[]⟩] [.string nm, .int .i64 pri, .slice b2 n2 k2, .int .i64 wa, .int .i64 wb, .int .i64 wc, .slice b6 n6 k6, .slice b7 n7 k7, .slice b8 n8 k8, .slice b9 n9 k9, .slice b10 n10 k10, .slice a11 n11 m11, .slice a12 n12 m12, .slice a13 n13 m13, .string nod, .string hop] := C11.set 10 _ (by simp)
      have C11b : PB w ((v11.setCell ⟨w.heap.size + 1 + 1, 10, none⟩ (.slice b10 n10 k10)).setCell ⟨w.heap.size + 1 + 1, 11, none⟩ (.slice b11 n11 k11)) [.string nm, .int .i64 pri, .slice a2 n2 m2, .int .i64 wa, .int .i64 wb, .int .i64 wc, .slice a6 n6 m6, .slice a7 n7 m7, .slice a8 n8 m8, .slice a9 n9 m9, .slice a10 n10 m10, .slice a11 n11 m11, .slice a12 n12 m12, .slice a13 n13 m13, .string nod, .string hop] [.string ⟨#[]⟩, .int .i64 0, .slice none 0 0, .int .i64 0, .int .i64 0, .int .i64 0, .slice none 0 0, .slice none 0 0, .slice none 0 0, .slice none 0 0, .slice none 0 0, .slice none 0 0, .slice none 0 0, .slice none 0 0, .string ⟨#[]⟩, .string ⟨#[]⟩] [.string nm, .int .i64 pri, .slice b2 n2 k2, .int .i64 wa, .int .i64 wb, .int .i64 wc, .slice b6 n6 k6, .slice b7 n7 k7, .slice b8 n8 k8, .slice b9 n9 k9, .slice b10 n10 k10, .slice b11 n11 k11, .slice a12 n12 m12, .slice a13 n13 m13, .string nod, .string hop] := C11a.set 11 _ (by simp)
      have gg11 : Hid (G11 ((v11.setCell ⟨w.heap.size + 1 + 1, 10, none⟩ (.slice b10 n10 k10)).setCell ⟨w.heap.size + 1 + 1, 11, none⟩ (.slice b11 n11 k11))) := sG11.out _ _ g11.out ((Kept.set (Fresh.not (by have := hsz.out; simp; omega)) _).trans (Kept.set (Fresh.not (by have := hsz.out; simp; omega)) _))
      refine ts 7 (fun K hK => ?_)
      go_simp
      refine hK.out undef _ ⟨(C11a.p.2 10 _ rfl).1, (C11a.p.2 11 _ rfl).1⟩ (fun hHeld2 => ?_)
      clear hK K hHeld; have hHeld := hHeld2; clear hHeld2
      try go_frame
      refine' tk 8 ?_ ?_; rotate_left
      · intro u ⟨_, _⟩; go_simp; try with_reducible rfl
      try go_frame
      refine ts 9 (fun K hK => ?_)
      go_simp
      refine hK.out undef _ ⟨(C11b.p.2 10 _ rfl).1, (C11b.p.2 11 _ rfl).1⟩ (fun hHeld2 => ?_)
      clear hK K hHeld; have hHeld := hHeld2; clear hHeld2
      try go_frame
      refine wpAnyH_done (by kernel_rfl) ?_ _
      refine NoPanic.normal ?_
      obtain ⟨W12, hW12⟩ : ∃ W12, W12 = ((v11.setCell ⟨w.heap.size + 1 + 1, 10, none⟩ (.slice b10 n10 k10)).setCell ⟨w.heap.size + 1 + 1, 11, none⟩ (.slice b11 n11 k11)) := ⟨_, rfl⟩
      rw [← hW12] at C11b gg11 ⊢
      have B12 : Hid (PB w W12 [.string nm, .int .i64 pri, .slice a2 n2 m2, .int .i64 wa, .int .i64 wb, .int .i64 wc, .slice a6 n6 m6, .slice a7 n7 m7, .slice a8 n8 m8, .slice a9 n9 m9, .slice a10 n10 m10, .slice a11 n11 m11, .slice a12 n12 m12, .slice a13 n13 m13, .string nod, .string hop] [.string ⟨#[]⟩, .int .i64 0, .slice none 0 0, .int .i64 0, .int .i64 0, .int .i64 0, .slice none 0 0, .slice none 0 0, .slice none 0 0, .slice none 0 0, .slice none 0 0, .slice none 0 0, .slice none 0 0, .slice none 0 0, .string ⟨#[]⟩, .string ⟨#[]⟩] [.string nm, .int .i64 pri, .slice b2 n2 k2, .int .i64 wa, .int .i64 wb, .int .i64 wc, .slice b6 n6 k6, .slice b7 n7 k7, .slice b8 n8 k8, .slice b9 n9 k9, .slice b10 n10 k10, .slice b11 n11 k11, .slice a12 n12 m12, .slice a13 n13 m13, .string nod, .string hop]) := C11b
      clear hW12 C11 C11a C11b q10 qf10 q11 qf11 hs4 hd10 hS10 hS11 hb10 hb11 hc10 hc11 hHeld HS
      have hs4 := B12.out.sz
      have hlt0 : w.heap.size < W12.heap.size := by omega
      have hne0 : w.heap.size ≠ W12.heap.size := by omega
      have hne1 : w.heap.size + 1 ≠ W12.heap.size := by omega
      have hne2 : w.heap.size + 1 + 1 ≠ W12.heap.size := by omega
      obtain ⟨q12, qf12⟩ := B12.out.q.2 12 _ rfl
      have HR : Hid (Row RSpread 4 (Fresh (W12.setCell ⟨w.heap.size + 1 + 1, 12, none⟩ (.slice (some ⟨W12.heap.size, 0, none⟩) 0 0))) (W12.setCell ⟨w.heap.size + 1 + 1, 12, none⟩ (.slice (some ⟨W12.heap.size, 0, none⟩) 0 0)) ((W12.setCell ⟨w.heap.size + 1 + 1, 12, none⟩ (.slice (some ⟨W12.heap.size, 0, none⟩) 0 0)).alloc (.cells #[] 132)) 132 (.slice (some ⟨W12.heap.size, 0, none⟩) 0 0) (spr.take 0)) := by
        have h1 := Row.start (R := RSpread) (k := 4) (Fresh (W12.setCell ⟨w.heap.size + 1 + 1, 12, none⟩ (.slice (some ⟨W12.heap.size, 0, none⟩) 0 0))) (W12.setCell ⟨w.heap.size + 1 + 1, 12, none⟩ (.slice (some ⟨W12.heap.size, 0, none⟩) 0 0)) (W12.setCell ⟨w.heap.size + 1 + 1, 12, none⟩ (.slice (some ⟨W12.heap.size, 0, none⟩) 0 0)) 132 (Below.refl _ _)
        simp only [World.size_setCell] at h1
        exact h1
      have B13 : Hid (PB w (W12.setCell ⟨w.heap.size + 1 + 1, 12, none⟩ (.slice (some ⟨W12.heap.size, 0, none⟩) 0 0)) [.string nm, .int .i64 pri, .slice a2 n2 m2, .int .i64 wa, .int .i64 wb, .int .i64 wc, .slice a6 n6 m6, .slice a7 n7 m7, .slice a8 n8 m8, .slice a9 n9 m9, .slice a10 n10 m10, .slice a11 n11 m11, .slice a12 n12 m12, .slice a13 n13 m13, .string nod, .string hop] [.string ⟨#[]⟩, .int .i64 0, .slice none 0 0, .int .i64 0, .int .i64 0, .int .i64 0, .slice none 0 0, .slice none 0 0, .slice none 0 0, .slice none 0 0, .slice none 0 0, .slice none 0 0, .slice none 0 0, .slice none 0 0, .string ⟨#[]⟩, .string ⟨#[]⟩] [.string nm, .int .i64 pri, .slice b2 n2 k2, .int .i64 wa, .int .i64 wb, .int .i64 wc, .slice b6 n6 k6, .slice b7 n7 k7, .slice b8 n8 k8, .slice b9 n9 k9, .slice b10 n10 k10, .slice b11 n11 k11, .slice (some ⟨W12.heap.size, 0, none⟩) 0 0, .slice a13 n13 m13, .string nod, .string hop]) := B12.out.set 12 _ (by simp)
      have gs12 : Hid (G11 (W12.setCell ⟨w.heap.size + 1 + 1, 12, none⟩ (.slice (some ⟨W12.heap.size, 0, none⟩) 0 0))) := sG11.out _ _ gg11.out (Kept.set (Fresh.not (by have := hsz.out; simp; omega)) _)
      go_wp2_with fail
      clear q12 qf12 hs4 hlt0 hne0 hne1 hne2
      go_loopw [5] (fun i wr => ∃ (k : Nat) (X : World) (v : Value), k ≤ n12 ∧ i = .int .i64 k ∧ Hid (PB w X [.string nm, .int .i64 pri, .slice a2 n2 m2, .int .i64 wa, .int .i64 wb, .int .i64 wc, .slice a6 n6 m6, .slice a7 n7 m7, .slice a8 n8 m8, .slice a9 n9 m9, .slice a10 n10 m10, .slice a11 n11 m11, .slice a12 n12 m12, .slice a13 n13 m13, .string nod, .string hop] [.string ⟨#[]⟩, .int .i64 0, .slice none 0 0, .int .i64 0, .int .i64 0, .int .i64 0, .slice none 0 0, .slice none 0 0, .slice none 0 0, .slice none 0 0, .slice none 0 0, .slice none 0 0, .slice none 0 0, .slice none 0 0, .string ⟨#[]⟩, .string ⟨#[]⟩] [.string nm, .int .i64 pri, .slice b2 n2 k2, .int .i64 wa, .int .i64 wb, .int .i64 wc, .slice b6 n6 k6, .slice b7 n7 k7, .slice b8 n8 k8, .slice b9 n9 k9, .slice b10 n10 k10, .slice b11 n11 k11, v, .slice a13 n13 m13, .string nod, .string hop]) ∧ Hid (Row RSpread 4 (Fresh X) X wr 132 v (spr.take k)) ∧ Hid (G11 X)) (fun i _ => n12 - (intOf i).toNat)
      case atStart => exact ⟨0, _, _, Nat.zero_le _, rfl, B13, HR, gs12⟩
      case round =>
        obtain ⟨k, X, v, hk, rfl, hB, hrow, hG⟩ := hrel
        have hbX : Below X.heap.size X wr := hrow.out.below
        have hBw := hB.out.on hbX
        obtain ⟨p12, pf12⟩ := hBw.p.2 12 _ rfl
        have hn12 : Hid (spr.length = n12) := S12.out.1
        have hbb12 : Hid (n12 * 56 ≤ 140737488351232) := S12.out.2.2.2.1
        have hl12 := S12.out.len (by decide)
        by_cases hlt : k < n12
        · have hltz : (k : Int) < (n12 : Int) := by omega
          have hkl : Hid (k < spr.length) := by rw [Hid, hn12.out]; exact hlt
          obtain ⟨D, off, rfl, hD, _, cs, hr, hv⟩ := S12.out.get hlt
          obtain ⟨⟨c1, c2, c3⟩, rfl, hs, hT⟩ := hr.out
          have d0 := (hBw.b.cell hD).trans (hv 0 _ rfl)
          have d1 := (hBw.b.cell hD).trans (hv 1 _ rfl)
          have d2 := (hBw.b.cell hD).trans (hv 2 _ rfl)
          have d3 := (hBw.b.cell hD).trans (hv 3 _ rfl)
          rw [Nat.add_zero] at d0
          have HT : Hid (spr.take k ++ [spr.getD k default] = spr.take (k + 1)) := take_at hkl.out
          have hbw : Below wr.heap.size wr (wr.alloc (.cells #[.string (spr.getD k default).1, .int .i64 (spr.getD k default).2.1, .int .i64 (spr.getD k default).2.2.1, .slice c1 c2 c3] 132)) := by go_grown
          have hTx := Reqs_copy c1 c2 c3 A (spr.getD k default).2.2.2 (wr.alloc (.cells #[.string (spr.getD k default).1, .int .i64 (spr.getD k default).2.1, .int .i64 (spr.getD k default).2.2.1, .slice c1 c2 c3] 132)) (hT.on RReq.firm (on2 hBw.b hbw))
          have HLb : Hid (((spr.take k).length + [spr.getD k default].length) * 56 ≤ 140737488355328) := by
            have := bytes_le hbb12.out hlt
            rw [Hid, List.length_take, hn12.out, List.length_singleton, Nat.min_eq_left (by omega)]
            exact this
          have hsX := hB.out.sz
          have hsw := hBw.sz
          have hn1 : wr.heap.size ≠ w.heap.size + 1 + 1 := by omega
          have hn2 : w.heap.size + 1 + 1 ≠ wr.heap.size := by omega
          clear hr hT hv
          generalize spr.getD k default = x at d0 d1 d2 d3 hs HT hbw hTx HLb
          go_wp2_with fail
          refine hTx.mono ?_
          rintro e w2 ⟨a5, c5, rfl, hS5, hb5⟩
          clear hTx
          have hDD : wr.heap.size < (wr.alloc (.cells #[.string x.1, .int .i64 x.2.1, .int .i64 x.2.2.1, .slice c1 c2 c3] 132)).heap.size := by simp
          have e0 : w2.cell? ⟨wr.heap.size, 0, none⟩ = some (.string x.1) := (hb5.cell hDD).trans (by simp [go_sem])
          have e1 : w2.cell? ⟨wr.heap.size, 1, none⟩ = some (.int .i64 x.2.1) := (hb5.cell hDD).trans (by simp [go_sem])
          have e2 : w2.cell? ⟨wr.heap.size, 2, none⟩ = some (.int .i64 x.2.2.1) := (hb5.cell hDD).trans (by simp [go_sem])
          have e3 : w2.cell? ⟨wr.heap.size, 3, none⟩ = some (.slice c1 c2 c3) := (hb5.cell hDD).trans (by simp [go_sem])
          have f3 : w2.frozen? ⟨wr.heap.size, 3, none⟩ = false := (hb5.frozen hDD).trans (by simp [go_sem])
          have hb6 : Below wr.heap.size wr ((w2.setCell ⟨wr.heap.size, 3, none⟩ (.slice a5 c2 c5)).alloc (.cells #[.string x.1, .int .i64 x.2.1, .int .i64 x.2.2.1, .slice a5 c2 c5] 132)) := (((hbw.trans (hb5.mono (by simp))).setCell (Nat.le_refl _) _).alloc (by have := hb5.size; simp at this ⊢; omega) _)
          have HR6 := hrow.out.on RSpread.firm hb6
          have HE : RSpread (fun b => Fresh X b ∧ Value.ownBlock v ≠ some b) ((w2.setCell ⟨wr.heap.size, 3, none⟩ (.slice a5 c2 c5)).alloc (.cells #[.string x.1, .int .i64 x.2.1, .int .i64 x.2.2.1, .slice a5 c2 c5] 132)) [.string x.1, .int .i64 x.2.1, .int .i64 x.2.2.1, .slice a5 c2 c5] x := by
            refine RSpread.mk (h3 := (a5, c2, c5)) hs (((hS5.kept RReq.firm (Kept.set (Fresh.not hDD) _)).kept RReq.firm (Kept.alloc _ _ _)).weak RReq.firm (fun b _ hb => hrow.out.apart (u' := wr.alloc (.cells #[.string x.1, .int .i64 x.2.1, .int .i64 x.2.2.1, .slice c1 c2 c3] 132)) (by simp) b hb))
          have HC : Hid (Chunks RSpread 4 (fun b => Fresh X b ∧ Value.ownBlock v ≠ some b) ((w2.setCell ⟨wr.heap.size, 3, none⟩ (.slice a5 c2 c5)).alloc (.cells #[.string x.1, .int .i64 x.2.1, .int .i64 x.2.2.1, .slice a5 c2 c5] 132)) [.string x.1, .int .i64 x.2.1, .int .i64 x.2.2.1, .slice a5 c2 c5] [x]) := chunk_one RSpread.firm HE
          have HX : Hid (∀ j y, ([.string x.1, .int .i64 x.2.1, .int .i64 x.2.2.1, .slice a5 c2 c5] : List Value)[j]? = some y → ((w2.setCell ⟨wr.heap.size, 3, none⟩ (.slice a5 c2 c5)).alloc (.cells #[.string x.1, .int .i64 x.2.1, .int .i64 x.2.2.1, .slice a5 c2 c5] 132)).cell? ((⟨w2.heap.size, 0, none⟩ : Addr).add j) = some y) := by
            have := one_cells (w2.setCell ⟨wr.heap.size, 3, none⟩ (.slice a5 c2 c5)) [.string x.1, .int .i64 x.2.1, .int .i64 x.2.2.1, .slice a5 c2 c5] 132
            unfold Hid
            simpa using this
          have HR6' : Hid (Row RSpread 4 (Fresh X) X ((w2.setCell ⟨wr.heap.size, 3, none⟩ (.slice a5 c2 c5)).alloc (.cells #[.string x.1, .int .i64 x.2.1, .int .i64 x.2.2.1, .slice a5 c2 c5] 132)) 132 v (spr.take k)) := HR6
          have hd2 := hBw.on (hbw.trans (hb5.mono (by simp)))
          obtain ⟨q12, qf12⟩ := hd2.q.2 12 _ rfl
          have hs2 : wr.heap.size < w2.heap.size := by have := hb5.size; simp at this; omega
          have hs3 : w.heap.size + 1 + 1 ≠ w2.heap.size := by omega
          have hs5 : wr.heap.size ≠ w2.heap.size := by omega
          clear HR6 HE hbw hS5 hd2 hb6
          go_wp2_with (at_builtin; go_must (refine row_append RSpread.firm (A := Fresh X) (w0 := X) rfl _ _ 30 132 rfl _ 56 infoSpread Try.underlying30 rfl (by decide) (by decide) v (spr.take k) rfl HR6'.out ⟨w2.heap.size, 0, none⟩ 1 1 _ [x] rfl rfl HC.out HX.out (by simp [Value.oneCell']) HLb.out ?_); intro v9 w9 hrow9 hg9; rw [HT.out] at hrow9; obtain ⟨e9, c9, rfl, _⟩ := hrow9.slF (bytes := 56) RSpread.firm (Nat.le_trans (Nat.mul_le_mul_right 56 (by rw [List.length_take, hn12.out]; omega)) hbb12.out); generalize (spr.take (k + 1)).length = l9 at hrow9 ⊢; clear q12 qf12; obtain ⟨q12, qf12⟩ := (hB.out.on hrow9.below).q.2 12 _ rfl)
          have hrow9' : Hid (Row RSpread 4 (Fresh (X.setCell ⟨w.heap.size + 1 + 1, 12, none⟩ (.slice e9 l9 c9))) (X.setCell ⟨w.heap.size + 1 + 1, 12, none⟩ (.slice e9 l9 c9)) (w9.setCell ⟨w.heap.size + 1 + 1, 12, none⟩ (.slice e9 l9 c9)) 132 (.slice e9 l9 c9) (spr.take (k + 1))) := hrow9.bothF RSpread.firm hsX _
          have hB9 : Hid (PB w (X.setCell ⟨w.heap.size + 1 + 1, 12, none⟩ (.slice e9 l9 c9)) [.string nm, .int .i64 pri, .slice a2 n2 m2, .int .i64 wa, .int .i64 wb, .int .i64 wc, .slice a6 n6 m6, .slice a7 n7 m7, .slice a8 n8 m8, .slice a9 n9 m9, .slice a10 n10 m10, .slice a11 n11 m11, .slice (some ⟨D, off, none⟩) n12 m12, .slice a13 n13 m13, .string nod, .string hop] [.string ⟨#[]⟩, .int .i64 0, .slice none 0 0, .int .i64 0, .int .i64 0, .int .i64 0, .slice none 0 0, .slice none 0 0, .slice none 0 0, .slice none 0 0, .slice none 0 0, .slice none 0 0, .slice none 0 0, .slice none 0 0, .string ⟨#[]⟩, .string ⟨#[]⟩] [.string nm, .int .i64 pri, .slice b2 n2 k2, .int .i64 wa, .int .i64 wb, .int .i64 wc, .slice b6 n6 k6, .slice b7 n7 k7, .slice b8 n8 k8, .slice b9 n9 k9, .slice b10 n10 k10, .slice b11 n11 k11, .slice e9 l9 c9, .slice a13 n13 m13, .string nod, .string hop]) := hB.out.set 12 _ (by simp)
          have hG9 : Hid (G11 (X.setCell ⟨w.heap.size + 1 + 1, 12, none⟩ (.slice e9 l9 c9))) := sG11.out _ _ hG.out (Kept.set (Fresh.not (by have := hsz.out; have := hsX; simp; omega)) _)
          go_roundw
          case rel => exact ⟨k + 1, _, _, by omega, by go_num, hB9, hrow9', hG9⟩
          case measure => simp [intOf]; omega
        · have hk12 : spr.take k = spr := List.take_of_length_le (by rw [hn12.out]; omega)
          rw [hk12] at hrow
          obtain ⟨b12, k12, rfl, hS12⟩ := hrow.out.slF (bytes := 56) RSpread.firm (by rw [hn12.out]; exact hbb12.out)
          rw [hn12.out] at hS12 hB
          obtain ⟨G12, sG12, g12, i12, o12⟩ := Stays.add (u := wr) sG11.out (sG11.out _ _ hG.out (Kept.below hbX)) RSpread.firm (hS12.weak RSpread.firm (fun b _ hb => hB.out.fr hsz.out b hb))
          replace sG12 : Hid (Stays W3 G12) := sG12
          replace i12 : Hid (∀ v, G12 v → _) := i12
          replace o12 : Hid (∀ v, G12 v → _) := o12
          replace g12 : Hid (G12 wr) := g12
          have C12 : Hid (PB w wr [.string nm, .int .i64 pri, .slice a2 n2 m2, .int .i64 wa, .int .i64 wb, .int .i64 wc, .slice a6 n6 m6, .slice a7 n7 m7, .slice a8 n8 m8, .slice a9 n9 m9, .slice a10 n10 m10, .slice a11 n11 m11, .slice a12 n12 m12, .slice a13 n13 m13, .string nod, .string hop] [.string ⟨#[]⟩, .int .i64 0, .slice none 0 0, .int .i64 0, .int .i64 0, .int .i64 0, .slice none 0 0, .slice none 0 0, .slice none 0 0, .slice none 0 0, .slice none 0 0, .slice none 0 0, .slice none 0 0, .slice none 0 0, .string ⟨#[]⟩, .string ⟨#[]⟩] [.string nm, .int .i64 pri, .slice b2 n2 k2, .int .i64 wa, .int .i64 wb, .int .i64 wc, .slice b6 n6 k6, .slice b7 n7 k7, .slice b8 n8 k8, .slice b9 n9 k9, .slice b10 n10 k10, .slice b11 n11 k11, .slice b12 n12 k12, .slice a13 n13 m13, .string nod, .string hop]) := hB.out.on hbX
          have hlz : ¬ ((k : Int) < (n12 : Int)) := by omega
          obtain ⟨p13, pf13⟩ := C12.out.p.2 13 _ rfl
          clear hS12 hrow hB hG hbX hBw
          go_wp2_with fail
          refine (Texts_copy a13 n13 m13 A clm wr (S13.out.on RStr.firm C12.out.b)).mono ?_
          rintro e v13 ⟨b13, k13, rfl, hS13, hb13⟩
          have C13 := C12.out.on hb13
          obtain ⟨G13, sG13, g13, i13, o13⟩ := Stays.add (u := v13) sG12.out (sG12.out _ _ g12.out (Kept.below hb13)) RStr.firm (hS13.weak RStr.firm (fun b _ hb => C12.out.fr hsz.out b hb))
          replace sG13 : Hid (Stays W3 G13) := sG13
          replace i13 : Hid (∀ v, G13 v → _) := i13
          replace o13 : Hid (∀ v, G13 v → _) := o13
          replace g13 : Hid (G13 v13) := g13
          clear p12 pf12 p13 pf13 C12 hb13 hS13
          have hs4 := C13.sz
          have hlt0 : w.heap.size < v13.heap.size := (by omega)
          have hne0 : w.heap.size ≠ v13.heap.size := (by omega)
          have hne1 : w.heap.size + 1 ≠ v13.heap.size := (by omega)
          have hne2 : w.heap.size + 1 + 1 ≠ v13.heap.size := (by omega)
          obtain ⟨q13, qf13⟩ := C13.q.2 13 _ rfl
          have HK : Hid (∀ u, Kept (Fresh W3) v13 u → RPod (Fresh w) u [.string nm, .int .i64 pri, .slice b2 n2 k2, .int .i64 wa, .int .i64 wb, .int .i64 wc, .slice b6 n6 k6, .slice b7 n7 k7, .slice b8 n8 k8, .slice b9 n9 k9, .slice b10 n10 k10, .slice b11 n11 k11, .slice b12 n12 k12, .slice b13 n13 k13, .string nod, .string hop] (nm, pri, lab, (wa, wb, wc), brs, ask, prf, prt, nea, apa, spr, clm, nod, hop)) := fun u hk => by
            have G13v := sG13.out _ _ g13.out hk
            have G12v := i13.out _ G13v
            have G11v := i12.out _ G12v
            have G10v := i11.out _ G11v
            have G9v := i10.out _ G10v
            have G8v := i9.out _ G9v
            have G7v := i8.out _ G8v
            have G6v := i7.out _ G7v
            have G2v := i6.out _ G6v
            exact RPod.mk (x := (nm, pri, lab, (wa, wb, wc), brs, ask, prf, prt, nea, apa, spr, clm, nod, hop)) (h2 := (b2, n2, k2)) (h6 := (b6, n6, k6)) (h7 := (b7, n7, k7)) (h8 := (b8, n8, k8)) (h9 := (b9, n9, k9)) (h10 := (b10, n10, k10)) (h11 := (b11, n11, k11)) (h12 := (b12, n12, k12)) (h13 := (b13, n13, k13)) p0 ((o2.out _ G2v).weak RLabel.firm (fun b _ hb => show w.heap.size ≤ b by have hb1 : W3.heap.size ≤ b := hb; have := hsz.out; omega)) ((o6.out _ G6v).weak RBear.firm (fun b _ hb => show w.heap.size ≤ b by have hb1 : W3.heap.size ≤ b := hb; have := hsz.out; omega)) ((o7.out _ G7v).weak RReq.firm (fun b _ hb => show w.heap.size ≤ b by have hb1 : W3.heap.size ≤ b := hb; have := hsz.out; omega)) ((o8.out _ G8v).weak RPrefer.firm (fun b _ hb => show w.heap.size ≤ b by have hb1 : W3.heap.size ≤ b := hb; have := hsz.out; omega)) ((o9.out _ G9v).weak RInt.firm (fun b _ hb => show w.heap.size ≤ b by have hb1 : W3.heap.size ≤ b := hb; have := hsz.out; omega)) ((o10.out _ G10v).weak RTerm.firm (fun b _ hb => show w.heap.size ≤ b by have hb1 : W3.heap.size ≤ b := hb; have := hsz.out; omega)) ((o11.out _ G11v).weak RTerm.firm (fun b _ hb => show w.heap.size ≤ b by have hb1 : W3.heap.size ≤ b := hb; have := hsz.out; omega)) ((o12.out _ G12v).weak RSpread.firm (fun b _ hb => show w.heap.size ≤ b by have hb1 : W3.heap.size ≤ b := hb; have := hsz.out; omega)) ((o13.out _ G13v).weak RStr.firm (fun b _ hb => show w.heap.size ≤ b by have hb1 : W3.heap.size ≤ b := hb; have := hsz.out; omega)) p14 p15
          obtain ⟨W14, hW14⟩ : ∃ W14, W14 = v13.setCell ⟨w.heap.size + 1 + 1, 13, none⟩ (.slice b13 n13 k13) := ⟨_, rfl⟩
          have B14 : PB w W14 [.string nm, .int .i64 pri, .slice a2 n2 m2, .int .i64 wa, .int .i64 wb, .int .i64 wc, .slice a6 n6 m6, .slice a7 n7 m7, .slice a8 n8 m8, .slice a9 n9 m9, .slice a10 n10 m10, .slice a11 n11 m11, .slice a12 n12 m12, .slice a13 n13 m13, .string nod, .string hop] [.string ⟨#[]⟩, .int .i64 0, .slice none 0 0, .int .i64 0, .int .i64 0, .int .i64 0, .slice none 0 0, .slice none 0 0, .slice none 0 0, .slice none 0 0, .slice none 0 0, .slice none 0 0, .slice none 0 0, .slice none 0 0, .string ⟨#[]⟩, .string ⟨#[]⟩] [.string nm, .int .i64 pri, .slice b2 n2 k2, .int .i64 wa, .int .i64 wb, .int .i64 wc, .slice b6 n6 k6, .slice b7 n7 k7, .slice b8 n8 k8, .slice b9 n9 k9, .slice b10 n10 k10, .slice b11 n11 k11, .slice b12 n12 k12, .slice b13 n13 k13, .string nod, .string hop] := by rw [hW14]; exact C13.set 13 _ (by simp)
          have hk14 : Kept (Fresh W3) v13 W14 := by rw [hW14]; exact Kept.set (Fresh.not (by have := hsz.out; simp; omega)) _
          clear C13
          have HI : Hid ((Try.prog.info? 33).map (·.size) = some ([.string nm, .int .i64 pri, .slice b2 n2 k2, .int .i64 wa, .int .i64 wb, .int .i64 wc, .slice b6 n6 k6, .slice b7 n7 k7, .slice b8 n8 k8, .slice b9 n9 k9, .slice b10 n10 k10, .slice b11 n11 k11, .slice b12 n12 k12, .slice b13 n13 k13, .string nod, .string hop] : List Value).length) := by unfold Hid; kernel_rfl
          have H1 : Hid ((([.string nm, .int .i64 pri, .slice b2 n2 k2, .int .i64 wa, .int .i64 wb, .int .i64 wc, .slice b6 n6 k6, .slice b7 n7 k7, .slice b8 n8 k8, .slice b9 n9 k9, .slice b10 n10 k10, .slice b11 n11 k11, .slice b12 n12 k12, .slice b13 n13 k13, .string nod, .string hop] : List Value).toArray).all (·.oneCell') = true) := all_oneCell_toArray (RPod.firm.one (HK.out _ (Kept.refl _ _)))
          obtain ⟨fs, hfs⟩ : ∃ fs : List Value, fs = [.string nm, .int .i64 pri, .slice b2 n2 k2, .int .i64 wa, .int .i64 wb, .int .i64 wc, .slice b6 n6 k6, .slice b7 n7 k7, .slice b8 n8 k8, .slice b9 n9 k9, .slice b10 n10 k10, .slice b11 n11 k11, .slice b12 n12 k12, .slice b13 n13 k13, .string nod, .string hop] := ⟨_, rfl⟩
          rw [← hfs] at HK B14 HI H1
          have hfl : fs.length = 16 := by rw [hfs]; rfl
          clear hfs
          have HQ : Hid (W14.rangeAt (w.heap.size + 1 + 1) 0 fs) := B14.q.range
          have HZ : Hid (W14.there (w.heap.size + 1) 0 fs.toArray.size) := by have e : fs.toArray.size = 16 := (by simp [hfl]); rw [Hid, e]; exact B14.z.there
          have HRG : Hid ((W14.setCells (w.heap.size + 1) 0 fs).rangeAt (w.heap.size + 1) 0 fs) := World.rangeAt_setCells_same _ _ _ _ (by have e : fs.toArray.size = fs.length := (by simp); have := HZ.out; rwa [e] at this)
          have HE : Hid (RPod (Fresh w) (W14.setCells (w.heap.size + 1) 0 fs) fs (nm, pri, lab, (wa, wb, wc), brs, ask, prf, prt, nea, apa, spr, clm, nod, hop)) := HK.out _ (hk14.trans (kept_setCells (Fresh.not (by have := hsz.out; omega))))
          have HBw : Hid (Below w.heap.size w (W14.setCells (w.heap.size + 1) 0 fs)) := below_setCells B14.b (by omega)
          have HSZ : Hid (fs.length = fs.toArray.size) := by simp [Hid]
          clear B14 hk14 HK hfl
          go_wp2_with (first | ((rw [← hW14]); (refine wpList_load_mid rfl 33 _ rfl (w.heap.size + 1 + 1) 0 rfl fs _ HQ.out Try.underlying33 rfl HI.out ?_); clear hW14) | (refine wpList_store_mid rfl 33 _ _ rfl (w.heap.size + 1) 0 fs.toArray rfl rfl HZ.out (HSZ.out ▸ HI.out) H1.out ?_) | fail)
          refine bodyPost_ret (v := .agg fs.toArray) (res_cell (p := 2) (ty := 33) rfl _ _ (w.heap.size + 1) fs _ rfl HRG.out Try.underlying33 rfl HI.out) rfl ⟨fs, rfl, HE.out, HBw.out⟩

end Go.Proofs.Ytgofpmcoffgffaa
