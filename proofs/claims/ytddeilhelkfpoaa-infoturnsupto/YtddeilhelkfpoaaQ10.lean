/- The document's Drop. Condition: the arguments lie as is said of them; the pods' ports and claims together are within what an append may ask. base.Texts and base.Ints give rows of their own. Condition: the slice lies as is said of it. -/
import Derived.Test.YtddeilhelkfpoaaQ09
import Derived.Test.YtddeilhelkfpoaaQ03
namespace Go.Proofs.Ytddeilhelkfpoaa
open Go.RowKit
set_option linter.unusedSimpArgs false
set_option maxRecDepth 100000

def zeroInfo : InfoD := ((⟨#[]⟩, [], [], false, (0, 0, 0), 0, 0), [], (0, 0, 0), [], [])
def dropP (i : InfoD) (p : PodD) (rest : List PodD) : InfoD × Int := if hasB sEq i.2.1 p.1 = true then (ofP i.1 (restP i p rest), 0) else (zeroInfo, 5)
def keepP (i : InfoD) (p q : PodD) : Bool := !sEq q.1 p.1 && hasB sEq i.2.1 q.1
theorem zeroInfo_at (A F : Where) (w : World) : InfoAt A F w [.string ⟨#[]⟩, .slice none 0 0, .slice none 0 0, .bool false, .int .i64 0, .int .i64 0, .int .i64 0, .int .i64 0, .int .i64 0, .slice none 0 0, .int .i64 0, .int .i64 0, .int .i64 0, .slice none 0 0, .slice none 0 0] zeroInfo := by
  have z : ∀ {α : Type} [Inhabited α] (Rr : Rep α) (k by_ : Nat) (B : Where), RSl Rr k by_ B w [.slice none 0 0] [] := fun Rr k by_ B => ⟨none, 0, 0, rfl, SlAt.nil _ _ _ _ (fun _ => rfl)⟩
  exact ⟨[.string ⟨#[]⟩, .slice none 0 0, .slice none 0 0, .bool false, .int .i64 0, .int .i64 0, .int .i64 0, .int .i64 0, .int .i64 0], [.slice none 0 0, .int .i64 0, .int .i64 0, .int .i64 0, .slice none 0 0, .slice none 0 0], rfl,
    RNode.mk (x := (⟨#[]⟩, [], [], false, (0, 0, 0), 0, 0)) (h1 := (none, 0, 0)) (h2 := (none, 0, 0)) (by decide) (SlAt.nil _ _ _ _ (fun _ => rfl)) (SlAt.nil _ _ _ _ (fun _ => rfl)),
    ⟨[.slice none 0 0], _, rfl, z RStr 1 16 F, ⟨[.int .i64 0, .int .i64 0, .int .i64 0], _, rfl, RRes.mk (x := (0, 0, 0)), ⟨[.slice none 0 0], _, rfl, z RInt 1 8 F, z RStr 1 16 F⟩⟩⟩⟩
theorem sumBy_filter {α : Type} (f : α → Nat) (p : α → Bool) (L : List α) : sumBy f (L.filter p) ≤ sumBy f L := by
  induction L with
  | nil => simp [sumBy]
  | cons a L ih =>
    simp only [sumBy, List.filter_cons, List.map_cons, List.sum_cons] at ih ⊢
    split
    · simp only [List.map_cons, List.sum_cons]; omega
    · omega
theorem FitsP.filter {L : List PodD} (h : FitsP L) (p : PodD → Bool) : FitsP (L.filter p) := by
  have h1 := sumBy_filter (fun p => (pPorts p).length) p L
  have h2 := sumBy_filter (fun p => (pClaims p).length) p L
  obtain ⟨h3, h4⟩ := h
  exact ⟨by omega, by omega⟩
theorem filter_succ {α : Type} [Inhabited α] (p : α → Bool) (L : List α) {k : Nat} (hk : k < L.length) : (L.take (k + 1)).filter p = (L.take k).filter p ++ (if p (L.getD k default) = true then [L.getD k default] else []) := by
  rw [← take_at hk, List.filter_append]
  congr 1
  simp only [List.filter_cons, List.filter_nil]
/-- The blocks of two parameters and of the result. -/
structure PB3 (w u : World) (P Y Z : List Value) : Prop where
  p : BoxL u w.heap.size P
  y : BoxL u (w.heap.size + 1) Y
  z : BoxL u (w.heap.size + 1 + 1) Z
  b : Below w.heap.size w u
theorem PB3.on {w u u' : World} {P Y Z : List Value} (h : PB3 w u P Y Z) (hb : Below u.heap.size u u') : PB3 w u' P Y Z := ⟨h.p.on hb, h.y.on hb, h.z.on hb, on2 h.b hb⟩
theorem PB3.sz {w u : World} {P Y Z : List Value} (h : PB3 w u P Y Z) : w.heap.size + 1 + 1 < u.heap.size := h.z.1
set_option maxHeartbeats 8000000 in
theorem rDrop_calls (cs ds : List Value) (a : Option Addr) (n cap : Nat) (A E A' A'' : Where) (x : InfoD) (y : PodD) (L : List PodD) (w : World) (h : Hid (InfoAt A E w cs x)) (h' : Hid (RPod A' w ds y)) (hL : Hid (SlAt RPod 16 296 A'' w a n cap L)) (hF : Hid (FitsP L)) : Calls Try.prog 24 #[.agg cs.toArray, .agg ds.toArray, .slice a n cap] w fun e w' => ∃ cs', e = .returned (.tuple #[.agg cs'.toArray, .int .i64 (dropP x y L).2]) ∧ InfoAt A (Fresh w) w' cs' (dropP x y L).1 ∧ Below w.heap.size w w' := by
  obtain ⟨⟨nn, nl, nt, no, ⟨ga, gb, gc⟩, np, nd⟩, nms, ⟨ua, ub, uc⟩, pts, dks⟩ := x
  obtain ⟨c, d, rfl, hc, hd⟩ := h.out
  have hN0 : Hid _ := hc
  obtain ⟨⟨a1, n1, m1⟩, ⟨a2, n2, m2⟩, rfl, _⟩ := hc.out
  obtain ⟨d1, d2, rfl, ⟨a9, n9, m9, rfl, s9⟩, ⟨d3, d4, rfl, hd3, ⟨d5, d6, rfl, ⟨a13, n13, m13, rfl, _⟩, ⟨a14, n14, m14, rfl, _⟩⟩⟩⟩ := hd
  have e3 := RRes.out hd3
  subst e3
  obtain ⟨g2, g6, g7, g8, g9, g10, g11, g12, g13, rfl, _⟩ := h'.out.out
  simp only at s9 hN0 ⊢
  have S9 : Hid (SlAt RStr 1 16 E w a9 n9 m9 nms) := s9
  clear h h' hc hd3 s9
  have hlen := hL.out.len (by decide)
  have hn : Hid (L.length = n) := hL.out.1
  have hbb : Hid (n * 296 ≤ 140737488351232) := hL.out.2.2.2.1
  obtain ⟨W3, hW3⟩ : ∃ W3, W3 = (((w.alloc (.cells #[.string nn, .slice a1 n1 m1, .slice a2 n2 m2, .bool no, .int .i64 ga, .int .i64 gb, .int .i64 gc, .int .i64 np, .int .i64 nd, .slice a9 n9 m9, .int .i64 ua, .int .i64 ub, .int .i64 uc, .slice a13 n13 m13, .slice a14 n14 m14] 41)).alloc (.cells #[.string y.1, .int .i64 y.2.1, .slice g2.1 g2.2.1 g2.2.2, .int .i64 y.2.2.2.1.1, .int .i64 y.2.2.2.1.2.1, .int .i64 y.2.2.2.1.2.2, .slice g6.1 g6.2.1 g6.2.2, .slice g7.1 g7.2.1 g7.2.2, .slice g8.1 g8.2.1 g8.2.2, .slice g9.1 g9.2.1 g9.2.2, .slice g10.1 g10.2.1 g10.2.2, .slice g11.1 g11.2.1 g11.2.2, .slice g12.1 g12.2.1 g12.2.2, .slice g13.1 g13.2.1 g13.2.2, .string y.2.2.2.2.2.2.2.2.2.2.2.2.1, .string y.2.2.2.2.2.2.2.2.2.2.2.2.2] 37)).alloc (.cells #[.string ⟨#[]⟩, .slice none 0 0, .slice none 0 0, .bool false, .int .i64 0, .int .i64 0, .int .i64 0, .int .i64 0, .int .i64 0, .slice none 0 0, .int .i64 0, .int .i64 0, .int .i64 0, .slice none 0 0, .slice none 0 0] 41)) := ⟨_, rfl⟩
  have B3 : Hid (PB3 w W3 [.string nn, .slice a1 n1 m1, .slice a2 n2 m2, .bool no, .int .i64 ga, .int .i64 gb, .int .i64 gc, .int .i64 np, .int .i64 nd, .slice a9 n9 m9, .int .i64 ua, .int .i64 ub, .int .i64 uc, .slice a13 n13 m13, .slice a14 n14 m14] [.string y.1, .int .i64 y.2.1, .slice g2.1 g2.2.1 g2.2.2, .int .i64 y.2.2.2.1.1, .int .i64 y.2.2.2.1.2.1, .int .i64 y.2.2.2.1.2.2, .slice g6.1 g6.2.1 g6.2.2, .slice g7.1 g7.2.1 g7.2.2, .slice g8.1 g8.2.1 g8.2.2, .slice g9.1 g9.2.1 g9.2.2, .slice g10.1 g10.2.1 g10.2.2, .slice g11.1 g11.2.1 g11.2.2, .slice g12.1 g12.2.1 g12.2.2, .slice g13.1 g13.2.1 g13.2.2, .string y.2.2.2.2.2.2.2.2.2.2.2.2.1, .string y.2.2.2.2.2.2.2.2.2.2.2.2.2] [.string ⟨#[]⟩, .slice none 0 0, .slice none 0 0, .bool false, .int .i64 0, .int .i64 0, .int .i64 0, .int .i64 0, .int .i64 0, .slice none 0 0, .int .i64 0, .int .i64 0, .int .i64 0, .slice none 0 0, .slice none 0 0]) := by
    rw [hW3]
    refine ⟨(BoxL.new w 41 [.string nn, .slice a1 n1 m1, .slice a2 n2 m2, .bool no, .int .i64 ga, .int .i64 gb, .int .i64 gc, .int .i64 np, .int .i64 nd, .slice a9 n9 m9, .int .i64 ua, .int .i64 ub, .int .i64 uc, .slice a13 n13 m13, .slice a14 n14 m14]).on (((Below.refl _ _).alloc (Nat.le_refl _) _).alloc (by simp) _), ?_, ?_, by go_grown⟩
    · have := (BoxL.new (w.alloc (.cells #[.string nn, .slice a1 n1 m1, .slice a2 n2 m2, .bool no, .int .i64 ga, .int .i64 gb, .int .i64 gc, .int .i64 np, .int .i64 nd, .slice a9 n9 m9, .int .i64 ua, .int .i64 ub, .int .i64 uc, .slice a13 n13 m13, .slice a14 n14 m14] 41)) 37 [.string y.1, .int .i64 y.2.1, .slice g2.1 g2.2.1 g2.2.2, .int .i64 y.2.2.2.1.1, .int .i64 y.2.2.2.1.2.1, .int .i64 y.2.2.2.1.2.2, .slice g6.1 g6.2.1 g6.2.2, .slice g7.1 g7.2.1 g7.2.2, .slice g8.1 g8.2.1 g8.2.2, .slice g9.1 g9.2.1 g9.2.2, .slice g10.1 g10.2.1 g10.2.2, .slice g11.1 g11.2.1 g11.2.2, .slice g12.1 g12.2.1 g12.2.2, .slice g13.1 g13.2.1 g13.2.2, .string y.2.2.2.2.2.2.2.2.2.2.2.2.1, .string y.2.2.2.2.2.2.2.2.2.2.2.2.2]).on ((Below.refl _ _).alloc (Nat.le_refl _) (.cells #[.string ⟨#[]⟩, .slice none 0 0, .slice none 0 0, .bool false, .int .i64 0, .int .i64 0, .int .i64 0, .int .i64 0, .int .i64 0, .slice none 0 0, .int .i64 0, .int .i64 0, .int .i64 0, .slice none 0 0, .slice none 0 0] 41))
      simpa using this
    · have := BoxL.new ((w.alloc (.cells #[.string nn, .slice a1 n1 m1, .slice a2 n2 m2, .bool no, .int .i64 ga, .int .i64 gb, .int .i64 gc, .int .i64 np, .int .i64 nd, .slice a9 n9 m9, .int .i64 ua, .int .i64 ub, .int .i64 uc, .slice a13 n13 m13, .slice a14 n14 m14] 41)).alloc (.cells #[.string y.1, .int .i64 y.2.1, .slice g2.1 g2.2.1 g2.2.2, .int .i64 y.2.2.2.1.1, .int .i64 y.2.2.2.1.2.1, .int .i64 y.2.2.2.1.2.2, .slice g6.1 g6.2.1 g6.2.2, .slice g7.1 g7.2.1 g7.2.2, .slice g8.1 g8.2.1 g8.2.2, .slice g9.1 g9.2.1 g9.2.2, .slice g10.1 g10.2.1 g10.2.2, .slice g11.1 g11.2.1 g11.2.2, .slice g12.1 g12.2.1 g12.2.2, .slice g13.1 g13.2.1 g13.2.2, .string y.2.2.2.2.2.2.2.2.2.2.2.2.1, .string y.2.2.2.2.2.2.2.2.2.2.2.2.2] 37)) 41 [.string ⟨#[]⟩, .slice none 0 0, .slice none 0 0, .bool false, .int .i64 0, .int .i64 0, .int .i64 0, .int .i64 0, .int .i64 0, .slice none 0 0, .int .i64 0, .int .i64 0, .int .i64 0, .slice none 0 0, .slice none 0 0]
      simpa using this
  have HD : Hid (hasB sEq nms y.1 = true → dropP ((nn, nl, nt, no, (ga, gb, gc), np, nd), nms, (ua, ub, uc), pts, dks) y L = (ofP (nn, nl, nt, no, (ga, gb, gc), np, nd) (L.filter (keepP ((nn, nl, nt, no, (ga, gb, gc), np, nd), nms, (ua, ub, uc), pts, dks) y)), 0)) := fun h => by simp only [dropP, h, if_true]; rfl
  have HDn : Hid (hasB sEq nms y.1 = false → dropP ((nn, nl, nt, no, (ga, gb, gc), np, nd), nms, (ua, ub, uc), pts, dks) y L = (zeroInfo, 5)) := fun h => by simp only [dropP, h]; rfl
  have HKp : Hid (∀ q, keepP ((nn, nl, nt, no, (ga, gb, gc), np, nd), nms, (ua, ub, uc), pts, dks) y q = (!sEq q.1 y.1 && hasB sEq nms q.1)) := fun q => rfl
  generalize dropP ((nn, nl, nt, no, (ga, gb, gc), np, nd), nms, (ua, ub, uc), pts, dks) y L = dr at HD HDn ⊢
  generalize keepP ((nn, nl, nt, no, (ga, gb, gc), np, nd), nms, (ua, ub, uc), pts, dks) y = kp at HD HKp
  go_enter Try.func24, Try.ntmps24
  go_wp2_with fail
  rw [← hW3]
  clear hW3
  refine (Has_calls a9 n9 m9 E nms y.1 W3 (S9.out.on RStr.firm B3.out.b)).mono ?_
  rintro e w9 ⟨rfl, hw9⟩
  rw [hw9]
  clear hw9 w9
  cases hhas : hasB sEq nms y.1
  · have HE := HDn.out hhas
    clear HD HDn hhas
    subst HE
    obtain ⟨z0, f0⟩ := B3.out.z.2 0 _ rfl
    obtain ⟨z1, f1⟩ := B3.out.z.2 1 _ rfl
    obtain ⟨z2, f2⟩ := B3.out.z.2 2 _ rfl
    obtain ⟨z3, f3⟩ := B3.out.z.2 3 _ rfl
    obtain ⟨z4, f4⟩ := B3.out.z.2 4 _ rfl
    obtain ⟨z5, f5⟩ := B3.out.z.2 5 _ rfl
    obtain ⟨z6, f6⟩ := B3.out.z.2 6 _ rfl
    obtain ⟨z7, f7⟩ := B3.out.z.2 7 _ rfl
    obtain ⟨z8, f8⟩ := B3.out.z.2 8 _ rfl
    obtain ⟨z9, f9⟩ := B3.out.z.2 9 _ rfl
    obtain ⟨z10, f10⟩ := B3.out.z.2 10 _ rfl
    obtain ⟨z11, f11⟩ := B3.out.z.2 11 _ rfl
    obtain ⟨z12, f12⟩ := B3.out.z.2 12 _ rfl
    obtain ⟨z13, f13⟩ := B3.out.z.2 13 _ rfl
    obtain ⟨z14, f14⟩ := B3.out.z.2 14 _ rfl
    go_wp2_with fail
    refine bodyPost_ret (v := .tuple #[.agg #[.string ⟨#[]⟩, .slice none 0 0, .slice none 0 0, .bool false, .int .i64 0, .int .i64 0, .int .i64 0, .int .i64 0, .int .i64 0, .slice none 0 0, .int .i64 0, .int .i64 0, .int .i64 0, .slice none 0 0, .slice none 0 0], .int .i64 5]) (by simp [results, Try.results24, go_sem, z0, z1, z2, z3, z4, z5, z6, z7, z8, z9, z10, z11, z12, z13, z14]) rfl ⟨[.string ⟨#[]⟩, .slice none 0 0, .slice none 0 0, .bool false, .int .i64 0, .int .i64 0, .int .i64 0, .int .i64 0, .int .i64 0, .slice none 0 0, .int .i64 0, .int .i64 0, .int .i64 0, .slice none 0 0, .slice none 0 0], rfl, zeroInfo_at _ _ _, ?_⟩
    repeat (refine Below.setCell ?_ (by simp <;> omega) _)
    exact B3.out.b
  · have HE := HD.out hhas
    clear HD HDn hhas
    subst HE
    have hs3 := B3.out.sz
    have HR0 : Hid (Row RPod 16 (fun b => A'' b ∧ b < w.heap.size) W3 (W3.alloc (.cells #[] 37)) 37 (.slice (some ⟨W3.heap.size, 0, none⟩) 0 0) ((L.take 0).filter kp)) := Row.start _ W3 W3 _ (Below.refl _ _)
    go_wp2_with fail
    go_loopw [8, 9] (fun s i wr => ∃ k : Nat, k ≤ n ∧ i = .int .i64 k ∧ Hid (Row RPod 16 (fun b => A'' b ∧ b < w.heap.size) W3 wr 37 s ((L.take k).filter kp))) (fun _ i _ => n - (intOf i).toNat)
    case atStart => exact ⟨0, Nat.zero_le _, rfl, HR0⟩
    case round =>
      obtain ⟨k, hk, rfl, hrow⟩ := hrel
      have hC := B3.out.on hrow.out.below
      have HC : Hid _ := hC
      by_cases hlt : k < n
      · have hltz : (k : Int) < (n : Int) := by omega
        have hkl : k < L.length := by rw [hn.out]; exact hlt
        have hbw : Below w.heap.size w wr := hC.b
        obtain ⟨D, off, rfl, hD, _, cs, hr, hv⟩ := hL.out.get hlt
        have HT : Hid ((L.take (k + 1)).filter kp = (L.take k).filter kp ++ (if kp (L.getD k default) = true then [L.getD k default] else [])) := filter_succ kp L hkl
        have HQ := HKp.out (L.getD k default)
        have hcnt : ((L.take k).filter kp).length ≤ k := Nat.le_trans (List.length_filter_le _ _) (by rw [List.length_take]; omega)
        generalize L.getD k default = q at hr HT HQ
        have hrA : RPod (fun b => A'' b ∧ b < w.heap.size) w cs q := RPod.firm.weak hr (fun b hb h => ⟨h, hb⟩)
        obtain ⟨v0, v1, v2, v3, v4, v5, v6, v7, v8, v9, v10, v11, v12, v13, v14, v15, hlit⟩ := RPod.lit hr
        have hv0 : v0 = .string q.1 := by
          obtain ⟨_, _, _, _, _, _, _, _, _, e, _⟩ := hr.out
          rw [hlit] at e
          exact (List.cons.inj e).1
        subst hlit
        subst hv0
        have d0 := (hbw.cell hD).trans (hv 0 _ rfl)
        rw [Nat.add_zero] at d0
        have HV : Hid (wr.rangeAt D (off + k * 16) [.string q.1, v1, v2, v3, v4, v5, v6, v7, v8, v9, v10, v11, v12, v13, v14, v15]) := fun j v hj => (hbw.cell hD).trans (hv j v hj)
        obtain ⟨p9, _⟩ := hC.p.2 9 _ rfl
        obtain ⟨y0, _⟩ := hC.y.2 0 _ rfl
        have HM : Hid (∀ m, Calls Try.prog 26 #[.slice a9 n9 m9, .string q.1] (wr.drewN m) fun e w' => e = .returned (.bool (hasB sEq nms q.1)) ∧ ∃ t, w' = (wr.drewN m).drewN t) := fun m => (Has_calls a9 n9 m9 E nms _ (wr.drewN m) (S9.out.on RStr.firm (on2 hbw (below_drewN (Below.refl _ _) _)))).mono (fun e w9 h => ⟨h.1, 0, h.2⟩)
        have HA : Hid _ := hrA
        clear hr hv hrA hC
        go_upto_region 7 with fail
        go_cut [41] (fun b wx => b = .bool (kp q) ∧ Hid (Below wr.heap.size wr wx))
        case first =>
          generalize hh : hasB sEq nms q.1 = r at HM HQ
          clear hh
          cases he : sEq q.1 y.1
          · have he2 : (!(q.1.toList == y.1.toList)) = true := by have h1 : (q.1.toList == y.1.toList) = false := he; rw [h1]; rfl
            rw [he] at HQ
            clear he
            cases r
            · have HQ2 : Hid (kp q = false) := HQ
              clear HQ
              go_wp2_with fail
              go_quiet ((go_at_call 26; exact Calls.quiet_of (HM.out _)))
              go_wp2_with fail
              go_meet
              exact ⟨congrArg Value.bool HQ2.out.symm, below_drewN (Below.refl _ _) _⟩
            · have HQ2 : Hid (kp q = true) := HQ
              clear HQ
              go_wp2_with fail
              go_quiet ((go_at_call 26; exact Calls.quiet_of (HM.out _)))
              go_wp2_with fail
              go_meet
              exact ⟨congrArg Value.bool HQ2.out.symm, below_drewN (Below.refl _ _) _⟩
          · have he2 : (!(q.1.toList == y.1.toList)) = false := by have h1 : (q.1.toList == y.1.toList) = true := he; rw [h1]; rfl
            rw [he] at HQ
            have HQ2 : Hid (kp q = false) := HQ
            clear he HQ
            go_wp2_with fail
            go_quiet ((go_at_call 26; exact Calls.quiet_of (HM.out _)))
            go_wp2_with fail
            go_meet
            exact ⟨congrArg Value.bool HQ2.out.symm, below_drewN (Below.refl _ _) _⟩
        case rest =>
          obtain ⟨rfl, hbc⟩ := hcut
          have hrow2 := hrow.out.on RPod.firm hbc.out
          have HVc : Hid (wc.rangeAt D (off + k * 16) [.string q.1, v1, v2, v3, v4, v5, v6, v7, v8, v9, v10, v11, v12, v13, v14, v15]) := fun j v hj => (hbc.out.cell (Nat.lt_of_lt_of_le hD hbw.size)).trans (HV.out j v hj)
          clear HQ d0 p9 y0 HM HV
          cases hkp : kp q
          · have hrow3 : Hid (Row RPod 16 (fun b => A'' b ∧ b < w.heap.size) W3 wc 37 u8 ((L.take (k + 1)).filter kp)) := by unfold Hid; rw [HT.out, hkp]; simpa using hrow2
            clear hrow2 hkp
            go_wp2_with fail
            go_roundw
            case rel => exact ⟨k + 1, by omega, by go_num, hrow3⟩
            case measure => simp [intOf]; omega
          ·
            have hi : (Try.prog.info? 37).map (·.size) = some ([.string q.1, v1, v2, v3, v4, v5, v6, v7, v8, v9, v10, v11, v12, v13, v14, v15] : List Value).length := sizePod
            have hb3 : Below wc.heap.size wc (wc.alloc (.cells #[.string q.1, v1, v2, v3, v4, v5, v6, v7, v8, v9, v10, v11, v12, v13, v14, v15] 37)) := (Below.refl _ _).alloc (Nat.le_refl _) _
            have HR3 : Hid (Row RPod 16 (fun b => A'' b ∧ b < w.heap.size) W3 (wc.alloc (.cells #[.string q.1, v1, v2, v3, v4, v5, v6, v7, v8, v9, v10, v11, v12, v13, v14, v15] 37)) 37 u8 ((L.take k).filter kp)) := hrow2.on RPod.firm hb3
            have hown := HR3.out
            have HE : RPod (fun b => (fun b => A'' b ∧ b < w.heap.size) b ∧ Value.ownBlock u8 ≠ some b) (wc.alloc (.cells #[.string q.1, v1, v2, v3, v4, v5, v6, v7, v8, v9, v10, v11, v12, v13, v14, v15] 37)) [.string q.1, v1, v2, v3, v4, v5, v6, v7, v8, v9, v10, v11, v12, v13, v14, v15] q := RPod.firm.weak (RPod.firm.kept HA.out (Kept.below (on2 (on2 hbw hbc.out) hb3))) (fun b _ hb => ⟨hb, fun e => by have h1 := (hown.lt e).1; have h2 := hb.2; omega⟩)
            have H1 : Hid (∀ v ∈ [.string q.1, v1, v2, v3, v4, v5, v6, v7, v8, v9, v10, v11, v12, v13, v14, v15], v.oneCell' = true) := RPod.firm.one HE
            have HCh : Hid (Chunks RPod 16 (fun b => (fun b => A'' b ∧ b < w.heap.size) b ∧ Value.ownBlock u8 ≠ some b) (wc.alloc (.cells #[.string q.1, v1, v2, v3, v4, v5, v6, v7, v8, v9, v10, v11, v12, v13, v14, v15] 37)) [.string q.1, v1, v2, v3, v4, v5, v6, v7, v8, v9, v10, v11, v12, v13, v14, v15] [q]) := chunk_one RPod.firm HE
            have HX : Hid (∀ j v, ([.string q.1, v1, v2, v3, v4, v5, v6, v7, v8, v9, v10, v11, v12, v13, v14, v15] : List Value)[j]? = some v → (wc.alloc (.cells #[.string q.1, v1, v2, v3, v4, v5, v6, v7, v8, v9, v10, v11, v12, v13, v14, v15] 37)).cell? ((⟨wc.heap.size, 0, none⟩ : Addr).add j) = some v) := one_cells wc _ 37
            have HLb : Hid ((((L.take k).filter kp).length + [q].length) * 296 ≤ 140737488355328) := by have := bytes_le hbb.out hlt; rw [Hid, List.length_singleton]; omega
            have HT2 : Hid ((L.take (k + 1)).filter kp = (L.take k).filter kp ++ [q]) := by rw [Hid, HT.out, hkp]; rfl
            clear HE hown hb3 hrow2 HT
            go_wp2_with (first | (refine wpList_load_mid rfl 37 _ rfl D (off + k * 16) rfl [.string q.1, v1, v2, v3, v4, v5, v6, v7, v8, v9, v10, v11, v12, v13, v14, v15] _ HVc.out Try.underlying37 rfl hi ?_) | (at_builtin; go_must (refine row_append RPod.firm (A := (fun b => A'' b ∧ b < w.heap.size)) (w0 := W3) rfl _ _ 28 37 rfl _ 296 infoPod Try.underlying28 rfl (by decide) (by decide) u8 ((L.take k).filter kp) rfl HR3.out ⟨wc.heap.size, 0, none⟩ 1 1 _ [q] rfl rfl HCh.out HX.out H1.out HLb.out ?_); intro v4 w4 hrow4 hg4))
            rw [← HT2.out] at hrow4
            go_roundw
            case rel => exact ⟨k + 1, by omega, by go_num, hrow4⟩
            case measure => simp [intOf]; omega
      · have hk9 : L.take k = L := List.take_of_length_le (by rw [hn.out]; omega)
        rw [hk9] at hrow
        have hlz : ¬ ((k : Int) < (n : Int)) := by omega
        have hcnt : (L.filter kp).length ≤ n := by rw [← hn.out]; exact List.length_filter_le _ _
        obtain ⟨b8, c8, e8, hS8⟩ := hrow.out.sl (bytes := 296) RPod.firm (Nat.le_trans (Nat.mul_le_mul_right 296 hcnt) hbb.out)
        subst e8
        obtain ⟨p0, _⟩ := hC.p.2 0 _ rfl
        obtain ⟨p1, _⟩ := hC.p.2 1 _ rfl
        obtain ⟨p2, _⟩ := hC.p.2 2 _ rfl
        obtain ⟨p3, _⟩ := hC.p.2 3 _ rfl
        obtain ⟨p4, _⟩ := hC.p.2 4 _ rfl
        obtain ⟨p5, _⟩ := hC.p.2 5 _ rfl
        obtain ⟨p6, _⟩ := hC.p.2 6 _ rfl
        obtain ⟨p7, _⟩ := hC.p.2 7 _ rfl
        obtain ⟨p8, _⟩ := hC.p.2 8 _ rfl
        have HS8 : Hid (SlAt RPod 16 296 (fun b => (fun b => A'' b ∧ b < w.heap.size) b ∨ Fresh W3 b) wr b8 (L.filter kp).length c8 (L.filter kp)) := hS8
        clear hS8 hC
        go_wp2_with fail
        refine (rOf_calls [.string nn, .slice a1 n1 m1, .slice a2 n2 m2, .bool no, .int .i64 ga, .int .i64 gb, .int .i64 gc, .int .i64 np, .int .i64 nd] b8 _ c8 (fun b => A b ∧ b < w.heap.size) _ (nn, nl, nt, no, (ga, gb, gc), np, nd) (L.filter kp) wr (RNode.firm.kept (RNode.firm.weak hN0.out (fun b hb h => ⟨h, hb⟩)) (Kept.below HC.out.b)) HS8.out (hF.out.filter kp)).mono ?_
        rintro e w5 ⟨fs, rfl, hI5, hb5⟩
        clear p0 p1 p2 p3 p4 p5 p6 p7 p8
        have C5 := HC.out.on hb5
        have hfl : fs.length = 15 := hI5.len
        have HI : Hid ((Try.prog.info? 41).map (·.size) = some fs.length) := by rw [hfl]; unfold Hid; kernel_rfl
        have H1 : Hid (fs.toArray.all (·.oneCell') = true) := all_oneCell_toArray hI5.one
        have HSZ : Hid (fs.length = fs.toArray.size) := by simp [Hid]
        have HZ : Hid (w5.there (w.heap.size + 1 + 1) 0 fs.toArray.size) := by have e : fs.toArray.size = 15 := (by simp [hfl]); rw [Hid, e]; exact C5.z.there
        have HRG : Hid ((w5.setCells (w.heap.size + 1 + 1) 0 fs).rangeAt (w.heap.size + 1 + 1) 0 fs) := World.rangeAt_setCells_same _ _ _ _ (by have e : fs.toArray.size = fs.length := (by simp); have := HZ.out; rwa [e] at this)
        have HBw : Hid (Below w.heap.size w (w5.setCells (w.heap.size + 1 + 1) 0 fs)) := below_setCells C5.b (by omega)
        have hwz : w.heap.size + 1 + 1 < wr.heap.size := HC.out.sz
        have HE2 : Hid (InfoAt A (Fresh w) (w5.setCells (w.heap.size + 1 + 1) 0 fs) fs (ofP (nn, nl, nt, no, (ga, gb, gc), np, nd) (L.filter kp))) := (hI5.kept (kept_setCells (fun h => absurd h.2 (by omega))) (kept_setCells (Fresh.not hwz))).weak (fun b _ h => h.1) (fun b _ h => Nat.le_trans HC.out.b.size h)
        clear hI5 C5 hfl
        go_wp2_with (first | (refine wpList_store_mid rfl 41 _ _ rfl (w.heap.size + 1 + 1) 0 fs.toArray rfl rfl HZ.out (HSZ.out ▸ HI.out) H1.out ?_) | fail)
        refine bodyPost_ret (v := .tuple #[.agg fs.toArray, .int .i64 0]) (res_cell2 (p := 6) (q := 7) (ty := 41) rfl _ _ (w.heap.size + 1 + 1) fs _ _ rfl rfl HRG.out Try.underlying41 rfl HI.out) rfl ⟨fs, rfl, HE2.out, HBw.out⟩
end Go.Proofs.Ytddeilhelkfpoaa
namespace Go.Proofs.Ytddeilhelkfpoaa
open Go.RowKit
set_option linter.unusedSimpArgs false
set_option maxRecDepth 100000

set_option maxHeartbeats 1000000 in
theorem Texts_row (a : Option Addr) (n cap : Nat) (A : Where) (L : List ByteArray) (w : World) (hL : Hid (SlAt RStr 1 16 A w a n cap L)) : Calls Try.prog 52 #[.slice a n cap] w fun e w' => ∃ v, e = .returned v ∧ Row RStr 1 (fun _ => False) w w' 9 v L := by
  have hb0 : Below w.heap.size w (w.alloc (.cells #[] 9)) := by go_grown
  have HR : Hid (Row RStr 1 (fun _ => False) w (w.alloc (.cells #[] 9)) 9 (.slice (some ⟨w.heap.size, 0, none⟩) 0 0) []) := Row.start _ w w _ (Below.refl _ _)
  have HN : Hid (Src RStr 1 (fun b => False ∧ Value.ownBlock (.slice (some ⟨w.heap.size, 0, none⟩) 0 0) ≠ some b) (w.alloc (.cells #[] 9)) a n L) := ((hL.out.on RStr.firm hb0).src RStr.firm).flat RStr.flat
  have HB : Hid ((([] : List ByteArray).length + L.length) * 16 ≤ 140737488355328) := by have h1 := hL.out.2.2.2.1; have h2 := hL.out.1; rw [Hid, h2]; simp; omega
  clear hb0 hL
  go_enter Try.func52, Try.ntmps52
  go_wp2_with (at_builtin; go_must (refine row_appendS RStr.firm (A := (fun _ => False)) (w0 := w) rfl _ _ 35 9 rfl _ 16 infostr Try.underlying35 rfl (by decide) (by decide) _ [] rfl HR.out a n cap L rfl HN.out HB.out ?_); intro v1 w1 hrow1 hg1)
  go_ret
  exact ⟨v1, rfl, by simpa using hrow1⟩
set_option maxHeartbeats 1000000 in
theorem Ints_row (a : Option Addr) (n cap : Nat) (A : Where) (L : List Int) (w : World) (hL : Hid (SlAt RInt 1 8 A w a n cap L)) : Calls Try.prog 50 #[.slice a n cap] w fun e w' => ∃ v, e = .returned v ∧ Row RInt 1 (fun _ => False) w w' 3 v L := by
  have hb0 : Below w.heap.size w (w.alloc (.cells #[] 3)) := by go_grown
  have HR : Hid (Row RInt 1 (fun _ => False) w (w.alloc (.cells #[] 3)) 3 (.slice (some ⟨w.heap.size, 0, none⟩) 0 0) []) := Row.start _ w w _ (Below.refl _ _)
  have HN : Hid (Src RInt 1 (fun b => False ∧ Value.ownBlock (.slice (some ⟨w.heap.size, 0, none⟩) 0 0) ≠ some b) (w.alloc (.cells #[] 3)) a n L) := ((hL.out.on RInt.firm hb0).src RInt.firm).flat RInt.flat
  have HB : Hid ((([] : List Int).length + L.length) * 8 ≤ 140737488355328) := by have h1 := hL.out.2.2.2.1; have h2 := hL.out.1; rw [Hid, h2]; simp; omega
  clear hb0 hL
  go_enter Try.func50, Try.ntmps50
  go_wp2_with (at_builtin; go_must (refine row_appendS RInt.firm (A := (fun _ => False)) (w0 := w) rfl _ _ 32 3 rfl _ 8 infoint Try.underlying32 rfl (by decide) (by decide) _ [] rfl HR.out a n cap L rfl HN.out HB.out ?_); intro v1 w1 hrow1 hg1)
  go_ret
  exact ⟨v1, rfl, by simpa using hrow1⟩
end Go.Proofs.Ytddeilhelkfpoaa
