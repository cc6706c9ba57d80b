/- The law VolumeMore's walk. Condition: the arguments lie as is said of them; a bound; the program's contracts. -/
import Derived.Test.YtgofpmcoffgffaaQ26
import Derived.Test.YtgofpmcoffgffaaW04
namespace Go.Proofs.Ytgofpmcoffgffaa
open Go.RowKit
set_option linter.unusedSimpArgs false
set_option maxRecDepth 100000

section
variable {α : Type} [Inhabited α] {R : Rep α} {k : Nat}
theorem Row.kept10 (hR : Firm R k) {A : Where} {w0 u u' : World} {e : TypeId} {v : Value} {L : List α} (h : Row R k A w0 u e v L) (hb : Below w0.heap.size w0 u') (hk : Kept (fun b => A b ∨ v.ownBlock = some b) u u') : Row R k A w0 u' e v L := by
  obtain ⟨xs, h1, h2⟩ := h
  refine ⟨xs, ⟨hb, ?_⟩, h2.kept hR (hk.weak (fun b hb => .inl hb.1))⟩
  obtain ⟨hl, h0 | ⟨g, cap, cur, rfl, hg, hh, r⟩⟩ := h1.2
  · exact ⟨hl, .inl h0⟩
  · exact ⟨hl, .inr ⟨g, cap, cur, rfl, hg, (hk.2 g (.inr rfl) (Array.getElem?_eq_some_iff.1 hh).1).trans hh, r⟩⟩
theorem row_hd10 (hR : Firm R k) {bytes : Nat} {A : Where} {w0 u : World} {e : TypeId} {v : Value} {L : List α} (h : Row R k A w0 u e v L) (hb : L.length * bytes ≤ 140737488351232) : ∃ a n c, v = .slice a n c := by
  obtain ⟨a, n, c, e, _⟩ := Row.sl10 hR h hb
  exact ⟨a, n, c, e⟩
theorem src_at10 (hR : Firm R k) {A : Where} {u : World} {B : Nat} {cs : List Value} {x : α} (hb : BoxL u B cs) (hr : R A u cs x) : Src R k A u (some ⟨B, 0, none⟩) 1 [x] := by
  refine ⟨rfl, .inr ⟨⟨B, 0, none⟩, cs, rfl, ⟨by rw [hR.len hr]; simp, fun i hi => ?_⟩, fun j y hj => ?_, hR.one hr⟩⟩
  · obtain rfl : i = 0 := by simpa using hi
    exact ⟨cs, hr, fun j _ => by rw [Nat.zero_mul, Nat.zero_add]⟩
  · have := (hb.2 j y hj).1
    by_cases h0 : j = 0
    · subst h0; simpa [Addr.add] using this
    · simpa [Addr.add, h0] using this
end
theorem infoV10 : (Try.prog.info? 59).map (fun i => (i.zero, i.size, i.bytes)) = some (some (.agg #[.string ⟨#[]⟩, .int .i64 0, .string ⟨#[]⟩, .slice none 0 0, .string ⟨#[]⟩]), 5, 80) := by kernel_rfl
/-- The state with one volume more. -/
abbrev moreD (x : StateD) (v : VolumeD) : StateD := (x.1, x.2.1, x.2.2.1 ++ [v], x.2.2.2)
theorem more_lists {w0 u u' : World} {c0 c1 c2 c3 c4 c5 d0 d1 d2 d3 d4 d5 : Nat} {v0 v1 v2 v3 v4 v5 : Value} {x : StateD} (h : StO w0 u c0 c1 c2 c3 c4 c5 d0 d1 d2 d3 d4 d5 v0 v1 v2 v3 v4 v5 x) (hk : Kept (fun b => Btw c0 d1 b ∨ Btw c3 d5 b) u u') {A : Where} {wz : World} {cs : List Value} (hR : RState A wz cs x) :
    ∃ a3 n3 m3 a4 n4 m4, v3 = .slice a3 n3 m3 ∧ v4 = .slice a4 n4 m4 ∧ SlAt RClaim 4 56 (fun _ => True) u' a3 n3 m3 (sCs x) ∧ SlAt RClass 2 24 (fun _ => True) u' a4 n4 m4 (sKs x) := by
  obtain ⟨h0, h1, h2, h3, h4, h5, -, s0, s1, s2, s3, s4, s5⟩ := hR.out
  have ho := h.o
  obtain ⟨a3, m3, rfl, t3⟩ := (h.c.kept RClaim.firm (hk.weak (fun b hb => .inr ⟨by have := hb.1; omega, by have := hb.2; omega⟩))).sl (bytes := 56) RClaim.firm (by rw [s3.1]; exact s3.2.2.2.1)
  obtain ⟨a4, m4, rfl, t4⟩ := (h.k.kept RClass.firm (hk.weak (fun b hb => .inr ⟨by have := hb.1; omega, by have := hb.2; omega⟩))).sl (bytes := 24) RClass.firm (by rw [s4.1]; exact s4.2.2.2.1)
  exact ⟨a3, _, m3, a4, _, m4, rfl, rfl, t3.weak RClaim.firm (fun _ _ _ => trivial), t4.weak RClass.firm (fun _ _ _ => trivial)⟩

set_option maxHeartbeats 32000000 in
theorem vmore_walk (ps : List Value) (p : PodD) (is : List Value) (i : InfoD) (cs : List Value) (x : StateD) (vs : List Value) (v : VolumeD) (w : World) (hp : RPod (fun _ => True) w ps p) (hi : RInfo (fun _ => True) w is i) (h : RState (fun _ => True) w cs x) (hv : RVolume (fun _ => True) w vs v) :
    Calls Try.prog 4 #[.agg ps.toArray, .agg is.toArray, .agg cs.toArray, .agg vs.toArray] w fun e w' => e = .returned (.bool true) ∧ Below w.heap.size w w' := by
  have hi16 : (Try.prog.info? 33).map (·.size) = some ps.length := by rw [RPod.firm.len hp]; kernel_rfl
  have hi15 : (Try.prog.info? 38).map (·.size) = some is.length := by rw [RInfo.firm.len hi]; exact sizeIn10
  obtain ⟨⟨k1, k2, k3⟩, e13, sk⟩ := hp.clm10
  simp only at e13 sk
  have hlk := sk.len (by decide)
  have hkc : Hid ((pClm p).length = k2) := sk.1
  obtain ⟨⟨q1, q2, q3⟩, rfl, hv1, hv2, sR, _⟩ := hv.out
  simp only at sR
  obtain ⟨⟨a0, n0, m0⟩, ⟨a1, n1, m1⟩, ⟨a2, n2, m2⟩, ⟨a3, n3, m3⟩, ⟨a4, n4, m4⟩, ⟨a5, n5, m5⟩, hcs, s0, s1, s2, s3, s4, s5⟩ := h.out
  simp only at hcs s2
  have hn2 : Hid ((sVs x).length = n2) := s2.1
  have hlen2 := s2.len (by decide)
  have hb2 : Hid (n2 * 80 ≤ 140737488351232) := s2.2.2.2.1
  subst hcs
  obtain ⟨W1, hW1⟩ : ∃ W, W = w.alloc (.cells ps.toArray 33) := ⟨_, rfl⟩
  obtain ⟨W2, hW2⟩ : ∃ W, W = W1.alloc (.cells is.toArray 38) := ⟨_, rfl⟩
  obtain ⟨W3, hW3⟩ : ∃ W, W = W2.alloc (.cells #[.slice a0 n0 m0, .slice a1 n1 m1, .slice a2 n2 m2, .slice a3 n3 m3, .slice a4 n4 m4, .slice a5 n5 m5] 46) := ⟨_, rfl⟩
  obtain ⟨W4, hW4⟩ : ∃ W, W = W3.alloc (.cells #[.string v.1, .int .i64 v.2.1, .string v.2.2.1, .slice q1 q2 q3, .string (vCl v)] 59) := ⟨_, rfl⟩
  have B1 : Below w.heap.size w W1 := by rw [hW1]; go_grown
  have B2 : Below W1.heap.size W1 W2 := by rw [hW2]; go_grown
  have B3 : Below W2.heap.size W2 W3 := by rw [hW3]; go_grown
  have B4 : Below W3.heap.size W3 W4 := by rw [hW4]; go_grown
  have z1 : W1.heap.size = w.heap.size + 1 := by rw [hW1]; simp
  have z2 : W2.heap.size = w.heap.size + 1 + 1 := by rw [hW2]; simp [z1]
  have z3 : W3.heap.size = w.heap.size + 1 + 1 + 1 := by rw [hW3]; simp [z2]
  have qa : BoxL W4 w.heap.size ps := by refine BoxL.on (BoxL.on (BoxL.on ?_ B2) B3) B4; rw [hW1]; exact BoxL.new w 33 _
  have qb : BoxL W4 (w.heap.size + 1) is := by refine BoxL.on (BoxL.on ?_ B3) B4; rw [← z1, hW2]; exact BoxL.new W1 38 _
  have qc : BoxL W4 (w.heap.size + 1 + 1) [.slice a0 n0 m0, .slice a1 n1 m1, .slice a2 n2 m2, .slice a3 n3 m3, .slice a4 n4 m4, .slice a5 n5 m5] := by refine BoxL.on ?_ B4; rw [← z2, hW3]; exact BoxL.new W2 46 _
  have qd : BoxL W4 (w.heap.size + 1 + 1 + 1) [.string v.1, .int .i64 v.2.1, .string v.2.2.1, .slice q1 q2 q3, .string (vCl v)] := by rw [← z3, hW4]; exact BoxL.new W3 59 _
  have BB : Below w.heap.size w W4 := on2 (on2 (on2 B1 B2) B3) B4
  have HWk := works10_calls W4
  go_enter Try.func4, Try.ntmps4
  go_upto_region 1 with fail
  rw [← hW1, ← hW2, ← hW3, ← hW4]
  clear hW1 hW2 hW3 hW4
  go_wp2_with fail
  refine HWk.mono ?_
  rintro e u1 ⟨rfl, bu1⟩
  have qd1 := qd.on bu1
  obtain ⟨X, hX⟩ : ∃ X, X = u1.setCell ⟨(w.heap.size + 1 + 1 + 1), 4, none⟩ (.string ⟨#[]⟩) := ⟨_, rfl⟩
  have kX : Kept (fun b => b ≠ (w.heap.size + 1 + 1 + 1)) u1 X := by rw [hX]; exact Kept.set (fun hq => hq rfl) _
  have qdX : BoxL X (w.heap.size + 1 + 1 + 1) [.string v.1, .int .i64 v.2.1, .string v.2.2.1, .slice q1 q2 q3, .string ⟨#[]⟩] := by rw [hX]; exact qd1.set 4 (.string ⟨#[]⟩) (by simp)
  have BX : Below w.heap.size w X := by rw [hX]; exact (on2 BB bu1).setCell (show w.heap.size ≤ (w.heap.size + 1 + 1 + 1) by omega) _
  have qaX := (qa.on bu1).kept kX (by omega)
  have qbX := (qb.on bu1).kept kX (by omega)
  have qcX := (qc.on bu1).kept kX (by omega)
  obtain ⟨c4, f4⟩ := qd1.2 4 _ rfl
  have hlt3 : (w.heap.size + 1 + 1 + 1) < u1.heap.size := qd1.1
  have HU : Hid (∀ u, Below X.heap.size X u → (u.rangeAt w.heap.size 0 ps ∧ u.cell? ⟨w.heap.size, 13, none⟩ = some (.slice k1 k2 k3) ∧ u.rangeAt (w.heap.size + 1) 0 is) ∧ BoxL u (w.heap.size + 1 + 1) [.slice a0 n0 m0, .slice a1 n1 m1, .slice a2 n2 m2, .slice a3 n3 m3, .slice a4 n4 m4, .slice a5 n5 m5] ∧ BoxL u (w.heap.size + 1 + 1 + 1) [.string v.1, .int .i64 v.2.1, .string v.2.2.1, .slice q1 q2 q3, .string ⟨#[]⟩] ∧ RPod (fun _ => True) u ps p ∧ RInfo (fun _ => True) u is i ∧ RState (fun _ => True) u [.slice a0 n0 m0, .slice a1 n1 m1, .slice a2 n2 m2, .slice a3 n3 m3, .slice a4 n4 m4, .slice a5 n5 m5] x ∧ SlAt RReq 3 48 (fun b => b < w.heap.size) u q1 q2 q3 (vRq v) ∧ SlAt RVolume 5 80 (fun _ => True) u a2 n2 m2 (sVs x) ∧ Below w.heap.size w u) := fun u hb => ⟨⟨(qaX.on hb).range, ((qaX.on hb).2 13 _ e13).1, (qbX.on hb).range⟩, qcX.on hb, qdX.on hb, RPod.firm.kept hp (Kept.below (on2 BX hb)), RInfo.firm.kept hi (Kept.below (on2 BX hb)), RState.firm.kept h (Kept.below (on2 BX hb)), (sR.weak RReq.firm (fun b hb _ => hb)).on RReq.firm (on2 BX hb), s2.on RVolume.firm (on2 BX hb), on2 BX hb⟩
  have HX : Hid (X = u1.setCell ⟨(w.heap.size + 1 + 1 + 1), 4, none⟩ (.string ⟨#[]⟩)) := hX
  clear HWk hp hi h hv sk sR s0 s1 s2 s3 s4 s5 qa qb qc qd qd1 qaX qbX qcX qdX kX BX BB B1 B2 B3 B4 z1 z2 z3 e13 hX bu1
  go_upto_region 4 with fail
  rw [← HX.out]
  clear HX c4 f4 hlt3
  obtain ⟨⟨r1, r2, r3⟩, qS, qV, hp', hi', hs', _, _, bw⟩ := HU.out X (Below.refl _ _)
  have HOn := once10_calls _ _ x X hs'
  obtain ⟨y0, y1, y2, y3, y4, y5⟩ := StC.of qS
  have HBw : Hid (Below w.heap.size w X) := bw
  clear r1 r2 r3 qS qV hp' hi' hs' bw
  go_wp2_with fail
  refine HOn.mono ?_
  rintro e u2 ⟨ob, rfl, hob, bu2⟩
  clear HOn y0 y1 y2 y3 y4 y5
  obtain ⟨⟨r1, r2, r3⟩, qS, qV, hp', hi', hs', _, _, bw⟩ := HU.out u2 bu2
  have v0 := (qV.2 0 _ rfl).1
  obtain ⟨y0, y1, y2, y3, y4, y5⟩ := StC.of qS
  have HB2 : Hid (Below w.heap.size w u2) := bw
  have HD2 : Hid (Below X.heap.size X u2) := bu2
  have hq1 : v.1.toList.isEmpty = sEq v.1 B0 := isE9 _
  clear HBw r1 r3 qV bw
  cases ob
  case false =>
    clear hob hp' hi' hs' qS bu2
    go_wp2_with fail
    go_ret
    exact ⟨rfl, HB2.out⟩
  case true =>
    have hon := hob.1 rfl
    clear hob
    cases he1 : sEq v.1 B0
    case true =>
      rw [he1] at hq1
      clear hp' hi' hs' qS bu2
      go_wp2_with fail
      go_ret
      exact ⟨rfl, HB2.out⟩
    case false =>
      rw [he1] at hq1
      cases hk1 : decide ((1 : Int) < (k2 : Int))
      case true =>
        clear hp' hi' hs' qS bu2
        go_wp2_with fail
        go_ret
        exact ⟨rfl, HB2.out⟩
      case false =>
        have hk2 : k2 ≤ 1 := by have := of_decide_eq_false hk1; omega
        have HSo := State_own [.slice a0 n0 m0, .slice a1 n1 m1, .slice a2 n2 m2, .slice a3 n3 m3, .slice a4 n4 m4, .slice a5 n5 m5] _ x u2 hs'
        have HRs : Hid (u2.rangeAt (w.heap.size + 1 + 1) 0 [.slice a0 n0 m0, .slice a1 n1 m1, .slice a2 n2 m2, .slice a3 n3 m3, .slice a4 n4 m4, .slice a5 n5 m5]) := qS.range
        have hi6 : (Try.prog.info? 46).map (·.size) = some ([.slice a0 n0 m0, .slice a1 n1 m1, .slice a2 n2 m2, .slice a3 n3 m3, .slice a4 n4 m4, .slice a5 n5 m5] : List Value).length := by kernel_rfl
        clear hp' hi' hs' qS bu2 y0 y1 y2 y3 y4 y5
        go_wp2_with (first | (refine wpList_load_mid rfl 46 _ rfl (w.heap.size + 1 + 1) 0 rfl [.slice a0 n0 m0, .slice a1 n1 m1, .slice a2 n2 m2, .slice a3 n3 m3, .slice a4 n4 m4, .slice a5 n5 m5] _ HRs.out Try.underlying46 rfl hi6 ?_) | fail)
        refine HSo.mono ?_
        rintro e u3 ⟨c0, c1, c2, c3, c4, c5, d0, d1, d2, d3, d4, d5, g0, g1, g2, g3, g4, g5, rfl, hso, hd5, hrs, bu3⟩
        obtain ⟨ga, gn, gc, rfl⟩ : ∃ a n c, g2 = .slice a n c := by
          obtain ⟨a, c, e, _⟩ := hso.v.sl (bytes := 80) RVolume.firm (by show (sVs x).length * 80 ≤ _; have h1 := hb2.out; rw [hn2.out]; exact h1)
          exact ⟨a, _, c, e⟩
        have hone := RState.firm.one hrs
        have HO : Hid ((#[g0, g1, .slice ga gn gc, g3, g4, g5] : Array Value).all (·.oneCell') = true) := by rw [Hid]; have := hone; simp only [List.mem_cons, List.not_mem_nil, or_false, forall_eq_or_imp, forall_eq] at this; simp [this]
        obtain ⟨X0, hX0⟩ : ∃ Y, Y = u3.alloc (.cells #[.slice none 0 0, .slice none 0 0, .slice none 0 0, .slice none 0 0, .slice none 0 0, .slice none 0 0] 46) := ⟨_, rfl⟩
        have qv0 : BoxL X0 u3.heap.size [.slice none 0 0, .slice none 0 0, .slice none 0 0, .slice none 0 0, .slice none 0 0, .slice none 0 0] := by rw [hX0]; exact BoxL.new u3 46 _
        obtain ⟨Y, hY⟩ : ∃ Y, Y = X0.setCells u3.heap.size 0 [g0, g1, .slice ga gn gc, g3, g4, g5] := ⟨_, rfl⟩
        have bY : Below u3.heap.size u3 Y := by rw [hY, hX0]; exact below_setCells ((Below.refl _ _).alloc (Nat.le_refl _) _) (Nat.le_refl _)
        have qY : BoxL Y u3.heap.size [g0, g1, .slice ga gn gc, g3, g4, g5] := by rw [hY]; exact box_over8 qv0 rfl
        have HTh : Hid (X0.there u3.heap.size 0 (#[g0, g1, .slice ga gn gc, g3, g4, g5] : Array Value).size) := qv0.there
        have HWV : Hid (Y = X0.setCells u3.heap.size 0 (#[g0, g1, .slice ga gn gc, g3, g4, g5] : Array Value).toList) := by rw [Hid, hY]
        have HX0 : Hid (X0 = u3.alloc (.cells #[.slice none 0 0, .slice none 0 0, .slice none 0 0, .slice none 0 0, .slice none 0 0, .slice none 0 0] 46)) := hX0
        have hg6 : (Try.prog.info? 46).map (·.size) = some (#[g0, g1, .slice ga gn gc, g3, g4, g5] : Array Value).size := by kernel_rfl
        have HY : Hid (∀ u, Below Y.heap.size Y u → BoxL u u3.heap.size [g0, g1, .slice ga gn gc, g3, g4, g5] ∧ StO u2 u c0 c1 c2 c3 c4 c5 d0 d1 d2 d3 d4 d5 g0 g1 (.slice ga gn gc) g3 g4 g5 x ∧ Below u2.heap.size u2 u ∧ Below X.heap.size X u) := fun u hb => by
          have h3 := on2 bY hb
          exact ⟨qY.on hb, hso.kept ⟨h3.size, fun b ha hb' => h3.block b hb'⟩, on2 bu3 h3, on2 HD2.out (on2 bu3 h3)⟩
        have HD5 : Hid (d5 ≤ u3.heap.size) := hd5
        clear HSo hso hrs hone qv0 qY hY hX0 bY bu3 hd5 HRs v0
        go_upto_region 7 with (first | (refine wpl_w8 HX0.out ?_; refine wpList_store_mid rfl 46 _ _ rfl u3.heap.size 0 #[g0, g1, .slice ga gn gc, g3, g4, g5] rfl rfl HTh.out hg6 HO.out ?_; refine wpl_w8 HWV.out ?_) | fail)
        clear HTh HWV HX0 HO hg6
        go_wp2_with fail
        go_loopw [10] (fun j wr => ∃ k : Nat, k ≤ n2 ∧ j = .int .i64 k ∧ Hid (Below Y.heap.size Y wr ∧ ∀ q, q < k → ((sVs x).getD q default).1 ≠ v.1)) (fun j _ => n2 - (intOf j).toNat)
        case atStart => exact ⟨0, Nat.zero_le _, rfl, Below.refl _ _, fun q hq => absurd hq (Nat.not_lt_zero _)⟩
        case round =>
          obtain ⟨k, hk, rfl, hst2⟩ := hrel
          have hst : Hid (Below Y.heap.size Y wr) := hst2.out.1
          have hnq : Hid (∀ q, q < k → ((sVs x).getD q default).1 ≠ v.1) := hst2.out.2
          clear hst2
          obtain ⟨qg, hso, b2r, bXr⟩ := HY.out wr hst.out
          obtain ⟨⟨r1, r2, r3⟩, qS, qV, hp', hi', hs', sR, sV, bw⟩ := HU.out wr bXr
          have HBr : Hid (Below w.heap.size w wr) := bw
          by_cases hlt : k < n2
          · have hltz : (k : Int) < (n2 : Int) := by omega
            obtain ⟨B, off, rfl, hB, _, ys, hr, hvv⟩ := sV.get hlt
            have e0 := hvv 0 _ hr.five.1
            rw [Nat.add_zero] at e0
            have y2 := (qS.2 2 _ rfl).1
            have v0 := (qV.2 0 _ rfl).1
            clear qg hso b2r bXr r1 r2 r3 qS qV hp' hi' hs' sR sV bw hr hvv
            have Hnm : Hid (∀ s, sEq ((sVs x).getD k default).1 v.1 = s → s = false → ∀ q, q < k + 1 → ((sVs x).getD q default).1 ≠ v.1) := fun s hs h0 q hq => by
              rcases Nat.lt_succ_iff_lt_or_eq.1 hq with h | rfl
              · exact hnq.out q h
              · exact sEq_ne9.1 (hs.trans h0)
            generalize ((sVs x).getD k default).1 = nm at e0 Hnm
            have hqq : (nm.toList == v.1.toList) = sEq nm v.1 := rfl
            cases hee : sEq nm v.1
            · rw [hee] at hqq
              have HN4 : Hid (∀ q, q < k + 1 → ((sVs x).getD q default).1 ≠ v.1) := Hnm.out false hee rfl
              clear Hnm hnq
              go_upto_region 10 with fail
              go_quiet (fail)
              go_wp2_with fail
              go_roundw
              case rel => exact ⟨k + 1, by omega, by go_num, on2 hst.out (below_drewN9 _ _), HN4.out⟩
              case measure => simp [intOf]; omega
            · rw [hee] at hqq
              clear Hnm hnq
              go_upto_region 10 with fail
              go_quiet (fail)
              go_wp2_with fail
              go_ret
              exact ⟨rfl, on2 HBr.out (below_drewN9 _ _)⟩
          · have hltz : ¬ ((k : Int) < (n2 : Int)) := by omega
            obtain ⟨vN, hvN⟩ : ∃ z : VolumeD, z = (v.1, v.2.1, v.2.2.1, vRq v, B0) := ⟨_, rfl⟩
            obtain ⟨Wb, hWb⟩ : ∃ W, W = wr.alloc (.cells #[.string v.1, .int .i64 v.2.1, .string v.2.2.1, .slice q1 q2 q3, .string ⟨#[]⟩] 59) := ⟨_, rfl⟩
            have bWb : Below wr.heap.size wr Wb := by rw [hWb]; go_grown
            have ho := hso.o
            have hf := hso.f
            have h2w : w.heap.size ≤ u2.heap.size := HB2.out.size
            have hd5 := HD5.out
            have hrow0 : Row RVolume 5 (fun b => Btw c2 d2 b ∨ b < w.heap.size) u2 wr 59 (.slice ga gn gc) (sVs x) := Row.from RVolume.firm (hso.v.row b2r (by omega)) (Below.refl _ _) (fun b hb => .inl hb)
            have hgb : ∀ b, (Value.slice ga gn gc).ownBlock = some b → Btw c2 d2 b := by
              obtain ⟨_, _, _, h3⟩ := hso.v
              exact h3
            have HRw : Hid (Row RVolume 5 (fun b => Btw c2 d2 b ∨ b < w.heap.size) u2 Wb 59 (.slice ga gn gc) (sVs x)) := Row.kept10 RVolume.firm hrow0 (on2 b2r bWb) (Kept.below bWb)
            have HSr : Hid (Src RVolume 5 (fun b => (fun b => Btw c2 d2 b ∨ b < w.heap.size) b ∧ (Value.slice ga gn gc).ownBlock ≠ some b) Wb (some ⟨wr.heap.size, 0, none⟩) 1 [vN]) := by
              refine src_at10 RVolume.firm (cs := [.string v.1, .int .i64 v.2.1, .string v.2.2.1, .slice q1 q2 q3, .string ⟨#[]⟩]) (by rw [hWb]; exact BoxL.new wr 59 _) ?_
              rw [hvN]
              exact RVolume.mk (x := (v.1, v.2.1, v.2.2.1, vRq v, B0)) (h3 := (q1, q2, q3)) hv1 hv2 ((sR.weak RReq.firm (fun b _ hb => ⟨.inr hb, fun e => by have := (hgb b e).1; omega⟩)).on RReq.firm bWb) (show B0.size ≤ 140737488355328 by decide)
            have HOb : Hid (((sVs x).length + [vN].length) * 80 ≤ 140737488355328) := by have h1 := hb2.out; rw [Hid, List.length_singleton, hn2.out]; omega
            have hiV : (Try.prog.info? 59).map (·.size) = some ([.string v.1, .int .i64 v.2.1, .string v.2.2.1, .slice q1 q2 q3, .string ⟨#[]⟩] : List Value).length := sizeVo10
            have HRV : Hid (wr.rangeAt (w.heap.size + 1 + 1 + 1) 0 [.string v.1, .int .i64 v.2.1, .string v.2.2.1, .slice q1 q2 q3, .string ⟨#[]⟩]) := qV.range
            have y2 := (qS.2 2 _ rfl).1
            have t2 := (qg.2 2 _ rfl).1
            have HG : Hid (BoxL Wb u3.heap.size [g0, g1, .slice ga gn gc, g3, g4, g5]) := qg.on bWb
            have HWb : Hid (Wb = wr.alloc (.cells #[.string v.1, .int .i64 v.2.1, .string v.2.2.1, .slice q1 q2 q3, .string ⟨#[]⟩] 59)) := hWb
            have HS0 : Hid (StO u2 Wb c0 c1 c2 c3 c4 c5 d0 d1 d2 d3 d4 d5 g0 g1 (.slice ga gn gc) g3 g4 g5 x) := hso.kept (Kept.below bWb)
            have Hho : Hid (Wb.heap.size > u3.heap.size) := (qg.on bWb).1
            have HRs : Hid (RState (fun _ => True) wr [.slice a0 n0 m0, .slice a1 n1 m1, .slice a2 n2 m2, .slice a3 n3 m3, .slice a4 n4 m4, .slice a5 n5 m5] x) := hs'
            have Hgb : Hid (∀ b, (Value.slice ga gn gc).ownBlock = some b → Btw c2 d2 b) := hgb
            clear qg hso b2r bXr r1 r2 r3 qS qV hp' hi' hs' sR sV bw hWb bWb hrow0 hgb
            have HLb : Hid ((sVs x ++ [vN]).length * 72 ≤ 140737488351232) := by have h1 := hb2.out; rw [Hid, List.length_append, List.length_singleton, hn2.out]; omega
            have Hne : Hid (∀ b, (Value.slice ga gn gc).ownBlock = some b → ¬ (b = u3.heap.size)) := fun b hb e => by have := Hgb.out b hb; have := this.2; omega
            have Hne2 : Hid (∀ b, (Value.slice ga gn gc).ownBlock = some b → ¬ (Btw c0 d1 b ∨ Btw c3 d5 b)) := fun b hb e => by
              have h9 := Hgb.out b hb
              have := h9.1
              have := h9.2
              rcases e with e | e
              · have := e.2; omega
              · have := e.1; omega
            have Hm2 : Hid (u2.heap.size ≤ u3.heap.size) := by rw [Hid]; omega
            go_upto_region 12 with fail
            go_upto_region 13 with (first | (refine wpList_load_mid rfl 59 _ rfl (w.heap.size + 1 + 1 + 1) 0 rfl [.string v.1, .int .i64 v.2.1, .string v.2.2.1, .slice q1 q2 q3, .string ⟨#[]⟩] _ HRV.out Try.underlying59 rfl hiV ?_) | (at_builtin; refine wpl_w8 HWb.out ?_; go_must (refine row_appendP RVolume.firm (A := (fun b => Btw c2 d2 b ∨ b < w.heap.size)) (w0 := u2) rfl _ _ 41 59 rfl _ 80 infoV10 Try.underlying41 rfl (by decide) (by decide) (.slice ga gn gc) (sVs x) rfl HRw.out (some ⟨wr.heap.size, 0, none⟩) 1 1 [vN] rfl HSr.out HOb.out ?_); intro v7 u7 hr7 hg7 hw7; obtain ⟨a7, n7, c7, rfl⟩ := row_hd10 RVolume.firm hr7 HLb.out; have qz := HG.out.kept (Kept.grown hg7 Hne.out) rfl; have qz2 := qz.2 2 _ rfl; have f7 := qz2.2; have t7 := qz2.1; have hlt7 : u3.heap.size < u7.heap.size := qz.1) | fail)
            obtain ⟨Z, hZ⟩ : ∃ Z, Z = u7.setCell ⟨u3.heap.size, 2, none⟩ (.slice a7 n7 c7) := ⟨_, rfl⟩
            rw [← hZ]
            have bZ : Below u2.heap.size u2 Z := by rw [hZ]; exact hr7.below.setCell (show u2.heap.size ≤ u3.heap.size from Hm2.out) _
            have qZ : BoxL Z u3.heap.size [g0, g1, .slice a7 n7 c7, g3, g4, g5] := by rw [hZ]; exact qz.set 2 (.slice a7 n7 c7) (by simp)
            have hrZ : Row RVolume 5 (fun b => Btw c2 d2 b ∨ b < w.heap.size) u2 Z 59 (.slice a7 n7 c7) (sVs x ++ [vN]) := Row.kept10 RVolume.firm hr7 bZ (by
              rw [hZ]
              refine Kept.set (p := ⟨u3.heap.size, 2, none⟩) (fun hq => ?_) _
              have hq' : (Btw c2 d2 u3.heap.size ∨ u3.heap.size < w.heap.size) ∨ (Value.slice a7 n7 c7).ownBlock = some u3.heap.size := hq
              have := Hho.out
              rcases hq' with (hq' | hq') | hq'
              · have := hq'.2; omega
              · omega
              · rcases hw7 with h7 | h7
                · exact Hne.out _ (h7.symm.trans hq') rfl
                · rw [h7] at hq'; injection hq' with hq'; omega)
            obtain ⟨_, _, _, e7, sZ⟩ := hrZ.sl10 (bytes := 72) RVolume.firm HLb.out
            cases e7
            have kZ : Kept (fun b => Btw c0 d1 b ∨ Btw c3 d5 b) Wb Z := (Kept.grown hg7 Hne2.out).trans (by
              rw [hZ]
              refine Kept.set (p := ⟨u3.heap.size, 2, none⟩) (fun hq => ?_) _
              have hq' : Btw c0 d1 u3.heap.size ∨ Btw c3 d5 u3.heap.size := hq
              rcases hq' with hq' | hq'
              · have := hq'.2; omega
              · have := hq'.2; omega)
            obtain ⟨ga3, gn3, gm3, ga4, gn4, gm4, eg3, eg4, t3, t4⟩ := more_lists HS0.out kZ HRs.out
            subst eg3
            subst eg4
            have bXZ : Below X.heap.size X Z := on2 HD2.out bZ
            have HZ : Hid (∀ u, Below Z.heap.size Z u → BoxL u u3.heap.size [g0, g1, .slice a7 n7 c7, .slice ga3 gn3 gm3, .slice ga4 gn4 gm4, g5] ∧ (SlAt RClaim 4 56 (fun _ => True) u ga3 gn3 gm3 (sCs x) ∧ SlAt RClass 2 24 (fun _ => True) u ga4 gn4 gm4 (sKs x) ∧ SlAt RVolume 5 72 (fun _ => True) u a7 n7 c7 (sVs x ++ [vN])) ∧ Below X.heap.size X u) := fun u hb => ⟨qZ.on hb, ⟨t3.on RClaim.firm hb, t4.on RClass.firm hb, sZ.on RVolume.firm hb⟩, on2 bXZ hb⟩
            have hcn : (pClm p).Nodup := by
              have h1 := hkc.out
              cases hpc : pClm p with
              | nil => exact List.nodup_nil
              | cons a r =>
                rw [hpc, List.length_cons] at h1
                have : r = [] := List.eq_nil_of_length_eq_zero (by omega)
                rw [this]; exact List.pairwise_singleton _ _
            have hvn : (vNs (sVs x ++ [vN])).Nodup := by
              rw [show vNs (sVs x ++ [vN]) = vNs (sVs x) ++ [vN.1] from List.map_append, List.nodup_append]
              refine ⟨hon.2.2.1, List.pairwise_singleton _ _, fun a ha b hb e => ?_⟩
              obtain rfl : b = vN.1 := by simpa using hb
              obtain ⟨y, hy, rfl⟩ := List.mem_map.1 ha
              obtain ⟨q, q1, rfl⟩ := mem_getD10 hy
              refine hnq.out q (by rw [hn2.out] at q1; omega) ?_
              rw [e, hvN]
            have Hnd : Hid (((vNs (sVs x)).Nodup ∧ (pClm p).Nodup) ∧ (vNs (sVs x ++ [vN])).Nodup ∧ (sVs x ++ [vN]).length * 80 ≤ 140737488355328) := ⟨⟨hon.2.2.1, hcn⟩, hvn, by have h1 := hb2.out; rw [List.length_append, List.length_singleton, hn2.out]; omega⟩
            have hgN : (Try.prog.info? 46).map (·.size) = some ([g0, g1, .slice a7 n7 c7, .slice ga3 gn3 gm3, .slice ga4 gn4 gm4, g5] : List Value).length := by kernel_rfl
            clear hvn hcn t3 t4 qz qz2 f7 t7 hlt7 hr7 hg7 hw7 hrZ sZ kZ qZ bZ HRw HSr HOb HLb HG HWb HS0 Hho HRs Hgb Hne Hne2 Hm2 HRV hiV y2 t2 ho hf h2w hd5 hZ
            obtain ⟨⟨r1, _, r3⟩, qS, _, hp', hi', hs', _, _, _⟩ := HU.out Z bXZ
            have HC := pPlan_calls ps p is i _ x Z hp' hi' hs' Hnd.out.1
            have HR1 : Hid (Z.rangeAt w.heap.size 0 ps) := r1
            have HR2 : Hid (Z.rangeAt (w.heap.size + 1) 0 is) := r3
            have HR3 : Hid (Z.rangeAt (w.heap.size + 1 + 1) 0 [.slice a0 n0 m0, .slice a1 n1 m1, .slice a2 n2 m2, .slice a3 n3 m3, .slice a4 n4 m4, .slice a5 n5 m5]) := qS.range
            clear r1 r3 qS hp' hi' hs' bXZ
            go_wp2_with (first | (refine wpList_load_mid rfl 33 _ rfl w.heap.size 0 rfl ps _ HR1.out Try.underlying33 rfl hi16 ?_) | (refine wpList_load_mid rfl 38 _ rfl (w.heap.size + 1) 0 rfl is _ HR2.out Try.underlying38 rfl hi15 ?_) | (refine wpList_load_mid rfl 46 _ rfl (w.heap.size + 1 + 1) 0 rfl [.slice a0 n0 m0, .slice a1 n1 m1, .slice a2 n2 m2, .slice a3 n3 m3, .slice a4 n4 m4, .slice a5 n5 m5] _ HR3.out Try.underlying46 rfl hi6 ?_) | fail)
            refine HC.mono ?_
            rintro e u8 ⟨pa, pn, pc, rfl, _, bu8⟩
            clear HC HR1 HR2 HR3
            obtain ⟨qg8, hs8, bX8⟩ := HZ.out u8 bu8
            obtain ⟨⟨r1, _, r3⟩, _, _, hp', hi', _, _, _, bw8⟩ := HU.out u8 bX8
            have HC : Calls Try.prog 8 #[.agg ps.toArray, .agg is.toArray, .agg #[g0, g1, .slice a7 n7 c7, .slice ga3 gn3 gm3, .slice ga4 gn4 gm4, g5]] u8 (PPl u8 (planD p i (moreD x vN))) := plan0_calls ps p is i g0 g1 g5 ga3 gn3 gm3 a7 n7 c7 ga4 gn4 gm4 (sCs x) (sVs x ++ [vN]) (sKs x) u8 hp' hi' hs8.1 hs8.2.2 hs8.2.1 Hnd.out.2.2 Hnd.out.2.1 Hnd.out.1.2
            have HR1 : Hid (u8.rangeAt w.heap.size 0 ps) := r1
            have HR2 : Hid (u8.rangeAt (w.heap.size + 1) 0 is) := r3
            have HR3 : Hid (u8.rangeAt u3.heap.size 0 [g0, g1, .slice a7 n7 c7, .slice ga3 gn3 gm3, .slice ga4 gn4 gm4, g5]) := qg8.range
            have HB8 : Hid (Below w.heap.size w u8) := bw8
            have HM : Hid ((planD p i x).2 = 0 → (planD p i (moreD x vN)).2 = 0) := fun h0 => more_plain vN (by rw [hkc.out]; exact hk2) h0
            clear r1 r3 qg8 hp' hi' hs8 bX8 bu8 bw8
            generalize planD p i x = ra at HM
            generalize planD p i (moreD x vN) = rb at HM HC
            obtain ⟨la, za⟩ := ra
            obtain ⟨lb, zb⟩ := rb
            go_wp2_with (first | (refine wpList_load_mid rfl 33 _ rfl w.heap.size 0 rfl ps _ HR1.out Try.underlying33 rfl hi16 ?_) | (refine wpList_load_mid rfl 38 _ rfl (w.heap.size + 1) 0 rfl is _ HR2.out Try.underlying38 rfl hi15 ?_) | (refine wpList_load_mid rfl 46 _ rfl u3.heap.size 0 rfl [g0, g1, .slice a7 n7 c7, .slice ga3 gn3 gm3, .slice ga4 gn4 gm4, g5] _ HR3.out Try.underlying46 rfl hgN ?_) | fail)
            refine HC.mono ?_
            rintro e u9 ⟨pa2, pn2, pc2, rfl, _, bu9⟩
            have HFin : Hid (Below w.heap.size w u9) := on2 HB8.out bu9
            clear HC HR1 HR2 HR3 HB8 bu9
            have HM' : za = 0 → zb = 0 := HM.out
            clear HM
            by_cases hz : za = 0
            · obtain rfl := hz
              obtain rfl := HM' rfl
              clear HM'
              go_wp2_with fail
              go_ret
              exact ⟨rfl, HFin.out⟩
            · clear HM'
              have hz1 : (za == 0) = false := by simpa using hz
              have hz2 : decide (za = 0) = false := by simpa using hz
              go_wp2_with fail
              go_ret
              exact ⟨rfl, HFin.out⟩
end Go.Proofs.Ytgofpmcoffgffaa
