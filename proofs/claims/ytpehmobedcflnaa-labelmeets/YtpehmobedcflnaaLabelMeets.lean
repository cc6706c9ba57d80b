/- The law LabelMeets holds of the program: what is asked of any labels is met just as the document says; the chapter's example comes out. For every input; no condition. -/
import Derived.Test.YtpehmobedcflnaaLOpen
import Derived.Test.YtpehmobedcflnaaLSameReqs
namespace Go.Proofs.Ytpehmobedcflnaa.labelMeets
open Go.ChangeShapes Go.WideShapes Go.ChangeAt Go.RowKit
set_option linter.unusedSimpArgs false

/-- One of those that are asked, in the copy and where it lay. -/
def MeS (w : World) (B1 o1 B2 o2 k : Nat) (key : ByteArray) (op : Int) (v1 v2 : Value) (u : World) : Prop :=
  Below w.heap.size w u ∧ u.cell? ⟨B1, o1 + k * 3, none⟩ = some (.string key) ∧ u.cell? ⟨B1, o1 + k * 3 + 1, none⟩ = some (.int .i64 op) ∧ u.cell? ⟨B1, o1 + k * 3 + 2, none⟩ = some v1 ∧ u.cell? ⟨B2, o2 + k * 3, none⟩ = some (.string key) ∧ u.cell? ⟨B2, o2 + k * 3 + 1, none⟩ = some (.int .i64 op) ∧ u.cell? ⟨B2, o2 + k * 3 + 2, none⟩ = some v2
theorem MeS.on {w u u' : World} {B1 o1 B2 o2 k : Nat} {key : ByteArray} {op : Int} {v1 v2 : Value} (h : MeS w B1 o1 B2 o2 k key op v1 v2 u) (h1 : B1 < w.heap.size) (h2 : B2 < w.heap.size) (hb : Below u.heap.size u u') : MeS w B1 o1 B2 o2 k key op v1 v2 u' := by
  obtain ⟨a0, a1, a2, a3, a4, a5, a6⟩ := h
  have l1 : B1 < u.heap.size := Nat.lt_of_lt_of_le h1 a0.size
  have l2 : B2 < u.heap.size := Nat.lt_of_lt_of_le h2 a0.size
  exact ⟨on2 a0 hb, (hb.cell l1).trans a1, (hb.cell l1).trans a2, (hb.cell l1).trans a3, (hb.cell l2).trans a4, (hb.cell l2).trans a5, (hb.cell l2).trans a6⟩
theorem MeS.drew {w u : World} {B1 o1 B2 o2 k : Nat} {key : ByteArray} {op : Int} {v1 v2 : Value} (h : MeS w B1 o1 B2 o2 k key op v1 v2 u) : MeS w B1 o1 B2 o2 k key op v1 v2 u.drew := ⟨h.1.drew, h.2⟩

set_option maxHeartbeats 4000000 in
theorem walk (a : Option Addr) (cap : Nat) (L : List Lab) (b : Option Addr) (capb : Nat) (R : List Ask) (c : Option Addr) (capc : Nat) (M : List Lab) (key : ByteArray) (w : World) (hL : Hid (LabsAt w a L)) (hLb : L.length * 32 ≤ 140737488351232) (hR : Hid (AsksAt w b R)) (hRb : R.length * 48 ≤ 140737488351232) (hRv : Hid (∀ r ∈ R, r.vals.length * 16 ≤ 140737488351232)) (hM : Hid (LabsAt w c M)) (_ : M.length * 32 ≤ 140737488351232) (_ : key.size ≤ 140737488355328) :
    Calls Try.prog 4 #[.slice a L.length cap, .slice b R.length capb, .slice c M.length capc, .string key] w fun e w' => e = .returned (.bool true) ∧ Below w.heap.size w w' := by
  have hL' : Hid (∀ {u : World}, Below w.heap.size w u → LabsAt u a L) := fun h => hL.out.on h
  have hM' : Hid (∀ {u : World}, Below w.heap.size w u → LabsAt u c M) := fun h => hM.out.on h
  have hR' : Hid (∀ {u : World}, Below w.heap.size w u → AsksAt u b R) := fun h => hR.out.on h
  have hv' : Hid (∀ r ∈ R, r.vals.length * 16 ≤ 140737488355328) := fun r hr => by have := hRv.out r hr; omega
  have hLl := hL.out.1
  have hRl := hR.out.1
  have hLs : Hid (∀ x ∈ L, x.1.size ≤ 140737488355328 ∧ x.2.size ≤ 140737488355328) := hL.out.2.1
  have hRs : Hid (∀ r ∈ R, r.key.size ≤ 140737488355328) := hR.out.2.1
  clear hL hR hRv hM
  go_enter Try.func4, Try.ntmps4
  go_wp2_with fail
  refine (Labels_calls a cap L w (hL'.out (Below.refl _ _)) (by omega)).mono ?_
  rintro e w1 ⟨v1, rfl, hO1⟩
  obtain ⟨a1, c1, rfl, hA1⟩ := labs_of_owns hO1.2 hLl hLs.out
  have hb1 := hO1.1
  clear hO1
  go_wp2_with fail
  refine (Reqs_calls b capb R w1 (hR'.out hb1) (by omega) hv').mono ?_
  rintro e u0 ⟨v2, xs, rfl, hO2, hC2⟩
  obtain ⟨b2, c2, rfl, hA2⟩ := asks_of_owns hO2 hC2 hRl hRs.out
  have hb2 := on2 hb1 hO2.1
  have hA1' : Hid (∀ {u : World}, Below u0.heap.size u0 u → LabsAt u (a1) L) := fun h => (hA1.on hO2.1).on h
  have hA2' : Hid (∀ {u : World}, Below u0.heap.size u0 u → AsksAt u (b2) R) := fun h => hA2.on h
  have hAt := hA2
  clear hO2 hC2 hA1 hA2 hb1
  have k1 := Get_calls a1 c1 L key _ (hA1'.out (Below.refl _ _))
  have k2 := fun u h => rGet_calls a cap L key u h
  have k3 := fun u h h' => Match_calls a1 c1 L b2 c2 R u h h'
  have k4 := fun u h h' => rMatch_calls a cap L b capb R u h h'
  have k5 := fun u h h' => Same_calls a1 c1 L c capc M key u h h'
  have k6 := fun u h h' => rSame_calls a cap L c capc M key u h h'
  generalize getL L key = g at k1 k2
  generalize matchL L R = m at k3 k4
  generalize sameL L M key = z at k5 k6
  obtain ⟨g1, g2⟩ := g
  have hg : (!(g1.toList == g1.toList)) = false := by simp
  have hg2 : (g2 != g2) = false := by simp
  have hm : (m != m) = false := by simp
  have hz : (z != z) = false := by simp
  go_wp2_with fail
  refine k1.mono ?_
  rintro e w3 ⟨rfl, hb3⟩
  clear k1
  go_wp2_with fail
  refine (k2 _ (hL'.out (on2 hb2 hb3))).mono ?_
  rintro e w4 ⟨rfl, rfl⟩
  clear k2
  go_wp2_with fail
  refine (k3 _ (hA1'.out hb3) (hA2'.out hb3)).mono ?_
  rintro e w5 ⟨rfl, hb5⟩
  have hs5 := on2 hb3 hb5
  clear hb3 hb5 k3
  go_wp2_with fail
  refine (k4 _ (hL'.out (on2 hb2 hs5)) (hR'.out (on2 hb2 hs5))).mono ?_
  rintro e w6 ⟨rfl, hb6⟩
  have hs6 := on2 hs5 hb6
  clear hs5 hb6 k4
  go_wp2_with fail
  refine (k5 _ (hA1'.out hs6) (hM'.out (on2 hb2 hs6))).mono ?_
  rintro e w7 ⟨rfl, hb7⟩
  have hs7 := on2 hs6 hb7
  clear hs6 hb7 k5
  go_wp2_with fail
  refine (k6 _ (hL'.out (on2 hb2 hs7)) (hM'.out (on2 hb2 hs7))).mono ?_
  rintro e w8 ⟨rfl, rfl⟩
  clear k6
  go_wp2_with fail
  go_loopw [15] (fun i wr => ∃ k : Nat, k ≤ R.length ∧ i = .int .i64 k ∧ Below u0.heap.size u0 wr) (fun i _ => R.length - (intOf i).toNat)
  case atStart => exact ⟨0, Nat.zero_le _, rfl, hs7⟩
  case round =>
    clear hg hg2 hm hz
    obtain ⟨k, hk, rfl, hbel⟩ := hrel
    by_cases hlt : k < R.length
    · obtain ⟨B1, o1, rfl, hB1, x0, x1, ⟨p1, q1, x2, hv1⟩, _⟩ := hAt.get hlt
      obtain ⟨B2, o2, rfl, hB2, y0, y1, ⟨p2, q2, y2, hv2⟩, _⟩ := (hR'.out hb2).get hlt
      have HM1 : Hid (∀ u, Below u0.heap.size u0 u → Calls Try.prog 26 #[.slice a1 L.length c1, .agg #[.string (R.getD k default).key, .int .i64 (R.getD k default).op, .slice p1 (R.getD k default).vals.length q1]] u fun e w' => e = .returned (.bool (meetsL L (R.getD k default))) ∧ Below u.heap.size u w') :=
        fun u hu => Meets_calls a1 c1 L _ _ p1 q1 _ u (hA1'.out hu) (hv1.on hu)
      have HM2 : Hid (∀ u, Below u0.heap.size u0 u → Calls Try.prog 27 #[.slice a L.length cap, .agg #[.string (R.getD k default).key, .int .i64 (R.getD k default).op, .slice p2 (R.getD k default).vals.length q2]] u fun e w' => e = .returned (.bool (meetsL L (R.getD k default))) ∧ Below u.heap.size u w') :=
        fun u hu => rMeets_calls a cap L _ _ p2 q2 _ u (hL'.out (on2 hb2 hu)) (hv2.on hu)
      have hS : MeS u0 B1 o1 B2 o2 k (R.getD k default).key (R.getD k default).op (.slice p1 (R.getD k default).vals.length q1) (.slice p2 (R.getD k default).vals.length q2) wr :=
        ⟨hbel, (hbel.cell hB1).trans x0, (hbel.cell hB1).trans x1, (hbel.cell hB1).trans x2, (hbel.cell hB2).trans y0, (hbel.cell hB2).trans y1, (hbel.cell hB2).trans y2⟩
      generalize R.getD k default = r at HM1 HM2 hS
      generalize meetsL L r = t at HM1 HM2
      have ht : (t != t) = false := by simp
      clear x0 x1 x2 y0 y1 y2 hv1 hv2 hAt
      go_wp2_with fail
      refine wp_region_noPanic ?_
      refine wp_region_held_drew (S := MeS u0 B1 o1 B2 o2 k r.key r.op (.slice p1 r.vals.length q1) (.slice p2 r.vals.length q2)) (by kernel_rfl) (hS.drew) (fun hHeld => ?_)
      refine wpAnyH_take (i := 0) (v := ?vq0) rfl (by kernel_rfl) (by kernel_rfl) (by kernel_rfl) (fun _ _ _ h => h) (Or.inl ⟨by rfl, ?hyq0⟩) (by assumption) ?restq0
      case hyq0 => (intro u hu; obtain ⟨_, _, _, _, _, _, _⟩ := hu; go_simp; try with_reducible rfl)
      try simp only [Act.put, List.setIfInBounds_toArray, List.set_cons_zero, List.set_cons_succ, List.getElem_toArray, List.getElem_cons_zero, List.getElem_cons_succ]
      refine wpAnyH_take (i := 1) (v := ?vq1) rfl (by kernel_rfl) (by kernel_rfl) (by kernel_rfl) (fun _ _ _ h => h) (Or.inl ⟨by rfl, ?hyq1⟩) (by assumption) ?restq1
      case hyq1 => (intro u hu; obtain ⟨_, _, _, _, _, _, _⟩ := hu; go_simp; try with_reducible rfl)
      try simp only [Act.put, List.setIfInBounds_toArray, List.set_cons_zero, List.set_cons_succ, List.getElem_toArray, List.getElem_cons_zero, List.getElem_cons_succ]
      refine wpAnyH_take (i := 2) (v := ?vq2) rfl (by kernel_rfl) (by kernel_rfl) (by kernel_rfl) (fun _ _ _ h => h) (Or.inl ⟨by rfl, ?hyq2⟩) (by assumption) ?restq2
      case hyq2 => (intro u hu; obtain ⟨_, _, _, _, _, _, _⟩ := hu; go_simp; try with_reducible rfl)
      try simp only [Act.put, List.setIfInBounds_toArray, List.set_cons_zero, List.set_cons_succ, List.getElem_toArray, List.getElem_cons_zero, List.getElem_cons_succ]
      refine wpAnyH_take (i := 3) (v := ?vq3) rfl (by kernel_rfl) (by kernel_rfl) (by kernel_rfl) (fun _ _ _ h => h) (Or.inl ⟨by rfl, ?hyq3⟩) (by assumption) ?restq3
      case hyq3 => (intro u hu; obtain ⟨_, _, _, _, _, _, _⟩ := hu; go_simp; try with_reducible rfl)
      try simp only [Act.put, List.setIfInBounds_toArray, List.set_cons_zero, List.set_cons_succ, List.getElem_toArray, List.getElem_cons_zero, List.getElem_cons_succ]
      refine wpAnyH_take (i := 4) (v := ?vq4) rfl (by kernel_rfl) (by kernel_rfl) (by kernel_rfl) (fun _ _ _ h => h) (Or.inl ⟨by rfl, ?hyq4⟩) (by assumption) ?restq4
      case hyq4 => (intro u hu; obtain ⟨_, _, _, _, _, _, _⟩ := hu; go_simp; try with_reducible rfl)
      try simp only [Act.put, List.setIfInBounds_toArray, List.set_cons_zero, List.set_cons_succ, List.getElem_toArray, List.getElem_cons_zero, List.getElem_cons_succ]
      refine wpAnyH_take (i := 6) (v := ?vq6) rfl (by kernel_rfl) (by kernel_rfl) (by kernel_rfl) (fun _ _ _ h => h) (Or.inl ⟨by rfl, ?hyq6⟩) (by assumption) ?restq6
      case hyq6 => (intro u hu; obtain ⟨_, _, _, _, _, _, _⟩ := hu; go_simp; try with_reducible rfl)
      try simp only [Act.put, List.setIfInBounds_toArray, List.set_cons_zero, List.set_cons_succ, List.getElem_toArray, List.getElem_cons_zero, List.getElem_cons_succ]
      refine wpAnyH_take (i := 7) (v := ?vq7) rfl (by kernel_rfl) (by kernel_rfl) (by kernel_rfl) (fun _ _ _ h => h) (Or.inl ⟨by rfl, ?hyq7⟩) (by assumption) ?restq7
      case hyq7 => (intro u hu; obtain ⟨_, _, _, _, _, _, _⟩ := hu; go_simp; try with_reducible rfl)
      try simp only [Act.put, List.setIfInBounds_toArray, List.set_cons_zero, List.set_cons_succ, List.getElem_toArray, List.getElem_cons_zero, List.getElem_cons_succ]
      refine wpAnyH_take (i := 8) (v := ?vq8) rfl (by kernel_rfl) (by kernel_rfl) (by kernel_rfl) (fun _ _ _ h => h) (Or.inl ⟨by rfl, ?hyq8⟩) (by assumption) ?restq8
      case hyq8 => (intro u hu; obtain ⟨_, _, _, _, _, _, _⟩ := hu; go_simp; try with_reducible rfl)
      try simp only [Act.put, List.setIfInBounds_toArray, List.set_cons_zero, List.set_cons_succ, List.getElem_toArray, List.getElem_cons_zero, List.getElem_cons_succ]
      refine wpAnyH_take (i := 9) (v := ?vq9) rfl (by kernel_rfl) (by kernel_rfl) (by kernel_rfl) (fun _ _ _ h => h) (Or.inl ⟨by rfl, ?hyq9⟩) (by assumption) ?restq9
      case hyq9 => (intro u hu; obtain ⟨_, _, _, _, _, _, _⟩ := hu; go_simp; try with_reducible rfl)
      try simp only [Act.put, List.setIfInBounds_toArray, List.set_cons_zero, List.set_cons_succ, List.getElem_toArray, List.getElem_cons_zero, List.getElem_cons_succ]
      refine wpAnyH_take (i := 10) (v := ?vq10) rfl (by kernel_rfl) (by kernel_rfl) (by kernel_rfl) (fun _ _ _ h => h) (Or.inl ⟨by rfl, ?hyq10⟩) (by assumption) ?restq10
      case hyq10 => (intro u hu; obtain ⟨_, _, _, _, _, _, _⟩ := hu; go_simp; try with_reducible rfl)
      try simp only [Act.put, List.setIfInBounds_toArray, List.set_cons_zero, List.set_cons_succ, List.getElem_toArray, List.getElem_cons_zero, List.getElem_cons_succ]
      refine wpAnyH_ready (rs := [5]) (by kernel_rfl) (by simp) ?_
      refine AllReadyH.cons rfl (fun K hK => ?_) AllReadyH.nil
      go_simp
      refine (HM1.out _ hHeld.1).mono ?_
      rintro e w5 ⟨rfl, hb5⟩
      go_wp2_with fail
      refine hK.out _ _ (hHeld.on hB1 hB2 hb5) (fun hHeld2 => ?_)
      clear hK K hHeld
      have hHeld := hHeld2
      clear hHeld2
      try simp only [Act.put, List.setIfInBounds_toArray, List.set_cons_zero, List.set_cons_succ, List.getElem_toArray, List.getElem_cons_zero, List.getElem_cons_succ]
      refine wpAnyH_ready (rs := [11]) (by kernel_rfl) (by simp) ?_
      refine AllReadyH.cons rfl (fun K hK => ?_) AllReadyH.nil
      go_simp
      refine (HM2.out _ hHeld.1).mono ?_
      rintro e w6 ⟨rfl, hb5⟩
      go_wp2_with fail
      refine hK.out _ _ (hHeld.on hB1 hB2 hb5) (fun hHeld2 => ?_)
      clear hK K hHeld
      have hHeld := hHeld2
      clear hHeld2
      try simp only [Act.put, List.setIfInBounds_toArray, List.set_cons_zero, List.set_cons_succ, List.getElem_toArray, List.getElem_cons_zero, List.getElem_cons_succ]
      refine wpAnyH_take (i := 12) (v := ?vq12) rfl (by kernel_rfl) (by kernel_rfl) (by kernel_rfl) (fun _ _ _ h => h) (Or.inl ⟨by rfl, ?hyq12⟩) (by assumption) ?restq12
      case hyq12 => (intro u hu; obtain ⟨_, _, _, _, _, _, _⟩ := hu; go_simp; try with_reducible rfl)
      try simp only [Act.put, List.setIfInBounds_toArray, List.set_cons_zero, List.set_cons_succ, List.getElem_toArray, List.getElem_cons_zero, List.getElem_cons_succ]
      refine wpAnyH_done (by kernel_rfl) ?_ _
      refine NoPanic.normal ?_
      go_wp2_with fail
      go_roundw
      case rel => exact ⟨k + 1, by omega, by go_num, hHeld.1⟩
      case measure => simp [intOf]; omega
    · go_wp2_with fail
      refine (SameLabels_calls a1 c1 a cap L _ (hA1'.out hbel) (hL'.out (on2 hb2 hbel))).mono ?_
      rintro e w9 ⟨rfl, n9, rfl⟩
      have hs9 := below_drewN hbel n9
      go_wp2_with fail
      refine (SameReqs_calls b2 c2 b capb R _ (hA2'.out hs9) (hR'.out (on2 hb2 hs9))).mono ?_
      rintro e w10 ⟨rfl, n10, rfl⟩
      have hs10 := below_drewN hbel (n9 + n10)
      go_wp2_with fail
      refine (works_calls _).mono ?_
      rintro e w11 ⟨rfl, hb11⟩
      have hs11 := on2 hb2 (on2 hs10 hb11)
      clear hb11 hs10 hs9
      go_wp2_with fail
      go_ret
      exact ⟨rfl, hs11⟩

theorem reads (os : Os) {H : Type} (enc : TypeId × Value → H) : ∃ places, DataW.whole enc Try.prog ((World.holding Try.prog os ⟨#[], #[], []⟩).forCall (fun _ _ => 0) ⟨#[], #[.slice none 0 0, .slice none 0 0, .slice none 0 0, .string ByteArray.empty], []⟩).memory Try.f4.params.toList Rows.labelMeetsSpec.vars false #[(.slice none 0 0 : Value), (.slice none 0 0 : Value), (.slice none 0 0 : Value), (.string ByteArray.empty : Value)].toList 8 = some ([.nil, .nil, .nil, .lit (.string [])], [], places) :=
  ⟨[], by kernel_rfl⟩

theorem params_ok : ∀ t ∈ Try.f4.params.toList, Try.prog.readableRec t = true ∧ t < Try.prog.types.size := by
  rw [Try.params4]
  have hall : ([22, 23, 22, 9].all fun u => Try.prog.readableRec u && decide (u < Try.prog.types.size)) = true := by kernel_rfl
  intro t ht
  simpa using List.all_eq_true.1 hall t (by simpa using ht)

theorem contract (H : Type) (enc : TypeId × Value → H) (W : World) (base : Nat) (args : Array Value) (ds gs : List (DataW H)) (before : List MemPlace)
    (hval : ∀ (j : Nat) t v, Try.f4.params[j]? = some t → args[j]? = some v → Value.okWide Try.prog W .any base t v)
    (hW : DataW.Whole enc Try.prog Try.f4.params.toList Rows.labelMeetsSpec.vars false W args.toList ds gs before) (hsz : (DataW.weightsEach Try.prog (Try.f4.params.toList ++ Rows.labelMeetsSpec.plain.varTypes Try.prog) (ds ++ gs)).all (· ≤ reachBytes) = true) :
    Calls Try.prog 4 args W fun e W' => ∃ v, e = .returned v ∧ Rows.labelMeetsSpec.post enc Try.prog Try.f4 false true false false W args v W' := by
  have hW' := hW
  obtain ⟨p, q, hA0, hV, rfl, hfz, hnd⟩ := hW
  have hA : DataW.TrodAll enc Try.prog W 0 (fun _ => true) true Try.f4.params.toList args.toList ds p := hA0
  rw [Try.params4] at hA hval
  obtain ⟨v0, vs0, d0, ds0, p0, q0, hargs, rfl, rfl, h0, r0⟩ := trodAll_cons hA
  obtain ⟨v1, vs1, d1, ds1, p1, q1, rfl, rfl, rfl, h1, r1⟩ := trodAll_cons r0
  obtain ⟨v2, vs2, d2, ds2, p2, q2, rfl, rfl, rfl, h2, r2⟩ := trodAll_cons r1
  obtain ⟨v3, vs3, d3, ds3, p3, q3, rfl, rfl, rfl, h3, r3⟩ := trodAll_cons r2
  obtain ⟨rfl, rfl, rfl⟩ := trodAll_nil r3
  obtain rfl : args = #[v0, v1, v2, v3] := by cases args; simp_all
  obtain ⟨rfl, rfl⟩ := trodVars_none hV
  have l0 := light_arg hsz (j := 0) (t := 22) (by rw [Try.params4]; rfl) rfl
  obtain ⟨x0, y0, z0, e0⟩ := okWide_slice Try.underlying22 (hval 0 22 v0 rfl rfl)
  subst e0
  obtain ⟨fu0, hf0⟩ := h0
  obtain ⟨a0, L0, c0, e0, at0, b0⟩ := open_labs (v := .slice x0 y0 z0) hf0 l0
  obtain ⟨rfl, rfl, rfl⟩ : x0 = a0 ∧ y0 = L0.length ∧ z0 = c0 := by simpa using e0
  have l1 := light_arg hsz (j := 1) (t := 23) (by rw [Try.params4]; rfl) rfl
  obtain ⟨x1, y1, z1, e1⟩ := okWide_slice Try.underlying23 (hval 1 23 v1 rfl rfl)
  subst e1
  obtain ⟨fu1, hf1⟩ := h1
  obtain ⟨a1, L1, c1, e1, at1, b1, g1⟩ := open_asks (v := .slice x1 y1 z1) hf1 l1
  obtain ⟨rfl, rfl, rfl⟩ : x1 = a1 ∧ y1 = L1.length ∧ z1 = c1 := by simpa using e1
  have l2 := light_arg hsz (j := 2) (t := 22) (by rw [Try.params4]; rfl) rfl
  obtain ⟨x2, y2, z2, e2⟩ := okWide_slice Try.underlying22 (hval 2 22 v2 rfl rfl)
  subst e2
  obtain ⟨fu2, hf2⟩ := h2
  obtain ⟨a2, L2, c2, e2, at2, b2⟩ := open_labs (v := .slice x2 y2 z2) hf2 l2
  obtain ⟨rfl, rfl, rfl⟩ : x2 = a2 ∧ y2 = L2.length ∧ z2 = c2 := by simpa using e2
  have l3 := light_arg hsz (j := 3) (t := 9) (by rw [Try.params4]; rfl) rfl
  obtain ⟨s3, rfl, rfl, rfl, w3⟩ := Go.ChangeMaps.open_string Try.underlying9 (hval 3 9 v3 rfl rfl) h3
  have z3 : s3.size ≤ 140737488355328 := by have := l3 s3.data.toList.length (by simp [DataW.weights]); simp at this; omega
  refine (walk x0 z0 L0 x1 z1 L1 x2 z2 L2 s3 W at0 b0 at1 b1 g1 at2 b2 z3).mono fun e W' ⟨he, hb⟩ => ?_
  subst he
  exact ⟨_, rfl, law_post laidOut params_ok rfl (tb := 4) (by kernel_rfl) Try.underlying4 rfl hW' hb⟩

set_option maxRecDepth 100000 in
theorem lifted (os : Os) (started : os.Started) (H : Type) (enc : TypeId × Value → H) (F : Stop.Interp) :
    ReturnsInHanded {} Try.checked os 4 .any ((OpenSpec.ofChange Rows.labelMeetsSpec).preRow enc Try.prog Try.f4 Rows.labelMeetsRow.domain false Rows.labelMeetsRow.laid) (((OpenSpec.ofChange Rows.labelMeetsSpec).at F).post enc Try.prog Try.f4 false true false false) := by
  obtain ⟨places, hx⟩ := reads os enc
  refine returnsInHanded_of_row (C := Try.checked) (s := (OpenSpec.ofChange Rows.labelMeetsSpec)) own started (by kernel_rfl) Try.func4
    (witness_row_at (enc := enc) (C := Try.checked) false (World.holding Try.prog os ⟨#[], #[], []⟩) #[.slice none 0 0, .slice none 0 0, .slice none 0 0, .string ByteArray.empty] rfl (by kernel_rfl) (by kernel_rfl) (by kernel_rfl)
      (OpenSpec.preRow_of_cond 8 hx (by kernel_rfl) (fun k hk => by cases hk) (by kernel_rfl) ⟨[], rfl, List.Pairwise.nil, fun _ _ h => by cases h⟩)) ?_
  intro W base args ds gs before hval hW _ _ hsz _ _ _
  exact contract H enc W base args ds gs before hval hW hsz

theorem said : Rows.LabelMeetsSaid :=
  OpenClaim.holds_of_cond 4 Try.f4 rfl rfl rfl rfl rfl rfl rfl ⟨rfl, rfl, rfl, rfl, rfl⟩ rfl rfl rfl rfl rfl (by kernel_rfl) Try.func4 (by kernel_rfl)
    (of_decide_eq_true (by kernel_rfl)) (by unfold Func.isWrapper; first | (rw [if_pos (by decide +kernel)]; kernel_rfl) | (rw [if_neg (by decide +kernel)]; exact ⟨rfl, rfl⟩))
    (fun os started H enc _ F => by rw [OpenClaim.pre_eq_preRow]; exact lifted os started H enc F)
end Go.Proofs.Ytpehmobedcflnaa.labelMeets
namespace Go.Proofs.Ytpehmobedcflnaa
theorem labelMeets_holds : Rows.LabelMeetsSaid := labelMeets.said
end Go.Proofs.Ytpehmobedcflnaa
