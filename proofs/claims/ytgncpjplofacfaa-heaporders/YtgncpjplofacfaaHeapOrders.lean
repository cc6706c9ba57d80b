/- The law HeapOrders holds of the program: of two entries that are not the same just one comes ahead, and it goes on over a third; the chapter's example comes out. For every input; no condition. -/
import Derived.Test.YtgncpjplofacfaaHOrd
import Derived.Test.YtgncpjplofacfaaROpen
import Derived.Test.YtgncpjplofacfaaRows
namespace Go.Proofs.Ytgncpjplofacfaa.heapOrders
open Go.ChangeShapes Go.WideShapes Go.ChangeAt Go.RowKit
set_option linter.unusedSimpArgs false

/-- Three entries lie in boxes, and nothing that was there has turned. -/
def OrS (W : World) (n : Nat) (a b c : It) (u : World) : Prop := Below W.heap.size W u ∧
  u.cell? ⟨n, 0, none⟩ = some (.string a.1) ∧ u.cell? ⟨n, 1, none⟩ = some (.int .i64 a.2.1) ∧ u.cell? ⟨n, 2, none⟩ = some (.int .i64 a.2.2) ∧
  u.cell? ⟨n + 1, 0, none⟩ = some (.string b.1) ∧ u.cell? ⟨n + 1, 1, none⟩ = some (.int .i64 b.2.1) ∧ u.cell? ⟨n + 1, 2, none⟩ = some (.int .i64 b.2.2) ∧
  u.cell? ⟨n + 1 + 1, 0, none⟩ = some (.string c.1) ∧ u.cell? ⟨n + 1 + 1, 1, none⟩ = some (.int .i64 c.2.1) ∧ u.cell? ⟨n + 1 + 1, 2, none⟩ = some (.int .i64 c.2.2)
theorem same_it {a b : It} (h1 : a.1.toList = b.1.toList) (h2 : a.2.1 = b.2.1) (h3 : a.2.2 = b.2.2) : a = b := by
  obtain ⟨ak, ar, ac⟩ := a
  obtain ⟨bk, br, bc⟩ := b
  have h1' : ak.toList = bk.toList := h1
  have e : ak = bk := Classical.byContradiction (fun h => str_ne h h1')
  have e2 : ar = br := h2
  have e3 : ac = bc := h3
  rw [e, e2, e3]
set_option maxHeartbeats 4000000 in
theorem core (a b c : It) (w : World) :
    Calls Try.prog 6 #[vI a, vI b, vI c] w fun e w' => e = .returned (.bool true) ∧ Below w.heap.size w w' := by
  have HS : Hid (∀ {u : World}, Below (((w.alloc (.cells #[.string a.1, .int .i64 a.2.1, .int .i64 a.2.2] 27)).alloc (.cells #[.string b.1, .int .i64 b.2.1, .int .i64 b.2.2] 27)).alloc (.cells #[.string c.1, .int .i64 c.2.1, .int .i64 c.2.2] 27)).heap.size (((w.alloc (.cells #[.string a.1, .int .i64 a.2.1, .int .i64 a.2.2] 27)).alloc (.cells #[.string b.1, .int .i64 b.2.1, .int .i64 b.2.2] 27)).alloc (.cells #[.string c.1, .int .i64 c.2.1, .int .i64 c.2.2] 27)) u → OrS (((w.alloc (.cells #[.string a.1, .int .i64 a.2.1, .int .i64 a.2.2] 27)).alloc (.cells #[.string b.1, .int .i64 b.2.1, .int .i64 b.2.2] 27)).alloc (.cells #[.string c.1, .int .i64 c.2.1, .int .i64 c.2.2] 27)) w.heap.size a b c u) := by
    intro u hu
    refine ⟨hu, ?_, ?_, ?_, ?_, ?_, ?_, ?_, ?_, ?_⟩ <;> (rw [hu.cell (by simp <;> omega)]; simp [go_sem])
  go_enter Try.func6, Try.ntmps6
  go_wp2_with (go_at_call 22; refine (works_calls _).mono ?_; rintro e w1 ⟨rfl, hb1⟩)
  refine wp_region_noPanic ?_
  refine wp_region_held_drew (S := OrS (((w.alloc (.cells #[.string a.1, .int .i64 a.2.1, .int .i64 a.2.2] 27)).alloc (.cells #[.string b.1, .int .i64 b.2.1, .int .i64 b.2.2] 27)).alloc (.cells #[.string c.1, .int .i64 c.2.1, .int .i64 c.2.2] 27)) w.heap.size a b c) (by kernel_rfl) (HS.out hb1.drew) (fun hHeld => ?_)
  refine wpAnyH_take (i := 0) (v := ?v0) rfl (by kernel_rfl) (by kernel_rfl) (by kernel_rfl) (fun _ _ _ h => h) (Or.inl ⟨by rfl, ?hy0⟩) (by assumption) ?rest0
  case hy0 => (intro u hu; obtain ⟨_, _, _, _, _, _, _, _, _, _⟩ := hu; go_simp; try with_reducible rfl)
  try simp only [Act.put, List.setIfInBounds_toArray, List.set_cons_zero, List.set_cons_succ, List.getElem_toArray, List.getElem_cons_zero, List.getElem_cons_succ]
  refine wpAnyH_take (i := 1) (v := ?v1) rfl (by kernel_rfl) (by kernel_rfl) (by kernel_rfl) (fun _ _ _ h => h) (Or.inl ⟨by rfl, ?hy1⟩) (by assumption) ?rest1
  case hy1 => (intro u hu; obtain ⟨_, _, _, _, _, _, _, _, _, _⟩ := hu; go_simp; try with_reducible rfl)
  try simp only [Act.put, List.setIfInBounds_toArray, List.set_cons_zero, List.set_cons_succ, List.getElem_toArray, List.getElem_cons_zero, List.getElem_cons_succ]
  refine wpAnyH_take (i := 3) (v := ?v3) rfl (by kernel_rfl) (by kernel_rfl) (by kernel_rfl) (fun _ _ _ h => h) (Or.inl ⟨by rfl, ?hy3⟩) (by assumption) ?rest3
  case hy3 => (intro u hu; obtain ⟨_, _, _, _, _, _, _, _, _, _⟩ := hu; go_simp; try with_reducible rfl)
  try simp only [Act.put, List.setIfInBounds_toArray, List.set_cons_zero, List.set_cons_succ, List.getElem_toArray, List.getElem_cons_zero, List.getElem_cons_succ]
  refine wpAnyH_take (i := 4) (v := ?v4) rfl (by kernel_rfl) (by kernel_rfl) (by kernel_rfl) (fun _ _ _ h => h) (Or.inl ⟨by rfl, ?hy4⟩) (by assumption) ?rest4
  case hy4 => (intro u hu; obtain ⟨_, _, _, _, _, _, _, _, _, _⟩ := hu; go_simp; try with_reducible rfl)
  try simp only [Act.put, List.setIfInBounds_toArray, List.set_cons_zero, List.set_cons_succ, List.getElem_toArray, List.getElem_cons_zero, List.getElem_cons_succ]
  refine wpAnyH_ready (rs := [2]) (by kernel_rfl) (by simp) ?_
  refine AllReadyH.cons rfl (fun K hK => ?_) AllReadyH.nil
  go_simp
  refine (Ahead_calls a b _).mono ?_
  rintro e w2 ⟨rfl, hb2⟩
  go_wp2_with fail
  refine hK.out _ _ (HS.out (on2 hHeld.1 hb2)) (fun hHeld2 => ?_)
  clear hK K hHeld
  have hHeld := hHeld2
  clear hHeld2
  try simp only [Act.put, List.setIfInBounds_toArray, List.set_cons_zero, List.set_cons_succ, List.getElem_toArray, List.getElem_cons_zero, List.getElem_cons_succ]
  refine wpAnyH_ready (rs := [5]) (by kernel_rfl) (by simp) ?_
  refine AllReadyH.cons rfl (fun K hK => ?_) AllReadyH.nil
  go_simp
  refine (Ahead_calls b a _).mono ?_
  rintro e w3 ⟨rfl, hb2⟩
  go_wp2_with fail
  refine hK.out _ _ (HS.out (on2 hHeld.1 hb2)) (fun hHeld2 => ?_)
  clear hK K hHeld
  have hHeld := hHeld2
  clear hHeld2
  try simp only [Act.put, List.setIfInBounds_toArray, List.set_cons_zero, List.set_cons_succ, List.getElem_toArray, List.getElem_cons_zero, List.getElem_cons_succ]
  refine wpAnyH_take (i := 6) (v := ?v6) rfl (by kernel_rfl) (by kernel_rfl) (by kernel_rfl) (fun _ _ _ h => h) (Or.inl ⟨by rfl, ?hy6⟩) (by assumption) ?rest6
  case hy6 => (intro u hu; obtain ⟨_, _, _, _, _, _, _, _, _, _⟩ := hu; go_simp; try with_reducible rfl)
  try simp only [Act.put, List.setIfInBounds_toArray, List.set_cons_zero, List.set_cons_succ, List.getElem_toArray, List.getElem_cons_zero, List.getElem_cons_succ]
  refine wpAnyH_take (i := 7) (v := ?v7) rfl (by kernel_rfl) (by kernel_rfl) (by kernel_rfl) (fun _ _ _ h => h) (Or.inl ⟨by rfl, ?hy7⟩) (by assumption) ?rest7
  case hy7 => (intro u hu; obtain ⟨_, _, _, _, _, _, _, _, _, _⟩ := hu; go_simp; try with_reducible rfl)
  try simp only [Act.put, List.setIfInBounds_toArray, List.set_cons_zero, List.set_cons_succ, List.getElem_toArray, List.getElem_cons_zero, List.getElem_cons_succ]
  refine wpAnyH_done (by kernel_rfl) ?_ _
  refine NoPanic.normal ?_
  obtain ⟨hbw, a0, a1, a2, b0, b1, b2, c0, c1, c2⟩ := hHeld
  have HB : Hid (Below w.heap.size w w3) := on2 (by go_grown) hbw
  have L0 : Hid (w.heap.size < w3.heap.size) := by have := hbw.size; simp at this; show _ < _; omega
  have L2 : Hid (w.heap.size + 1 + 1 < w3.heap.size) := by have := hbw.size; simp at this; show _ < _; omega
  clear hbw HS
  by_cases hab : a = b
  · subst hab
    have hs := ahead_self a
    go_wp2_with fail
    go_ret
    exact ⟨rfl, HB.out⟩
  · have hy := ahead_tot hab
    have hab' : Hid (¬ a = b) := hab
    cases hx : ahead a b with
    | false =>
      rw [hx] at hy
      replace hy : ahead b a = true := hy
      by_cases k1 : a.1.toList = b.1.toList
      · by_cases k2 : a.2.1 = b.2.1
        · have k3 : ¬ a.2.2 = b.2.2 := fun e => hab (same_it k1 k2 e)
          go_wp2_with fail
          go_ret
          exact ⟨rfl, HB.out⟩
        · skip
          go_wp2_with fail
          go_ret
          exact ⟨rfl, HB.out⟩
      · skip
        go_wp2_with fail
        go_ret
        exact ⟨rfl, HB.out⟩
    | true =>
      rw [hx] at hy
      replace hy : ahead b a = false := hy
      cases hp : ahead b c with
      | false =>
        have HBC : Hid (Calls Try.prog 25 #[vI b, vI c] w3 fun e w' => e = .returned (.bool false) ∧ Below w3.heap.size w3 w') := by
          have := Ahead_calls b c w3
          rw [hp] at this; exact this
        by_cases k1 : a.1.toList = b.1.toList
        · by_cases k2 : a.2.1 = b.2.1
          · have k3 : ¬ a.2.2 = b.2.2 := fun e => hab (same_it k1 k2 e)
            go_wp2_with (go_at_call 25; refine HBC.out.mono ?_; rintro e w4 ⟨rfl, hb4⟩)
            go_ret
            exact ⟨rfl, on2 HB.out hb4⟩
          · skip
            go_wp2_with (go_at_call 25; refine HBC.out.mono ?_; rintro e w4 ⟨rfl, hb4⟩)
            go_ret
            exact ⟨rfl, on2 HB.out hb4⟩
        · skip
          go_wp2_with (go_at_call 25; refine HBC.out.mono ?_; rintro e w4 ⟨rfl, hb4⟩)
          go_ret
          exact ⟨rfl, on2 HB.out hb4⟩
      | true =>
        have HBC : Hid (Calls Try.prog 25 #[vI b, vI c] w3 fun e w' => e = .returned (.bool true) ∧ Below w3.heap.size w3 w') := by
          have := Ahead_calls b c w3
          rw [hp] at this; exact this
        have HAC : Hid (∀ u, Calls Try.prog 25 #[vI a, vI c] u fun e w' => e = .returned (.bool true) ∧ Below u.heap.size u w') := by
          intro u
          have := Ahead_calls a c u
          rw [ahead_trans hx hp] at this; exact this
        by_cases k1 : a.1.toList = b.1.toList
        · by_cases k2 : a.2.1 = b.2.1
          · have k3 : ¬ a.2.2 = b.2.2 := fun e => hab (same_it k1 k2 e)
            have HAC2 : Hid (∀ u, Calls Try.prog 25 #[.agg #[.string a.1, .int .i64 b.2.1, .int .i64 a.2.2], vI c] u fun e w' => e = .returned (.bool true) ∧ Below u.heap.size u w') := by
              rw [← k2]; exact HAC
            have t1 : True := trivial
            go_wp2_with (first | (go_at_call 25; have _t := t1; go_loud (refine HBC.out.mono ?_; rintro e w4 ⟨rfl, hb4⟩; clear t1;  have a0' := (hb4.cell (p := ⟨w.heap.size, 0, none⟩) L0.out).trans a0; have a1' := (hb4.cell (p := ⟨w.heap.size, 1, none⟩) L0.out).trans a1; have a2' := (hb4.cell (p := ⟨w.heap.size, 2, none⟩) L0.out).trans a2; have c0' := (hb4.cell (p := ⟨w.heap.size + 1 + 1, 0, none⟩) L2.out).trans c0; have c1' := (hb4.cell (p := ⟨w.heap.size + 1 + 1, 1, none⟩) L2.out).trans c1; have c2' := (hb4.cell (p := ⟨w.heap.size + 1 + 1, 2, none⟩) L2.out).trans c2)) | (go_at_call 25; refine (HAC2.out _).mono ?_; rintro e w5 ⟨rfl, hb5⟩))
            go_ret
            exact ⟨rfl, on2 (on2 HB.out hb4) hb5⟩
          · skip
            have t1 : True := trivial
            go_wp2_with (first | (go_at_call 25; have _t := t1; go_loud (refine HBC.out.mono ?_; rintro e w4 ⟨rfl, hb4⟩; clear t1;  have a0' := (hb4.cell (p := ⟨w.heap.size, 0, none⟩) L0.out).trans a0; have a1' := (hb4.cell (p := ⟨w.heap.size, 1, none⟩) L0.out).trans a1; have a2' := (hb4.cell (p := ⟨w.heap.size, 2, none⟩) L0.out).trans a2; have c0' := (hb4.cell (p := ⟨w.heap.size + 1 + 1, 0, none⟩) L2.out).trans c0; have c1' := (hb4.cell (p := ⟨w.heap.size + 1 + 1, 1, none⟩) L2.out).trans c1; have c2' := (hb4.cell (p := ⟨w.heap.size + 1 + 1, 2, none⟩) L2.out).trans c2)) | (go_at_call 25; refine (HAC.out _).mono ?_; rintro e w5 ⟨rfl, hb5⟩))
            go_ret
            exact ⟨rfl, on2 (on2 HB.out hb4) hb5⟩
        · skip
          have t1 : True := trivial
          go_wp2_with (first | (go_at_call 25; have _t := t1; go_loud (refine HBC.out.mono ?_; rintro e w4 ⟨rfl, hb4⟩; clear t1;  have a0' := (hb4.cell (p := ⟨w.heap.size, 0, none⟩) L0.out).trans a0; have a1' := (hb4.cell (p := ⟨w.heap.size, 1, none⟩) L0.out).trans a1; have a2' := (hb4.cell (p := ⟨w.heap.size, 2, none⟩) L0.out).trans a2; have c0' := (hb4.cell (p := ⟨w.heap.size + 1 + 1, 0, none⟩) L2.out).trans c0; have c1' := (hb4.cell (p := ⟨w.heap.size + 1 + 1, 1, none⟩) L2.out).trans c1; have c2' := (hb4.cell (p := ⟨w.heap.size + 1 + 1, 2, none⟩) L2.out).trans c2)) | (go_at_call 25; refine (HAC.out _).mono ?_; rintro e w5 ⟨rfl, hb5⟩))
          go_ret
          exact ⟨rfl, on2 (on2 HB.out hb4) hb5⟩

theorem walk (s0 : ByteArray) (n0 m0 : Int) (s1 : ByteArray) (n1 m1 : Int) (s2 : ByteArray) (n2 m2 : Int) (w : World) (_h0 : s0.size ≤ 140737488355328) (_h1 : s1.size ≤ 140737488355328) (_h2 : s2.size ≤ 140737488355328) :
    Calls Try.prog 6 #[.agg #[.string s0, .int .i64 n0, .int .i64 m0], .agg #[.string s1, .int .i64 n1, .int .i64 m1], .agg #[.string s2, .int .i64 n2, .int .i64 m2]] w fun e w' => e = .returned (.bool true) ∧ Below w.heap.size w w' :=
  core (s0, n0, m0) (s1, n1, m1) (s2, n2, m2) w

theorem reads (os : Os) {H : Type} (enc : TypeId × Value → H) : ∃ places, DataW.whole enc Try.prog ((World.holding Try.prog os ⟨#[], #[], []⟩).forCall (fun _ _ => 0) ⟨#[], #[.agg #[.string ByteArray.empty, .int .i64 0, .int .i64 0], .agg #[.string ByteArray.empty, .int .i64 0, .int .i64 0], .agg #[.string ByteArray.empty, .int .i64 0, .int .i64 0]], []⟩).memory Try.f6.params.toList Rows.heapOrdersSpec.vars false #[(.agg #[.string ByteArray.empty, .int .i64 0, .int .i64 0] : Value), (.agg #[.string ByteArray.empty, .int .i64 0, .int .i64 0] : Value), (.agg #[.string ByteArray.empty, .int .i64 0, .int .i64 0] : Value)].toList 8 = some ([.agg [.lit (.string []), .lit (.int .i64 0), .lit (.int .i64 0)], .agg [.lit (.string []), .lit (.int .i64 0), .lit (.int .i64 0)], .agg [.lit (.string []), .lit (.int .i64 0), .lit (.int .i64 0)]], [], places) :=
  ⟨[], by kernel_rfl⟩

theorem params_ok : ∀ t ∈ Try.f6.params.toList, Try.prog.readableRec t = true ∧ t < Try.prog.types.size := by
  rw [Try.params6]
  have hall : ([27, 27, 27].all fun u => Try.prog.readableRec u && decide (u < Try.prog.types.size)) = true := by kernel_rfl
  intro t ht
  simpa using List.all_eq_true.1 hall t (by simpa using ht)

set_option maxRecDepth 100000 in
theorem contract (H : Type) (enc : TypeId × Value → H) (W : World) (base : Nat) (args : Array Value) (ds gs : List (DataW H)) (before : List MemPlace)
    (hval : ∀ (j : Nat) t v, Try.f6.params[j]? = some t → args[j]? = some v → Value.okWide Try.prog W .any base t v)
    (hW : DataW.Whole enc Try.prog Try.f6.params.toList Rows.heapOrdersSpec.vars false W args.toList ds gs before) (hsz : (DataW.weightsEach Try.prog (Try.f6.params.toList ++ Rows.heapOrdersSpec.plain.varTypes Try.prog) (ds ++ gs)).all (· ≤ reachBytes) = true) :
    Calls Try.prog 6 args W fun e W' => ∃ v, e = .returned v ∧ Rows.heapOrdersSpec.post enc Try.prog Try.f6 false true false false W args v W' := by
  have hW' := hW
  obtain ⟨p, q, hA0, hV, rfl, hfz, hnd⟩ := hW
  have hA : DataW.TrodAll enc Try.prog W 0 (fun _ => true) true Try.f6.params.toList args.toList ds p := hA0
  rw [Try.params6] at hA hval
  obtain ⟨v0, vs0, d0, ds0, p0, q0, hargs, rfl, rfl, h0, r0⟩ := trodAll_cons hA
  obtain ⟨v1, vs1, d1, ds1, p1, q1, rfl, rfl, rfl, h1, r1⟩ := trodAll_cons r0
  obtain ⟨v2, vs2, d2, ds2, p2, q2, rfl, rfl, rfl, h2, r2⟩ := trodAll_cons r1
  obtain ⟨rfl, rfl, rfl⟩ := trodAll_nil r2
  obtain rfl : args = #[v0, v1, v2] := by cases args; simp_all
  obtain ⟨rfl, rfl⟩ := trodVars_none hV
  have l0 := light_arg hsz (j := 0) (t := 27) (by rw [Try.params6]; rfl) rfl
  obtain ⟨u0, m0, c0, y0, y01, y02, k0, rfl, rfl, rfl, hy0, hz0, ht0⟩ := Go.Joins.open_agg3 Try.underlying27 (by kernel_rfl) (by kernel_rfl) (hval 0 27 v0 rfl rfl) h0
  obtain ⟨s0, rfl, w0⟩ := open_str hy0 (light_struct Try.underlying27 l0 (j := 0) rfl rfl)
  obtain ⟨n0, en0, _, _⟩ := DataW.trod_int Try.underlying3 hz0
  obtain rfl : m0 = .int .i64 n0 := by simpa using en0
  obtain ⟨o0, eo0, _, _⟩ := DataW.trod_int Try.underlying3 ht0
  obtain rfl : c0 = .int .i64 o0 := by simpa using eo0
  have l1 := light_arg hsz (j := 1) (t := 27) (by rw [Try.params6]; rfl) rfl
  obtain ⟨u1, m1, c1, y1, y11, y12, k1, rfl, rfl, rfl, hy1, hz1, ht1⟩ := Go.Joins.open_agg3 Try.underlying27 (by kernel_rfl) (by kernel_rfl) (hval 1 27 v1 rfl rfl) h1
  obtain ⟨s1, rfl, w1⟩ := open_str hy1 (light_struct Try.underlying27 l1 (j := 0) rfl rfl)
  obtain ⟨n1, en1, _, _⟩ := DataW.trod_int Try.underlying3 hz1
  obtain rfl : m1 = .int .i64 n1 := by simpa using en1
  obtain ⟨o1, eo1, _, _⟩ := DataW.trod_int Try.underlying3 ht1
  obtain rfl : c1 = .int .i64 o1 := by simpa using eo1
  have l2 := light_arg hsz (j := 2) (t := 27) (by rw [Try.params6]; rfl) rfl
  obtain ⟨u2, m2, c2, y2, y21, y22, k2, rfl, rfl, rfl, hy2, hz2, ht2⟩ := Go.Joins.open_agg3 Try.underlying27 (by kernel_rfl) (by kernel_rfl) (hval 2 27 v2 rfl rfl) h2
  obtain ⟨s2, rfl, w2⟩ := open_str hy2 (light_struct Try.underlying27 l2 (j := 0) rfl rfl)
  obtain ⟨n2, en2, _, _⟩ := DataW.trod_int Try.underlying3 hz2
  obtain rfl : m2 = .int .i64 n2 := by simpa using en2
  obtain ⟨o2, eo2, _, _⟩ := DataW.trod_int Try.underlying3 ht2
  obtain rfl : c2 = .int .i64 o2 := by simpa using eo2
  refine (walk s0 n0 o0 s1 n1 o1 s2 n2 o2 W w0 w1 w2).mono fun e W' ⟨he, hb⟩ => ?_
  subst he
  exact ⟨_, rfl, law_post laidOut params_ok rfl (tb := 4) (by kernel_rfl) Try.underlying4 rfl hW' hb⟩

set_option maxRecDepth 100000 in
theorem lifted (os : Os) (started : os.Started) (H : Type) (enc : TypeId × Value → H) (F : Stop.Interp) :
    ReturnsInHanded {} Try.checked os 6 .any ((OpenSpec.ofChange Rows.heapOrdersSpec).preRow enc Try.prog Try.f6 Rows.heapOrdersRow.domain false Rows.heapOrdersRow.laid) (((OpenSpec.ofChange Rows.heapOrdersSpec).at F).post enc Try.prog Try.f6 false true false false) := by
  obtain ⟨places, hx⟩ := reads os enc
  refine returnsInHanded_of_row (C := Try.checked) (s := (OpenSpec.ofChange Rows.heapOrdersSpec)) own started (by kernel_rfl) Try.func6
    (witness_row_at (enc := enc) (C := Try.checked) false (World.holding Try.prog os ⟨#[], #[], []⟩) #[.agg #[.string ByteArray.empty, .int .i64 0, .int .i64 0], .agg #[.string ByteArray.empty, .int .i64 0, .int .i64 0], .agg #[.string ByteArray.empty, .int .i64 0, .int .i64 0]] rfl (by kernel_rfl) (by kernel_rfl) (by kernel_rfl)
      (OpenSpec.preRow_of_cond 8 hx (by kernel_rfl) (fun k hk => by cases hk) (by kernel_rfl) ⟨[], rfl, List.Pairwise.nil, fun _ _ h => by cases h⟩)) ?_
  intro W base args ds gs before hval hW _ _ hsz _ _ _
  exact contract H enc W base args ds gs before hval hW hsz

theorem said : Rows.HeapOrdersSaid :=
  OpenClaim.holds_of_cond 6 Try.f6 rfl rfl rfl rfl rfl rfl rfl ⟨rfl, rfl, rfl, rfl, rfl⟩ rfl rfl rfl rfl rfl (by kernel_rfl) Try.func6 (by kernel_rfl)
    (of_decide_eq_true (by kernel_rfl)) (by unfold Func.isWrapper; first | (rw [if_pos (by decide +kernel)]; kernel_rfl) | (rw [if_neg (by decide +kernel)]; exact ⟨rfl, rfl⟩))
    (fun os started H enc _ F => by rw [OpenClaim.pre_eq_preRow]; exact lifted os started H enc F)
end Go.Proofs.Ytgncpjplofacfaa.heapOrders
namespace Go.Proofs.Ytgncpjplofacfaa
theorem heapOrders_holds : Rows.HeapOrdersSaid := heapOrders.said
end Go.Proofs.Ytgncpjplofacfaa
