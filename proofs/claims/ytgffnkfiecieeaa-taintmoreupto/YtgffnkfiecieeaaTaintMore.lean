/- The law TaintMore holds of the program: who bears more is kept off by no more, and shies at no more; the chapter's example comes out. Condition: the arguments hold together at most 1048576 values and letters. -/
import Derived.Test.YtgffnkfiecieeaaTMoreBase
namespace Go.Proofs.Ytgffnkfiecieeaa.taintMore
open Go.ChangeShapes Go.WideShapes Go.ChangeAt Go.RowKit
set_option linter.unusedSimpArgs false

set_option maxHeartbeats 4000000 in
theorem walk (a : Option Addr) (cap : Nat) (L : List Tnt) (b : Option Addr) (capb : Nat) (B : List Bear) (c : Option Addr) (capc : Nat) (C : List Bear) (w : World) (hL : Hid (TntsAt w a L)) (hB : Hid (BearsAt w b B)) (hC : Hid (BearsAt w c C)) (hcn : Hid (c = none → capc = 0)) (hBl : B.length ≤ 1048576) (hCl : C.length ≤ 1048576) :
    Calls Try.prog 5 #[.slice a L.length cap, .slice b B.length capb, .slice c C.length capc] w fun e w' => e = .returned (.bool true) ∧ Below w.heap.size w w' := by
  have hL' : Hid (∀ {u : World}, Below w.heap.size w u → TntsAt u a L) := fun h => hL.out.on h
  have hB' : Hid (∀ {u : World}, Below w.heap.size w u → BearsAt u b B) := fun h => hB.out.on h
  have hC' : Hid (∀ {u : World}, Below w.heap.size w u → BearsAt u c C) := fun h => hC.out.on h
  have hBo : Hid (∀ x ∈ B, okB x) := hB.out.2.1
  have k1 := fun u h h' => Kept_calls a cap L b capb B u h h'
  have k2 : ∀ (d : Option Addr) (capd : Nat) (u : World), Hid (TntsAt u a L) → Hid (BearsAt u d (B ++ C)) → Calls Try.prog 15 #[.slice a L.length cap, .slice d (B.length + C.length) capd] u fun e w' => e = .returned (.tuple #[.agg #[.string (keptT L (B ++ C)).1.1, .string (keptT L (B ++ C)).1.2.1, .int .i64 (keptT L (B ++ C)).1.2.2], .bool (keptT L (B ++ C)).2]) ∧ Below u.heap.size u w' := fun d capd u h h' => by
    have := Kept_calls a cap L d capd (B ++ C) u h h'
    rwa [List.length_append] at this
  have k3 := fun u h h' => Shy_calls a cap L b capb B u h h'
  have k4 : ∀ (d : Option Addr) (capd : Nat) (u : World), Hid (TntsAt u a L) → Hid (BearsAt u d (B ++ C)) → Calls Try.prog 17 #[.slice a L.length cap, .slice d (B.length + C.length) capd] u fun e w' => e = .returned (.int .i64 (shyN L (B ++ C) : Nat)) ∧ Below u.heap.size u w' := fun d capd u h h' => by
    have := Shy_calls a cap L d capd (B ++ C) u h h'
    rwa [List.length_append] at this
  have hk := kept_more L B C
  have hs := shy_more L B C
  generalize keptT L B = p at k1 hk
  generalize keptT L (B ++ C) = q at k2 hk
  generalize shyN L B = m at k3 hs
  generalize shyN L (B ++ C) = n at k4 hs
  obtain ⟨⟨p1, p2, p3⟩, pb⟩ := p
  obtain ⟨⟨q1, q2, q3⟩, qb⟩ := q
  have hpq : pb = true ∨ (pb = false ∧ qb = false) := by
    cases pb <;> cases qb <;> simp_all
  have hs' : (n : Int) ≤ (m : Int) := by omega
  simp only at k1 k2
  clear hL hB hC hk hs
  go_enter Try.func5, Try.ntmps5
  go_wp2_with fail
  refine (works_calls w).mono ?_
  rintro e w1 ⟨rfl, hb1⟩
  go_wp2_with fail
  refine (k1 _ (hL'.out hb1) (hB'.out hb1)).mono ?_
  rintro e w2 ⟨rfl, hb⟩
  have hb2 := on2 (on2 hb1 hb) ((Below.refl _ _).alloc (Nat.le_refl _) (.cells #[.string p1, .string p2, .int .i64 p3] 32))
  clear hb hb1 k1
  go_wp2_with fail
  generalize (w2.alloc (.cells #[.string p1, .string p2, .int .i64 p3] 32)) = w3 at hb2 ⊢
  refine (bears_calls b capb B w3 (hB'.out hb2) (by omega)).mono ?_
  rintro e w4 ⟨v4, rfl, hO4⟩
  have hO4' : Hid (Own w3 w4 38 4 v4 B.length (flatE encB B)) := hO4
  have hC3 : Hid (BearsAt w3 c C) := hC'.out hb2
  clear hO4
  go_wp2_with (at_builtin; go_must (refine append_bears (w0 := w3) rfl _ _ rfl v4 B rfl hO4'.out c capc C rfl hcn.out hC3.out (by omega) hBo.out ?_); intro d5 cap5 w5 hat5 hbb5)
  have hat5' : Hid (BearsAt w5 d5 (B ++ C)) := hat5
  have hb5 := on2 hb2 hbb5
  clear hat5 hbb5 hO4' hC3
  refine (k2 d5 cap5 _ (hL'.out hb5) hat5').mono ?_
  rintro e w6 ⟨rfl, hb⟩
  have hb6 := on2 (on2 hb5 hb) ((Below.refl _ _).alloc (Nat.le_refl _) (.cells #[.string q1, .string q2, .int .i64 q3] 32))
  clear hb hb5 hat5' k2
  rcases hpq with rfl | ⟨rfl, rfl⟩ <;> (
    go_wp2_with fail
    generalize (w6.alloc (.cells #[.string q1, .string q2, .int .i64 q3] 32)) = w7 at hb6 ⊢
    refine (bears_calls b capb B w7 (hB'.out hb6) (by omega)).mono ?_
    rintro e w8 ⟨v8, rfl, hO8⟩
    have hO8' : Hid (Own w7 w8 38 4 v8 B.length (flatE encB B)) := hO8
    have hC7 : Hid (BearsAt w7 c C) := hC'.out hb6
    clear hO8
    go_wp2_with (at_builtin; go_must (refine append_bears (w0 := w7) rfl _ _ rfl v8 B rfl hO8'.out c capc C rfl hcn.out hC7.out (by omega) hBo.out ?_); intro d9 cap9 w9 hat9 hbb9)
    have hat9' : Hid (BearsAt w9 d9 (B ++ C)) := hat9
    have hb9 := on2 hb6 hbb9
    clear hat9 hbb9 hO8' hC7
    refine (k4 d9 cap9 _ (hL'.out hb9) hat9').mono ?_
    rintro e w10 ⟨rfl, hb⟩
    have hb10 := on2 hb9 hb
    clear hb hb9 hat9'
    go_wp2_with fail
    refine (k3 _ (hL'.out hb10) (hB'.out hb10)).mono ?_
    rintro e w11 ⟨rfl, hb⟩
    have hb11 := on2 hb10 hb
    clear hb hb10
    go_wp2_with fail
    go_ret
    exact ⟨rfl, hb11⟩)

theorem bulk_all {H : Type} : ∀ (ds : List (DataW H)), ds.length ≤ Rows.uptoBulkAll ds
  | [] => by simp [Rows.uptoBulkAll]
  | d :: r => by
    have ih := bulk_all r
    have : 1 ≤ Rows.uptoBulk d := by
      match d with
      | .lit l => cases l <;> simp [Rows.uptoBulk]
      | .nil => simp [Rows.uptoBulk]
      | .ptr _ => simp [Rows.uptoBulk]
      | .slice _ _ => simp [Rows.uptoBulk]
      | .agg _ => simp [Rows.uptoBulk]
      | .iface _ _ => simp [Rows.uptoBulk]
      | .map _ => simp [Rows.uptoBulk]
      | .held _ => simp [Rows.uptoBulk]
    simp only [List.length_cons, Rows.uptoBulkAll]
    omega
theorem bulk_slice {H : Type} {enc : TypeId × Value → H} {W : World} {base n : Nat} {sp : Nat → Bool} {held : Bool} {x : Option Addr} {y z : Nat} {d : DataW H} {p : List MemPlace} (h : DataW.trod enc Try.prog W base sp held n 23 [.slice x y z] = some (d, p)) : y ≤ Rows.uptoBulk d := by
  rcases Go.Deep.open_slice Try.underlying23 h with ⟨hv, _⟩ | ⟨a, len, cap, m, k, D, Pl, hv, _, _, _, _, hx, _⟩
  · simp at hv; omega
  · simp at hv
    obtain ⟨rfl, _⟩ := Prod.mk.inj hx
    have := bulk_all ((List.range len).map D)
    simp only [List.length_map, List.length_range] at this
    simp only [Rows.uptoBulk]
    omega

theorem reads (os : Os) {H : Type} (enc : TypeId × Value → H) : ∃ places, DataW.whole enc Try.prog ((World.holding Try.prog os ⟨#[], #[], []⟩).forCall (fun _ _ => 0) ⟨#[], #[.slice none 0 0, .slice none 0 0, .slice none 0 0], []⟩).memory Try.f5.params.toList Rows.taintMoreSpec.vars false #[(.slice none 0 0 : Value), (.slice none 0 0 : Value), (.slice none 0 0 : Value)].toList 8 = some ([.nil, .nil, .nil], [], places) :=
  ⟨[], by kernel_rfl⟩

theorem params_ok : ∀ t ∈ Try.f5.params.toList, Try.prog.readableRec t = true ∧ t < Try.prog.types.size := by
  rw [Try.params5]
  have hall : ([22, 23, 23].all fun u => Try.prog.readableRec u && decide (u < Try.prog.types.size)) = true := by kernel_rfl
  intro t ht
  simpa using List.all_eq_true.1 hall t (by simpa using ht)

theorem contract (H : Type) (enc : TypeId × Value → H) (W : World) (base : Nat) (args : Array Value) (ds gs : List (DataW H)) (before : List MemPlace)
    (hval : ∀ (j : Nat) t v, Try.f5.params[j]? = some t → args[j]? = some v → Value.okWide Try.prog W .any base t v)
    (hW : DataW.Whole enc Try.prog Try.f5.params.toList Rows.taintMoreSpec.vars false W args.toList ds gs before) (hsz : (DataW.weightsEach Try.prog (Try.f5.params.toList ++ Rows.taintMoreSpec.plain.varTypes Try.prog) (ds ++ gs)).all (· ≤ reachBytes) = true) (hup : Rows.uptoBulkAll (ds ++ gs) ≤ 1048576) :
    Calls Try.prog 5 args W fun e W' => ∃ v, e = .returned v ∧ Rows.taintMoreSpec.post enc Try.prog Try.f5 false true false false W args v W' := by
  have hW' := hW
  obtain ⟨p, q, hA0, hV, rfl, hfz, hnd⟩ := hW
  have hA : DataW.TrodAll enc Try.prog W 0 (fun _ => true) true Try.f5.params.toList args.toList ds p := hA0
  rw [Try.params5] at hA hval
  obtain ⟨v0, vs0, d0, ds0, p0, q0, hargs, rfl, rfl, h0, r0⟩ := trodAll_cons hA
  obtain ⟨v1, vs1, d1, ds1, p1, q1, rfl, rfl, rfl, h1, r1⟩ := trodAll_cons r0
  obtain ⟨v2, vs2, d2, ds2, p2, q2, rfl, rfl, rfl, h2, r2⟩ := trodAll_cons r1
  obtain ⟨rfl, rfl, rfl⟩ := trodAll_nil r2
  obtain rfl : args = #[v0, v1, v2] := by cases args; simp_all
  obtain ⟨rfl, rfl⟩ := trodVars_none hV
  have l0 := light_arg hsz (j := 0) (t := 22) (by rw [Try.params5]; rfl) rfl
  obtain ⟨x0, y0, z0, e0⟩ := okWide_slice Try.underlying22 (hval 0 22 v0 rfl rfl)
  subst e0
  obtain ⟨fu0, hf0⟩ := h0
  obtain ⟨a0, L0, c0, e0, at0, b0, g0, o0⟩ := open_tnts (v := .slice x0 y0 z0) hf0 l0
  obtain ⟨rfl, rfl, rfl⟩ : x0 = a0 ∧ y0 = L0.length ∧ z0 = c0 := by simpa using e0
  have l1 := light_arg hsz (j := 1) (t := 23) (by rw [Try.params5]; rfl) rfl
  obtain ⟨x1, y1, z1, e1⟩ := okWide_slice Try.underlying23 (hval 1 23 v1 rfl rfl)
  subst e1
  obtain ⟨fu1, hf1⟩ := h1
  obtain ⟨a1, L1, c1, e1, at1, b1, g1, o1⟩ := open_bears (v := .slice x1 y1 z1) hf1 l1
  obtain ⟨rfl, rfl, rfl⟩ : x1 = a1 ∧ y1 = L1.length ∧ z1 = c1 := by simpa using e1
  have l2 := light_arg hsz (j := 2) (t := 23) (by rw [Try.params5]; rfl) rfl
  obtain ⟨x2, y2, z2, e2⟩ := okWide_slice Try.underlying23 (hval 2 23 v2 rfl rfl)
  subst e2
  obtain ⟨fu2, hf2⟩ := h2
  obtain ⟨a2, L2, c2, e2, at2, b2, g2, o2⟩ := open_bears (v := .slice x2 y2 z2) hf2 l2
  obtain ⟨rfl, rfl, rfl⟩ : x2 = a2 ∧ y2 = L2.length ∧ z2 = c2 := by simpa using e2
  have u1 := bulk_slice hf1
  have u2 := bulk_slice hf2
  simp only [List.cons_append, List.nil_append, Rows.uptoBulkAll] at hup
  refine (walk x0 z0 L0 x1 z1 L1 x2 z2 L2 W at0 at1 at2 g2 (by omega) (by omega)).mono fun e W' ⟨he, hb⟩ => ?_
  subst he
  exact ⟨_, rfl, law_post laidOut params_ok rfl (tb := 4) (by kernel_rfl) Try.underlying4 rfl hW' hb⟩

set_option maxRecDepth 100000 in
theorem lifted (os : Os) (started : os.Started) (H : Type) (enc : TypeId × Value → H) (F : Stop.Interp) :
    ReturnsInHanded {} Try.checked os 5 .any ((Rows.OpenSpec.upto Rows.taintMoreSpec).preRow enc Try.prog Try.f5 Rows.taintMoreUptoRow.domain false Rows.taintMoreUptoRow.laid) (((Rows.OpenSpec.upto Rows.taintMoreSpec).at F).post enc Try.prog Try.f5 false true false false) := by
  obtain ⟨places, hx⟩ := reads os enc
  refine returnsInHanded_of_row (C := Try.checked) (s := (Rows.OpenSpec.upto Rows.taintMoreSpec)) own started (by kernel_rfl) Try.func5
    (witness_row_at (enc := enc) (C := Try.checked) false (World.holding Try.prog os ⟨#[], #[], []⟩) #[.slice none 0 0, .slice none 0 0, .slice none 0 0] rfl (by kernel_rfl) (by kernel_rfl) (by kernel_rfl)
      (OpenSpec.preRow_of_cond 8 hx (by kernel_rfl) (fun k hk => by cases hk; rfl) (by kernel_rfl) ⟨[], rfl, List.Pairwise.nil, fun _ _ h => by cases h⟩)) ?_
  intro W base args ds gs before hval hW _ hcond hsz _ _ _
  exact contract H enc W base args ds gs before hval hW hsz (of_decide_eq_true (hcond _ rfl))

theorem said : Rows.TaintMoreUptoSaid :=
  OpenClaim.holds_of_cond 5 Try.f5 rfl rfl rfl rfl rfl rfl rfl ⟨rfl, rfl, rfl, rfl, rfl⟩ rfl rfl rfl rfl rfl (by kernel_rfl) Try.func5 (by kernel_rfl)
    (of_decide_eq_true (by kernel_rfl)) (by unfold Func.isWrapper; first | (rw [if_pos (by decide +kernel)]; kernel_rfl) | (rw [if_neg (by decide +kernel)]; exact ⟨rfl, rfl⟩))
    (fun os started H enc _ F => by rw [OpenClaim.pre_eq_preRow]; exact lifted os started H enc F)
end Go.Proofs.Ytgffnkfiecieeaa.taintMore
namespace Go.Proofs.Ytgffnkfiecieeaa
theorem taintMore_holds : Rows.TaintMoreUptoSaid := taintMore.said
end Go.Proofs.Ytgffnkfiecieeaa
