/- The law LabelMore holds of the program: more asked is met by no more labels, and the order in which it is asked does not count; the chapter's example comes out. Condition: the arguments hold together at most 1048576 values and letters. -/
import Derived.Test.YtpehmobedcflnaaLMoreBase
namespace Go.Proofs.Ytpehmobedcflnaa.labelMore
open Go.ChangeShapes Go.WideShapes Go.ChangeAt Go.RowKit
set_option linter.unusedSimpArgs false

set_option maxHeartbeats 4000000 in
theorem walk (a : Option Addr) (cap : Nat) (L : List Lab) (b : Option Addr) (capb : Nat) (A : List Ask) (c : Option Addr) (capc : Nat) (B : List Ask) (w : World) (hL : Hid (LabsAt w a L)) (hA : Hid (AsksAt w b A)) (hAv : Hid (∀ r ∈ A, r.vals.length * 16 ≤ 140737488351232)) (hB : Hid (AsksAt w c B)) (hBv : Hid (∀ r ∈ B, r.vals.length * 16 ≤ 140737488351232)) (hbn : Hid (b = none → capb = 0)) (hcn : Hid (c = none → capc = 0)) (hAl : A.length ≤ 1048576) (hBl : B.length ≤ 1048576) :
    Calls Try.prog 7 #[.slice a L.length cap, .slice b A.length capb, .slice c B.length capc] w fun e w' => e = .returned (.bool true) ∧ Below w.heap.size w w' := by
  have hL' : Hid (∀ {u : World}, Below w.heap.size w u → LabsAt u a L) := fun h => hL.out.on h
  have hA' : Hid (∀ {u : World}, Below w.heap.size w u → AsksAt u b A) := fun h => hA.out.on h
  have hB' : Hid (∀ {u : World}, Below w.heap.size w u → AsksAt u c B) := fun h => hB.out.on h
  have hAv' : Hid (∀ r ∈ A, r.vals.length * 16 ≤ 140737488355328) := fun r hr => by have := hAv.out r hr; omega
  have hBv' : Hid (∀ r ∈ B, r.vals.length * 16 ≤ 140737488355328) := fun r hr => by have := hBv.out r hr; omega
  have hAs : Hid (∀ r ∈ A, r.key.size ≤ 140737488355328) := hA.out.2.1
  have hBs : Hid (∀ r ∈ B, r.key.size ≤ 140737488355328) := hB.out.2.1
  have k1 := fun u h h' => Match_calls a cap L b capb A u h h'
  have k2 := fun u h h' => Match_calls a cap L c capc B u h h'
  have k3 : ∀ (d : Option Addr) (capd : Nat) (u : World), Hid (LabsAt u a L) → Hid (AsksAt u d (A ++ B)) → Calls Try.prog 22 #[.slice a L.length cap, .slice d (A.length + B.length) capd] u fun e w' => e = .returned (.bool (matchL L A && matchL L B)) ∧ Below u.heap.size u w' := fun d capd u h h' => by
    have := Match_calls a cap L d capd (A ++ B) u h h'
    rwa [matchL_append, List.length_append] at this
  have k4 : ∀ (d : Option Addr) (capd : Nat) (u : World), Hid (LabsAt u a L) → Hid (AsksAt u d (B ++ A)) → Calls Try.prog 22 #[.slice a L.length cap, .slice d (B.length + A.length) capd] u fun e w' => e = .returned (.bool (matchL L A && matchL L B)) ∧ Below u.heap.size u w' := fun d capd u h h' => by
    have := Match_calls a cap L d capd (B ++ A) u h h'
    rwa [matchL_append, Bool.and_comm, List.length_append] at this
  have k5 : ∀ (u : World), Hid (LabsAt u a L) → Calls Try.prog 22 #[.slice a L.length cap, .slice none 0 0] u fun e w' => e = .returned (.bool true) ∧ Below u.heap.size u w' := fun u h => Match_calls a cap L none 0 [] u h (AsksAt.nil u none)
  generalize matchL L A = p at k1 k3 k4
  generalize matchL L B = q at k2 k3 k4
  clear hL hA hAv hB hBv
  go_enter Try.func7, Try.ntmps7
  go_wp2_with fail
  refine (works_calls w).mono ?_
  rintro e w1 ⟨rfl, hb1⟩
  go_wp2_with fail
  refine (k1 _ (hL'.out hb1) (hA'.out hb1)).mono ?_
  rintro e w2 ⟨rfl, hb⟩
  have hb2 := on2 hb1 hb
  clear hb hb1 k1
  go_wp2_with fail
  refine (k2 _ (hL'.out hb2) (hB'.out hb2)).mono ?_
  rintro e w3 ⟨rfl, hb⟩
  have hb3 := on2 hb2 hb
  clear hb hb2 k2
  go_wp2_with fail
  refine (Reqs_calls b capb A w3 (hA'.out hb3) (by omega) hAv').mono ?_
  rintro e w4 ⟨v4, xs4, rfl, hO4, hC4⟩
  have hO4' : Hid (Own w3 w4 41 3 v4 A.length xs4) := hO4
  have hC4' : Hid (CopyAt w3 A A.length xs4 w4) := hC4
  have hB3 : Hid (AsksAt w3 c B) := hB'.out hb3
  clear hO4 hC4
  cases p <;> cases q <;> (
    go_wp2_with (at_builtin; go_must (refine append_asks (w0 := w3) rfl _ _ rfl v4 A xs4 rfl hO4'.out hC4'.out c capc B rfl hcn.out hB3.out (by omega) hAs.out ?_); intro d5 cap5 w5 hat5 hbb5)
    have hat5' : Hid (AsksAt w5 d5 (A ++ B)) := hat5
    have hb5 := on2 hb3 hbb5
    clear hat5 hbb5
    refine (k3 d5 cap5 _ (hL'.out hb5) hat5').mono ?_
    rintro e w6 ⟨rfl, hb⟩
    have hb6 := on2 hb5 hb
    clear hb hb5 hat5'
    go_wp2_with fail
    refine (Reqs_calls c capc B w6 (hB'.out hb6) (by omega) hBv').mono ?_
    rintro e w7 ⟨v7, xs7, rfl, hO7, hC7⟩
    have hO7' : Hid (Own w6 w7 41 3 v7 B.length xs7) := hO7
    have hC7' : Hid (CopyAt w6 B B.length xs7 w7) := hC7
    have hA6 : Hid (AsksAt w6 b A) := hA'.out hb6
    clear hO7 hC7
    go_wp2_with (at_builtin; go_must (refine append_asks (w0 := w6) rfl _ _ rfl v7 B xs7 rfl hO7'.out hC7'.out b capb A rfl hbn.out hA6.out (by omega) hBs.out ?_); intro d8 cap8 w8 hat8 hbb8)
    have hat8' : Hid (AsksAt w8 d8 (B ++ A)) := hat8
    have hb8 := on2 hb6 hbb8
    clear hat8 hbb8
    refine (k4 d8 cap8 _ (hL'.out hb8) hat8').mono ?_
    rintro e w9 ⟨rfl, hb⟩
    have hb9 := on2 hb8 hb
    clear hb hb8 hat8'
    go_wp2_with fail
    refine (k5 _ (hL'.out hb9)).mono ?_
    rintro e w10 ⟨rfl, hb⟩
    have hb10 := on2 hb9 hb
    clear hb hb9
    go_wp2_with fail
    go_ret
    exact ⟨rfl, hb10⟩)

/-- A nil slice has no room. -/
theorem nil_cap {H : Type} {enc : TypeId × Value → H} {W : World} {base n : Nat} {sp : Nat → Bool} {held : Bool} {x : Option Addr} {y z : Nat} {d : DataW H × List MemPlace} (h : DataW.trod enc Try.prog W base sp held n 23 [.slice x y z] = some d) : x = none → z = 0 := by
  rcases Go.Deep.open_slice Try.underlying23 h with ⟨hv, _⟩ | ⟨a, len, cap, m, k, D, Pl, hv, _⟩
  · simp at hv; intro _; exact hv.2.2
  · simp at hv; intro e; rw [e] at hv; simp at hv
theorem bulk_all {H : Type} : ∀ (ds : List (DataW H)), ds.length ≤ Rows.uptoBulkAll ds
  | [] => by simp [Rows.uptoBulkAll]
  | d :: r => by
    have ih := bulk_all r
    have : 1 ≤ Rows.uptoBulk d := by
      match d with
      | .lit l => cases l <;> simp [Rows.uptoBulk]
      | .nil => simp [Rows.uptoBulk]
      | .ptr _ => simp [Rows.uptoBulk]
      | .slice _ _ => simp [Rows.uptoBulk]
      | .agg _ => simp [Rows.uptoBulk]
      | .iface _ _ => simp [Rows.uptoBulk]
      | .map _ => simp [Rows.uptoBulk]
      | .held _ => simp [Rows.uptoBulk]
    simp only [List.length_cons, Rows.uptoBulkAll]
    omega
theorem bulk_slice {H : Type} {enc : TypeId × Value → H} {W : World} {base n : Nat} {sp : Nat → Bool} {held : Bool} {x : Option Addr} {y z : Nat} {d : DataW H} {p : List MemPlace} (h : DataW.trod enc Try.prog W base sp held n 23 [.slice x y z] = some (d, p)) : y ≤ Rows.uptoBulk d := by
  rcases Go.Deep.open_slice Try.underlying23 h with ⟨hv, _⟩ | ⟨a, len, cap, m, k, D, Pl, hv, _, _, _, _, hx, _⟩
  · simp at hv; omega
  · simp at hv
    obtain ⟨rfl, _⟩ := Prod.mk.inj hx
    have := bulk_all ((List.range len).map D)
    simp only [List.length_map, List.length_range] at this
    simp only [Rows.uptoBulk]
    omega

theorem reads (os : Os) {H : Type} (enc : TypeId × Value → H) : ∃ places, DataW.whole enc Try.prog ((World.holding Try.prog os ⟨#[], #[], []⟩).forCall (fun _ _ => 0) ⟨#[], #[.slice none 0 0, .slice none 0 0, .slice none 0 0], []⟩).memory Try.f7.params.toList Rows.labelMoreSpec.vars false #[(.slice none 0 0 : Value), (.slice none 0 0 : Value), (.slice none 0 0 : Value)].toList 8 = some ([.nil, .nil, .nil], [], places) :=
  ⟨[], by kernel_rfl⟩

theorem params_ok : ∀ t ∈ Try.f7.params.toList, Try.prog.readableRec t = true ∧ t < Try.prog.types.size := by
  rw [Try.params7]
  have hall : ([22, 23, 23].all fun u => Try.prog.readableRec u && decide (u < Try.prog.types.size)) = true := by kernel_rfl
  intro t ht
  simpa using List.all_eq_true.1 hall t (by simpa using ht)

theorem contract (H : Type) (enc : TypeId × Value → H) (W : World) (base : Nat) (args : Array Value) (ds gs : List (DataW H)) (before : List MemPlace)
    (hval : ∀ (j : Nat) t v, Try.f7.params[j]? = some t → args[j]? = some v → Value.okWide Try.prog W .any base t v)
    (hW : DataW.Whole enc Try.prog Try.f7.params.toList Rows.labelMoreSpec.vars false W args.toList ds gs before) (hsz : (DataW.weightsEach Try.prog (Try.f7.params.toList ++ Rows.labelMoreSpec.plain.varTypes Try.prog) (ds ++ gs)).all (· ≤ reachBytes) = true) (hup : Rows.uptoBulkAll (ds ++ gs) ≤ 1048576) :
    Calls Try.prog 7 args W fun e W' => ∃ v, e = .returned v ∧ Rows.labelMoreSpec.post enc Try.prog Try.f7 false true false false W args v W' := by
  have hW' := hW
  obtain ⟨p, q, hA0, hV, rfl, hfz, hnd⟩ := hW
  have hA : DataW.TrodAll enc Try.prog W 0 (fun _ => true) true Try.f7.params.toList args.toList ds p := hA0
  rw [Try.params7] at hA hval
  obtain ⟨v0, vs0, d0, ds0, p0, q0, hargs, rfl, rfl, h0, r0⟩ := trodAll_cons hA
  obtain ⟨v1, vs1, d1, ds1, p1, q1, rfl, rfl, rfl, h1, r1⟩ := trodAll_cons r0
  obtain ⟨v2, vs2, d2, ds2, p2, q2, rfl, rfl, rfl, h2, r2⟩ := trodAll_cons r1
  obtain ⟨rfl, rfl, rfl⟩ := trodAll_nil r2
  obtain rfl : args = #[v0, v1, v2] := by cases args; simp_all
  obtain ⟨rfl, rfl⟩ := trodVars_none hV
  have l0 := light_arg hsz (j := 0) (t := 22) (by rw [Try.params7]; rfl) rfl
  obtain ⟨x0, y0, z0, e0⟩ := okWide_slice Try.underlying22 (hval 0 22 v0 rfl rfl)
  subst e0
  obtain ⟨fu0, hf0⟩ := h0
  obtain ⟨a0, L0, c0, e0, at0, b0⟩ := open_labs (v := .slice x0 y0 z0) hf0 l0
  obtain ⟨rfl, rfl, rfl⟩ : x0 = a0 ∧ y0 = L0.length ∧ z0 = c0 := by simpa using e0
  have l1 := light_arg hsz (j := 1) (t := 23) (by rw [Try.params7]; rfl) rfl
  obtain ⟨x1, y1, z1, e1⟩ := okWide_slice Try.underlying23 (hval 1 23 v1 rfl rfl)
  subst e1
  obtain ⟨fu1, hf1⟩ := h1
  obtain ⟨a1, L1, c1, e1, at1, b1, g1⟩ := open_asks (v := .slice x1 y1 z1) hf1 l1
  obtain ⟨rfl, rfl, rfl⟩ : x1 = a1 ∧ y1 = L1.length ∧ z1 = c1 := by simpa using e1
  have l2 := light_arg hsz (j := 2) (t := 23) (by rw [Try.params7]; rfl) rfl
  obtain ⟨x2, y2, z2, e2⟩ := okWide_slice Try.underlying23 (hval 2 23 v2 rfl rfl)
  subst e2
  obtain ⟨fu2, hf2⟩ := h2
  obtain ⟨a2, L2, c2, e2, at2, b2, g2⟩ := open_asks (v := .slice x2 y2 z2) hf2 l2
  obtain ⟨rfl, rfl, rfl⟩ : x2 = a2 ∧ y2 = L2.length ∧ z2 = c2 := by simpa using e2
  have u1 := bulk_slice hf1
  have u2 := bulk_slice hf2
  have n1 : x1 = none → z1 = 0 := nil_cap hf1
  have n2 : x2 = none → z2 = 0 := nil_cap hf2
  simp only [List.cons_append, List.nil_append, Rows.uptoBulkAll] at hup
  refine (walk x0 z0 L0 x1 z1 L1 x2 z2 L2 W at0 at1 g1 at2 g2 n1 n2 (by omega) (by omega)).mono fun e W' ⟨he, hb⟩ => ?_
  subst he
  exact ⟨_, rfl, law_post laidOut params_ok rfl (tb := 4) (by kernel_rfl) Try.underlying4 rfl hW' hb⟩

set_option maxRecDepth 100000 in
theorem lifted (os : Os) (started : os.Started) (H : Type) (enc : TypeId × Value → H) (F : Stop.Interp) :
    ReturnsInHanded {} Try.checked os 7 .any ((Rows.OpenSpec.upto Rows.labelMoreSpec).preRow enc Try.prog Try.f7 Rows.labelMoreUptoRow.domain false Rows.labelMoreUptoRow.laid) (((Rows.OpenSpec.upto Rows.labelMoreSpec).at F).post enc Try.prog Try.f7 false true false false) := by
  obtain ⟨places, hx⟩ := reads os enc
  refine returnsInHanded_of_row (C := Try.checked) (s := (Rows.OpenSpec.upto Rows.labelMoreSpec)) own started (by kernel_rfl) Try.func7
    (witness_row_at (enc := enc) (C := Try.checked) false (World.holding Try.prog os ⟨#[], #[], []⟩) #[.slice none 0 0, .slice none 0 0, .slice none 0 0] rfl (by kernel_rfl) (by kernel_rfl) (by kernel_rfl)
      (OpenSpec.preRow_of_cond 8 hx (by kernel_rfl) (fun k hk => by cases hk; rfl) (by kernel_rfl) ⟨[], rfl, List.Pairwise.nil, fun _ _ h => by cases h⟩)) ?_
  intro W base args ds gs before hval hW _ hcond hsz _ _ _
  exact contract H enc W base args ds gs before hval hW hsz (of_decide_eq_true (hcond _ rfl))

theorem said : Rows.LabelMoreUptoSaid :=
  OpenClaim.holds_of_cond 7 Try.f7 rfl rfl rfl rfl rfl rfl rfl ⟨rfl, rfl, rfl, rfl, rfl⟩ rfl rfl rfl rfl rfl (by kernel_rfl) Try.func7 (by kernel_rfl)
    (of_decide_eq_true (by kernel_rfl)) (by unfold Func.isWrapper; first | (rw [if_pos (by decide +kernel)]; kernel_rfl) | (rw [if_neg (by decide +kernel)]; exact ⟨rfl, rfl⟩))
    (fun os started H enc _ F => by rw [OpenClaim.pre_eq_preRow]; exact lifted os started H enc F)
end Go.Proofs.Ytpehmobedcflnaa.labelMore
namespace Go.Proofs.Ytpehmobedcflnaa
theorem labelMore_holds : Rows.LabelMoreUptoSaid := labelMore.said
end Go.Proofs.Ytpehmobedcflnaa
