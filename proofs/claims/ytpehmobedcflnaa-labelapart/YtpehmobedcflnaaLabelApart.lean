/- The law LabelApart holds of the program: a label of another key changes nothing of what is met; the chapter's example comes out. For every input; no condition. -/
import Derived.Test.YtpehmobedcflnaaLApartNone
namespace Go.Proofs.Ytpehmobedcflnaa.labelApart
open Go.ChangeShapes Go.WideShapes Go.ChangeAt Go.RowKit
set_option linter.unusedSimpArgs false

set_option maxHeartbeats 2000000 in
theorem walk_same (a : Option Addr) (cap : Nat) (L : List Lab) (key : ByteArray) (op : Int) (b : Option Addr) (capb : Nat) (V : List ByteArray) (x y : ByteArray) (n : Int) (w : World) (he : x = key) :
    Calls Try.prog 8 #[.slice a L.length cap, .agg #[.string key, .int .i64 op, .slice b V.length capb], .agg #[.string x, .string y], .int .i64 n] w fun e w' => e = .returned (.bool true) ∧ Below w.heap.size w w' := by
  subst he
  have hS0 := ApS.start w x op b V.length capb x y
  have hb0 : Below w.heap.size w ((w.alloc (.cells #[.string x, .int .i64 op, .slice b V.length capb] 41)).alloc (.cells #[.string x, .string y] 52)) := by go_grown
  have hwk := works_calls ((w.alloc (.cells #[.string x, .int .i64 op, .slice b V.length capb] 41)).alloc (.cells #[.string x, .string y] 52))
  have hxx : (x.toList == x.toList) = true := by simp
  go_enter Try.func8, Try.ntmps8
  go_wp2_with fail
  refine hwk.mono ?_
  rintro e w3 ⟨rfl, hb3⟩
  obtain ⟨_, c0, c1, c2, c3, c4⟩ := hS0.to (by simp; omega) (by simp) hb3
  have hb := on2 hb0 hb3
  clear hS0 hwk hb3 hb0
  go_wp2_with fail
  go_ret
  exact ⟨rfl, hb⟩

theorem walk (a : Option Addr) (cap : Nat) (L : List Lab) (key : ByteArray) (op : Int) (b : Option Addr) (capb : Nat) (V : List ByteArray) (x y : ByteArray) (n : Int) (w : World) (hL : Hid (LabsAt w a L)) (hLb : L.length * 32 ≤ 140737488351232) (hV : Hid (StrsAt w b V)) (hx : x.size ≤ 140737488355328) (hy : y.size ≤ 140737488355328) (hcap : L.length ≤ cap) (hn : a = none → cap = 0) :
    Calls Try.prog 8 #[.slice a L.length cap, .agg #[.string key, .int .i64 op, .slice b V.length capb], .agg #[.string x, .string y], .int .i64 n] w fun e w' => e = .returned (.bool true) ∧ Below w.heap.size w w' := by
  by_cases he : x = key
  · exact walk_same a cap L key op b capb V x y n w he
  · match a with
    | none =>
      obtain rfl := hn rfl
      obtain rfl : L = [] := List.length_eq_zero_iff.1 (by omega)
      exact walk_none key op b capb V x y n w hV hx hy (sEq_false he)
    | some ad => exact walk_some ad cap L key op b capb V x y n w hL hLb hV hx hy hcap (sEq_false he)

/-- A slice's room. -/
theorem cap_ge {H : Type} {enc : TypeId × Value → H} {W : World} {base n : Nat} {sp : Nat → Bool} {held : Bool} {x : Option Addr} {y z : Nat} {d : DataW H × List MemPlace} (h : DataW.trod enc Try.prog W base sp held n 22 [.slice x y z] = some d) : y ≤ z ∧ (x = none → z = 0) := by
  rcases Go.Deep.open_slice Try.underlying22 h with ⟨hv, _⟩ | ⟨a, len, cap, m, k, D, Pl, hv, _, hl, _⟩
  · simp at hv; exact ⟨by omega, fun _ => hv.2.2⟩
  · simp at hv; exact ⟨by omega, fun e => by rw [e] at hv; simp at hv⟩

theorem reads (os : Os) {H : Type} (enc : TypeId × Value → H) : ∃ places, DataW.whole enc Try.prog ((World.holding Try.prog os ⟨#[], #[], []⟩).forCall (fun _ _ => 0) ⟨#[], #[.slice none 0 0, .agg #[.string ByteArray.empty, .int .i64 0, .slice none 0 0], .agg #[.string ByteArray.empty, .string ByteArray.empty], .int .i64 0], []⟩).memory Try.f8.params.toList Rows.labelApartSpec.vars false #[(.slice none 0 0 : Value), (.agg #[.string ByteArray.empty, .int .i64 0, .slice none 0 0] : Value), (.agg #[.string ByteArray.empty, .string ByteArray.empty] : Value), (.int .i64 0 : Value)].toList 8 = some ([.nil, .agg [.lit (.string []), .lit (.int .i64 0), .nil], .agg [.lit (.string []), .lit (.string [])], .lit (.int .i64 0)], [], places) :=
  ⟨[], by kernel_rfl⟩

theorem params_ok : ∀ t ∈ Try.f8.params.toList, Try.prog.readableRec t = true ∧ t < Try.prog.types.size := by
  rw [Try.params8]
  have hall : ([22, 41, 52, 3].all fun u => Try.prog.readableRec u && decide (u < Try.prog.types.size)) = true := by kernel_rfl
  intro t ht
  simpa using List.all_eq_true.1 hall t (by simpa using ht)

theorem contract (H : Type) (enc : TypeId × Value → H) (W : World) (base : Nat) (args : Array Value) (ds gs : List (DataW H)) (before : List MemPlace)
    (hval : ∀ (j : Nat) t v, Try.f8.params[j]? = some t → args[j]? = some v → Value.okWide Try.prog W .any base t v)
    (hW : DataW.Whole enc Try.prog Try.f8.params.toList Rows.labelApartSpec.vars false W args.toList ds gs before) (hsz : (DataW.weightsEach Try.prog (Try.f8.params.toList ++ Rows.labelApartSpec.plain.varTypes Try.prog) (ds ++ gs)).all (· ≤ reachBytes) = true) :
    Calls Try.prog 8 args W fun e W' => ∃ v, e = .returned v ∧ Rows.labelApartSpec.post enc Try.prog Try.f8 false true false false W args v W' := by
  have hW' := hW
  obtain ⟨p, q, hA0, hV, rfl, hfz, hnd⟩ := hW
  have hA : DataW.TrodAll enc Try.prog W 0 (fun _ => true) true Try.f8.params.toList args.toList ds p := hA0
  rw [Try.params8] at hA hval
  obtain ⟨v0, vs0, d0, ds0, p0, q0, hargs, rfl, rfl, h0, r0⟩ := trodAll_cons hA
  obtain ⟨v1, vs1, d1, ds1, p1, q1, rfl, rfl, rfl, h1, r1⟩ := trodAll_cons r0
  obtain ⟨v2, vs2, d2, ds2, p2, q2, rfl, rfl, rfl, h2, r2⟩ := trodAll_cons r1
  obtain ⟨v3, vs3, d3, ds3, p3, q3, rfl, rfl, rfl, h3, r3⟩ := trodAll_cons r2
  obtain ⟨rfl, rfl, rfl⟩ := trodAll_nil r3
  obtain rfl : args = #[v0, v1, v2, v3] := by cases args; simp_all
  obtain ⟨rfl, rfl⟩ := trodVars_none hV
  have l0 := light_arg hsz (j := 0) (t := 22) (by rw [Try.params8]; rfl) rfl
  obtain ⟨x0, y0, z0, e0⟩ := okWide_slice Try.underlying22 (hval 0 22 v0 rfl rfl)
  subst e0
  obtain ⟨fu0, hf0⟩ := h0
  obtain ⟨a0, L0, c0, e0, at0, b0⟩ := open_labs (v := .slice x0 y0 z0) hf0 l0
  obtain ⟨rfl, rfl, rfl⟩ : x0 = a0 ∧ y0 = L0.length ∧ z0 = c0 := by simpa using e0
  have l1 := light_arg hsz (j := 1) (t := 41) (by rw [Try.params8]; rfl) rfl
  obtain ⟨u1, m1, c1, y1, y11, y12, k1, rfl, rfl, rfl, hy1, hz1, ht1⟩ := Go.Joins.open_agg3 Try.underlying41 (by kernel_rfl) (by kernel_rfl) (hval 1 41 v1 rfl rfl) h1
  obtain ⟨s1, rfl, _⟩ := open_str hy1 (light_struct Try.underlying41 l1 (j := 0) rfl rfl)
  obtain ⟨n1, en1, _, _⟩ := DataW.trod_int Try.underlying3 hz1
  obtain rfl : m1 = .int .i64 n1 := by simpa using en1
  obtain ⟨a1, L1, z1, rfl, at1, _⟩ := open_strs ht1 (light_struct Try.underlying41 l1 (j := 2) rfl rfl)
  have l2 := light_arg hsz (j := 2) (t := 52) (by rw [Try.params8]; rfl) rfl
  obtain ⟨u2, m2, y2, y21, k2, rfl, rfl, rfl, hy2, hz2⟩ := Go.Joins.open_agg2 Try.underlying52 (by kernel_rfl) (by kernel_rfl) (hval 2 52 v2 rfl rfl) h2
  obtain ⟨s2, rfl, w2⟩ := open_str hy2 (light_struct Try.underlying52 l2 (j := 0) rfl rfl)
  obtain ⟨t2, rfl, j2⟩ := open_str hz2 (light_struct Try.underlying52 l2 (j := 1) rfl rfl)
  have l3 := light_arg hsz (j := 3) (t := 3) (by rw [Try.params8]; rfl) rfl
  obtain ⟨n3, rfl, rfl, rfl, _⟩ := open_int Try.underlying3 (hval 3 3 v3 rfl rfl) h3
  refine (walk x0 z0 L0 s1 n1 a1 z1 L1 s2 t2 n3 W at0 b0 at1 w2 j2 (cap_ge hf0).1 (cap_ge hf0).2).mono fun e W' ⟨he, hb⟩ => ?_
  subst he
  exact ⟨_, rfl, law_post laidOut params_ok rfl (tb := 4) (by kernel_rfl) Try.underlying4 rfl hW' hb⟩

set_option maxRecDepth 100000 in
theorem lifted (os : Os) (started : os.Started) (H : Type) (enc : TypeId × Value → H) (F : Stop.Interp) :
    ReturnsInHanded {} Try.checked os 8 .any ((OpenSpec.ofChange Rows.labelApartSpec).preRow enc Try.prog Try.f8 Rows.labelApartRow.domain false Rows.labelApartRow.laid) (((OpenSpec.ofChange Rows.labelApartSpec).at F).post enc Try.prog Try.f8 false true false false) := by
  obtain ⟨places, hx⟩ := reads os enc
  refine returnsInHanded_of_row (C := Try.checked) (s := (OpenSpec.ofChange Rows.labelApartSpec)) own started (by kernel_rfl) Try.func8
    (witness_row_at (enc := enc) (C := Try.checked) false (World.holding Try.prog os ⟨#[], #[], []⟩) #[.slice none 0 0, .agg #[.string ByteArray.empty, .int .i64 0, .slice none 0 0], .agg #[.string ByteArray.empty, .string ByteArray.empty], .int .i64 0] rfl (by kernel_rfl) (by kernel_rfl) (by kernel_rfl)
      (OpenSpec.preRow_of_cond 8 hx (by kernel_rfl) (fun k hk => by cases hk) (by kernel_rfl) ⟨[], rfl, List.Pairwise.nil, fun _ _ h => by cases h⟩)) ?_
  intro W base args ds gs before hval hW _ _ hsz _ _ _
  exact contract H enc W base args ds gs before hval hW hsz

theorem said : Rows.LabelApartSaid :=
  OpenClaim.holds_of_cond 8 Try.f8 rfl rfl rfl rfl rfl rfl rfl ⟨rfl, rfl, rfl, rfl, rfl⟩ rfl rfl rfl rfl rfl (by kernel_rfl) Try.func8 (by kernel_rfl)
    (of_decide_eq_true (by kernel_rfl)) (by unfold Func.isWrapper; first | (rw [if_pos (by decide +kernel)]; kernel_rfl) | (rw [if_neg (by decide +kernel)]; exact ⟨rfl, rfl⟩))
    (fun os started H enc _ F => by rw [OpenClaim.pre_eq_preRow]; exact lifted os started H enc F)
end Go.Proofs.Ytpehmobedcflnaa.labelApart
namespace Go.Proofs.Ytpehmobedcflnaa
theorem labelApart_holds : Rows.LabelApartSaid := labelApart.said
end Go.Proofs.Ytpehmobedcflnaa
