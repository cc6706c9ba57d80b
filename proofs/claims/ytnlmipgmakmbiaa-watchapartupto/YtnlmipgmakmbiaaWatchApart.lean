/- The law WatchApart holds of the program (second form: what is handed in holds little enough): what comes of one kind changes nothing of another one; the chapter's example comes out. Condition: none. -/
import Derived.Test.YtnlmipgmakmbiaaWApW
import Derived.Test.YtnlmipgmakmbiaaWM
import Derived.Test.YtnlmipgmakmbiaaWPg
import Derived.Test.YtnlmipgmakmbiaaRows
namespace Go.Proofs.Ytnlmipgmakmbiaa.watchApart
open Go.ChangeShapes Go.WideShapes Go.ChangeAt Go.RowKit
set_option linter.unusedSimpArgs false

theorem walk (V : WatchOK) (x0 : Option Addr) (y0 z0 : Nat) (L0 : List Int) (n1 n2 : Int) (x3 : Option Addr) (y3 z3 : Nat) (L3 : List ActD) (W : World) (h0 : SlAt RInt 1 8 (fun _ => True) W x0 y0 z0 L0) (h3 : SlAt RAct 3 24 (fun _ => True) W x3 y3 z3 L3) (hm : sumBy (fun _ => 1) L0 ≤ 1048576) : Calls Try.prog 5 #[.slice x0 y0 z0, .int .i64 n1, .int .i64 n2, .slice x3 y3 z3] W fun e w' => e = .returned (.bool true) ∧ Below W.heap.size W w' :=
  apart_walk V x0 y0 z0 L0 n1 n2 x3 y3 z3 L3 W h0 h3 (by have h9 := h0.1; rw [sum_one13] at hm; omega)

theorem reads (os : Os) {H : Type} (enc : TypeId × Value → H) : ∃ places, DataW.whole enc Try.prog ((World.holding Try.prog os ⟨#[], #[], []⟩).forCall (fun _ _ => 0) ⟨#[], #[.slice none 0 0, .int .i64 0, .int .i64 0, .slice none 0 0], []⟩).memory Try.f5.params.toList Rows.watchApartSpec.vars false #[(.slice none 0 0 : Value), (.int .i64 0 : Value), (.int .i64 0 : Value), (.slice none 0 0 : Value)].toList 8 = some ([.nil, .lit (.int .i64 0), .lit (.int .i64 0), .nil], [], places) :=
  ⟨[], by kernel_rfl⟩

theorem params_ok : ∀ t ∈ Try.f5.params.toList, Try.prog.readableRec t = true ∧ t < Try.prog.types.size := by
  rw [Try.params5]
  have hall : ([22, 3, 3, 23].all fun u => Try.prog.readableRec u && decide (u < Try.prog.types.size)) = true := by kernel_rfl
  intro t ht
  simpa using List.all_eq_true.1 hall t (by simpa using ht)

set_option maxRecDepth 100000 in
theorem contract (V : WatchOK) (H : Type) (enc : TypeId × Value → H) (W : World) (base : Nat) (args : Array Value) (ds gs : List (DataW H)) (before : List MemPlace)
    (hval : ∀ (j : Nat) t v, Try.f5.params[j]? = some t → args[j]? = some v → Value.okWide Try.prog W .any base t v)
    (hW : DataW.Whole enc Try.prog Try.f5.params.toList Rows.watchApartSpec.vars false W args.toList ds gs before) (hsz : (DataW.weightsEach Try.prog (Try.f5.params.toList ++ Rows.watchApartSpec.plain.varTypes Try.prog) (ds ++ gs)).all (· ≤ reachBytes) = true) (hup : Rows.uptoBulkAll (ds ++ gs) ≤ 1048576) :
    Calls Try.prog 5 args W fun e W' => ∃ v, e = .returned v ∧ Rows.watchApartSpec.post enc Try.prog Try.f5 false true false false W args v W' := by
  have hW' := hW
  obtain ⟨p, q, hA0, hV, rfl, hfz, hnd⟩ := hW
  have hA : DataW.TrodAll enc Try.prog W 0 (fun _ => true) true Try.f5.params.toList args.toList ds p := hA0
  rw [Try.params5] at hA hval
  obtain ⟨v0, vs0, d0, ds0, p0, q0, hargs, rfl, rfl, h0, r0⟩ := trodAll_cons hA
  obtain ⟨v1, vs1, d1, ds1, p1, q1, rfl, rfl, rfl, h1, r1⟩ := trodAll_cons r0
  obtain ⟨v2, vs2, d2, ds2, p2, q2, rfl, rfl, rfl, h2, r2⟩ := trodAll_cons r1
  obtain ⟨v3, vs3, d3, ds3, p3, q3, rfl, rfl, rfl, h3, r3⟩ := trodAll_cons r2
  obtain ⟨rfl, rfl, rfl⟩ := trodAll_nil r3
  obtain rfl : args = #[v0, v1, v2, v3] := by cases args; simp_all
  obtain ⟨rfl, rfl⟩ := trodVars_none hV
  have l0 := light_arg hsz (j := 0) (t := 22) (by rw [Try.params5]; rfl) rfl
  obtain ⟨x0, y0, z0, e0⟩ := okWide_slice Try.underlying22 (hval 0 22 v0 rfl rfl)
  subst e0
  obtain ⟨fu0, hf0⟩ := h0
  obtain ⟨L0, ⟨a0, n0, c0, e0, s0⟩, m0⟩ := opensM_ints hf0 l0
  obtain ⟨rfl, rfl, rfl⟩ : x0 = a0 ∧ y0 = n0 ∧ z0 = c0 := by simpa [Value.cells] using e0
  have m0 : sumBy (fun _ => 1) L0 ≤ Rows.uptoBulk d0 := m0
  have l1 := light_arg hsz (j := 1) (t := 3) (by rw [Try.params5]; rfl) rfl
  obtain ⟨n1, rfl, rfl, rfl, w1⟩ := open_int Try.underlying3 (hval 1 3 v1 rfl rfl) h1
  have l2 := light_arg hsz (j := 2) (t := 3) (by rw [Try.params5]; rfl) rfl
  obtain ⟨n2, rfl, rfl, rfl, w2⟩ := open_int Try.underlying3 (hval 2 3 v2 rfl rfl) h2
  have l3 := light_arg hsz (j := 3) (t := 23) (by rw [Try.params5]; rfl) rfl
  obtain ⟨x3, y3, z3, e3⟩ := okWide_slice Try.underlying23 (hval 3 23 v3 rfl rfl)
  subst e3
  obtain ⟨fu3, hf3⟩ := h3
  obtain ⟨L3, a3, n3, c3, e3, s3⟩ := opens_s_Act hf3 l3
  obtain ⟨rfl, rfl, rfl⟩ : x3 = a3 ∧ y3 = n3 ∧ z3 = c3 := by simpa [Value.cells] using e3
  simp only [List.cons_append, List.nil_append, Rows.uptoBulkAll] at hup
  refine (walk V x0 y0 z0 L0 n1 n2 x3 y3 z3 L3 W s0 s3 (by omega)).mono fun e W' ⟨he, hb⟩ => ?_
  subst he
  exact ⟨_, rfl, law_post laidOut params_ok rfl (tb := 4) (by kernel_rfl) Try.underlying4 rfl hW' hb⟩

set_option maxHeartbeats 8000000 in
set_option maxRecDepth 100000 in
theorem lifted (V : WatchOK) (os : Os) (started : os.Started) (H : Type) (enc : TypeId × Value → H) (F : Stop.Interp) :
    ReturnsInHanded {} Try.checked os 5 .any ((Rows.OpenSpec.upto Rows.watchApartSpec).preRow enc Try.prog Try.f5 Rows.watchApartUptoRow.domain false Rows.watchApartUptoRow.laid) (((Rows.OpenSpec.upto Rows.watchApartSpec).at F).post enc Try.prog Try.f5 false true false false) := by
  obtain ⟨places, hx⟩ := reads os enc
  refine returnsInHanded_of_row (C := Try.checked) (s := (Rows.OpenSpec.upto Rows.watchApartSpec)) own started (by kernel_rfl) Try.func5
    (witness_row_at (enc := enc) (C := Try.checked) false (World.holding Try.prog os ⟨#[], #[], []⟩) #[.slice none 0 0, .int .i64 0, .int .i64 0, .slice none 0 0] rfl (by kernel_rfl) (by kernel_rfl) (by kernel_rfl)
      (OpenSpec.preRow_of_cond 8 hx (by kernel_rfl) (fun k hk => by cases hk; rfl) (by kernel_rfl) ⟨[], rfl, List.Pairwise.nil, fun _ _ h => by cases h⟩)) ?_
  intro W base args ds gs before hval hW _ hcond hsz _ _ _
  exact contract V H enc W base args ds gs before hval hW hsz (of_decide_eq_true (hcond _ rfl))

theorem said (V : WatchOK) : Rows.WatchApartUptoSaid :=
  OpenClaim.holds_of_cond 5 Try.f5 rfl rfl rfl rfl rfl rfl rfl ⟨rfl, rfl, rfl, rfl, rfl⟩ rfl rfl rfl rfl rfl (by kernel_rfl) Try.func5 (by kernel_rfl)
    (of_decide_eq_true (by kernel_rfl)) (by unfold Func.isWrapper; first | (rw [if_pos (by decide +kernel)]; kernel_rfl) | (rw [if_neg (by decide +kernel)]; exact ⟨rfl, rfl⟩))
    (fun os started H enc _ F => by rw [OpenClaim.pre_eq_preRow]; exact lifted V os started H enc F)
end Go.Proofs.Ytnlmipgmakmbiaa.watchApart
namespace Go.Proofs.Ytnlmipgmakmbiaa
theorem watchApart_holds : Rows.WatchApartUptoSaid := watchApart.said watchOK
end Go.Proofs.Ytnlmipgmakmbiaa

