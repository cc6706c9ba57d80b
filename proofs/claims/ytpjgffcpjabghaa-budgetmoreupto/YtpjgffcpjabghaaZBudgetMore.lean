/- The law BudgetMore holds of the program: a victim more, behind the others, changes nothing of those ahead; the chapter's example comes out. Condition: what is handed in holds at most 1048576 values and letters. -/
import Derived.Test.YtpjgffcpjabghaaZBkMW
import Derived.Test.YtpjgffcpjabghaaZBkAM
import Derived.Test.YtpjgffcpjabghaaQ20
import Derived.Test.YtpjgffcpjabghaaQ18
import Derived.Test.YtpjgffcpjabghaaRows
namespace Go.Proofs.Ytpjgffcpjabghaa.budgetMore
open Go.ChangeShapes Go.WideShapes Go.ChangeAt Go.RowKit
set_option linter.unusedSimpArgs false

theorem walk (c0 : List Value) (y0 : StateD) (x1 : Option Addr) (y1 z1 : Nat) (L1 : List ByteArray) (x2 : Option Addr) (y2 z2 : Nat) (L2 : List ByteArray) (W : World) (hs : RStateQ (fun _ => True) W c0 y0) (h1 : SlAt RStr 1 16 (fun _ => True) W x1 y1 z1 L1) (h2 : SlAt RStr 1 16 (fun _ => True) W x2 y2 z2 L2) (hb : sumBy (fun _ => 1) L1 + sumBy (fun _ => 1) L2 ≤ 1048576) : Calls Try.prog 4 #[.agg c0.toArray, .slice x1 y1 z1, .slice x2 y2 z2] W fun e w' => e = .returned (.bool true) ∧ Below W.heap.size W w' := by
  rw [sum_len18, sum_len18] at hb
  exact more_walk18 budgetOK c0 y0 x1 y1 z1 L1 x2 y2 z2 L2 W hs.state.1 h1 h2 hb hs.state.2

theorem reads (os : Os) {H : Type} (enc : TypeId × Value → H) : ∃ places, DataW.whole enc Try.prog ((World.holding Try.prog os ⟨#[], #[], []⟩).forCall (fun _ _ => 0) ⟨#[], #[.agg #[.slice none 0 0, .slice none 0 0, .slice none 0 0, .slice none 0 0, .slice none 0 0, .slice none 0 0], .slice none 0 0, .slice none 0 0], []⟩).memory Try.f4.params.toList Rows.budgetMoreSpec.vars false #[(.agg #[.slice none 0 0, .slice none 0 0, .slice none 0 0, .slice none 0 0, .slice none 0 0, .slice none 0 0] : Value), (.slice none 0 0 : Value), (.slice none 0 0 : Value)].toList 8 = some ([.agg [.nil, .nil, .nil, .nil, .nil, .nil], .nil, .nil], [], places) :=
  ⟨[], by kernel_rfl⟩

theorem params_ok : ∀ t ∈ Try.f4.params.toList, Try.prog.readableRec t = true ∧ t < Try.prog.types.size := by
  rw [Try.params4]
  have hall : ([29, 30, 30].all fun u => Try.prog.readableRec u && decide (u < Try.prog.types.size)) = true := by kernel_rfl
  intro t ht
  simpa using List.all_eq_true.1 hall t (by simpa using ht)

set_option maxRecDepth 100000 in
theorem contract (H : Type) (enc : TypeId × Value → H) (W : World) (base : Nat) (args : Array Value) (ds gs : List (DataW H)) (before : List MemPlace)
    (hval : ∀ (j : Nat) t v, Try.f4.params[j]? = some t → args[j]? = some v → Value.okWide Try.prog W .any base t v)
    (hW : DataW.Whole enc Try.prog Try.f4.params.toList Rows.budgetMoreSpec.vars false W args.toList ds gs before) (hsz : (DataW.weightsEach Try.prog (Try.f4.params.toList ++ Rows.budgetMoreSpec.plain.varTypes Try.prog) (ds ++ gs)).all (· ≤ reachBytes) = true) (hup : Rows.uptoBulkAll (ds ++ gs) ≤ 1048576) :
    Calls Try.prog 4 args W fun e W' => ∃ v, e = .returned v ∧ Rows.budgetMoreSpec.post enc Try.prog Try.f4 false true false false W args v W' := by
  have hW' := hW
  obtain ⟨p, q, hA0, hV, rfl, hfz, hnd⟩ := hW
  have hA : DataW.TrodAll enc Try.prog W 0 (fun _ => true) true Try.f4.params.toList args.toList ds p := hA0
  rw [Try.params4] at hA hval
  obtain ⟨v0, vs0, d0, ds0, p0, q0, hargs, rfl, rfl, h0, r0⟩ := trodAll_cons hA
  obtain ⟨v1, vs1, d1, ds1, p1, q1, rfl, rfl, rfl, h1, r1⟩ := trodAll_cons r0
  obtain ⟨v2, vs2, d2, ds2, p2, q2, rfl, rfl, rfl, h2, r2⟩ := trodAll_cons r1
  obtain ⟨rfl, rfl, rfl⟩ := trodAll_nil r2
  obtain rfl : args = #[v0, v1, v2] := by cases args; simp_all
  obtain ⟨rfl, rfl⟩ := trodVars_none hV
  have l0 := light_arg hsz (j := 0) (t := 29) (by rw [Try.params4]; rfl) rfl
  obtain ⟨cc0, y0, rfl, hy0⟩ := opens_arg Try.underlying29 opens_StateQ (hval 0 29 v0 rfl rfl) h0 l0
  obtain ⟨c0, rfl⟩ : ∃ c : List Value, cc0 = c.toArray := ⟨cc0.toList, by simp⟩
  have hz0 := hy0
  have l1 := light_arg hsz (j := 1) (t := 30) (by rw [Try.params4]; rfl) rfl
  obtain ⟨x1, y1, z1, e1⟩ := okWide_slice Try.underlying30 (hval 1 30 v1 rfl rfl)
  subst e1
  obtain ⟨fu1, hf1⟩ := h1
  obtain ⟨L1, ⟨a1, n1, c1, e1, s1⟩, m1⟩ := opensM_strs18 hf1 l1
  obtain ⟨rfl, rfl, rfl⟩ : x1 = a1 ∧ y1 = n1 ∧ z1 = c1 := by simpa [Value.cells] using e1
  have m1 : sumBy (fun _ => 1) L1 ≤ Rows.uptoBulk d1 := m1
  have l2 := light_arg hsz (j := 2) (t := 30) (by rw [Try.params4]; rfl) rfl
  obtain ⟨x2, y2, z2, e2⟩ := okWide_slice Try.underlying30 (hval 2 30 v2 rfl rfl)
  subst e2
  obtain ⟨fu2, hf2⟩ := h2
  obtain ⟨L2, ⟨a2, n2, c2, e2, s2⟩, m2⟩ := opensM_strs18 hf2 l2
  obtain ⟨rfl, rfl, rfl⟩ : x2 = a2 ∧ y2 = n2 ∧ z2 = c2 := by simpa [Value.cells] using e2
  have m2 : sumBy (fun _ => 1) L2 ≤ Rows.uptoBulk d2 := m2
  simp only [List.cons_append, List.nil_append, Rows.uptoBulkAll] at hup
  refine (walk c0 y0 x1 y1 z1 L1 x2 y2 z2 L2 W hy0 s1 s2 (by omega)).mono fun e W' ⟨he, hb⟩ => ?_
  subst he
  exact ⟨_, rfl, law_post laidOut params_ok rfl (tb := 4) (by kernel_rfl) Try.underlying4 rfl hW' hb⟩

set_option maxHeartbeats 8000000 in
set_option maxRecDepth 100000 in
theorem lifted (os : Os) (started : os.Started) (H : Type) (enc : TypeId × Value → H) (F : Stop.Interp) :
    ReturnsInHanded {} Try.checked os 4 .any ((Rows.OpenSpec.upto Rows.budgetMoreSpec).preRow enc Try.prog Try.f4 Rows.budgetMoreUptoRow.domain false Rows.budgetMoreUptoRow.laid) (((Rows.OpenSpec.upto Rows.budgetMoreSpec).at F).post enc Try.prog Try.f4 false true false false) := by
  obtain ⟨places, hx⟩ := reads os enc
  refine returnsInHanded_of_row (C := Try.checked) (s := (Rows.OpenSpec.upto Rows.budgetMoreSpec)) own started (by kernel_rfl) Try.func4
    (witness_row_at (enc := enc) (C := Try.checked) false (World.holding Try.prog os ⟨#[], #[], []⟩) #[.agg #[.slice none 0 0, .slice none 0 0, .slice none 0 0, .slice none 0 0, .slice none 0 0, .slice none 0 0], .slice none 0 0, .slice none 0 0] rfl (by kernel_rfl) (by kernel_rfl) (by kernel_rfl)
      (OpenSpec.preRow_of_cond 8 hx (by kernel_rfl) (fun k hk => by cases hk; rfl) (by kernel_rfl) ⟨[], rfl, List.Pairwise.nil, fun _ _ h => by cases h⟩)) ?_
  intro W base args ds gs before hval hW _ hcond hsz _ _ _
  exact contract H enc W base args ds gs before hval hW hsz (of_decide_eq_true (hcond _ rfl))

theorem said : Rows.BudgetMoreUptoSaid :=
  OpenClaim.holds_of_cond 4 Try.f4 rfl rfl rfl rfl rfl rfl rfl ⟨rfl, rfl, rfl, rfl, rfl⟩ rfl rfl rfl rfl rfl (by kernel_rfl) Try.func4 (by kernel_rfl)
    (of_decide_eq_true (by kernel_rfl)) (by unfold Func.isWrapper; first | (rw [if_pos (by decide +kernel)]; kernel_rfl) | (rw [if_neg (by decide +kernel)]; exact ⟨rfl, rfl⟩))
    (fun os started H enc _ F => by rw [OpenClaim.pre_eq_preRow]; exact lifted os started H enc F)
end Go.Proofs.Ytpjgffcpjabghaa.budgetMore
namespace Go.Proofs.Ytpjgffcpjabghaa
theorem budgetMore_holds : Rows.BudgetMoreUptoSaid := budgetMore.said
end Go.Proofs.Ytpjgffcpjabghaa
