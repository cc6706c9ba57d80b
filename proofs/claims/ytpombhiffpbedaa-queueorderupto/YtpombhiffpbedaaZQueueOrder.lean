/- The law QueueOrder holds of the program (second form: what is handed in holds little enough): pops without anything between come by priority, falling, and of one priority as they were added; the chapter's example comes out. Condition: none. -/
import Derived.Test.YtpombhiffpbedaaZYOrW
import Derived.Test.YtpombhiffpbedaaW02
import Derived.Test.YtpombhiffpbedaaRows
namespace Go.Proofs.Ytpombhiffpbedaa.queueOrder
open Go.ChangeShapes Go.WideShapes Go.ChangeAt Go.RowKit
set_option linter.unusedSimpArgs false

theorem walk (x0 : Option Addr) (y0 z0 : Nat) (L0 : List ByteArray) (x1 : Option Addr) (y1 z1 : Nat) (L1 : List Int) (W : World) (h0 : SlAt RStr 1 16 (fun _ => True) W x0 y0 z0 L0) (h1 : SlAt RInt 1 8 (fun _ => True) W x1 y1 z1 L1) (hm : sumBy (fun _ => 1) L0 ≤ 1048576) : Calls Try.prog 4 #[.slice x0 y0 z0, .slice x1 y1 z1] W fun e w' => e = .returned (.bool true) ∧ Below W.heap.size W w' := by
  rw [sum_one14] at hm
  exact order14_walk x0 y0 z0 L0 x1 y1 z1 L1 W h0 h1 hm

theorem reads (os : Os) {H : Type} (enc : TypeId × Value → H) : ∃ places, DataW.whole enc Try.prog ((World.holding Try.prog os ⟨#[], #[], []⟩).forCall (fun _ _ => 0) ⟨#[], #[.slice none 0 0, .slice none 0 0], []⟩).memory Try.f4.params.toList Rows.queueOrderSpec.vars false #[(.slice none 0 0 : Value), (.slice none 0 0 : Value)].toList 8 = some ([.nil, .nil], [], places) :=
  ⟨[], by kernel_rfl⟩

theorem params_ok : ∀ t ∈ Try.f4.params.toList, Try.prog.readableRec t = true ∧ t < Try.prog.types.size := by
  rw [Try.params4]
  have hall : ([26, 46].all fun u => Try.prog.readableRec u && decide (u < Try.prog.types.size)) = true := by kernel_rfl
  intro t ht
  simpa using List.all_eq_true.1 hall t (by simpa using ht)

set_option maxRecDepth 100000 in
theorem contract (H : Type) (enc : TypeId × Value → H) (W : World) (base : Nat) (args : Array Value) (ds gs : List (DataW H)) (before : List MemPlace)
    (hval : ∀ (j : Nat) t v, Try.f4.params[j]? = some t → args[j]? = some v → Value.okWide Try.prog W .any base t v)
    (hW : DataW.Whole enc Try.prog Try.f4.params.toList Rows.queueOrderSpec.vars false W args.toList ds gs before) (hsz : (DataW.weightsEach Try.prog (Try.f4.params.toList ++ Rows.queueOrderSpec.plain.varTypes Try.prog) (ds ++ gs)).all (· ≤ reachBytes) = true) (hup : Rows.uptoBulkAll (ds ++ gs) ≤ 1048576) :
    Calls Try.prog 4 args W fun e W' => ∃ v, e = .returned v ∧ Rows.queueOrderSpec.post enc Try.prog Try.f4 false true false false W args v W' := by
  have hW' := hW
  obtain ⟨p, q, hA0, hV, rfl, hfz, hnd⟩ := hW
  have hA : DataW.TrodAll enc Try.prog W 0 (fun _ => true) true Try.f4.params.toList args.toList ds p := hA0
  rw [Try.params4] at hA hval
  obtain ⟨v0, vs0, d0, ds0, p0, q0, hargs, rfl, rfl, h0, r0⟩ := trodAll_cons hA
  obtain ⟨v1, vs1, d1, ds1, p1, q1, rfl, rfl, rfl, h1, r1⟩ := trodAll_cons r0
  obtain ⟨rfl, rfl, rfl⟩ := trodAll_nil r1
  obtain rfl : args = #[v0, v1] := by cases args; simp_all
  obtain ⟨rfl, rfl⟩ := trodVars_none hV
  have l0 := light_arg hsz (j := 0) (t := 26) (by rw [Try.params4]; rfl) rfl
  obtain ⟨x0, y0, z0, e0⟩ := okWide_slice Try.underlying26 (hval 0 26 v0 rfl rfl)
  subst e0
  obtain ⟨fu0, hf0⟩ := h0
  obtain ⟨L0, ⟨a0, n0, c0, e0, s0⟩, m0⟩ := opensM_strs14 hf0 l0
  obtain ⟨rfl, rfl, rfl⟩ : x0 = a0 ∧ y0 = n0 ∧ z0 = c0 := by simpa [Value.cells] using e0
  have m0 : sumBy (fun _ => 1) L0 ≤ Rows.uptoBulk d0 := m0
  have l1 := light_arg hsz (j := 1) (t := 46) (by rw [Try.params4]; rfl) rfl
  obtain ⟨x1, y1, z1, e1⟩ := okWide_slice Try.underlying46 (hval 1 46 v1 rfl rfl)
  subst e1
  obtain ⟨fu1, hf1⟩ := h1
  obtain ⟨L1, ⟨a1, n1, c1, e1, s1⟩, m1⟩ := opensM_ints hf1 l1
  obtain ⟨rfl, rfl, rfl⟩ : x1 = a1 ∧ y1 = n1 ∧ z1 = c1 := by simpa [Value.cells] using e1
  have m1 : sumBy (fun _ => 1) L1 ≤ Rows.uptoBulk d1 := m1
  simp only [List.cons_append, List.nil_append, Rows.uptoBulkAll] at hup
  refine (walk x0 y0 z0 L0 x1 y1 z1 L1 W s0 s1 (by omega)).mono fun e W' ⟨he, hb⟩ => ?_
  subst he
  exact ⟨_, rfl, law_post laidOut params_ok rfl (tb := 4) (by kernel_rfl) Try.underlying4 rfl hW' hb⟩

set_option maxHeartbeats 8000000 in
set_option maxRecDepth 100000 in
theorem lifted (os : Os) (started : os.Started) (H : Type) (enc : TypeId × Value → H) (F : Stop.Interp) :
    ReturnsInHanded {} Try.checked os 4 .any ((Rows.OpenSpec.upto Rows.queueOrderSpec).preRow enc Try.prog Try.f4 Rows.queueOrderUptoRow.domain false Rows.queueOrderUptoRow.laid) (((Rows.OpenSpec.upto Rows.queueOrderSpec).at F).post enc Try.prog Try.f4 false true false false) := by
  obtain ⟨places, hx⟩ := reads os enc
  refine returnsInHanded_of_row (C := Try.checked) (s := (Rows.OpenSpec.upto Rows.queueOrderSpec)) own started (by kernel_rfl) Try.func4
    (witness_row_at (enc := enc) (C := Try.checked) false (World.holding Try.prog os ⟨#[], #[], []⟩) #[.slice none 0 0, .slice none 0 0] rfl (by kernel_rfl) (by kernel_rfl) (by kernel_rfl)
      (OpenSpec.preRow_of_cond 8 hx (by kernel_rfl) (fun k hk => by cases hk; rfl) (by kernel_rfl) ⟨[], rfl, List.Pairwise.nil, fun _ _ h => by cases h⟩)) ?_
  intro W base args ds gs before hval hW _ hcond hsz _ _ _
  exact contract H enc W base args ds gs before hval hW hsz (of_decide_eq_true (hcond _ rfl))

theorem said : Rows.QueueOrderUptoSaid :=
  OpenClaim.holds_of_cond 4 Try.f4 rfl rfl rfl rfl rfl rfl rfl ⟨rfl, rfl, rfl, rfl, rfl⟩ rfl rfl rfl rfl rfl (by kernel_rfl) Try.func4 (by kernel_rfl)
    (of_decide_eq_true (by kernel_rfl)) (by unfold Func.isWrapper; first | (rw [if_pos (by decide +kernel)]; kernel_rfl) | (rw [if_neg (by decide +kernel)]; exact ⟨rfl, rfl⟩))
    (fun os started H enc _ F => by rw [OpenClaim.pre_eq_preRow]; exact lifted os started H enc F)
end Go.Proofs.Ytpombhiffpbedaa.queueOrder
namespace Go.Proofs.Ytpombhiffpbedaa
theorem queueOrder_holds : Rows.QueueOrderUptoSaid := queueOrder.said
end Go.Proofs.Ytpombhiffpbedaa
