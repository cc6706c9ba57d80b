/- The law ObjectStates holds of the program: any state is judged as the document says, and a copy of it is the same; the chapter's examples come out. Condition: the argument holds at most 1048576 values and letters. -/
import Derived.Test.YtfbnnfpnjjjfcaaGreatRows
import Derived.Test.YtfbnnfpnjjjfcaaGreatS50
namespace Go.Proofs.YtfbnnfpnjjjfcaaGreat.objectStates
set_option maxHeartbeats 16000000
set_option maxRecDepth 100000
open Go.Proofs.Tryz Go.ChangeShapes Go.WideShapes Go.ChangeAt Go.RowKit
set_option linter.unusedSimpArgs false
theorem states_upto (ss : List Value) (x : StateD) (w : World) (h : RState (fun _ => True) w ss x) (hm : mState x ≤ 1048576) : Calls prog 4 #[.agg ss.toArray] w fun e w' => e = .returned (.bool true) ∧ Below w.heap.size w w' := by
 simp only [mState, sum_one] at hm
 exact states_walk ss x w h ⟨by omega, by omega, by omega, by omega, by omega, by omega⟩
theorem reads (os : Os) {H : Type} (enc : TypeId × Value → H) : ∃ places, DataW.whole enc prog ((World.holding prog os ⟨#[], #[], []⟩).forCall (fun _ _ => 0) ⟨#[], #[.agg #[Z, Z, Z, Z, Z, Z]], []⟩).memory Tryz.f4.params.toList Rows.objectStatesSpec.vars false #[(.agg #[Z, Z, Z, Z, Z, Z] : Value)].toList 8 = some ([.agg [.nil, .nil, .nil, .nil, .nil, .nil]], [], places) :=
 ⟨[], by kernel_rfl⟩
theorem params_ok : ∀ t ∈ Tryz.f4.params.toList, prog.readableRec t = true ∧ t < prog.types.size := by
 rw [Tryz.params4]
 have hall : ([61].all fun u => prog.readableRec u && decide (u < prog.types.size)) = true := by kernel_rfl
 intro t ht
 simpa using List.all_eq_true.1 hall t (by simpa using ht)
theorem contract (H : Type) (enc : TypeId × Value → H) (W : World) (base : Nat) (args : Array Value) (ds gs : List (DataW H)) (before : List MemPlace)
  (hval : ∀ (j : Nat) t v, Tryz.f4.params[j]? = some t → args[j]? = some v → Value.okWide prog W .any base t v)
  (hW : DataW.Whole enc prog Tryz.f4.params.toList Rows.objectStatesSpec.vars false W args.toList ds gs before) (hsz : (DataW.weightsEach prog (Tryz.f4.params.toList ++ Rows.objectStatesSpec.plain.varTypes prog) (ds ++ gs)).all (· ≤ reachBytes) = true) (hup : Rows.uptoBulkAll (ds ++ gs) ≤ 1048576) :
  Calls prog 4 args W fun e W' => ∃ v, e = .returned v ∧ Rows.objectStatesSpec.post enc prog Tryz.f4 false true false false W args v W' := by
 have hW' := hW
 obtain ⟨p, q, hA0, hV, rfl, hfz, hnd⟩ := hW
 have hA : DataW.TrodAll enc prog W 0 (fun _ => true) true Tryz.f4.params.toList args.toList ds p := hA0
 rw [Tryz.params4] at hA hval
 obtain ⟨v0, vs0, d0, ds0, p0, q0, hargs, rfl, rfl, h0, r0⟩ := trodAll_cons hA
 obtain ⟨rfl, rfl, rfl⟩ := trodAll_nil r0
 obtain rfl : args = #[v0] := by cases args; simp_all
 obtain ⟨rfl, rfl⟩ := trodVars_none hV
 have l0 := light_arg hsz (j := 0) (t := 61) (by rw [Tryz.params4]; rfl) rfl
 obtain ⟨cc0, y0, rfl, hy0, m0⟩ := opensM_arg underlying61 opensM_State (hval 0 61 v0 rfl rfl) h0 l0
 obtain ⟨c0, rfl⟩ : ∃ c : List Value, cc0 = c.toArray := ⟨cc0.toList, by simp⟩
 have hz0 := hy0
 simp only [List.cons_append, List.nil_append, Rows.uptoBulkAll] at hup
 refine (states_upto c0 y0 W hy0 (by omega)).mono fun e W' ⟨he, hb⟩ => ?_
 subst he
 exact ⟨_, rfl, law_post laidOut params_ok rfl (tb := 4) (by kernel_rfl) underlying4 rfl hW' hb⟩
theorem lifted (os : Os) (started : os.Started) (H : Type) (enc : TypeId × Value → H) (F : Stop.Interp) :
  ReturnsInHanded {} Tryz.checked os 4 .any ((Rows.OpenSpec.upto Rows.objectStatesSpec).preRow enc prog Tryz.f4 Rows.objectStatesUptoRow.domain false Rows.objectStatesUptoRow.laid) (((Rows.OpenSpec.upto Rows.objectStatesSpec).at F).post enc prog Tryz.f4 false true false false) := by
 obtain ⟨places, hx⟩ := reads os enc
 refine returnsInHanded_of_row (C := Tryz.checked) (s := (Rows.OpenSpec.upto Rows.objectStatesSpec)) own started (by kernel_rfl) func4
  (witness_row_at (enc := enc) (C := Tryz.checked) false (World.holding prog os ⟨#[], #[], []⟩) #[.agg #[Z, Z, Z, Z, Z, Z]] rfl (by kernel_rfl) (by kernel_rfl) (by kernel_rfl)
   (OpenSpec.preRow_of_cond 8 hx (by kernel_rfl) (fun k hk => by cases hk; rfl) (by kernel_rfl) ⟨[], rfl, List.Pairwise.nil, fun _ _ h => by cases h⟩)) ?_
 intro W base args ds gs before hval hW _ hcond hsz _ _ _
 exact contract H enc W base args ds gs before hval hW hsz (of_decide_eq_true (hcond _ rfl))
theorem said : Rows.ObjectStatesUptoSaid :=
 OpenClaim.holds_of_cond 4 Tryz.f4 rfl rfl rfl rfl rfl rfl rfl ⟨rfl, rfl, rfl, rfl, rfl⟩ rfl rfl rfl rfl rfl (by kernel_rfl) func4 (by kernel_rfl)
  (of_decide_eq_true (by kernel_rfl)) (by unfold Func.isWrapper; first | (rw [if_pos (by decide +kernel)]; kernel_rfl) | (rw [if_neg (by decide +kernel)]; exact ⟨rfl, rfl⟩))
  (fun os started H enc _ F => by rw [OpenClaim.pre_eq_preRow]; exact lifted os started H enc F)
end Go.Proofs.YtfbnnfpnjjjfcaaGreat.objectStates
namespace Go.Proofs.YtfbnnfpnjjjfcaaGreat
theorem objectStates_holds : Rows.ObjectStatesUptoSaid := objectStates.said
end Go.Proofs.YtfbnnfpnjjjfcaaGreat

