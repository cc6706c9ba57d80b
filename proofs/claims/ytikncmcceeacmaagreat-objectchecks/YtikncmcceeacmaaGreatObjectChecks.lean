/- The law ObjectChecks holds of the program: any object is judged, and named, as the document says; the chapter's examples come out. For every input; no condition. -/
import Derived.Test.YtikncmcceeacmaaGreatRows
import Derived.Test.YtikncmcceeacmaaGreatQ24
namespace Go.Proofs.YtikncmcceeacmaaGreat.objectChecks
set_option maxHeartbeats 16000000
set_option maxRecDepth 100000
open Go.Proofs.Tryz Go.ChangeShapes Go.WideShapes Go.ChangeAt Go.RowKit
set_option linter.unusedSimpArgs false
def zeroObj : Value := .agg (.int .i64 0 :: .string ByteArray.empty :: .int .i64 0 :: Z :: .int .i64 0 :: .int .i64 0 :: .int .i64 0 :: Z :: Z :: Z :: Z :: Z :: Z :: Z :: Z :: .string ByteArray.empty :: .string ByteArray.empty :: .string ByteArray.empty :: Z :: Z :: .bool false :: .int .i64 0 :: .int .i64 0 :: .int .i64 0 :: .int .i64 0 :: .int .i64 0 :: .string ByteArray.empty :: .int .i64 0 :: .string ByteArray.empty :: Z :: .string ByteArray.empty :: .string ByteArray.empty :: .int .i64 0 :: .string ByteArray.empty :: .string ByteArray.empty :: .string ByteArray.empty :: .bool false :: .string ByteArray.empty :: Z :: .int .i64 0 :: [] : List Value).toArray
theorem reads (os : Os) {H : Type} (enc : TypeId × Value → H) : ∃ places, DataW.whole enc prog ((World.holding prog os ⟨#[], #[], []⟩).forCall (fun _ _ => 0) ⟨#[], #[zeroObj], []⟩).memory Tryz.f3.params.toList Rows.objectChecksSpec.vars false #[(zeroObj : Value)].toList 8 = some ([.agg [.lit (.int .i64 0), .agg [.lit (.string []), .lit (.int .i64 0), .nil, .agg [.lit (.int .i64 0), .lit (.int .i64 0), .lit (.int .i64 0)], .nil, .nil, .nil, .nil, .nil, .nil, .nil, .nil, .lit (.string []), .lit (.string [])], .agg [.lit (.string []), .nil, .nil, .lit (.bool false), .agg [.lit (.int .i64 0), .lit (.int .i64 0), .lit (.int .i64 0)], .lit (.int .i64 0), .lit (.int .i64 0)], .agg [.lit (.string []), .lit (.int .i64 0), .lit (.string []), .nil, .lit (.string [])], .agg [.lit (.string []), .lit (.int .i64 0), .lit (.string []), .lit (.string [])], .agg [.lit (.string []), .lit (.bool false)], .agg [.lit (.string []), .nil, .lit (.int .i64 0)]]], [], places) :=
 ⟨[], by kernel_rfl⟩
theorem params_ok : ∀ t ∈ Tryz.f3.params.toList, prog.readableRec t = true ∧ t < prog.types.size := by
 rw [Tryz.params3]
 have hall : ([46].all fun u => prog.readableRec u && decide (u < prog.types.size)) = true := by kernel_rfl
 intro t ht
 simpa using List.all_eq_true.1 hall t (by simpa using ht)
theorem contract (H : Type) (enc : TypeId × Value → H) (W : World) (base : Nat) (args : Array Value) (ds gs : List (DataW H)) (before : List MemPlace)
  (hval : ∀ (j : Nat) t v, Tryz.f3.params[j]? = some t → args[j]? = some v → Value.okWide prog W .any base t v)
  (hW : DataW.Whole enc prog Tryz.f3.params.toList Rows.objectChecksSpec.vars false W args.toList ds gs before) (hsz : (DataW.weightsEach prog (Tryz.f3.params.toList ++ Rows.objectChecksSpec.plain.varTypes prog) (ds ++ gs)).all (· ≤ reachBytes) = true) :
  Calls prog 3 args W fun e W' => ∃ v, e = .returned v ∧ Rows.objectChecksSpec.post enc prog Tryz.f3 false true false false W args v W' := by
 have hW' := hW
 obtain ⟨p, q, hA0, hV, rfl, hfz, hnd⟩ := hW
 have hA : DataW.TrodAll enc prog W 0 (fun _ => true) true Tryz.f3.params.toList args.toList ds p := hA0
 rw [Tryz.params3] at hA hval
 obtain ⟨v0, vs0, d0, ds0, p0, q0, hargs, rfl, rfl, h0, r0⟩ := trodAll_cons hA
 obtain ⟨rfl, rfl, rfl⟩ := trodAll_nil r0
 obtain rfl : args = #[v0] := by cases args; simp_all
 obtain ⟨rfl, rfl⟩ := trodVars_none hV
 have l0 := light_arg hsz (j := 0) (t := 46) (by rw [Tryz.params3]; rfl) rfl
 obtain ⟨cc0, y0, rfl, hy0⟩ := opens_arg underlying46 opens_Object (hval 0 46 v0 rfl rfl) h0 l0
 obtain ⟨c0, rfl⟩ : ∃ c : List Value, cc0 = c.toArray := ⟨cc0.toList, by simp⟩
 have hz0 := hy0
 refine (checks_walk c0 y0 W hy0).mono fun e W' ⟨he, hb⟩ => ?_
 subst he
 exact ⟨_, rfl, law_post laidOut params_ok rfl (tb := 4) (by kernel_rfl) underlying4 rfl hW' hb⟩
theorem lifted (os : Os) (started : os.Started) (H : Type) (enc : TypeId × Value → H) (F : Stop.Interp) :
  ReturnsInHanded {} Tryz.checked os 3 .any ((OpenSpec.ofChange Rows.objectChecksSpec).preRow enc prog Tryz.f3 Rows.objectChecksRow.domain false Rows.objectChecksRow.laid) (((OpenSpec.ofChange Rows.objectChecksSpec).at F).post enc prog Tryz.f3 false true false false) := by
 obtain ⟨places, hx⟩ := reads os enc
 refine returnsInHanded_of_row (C := Tryz.checked) (s := (OpenSpec.ofChange Rows.objectChecksSpec)) own started (by kernel_rfl) func3
  (witness_row_at (enc := enc) (C := Tryz.checked) false (World.holding prog os ⟨#[], #[], []⟩) #[zeroObj] rfl (by kernel_rfl) (by kernel_rfl) (by kernel_rfl)
   (OpenSpec.preRow_of_cond 8 hx (by kernel_rfl) (fun k hk => by cases hk) (by kernel_rfl) ⟨[], rfl, List.Pairwise.nil, fun _ _ h => by cases h⟩)) ?_
 intro W base args ds gs before hval hW _ _ hsz _ _ _
 exact contract H enc W base args ds gs before hval hW hsz
theorem said : Rows.ObjectChecksSaid :=
 OpenClaim.holds_of_cond 3 Tryz.f3 rfl rfl rfl rfl rfl rfl rfl ⟨rfl, rfl, rfl, rfl, rfl⟩ rfl rfl rfl rfl rfl (by kernel_rfl) func3 (by kernel_rfl)
  (of_decide_eq_true (by kernel_rfl)) (by unfold Func.isWrapper; first | (rw [if_pos (by decide +kernel)]; kernel_rfl) | (rw [if_neg (by decide +kernel)]; exact ⟨rfl, rfl⟩))
  (fun os started H enc _ F => by rw [OpenClaim.pre_eq_preRow]; exact lifted os started H enc F)
end Go.Proofs.YtikncmcceeacmaaGreat.objectChecks
namespace Go.Proofs.YtikncmcceeacmaaGreat
theorem objectChecks_holds : Rows.ObjectChecksSaid := objectChecks.said
end Go.Proofs.YtikncmcceeacmaaGreat

