/- The law FeasibleLess holds of the program (second form: what is handed in holds little enough): who may stand somewhere may do so still when others are taken away, if it does not want to be near anybody, and spreads nothing; the chapter's example comes out. Condition: none. -/
import Derived.Test.YtnffafjamiffnaaGreatRows
import Derived.Test.YtnffafjamiffnaaGreatQ48
import Derived.Test.YtnffafjamiffnaaGreatZJfLess
set_option linter.unusedSimpArgs false
set_option maxRecDepth 100000
set_option maxHeartbeats 32000000
namespace Go.Proofs.YtnffafjamiffnaaGreat.feasibleLess
open Go.ChangeShapes Go.WideShapes Go.ChangeAt Go.RowKit
theorem walk (c0 : List Value) (y0 : StateD) (c1 : List Value) (y1 : PodD) (s2 : ByteArray) (x3 : Option Addr) (y3 z3 : Nat) (L3 : List ByteArray) (W : World) (h0 : RState (fun _ => True) W c0 y0) (h1 : RPod (fun _ => True) W c1 y1) (_ : s2.size <= 140737488355328) (h3 : SlAt RStr 1 16 (fun _ => True) W x3 y3 z3 L3) (hm : mStateF y0 + mPodF y1 <= 1048576) : Calls Tryz.prog 7 #[.agg c0.toArray, .agg c1.toArray, .string s2, .slice x3 y3 z3] W fun e w' => e = .returned (.bool true) /\ Below W.heap.size W w' :=
 less_walk c0 y0 c1 y1 s2 x3 y3 z3 L3 W h0 h1 h3 (by have h4 := bState_le y0; have h5 := bPod_le y1; omega)
theorem reads (os : Os) {H : Type} (enc : TypeId × Value -> H) : ∃ places, DataW.whole enc Tryz.prog ((World.holding Tryz.prog os ⟨#[], #[], []⟩).forCall (fun _ _ => 0) ⟨#[], #[.agg #[.slice none 0 0, .slice none 0 0, .slice none 0 0, .slice none 0 0, .slice none 0 0, .slice none 0 0], .agg #[.string ByteArray.empty, .int .i64 0, .slice none 0 0, .int .i64 0, .int .i64 0, .int .i64 0, .slice none 0 0, .slice none 0 0, .slice none 0 0, .slice none 0 0, .slice none 0 0, .slice none 0 0, .slice none 0 0, .slice none 0 0, .string ByteArray.empty, .string ByteArray.empty], .string ByteArray.empty, .slice none 0 0], []⟩).memory Tryz.f7.params.toList Rows.feasibleLessSpec.vars false #[(.agg #[.slice none 0 0, .slice none 0 0, .slice none 0 0, .slice none 0 0, .slice none 0 0, .slice none 0 0] : Value), (.agg #[.string ByteArray.empty, .int .i64 0, .slice none 0 0, .int .i64 0, .int .i64 0, .int .i64 0, .slice none 0 0, .slice none 0 0, .slice none 0 0, .slice none 0 0, .slice none 0 0, .slice none 0 0, .slice none 0 0, .slice none 0 0, .string ByteArray.empty, .string ByteArray.empty] : Value), (.string ByteArray.empty : Value), (.slice none 0 0 : Value)].toList 8 = some ([.agg [.nil, .nil, .nil, .nil, .nil, .nil], .agg [.lit (.string []), .lit (.int .i64 0), .nil, .agg [.lit (.int .i64 0), .lit (.int .i64 0), .lit (.int .i64 0)], .nil, .nil, .nil, .nil, .nil, .nil, .nil, .nil, .lit (.string []), .lit (.string [])], .lit (.string []), .nil], [], places) :=
 ⟨[], by kernel_rfl⟩
theorem params_ok : ∀ t ∈ Tryz.f7.params.toList, Tryz.prog.readableRec t = true /\ t < Tryz.prog.types.size := by
 rw [Tryz.params7]
 have hall : ([29, 49, 9, 31].all fun u => Tryz.prog.readableRec u && decide (u < Tryz.prog.types.size)) = true := by kernel_rfl
 intro t ht
 simpa using List.all_eq_true.1 hall t (by simpa using ht)
theorem contract (H : Type) (enc : TypeId × Value -> H) (W : World) (base : Nat) (args : Array Value) (ds gs : List (DataW H)) (before : List MemPlace)
  (hval : ∀ (j : Nat) t v, Tryz.f7.params[j]? = some t -> args[j]? = some v -> Value.okWide Tryz.prog W .any base t v)
  (hW : DataW.Whole enc Tryz.prog Tryz.f7.params.toList Rows.feasibleLessSpec.vars false W args.toList ds gs before) (hsz : (DataW.weightsEach Tryz.prog (Tryz.f7.params.toList ++ Rows.feasibleLessSpec.plain.varTypes Tryz.prog) (ds ++ gs)).all (· <= reachBytes) = true) (hup : Rows.uptoBulkAll (ds ++ gs) <= 1048576) :
  Calls Tryz.prog 7 args W fun e W' => ∃ v, e = .returned v /\ Rows.feasibleLessSpec.post enc Tryz.prog Tryz.f7 false true false false W args v W' := by
 have hW' := hW
 obtain ⟨p, q, hA0, hV, rfl, hfz, hnd⟩ := hW
 have hA : DataW.TrodAll enc Tryz.prog W 0 (fun _ => true) true Tryz.f7.params.toList args.toList ds p := hA0
 rw [Tryz.params7] at hA hval
 obtain ⟨v0, vs0, d0, ds0, p0, q0, hargs, rfl, rfl, h0, r0⟩ := trodAll_cons hA
 obtain ⟨v1, vs1, d1, ds1, p1, q1, rfl, rfl, rfl, h1, r1⟩ := trodAll_cons r0
 obtain ⟨v2, vs2, d2, ds2, p2, q2, rfl, rfl, rfl, h2, r2⟩ := trodAll_cons r1
 obtain ⟨v3, vs3, d3, ds3, p3, q3, rfl, rfl, rfl, h3, r3⟩ := trodAll_cons r2
 obtain ⟨rfl, rfl, rfl⟩ := trodAll_nil r3
 obtain rfl : args = #[v0, v1, v2, v3] := by cases args; simp_all
 obtain ⟨rfl, rfl⟩ := trodVars_none hV
 have l0 := zBv hsz (j := 0) (t := 29) (by rw [Tryz.params7]; rfl) rfl
 obtain ⟨cc0, y0, rfl, hy0, m0⟩ := zDm Tryz.underlying29 zED (hval 0 29 v0 rfl rfl) h0 l0
 obtain ⟨c0, rfl⟩ : ∃ c : List Value, cc0 = c.toArray := ⟨cc0.toList, by simp⟩
 have m0 : mStateF y0 <= Rows.uptoBulk d0 := m0
 have l1 := zBv hsz (j := 1) (t := 49) (by rw [Tryz.params7]; rfl) rfl
 obtain ⟨cc1, y1, rfl, hy1, m1⟩ := zDm Tryz.underlying49 zCd (hval 1 49 v1 rfl rfl) h1 l1
 obtain ⟨c1, rfl⟩ : ∃ c : List Value, cc1 = c.toArray := ⟨cc1.toList, by simp⟩
 have m1 : mPodF y1 <= Rows.uptoBulk d1 := m1
 have l2 := zBv hsz (j := 2) (t := 9) (by rw [Tryz.params7]; rfl) rfl
 obtain ⟨s2, rfl, rfl, rfl, w2⟩ := Go.ChangeMaps.open_string Tryz.underlying9 (hval 2 9 v2 rfl rfl) h2
 have z2 : s2.size <= 140737488355328 := by have := l2 s2.data.toList.length (by simp [DataW.weights]); simp at this; omega
 have l3 := zBv hsz (j := 3) (t := 31) (by rw [Tryz.params7]; rfl) rfl
 obtain ⟨x3, y3, z3, e3⟩ := okWide_slice Tryz.underlying31 (hval 3 31 v3 rfl rfl)
 subst e3
 obtain ⟨fu3, hf3⟩ := h3
 obtain ⟨L3, a3, n3, c3, e3, s3⟩ := zCi hf3 l3
 obtain ⟨rfl, rfl, rfl⟩ : x3 = a3 /\ y3 = n3 /\ z3 = c3 := by simpa [Value.cells] using e3
 simp only [List.cons_append, List.nil_append, Rows.uptoBulkAll] at hup
 refine (walk c0 y0 c1 y1 s2 x3 y3 z3 L3 W hy0 hy1 z2 s3 (by omega)).mono fun e W' ⟨he, hb⟩ => ?_
 subst he
 exact ⟨_, rfl, law_post laidOut params_ok rfl (tb := 4) (by kernel_rfl) Tryz.underlying4 rfl hW' hb⟩
theorem lifted (os : Os) (started : os.Started) (H : Type) (enc : TypeId × Value -> H) (F : Stop.Interp) :
  ReturnsInHanded {} Tryz.checked os 7 .any ((Rows.OpenSpec.upto Rows.feasibleLessSpec).preRow enc Tryz.prog Tryz.f7 Rows.feasibleLessUptoRow.domain false Rows.feasibleLessUptoRow.laid) (((Rows.OpenSpec.upto Rows.feasibleLessSpec).at F).post enc Tryz.prog Tryz.f7 false true false false) := by
 obtain ⟨places, hx⟩ := reads os enc
 refine returnsInHanded_of_row (C := Tryz.checked) (s := (Rows.OpenSpec.upto Rows.feasibleLessSpec)) own started (by kernel_rfl) Tryz.func7
  (witness_row_at (enc := enc) (C := Tryz.checked) false (World.holding Tryz.prog os ⟨#[], #[], []⟩) #[.agg #[.slice none 0 0, .slice none 0 0, .slice none 0 0, .slice none 0 0, .slice none 0 0, .slice none 0 0], .agg #[.string ByteArray.empty, .int .i64 0, .slice none 0 0, .int .i64 0, .int .i64 0, .int .i64 0, .slice none 0 0, .slice none 0 0, .slice none 0 0, .slice none 0 0, .slice none 0 0, .slice none 0 0, .slice none 0 0, .slice none 0 0, .string ByteArray.empty, .string ByteArray.empty], .string ByteArray.empty, .slice none 0 0] rfl (by kernel_rfl) (by kernel_rfl) (by kernel_rfl)
   (OpenSpec.preRow_of_cond 8 hx (by kernel_rfl) (fun k hk => by cases hk; rfl) (by kernel_rfl) ⟨[], rfl, List.Pairwise.nil, fun _ _ h => by cases h⟩)) ?_
 intro W base args ds gs before hval hW _ hcond hsz _ _ _
 exact contract H enc W base args ds gs before hval hW hsz (of_decide_eq_true (hcond _ rfl))
theorem said : Rows.FeasibleLessUptoSaid :=
 OpenClaim.holds_of_cond 7 Tryz.f7 rfl rfl rfl rfl rfl rfl rfl ⟨rfl, rfl, rfl, rfl, rfl⟩ rfl rfl rfl rfl rfl named Tryz.func7 closed
  (of_decide_eq_true (by kernel_rfl)) (by unfold Func.isWrapper; first | (rw [if_pos (by decide +kernel)]; kernel_rfl) | (rw [if_neg (by decide +kernel)]; exact ⟨rfl, rfl⟩))
  (fun os started H enc _ F => by rw [OpenClaim.pre_eq_preRow]; exact lifted os started H enc F)
end Go.Proofs.YtnffafjamiffnaaGreat.feasibleLess
namespace Go.Proofs.YtnffafjamiffnaaGreat
theorem feasibleLess_holds : Rows.FeasibleLessUptoSaid := feasibleLess.said
end Go.Proofs.YtnffafjamiffnaaGreat
