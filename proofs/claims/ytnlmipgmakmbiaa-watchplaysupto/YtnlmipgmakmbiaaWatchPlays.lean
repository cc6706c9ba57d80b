/- The law WatchPlays holds of the program (second form: what is handed in holds little enough): a watcher answers whatever calls as the document says, and so does a clone; the chapter's example comes out. Condition: none. -/
import Derived.Test.YtnlmipgmakmbiaaWPlW
import Derived.Test.YtnlmipgmakmbiaaWM
import Derived.Test.YtnlmipgmakmbiaaWPg
import Derived.Test.YtnlmipgmakmbiaaRows
namespace Go.Proofs.Ytnlmipgmakmbiaa.watchPlays
open Go.ChangeShapes Go.WideShapes Go.ChangeAt Go.RowKit
set_option linter.unusedSimpArgs false

theorem walk (V : WatchOK) (n0 : Int) (x1 : Option Addr) (y1 z1 : Nat) (L1 : List Int) (x2 : Option Addr) (y2 z2 : Nat) (L2 : List ActD) (W : World) (h0 : SlAt RInt 1 8 (fun _ => True) W x1 y1 z1 L1) (h2 : SlAt RAct 3 24 (fun _ => True) W x2 y2 z2 L2) (hm : sumBy (fun _ => 1) L1 ≤ 1048576) : Calls Try.prog 3 #[.int .i64 n0, .slice x1 y1 z1, .slice x2 y2 z2] W fun e w' => e = .returned (.bool true) ∧ Below W.heap.size W w' :=
  plays_walk V n0 x1 y1 z1 L1 x2 y2 z2 L2 W h0 h2 (by have h9 := h0.1; rw [sum_one13] at hm; omega)

theorem reads (os : Os) {H : Type} (enc : TypeId × Value → H) : ∃ places, DataW.whole enc Try.prog ((World.holding Try.prog os ⟨#[], #[], []⟩).forCall (fun _ _ => 0) ⟨#[], #[.int .i64 0, .slice none 0 0, .slice none 0 0], []⟩).memory Try.f3.params.toList Rows.watchPlaysSpec.vars false #[(.int .i64 0 : Value), (.slice none 0 0 : Value), (.slice none 0 0 : Value)].toList 8 = some ([.lit (.int .i64 0), .nil, .nil], [], places) :=
  ⟨[], by kernel_rfl⟩

theorem params_ok : ∀ t ∈ Try.f3.params.toList, Try.prog.readableRec t = true ∧ t < Try.prog.types.size := by
  rw [Try.params3]
  have hall : ([3, 22, 23].all fun u => Try.prog.readableRec u && decide (u < Try.prog.types.size)) = true := by kernel_rfl
  intro t ht
  simpa using List.all_eq_true.1 hall t (by simpa using ht)

set_option maxRecDepth 100000 in
theorem contract (V : WatchOK) (H : Type) (enc : TypeId × Value → H) (W : World) (base : Nat) (args : Array Value) (ds gs : List (DataW H)) (before : List MemPlace)
    (hval : ∀ (j : Nat) t v, Try.f3.params[j]? = some t → args[j]? = some v → Value.okWide Try.prog W .any base t v)
    (hW : DataW.Whole enc Try.prog Try.f3.params.toList Rows.watchPlaysSpec.vars false W args.toList ds gs before) (hsz : (DataW.weightsEach Try.prog (Try.f3.params.toList ++ Rows.watchPlaysSpec.plain.varTypes Try.prog) (ds ++ gs)).all (· ≤ reachBytes) = true) (hup : Rows.uptoBulkAll (ds ++ gs) ≤ 1048576) :
    Calls Try.prog 3 args W fun e W' => ∃ v, e = .returned v ∧ Rows.watchPlaysSpec.post enc Try.prog Try.f3 false true false false W args v W' := by
  have hW' := hW
  obtain ⟨p, q, hA0, hV, rfl, hfz, hnd⟩ := hW
  have hA : DataW.TrodAll enc Try.prog W 0 (fun _ => true) true Try.f3.params.toList args.toList ds p := hA0
  rw [Try.params3] at hA hval
  obtain ⟨v0, vs0, d0, ds0, p0, q0, hargs, rfl, rfl, h0, r0⟩ := trodAll_cons hA
  obtain ⟨v1, vs1, d1, ds1, p1, q1, rfl, rfl, rfl, h1, r1⟩ := trodAll_cons r0
  obtain ⟨v2, vs2, d2, ds2, p2, q2, rfl, rfl, rfl, h2, r2⟩ := trodAll_cons r1
  obtain ⟨rfl, rfl, rfl⟩ := trodAll_nil r2
  obtain rfl : args = #[v0, v1, v2] := by cases args; simp_all
  obtain ⟨rfl, rfl⟩ := trodVars_none hV
  have l0 := light_arg hsz (j := 0) (t := 3) (by rw [Try.params3]; rfl) rfl
  obtain ⟨n0, rfl, rfl, rfl, w0⟩ := open_int Try.underlying3 (hval 0 3 v0 rfl rfl) h0
  have l1 := light_arg hsz (j := 1) (t := 22) (by rw [Try.params3]; rfl) rfl
  obtain ⟨x1, y1, z1, e1⟩ := okWide_slice Try.underlying22 (hval 1 22 v1 rfl rfl)
  subst e1
  obtain ⟨fu1, hf1⟩ := h1
  obtain ⟨L1, ⟨a1, n1, c1, e1, s1⟩, m1⟩ := opensM_ints hf1 l1
  obtain ⟨rfl, rfl, rfl⟩ : x1 = a1 ∧ y1 = n1 ∧ z1 = c1 := by simpa [Value.cells] using e1
  have m1 : sumBy (fun _ => 1) L1 ≤ Rows.uptoBulk d1 := m1
  have l2 := light_arg hsz (j := 2) (t := 23) (by rw [Try.params3]; rfl) rfl
  obtain ⟨x2, y2, z2, e2⟩ := okWide_slice Try.underlying23 (hval 2 23 v2 rfl rfl)
  subst e2
  obtain ⟨fu2, hf2⟩ := h2
  obtain ⟨L2, a2, n2, c2, e2, s2⟩ := opens_s_Act hf2 l2
  obtain ⟨rfl, rfl, rfl⟩ : x2 = a2 ∧ y2 = n2 ∧ z2 = c2 := by simpa [Value.cells] using e2
  simp only [List.cons_append, List.nil_append, Rows.uptoBulkAll] at hup
  refine (walk V n0 x1 y1 z1 L1 x2 y2 z2 L2 W s1 s2 (by omega)).mono fun e W' ⟨he, hb⟩ => ?_
  subst he
  exact ⟨_, rfl, law_post laidOut params_ok rfl (tb := 4) (by kernel_rfl) Try.underlying4 rfl hW' hb⟩

set_option maxHeartbeats 8000000 in
set_option maxRecDepth 100000 in
theorem lifted (V : WatchOK) (os : Os) (started : os.Started) (H : Type) (enc : TypeId × Value → H) (F : Stop.Interp) :
    ReturnsInHanded {} Try.checked os 3 .any ((Rows.OpenSpec.upto Rows.watchPlaysSpec).preRow enc Try.prog Try.f3 Rows.watchPlaysUptoRow.domain false Rows.watchPlaysUptoRow.laid) (((Rows.OpenSpec.upto Rows.watchPlaysSpec).at F).post enc Try.prog Try.f3 false true false false) := by
  obtain ⟨places, hx⟩ := reads os enc
  refine returnsInHanded_of_row (C := Try.checked) (s := (Rows.OpenSpec.upto Rows.watchPlaysSpec)) own started (by kernel_rfl) Try.func3
    (witness_row_at (enc := enc) (C := Try.checked) false (World.holding Try.prog os ⟨#[], #[], []⟩) #[.int .i64 0, .slice none 0 0, .slice none 0 0] rfl (by kernel_rfl) (by kernel_rfl) (by kernel_rfl)
      (OpenSpec.preRow_of_cond 8 hx (by kernel_rfl) (fun k hk => by cases hk; rfl) (by kernel_rfl) ⟨[], rfl, List.Pairwise.nil, fun _ _ h => by cases h⟩)) ?_
  intro W base args ds gs before hval hW _ hcond hsz _ _ _
  exact contract V H enc W base args ds gs before hval hW hsz (of_decide_eq_true (hcond _ rfl))

theorem said (V : WatchOK) : Rows.WatchPlaysUptoSaid :=
  OpenClaim.holds_of_cond 3 Try.f3 rfl rfl rfl rfl rfl rfl rfl ⟨rfl, rfl, rfl, rfl, rfl⟩ rfl rfl rfl rfl rfl (by kernel_rfl) Try.func3 (by kernel_rfl)
    (of_decide_eq_true (by kernel_rfl)) (by unfold Func.isWrapper; first | (rw [if_pos (by decide +kernel)]; kernel_rfl) | (rw [if_neg (by decide +kernel)]; exact ⟨rfl, rfl⟩))
    (fun os started H enc _ F => by rw [OpenClaim.pre_eq_preRow]; exact lifted V os started H enc F)
end Go.Proofs.Ytnlmipgmakmbiaa.watchPlays
namespace Go.Proofs.Ytnlmipgmakmbiaa
theorem watchPlays_holds : Rows.WatchPlaysUptoSaid := watchPlays.said watchOK
end Go.Proofs.Ytnlmipgmakmbiaa

