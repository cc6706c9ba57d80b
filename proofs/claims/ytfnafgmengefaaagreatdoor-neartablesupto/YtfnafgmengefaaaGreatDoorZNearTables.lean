/- The law NearTables holds of the program (second form): a table that is kept step by step tells what is told of all that is left at once, and so does a clone. The library's tables start as the program's text lays them (the card ties them). -/
import Derived.Test.YtfnafgmengefaaaGreatDoorZNTabW
import Derived.Test.YtfnafgmengefaaaGreatDoorY09
namespace Go.Proofs.YtfnafgmengefaaaGreatDoor.nearTables
open Go.ChangeShapes Go.WideShapes Go.ChangeAt Go.RowKit

theorem walk (cs : List Value) (p : PodD) (a : Option Addr) (n cap : Nat) (L : List PlacedD) (ac : Option Addr) (an acap : Nat) (Ac : List ActD) (la : Option Addr) (ln lc : Nat) (Lb : List Lab) (W : World) (hp : RPod (fun _ => True) W cs p) (hL : SlAt RPlaced 17 320 (fun _ => True) W a n cap L) (hA : SlAt RAct 19 352 (fun _ => True) W ac an acap Ac) (hLb : SlAt RLabel 2 32 (fun _ => True) W la ln lc Lb) (ht : Hid (TB W.heap.size W)) (hS : (ePod p).length ≤ 67108864 ∧ (eL ePlaced L).length + (eL eAct Ac).length ≤ 67108864 ∧ (∀ x ∈ L, okPl x) ∧ ∀ x ∈ Ac, okAct x) : Calls Tryz.prog 4 #[.agg cs.toArray, .slice a n cap, .slice ac an acap, .slice la ln lc] W fun e w' => e = .returned (.bool true) ∧ Below W.heap.size W w' :=
  tables_walk8 cs p a n cap L ac an acap Ac la ln lc Lb W hp hL hA hLb ht ⟨hS.1, by have h1 := eL_len eAct Ac; have h2 := hS.2.1; omega, hS.2.2⟩


theorem laid_met (os : Os) : laidMet Tryz.prog Rows.nearTablesUptoRow.laid ((layTabs (World.holding Tryz.prog os ⟨#[], #[], []⟩)).forCall (fun _ _ => 0) ⟨#[], #[.agg #[.string ByteArray.empty, .int .i64 0, .slice none 0 0, .int .i64 0, .int .i64 0, .int .i64 0, .slice none 0 0, .slice none 0 0, .slice none 0 0, .slice none 0 0, .slice none 0 0, .slice none 0 0, .slice none 0 0, .slice none 0 0, .string ByteArray.empty, .string ByteArray.empty], .slice none 0 0, .slice none 0 0, .slice none 0 0], []⟩).memory :=
  laidMet_of_run' 8 (by kernel_rfl) (by kernel_rfl)
theorem reads (os : Os) {H : Type} (enc : TypeId × Value → H) : ∃ places, DataW.whole enc Tryz.prog ((layTabs (World.holding Tryz.prog os ⟨#[], #[], []⟩)).forCall (fun _ _ => 0) ⟨#[], #[.agg #[.string ByteArray.empty, .int .i64 0, .slice none 0 0, .int .i64 0, .int .i64 0, .int .i64 0, .slice none 0 0, .slice none 0 0, .slice none 0 0, .slice none 0 0, .slice none 0 0, .slice none 0 0, .slice none 0 0, .slice none 0 0, .string ByteArray.empty, .string ByteArray.empty], .slice none 0 0, .slice none 0 0, .slice none 0 0], []⟩).memory Tryz.f4.params.toList Rows.nearTablesSpec.vars false #[(.agg #[.string ByteArray.empty, .int .i64 0, .slice none 0 0, .int .i64 0, .int .i64 0, .int .i64 0, .slice none 0 0, .slice none 0 0, .slice none 0 0, .slice none 0 0, .slice none 0 0, .slice none 0 0, .slice none 0 0, .slice none 0 0, .string ByteArray.empty, .string ByteArray.empty] : Value), (.slice none 0 0 : Value), (.slice none 0 0 : Value), (.slice none 0 0 : Value)].toList 8 = some ([.agg [.lit (.string []), .lit (.int .i64 0), .nil, .agg [.lit (.int .i64 0), .lit (.int .i64 0), .lit (.int .i64 0)], .nil, .nil, .nil, .nil, .nil, .nil, .nil, .nil, .lit (.string []), .lit (.string [])], .nil, .nil, .nil], [], places) :=
  ⟨[], by kernel_rfl⟩

theorem params_ok : ∀ t ∈ Tryz.f4.params.toList, Tryz.prog.readableRec t = true ∧ t < Tryz.prog.types.size := by
  rw [Tryz.params4]
  have hall : ([33, 34, 45, 22].all fun u => Tryz.prog.readableRec u && decide (u < Tryz.prog.types.size)) = true := by kernel_rfl
  intro t ht
  simpa using List.all_eq_true.1 hall t (by simpa using ht)

set_option maxRecDepth 100000 in
theorem contract (H : Type) (enc : TypeId × Value → H) (W : World) (base : Nat) (args : Array Value) (ds gs : List (DataW H)) (before : List MemPlace)
    (hval : ∀ (j : Nat) t v, Tryz.f4.params[j]? = some t → args[j]? = some v → Value.okWide Tryz.prog W .any base t v)
    (hW : DataW.Whole enc Tryz.prog Tryz.f4.params.toList Rows.nearTablesSpec.vars false W args.toList ds gs before) (hsz : (DataW.weightsEach Tryz.prog (Tryz.f4.params.toList ++ Rows.nearTablesSpec.plain.varTypes Tryz.prog) (ds ++ gs)).all (· ≤ reachBytes) = true) (hL : laidMetH Tryz.prog Rows.nearTablesUptoRow.laid W) (hup : Rows.uptoBulkAll (ds ++ gs) ≤ 1048576) :
    Calls Tryz.prog 4 args W fun e W' => ∃ v, e = .returned v ∧ Rows.nearTablesSpec.post enc Tryz.prog Tryz.f4 false true false false W args v W' := by
  have hW' := hW
  obtain ⟨p, q, hA0, hV, rfl, hfz, hnd⟩ := hW
  have hA : DataW.TrodAll enc Tryz.prog W 0 (fun _ => true) true Tryz.f4.params.toList args.toList ds p := hA0
  rw [Tryz.params4] at hA hval
  obtain ⟨v0, vs0, d0, ds0, p0, q0, hargs, rfl, rfl, h0, r0⟩ := trodAll_cons hA
  obtain ⟨v1, vs1, d1, ds1, p1, q1, rfl, rfl, rfl, h1, r1⟩ := trodAll_cons r0
  obtain ⟨v2, vs2, d2, ds2, p2, q2, rfl, rfl, rfl, h2, r2⟩ := trodAll_cons r1
  obtain ⟨v3, vs3, d3, ds3, p3, q3, rfl, rfl, rfl, h3, r3⟩ := trodAll_cons r2
  obtain ⟨rfl, rfl, rfl⟩ := trodAll_nil r3
  obtain rfl : args = #[v0, v1, v2, v3] := by cases args; simp_all
  obtain ⟨rfl, rfl⟩ := trodVars_none hV
  have l0 := light_arg hsz (j := 0) (t := 33) (by rw [Tryz.params4]; rfl) rfl
  obtain ⟨cc0, y0, rfl, hy0, m0⟩ := opensK_arg Tryz.underlying33 opensK_Pod (hval 0 33 v0 rfl rfl) h0 l0
  obtain ⟨c0, rfl⟩ : ∃ c : List Value, cc0 = c.toArray := ⟨cc0.toList, by simp⟩
  have m0 : (ePod y0).length ≤ 64 * Rows.uptoBulk d0 ∧ okPod y0 := m0
  have l1 := light_arg hsz (j := 1) (t := 34) (by rw [Tryz.params4]; rfl) rfl
  obtain ⟨x1, y1, z1, e1⟩ := okWide_slice Tryz.underlying34 (hval 1 34 v1 rfl rfl)
  subst e1
  obtain ⟨fu1, hf1⟩ := h1
  obtain ⟨L1, ⟨a1, n1, c1, e1, s1⟩, m1⟩ := opensK_s_Placed hf1 l1
  obtain ⟨rfl, rfl, rfl⟩ : x1 = a1 ∧ y1 = n1 ∧ z1 = c1 := by simpa [Value.cells] using e1
  have m1 : (eL ePlaced L1).length ≤ 64 * Rows.uptoBulk d1 ∧ ∀ x ∈ L1, okPl x := m1
  have l2 := light_arg hsz (j := 2) (t := 45) (by rw [Tryz.params4]; rfl) rfl
  obtain ⟨x2, y2, z2, e2⟩ := okWide_slice Tryz.underlying45 (hval 2 45 v2 rfl rfl)
  subst e2
  obtain ⟨fu2, hf2⟩ := h2
  obtain ⟨L2, ⟨a2, n2, c2, e2, s2⟩, m2⟩ := opensK_s_Act hf2 l2
  obtain ⟨rfl, rfl, rfl⟩ : x2 = a2 ∧ y2 = n2 ∧ z2 = c2 := by simpa [Value.cells] using e2
  have m2 : (eL eAct L2).length ≤ 64 * Rows.uptoBulk d2 ∧ ∀ x ∈ L2, okAct x := m2
  have l3 := light_arg hsz (j := 3) (t := 22) (by rw [Tryz.params4]; rfl) rfl
  obtain ⟨x3, y3, z3, e3⟩ := okWide_slice Tryz.underlying22 (hval 3 22 v3 rfl rfl)
  subst e3
  obtain ⟨fu3, hf3⟩ := h3
  obtain ⟨L3, ⟨a3, n3, c3, e3, s3⟩, m3⟩ := opensK_s_Label hf3 l3
  obtain ⟨rfl, rfl, rfl⟩ : x3 = a3 ∧ y3 = n3 ∧ z3 = c3 := by simpa [Value.cells] using e3
  simp only [List.cons_append, List.nil_append, Rows.uptoBulkAll] at hup
  refine (walk c0 y0 x1 y1 z1 L1 x2 y2 z2 L2 x3 y3 z3 L3 W hy0 s1 s2 s3 (tb_of_laid hL) ⟨by have := m0.1; omega, by have h1 := m1.1; have h2 := m2.1; omega, m1.2, m2.2⟩).mono fun e W' ⟨he, hb⟩ => ?_
  subst he
  exact ⟨_, rfl, law_post laidOut params_ok rfl (tb := 4) (by kernel_rfl) Tryz.underlying4 rfl hW' hb⟩

set_option maxHeartbeats 8000000 in
set_option maxRecDepth 100000 in
theorem lifted (os : Os) (started : os.Started) (H : Type) (enc : TypeId × Value → H) (F : Stop.Interp) :
    ReturnsInHanded {} Tryz.checked os 4 .any ((Rows.OpenSpec.upto Rows.nearTablesSpec).preRow enc Tryz.prog Tryz.f4 Rows.nearTablesUptoRow.domain false Rows.nearTablesUptoRow.laid) (((Rows.OpenSpec.upto Rows.nearTablesSpec).at F).post enc Tryz.prog Tryz.f4 false true false false) := by
  obtain ⟨places, hx⟩ := reads os enc
  refine returnsInHanded_of_row (C := Tryz.checked) (s := (Rows.OpenSpec.upto Rows.nearTablesSpec)) own started (by kernel_rfl) Tryz.func4
    (witness_row_at (enc := enc) (C := Tryz.checked) false (layTabs (World.holding Tryz.prog os ⟨#[], #[], []⟩)) #[.agg #[.string ByteArray.empty, .int .i64 0, .slice none 0 0, .int .i64 0, .int .i64 0, .int .i64 0, .slice none 0 0, .slice none 0 0, .slice none 0 0, .slice none 0 0, .slice none 0 0, .slice none 0 0, .slice none 0 0, .slice none 0 0, .string ByteArray.empty, .string ByteArray.empty], .slice none 0 0, .slice none 0 0, .slice none 0 0] rfl (by kernel_rfl) (by kernel_rfl) (by kernel_rfl)
      (OpenSpec.preRow_of_cond 8 hx (by kernel_rfl) (fun k hk => by cases hk; rfl) (by kernel_rfl) (laid_met os))) ?_
  intro W base args ds gs before hval hW _ hcond hsz hL _ _
  exact contract H enc W base args ds gs before hval hW hsz hL (of_decide_eq_true (hcond _ rfl))

theorem said : Rows.NearTablesUptoSaid :=
  OpenClaim.holds_of_cond 4 Tryz.f4 rfl rfl rfl rfl rfl rfl rfl ⟨rfl, rfl, rfl, rfl, rfl⟩ rfl rfl rfl rfl rfl (by kernel_rfl) Tryz.func4 (by kernel_rfl)
    (of_decide_eq_true (by kernel_rfl)) (by unfold Func.isWrapper; first | (rw [if_pos (by decide +kernel)]; kernel_rfl) | (rw [if_neg (by decide +kernel)]; exact ⟨rfl, rfl⟩))
    (fun os started H enc _ F => by rw [OpenClaim.pre_eq_preRow]; exact lifted os started H enc F)

theorem plain (f : FuncId) (fn : Func) (hf : Tryz.pinned.checked.prog.funcNamed "stevedore/stevedorelaw08.NearTables" = some f) (hfn : Tryz.pinned.checked.prog.funcs[f]? = some fn) :
    true = Tryz.pinned.checked.prog.looks [] ∧ ∀ (j : Nat) t, fn.params[j]? = some t → Tryz.pinned.checked.prog.wantsStandIn t = false := by
  obtain rfl : f = 4 := Option.some.inj ((show Tryz.prog.funcNamed "stevedore/stevedorelaw08.NearTables" = some 4 by kernel_rfl).symm.trans hf) |>.symm
  obtain rfl : fn = Tryz.f4 := (Option.some.inj (Tryz.func4.symm.trans hfn)).symm
  refine ⟨by kernel_rfl, fun j t ht => ?_⟩
  rw [Tryz.params4] at ht
  have hm : t ∈ [33, 34, 45, 22] := by simpa using Array.mem_of_getElem? ht
  have hall : ([33, 34, 45, 22].all fun u => !Tryz.prog.wantsStandIn u) = true := by kernel_rfl
  exact (show Tryz.prog.wantsStandIn t = false by simpa using List.all_eq_true.1 hall t hm)

theorem card : Rows.NearTablesUptoCardSaid :=
  Claim7.holds_tied_plain_at .later [] _ _ _ _ said (fun _ h => by cases h) (by kernel_rfl) (fun _ h => by cases h) nearTablesUpto_row_tie rfl ⟨rfl, rfl⟩ (by kernel_rfl) rfl plain (by kernel_rfl)
end Go.Proofs.YtfnafgmengefaaaGreatDoor.nearTables
namespace Go.Proofs.YtfnafgmengefaaaGreatDoor
theorem nearTables_card : Rows.NearTablesUptoCardSaid := nearTables.card
end Go.Proofs.YtfnafgmengefaaaGreatDoor
