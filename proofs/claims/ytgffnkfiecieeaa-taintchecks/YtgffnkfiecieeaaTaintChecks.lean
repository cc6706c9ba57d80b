/- The law TaintChecks holds of the program: any taints, and whatever a pod bears, are judged as the document says; the chapter's example comes out. For every input; no condition. -/
import Derived.Test.YtgffnkfiecieeaaTCheckR
import Derived.Test.YtgffnkfiecieeaaTWorks
import Derived.Test.YtgffnkfiecieeaaTCopy
import Derived.Test.YtgffnkfiecieeaaTOpen
namespace Go.Proofs.Ytgffnkfiecieeaa.taintChecks
open Go.ChangeShapes Go.WideShapes Go.ChangeAt Go.RowKit
set_option linter.unusedSimpArgs false

set_option maxHeartbeats 4000000 in
theorem walk (a : Option Addr) (cap : Nat) (L : List Tnt) (b : Option Addr) (capb : Nat) (B : List Bear) (w : World) (hL : Hid (TntsAt w a L)) (hLb : L.length * 40 ≤ 140737488351232) (_hLn : a = none → cap = 0) (_hLc : L.length ≤ cap) (hB : Hid (BearsAt w b B)) (hBb : B.length * 48 ≤ 140737488351232) (_hBn : b = none → capb = 0) (_hBc : B.length ≤ capb) :
    Calls Try.prog 3 #[.slice a L.length cap, .slice b B.length capb] w fun e w' => e = .returned (.bool true) ∧ Below w.heap.size w w' := by
  have hL' : Hid (∀ {u : World}, Below w.heap.size w u → TntsAt u a L) := fun h => hL.out.on h
  have hB' : Hid (∀ {u : World}, Below w.heap.size w u → BearsAt u b B) := fun h => hB.out.on h
  have hLo := hL.out.2.1
  have hBo := hB.out.2.1
  have hLo' : Hid (∀ x ∈ L, okT x) := hLo
  have hBo' : Hid (∀ x ∈ B, okB x) := hBo
  clear hLo hBo
  go_enter Try.func3, Try.ntmps3
  go_wp2_with fail
  refine (taints_calls a cap L w hL (by omega)).mono ?_
  rintro e w1 ⟨v1, rfl, hO1⟩
  obtain ⟨a1, cap1, rfl, hT1, _, hc1⟩ := row_of_owns (ok := okT) encT_len hO1.2 (by omega) hLo'.out
  have hb1 := hO1.1
  have hT1' : Hid (TntsAt w1 a1 L) := hT1
  clear hO1 hT1
  have hC := Check_calls a1 cap1 L w1 hT1' hc1
  have hRC := fun (u : World) (h : Below w.heap.size w u) => rCheck_calls a cap L u (hL'.out h)
  have hBC := fun (a1 : Option Addr) (cap1 : Nat) (u : World) (h : Hid (BearsAt u a1 B)) => CheckBears_calls a1 cap1 B u h
  have hRBC := fun (u : World) (h : Below w.heap.size w u) => rCheckBears_calls b capb B u (hB'.out h)
  generalize checkT L = p at hC hRC
  generalize checkBr B = q at hBC hRBC
  have hpp : (p == p) = true := by simp
  have hqq : (q == q) = true := by simp
  go_wp2_with fail
  refine hC.mono ?_
  rintro e w2 ⟨rfl, hb⟩
  have hb2 := on2 hb1 hb
  clear hb hb1 hC
  go_wp2_with fail
  refine (hRC _ hb2).mono ?_
  rintro e w3 ⟨rfl, hb⟩
  have hb3 := on2 hb2 hb
  clear hb hb2 hRC
  go_wp2_with fail
  refine (bears_calls b capb B w3 (hB'.out hb3) (by omega)).mono ?_
  rintro e w4 ⟨v4, rfl, hO4⟩
  obtain ⟨a4, cap4, rfl, hT4, _, hc4⟩ := row_of_owns (ok := okB) encB_len hO4.2 (by omega) hBo'.out
  have hb4 := on2 hb3 hO4.1
  have hT4' : Hid (BearsAt w4 a4 B) := hT4
  clear hO4 hT4
  go_wp2_with fail
  refine (hBC a4 cap4 w4 hT4').mono ?_
  rintro e w5 ⟨rfl, hb⟩
  have hb5 := on2 hb4 hb
  clear hb hb4 hBC
  go_wp2_with fail
  refine (hRBC _ hb5).mono ?_
  rintro e w6 ⟨rfl, hb⟩
  have hb6 := on2 hb5 hb
  clear hb hb5 hRBC
  go_wp2_with fail
  refine (works_calls _).mono ?_
  rintro e w7 ⟨rfl, hb⟩
  have hb7 := on2 hb6 hb
  go_wp2_with fail
  go_ret
  exact ⟨rfl, hb7⟩

theorem reads (os : Os) {H : Type} (enc : TypeId × Value → H) : ∃ places, DataW.whole enc Try.prog ((World.holding Try.prog os ⟨#[], #[], []⟩).forCall (fun _ _ => 0) ⟨#[], #[.slice none 0 0, .slice none 0 0], []⟩).memory Try.f3.params.toList Rows.taintChecksSpec.vars false #[(.slice none 0 0 : Value), (.slice none 0 0 : Value)].toList 8 = some ([.nil, .nil], [], places) :=
  ⟨[], by kernel_rfl⟩

theorem params_ok : ∀ t ∈ Try.f3.params.toList, Try.prog.readableRec t = true ∧ t < Try.prog.types.size := by
  rw [Try.params3]
  have hall : ([22, 23].all fun u => Try.prog.readableRec u && decide (u < Try.prog.types.size)) = true := by kernel_rfl
  intro t ht
  simpa using List.all_eq_true.1 hall t (by simpa using ht)

theorem contract (H : Type) (enc : TypeId × Value → H) (W : World) (base : Nat) (args : Array Value) (ds gs : List (DataW H)) (before : List MemPlace)
    (hval : ∀ (j : Nat) t v, Try.f3.params[j]? = some t → args[j]? = some v → Value.okWide Try.prog W .any base t v)
    (hW : DataW.Whole enc Try.prog Try.f3.params.toList Rows.taintChecksSpec.vars false W args.toList ds gs before) (hsz : (DataW.weightsEach Try.prog (Try.f3.params.toList ++ Rows.taintChecksSpec.plain.varTypes Try.prog) (ds ++ gs)).all (· ≤ reachBytes) = true) :
    Calls Try.prog 3 args W fun e W' => ∃ v, e = .returned v ∧ Rows.taintChecksSpec.post enc Try.prog Try.f3 false true false false W args v W' := by
  have hW' := hW
  obtain ⟨p, q, hA0, hV, rfl, hfz, hnd⟩ := hW
  have hA : DataW.TrodAll enc Try.prog W 0 (fun _ => true) true Try.f3.params.toList args.toList ds p := hA0
  rw [Try.params3] at hA hval
  obtain ⟨v0, vs0, d0, ds0, p0, q0, hargs, rfl, rfl, h0, r0⟩ := trodAll_cons hA
  obtain ⟨v1, vs1, d1, ds1, p1, q1, rfl, rfl, rfl, h1, r1⟩ := trodAll_cons r0
  obtain ⟨rfl, rfl, rfl⟩ := trodAll_nil r1
  obtain rfl : args = #[v0, v1] := by cases args; simp_all
  obtain ⟨rfl, rfl⟩ := trodVars_none hV
  have l0 := light_arg hsz (j := 0) (t := 22) (by rw [Try.params3]; rfl) rfl
  obtain ⟨x0, y0, z0, e0⟩ := okWide_slice Try.underlying22 (hval 0 22 v0 rfl rfl)
  subst e0
  obtain ⟨fu0, hf0⟩ := h0
  obtain ⟨a0, L0, c0, e0, at0, b0, g0, o0⟩ := open_tnts (v := .slice x0 y0 z0) hf0 l0
  obtain ⟨rfl, rfl, rfl⟩ : x0 = a0 ∧ y0 = L0.length ∧ z0 = c0 := by simpa using e0
  have l1 := light_arg hsz (j := 1) (t := 23) (by rw [Try.params3]; rfl) rfl
  obtain ⟨x1, y1, z1, e1⟩ := okWide_slice Try.underlying23 (hval 1 23 v1 rfl rfl)
  subst e1
  obtain ⟨fu1, hf1⟩ := h1
  obtain ⟨a1, L1, c1, e1, at1, b1, g1, o1⟩ := open_bears (v := .slice x1 y1 z1) hf1 l1
  obtain ⟨rfl, rfl, rfl⟩ : x1 = a1 ∧ y1 = L1.length ∧ z1 = c1 := by simpa using e1
  refine (walk x0 z0 L0 x1 z1 L1 W at0 b0 g0 o0 at1 b1 g1 o1).mono fun e W' ⟨he, hb⟩ => ?_
  subst he
  exact ⟨_, rfl, law_post laidOut params_ok rfl (tb := 4) (by kernel_rfl) Try.underlying4 rfl hW' hb⟩

set_option maxRecDepth 100000 in
theorem lifted (os : Os) (started : os.Started) (H : Type) (enc : TypeId × Value → H) (F : Stop.Interp) :
    ReturnsInHanded {} Try.checked os 3 .any ((OpenSpec.ofChange Rows.taintChecksSpec).preRow enc Try.prog Try.f3 Rows.taintChecksRow.domain false Rows.taintChecksRow.laid) (((OpenSpec.ofChange Rows.taintChecksSpec).at F).post enc Try.prog Try.f3 false true false false) := by
  obtain ⟨places, hx⟩ := reads os enc
  refine returnsInHanded_of_row (C := Try.checked) (s := (OpenSpec.ofChange Rows.taintChecksSpec)) own started (by kernel_rfl) Try.func3
    (witness_row_at (enc := enc) (C := Try.checked) false (World.holding Try.prog os ⟨#[], #[], []⟩) #[.slice none 0 0, .slice none 0 0] rfl (by kernel_rfl) (by kernel_rfl) (by kernel_rfl)
      (OpenSpec.preRow_of_cond 8 hx (by kernel_rfl) (fun k hk => by cases hk) (by kernel_rfl) ⟨[], rfl, List.Pairwise.nil, fun _ _ h => by cases h⟩)) ?_
  intro W base args ds gs before hval hW _ _ hsz _ _ _
  exact contract H enc W base args ds gs before hval hW hsz

theorem said : Rows.TaintChecksSaid :=
  OpenClaim.holds_of_cond 3 Try.f3 rfl rfl rfl rfl rfl rfl rfl ⟨rfl, rfl, rfl, rfl, rfl⟩ rfl rfl rfl rfl rfl (by kernel_rfl) Try.func3 (by kernel_rfl)
    (of_decide_eq_true (by kernel_rfl)) (by unfold Func.isWrapper; first | (rw [if_pos (by decide +kernel)]; kernel_rfl) | (rw [if_neg (by decide +kernel)]; exact ⟨rfl, rfl⟩))
    (fun os started H enc _ F => by rw [OpenClaim.pre_eq_preRow]; exact lifted os started H enc F)
end Go.Proofs.Ytgffnkfiecieeaa.taintChecks
namespace Go.Proofs.Ytgffnkfiecieeaa
theorem taintChecks_holds : Rows.TaintChecksSaid := taintChecks.said
end Go.Proofs.Ytgffnkfiecieeaa
