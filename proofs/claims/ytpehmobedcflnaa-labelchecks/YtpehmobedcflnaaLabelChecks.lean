/- The law LabelChecks holds of the program: any labels and anything asked are judged as the document says; the chapter's example comes out. For every input; no condition. -/
import Derived.Test.YtpehmobedcflnaaLOpen
import Derived.Test.YtpehmobedcflnaaLCheckR
import Derived.Test.YtpehmobedcflnaaLSameReqs
namespace Go.Proofs.Ytpehmobedcflnaa.labelChecks
open Go.ChangeShapes Go.WideShapes Go.ChangeAt Go.RowKit
set_option linter.unusedSimpArgs false

set_option maxHeartbeats 4000000 in
theorem walk (a : Option Addr) (cap : Nat) (L : List Lab) (b : Option Addr) (capb : Nat) (R : List Ask) (s : ByteArray) (w : World) (hL : Hid (LabsAt w a L)) (hLb : L.length * 32 ≤ 140737488351232) (hR : Hid (AsksAt w b R)) (hRb : R.length * 48 ≤ 140737488351232) (hRv : Hid (∀ r ∈ R, r.vals.length * 16 ≤ 140737488351232)) (hs : s.size ≤ 140737488355328) :
    Calls Try.prog 3 #[.slice a L.length cap, .slice b R.length capb, .string s] w fun e w' => e = .returned (.bool true) ∧ Below w.heap.size w w' := by
  have hL' : Hid (∀ {u : World}, Below w.heap.size w u → LabsAt u a L) := fun h => hL.out.on h
  have hR' : Hid (∀ {u : World}, Below w.heap.size w u → AsksAt u b R) := fun h => hR.out.on h
  have hv' : Hid (∀ r ∈ R, r.vals.length * 16 ≤ 140737488355328) := fun r hr => by have := hRv.out r hr; omega
  have hLl := hL.out.1
  have hRl := hR.out.1
  have hLs : Hid (∀ x ∈ L, x.1.size ≤ 140737488355328 ∧ x.2.size ≤ 140737488355328) := hL.out.2.1
  have hRs : Hid (∀ r ∈ R, r.key.size ≤ 140737488355328) := hR.out.2.1
  have hW := Word_calls s
  have hV := rWord_calls s hs
  generalize wordB s = p at hW hV
  have hpp : (p == p) = true := by simp
  clear hL hR hRv
  go_enter Try.func3, Try.ntmps3
  go_wp2_with fail
  refine (Labels_calls a cap L w (hL'.out (Below.refl _ _)) (by omega)).mono ?_
  rintro e w1 ⟨v1, rfl, hO1⟩
  obtain ⟨a1, c1, rfl, hA1⟩ := labs_of_owns hO1.2 hLl hLs.out
  have hb1 := hO1.1
  clear hO1
  go_wp2_with fail
  refine (Reqs_calls b capb R w1 (hR'.out hb1) (by omega) hv').mono ?_
  rintro e w2 ⟨v2, xs, rfl, hO2, hC2⟩
  obtain ⟨b2, c2, rfl, hA2⟩ := asks_of_owns hO2 hC2 hRl hRs.out
  have hb2 := on2 hb1 hO2.1
  have hA1' : Hid (∀ {u : World}, Below w2.heap.size w2 u → LabsAt u (a1) L) := fun h => (hA1.on hO2.1).on h
  have hA2' : Hid (∀ {u : World}, Below w2.heap.size w2 u → AsksAt u (b2) R) := fun h => hA2.on h
  clear hO2 hC2 hA1 hA2 hb1
  go_wp2_with fail
  refine (hW _).mono ?_
  rintro e w' ⟨rfl, rfl⟩
  go_wp2_with fail
  refine (hV _).mono ?_
  rintro e w' ⟨rfl, rfl⟩
  clear hW hV
  have hx : (checkI L == checkI L) = true := by simp
  have hy : (checkR R == checkR R) = true := by simp
  have k1 := Check_calls a1 c1 L _ (hA1'.out (Below.refl _ _))
  have k2 := fun u h => rCheck_calls a cap L u h
  have k3 := fun u h => CheckReqs_calls b2 c2 R u h
  have k4 := fun u h => rCheckReqs_calls b capb R u h
  generalize checkI L = ci at hx k1 k2
  generalize checkR R = cr at hy k3 k4
  go_wp2_with fail
  refine k1.mono ?_
  rintro e w3 ⟨rfl, hb3⟩
  clear k1
  go_wp2_with fail
  refine (k2 _ (hL'.out (on2 hb2 hb3))).mono ?_
  rintro e w4 ⟨rfl, hb4⟩
  have hs4 := on2 hb3 hb4
  clear hb3 hb4 k2
  go_wp2_with fail
  refine (k3 _ (hA2'.out hs4)).mono ?_
  rintro e w5 ⟨rfl, hb5⟩
  have hs5 := on2 hs4 hb5
  clear hs4 hb5 k3
  go_wp2_with fail
  refine (k4 _ (hR'.out (on2 hb2 hs5))).mono ?_
  rintro e w6 ⟨rfl, hb6⟩
  have hs6 := on2 hs5 hb6
  clear hs5 hb6 k4
  go_wp2_with fail
  refine (SameLabels_calls a1 c1 a cap L _ (hA1'.out hs6) (hL'.out (on2 hb2 hs6))).mono ?_
  rintro e w7 ⟨rfl, n7, rfl⟩
  have hs7 := below_drewN hs6 n7
  go_wp2_with fail
  refine (SameReqs_calls b2 c2 b capb R _ (hA2'.out hs7) (hR'.out (on2 hb2 hs7))).mono ?_
  rintro e w8 ⟨rfl, n8, rfl⟩
  have hs8 := below_drewN hs6 (n7 + n8)
  go_wp2_with fail
  refine (works_calls _).mono ?_
  rintro e w9 ⟨rfl, hb9⟩
  have hs9 := on2 hb2 (on2 hs8 hb9)
  clear hb9 hs8 hs7 hs6
  go_wp2_with fail
  go_ret
  exact ⟨rfl, hs9⟩

theorem reads (os : Os) {H : Type} (enc : TypeId × Value → H) : ∃ places, DataW.whole enc Try.prog ((World.holding Try.prog os ⟨#[], #[], []⟩).forCall (fun _ _ => 0) ⟨#[], #[.slice none 0 0, .slice none 0 0, .string ByteArray.empty], []⟩).memory Try.f3.params.toList Rows.labelChecksSpec.vars false #[(.slice none 0 0 : Value), (.slice none 0 0 : Value), (.string ByteArray.empty : Value)].toList 8 = some ([.nil, .nil, .lit (.string [])], [], places) :=
  ⟨[], by kernel_rfl⟩

theorem params_ok : ∀ t ∈ Try.f3.params.toList, Try.prog.readableRec t = true ∧ t < Try.prog.types.size := by
  rw [Try.params3]
  have hall : ([22, 23, 9].all fun u => Try.prog.readableRec u && decide (u < Try.prog.types.size)) = true := by kernel_rfl
  intro t ht
  simpa using List.all_eq_true.1 hall t (by simpa using ht)

theorem contract (H : Type) (enc : TypeId × Value → H) (W : World) (base : Nat) (args : Array Value) (ds gs : List (DataW H)) (before : List MemPlace)
    (hval : ∀ (j : Nat) t v, Try.f3.params[j]? = some t → args[j]? = some v → Value.okWide Try.prog W .any base t v)
    (hW : DataW.Whole enc Try.prog Try.f3.params.toList Rows.labelChecksSpec.vars false W args.toList ds gs before) (hsz : (DataW.weightsEach Try.prog (Try.f3.params.toList ++ Rows.labelChecksSpec.plain.varTypes Try.prog) (ds ++ gs)).all (· ≤ reachBytes) = true) :
    Calls Try.prog 3 args W fun e W' => ∃ v, e = .returned v ∧ Rows.labelChecksSpec.post enc Try.prog Try.f3 false true false false W args v W' := by
  have hW' := hW
  obtain ⟨p, q, hA0, hV, rfl, hfz, hnd⟩ := hW
  have hA : DataW.TrodAll enc Try.prog W 0 (fun _ => true) true Try.f3.params.toList args.toList ds p := hA0
  rw [Try.params3] at hA hval
  obtain ⟨v0, vs0, d0, ds0, p0, q0, hargs, rfl, rfl, h0, r0⟩ := trodAll_cons hA
  obtain ⟨v1, vs1, d1, ds1, p1, q1, rfl, rfl, rfl, h1, r1⟩ := trodAll_cons r0
  obtain ⟨v2, vs2, d2, ds2, p2, q2, rfl, rfl, rfl, h2, r2⟩ := trodAll_cons r1
  obtain ⟨rfl, rfl, rfl⟩ := trodAll_nil r2
  obtain rfl : args = #[v0, v1, v2] := by cases args; simp_all
  obtain ⟨rfl, rfl⟩ := trodVars_none hV
  have l0 := light_arg hsz (j := 0) (t := 22) (by rw [Try.params3]; rfl) rfl
  obtain ⟨x0, y0, z0, e0⟩ := okWide_slice Try.underlying22 (hval 0 22 v0 rfl rfl)
  subst e0
  obtain ⟨fu0, hf0⟩ := h0
  obtain ⟨a0, L0, c0, e0, at0, b0⟩ := open_labs (v := .slice x0 y0 z0) hf0 l0
  obtain ⟨rfl, rfl, rfl⟩ : x0 = a0 ∧ y0 = L0.length ∧ z0 = c0 := by simpa using e0
  have l1 := light_arg hsz (j := 1) (t := 23) (by rw [Try.params3]; rfl) rfl
  obtain ⟨x1, y1, z1, e1⟩ := okWide_slice Try.underlying23 (hval 1 23 v1 rfl rfl)
  subst e1
  obtain ⟨fu1, hf1⟩ := h1
  obtain ⟨a1, L1, c1, e1, at1, b1, g1⟩ := open_asks (v := .slice x1 y1 z1) hf1 l1
  obtain ⟨rfl, rfl, rfl⟩ : x1 = a1 ∧ y1 = L1.length ∧ z1 = c1 := by simpa using e1
  have l2 := light_arg hsz (j := 2) (t := 9) (by rw [Try.params3]; rfl) rfl
  obtain ⟨s2, rfl, rfl, rfl, w2⟩ := Go.ChangeMaps.open_string Try.underlying9 (hval 2 9 v2 rfl rfl) h2
  have z2 : s2.size ≤ 140737488355328 := by have := l2 s2.data.toList.length (by simp [DataW.weights]); simp at this; omega
  refine (walk x0 z0 L0 x1 z1 L1 s2 W at0 b0 at1 b1 g1 z2).mono fun e W' ⟨he, hb⟩ => ?_
  subst he
  exact ⟨_, rfl, law_post laidOut params_ok rfl (tb := 4) (by kernel_rfl) Try.underlying4 rfl hW' hb⟩

set_option maxRecDepth 100000 in
theorem lifted (os : Os) (started : os.Started) (H : Type) (enc : TypeId × Value → H) (F : Stop.Interp) :
    ReturnsInHanded {} Try.checked os 3 .any ((OpenSpec.ofChange Rows.labelChecksSpec).preRow enc Try.prog Try.f3 Rows.labelChecksRow.domain false Rows.labelChecksRow.laid) (((OpenSpec.ofChange Rows.labelChecksSpec).at F).post enc Try.prog Try.f3 false true false false) := by
  obtain ⟨places, hx⟩ := reads os enc
  refine returnsInHanded_of_row (C := Try.checked) (s := (OpenSpec.ofChange Rows.labelChecksSpec)) own started (by kernel_rfl) Try.func3
    (witness_row_at (enc := enc) (C := Try.checked) false (World.holding Try.prog os ⟨#[], #[], []⟩) #[.slice none 0 0, .slice none 0 0, .string ByteArray.empty] rfl (by kernel_rfl) (by kernel_rfl) (by kernel_rfl)
      (OpenSpec.preRow_of_cond 8 hx (by kernel_rfl) (fun k hk => by cases hk) (by kernel_rfl) ⟨[], rfl, List.Pairwise.nil, fun _ _ h => by cases h⟩)) ?_
  intro W base args ds gs before hval hW _ _ hsz _ _ _
  exact contract H enc W base args ds gs before hval hW hsz

theorem said : Rows.LabelChecksSaid :=
  OpenClaim.holds_of_cond 3 Try.f3 rfl rfl rfl rfl rfl rfl rfl ⟨rfl, rfl, rfl, rfl, rfl⟩ rfl rfl rfl rfl rfl (by kernel_rfl) Try.func3 (by kernel_rfl)
    (of_decide_eq_true (by kernel_rfl)) (by unfold Func.isWrapper; first | (rw [if_pos (by decide +kernel)]; kernel_rfl) | (rw [if_neg (by decide +kernel)]; exact ⟨rfl, rfl⟩))
    (fun os started H enc _ F => by rw [OpenClaim.pre_eq_preRow]; exact lifted os started H enc F)
end Go.Proofs.Ytpehmobedcflnaa.labelChecks
namespace Go.Proofs.Ytpehmobedcflnaa
theorem labelChecks_holds : Rows.LabelChecksSaid := labelChecks.said
end Go.Proofs.Ytpehmobedcflnaa
