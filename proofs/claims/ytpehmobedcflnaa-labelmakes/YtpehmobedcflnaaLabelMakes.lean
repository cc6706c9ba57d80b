/- The law LabelMakes holds of the program: labels are made of pairs, sorted, or refused, as the document says; the chapter's example comes out. For every input; no condition. -/
import Derived.Test.YtpehmobedcflnaaLMakeR
namespace Go.Proofs.Ytpehmobedcflnaa.labelMakes
open Go.ChangeShapes Go.WideShapes Go.ChangeAt Go.RowKit
set_option linter.unusedSimpArgs false

/-- Labels can be sorted by key. -/
theorem sort_exists : ∀ L : List Lab, ∃ S : List Lab, S.Perm L ∧ SortedK S := by
  have ins : ∀ (x : Lab) (A : List Lab), SortedK A → ∃ S : List Lab, S.Perm (x :: A) ∧ SortedK S := by
    intro x A
    induction A with
    | nil => intro _; exact ⟨[x], List.Perm.refl _, by simp [SortedK]⟩
    | cons y A ih =>
      intro hA
      obtain ⟨h1, h2⟩ := List.pairwise_cons.1 hA
      cases e : sLt x.1 y.1
      · obtain ⟨S, hp, hs⟩ := ih h2
        refine ⟨y :: S, (List.Perm.cons y hp).trans (List.Perm.swap _ _ _), List.pairwise_cons.2 ⟨fun z hz => ?_, hs⟩⟩
        rcases List.mem_cons.1 (hp.mem_iff.1 hz) with rfl | hz
        · exact e
        · exact h1 z hz
      · refine ⟨x :: y :: A, List.Perm.refl _, List.pairwise_cons.2 ⟨fun z hz => ?_, hA⟩⟩
        rcases List.mem_cons.1 hz with rfl | hz
        · exact sLt_asymm e
        · exact sLt_ntrans (h1 z hz) (sLt_asymm e)
  intro L
  induction L with
  | nil => exact ⟨[], List.Perm.refl _, List.Pairwise.nil⟩
  | cons x L ih =>
    obtain ⟨S, hp, hs⟩ := ih
    obtain ⟨T, hp', hs'⟩ := ins x S hs
    exact ⟨T, hp'.trans (List.Perm.cons x hp), hs'⟩

theorem same_nil (w : World) : Calls Try.prog 17 #[.slice none 0 0, .slice none 0 0] w fun e w' => e = .returned (.bool true) ∧ ∃ n, w' = w.drewN n := SameLabels_calls none 0 none 0 [] w (LabsAt.nil w none) (LabsAt.nil w none)

set_option maxHeartbeats 2000000 in
theorem walk_odd (a : Option Addr) (cap : Nat) (P : List ByteArray) (w : World) (hP : Hid (StrsAt w a P)) (hb : P.length * 16 ≤ 140737488351232) (ho : Hid (P.length % 2 = 1)) :
    Calls Try.prog 5 #[.slice a P.length cap] w fun e w' => e = .returned (.bool true) ∧ Below w.heap.size w w' := by
  have hP' : Hid (∀ {u : World}, Below w.heap.size w u → StrsAt u a P) := fun h => hP.out.on h
  clear hP
  go_enter Try.func5, Try.ntmps5
  go_wp2_with fail
  refine (Texts_calls a cap P w (hP'.out (Below.refl _ _)) (by omega)).mono ?_
  rintro e w1 ⟨b, capb, rfl, hat, hb1⟩
  go_wp2_with fail
  refine (Make_odd b capb P w1 ho).mono ?_
  rintro e w2 ⟨rfl, rfl⟩
  go_wp2_with fail
  refine (rMake_odd a cap P _ ho).mono ?_
  rintro e w3 ⟨rfl, rfl⟩
  go_wp2_with fail
  refine (same_nil _).mono ?_
  rintro e w4 ⟨rfl, n4, rfl⟩
  go_wp2_with fail
  refine (SameTexts_calls b capb a cap P _ (hat.on (below_drewN (Below.refl _ _) _)) (hP'.out (below_drewN hb1 _))).mono ?_
  rintro e w5 ⟨rfl, n5, rfl⟩
  go_wp2_with fail
  refine (works_calls _).mono ?_
  rintro e w6 ⟨rfl, hb6⟩
  have hbz := on2 (below_drewN hb1 (n4 + n5)) hb6
  clear hb6
  go_wp2_with fail
  go_ret
  exact ⟨rfl, hbz⟩

set_option maxHeartbeats 4000000 in
theorem walk_even (a : Option Addr) (cap : Nat) (P : List ByteArray) (w : World) (hP : Hid (StrsAt w a P)) (hb : P.length * 16 ≤ 140737488351232) (ho : Hid (P.length % 2 = 0)) :
    Calls Try.prog 5 #[.slice a P.length cap] w fun e w' => e = .returned (.bool true) ∧ Below w.heap.size w w' := by
  have hP' : Hid (∀ {u : World}, Below w.heap.size w u → StrsAt u a P) := fun h => hP.out.on h
  obtain ⟨S, hSp, hSs⟩ := sort_exists (pairsTo P (P.length / 2))
  have k1 := fun (b : Option Addr) (capb : Nat) (u : World) (h : StrsAt u b P) => Make_calls b capb P u S h (by omega) ho hSp hSs
  have k2 := fun (u : World) (h : StrsAt u a P) => rMake_calls a cap P u S h (by omega) ho hSp hSs
  have K1 : Hid (∀ (b : Option Addr) (capb : Nat) (u : World) (_ : StrsAt u b P), Calls Try.prog 29 #[.slice b P.length capb] u fun e w' => MadeAs u S e w') := k1
  have K2 : Hid (∀ (u : World) (_ : StrsAt u a P), Calls Try.prog 30 #[.slice a P.length cap] u fun e w' => MadeAs u S e w') := k2
  clear hP k1 k2 hSp hSs
  go_enter Try.func5, Try.ntmps5
  go_wp2_with fail
  refine (Texts_calls a cap P w (hP'.out (Below.refl _ _)) (by omega)).mono ?_
  rintro e w1 ⟨b, capb, rfl, hat, hb1⟩
  have hat' : Hid (∀ {u : World}, Below w1.heap.size w1 u → StrsAt u b P) := fun h => hat.on h
  clear hat
  go_wp2_with fail
  refine (K1.out b capb w1 (hat'.out (Below.refl _ _))).mono ?_
  rintro e w2 ⟨hb2, ⟨h0, rfl⟩ | ⟨h0, d, capd, rfl, hd⟩⟩
  · go_wp2_with fail
    refine (K2.out _ (hP'.out (on2 hb1 hb2))).mono ?_
    rintro e w3 ⟨hb3, ⟨_, rfl⟩ | ⟨h0', _⟩⟩
    · have hs3 := on2 hb2 hb3
      have hcc : (checkI S == checkI S) = true := by simp
      clear K1 K2 hb2 hb3
      generalize checkI S = r at h0 hcc
      go_wp2_with fail
      refine (same_nil _).mono ?_
      rintro e w4 ⟨rfl, n4, rfl⟩
      go_wp2_with fail
      refine (SameTexts_calls b capb a cap P _ (hat'.out (below_drewN hs3 _)) (hP'.out (on2 hb1 (below_drewN hs3 _)))).mono ?_
      rintro e w5 ⟨rfl, n5, rfl⟩
      go_wp2_with fail
      refine (works_calls _).mono ?_
      rintro e w6 ⟨rfl, hb6⟩
      have hbz := on2 hb1 (on2 (below_drewN hs3 (n4 + n5)) hb6)
      clear hb6
      go_wp2_with fail
      go_ret
      exact ⟨rfl, hbz⟩
    · exact absurd h0' h0
  · go_wp2_with fail
    refine (K2.out _ (hP'.out (on2 hb1 hb2))).mono ?_
    rintro e w3 ⟨hb3, ⟨h0', _⟩ | ⟨_, d2, capd2, rfl, hd2⟩⟩
    · exact absurd h0 h0'
    · have hs3 := on2 hb2 hb3
      have hd3 : Hid (LabsAt w3 d S) := hd.on hb3
      have hd4 : Hid (LabsAt w3 d2 S) := hd2
      clear K1 K2 hb2 hb3 hd hd2 h0
      go_wp2_with fail
      refine (SameLabels_calls d capd d2 capd2 S _ hd3 hd4).mono ?_
      rintro e w4 ⟨rfl, n4, rfl⟩
      go_wp2_with fail
      refine (SameTexts_calls b capb a cap P _ (hat'.out (below_drewN hs3 _)) (hP'.out (on2 hb1 (below_drewN hs3 _)))).mono ?_
      rintro e w5 ⟨rfl, n5, rfl⟩
      go_wp2_with fail
      refine (works_calls _).mono ?_
      rintro e w6 ⟨rfl, hb6⟩
      have hbz := on2 hb1 (on2 (below_drewN hs3 (n4 + n5)) hb6)
      clear hb6
      go_wp2_with fail
      go_ret
      exact ⟨rfl, hbz⟩

theorem walk (a : Option Addr) (cap : Nat) (P : List ByteArray) (w : World) (hP : Hid (StrsAt w a P)) (hb : P.length * 16 ≤ 140737488351232) :
    Calls Try.prog 5 #[.slice a P.length cap] w fun e w' => e = .returned (.bool true) ∧ Below w.heap.size w w' := by
  rcases Nat.mod_two_eq_zero_or_one P.length with h | h
  · exact walk_even a cap P w hP hb h
  · exact walk_odd a cap P w hP hb h

theorem reads (os : Os) {H : Type} (enc : TypeId × Value → H) : ∃ places, DataW.whole enc Try.prog ((World.holding Try.prog os ⟨#[], #[], []⟩).forCall (fun _ _ => 0) ⟨#[], #[.slice none 0 0], []⟩).memory Try.f5.params.toList Rows.labelMakesSpec.vars false #[(.slice none 0 0 : Value)].toList 8 = some ([.nil], [], places) :=
  ⟨[], by kernel_rfl⟩

theorem params_ok : ∀ t ∈ Try.f5.params.toList, Try.prog.readableRec t = true ∧ t < Try.prog.types.size := by
  rw [Try.params5]
  have hall : ([39].all fun u => Try.prog.readableRec u && decide (u < Try.prog.types.size)) = true := by kernel_rfl
  intro t ht
  simpa using List.all_eq_true.1 hall t (by simpa using ht)

theorem contract (H : Type) (enc : TypeId × Value → H) (W : World) (base : Nat) (args : Array Value) (ds gs : List (DataW H)) (before : List MemPlace)
    (hval : ∀ (j : Nat) t v, Try.f5.params[j]? = some t → args[j]? = some v → Value.okWide Try.prog W .any base t v)
    (hW : DataW.Whole enc Try.prog Try.f5.params.toList Rows.labelMakesSpec.vars false W args.toList ds gs before) (hsz : (DataW.weightsEach Try.prog (Try.f5.params.toList ++ Rows.labelMakesSpec.plain.varTypes Try.prog) (ds ++ gs)).all (· ≤ reachBytes) = true) :
    Calls Try.prog 5 args W fun e W' => ∃ v, e = .returned v ∧ Rows.labelMakesSpec.post enc Try.prog Try.f5 false true false false W args v W' := by
  have hW' := hW
  obtain ⟨p, q, hA0, hV, rfl, hfz, hnd⟩ := hW
  have hA : DataW.TrodAll enc Try.prog W 0 (fun _ => true) true Try.f5.params.toList args.toList ds p := hA0
  rw [Try.params5] at hA hval
  obtain ⟨v0, vs0, d0, ds0, p0, q0, hargs, rfl, rfl, h0, r0⟩ := trodAll_cons hA
  obtain ⟨rfl, rfl, rfl⟩ := trodAll_nil r0
  obtain rfl : args = #[v0] := by cases args; simp_all
  obtain ⟨rfl, rfl⟩ := trodVars_none hV
  have l0 := light_arg hsz (j := 0) (t := 39) (by rw [Try.params5]; rfl) rfl
  obtain ⟨x0, y0, z0, e0⟩ := okWide_slice Try.underlying39 (hval 0 39 v0 rfl rfl)
  subst e0
  obtain ⟨fu0, hf0⟩ := h0
  obtain ⟨a0, L0, c0, e0, at0, b0⟩ := open_strs (v := .slice x0 y0 z0) hf0 l0
  obtain ⟨rfl, rfl, rfl⟩ : x0 = a0 ∧ y0 = L0.length ∧ z0 = c0 := by simpa using e0
  refine (walk x0 z0 L0 W at0 b0).mono fun e W' ⟨he, hb⟩ => ?_
  subst he
  exact ⟨_, rfl, law_post laidOut params_ok rfl (tb := 4) (by kernel_rfl) Try.underlying4 rfl hW' hb⟩

set_option maxRecDepth 100000 in
theorem lifted (os : Os) (started : os.Started) (H : Type) (enc : TypeId × Value → H) (F : Stop.Interp) :
    ReturnsInHanded {} Try.checked os 5 .any ((OpenSpec.ofChange Rows.labelMakesSpec).preRow enc Try.prog Try.f5 Rows.labelMakesRow.domain false Rows.labelMakesRow.laid) (((OpenSpec.ofChange Rows.labelMakesSpec).at F).post enc Try.prog Try.f5 false true false false) := by
  obtain ⟨places, hx⟩ := reads os enc
  refine returnsInHanded_of_row (C := Try.checked) (s := (OpenSpec.ofChange Rows.labelMakesSpec)) own started (by kernel_rfl) Try.func5
    (witness_row_at (enc := enc) (C := Try.checked) false (World.holding Try.prog os ⟨#[], #[], []⟩) #[.slice none 0 0] rfl (by kernel_rfl) (by kernel_rfl) (by kernel_rfl)
      (OpenSpec.preRow_of_cond 8 hx (by kernel_rfl) (fun k hk => by cases hk) (by kernel_rfl) ⟨[], rfl, List.Pairwise.nil, fun _ _ h => by cases h⟩)) ?_
  intro W base args ds gs before hval hW _ _ hsz _ _ _
  exact contract H enc W base args ds gs before hval hW hsz

theorem said : Rows.LabelMakesSaid :=
  OpenClaim.holds_of_cond 5 Try.f5 rfl rfl rfl rfl rfl rfl rfl ⟨rfl, rfl, rfl, rfl, rfl⟩ rfl rfl rfl rfl rfl (by kernel_rfl) Try.func5 (by kernel_rfl)
    (of_decide_eq_true (by kernel_rfl)) (by unfold Func.isWrapper; first | (rw [if_pos (by decide +kernel)]; kernel_rfl) | (rw [if_neg (by decide +kernel)]; exact ⟨rfl, rfl⟩))
    (fun os started H enc _ F => by rw [OpenClaim.pre_eq_preRow]; exact lifted os started H enc F)
end Go.Proofs.Ytpehmobedcflnaa.labelMakes
namespace Go.Proofs.Ytpehmobedcflnaa
theorem labelMakes_holds : Rows.LabelMakesSaid := labelMakes.said
end Go.Proofs.Ytpehmobedcflnaa
