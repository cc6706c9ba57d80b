/- The law LabelOthers holds of the program: what is asked the other way round is met just if the one is not; the chapter's example comes out. For every input; no condition. -/
import Derived.Test.YtpehmobedcflnaaLOpen
namespace Go.Proofs.Ytpehmobedcflnaa.labelOthers
open Go.ChangeShapes Go.WideShapes Go.ChangeAt Go.RowKit
set_option linter.unusedSimpArgs false

set_option maxHeartbeats 2000000 in
theorem walk (a : Option Addr) (cap : Nat) (L : List Lab) (key : ByteArray) (b : Option Addr) (capb : Nat) (V : List ByteArray) (w : World) (hL : Hid (LabsAt w a L)) (_ : L.length * 32 ≤ 140737488351232) (_ : key.size ≤ 140737488355328) (hV : Hid (StrsAt w b V)) (hVb : V.length * 16 ≤ 140737488351232) :
    Calls Try.prog 6 #[.slice a L.length cap, .string key, .slice b V.length capb] w fun e w' => e = .returned (.bool true) ∧ Below w.heap.size w w' := by
  have hM := fun (op : Int) (c : Option Addr) (n : Nat) (U : List ByteArray) (u : World) (h1 : Below w.heap.size w u) (h2 : StrsAt u c U) => Meets_calls a cap L key op c n U u (hL.out.on h1) h2
  have hT := fun (u : World) (h1 : Below w.heap.size w u) => Texts_calls b capb V u (hV.out.on h1) (by omega)
  have hN := fun (op : Int) (u : World) (h1 : Below w.heap.size w u) => Meets_calls a cap L key op none 0 [] u (hL.out.on h1) (StrsAt.nil u none)
  have m1 : Hid (meetsL L ⟨key, 1, V⟩ = ((getL L key).2 && hasL V (getL L key).1)) := by simp [Hid, meetsL, meetsV, Ask.key, Ask.op, Ask.vals]
  have m2 : Hid (meetsL L ⟨key, 2, V⟩ = !((getL L key).2 && hasL V (getL L key).1)) := by simp [Hid, meetsL, meetsV, Ask.key, Ask.op, Ask.vals]
  have m3 : Hid (meetsL L ⟨key, 3, []⟩ = (getL L key).2) := by simp [Hid, meetsL, meetsV, Ask.key, Ask.op, Ask.vals]
  have m4 : Hid (meetsL L ⟨key, 4, []⟩ = !(getL L key).2) := by simp [Hid, meetsL, meetsV, Ask.key, Ask.op, Ask.vals]
  generalize (getL L key).2 = p at m1 m2 m3 m4
  generalize hasL V (getL L key).1 = q at m1 m2
  have HM : Hid (∀ (op : Int) (c : Option Addr) (n : Nat) (U : List ByteArray) (u : World) (_ : Below w.heap.size w u) (_ : StrsAt u c U), Calls Try.prog 26 #[.slice a L.length cap, .agg #[.string key, .int .i64 op, .slice c U.length n]] u fun e w' => e = .returned (.bool (meetsL L ⟨key, op, U⟩)) ∧ Below u.heap.size u w') := hM
  have HT : Hid (∀ (u : World) (_ : Below w.heap.size w u), Calls Try.prog 28 #[.slice b V.length capb] u fun e w' => ∃ b cap', e = .returned (.slice b V.length cap') ∧ StrsAt w' b V ∧ Below u.heap.size u w') := hT
  have HN : Hid (∀ (op : Int) (u : World) (_ : Below w.heap.size w u), Calls Try.prog 26 #[.slice a L.length cap, .agg #[.string key, .int .i64 op, .slice none 0 0]] u fun e w' => e = .returned (.bool (meetsL L ⟨key, op, []⟩)) ∧ Below u.heap.size u w') := hN
  clear hM hT hN hL hV
  go_enter Try.func6, Try.ntmps6
  go_wp2_with fail
  refine (works_calls w).mono ?_
  rintro e w1 ⟨rfl, hb1⟩
  go_wp2_with fail
  refine (HT.out _ hb1).mono ?_
  rintro e w2 ⟨c2, n2, rfl, hs2, hb⟩
  have hb2 := on2 hb1 hb
  clear hb hb1
  go_wp2_with fail
  refine (HM.out 1 c2 n2 V _ hb2 hs2).mono ?_
  rintro e w3 ⟨rfl, hb⟩
  have hb3 := on2 hb2 hb
  clear hb hb2 hs2
  go_wp2_with fail
  refine (HT.out _ hb3).mono ?_
  rintro e w4 ⟨c4, n4, rfl, hs4, hb⟩
  have hb4 := on2 hb3 hb
  clear hb hb3
  go_wp2_with fail
  refine (HM.out 2 c4 n4 V _ hb4 hs4).mono ?_
  rintro e w5 ⟨rfl, hb⟩
  have hb5 := on2 hb4 hb
  clear hb hb4 hs4
  go_wp2_with fail
  refine (HN.out 3 _ hb5).mono ?_
  rintro e w6 ⟨rfl, hb⟩
  have hb6 := on2 hb5 hb
  clear hb hb5
  go_wp2_with fail
  refine (HN.out 4 _ hb6).mono ?_
  rintro e w7 ⟨rfl, hb⟩
  have hb7 := on2 hb6 hb
  clear hb hb6 HM HT HN
  rw [m1.out, m2.out, m3.out, m4.out]
  clear m1 m2 m3 m4
  cases p <;> cases q <;> (go_wp2_with fail; go_ret; exact ⟨rfl, hb7⟩)

theorem reads (os : Os) {H : Type} (enc : TypeId × Value → H) : ∃ places, DataW.whole enc Try.prog ((World.holding Try.prog os ⟨#[], #[], []⟩).forCall (fun _ _ => 0) ⟨#[], #[.slice none 0 0, .string ByteArray.empty, .slice none 0 0], []⟩).memory Try.f6.params.toList Rows.labelOthersSpec.vars false #[(.slice none 0 0 : Value), (.string ByteArray.empty : Value), (.slice none 0 0 : Value)].toList 8 = some ([.nil, .lit (.string []), .nil], [], places) :=
  ⟨[], by kernel_rfl⟩

theorem params_ok : ∀ t ∈ Try.f6.params.toList, Try.prog.readableRec t = true ∧ t < Try.prog.types.size := by
  rw [Try.params6]
  have hall : ([22, 9, 39].all fun u => Try.prog.readableRec u && decide (u < Try.prog.types.size)) = true := by kernel_rfl
  intro t ht
  simpa using List.all_eq_true.1 hall t (by simpa using ht)

theorem contract (H : Type) (enc : TypeId × Value → H) (W : World) (base : Nat) (args : Array Value) (ds gs : List (DataW H)) (before : List MemPlace)
    (hval : ∀ (j : Nat) t v, Try.f6.params[j]? = some t → args[j]? = some v → Value.okWide Try.prog W .any base t v)
    (hW : DataW.Whole enc Try.prog Try.f6.params.toList Rows.labelOthersSpec.vars false W args.toList ds gs before) (hsz : (DataW.weightsEach Try.prog (Try.f6.params.toList ++ Rows.labelOthersSpec.plain.varTypes Try.prog) (ds ++ gs)).all (· ≤ reachBytes) = true) :
    Calls Try.prog 6 args W fun e W' => ∃ v, e = .returned v ∧ Rows.labelOthersSpec.post enc Try.prog Try.f6 false true false false W args v W' := by
  have hW' := hW
  obtain ⟨p, q, hA0, hV, rfl, hfz, hnd⟩ := hW
  have hA : DataW.TrodAll enc Try.prog W 0 (fun _ => true) true Try.f6.params.toList args.toList ds p := hA0
  rw [Try.params6] at hA hval
  obtain ⟨v0, vs0, d0, ds0, p0, q0, hargs, rfl, rfl, h0, r0⟩ := trodAll_cons hA
  obtain ⟨v1, vs1, d1, ds1, p1, q1, rfl, rfl, rfl, h1, r1⟩ := trodAll_cons r0
  obtain ⟨v2, vs2, d2, ds2, p2, q2, rfl, rfl, rfl, h2, r2⟩ := trodAll_cons r1
  obtain ⟨rfl, rfl, rfl⟩ := trodAll_nil r2
  obtain rfl : args = #[v0, v1, v2] := by cases args; simp_all
  obtain ⟨rfl, rfl⟩ := trodVars_none hV
  have l0 := light_arg hsz (j := 0) (t := 22) (by rw [Try.params6]; rfl) rfl
  obtain ⟨x0, y0, z0, e0⟩ := okWide_slice Try.underlying22 (hval 0 22 v0 rfl rfl)
  subst e0
  obtain ⟨fu0, hf0⟩ := h0
  obtain ⟨a0, L0, c0, e0, at0, b0⟩ := open_labs (v := .slice x0 y0 z0) hf0 l0
  obtain ⟨rfl, rfl, rfl⟩ : x0 = a0 ∧ y0 = L0.length ∧ z0 = c0 := by simpa using e0
  have l1 := light_arg hsz (j := 1) (t := 9) (by rw [Try.params6]; rfl) rfl
  obtain ⟨s1, rfl, rfl, rfl, w1⟩ := Go.ChangeMaps.open_string Try.underlying9 (hval 1 9 v1 rfl rfl) h1
  have z1 : s1.size ≤ 140737488355328 := by have := l1 s1.data.toList.length (by simp [DataW.weights]); simp at this; omega
  have l2 := light_arg hsz (j := 2) (t := 39) (by rw [Try.params6]; rfl) rfl
  obtain ⟨x2, y2, z2, e2⟩ := okWide_slice Try.underlying39 (hval 2 39 v2 rfl rfl)
  subst e2
  obtain ⟨fu2, hf2⟩ := h2
  obtain ⟨a2, L2, c2, e2, at2, b2⟩ := open_strs (v := .slice x2 y2 z2) hf2 l2
  obtain ⟨rfl, rfl, rfl⟩ : x2 = a2 ∧ y2 = L2.length ∧ z2 = c2 := by simpa using e2
  refine (walk x0 z0 L0 s1 x2 z2 L2 W at0 b0 z1 at2 b2).mono fun e W' ⟨he, hb⟩ => ?_
  subst he
  exact ⟨_, rfl, law_post laidOut params_ok rfl (tb := 4) (by kernel_rfl) Try.underlying4 rfl hW' hb⟩

set_option maxRecDepth 100000 in
theorem lifted (os : Os) (started : os.Started) (H : Type) (enc : TypeId × Value → H) (F : Stop.Interp) :
    ReturnsInHanded {} Try.checked os 6 .any ((OpenSpec.ofChange Rows.labelOthersSpec).preRow enc Try.prog Try.f6 Rows.labelOthersRow.domain false Rows.labelOthersRow.laid) (((OpenSpec.ofChange Rows.labelOthersSpec).at F).post enc Try.prog Try.f6 false true false false) := by
  obtain ⟨places, hx⟩ := reads os enc
  refine returnsInHanded_of_row (C := Try.checked) (s := (OpenSpec.ofChange Rows.labelOthersSpec)) own started (by kernel_rfl) Try.func6
    (witness_row_at (enc := enc) (C := Try.checked) false (World.holding Try.prog os ⟨#[], #[], []⟩) #[.slice none 0 0, .string ByteArray.empty, .slice none 0 0] rfl (by kernel_rfl) (by kernel_rfl) (by kernel_rfl)
      (OpenSpec.preRow_of_cond 8 hx (by kernel_rfl) (fun k hk => by cases hk) (by kernel_rfl) ⟨[], rfl, List.Pairwise.nil, fun _ _ h => by cases h⟩)) ?_
  intro W base args ds gs before hval hW _ _ hsz _ _ _
  exact contract H enc W base args ds gs before hval hW hsz

theorem said : Rows.LabelOthersSaid :=
  OpenClaim.holds_of_cond 6 Try.f6 rfl rfl rfl rfl rfl rfl rfl ⟨rfl, rfl, rfl, rfl, rfl⟩ rfl rfl rfl rfl rfl (by kernel_rfl) Try.func6 (by kernel_rfl)
    (of_decide_eq_true (by kernel_rfl)) (by unfold Func.isWrapper; first | (rw [if_pos (by decide +kernel)]; kernel_rfl) | (rw [if_neg (by decide +kernel)]; exact ⟨rfl, rfl⟩))
    (fun os started H enc _ F => by rw [OpenClaim.pre_eq_preRow]; exact lifted os started H enc F)
end Go.Proofs.Ytpehmobedcflnaa.labelOthers
namespace Go.Proofs.Ytpehmobedcflnaa
theorem labelOthers_holds : Rows.LabelOthersSaid := labelOthers.said
end Go.Proofs.Ytpehmobedcflnaa
