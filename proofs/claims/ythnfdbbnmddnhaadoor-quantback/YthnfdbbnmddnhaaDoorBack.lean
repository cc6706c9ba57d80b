/- The law QuantBack holds of the program: an amount is read from its text as it was, and a text that tells one is told again so that it tells the same; the chapter's examples come out. For every input; the library's tables start as the program's text lays them (the card ties them). -/
import Derived.Test.YthnfdbbnmddnhaaDoorWorks
import Derived.Test.YthnfdbbnmddnhaaDoorBackNum
import Derived.Test.YthnfdbbnmddnhaaDoorWorld
import Derived.Test.YthnfdbbnmddnhaaDoorCards
import Derived.Test.YthnfdbbnmddnhaaDoorTie
namespace Go.Proofs.YthnfdbbnmddnhaaDoor.quantBack
open Go.ChangeShapes Go.WideShapes Go.ChangeAt Go.RowKit

theorem chain {a b c : World} (h1 : Below a.heap.size a b) (h2 : Below b.heap.size b c) : Below a.heap.size a c := h1.trans (h2.mono h1.size)

theorem among_calls (m : Int) (w : World) (h0 : 0 ≤ m) (h1 : m ≤ 1125899906842624) : Calls Tryd.prog 32 #[.int .i64 m, .int .i64 1125899906842625] w fun e w' => e = .returned (.int .i64 m) ∧ w' = w := by
  have hm : m % 1125899906842625 = m := Int.emod_eq_of_lt h0 (by omega)
  go_enter Tryd.func32, Tryd.ntmps32
  go_wp2
  go_ret
  exact ⟨rfl, rfl⟩

/-- Parse of an amount's text, as the law calls it. -/
theorem parse_back (a : Int) (w : World) : Calls Tryd.prog 20 #[.string ⟨(printL a).toArray⟩] w fun e w' => e = .returned (.tuple #[.int .i64 (clampI a), .int .i64 0]) ∧ w' = w := by
  have h1 := clampI_ge a; have h2 := clampI_le a
  have hl : (printL a).length ≤ 22 := by
    unfold printL
    split
    · have := Lib.itoa_length_le (clampI a / 1000) (by omega) (by omega)
      rw [itoa_nat (by omega)] at this
      omega
    · have := Lib.itoa_length_le (clampI a) (by omega) (by omega)
      rw [itoa_nat (by omega)] at this
      simp only [List.length_append, List.length_singleton]
      omega
  have h := parse_calls ⟨(printL a).toArray⟩ w (by show (printL a).toArray.size ≤ maxLen; unfold maxLen; rw [List.size_toArray]; omega)
  have e : parseL (⟨(printL a).toArray⟩ : ByteArray).data.toList = ((clampI a).toNat, 0) := parse_print a
  rw [e, show (((clampI a).toNat : Nat) : Int) = clampI a from Int.toNat_of_nonneg h1] at h
  exact h

set_option maxHeartbeats 1000000 in
theorem walk (a : Int) (s : ByteArray) (w : World) (hs : s.size ≤ maxLen) (ht : Tab w) :
    Calls Tryd.prog 7 #[.int .i64 a, .string s] w fun e w' => e = .returned (.bool true) ∧ Below w.heap.size w w' := by
  have HT := ht
  have hle := parseL_le s.data.toList
  by_cases he : (parseL s.data.toList).2 = 0
  · have he' : (((parseL s.data.toList).2 : Int) != 0) = false := by rw [he]; rfl
    have HC : Hid (clampI ((parseL s.data.toList).1 : Int) = ((parseL s.data.toList).1 : Int)) := clampI_id (by omega) (by omega)
    clear he
    go_enter Tryd.func7, Tryd.ntmps7
    go_wp2_with fail
    refine (works_calls _ HT).mono ?_
    rintro e w1 ⟨rfl, hb1⟩
    go_wp2_with fail
    refine (print_calls _ _ (HT.on hb1)).mono ?_
    rintro e w2 ⟨rfl, hb2⟩
    go_wp2_with fail
    refine (parse_back _ _).mono ?_
    rintro e w3 ⟨rfl, rfl⟩
    go_wp2_with (first | (go_at_call 9; refine (clamp_calls _ _).mono ?_; rintro e w' ⟨rfl, rfl⟩) | (go_at_call 20; refine (parse_calls _ _ hs).mono ?_; rintro e w' ⟨rfl, rfl⟩))
    refine (print_calls _ _ ((HT.on hb1).on hb2)).mono ?_
    rintro e w4 ⟨rfl, hb4⟩
    go_wp2_with fail
    refine (parse_back _ _).mono ?_
    rintro e w5 ⟨rfl, rfl⟩
    rw [HC.out]
    go_wp2_with (go_at_call 32; refine (among_calls _ _ (by omega) (by omega)).mono ?_; rintro e w' ⟨rfl, rfl⟩)
    go_ret
    exact ⟨rfl, chain (chain hb1 hb2) hb4⟩
  · have he' : (((parseL s.data.toList).2 : Int) != 0) = true := by rw [bne_iff_ne]; omega
    have HZ : (parseL s.data.toList).1 = 0 := parseL_err _ he
    go_enter Tryd.func7, Tryd.ntmps7
    go_wp2_with fail
    refine (works_calls _ HT).mono ?_
    rintro e w1 ⟨rfl, hb1⟩
    go_wp2_with fail
    refine (print_calls _ _ (HT.on hb1)).mono ?_
    rintro e w2 ⟨rfl, hb2⟩
    go_wp2_with fail
    refine (parse_back _ _).mono ?_
    rintro e w3 ⟨rfl, rfl⟩
    go_wp2_with (first | (go_at_call 9; refine (clamp_calls _ _).mono ?_; rintro e w' ⟨rfl, rfl⟩) | (go_at_call 20; refine (parse_calls _ _ hs).mono ?_; rintro e w' ⟨rfl, rfl⟩))
    go_ret
    exact ⟨rfl, chain hb1 hb2⟩

theorem laid_met (os : Os) : laidMet Tryd.prog Rows.quantBackRow.laid ((layTabs (World.holding Tryd.prog os ⟨#[], #[], []⟩)).forCall (fun _ _ => 0) ⟨#[], #[.int .i64 0, .string ByteArray.empty], []⟩).memory :=
  laidMet_of_run' 8 (by kernel_rfl) (by kernel_rfl)
theorem reads (os : Os) {H : Type} (enc : TypeId × Value → H) : ∃ places, DataW.whole enc Tryd.prog ((layTabs (World.holding Tryd.prog os ⟨#[], #[], []⟩)).forCall (fun _ _ => 0) ⟨#[], #[.int .i64 0, .string ByteArray.empty], []⟩).memory Tryd.f7.params.toList Rows.quantBackSpec.vars false #[(.int .i64 0 : Value), (.string ByteArray.empty : Value)].toList 8 = some ([.lit (.int .i64 0), .lit (.string [])], [], places) :=
  ⟨[], by kernel_rfl⟩

theorem params_ok : ∀ t ∈ Tryd.f7.params.toList, Tryd.prog.readableRec t = true ∧ t < Tryd.prog.types.size := by
  rw [Tryd.params7]
  have hall : ([3, 9].all fun u => Tryd.prog.readableRec u && decide (u < Tryd.prog.types.size)) = true := by kernel_rfl
  intro t ht
  simpa using List.all_eq_true.1 hall t (by simpa using ht)

theorem contract (H : Type) (enc : TypeId × Value → H) (W : World) (base : Nat) (args : Array Value) (ds gs : List (DataW H)) (before : List MemPlace)
    (hval : ∀ (j : Nat) t v, Tryd.f7.params[j]? = some t → args[j]? = some v → Value.okWide Tryd.prog W .any base t v)
    (hW : DataW.Whole enc Tryd.prog Tryd.f7.params.toList Rows.quantBackSpec.vars false W args.toList ds gs before) (hL : laidMetH Tryd.prog Rows.quantBackRow.laid W) :
    Calls Tryd.prog 7 args W fun e W' => ∃ v, e = .returned v ∧ Rows.quantBackSpec.post enc Tryd.prog Tryd.f7 false true false false W args v W' := by
  have hW' := hW
  obtain ⟨p, q, hA0, hV, rfl, hfz, hnd⟩ := hW
  have hA : DataW.TrodAll enc Tryd.prog W 0 (fun _ => true) true Tryd.f7.params.toList args.toList ds p := hA0
  rw [Tryd.params7] at hA hval
  obtain ⟨v0, vs0, d0, ds0, p0, q0, hargs, rfl, rfl, h0, r0⟩ := trodAll_cons hA
  obtain ⟨v1, vs1, d1, ds1, p1, q1, rfl, rfl, rfl, h1, r1⟩ := trodAll_cons r0
  obtain ⟨rfl, rfl, rfl⟩ := trodAll_nil r1
  obtain rfl : args = #[v0, v1] := by cases args; simp_all
  obtain ⟨rfl, rfl⟩ := trodVars_none hV
  obtain ⟨a0, rfl, rfl, rfl, w0⟩ := open_int Tryd.underlying3 (hval 0 3 v0 rfl rfl) h0
  obtain ⟨a1, rfl, rfl, rfl, w1⟩ := Go.ChangeMaps.open_string Tryd.underlying9 (hval 1 9 v1 rfl rfl) h1
  refine (walk a0 a1 W w1 (tab_of_laid hL)).mono fun e W' ⟨he, hb⟩ => ?_
  subst he
  exact ⟨_, rfl, law_post laidOut (params_ok) rfl (tb := 4) (by kernel_rfl) Tryd.underlying4 rfl hW' hb⟩

set_option maxRecDepth 100000 in
theorem lifted (os : Os) (started : os.Started) (H : Type) (enc : TypeId × Value → H) (F : Stop.Interp) :
    ReturnsInHanded {} Tryd.checked os 7 .any ((OpenSpec.ofChange Rows.quantBackSpec).preRow enc Tryd.prog Tryd.f7 Rows.quantBackRow.domain false Rows.quantBackRow.laid) (((OpenSpec.ofChange Rows.quantBackSpec).at F).post enc Tryd.prog Tryd.f7 false true false false) := by
  obtain ⟨places, hx⟩ := reads os enc
  refine returnsInHanded_of_row (C := Tryd.checked) (s := OpenSpec.ofChange Rows.quantBackSpec) own started (by kernel_rfl) Tryd.func7
    (witness_row_at (enc := enc) (C := Tryd.checked) false (layTabs (World.holding Tryd.prog os ⟨#[], #[], []⟩)) #[.int .i64 0, .string ByteArray.empty] rfl (by kernel_rfl) (by kernel_rfl) (by kernel_rfl)
      (OpenSpec.preRow_of_cond 8 hx (by kernel_rfl) (fun k hk => by cases hk) (by kernel_rfl) (laid_met os))) ?_
  intro W base args ds gs before hval hW _ _ _ hL _ _
  exact contract H enc W base args ds gs before hval hW hL

theorem said : Rows.QuantBackSaid :=
  OpenClaim.holds_of_cond 7 Tryd.f7 rfl rfl rfl rfl rfl rfl rfl ⟨rfl, rfl, rfl, rfl, rfl⟩ rfl rfl rfl rfl rfl (by kernel_rfl) Tryd.func7 (by kernel_rfl)
    (of_decide_eq_true (by kernel_rfl)) (by unfold Func.isWrapper; first | (rw [if_pos (by decide +kernel)]; kernel_rfl) | (rw [if_neg (by decide +kernel)]; exact ⟨rfl, rfl⟩))
    (fun os started H enc _ F => by rw [OpenClaim.pre_eq_preRow]; exact lifted os started H enc F)

theorem plain (f : FuncId) (fn : Func) (hf : Tryd.pinned.checked.prog.funcNamed "stevedore/stevedorelaw01.QuantBack" = some f) (hfn : Tryd.pinned.checked.prog.funcs[f]? = some fn) :
    false = Tryd.pinned.checked.prog.looks [] ∧ ∀ (j : Nat) t, fn.params[j]? = some t → Tryd.pinned.checked.prog.wantsStandIn t = false := by
  obtain rfl : f = 7 := Option.some.inj ((show Tryd.prog.funcNamed "stevedore/stevedorelaw01.QuantBack" = some 7 by kernel_rfl).symm.trans hf) |>.symm
  obtain rfl : fn = Tryd.f7 := (Option.some.inj (Tryd.func7.symm.trans hfn)).symm
  refine ⟨by kernel_rfl, fun j t ht => ?_⟩
  rw [Tryd.params7] at ht
  have hm : t ∈ [3, 9] := by simpa using Array.mem_of_getElem? ht
  have hall : ([3, 9].all fun u => !Tryd.prog.wantsStandIn u) = true := by kernel_rfl
  exact (show Tryd.prog.wantsStandIn t = false by simpa using List.all_eq_true.1 hall t hm)

theorem card : Rows.QuantBackCardSaid :=
  Claim7.holds_tied_plain_at .later [] _ _ _ _ said (fun _ h => by cases h) (by kernel_rfl) (fun _ h => by cases h) quantBack_row_tie rfl ⟨rfl, rfl⟩ (by kernel_rfl) rfl plain (by kernel_rfl)
end Go.Proofs.YthnfdbbnmddnhaaDoor.quantBack
namespace Go.Proofs.YthnfdbbnmddnhaaDoor
theorem quantBack_card : Rows.QuantBackCardSaid := quantBack.card
end Go.Proofs.YthnfdbbnmddnhaaDoor
