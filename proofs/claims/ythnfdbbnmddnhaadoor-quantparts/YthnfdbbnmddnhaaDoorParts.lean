/- The law QuantParts holds of the program: amounts of several things are reckoned member by member; the chapter's examples come out. For every input; the library's tables start as the program's text lays them (the card ties them). -/
import Derived.Test.YthnfdbbnmddnhaaDoorPartsZero
import Derived.Deep.Slices
import Derived.Deep.Strs
import Derived.SizedLaws
namespace Go.Proofs.YthnfdbbnmddnhaaDoor.quantParts
open Go.ChangeShapes Go.WideShapes Go.ChangeAt Go.RowKit

theorem trod_res {H : Type} {enc : TypeId × Value → H} {W : World} {base n : Nat} {sp : Nat → Bool} {held : Bool} {cs : List Value} {x : DataW H × List MemPlace} (h : DataW.trod enc Tryd.prog W base sp held n 33 cs = some x) :
    ∃ a b c : Int, cs = [.int .i64 a, .int .i64 b, .int .i64 c] := by
  obtain ⟨y0, y1, y2, m, _, hl, h0, h1, h2⟩ := Go.Deep.trod_struct3 Tryd.underlying33 h
  rw [quantFits.cellsRes] at hl
  have ci : Tryd.prog.cellsOf 3 = 1 := by kernel_rfl
  match cs, hl with
  | [c0, c1, c2], _ =>
    obtain ⟨a, e0, _, _⟩ := DataW.trod_int Tryd.underlying3 h0
    obtain ⟨b, e1, _, _⟩ := DataW.trod_int Tryd.underlying3 h1
    obtain ⟨c, e2, _, _⟩ := DataW.trod_int Tryd.underlying3 h2
    simp [ci] at e0 e1 e2
    exact ⟨a, b, c, by rw [e0, e1, e2]⟩

/-- A slice of amounts that came in: nil, empty, or its cells. -/
theorem open_res_slice {H : Type} {enc : TypeId × Value → H} {W : World} {base : Nat} {v : Value} {d : DataW H} {p : List MemPlace} (hv : Value.okWide Tryd.prog W .any base 34 v) (ht : DataW.Trod enc Tryd.prog W 0 (fun _ => true) true 34 v d p) :
    v = .slice none 0 0 ∨ (∃ ad cap, v = .slice (some ad) 0 cap) ∨
    ∃ (B off len cap : Nat) (f g h : Nat → Int) (elems spare : List (DataW H)), v = .slice (some ⟨B, off, none⟩) len cap ∧ B < W.heap.size ∧ Hid (∀ i, i < len → W.cell? ⟨B, off + i * 3, none⟩ = some (.int .i64 (f i)) ∧ W.cell? ⟨B, off + i * 3 + 1, none⟩ = some (.int .i64 (g i)) ∧ W.cell? ⟨B, off + i * 3 + 2, none⟩ = some (.int .i64 (h i))) ∧ d = .slice elems spare ∧ elems.length = len := by
  obtain ⟨a0, len, cap, rfl⟩ := okWide_slice Tryd.underlying34 hv
  obtain ⟨fuel, hf⟩ := ht
  rcases Go.Deep.open_slice Tryd.underlying34 hf with ⟨hcs, _⟩ | ⟨a, l, c, m, n, D, Pl, hcs, _, hl, _, hm, hx, hel⟩
  · simp [Value.cells] at hcs
    obtain ⟨rfl, rfl, rfl⟩ := hcs
    exact .inl rfl
  · simp [Value.cells] at hcs
    obtain ⟨rfl, rfl, rfl⟩ := hcs
    by_cases h0 : len = 0
    · subst h0
      exact .inr (.inl ⟨_, _, rfl⟩)
    · rw [quantFits.cellsRes] at hel
      simp only [if_true] at hm
      have each : ∀ i, i < len → ∃ t : Int × Int × Int, W.cell? (a.add (i * 3)) = some (.int .i64 t.1) ∧ W.cell? ((a.add (i * 3)).add 1) = some (.int .i64 t.2.1) ∧ W.cell? ((a.add (i * 3)).add 2) = some (.int .i64 t.2.2) := by
        intro i hi
        obtain ⟨cs', hc', ht'⟩ := hel i (by omega)
        obtain ⟨p, q, r, rfl⟩ := trod_res ht'
        obtain ⟨_, _, hcell⟩ := World.cells?_some hc'
        exact ⟨(p, q, r), by simpa [Addr.add] using hcell 0 (by omega), by simpa using hcell 1 (by omega), by simpa using hcell 2 (by omega)⟩
      obtain ⟨t, ht⟩ := Go.Deep.choose_lt each
      obtain ⟨B, off, spot⟩ := a
      have hsp : spot = none := by
        have := World.cell?_spot (ht 0 (by omega)).1
        simpa [Addr.add] using this
      subst hsp
      simp only [add_plain] at ht
      refine .inr (.inr ⟨B, off, len, cap, fun i => (t i).1, fun i => (t i).2.1, fun i => (t i).2.2, _, _, rfl, ?_, fun i hi => ht i hi, (Prod.mk.inj hx).1, by simp⟩)
      have h1 := (ht 0 (by omega)).1
      rcases Nat.lt_or_ge B W.heap.size with h2 | h2
      · exact h2
      · simp [World.cell?, Array.getElem?_eq_none h2] at h1

theorem laid_met (os : Os) : laidMet Tryd.prog Rows.quantPartsRow.laid ((layTabs (World.holding Tryd.prog os ⟨#[], #[], []⟩)).forCall (fun _ _ => 0) ⟨#[], #[.agg #[.int .i64 0, .int .i64 0, .int .i64 0], .agg #[.int .i64 0, .int .i64 0, .int .i64 0], .slice none 0 0], []⟩).memory :=
  laidMet_of_run' 8 (by kernel_rfl) (by kernel_rfl)
theorem reads (os : Os) {H : Type} (enc : TypeId × Value → H) : ∃ places, DataW.whole enc Tryd.prog ((layTabs (World.holding Tryd.prog os ⟨#[], #[], []⟩)).forCall (fun _ _ => 0) ⟨#[], #[.agg #[.int .i64 0, .int .i64 0, .int .i64 0], .agg #[.int .i64 0, .int .i64 0, .int .i64 0], .slice none 0 0], []⟩).memory Tryd.f5.params.toList Rows.quantPartsSpec.vars false #[(.agg #[.int .i64 0, .int .i64 0, .int .i64 0] : Value), (.agg #[.int .i64 0, .int .i64 0, .int .i64 0] : Value), (.slice none 0 0 : Value)].toList 8 = some ([.agg [.lit (.int .i64 0), .lit (.int .i64 0), .lit (.int .i64 0)], .agg [.lit (.int .i64 0), .lit (.int .i64 0), .lit (.int .i64 0)], .nil], [], places) :=
  ⟨[], by kernel_rfl⟩

theorem params_ok : ∀ t ∈ Tryd.f5.params.toList, Tryd.prog.readableRec t = true ∧ t < Tryd.prog.types.size := by
  rw [Tryd.params5]
  have hall : ([33, 33, 34].all fun u => Tryd.prog.readableRec u && decide (u < Tryd.prog.types.size)) = true := by kernel_rfl
  intro t ht
  simpa using List.all_eq_true.1 hall t (by simpa using ht)

theorem contract (H : Type) (enc : TypeId × Value → H) (W : World) (base : Nat) (args : Array Value) (ds gs : List (DataW H)) (before : List MemPlace)
    (hval : ∀ (j : Nat) t v, Tryd.f5.params[j]? = some t → args[j]? = some v → Value.okWide Tryd.prog W .any base t v)
    (hW : DataW.Whole enc Tryd.prog Tryd.f5.params.toList Rows.quantPartsSpec.vars false W args.toList ds gs before) (hsz : (DataW.weightsEach Tryd.prog (Tryd.f5.params.toList ++ Rows.quantPartsSpec.plain.varTypes Tryd.prog) (ds ++ gs)).all (· ≤ reachBytes) = true) (hL : laidMetH Tryd.prog Rows.quantPartsRow.laid W) :
    Calls Tryd.prog 5 args W fun e W' => ∃ v, e = .returned v ∧ Rows.quantPartsSpec.post enc Tryd.prog Tryd.f5 false true false false W args v W' := by
  have hW' := hW
  obtain ⟨p, q, hA0, hV, rfl, hfz, hnd⟩ := hW
  have hA : DataW.TrodAll enc Tryd.prog W 0 (fun _ => true) true Tryd.f5.params.toList args.toList ds p := hA0
  rw [Tryd.params5] at hA hval
  obtain ⟨v0, vs0, d0, ds0, p0, q0, hargs, rfl, rfl, h0, r0⟩ := trodAll_cons hA
  obtain ⟨v1, vs1, d1, ds1, p1, q1, rfl, rfl, rfl, h1, r1⟩ := trodAll_cons r0
  obtain ⟨v2, vs2, d2, ds2, p2, q2, rfl, rfl, rfl, h2, r2⟩ := trodAll_cons r1
  obtain ⟨rfl, rfl, rfl⟩ := trodAll_nil r2
  obtain rfl : args = #[v0, v1, v2] := by cases args; simp_all
  obtain ⟨rfl, rfl⟩ := trodVars_none hV
  obtain ⟨a0, b0, c0, rfl⟩ := quantFits.open_res (hval 0 33 v0 rfl rfl) h0
  obtain ⟨a1, b1, c1, rfl⟩ := quantFits.open_res (hval 1 33 v1 rfl rfl) h1
  have hend : ∀ v : Value, (Calls Tryd.prog 5 #[.agg #[.int .i64 a0, .int .i64 b0, .int .i64 c0], .agg #[.int .i64 a1, .int .i64 b1, .int .i64 c1], v] W fun e w' => e = .returned (.bool true) ∧ Below W.heap.size W w') → v2 = v →
      Calls Tryd.prog 5 #[.agg #[.int .i64 a0, .int .i64 b0, .int .i64 c0], .agg #[.int .i64 a1, .int .i64 b1, .int .i64 c1], v2] W fun e W' => ∃ v, e = .returned v ∧ Rows.quantPartsSpec.post enc Tryd.prog Tryd.f5 false true false false W #[.agg #[.int .i64 a0, .int .i64 b0, .int .i64 c0], .agg #[.int .i64 a1, .int .i64 b1, .int .i64 c1], v2] v W' := by
    intro v hw hv
    subst hv
    refine hw.mono fun e W' ⟨he, hb⟩ => ?_
    subst he
    exact ⟨_, rfl, law_post laidOut (params_ok) rfl (tb := 4) (by kernel_rfl) Tryd.underlying4 rfl hW' hb⟩
  rcases open_res_slice (hval 2 34 v2 rfl rfl) h2 with hv | ⟨ad, cap, hv⟩ | ⟨B, off, len, cap, f, g, h, elems, spare, hv, hB, hc, hd, hlen⟩
  · exact hend _ (walk_nil a0 b0 c0 a1 b1 c1 W (tab_of_laid hL)) hv
  · exact hend _ (walk_zero a0 b0 c0 a1 b1 c1 ad cap W (tab_of_laid hL)) hv
  · have hs := sized_slice hsz (j := 2) (t := 34) (e := 33) (elems := elems) (spare := spare) (by rw [Tryd.params5]; rfl) (by rw [hd]; rfl) Tryd.underlying34
    have hby : Tryd.prog.bytesOf 33 = 24 := by kernel_rfl
    have hre : reachBytes = 140737488351232 := by decide
    rw [hby, hre, hlen] at hs
    exact hend _ (walk_some a0 b0 c0 a1 b1 c1 B off cap len f g h W (tab_of_laid hL) (by omega) hB hc) hv

set_option maxRecDepth 100000 in
theorem lifted (os : Os) (started : os.Started) (H : Type) (enc : TypeId × Value → H) (F : Stop.Interp) :
    ReturnsInHanded {} Tryd.checked os 5 .any ((OpenSpec.ofChange Rows.quantPartsSpec).preRow enc Tryd.prog Tryd.f5 Rows.quantPartsRow.domain false Rows.quantPartsRow.laid) (((OpenSpec.ofChange Rows.quantPartsSpec).at F).post enc Tryd.prog Tryd.f5 false true false false) := by
  obtain ⟨places, hx⟩ := reads os enc
  refine returnsInHanded_of_row (C := Tryd.checked) (s := OpenSpec.ofChange Rows.quantPartsSpec) own started (by kernel_rfl) Tryd.func5
    (witness_row_at (enc := enc) (C := Tryd.checked) false (layTabs (World.holding Tryd.prog os ⟨#[], #[], []⟩)) #[.agg #[.int .i64 0, .int .i64 0, .int .i64 0], .agg #[.int .i64 0, .int .i64 0, .int .i64 0], .slice none 0 0] rfl (by kernel_rfl) (by kernel_rfl) (by kernel_rfl)
      (OpenSpec.preRow_of_cond 8 hx (by kernel_rfl) (fun k hk => by cases hk) (by kernel_rfl) (laid_met os))) ?_
  intro W base args ds gs before hval hW _ _ hsz hL _ _
  exact contract H enc W base args ds gs before hval hW hsz hL

theorem said : Rows.QuantPartsSaid :=
  OpenClaim.holds_of_cond 5 Tryd.f5 rfl rfl rfl rfl rfl rfl rfl ⟨rfl, rfl, rfl, rfl, rfl⟩ rfl rfl rfl rfl rfl (by kernel_rfl) Tryd.func5 (by kernel_rfl)
    (of_decide_eq_true (by kernel_rfl)) (by unfold Func.isWrapper; first | (rw [if_pos (by decide +kernel)]; kernel_rfl) | (rw [if_neg (by decide +kernel)]; exact ⟨rfl, rfl⟩))
    (fun os started H enc _ F => by rw [OpenClaim.pre_eq_preRow]; exact lifted os started H enc F)

theorem plain (f : FuncId) (fn : Func) (hf : Tryd.pinned.checked.prog.funcNamed "stevedore/stevedorelaw01.QuantParts" = some f) (hfn : Tryd.pinned.checked.prog.funcs[f]? = some fn) :
    false = Tryd.pinned.checked.prog.looks [] ∧ ∀ (j : Nat) t, fn.params[j]? = some t → Tryd.pinned.checked.prog.wantsStandIn t = false := by
  obtain rfl : f = 5 := Option.some.inj ((show Tryd.prog.funcNamed "stevedore/stevedorelaw01.QuantParts" = some 5 by kernel_rfl).symm.trans hf) |>.symm
  obtain rfl : fn = Tryd.f5 := (Option.some.inj (Tryd.func5.symm.trans hfn)).symm
  refine ⟨by kernel_rfl, fun j t ht => ?_⟩
  rw [Tryd.params5] at ht
  have hm : t ∈ [33, 33, 34] := by simpa using Array.mem_of_getElem? ht
  have hall : ([33, 33, 34].all fun u => !Tryd.prog.wantsStandIn u) = true := by kernel_rfl
  exact (show Tryd.prog.wantsStandIn t = false by simpa using List.all_eq_true.1 hall t hm)

theorem card : Rows.QuantPartsCardSaid :=
  Claim7.holds_tied_plain_at .later [] _ _ _ _ said (fun _ h => by cases h) (by kernel_rfl) (fun _ h => by cases h) quantParts_row_tie rfl ⟨rfl, rfl⟩ (by kernel_rfl) rfl plain (by kernel_rfl)
end Go.Proofs.YthnfdbbnmddnhaaDoor.quantParts
namespace Go.Proofs.YthnfdbbnmddnhaaDoor
theorem quantParts_card : Rows.QuantPartsCardSaid := quantParts.card
end Go.Proofs.YthnfdbbnmddnhaaDoor
