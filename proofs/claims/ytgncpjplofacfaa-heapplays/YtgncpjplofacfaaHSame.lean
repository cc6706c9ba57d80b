/- The law's 'same' at equal lists; an append to one's own row in the text's order; entries as they come in. Condition: fewer than 1,000,000,000 entries. -/
import Derived.Test.YtgncpjplofacfaaHRef
import Derived.Test.YtgncpjplofacfaaROpen
namespace Go.Proofs.Ytgncpjplofacfaa
open Go.ChangeShapes Go.WideShapes Go.ChangeAt Go.RowKit Go.Maps
set_option linter.unusedSimpArgs false

/-- Entries of two rows stay. -/
def SaS (w : World) (B off C o j : Nat) (x : It) (u : World) : Prop := Below w.heap.size w u ∧ u.cell? ⟨B, off + j * 3, none⟩ = some (.string x.1) ∧ u.cell? ⟨B, off + j * 3 + 1, none⟩ = some (.int .i64 x.2.1) ∧ u.cell? ⟨B, off + j * 3 + 2, none⟩ = some (.int .i64 x.2.2) ∧
  u.cell? ⟨C, o + j * 3, none⟩ = some (.string x.1) ∧ u.cell? ⟨C, o + j * 3 + 1, none⟩ = some (.int .i64 x.2.1) ∧ u.cell? ⟨C, o + j * 3 + 2, none⟩ = some (.int .i64 x.2.2)
set_option maxHeartbeats 4000000 in
theorem same_calls (a b : Option Addr) (n cap cap' : Nat) (L : List It) (w : World) (hn : L.length = n) (hA : Hid (RowAt encI 3 okI w a L)) (hB : Hid (RowAt encI 3 okI w b L)) (hby : n < 1000000000) :
    Calls Try.prog 21 #[.slice a n cap, .slice b n cap'] w fun e w' => e = .returned (.bool true) ∧ Below w.heap.size w w' := by
  have HN : Hid (L.length = n) := hn
  clear hn
  go_enter Try.func21, Try.ntmps21
  go_wp2_with fail
  go_loopw [5] (fun i wr => ∃ j : Nat, j ≤ n ∧ i = .int .i64 j ∧ Hid (Below w.heap.size w wr)) (fun i _ => n - (intOf i).toNat)
  case atStart => exact ⟨0, Nat.zero_le _, rfl, Below.refl _ _⟩
  case round =>
    obtain ⟨j, hjl, rfl, hbw⟩ := hrel
    by_cases hlt : j < n
    · obtain ⟨B, off, rfl, hB', c0, c1, c2, _⟩ := hA.out.three (i := j) (by rw [HN.out]; exact hlt)
      obtain ⟨C, o, rfl, hC', d0, d1, d2, _⟩ := hB.out.three (i := j) (by rw [HN.out]; exact hlt)
      generalize at_ L j = x at c0 c1 c2 d0 d1 d2
      have HS : Hid (∀ {u : World}, Below w.heap.size w u → SaS w B off C o j x u) := fun hb => ⟨hb, (hb.cell hB').trans c0, (hb.cell hB').trans c1, (hb.cell hB').trans c2, (hb.cell hC').trans d0, (hb.cell hC').trans d1, (hb.cell hC').trans d2⟩
      clear c0 c1 c2 d0 d1 d2
      have hji : (j : Int) < (n : Int) := by omega
      go_wp2_with fail
      refine wp_region_noPanic ?_
      refine wp_region_held_drew (S := SaS w B off C o j x) (by kernel_rfl) (HS.out hbw.out.drew) (fun hHeld => ?_)
      refine wpAnyH_take (i := 0) (v := ?v0) rfl (by kernel_rfl) (by kernel_rfl) (by kernel_rfl) (fun _ _ _ h => h) (Or.inl ⟨by rfl, ?hy0⟩) (by assumption) ?rest0
      case hy0 => (intro u hu; obtain ⟨_, _, _, _, _, _, _⟩ := hu; go_simp; try with_reducible rfl)
      try simp only [Act.put, List.setIfInBounds_toArray, List.set_cons_zero, List.set_cons_succ, List.getElem_toArray, List.getElem_cons_zero, List.getElem_cons_succ]
      refine wpAnyH_take (i := 1) (v := ?v1) rfl (by kernel_rfl) (by kernel_rfl) (by kernel_rfl) (fun _ _ _ h => h) (Or.inl ⟨by rfl, ?hy1⟩) (by assumption) ?rest1
      case hy1 => (intro u hu; obtain ⟨_, _, _, _, _, _, _⟩ := hu; go_simp; try with_reducible rfl)
      try simp only [Act.put, List.setIfInBounds_toArray, List.set_cons_zero, List.set_cons_succ, List.getElem_toArray, List.getElem_cons_zero, List.getElem_cons_succ]
      refine wpAnyH_take (i := 2) (v := ?v2) rfl (by kernel_rfl) (by kernel_rfl) (by kernel_rfl) (fun _ _ _ h => h) (Or.inl ⟨by rfl, ?hy2⟩) (by assumption) ?rest2
      case hy2 => (intro u hu; obtain ⟨_, _, _, _, _, _, _⟩ := hu; go_simp; try with_reducible rfl)
      try simp only [Act.put, List.setIfInBounds_toArray, List.set_cons_zero, List.set_cons_succ, List.getElem_toArray, List.getElem_cons_zero, List.getElem_cons_succ]
      refine wpAnyH_take (i := 3) (v := ?v3) rfl (by kernel_rfl) (by kernel_rfl) (by kernel_rfl) (fun _ _ _ h => h) (Or.inl ⟨by rfl, ?hy3⟩) (by assumption) ?rest3
      case hy3 => (intro u hu; obtain ⟨_, _, _, _, _, _, _⟩ := hu; go_simp; try with_reducible rfl)
      try simp only [Act.put, List.setIfInBounds_toArray, List.set_cons_zero, List.set_cons_succ, List.getElem_toArray, List.getElem_cons_zero, List.getElem_cons_succ]
      refine wpAnyH_take (i := 4) (v := ?v4) rfl (by kernel_rfl) (by kernel_rfl) (by kernel_rfl) (fun _ _ _ h => h) (Or.inl ⟨by rfl, ?hy4⟩) (by assumption) ?rest4
      case hy4 => (intro u hu; obtain ⟨_, _, _, _, _, _, _⟩ := hu; go_simp; try with_reducible rfl)
      try simp only [Act.put, List.setIfInBounds_toArray, List.set_cons_zero, List.set_cons_succ, List.getElem_toArray, List.getElem_cons_zero, List.getElem_cons_succ]
      refine wpAnyH_take (i := 5) (v := ?v5) rfl (by kernel_rfl) (by kernel_rfl) (by kernel_rfl) (fun _ _ _ h => h) (Or.inl ⟨by rfl, ?hy5⟩) (by assumption) ?rest5
      case hy5 => (intro u hu; obtain ⟨_, _, _, _, _, _, _⟩ := hu; go_simp; try with_reducible rfl)
      try simp only [Act.put, List.setIfInBounds_toArray, List.set_cons_zero, List.set_cons_succ, List.getElem_toArray, List.getElem_cons_zero, List.getElem_cons_succ]
      refine wpAnyH_take (i := 6) (v := ?v6) rfl (by kernel_rfl) (by kernel_rfl) (by kernel_rfl) (fun _ _ _ h => h) (Or.inl ⟨by rfl, ?hy6⟩) (by assumption) ?rest6
      case hy6 => (intro u hu; obtain ⟨_, _, _, _, _, _, _⟩ := hu; go_simp; try with_reducible rfl)
      try simp only [Act.put, List.setIfInBounds_toArray, List.set_cons_zero, List.set_cons_succ, List.getElem_toArray, List.getElem_cons_zero, List.getElem_cons_succ]
      refine wpAnyH_take (i := 7) (v := ?v7) rfl (by kernel_rfl) (by kernel_rfl) (by kernel_rfl) (fun _ _ _ h => h) (Or.inl ⟨by rfl, ?hy7⟩) (by assumption) ?rest7
      case hy7 => (intro u hu; obtain ⟨_, _, _, _, _, _, _⟩ := hu; go_simp; try with_reducible rfl)
      try simp only [Act.put, List.setIfInBounds_toArray, List.set_cons_zero, List.set_cons_succ, List.getElem_toArray, List.getElem_cons_zero, List.getElem_cons_succ]
      refine wpAnyH_take (i := 8) (v := ?v8) rfl (by kernel_rfl) (by kernel_rfl) (by kernel_rfl) (fun _ _ _ h => h) (Or.inl ⟨by rfl, ?hy8⟩) (by assumption) ?rest8
      case hy8 => (intro u hu; obtain ⟨_, _, _, _, _, _, _⟩ := hu; go_simp; try with_reducible rfl)
      try simp only [Act.put, List.setIfInBounds_toArray, List.set_cons_zero, List.set_cons_succ, List.getElem_toArray, List.getElem_cons_zero, List.getElem_cons_succ]
      refine wpAnyH_done (by kernel_rfl) ?_ _
      refine NoPanic.normal ?_
      have HB : Hid (Below w.heap.size w wr.drew) := hHeld.1
      clear hHeld
      go_wp2_with fail
      go_roundw
      case rel => exact ⟨j + 1, by omega, by go_num, HB⟩
      case measure => simp [intOf]; omega
    · have hji : ¬ (j : Int) < (n : Int) := by omega
      go_wp2_with fail
      go_ret
      exact ⟨rfl, hbw.out⟩
/-- An append of entries to one's own row, in the text's order. -/
theorem items_append {ops : Array Oper} {rest : List Oper} {o : Oper} {a : Act} {Q : Exit → Act → World → Prop} {w0 u : World} (hgd : Region.wanted o (yielded ops a.tmps) = true) (s x : Operand)
    (ho : o.op = .call { callee := .builtin .append, args := #[s, x], argTypes := #[25, 25] })
    (v : Value) (A : List It) (hs : a.eval s = v) (hown : Own w0 u 27 3 v A.length (flatE encI A))
    (c : Option Addr) (n capc : Nat) (N : List It) (hn : N.length = n) (hx : a.eval x = .slice c n capc) (hcap : c = none → capc = 0) (hN : RowAt encI 3 okI u c N) (hb : (A.length + N.length) * 32 ≤ 140737488355328)
    (h : ∀ v' u', Own w0 u' 27 3 v' (A ++ N).length (flatE encI (A ++ N)) → u.heap.size ≤ u'.heap.size → wpList Try.prog ops Q rest (a.put o.dst v') u') : wpList Try.prog ops Q (o :: rest) a u :=
  BigFrame.wpList_want hgd (fun _ hK => append_rowO encI_len encI_one s x 25 27 ho _ 32 infoI Try.underlying25 rfl (by decide) (by decide) v A hs hown c n capc N hn hx hcap hN hb (fun v' u' h2 h3 => hK _ _ (h v' u' h2 h3)))
section
variable {H : Type} {enc : TypeId × Value → H} {W : World} {base n : Nat} {sp : Nat → Bool} {held : Bool}
theorem trod_item {cs : List Value} {x : DataW H × List MemPlace} (h : DataW.trod enc Try.prog W base sp held n 27 cs = some x) (hl : Light x.1 27) : ∃ y : It, cs = encI y ∧ okI y := by
  obtain ⟨y0, y1, y2, m, rfl, hlen, h0, h1, h2⟩ := Go.Deep.trod_struct3 Try.underlying27 h
  have c3 : Try.prog.cellsOf 27 = 3 := by kernel_rfl
  have cs1 : Try.prog.cellsOf 9 = 1 := by kernel_rfl
  have ci1 : Try.prog.cellsOf 3 = 1 := by kernel_rfl
  rw [c3] at hlen
  match cs, hlen with
  | [v0, v1, v2], _ =>
    simp only [cs1, ci1, List.drop_zero, List.drop_succ_cons, List.take_succ_cons, List.take_zero] at h0 h1 h2
    obtain ⟨key, rfl, hk⟩ := open_str h0 (light_struct Try.underlying27 hl (j := 0) rfl rfl)
    obtain ⟨d, d1, _, _⟩ := DataW.trod_int Try.underlying3 h1
    obtain rfl : v1 = .int .i64 d := by simpa using d1
    obtain ⟨e, e1, _, _⟩ := DataW.trod_int Try.underlying3 h2
    obtain rfl : v2 = .int .i64 e := by simpa using e1
    exact ⟨(key, d, e), rfl, hk⟩
theorem open_items {v : Value} {x : DataW H × List MemPlace} (h : DataW.trod enc Try.prog W base sp held n 25 [v] = some x) (hl : Light x.1 25) :
    ∃ (a : Option Addr) (L : List It) (cap : Nat), v = .slice a L.length cap ∧ RowAt encI 3 okI W a L ∧ L.length * 32 ≤ 140737488351232 ∧ (a = none → cap = 0) ∧ L.length ≤ cap :=
  open_row Try.underlying25 (by kernel_rfl) (by kernel_rfl) encI_len (by omega) (by omega) (fun h1 h2 => trod_item h1 h2) h hl
end
end Go.Proofs.Ytgncpjplofacfaa
