/- Several rows of one's own side by side: an append to one leaves the others. Plain facts on worlds. No condition. -/
import Derived.Test.YtnlmipgmakmbiaaDBox
namespace Go.Proofs.Ytnlmipgmakmbiaa
open Go.RowKit
set_option linter.unusedSimpArgs false

section
variable {α : Type} [Inhabited α] {R : Rep α} {k : Nat}
theorem Row.lt {A : Where} {w0 u : World} {e : TypeId} {v : Value} {L : List α} (h : Row R k A w0 u e v L) {b : Nat} (hb : v.ownBlock = some b) : w0.heap.size ≤ b ∧ b < u.heap.size := by
  obtain ⟨xs, h1, _⟩ := h
  exact h1.2.lt b hb
theorem Row.grown (hR : Firm R k) {A : Where} {w0 u u' : World} {row : Option Nat} {e : TypeId} {v : Value} {L : List α} (h : Row R k A w0 u e v L) (hg : u.grownBy u' row) (hn : ∀ b, row = some b → w0.heap.size ≤ b ∧ v.ownBlock ≠ some b ∧ ¬ A b) : Row R k A w0 u' e v L := by
  obtain ⟨xs, ⟨h1, h0, h2⟩, h3⟩ := h
  refine ⟨xs, ⟨?_, h0, ?_⟩, h3.kept hR (Kept.grown hg (fun b hb h => (hn b hb).2.2 h.1))⟩
  · exact Below.grown h1 hg h1.size (fun b hb => (hn b hb).1)
  · rcases h2 with h2 | ⟨g, cap, cur, hv, hg0, hh, r⟩
    · exact .inl h2
    · refine .inr ⟨g, cap, cur, hv, hg0, ?_, r⟩
      rw [hg.block g ?_ ?_]
      · exact hh
      · rcases Nat.lt_or_ge g u.heap.size with h | h
        · exact h
        · rw [Array.getElem?_eq_none h] at hh; cases hh
      · intro e1
        have := (hn g e1.symm).2.1
        rw [hv] at this
        exact this rfl
/-- An append of what lies in a slice, or in none, with the place of the new row. -/
theorem row_appendP_wp (hR : Firm R k) {o : Oper} {a : Act} {K : Act → World → Prop} {Q : Exit → Act → World → Prop} {A : Where} {w0 u : World} (s x : Operand) (t e : TypeId)
    (ho : o.op = .call { callee := .builtin .append, args := #[s, x], argTypes := #[t, t] }) (z : Value) (bytes : Nat) (hinfo : (Try.prog.info? e).map (fun i => (i.zero, i.size, i.bytes)) = some (some z, k, bytes)) (ht : Try.prog.underlying t = some (.slice e)) (hzs : z.cells.size = k) (hk0 : 0 < k) (hby : 1 ≤ bytes)
    (v : Value) (L : List α) (hs : a.eval s = v) (hrow : Row R k A w0 u e v L)
    (ad : Option Addr) (m c : Nat) (N : List α) (hx : a.eval x = .slice ad m c) (hN : Src R k (fun b => A b ∧ v.ownBlock ≠ some b) u ad m N) (hb : (L.length + N.length) * bytes ≤ 140737488355328)
    (h : ∀ v' u', Row R k A w0 u' e v' (L ++ N) → u.grownBy u' v.ownBlock → (v'.ownBlock = v.ownBlock ∨ v'.ownBlock = some u.heap.size) → K (a.put o.dst v') u') : o.wp Try.prog a u K Q := by
  obtain ⟨hm, hN⟩ := hN
  rcases hN with ⟨rfl, rfl⟩ | ⟨ad, news, rfl, hN, hcells, h1⟩
  · obtain rfl : m = 0 := by simpa using hm.symm
    obtain ⟨i0, hi, hz0, hz1, hz2⟩ := info_parts hinfo
    have hr : ∀ ty, (Builtin.append_ #[t, t] ty #[v, .slice none 0 c]).run Try.prog u = .ok v u := by
      intro ty
      obtain ⟨xs, hown, _⟩ := hrow
      rcases hown.2.2 with ⟨rfl, _⟩ | ⟨g, cap, cur, rfl, _, hg, hnc, _⟩
      · simp [Builtin.append_, run_underlying ht, sizeOf, typeInfo, hi, Builtin.lenOf, Builtin.firstCells, loadCells, loadCellsFrom]
      · simp [Builtin.append_, run_underlying ht, sizeOf, typeInfo, hi, Builtin.lenOf, Builtin.firstCells, loadCells, loadCellsFrom, hnc, storeCells]
    unfold Oper.wp execOp
    simp only [ho, resolve, invoke, builtin, Sem.run_bind, Sem.run_pure, Result.andThen_ok, List.map_toArray, List.map_cons, List.map_nil, hs, hx, hr]
    exact h v u (by simpa using hrow) ⟨rfl, rfl, rfl, Nat.le_refl _, fun _ _ _ => rfl⟩ (.inl rfl)
  · subst hm
    obtain ⟨i0, hi, hz0, hz1, hz2⟩ := info_parts hinfo
    obtain ⟨xs, hown, hch⟩ := hrow
    have hmul : (L.length + N.length) * 1 ≤ (L.length + N.length) * bytes := Nat.mul_le_mul_left _ hby
    obtain ⟨v', u', hr, h2, h3, h4, h5⟩ := run_append_own_at (P := Try.prog) u w0.heap.size t o.type e i0 z k bytes ht hi hz0 hz1 hz2 hzs hk0 v L.length xs hown.2 ad N.length c news hN.1 hcells h1 (by unfold maxLen; omega) hb hown.1.size
    unfold Oper.wp execOp
    simp only [ho, resolve, invoke, builtin, Sem.run_bind, Sem.run_pure, Result.andThen_ok, List.map_toArray, List.map_cons, List.map_nil, hs, hx, hr]
    refine (h v' u' ⟨xs ++ news, ⟨hown.row h3, by rw [List.length_append]; exact h2⟩, ?_⟩ h3 h5)
    have put : ∀ {ys : List Value} {M : List α}, Chunks R k (fun b => A b ∧ v.ownBlock ≠ some b) u ys M → Chunks R k (fun b => A b ∧ v'.ownBlock ≠ some b) u' ys M := fun {ys M} hc => by
      have c1 := hc.weak hR (A' := fun b => (A b ∧ v.ownBlock ≠ some b) ∧ b < u.heap.size) (fun b hb h => ⟨h, hb⟩)
      have c2 := c1.kept hR (Kept.grown h3 (fun b e => fun h => h.1.2 e))
      refine c2.weak hR (fun b _ h => ⟨h.1.1, fun e => ?_⟩)
      rcases h5 with h5 | h5
      · rw [h5] at e; exact h.1.2 e
      · rw [h5] at e
        have : u.heap.size = b := by simpa using e
        exact absurd h.2 (by omega)
    obtain ⟨l1, c1⟩ := put hch
    obtain ⟨l2, c2⟩ := put hN
    refine ⟨by rw [List.length_append, List.length_append, l1, l2, Nat.add_mul], fun i hi => ?_⟩
    rcases Nat.lt_or_ge i L.length with h' | h'
    · obtain ⟨cs, q1, q2⟩ := c1 i h'
      have e : (L ++ N).getD i default = L.getD i default := by rw [getE _ _ hi, getE _ _ h', List.getElem_append_left h']
      refine ⟨cs, by rw [e]; exact q1, fun j hj => ?_⟩
      rw [List.getElem?_append_left (by have : (i + 1) * k ≤ L.length * k := Nat.mul_le_mul_right k h'; rw [Nat.add_mul] at this; omega)]
      exact q2 j hj
    · have h'' : i - L.length < N.length := by simp at hi; omega
      obtain ⟨cs, q1, q2⟩ := c2 (i - L.length) h''
      have e : (L ++ N).getD i default = N.getD (i - L.length) default := by rw [getE _ _ hi, getE _ _ h'', List.getElem_append_right h']
      refine ⟨cs, by rw [e]; exact q1, fun j hj => ?_⟩
      have hle : L.length * k ≤ i * k := Nat.mul_le_mul_right k h'
      rw [List.getElem?_append_right (by omega), l1, idx_part i L.length k j h', ← q2 j hj]
/-- At a plain region's list of operations. -/
theorem row_appendP (hR : Firm R k) {ops : Array Oper} {rest : List Oper} {o : Oper} {a : Act} {Q : Exit → Act → World → Prop} {A : Where} {w0 u : World} (hgd : Region.wanted o (yielded ops a.tmps) = true) (s x : Operand) (t e : TypeId)
    (ho : o.op = .call { callee := .builtin .append, args := #[s, x], argTypes := #[t, t] }) (z : Value) (bytes : Nat) (hinfo : (Try.prog.info? e).map (fun i => (i.zero, i.size, i.bytes)) = some (some z, k, bytes)) (ht : Try.prog.underlying t = some (.slice e)) (hzs : z.cells.size = k) (hk0 : 0 < k) (hby : 1 ≤ bytes)
    (v : Value) (L : List α) (hs : a.eval s = v) (hrow : Row R k A w0 u e v L)
    (ad : Option Addr) (m c : Nat) (N : List α) (hx : a.eval x = .slice ad m c) (hN : Src R k (fun b => A b ∧ v.ownBlock ≠ some b) u ad m N) (hb : (L.length + N.length) * bytes ≤ 140737488355328)
    (h : ∀ v' u', Row R k A w0 u' e v' (L ++ N) → u.grownBy u' v.ownBlock → (v'.ownBlock = v.ownBlock ∨ v'.ownBlock = some u.heap.size) → wpList Try.prog ops Q rest (a.put o.dst v') u') : wpList Try.prog ops Q (o :: rest) a u :=
  BigFrame.wpList_want hgd (fun _ hK => row_appendP_wp hR s x t e ho z bytes hinfo ht hzs hk0 hby v L hs hrow ad m c N hx hN hb (fun v' u' h2 h3 h4 => hK _ _ (h v' u' h2 h3 h4)))
end
end Go.Proofs.Ytnlmipgmakmbiaa
