/- A row of one's own, and the blocks of struct variables beside it; an append of a whole slice, empty or not; facts that stay while a variable's block is written. Plain facts on worlds. No condition. Several rows of one's own side by side: an append to one leaves the others. Plain facts on worlds. No condition. Rows and slices of one's own: members read and written, kept over other calls. Plain facts on worlds. No condition. Numbers made normal, by the document. Condition: the list lies as is said of it. base.SameReqs, sameTerms tell whether two slices hold the same; they change nothing but the count of draws. Condition: the slices hold what is said of them. base.SameVolume, SameBudget tell whether two structs hold the same, and change nothing that was there. Condition: the arguments lie as is said of them. base.SameNode tells whether two nodes hold the same, and changes nothing that was there. Condition: the arguments lie as is said of them. Steps of a region that draws its order, in short. Plain facts on the model's walks. No condition. base.SamePod says yes of two pods that hold the same, and changes nothing that was there. Condition: the arguments lie as is said of them. How an info lies: its node in one place, its lists in another; base.SameInfo says yes of two that hold the same. Condition: the arguments lie as is said of them. Nothing of its own: what quant's texts stand on. quant's arithmetic over numbers: Clamp, Add, Sub of the program return what plain integers say, and change nothing; so do the document's own. No condition. quant's split and join of an amount of several things, and the two methods over members: what they return, and that they change nothing that was there. No condition. The document's own Plus, Minus and Fits of amounts of several things: what they return, and that they change nothing that was there. No condition. The document's Free and Clash. Condition: the arguments lie as is said of them. -/
import Derived.Test.YteihniiacfghoabQ03
import Derived.Deep.MidRow
import Derived.Test.YteihniiacfghoabQ04
import Derived.Test.YteihniiacfghoabQ01
import Derived.Maps.RangeWalk
import Derived.Lib.ItoaNum
import Derived.WalkLawsBesides
import Derived.Deep.QuietTactic
import Derived.BigQuiet
import Derived.BigRegion
import Derived.Deep.RegionHeld3
import Derived.Deep.DeepCutAuto
import Derived.Outline
import Derived.Handy
namespace Go.Proofs.Yteihniiacfghoab
open Go.RowKit
set_option linter.unusedSimpArgs false

/-- The same store in both worlds, below. -/
theorem below_both {w u : World} (h : Below w.heap.size w u) {p : Addr} (hp : p.block < w.heap.size) (x : Value) : Below (w.setCell p x).heap.size (w.setCell p x) (u.setCell p x) := by
  refine ⟨h.os, h.tape, h.output, by simpa using h.size, fun k hk => ?_⟩
  have hk' : k < w.heap.size := by simpa using hk
  by_cases e : k = p.block
  · subst e
    have := h.block p.block hp
    simp only [World.setCell, Array.getElem?_modify, if_true]
    rw [this]
  · rw [Below.heap_setCell _ _ _ _ e, Below.heap_setCell _ _ _ _ e]
    exact h.block k hk'
section
variable {α : Type} [Inhabited α] {R : Rep α} {k : Nat}
theorem Row.both (hR : Firm R k) {A : Where} {w u : World} {e : TypeId} {v : Value} {L : List α} (h : Row R k A w u e v L) {p : Addr} (hp : p.block < w.heap.size) (hA : ¬ A p.block) (x : Value) : Row R k A (w.setCell p x) (u.setCell p x) e v L := by
  obtain ⟨xs, h1, h2⟩ := h
  refine ⟨xs, ⟨below_both h1.1 hp x, ?_⟩, h2.kept hR (Kept.set (fun h => hA h.1) _)⟩
  have := ownsRow_setCell_below h1.2 hp x
  simpa using this
theorem Fresh.setCell (w : World) (p : Addr) (x : Value) : Fresh (w.setCell p x) = Fresh w := by funext b; simp [Fresh]
theorem Row.bothF (hR : Firm R k) {w u : World} {e : TypeId} {v : Value} {L : List α} (h : Row R k (Fresh w) w u e v L) {p : Addr} (hp : p.block < w.heap.size) (x : Value) : Row R k (Fresh (w.setCell p x)) (w.setCell p x) (u.setCell p x) e v L := by
  rw [Fresh.setCell]; exact h.both hR hp (Fresh.not hp) x
/-- What lies in a slice, or in none, ready to be appended. -/
def Src (R : Rep α) (k : Nat) (A : Where) (u : World) (a : Option Addr) (m : Nat) (N : List α) : Prop :=
  N.length = m ∧ ((a = none ∧ N = []) ∨ ∃ ad xs, a = some ad ∧ Chunks R k A u xs N ∧ (∀ j y, xs[j]? = some y → u.cell? (ad.add j) = some y) ∧ ∀ y ∈ xs, y.oneCell' = true)
theorem SlAt.src (hR : Firm R k) {bytes : Nat} {A : Where} {u : World} {a : Option Addr} {m c : Nat} {N : List α} (h : SlAt R k bytes A u a m c N) : Src R k A u a m N := by
  cases a with
  | none => obtain ⟨_, _, h3⟩ := sl_none h; exact ⟨h.1, .inl ⟨rfl, h3⟩⟩
  | some ad => obtain ⟨xs, h1, h2, h3⟩ := h.chunks hR; exact ⟨h.1, .inr ⟨ad, xs, rfl, h1, h2, h3⟩⟩
theorem Src.flat (hF : Flat R) {A A' : Where} {u : World} {a : Option Addr} {m : Nat} {N : List α} (h : Src R k A u a m N) : Src R k A' u a m N := by
  obtain ⟨h1, h2⟩ := h
  refine ⟨h1, ?_⟩
  rcases h2 with h2 | ⟨ad, xs, e, h3, h4, h5⟩
  · exact .inl h2
  · exact .inr ⟨ad, xs, e, h3.flat hF, h4, h5⟩
theorem Src.weak (hR : Firm R k) {A A' : Where} {u : World} {a : Option Addr} {m : Nat} {N : List α} (h : Src R k A u a m N) (hA : ∀ b, b < u.heap.size → A b → A' b) : Src R k A' u a m N := by
  obtain ⟨h1, h2⟩ := h
  refine ⟨h1, ?_⟩
  rcases h2 with h2 | ⟨ad, xs, e, h3, h4, h5⟩
  · exact .inl h2
  · exact .inr ⟨ad, xs, e, h3.weak hR hA, h4, h5⟩
/-- An append of what lies in a slice, or in none, to one's own row, whatever the region. -/
theorem row_appendS_wp (hR : Firm R k) {o : Oper} {a : Act} {K : Act → World → Prop} {Q : Exit → Act → World → Prop} {A : Where} {w0 u : World} (s x : Operand) (t e : TypeId)
    (ho : o.op = .call { callee := .builtin .append, args := #[s, x], argTypes := #[t, t] }) (z : Value) (bytes : Nat) (hinfo : (Try.prog.info? e).map (fun i => (i.zero, i.size, i.bytes)) = some (some z, k, bytes)) (ht : Try.prog.underlying t = some (.slice e)) (hzs : z.cells.size = k) (hk0 : 0 < k) (hby : 1 ≤ bytes)
    (v : Value) (L : List α) (hs : a.eval s = v) (hrow : Row R k A w0 u e v L)
    (ad : Option Addr) (m c : Nat) (N : List α) (hx : a.eval x = .slice ad m c) (hN : Src R k (fun b => A b ∧ v.ownBlock ≠ some b) u ad m N) (hb : (L.length + N.length) * bytes ≤ 140737488355328)
    (h : ∀ v' u', Row R k A w0 u' e v' (L ++ N) → u.grownBy u' v.ownBlock → K (a.put o.dst v') u') : o.wp Try.prog a u K Q := by
  obtain ⟨hm, hN⟩ := hN
  rcases hN with ⟨rfl, rfl⟩ | ⟨ad, xs, rfl, h1, h2, h3⟩
  · obtain rfl : m = 0 := by simpa using hm.symm
    obtain ⟨i0, hi, hz0, hz1, hz2⟩ := info_parts hinfo
    have hr : ∀ ty, (Builtin.append_ #[t, t] ty #[v, .slice none 0 c]).run Try.prog u = .ok v u := by
      intro ty
      obtain ⟨xs, hown, _⟩ := hrow
      rcases hown.2.2 with ⟨rfl, _⟩ | ⟨g, cap, cur, rfl, _, hg, hnc, _⟩
      · simp [Builtin.append_, run_underlying ht, sizeOf, typeInfo, hi, Builtin.lenOf, Builtin.firstCells, loadCells, loadCellsFrom]
      · simp [Builtin.append_, run_underlying ht, sizeOf, typeInfo, hi, Builtin.lenOf, Builtin.firstCells, loadCells, loadCellsFrom, hnc, storeCells]
    unfold Oper.wp execOp
    simp only [ho, resolve, invoke, builtin, Sem.run_bind, Sem.run_pure, Result.andThen_ok, List.map_toArray, List.map_cons, List.map_nil, hs, hx, hr]
    exact h v u (by simpa using hrow) ⟨rfl, rfl, rfl, Nat.le_refl _, fun _ _ _ => rfl⟩
  · exact row_append_wp hR s x t e ho z bytes hinfo ht hzs hk0 hby v L hs hrow ad m c xs N hm hx h1 h2 h3 hb h
theorem row_appendS (hR : Firm R k) {ops : Array Oper} {rest : List Oper} {o : Oper} {a : Act} {Q : Exit → Act → World → Prop} {A : Where} {w0 u : World} (hgd : Region.wanted o (yielded ops a.tmps) = true) (s x : Operand) (t e : TypeId)
    (ho : o.op = .call { callee := .builtin .append, args := #[s, x], argTypes := #[t, t] }) (z : Value) (bytes : Nat) (hinfo : (Try.prog.info? e).map (fun i => (i.zero, i.size, i.bytes)) = some (some z, k, bytes)) (ht : Try.prog.underlying t = some (.slice e)) (hzs : z.cells.size = k) (hk0 : 0 < k) (hby : 1 ≤ bytes)
    (v : Value) (L : List α) (hs : a.eval s = v) (hrow : Row R k A w0 u e v L)
    (ad : Option Addr) (m c : Nat) (N : List α) (hx : a.eval x = .slice ad m c) (hN : Src R k (fun b => A b ∧ v.ownBlock ≠ some b) u ad m N) (hb : (L.length + N.length) * bytes ≤ 140737488355328)
    (h : ∀ v' u', Row R k A w0 u' e v' (L ++ N) → u.grownBy u' v.ownBlock → wpList Try.prog ops Q rest (a.put o.dst v') u') : wpList Try.prog ops Q (o :: rest) a u :=
  BigFrame.wpList_want hgd (fun _ hK => row_appendS_wp hR s x t e ho z bytes hinfo ht hzs hk0 hby v L hs hrow ad m c N hx hN hb (fun v' u' h2 h3 => hK _ _ (h v' u' h2 h3)))
end
theorem BoxL.range {u : World} {D : Nat} {cs : List Value} (h : BoxL u D cs) : u.rangeAt D 0 cs := fun j v hj => by rw [Nat.zero_add]; exact (h.2 j v hj).1
theorem BoxL.there {u : World} {D : Nat} {cs : List Value} (h : BoxL u D cs) : u.there D 0 cs.length := fun j hj => by
  have := h.2 j cs[j] (List.getElem?_eq_getElem hj)
  rw [Nat.zero_add, this.1, this.2]
  exact ⟨rfl, rfl⟩
/-- What stays true while nothing that has come since W is turned. -/
def Stays (W : World) (G : World → Prop) : Prop := ∀ u u', G u → Kept (Fresh W) u u' → G u'
theorem Stays.none (W : World) : Stays W (fun _ => True) := fun _ _ _ _ => trivial
theorem Stays.add {α : Type} [Inhabited α] {R : Rep α} {k bytes : Nat} {W u : World} {G : World → Prop} (hG : Stays W G) (hg : G u) (hR : Firm R k) {a : Option Addr} {n c : Nat} {L : List α} (hs : SlAt R k bytes (Fresh W) u a n c L) :
    ∃ G', Stays W G' ∧ G' u ∧ (∀ v, G' v → G v) ∧ ∀ v, G' v → SlAt R k bytes (Fresh W) v a n c L :=
  ⟨fun v => G v ∧ SlAt R k bytes (Fresh W) v a n c L, fun _ _ h k => ⟨hG _ _ h.1 k, h.2.kept hR k⟩, ⟨hg, hs⟩, fun _ h => h.1, fun _ h => h.2⟩
end Go.Proofs.Yteihniiacfghoab
namespace Go.Proofs.Yteihniiacfghoab
open Go.RowKit
set_option linter.unusedSimpArgs false

section
variable {α : Type} [Inhabited α] {R : Rep α} {k : Nat}
theorem Row.lt {A : Where} {w0 u : World} {e : TypeId} {v : Value} {L : List α} (h : Row R k A w0 u e v L) {b : Nat} (hb : v.ownBlock = some b) : w0.heap.size ≤ b ∧ b < u.heap.size := by
  obtain ⟨xs, h1, _⟩ := h
  exact h1.2.lt b hb
theorem Row.grown (hR : Firm R k) {A : Where} {w0 u u' : World} {row : Option Nat} {e : TypeId} {v : Value} {L : List α} (h : Row R k A w0 u e v L) (hg : u.grownBy u' row) (hn : ∀ b, row = some b → w0.heap.size ≤ b ∧ v.ownBlock ≠ some b ∧ ¬ A b) : Row R k A w0 u' e v L := by
  obtain ⟨xs, ⟨h1, h0, h2⟩, h3⟩ := h
  refine ⟨xs, ⟨?_, h0, ?_⟩, h3.kept hR (Kept.grown hg (fun b hb h => (hn b hb).2.2 h.1))⟩
  · exact Below.grown h1 hg h1.size (fun b hb => (hn b hb).1)
  · rcases h2 with h2 | ⟨g, cap, cur, hv, hg0, hh, r⟩
    · exact .inl h2
    · refine .inr ⟨g, cap, cur, hv, hg0, ?_, r⟩
      rw [hg.block g ?_ ?_]
      · exact hh
      · rcases Nat.lt_or_ge g u.heap.size with h | h
        · exact h
        · rw [Array.getElem?_eq_none h] at hh; cases hh
      · intro e1
        have := (hn g e1.symm).2.1
        rw [hv] at this
        exact this rfl
/-- An append of what lies in a slice, or in none, with the place of the new row. -/
theorem row_appendP_wp (hR : Firm R k) {o : Oper} {a : Act} {K : Act → World → Prop} {Q : Exit → Act → World → Prop} {A : Where} {w0 u : World} (s x : Operand) (t e : TypeId)
    (ho : o.op = .call { callee := .builtin .append, args := #[s, x], argTypes := #[t, t] }) (z : Value) (bytes : Nat) (hinfo : (Try.prog.info? e).map (fun i => (i.zero, i.size, i.bytes)) = some (some z, k, bytes)) (ht : Try.prog.underlying t = some (.slice e)) (hzs : z.cells.size = k) (hk0 : 0 < k) (hby : 1 ≤ bytes)
    (v : Value) (L : List α) (hs : a.eval s = v) (hrow : Row R k A w0 u e v L)
    (ad : Option Addr) (m c : Nat) (N : List α) (hx : a.eval x = .slice ad m c) (hN : Src R k (fun b => A b ∧ v.ownBlock ≠ some b) u ad m N) (hb : (L.length + N.length) * bytes ≤ 140737488355328)
    (h : ∀ v' u', Row R k A w0 u' e v' (L ++ N) → u.grownBy u' v.ownBlock → (v'.ownBlock = v.ownBlock ∨ v'.ownBlock = some u.heap.size) → K (a.put o.dst v') u') : o.wp Try.prog a u K Q := by
  obtain ⟨hm, hN⟩ := hN
  rcases hN with ⟨rfl, rfl⟩ | ⟨ad, news, rfl, hN, hcells, h1⟩
  · obtain rfl : m = 0 := by simpa using hm.symm
    obtain ⟨i0, hi, hz0, hz1, hz2⟩ := info_parts hinfo
    have hr : ∀ ty, (Builtin.append_ #[t, t] ty #[v, .slice none 0 c]).run Try.prog u = .ok v u := by
      intro ty
      obtain ⟨xs, hown, _⟩ := hrow
      rcases hown.2.2 with ⟨rfl, _⟩ | ⟨g, cap, cur, rfl, _, hg, hnc, _⟩
      · simp [Builtin.append_, run_underlying ht, sizeOf, typeInfo, hi, Builtin.lenOf, Builtin.firstCells, loadCells, loadCellsFrom]
      · simp [Builtin.append_, run_underlying ht, sizeOf, typeInfo, hi, Builtin.lenOf, Builtin.firstCells, loadCells, loadCellsFrom, hnc, storeCells]
    unfold Oper.wp execOp
    simp only [ho, resolve, invoke, builtin, Sem.run_bind, Sem.run_pure, Result.andThen_ok, List.map_toArray, List.map_cons, List.map_nil, hs, hx, hr]
    exact h v u (by simpa using hrow) ⟨rfl, rfl, rfl, Nat.le_refl _, fun _ _ _ => rfl⟩ (.inl rfl)
  · subst hm
    obtain ⟨i0, hi, hz0, hz1, hz2⟩ := info_parts hinfo
    obtain ⟨xs, hown, hch⟩ := hrow
    have hmul : (L.length + N.length) * 1 ≤ (L.length + N.length) * bytes := Nat.mul_le_mul_left _ hby
    obtain ⟨v', u', hr, h2, h3, h4, h5⟩ := run_append_own_at (P := Try.prog) u w0.heap.size t o.type e i0 z k bytes ht hi hz0 hz1 hz2 hzs hk0 v L.length xs hown.2 ad N.length c news hN.1 hcells h1 (by unfold maxLen; omega) hb hown.1.size
    unfold Oper.wp execOp
    simp only [ho, resolve, invoke, builtin, Sem.run_bind, Sem.run_pure, Result.andThen_ok, List.map_toArray, List.map_cons, List.map_nil, hs, hx, hr]
    refine (h v' u' ⟨xs ++ news, ⟨hown.row h3, by rw [List.length_append]; exact h2⟩, ?_⟩ h3 h5)
    have put : ∀ {ys : List Value} {M : List α}, Chunks R k (fun b => A b ∧ v.ownBlock ≠ some b) u ys M → Chunks R k (fun b => A b ∧ v'.ownBlock ≠ some b) u' ys M := fun {ys M} hc => by
      have c1 := hc.weak hR (A' := fun b => (A b ∧ v.ownBlock ≠ some b) ∧ b < u.heap.size) (fun b hb h => ⟨h, hb⟩)
      have c2 := c1.kept hR (Kept.grown h3 (fun b e => fun h => h.1.2 e))
      refine c2.weak hR (fun b _ h => ⟨h.1.1, fun e => ?_⟩)
      rcases h5 with h5 | h5
      · rw [h5] at e; exact h.1.2 e
      · rw [h5] at e
        have : u.heap.size = b := by simpa using e
        exact absurd h.2 (by omega)
    obtain ⟨l1, c1⟩ := put hch
    obtain ⟨l2, c2⟩ := put hN
    refine ⟨by rw [List.length_append, List.length_append, l1, l2, Nat.add_mul], fun i hi => ?_⟩
    rcases Nat.lt_or_ge i L.length with h' | h'
    · obtain ⟨cs, q1, q2⟩ := c1 i h'
      have e : (L ++ N).getD i default = L.getD i default := by rw [getE _ _ hi, getE _ _ h', List.getElem_append_left h']
      refine ⟨cs, by rw [e]; exact q1, fun j hj => ?_⟩
      rw [List.getElem?_append_left (by have : (i + 1) * k ≤ L.length * k := Nat.mul_le_mul_right k h'; rw [Nat.add_mul] at this; omega)]
      exact q2 j hj
    · have h'' : i - L.length < N.length := by simp at hi; omega
      obtain ⟨cs, q1, q2⟩ := c2 (i - L.length) h''
      have e : (L ++ N).getD i default = N.getD (i - L.length) default := by rw [getE _ _ hi, getE _ _ h'', List.getElem_append_right h']
      refine ⟨cs, by rw [e]; exact q1, fun j hj => ?_⟩
      have hle : L.length * k ≤ i * k := Nat.mul_le_mul_right k h'
      rw [List.getElem?_append_right (by omega), l1, idx_part i L.length k j h', ← q2 j hj]
/-- At a plain region's list of operations. -/
theorem row_appendP (hR : Firm R k) {ops : Array Oper} {rest : List Oper} {o : Oper} {a : Act} {Q : Exit → Act → World → Prop} {A : Where} {w0 u : World} (hgd : Region.wanted o (yielded ops a.tmps) = true) (s x : Operand) (t e : TypeId)
    (ho : o.op = .call { callee := .builtin .append, args := #[s, x], argTypes := #[t, t] }) (z : Value) (bytes : Nat) (hinfo : (Try.prog.info? e).map (fun i => (i.zero, i.size, i.bytes)) = some (some z, k, bytes)) (ht : Try.prog.underlying t = some (.slice e)) (hzs : z.cells.size = k) (hk0 : 0 < k) (hby : 1 ≤ bytes)
    (v : Value) (L : List α) (hs : a.eval s = v) (hrow : Row R k A w0 u e v L)
    (ad : Option Addr) (m c : Nat) (N : List α) (hx : a.eval x = .slice ad m c) (hN : Src R k (fun b => A b ∧ v.ownBlock ≠ some b) u ad m N) (hb : (L.length + N.length) * bytes ≤ 140737488355328)
    (h : ∀ v' u', Row R k A w0 u' e v' (L ++ N) → u.grownBy u' v.ownBlock → (v'.ownBlock = v.ownBlock ∨ v'.ownBlock = some u.heap.size) → wpList Try.prog ops Q rest (a.put o.dst v') u') : wpList Try.prog ops Q (o :: rest) a u :=
  BigFrame.wpList_want hgd (fun _ hK => row_appendP_wp hR s x t e ho z bytes hinfo ht hzs hk0 hby v L hs hrow ad m c N hx hN hb (fun v' u' h2 h3 h4 => hK _ _ (h v' u' h2 h3 h4)))
end
end Go.Proofs.Yteihniiacfghoab
namespace Go.Proofs.Yteihniiacfghoab
open Go.RowKit
set_option linter.unusedSimpArgs false
set_option maxRecDepth 100000

section
variable {α : Type} [Inhabited α] {R : Rep α} {k : Nat}
theorem heap_setCellG {u : World} {g o : Nat} {cur : Array Value} {T : TypeId} {val : Value} (hg : u.heap[g]? = some (.cells cur T (0, 0))) : (u.setCell ⟨g, o, none⟩ val).heap[g]? = some (.cells (cur.setIfInBounds o val) T (0, 0)) := by
  have hlt : g < u.heap.size := (Array.getElem?_eq_some_iff.1 hg).1
  have hge : u.heap[g] = .cells cur T (0, 0) := (Array.getElem?_eq_some_iff.1 hg).2
  simp [World.setCell, hg, hlt, Array.getElem_modify, hge]
theorem Row.setG (hR : Firm R k) {A : Where} {w0 u : World} {e : TypeId} {g cap i j : Nat} {L : List α} {val : Value} {x : α} (h : Row R k A w0 u e (.slice (some ⟨g, 0, none⟩) L.length cap) L) (hi : i < L.length) (hj : j < k)
    (hx : ∀ B cs, R B u cs (L.getD i default) → R B u (cs.set j val) x) : Row R k A w0 (u.setCell ⟨g, i * k + j, none⟩ val) e (.slice (some ⟨g, 0, none⟩) L.length cap) (L.set i x) := by
  obtain ⟨xs, ⟨hb, hl, ⟨e1, _⟩ | ⟨g', cap', cur, e1, hBg, hg, hcp, hcm, hsz, htk⟩⟩, hch⟩ := h
  · cases e1
  simp only [Value.slice.injEq, Option.some.injEq, Addr.mk.injEq, and_true, true_and] at e1
  obtain ⟨rfl, rfl⟩ := e1
  have hkn : (i + 1) * k ≤ L.length * k := Nat.mul_le_mul_right k hi
  have hkc : L.length * k ≤ cap * k := Nat.mul_le_mul_right k hcp
  rw [Nat.add_mul, Nat.one_mul] at hkn
  have hxl : xs.length = L.length * k := hl
  refine ⟨xs.set (i * k + j) val, ⟨hb.setCell (p := ⟨g, i * k + j, none⟩) hBg val, ?_⟩, ?_⟩
  · rw [List.length_set]
    refine ⟨by rw [List.length_set]; exact hl, .inr ⟨g, cap, cur.setIfInBounds (i * k + j) val, rfl, hBg, heap_setCellG hg, hcp, hcm, by simpa using hsz, ?_⟩⟩
    rw [Array.toList_setIfInBounds, List.take_set, htk]
  · have k1 : Kept (fun b => A b ∧ Value.ownBlock (.slice (some ⟨g, 0, none⟩) L.length cap) ≠ some b) u (u.setCell ⟨g, i * k + j, none⟩ val) := Kept.set (p := ⟨g, i * k + j, none⟩) (fun h => h.2 rfl) val
    refine ⟨by simp only [List.length_set]; exact hxl, fun m hm => ?_⟩
    rw [List.length_set] at hm
    obtain ⟨cs, h1, h2⟩ := hch.2 m hm
    by_cases hmi : m = i
    · subst hmi
      refine ⟨cs.set j val, ?_, fun q hq => ?_⟩
      · have e3 : (L.set m x).getD m default = x := by simp [List.getD_eq_getElem?_getD, hm]
        rw [e3]
        exact hR.kept (hx _ cs h1) k1
      · have hcl := hR.len h1
        rw [List.getElem?_set, List.getElem?_set]
        by_cases hqj : j = q
        · subst hqj
          rw [if_pos rfl, if_pos rfl, if_pos (by omega), if_pos (by omega)]
        · rw [if_neg (by omega), if_neg hqj]; exact h2 q hq
    · refine ⟨cs, ?_, fun q hq => ?_⟩
      · have e3 : (L.set i x).getD m default = L.getD m default := by simp [List.getD_eq_getElem?_getD, List.getElem?_set, Ne.symm hmi]
        rw [e3]
        exact hR.kept h1 k1
      · rw [List.getElem?_set, if_neg]
        · exact h2 q hq
        · intro e
          rcases Nat.lt_or_gt_of_ne hmi with hl | hl
          · have := Nat.mul_le_mul_right k (show m + 1 ≤ i from hl); rw [Nat.add_mul, Nat.one_mul] at this; omega
          · have := Nat.mul_le_mul_right k (show i + 1 ≤ m from hl); rw [Nat.add_mul, Nat.one_mul] at this; omega
theorem Row.keptXG (hR : Firm R k) {A : Where} {w0 u u' : World} {e : TypeId} {v : Value} {L : List α} (h : Row R k A w0 u e v L) (hb : Below w0.heap.size w0 u') (hk : Kept (fun b => A b ∨ v.ownBlock = some b) u u') : Row R k A w0 u' e v L := by
  obtain ⟨xs, h1, h2⟩ := h
  refine ⟨xs, ⟨hb, ?_⟩, h2.kept hR (hk.weak (fun b hb => .inl hb.1))⟩
  obtain ⟨hl, h0 | ⟨g, cap, cur, rfl, hg, hh, r⟩⟩ := h1.2
  · exact ⟨hl, .inl h0⟩
  · exact ⟨hl, .inr ⟨g, cap, cur, rfl, hg, (hk.2 g (.inr rfl) (Array.getElem?_eq_some_iff.1 hh).1).trans hh, r⟩⟩
theorem Row.headG {A : Where} {w0 u : World} {e : TypeId} {v : Value} {L : List α} (h : Row R k A w0 u e v L) : ∃ a n c, v = .slice a n c := by
  obtain ⟨xs, h1, _⟩ := h
  obtain ⟨_, ⟨rfl, _⟩ | ⟨g, cap, cur, rfl, _⟩⟩ := h1.2
  · exact ⟨_, _, _, rfl⟩
  · exact ⟨_, _, _, rfl⟩
end
section
variable {α : Type} [Inhabited α] {R : Rep α} {k : Nat}
theorem Row.meltsG {A : Where} {w0 u : World} {e : TypeId} {g n cap o : Nat} {L : List α} (h : Row R k A w0 u e (.slice (some ⟨g, 0, none⟩) n cap) L) : u.frozen? ⟨g, o, none⟩ = false := by
  obtain ⟨xs, ⟨hb, hl, ⟨e1, _⟩ | ⟨g', cap', cur, e1, hBg, hg, hcp, hcm, hsz, htk⟩⟩, hch⟩ := h
  · cases e1
  simp only [Value.slice.injEq, Option.some.injEq, Addr.mk.injEq, and_true, true_and] at e1
  obtain ⟨rfl, _, rfl⟩ := e1
  simp [World.frozen?, hg]
theorem Row.getG {α : Type} [Inhabited α] {R : Rep α} {k : Nat} (hR : Firm R k) {A : Where} {w0 u : World} {e : TypeId} {v : Value} {L : List α} (h : Row R k A w0 u e v L) {i : Nat} (hi : i < L.length) : ∃ g c cs, v = .slice (some ⟨g, 0, none⟩) L.length c ∧ g < u.heap.size ∧ R (fun b => A b ∧ v.ownBlock ≠ some b) u cs (L.getD i default) ∧ u.rangeAt g (i * k) cs := by
  obtain ⟨xs, h1, h2⟩ := h
  obtain ⟨cs, hr, hc⟩ := h2.2 i hi
  have h12 := h1.2
  obtain ⟨_, ⟨_, h0⟩ | ⟨g, cap, cur, rfl, hg, hh, hnc, _, hcs, htk⟩⟩ := h1.2
  · omega
  refine ⟨g, cap, cs, rfl, (Array.getElem?_eq_some_iff.1 hh).1, hr, fun j y hj => ?_⟩
  have hjk : j < k := by have := (List.getElem?_eq_some_iff.1 hj).1; rwa [hR.len hr] at this
  have hle : (i + 1) * k ≤ L.length * k := Nat.mul_le_mul_right k hi
  rw [Nat.add_mul, Nat.one_mul] at hle
  rw [h12.cellAt (i * k + j) (by omega), hc j hjk]
  exact hj
end
section
variable {α : Type} [Inhabited α] {R : Rep α} {k : Nat}
theorem Row.wAG (hR : Firm R k) {A A' : Where} {w0 u : World} {e : TypeId} {v : Value} {L : List α} (h : Row R k A w0 u e v L) (hA : ∀ b, A b → A' b) : Row R k A' w0 u e v L := by
  obtain ⟨xs, h1, h2⟩ := h
  exact ⟨xs, h1, h2.weak hR (fun b _ h => ⟨hA b h.1, h.2⟩)⟩
/-- A beginning of a slice. -/
theorem sl_takeG {bytes : Nat} {A : Where} {w : World} {a : Option Addr} {n cap : Nat} {L : List α} (h : SlAt R k bytes A w a n cap L) {m : Nat} (hm : m ≤ n) : SlAt R k bytes A w a m cap (L.take m) := by
  obtain ⟨h1, h2, h3, h4, h5⟩ := h
  refine ⟨by rw [List.length_take]; omega, by omega, h3, Nat.le_trans (Nat.mul_le_mul_right _ hm) h4, fun h0 => ?_⟩
  obtain ⟨B, off, e, hB, hA, hc⟩ := h5 (by omega)
  refine ⟨B, off, e, hB, hA, fun i hi => ?_⟩
  obtain ⟨cs, hr, hv⟩ := hc i (by omega)
  refine ⟨cs, ?_, hv⟩
  rw [List.getD_eq_getElem?_getD, List.getElem?_take, if_pos hi, ← List.getD_eq_getElem?_getD]
  exact hr
end
theorem src_boxG {α : Type} [Inhabited α] {R : Rep α} {k : Nat} (hR : Firm R k) {A : Where} {u : World} {B : Nat} {cs : List Value} {x : α} (hb : BoxL u B cs) (hr : R A u cs x) : Src R k A u (some ⟨B, 0, none⟩) 1 [x] := by
  refine ⟨rfl, .inr ⟨⟨B, 0, none⟩, cs, rfl, ⟨by rw [hR.len hr]; simp, fun i hi => ?_⟩, fun j y hj => ?_, hR.one hr⟩⟩
  · obtain rfl : i = 0 := by simpa using hi
    exact ⟨cs, hr, fun j _ => by rw [Nat.zero_mul, Nat.zero_add]⟩
  · have := (hb.2 j y hj).1
    by_cases h0 : j = 0
    · subst h0; simpa [Addr.add] using this
    · simpa [Addr.add, h0] using this
theorem wpl_atG {P : Program} {ops : Array Oper} {Q : Exit → Act → World → Prop} {rest : List Oper} {a : Act} {u W : World} (h : W = u) (k : wpList P ops Q rest a W) : wpList P ops Q rest a u := h ▸ k
theorem take_atG {α : Type} [Inhabited α] {L : List α} {k : Nat} (h : k < L.length) : L.take k ++ [L.getD k default] = L.take (k + 1) := by
  rw [List.take_succ_eq_append_getElem h, List.getD_eq_getElem?_getD, List.getElem?_eq_getElem h]; rfl
/-- Over an earlier world. -/
theorem Row.fromG {α : Type} [Inhabited α] {R : Rep α} {k : Nat} {w0 w1 u : World} {e : TypeId} {v : Value} {L : List α} (h : Row R k (fun _ => False) w1 u e v L) (hw : Below w0.heap.size w0 w1) : Row R k (fun _ => False) w0 u e v L := by
  obtain ⟨xs, ⟨h1, h2⟩, h3⟩ := h
  exact ⟨xs, ⟨on2 hw h1, Go.Joins.ownsRow_le h2 hw.size⟩, h3⟩
end Go.Proofs.Yteihniiacfghoab
namespace Go.Proofs.Yteihniiacfghoab
open Go.RowKit
set_option linter.unusedSimpArgs false
set_option maxRecDepth 100000

theorem infoIntS : (Try.prog.info? 3).map (fun i => (i.zero, i.size, i.bytes)) = some (some (.int .i64 0), 1, 8) := by kernel_rfl
theorem top_snoc (l : List Int) {k : Nat} (hk : k < l.length) : topP (l.take (k + 1)) = maxZ (topP (l.take k)) (c40 (l.getD k default)) := by
  rw [← take_at hk]; unfold topP; rw [List.foldl_append]; rfl
theorem norm_snoc (m : Int) (rev : Bool) (l : List Int) {k : Nat} (hk : k < l.length) : (l.take (k + 1)).map (norm1 m rev) = (l.take k).map (norm1 m rev) ++ [norm1 m rev (l.getD k default)] := by
  rw [← take_at hk, List.map_append]; rfl
end Go.Proofs.Yteihniiacfghoab
namespace Go.Proofs.Yteihniiacfghoab
open Go.RowKit
set_option linter.unusedSimpArgs false

end Go.Proofs.Yteihniiacfghoab
namespace Go.Proofs.Yteihniiacfghoab
open Go.RowKit
set_option linter.unusedSimpArgs false

/-- A call's end tells whether the two are one. -/
def TellsEq {α : Type} (e : Ending) (x y : α) : Prop := ∃ r, e = .returned (.bool r) ∧ (r = true ↔ x = y)
theorem tells {α : Type} {x y : α} {r : Bool} (h : r = true ↔ x = y) : TellsEq (.returned (.bool r)) x y := ⟨r, rfl, h⟩

end Go.Proofs.Yteihniiacfghoab
namespace Go.Proofs.Yteihniiacfghoab
open Go.RowKit
set_option linter.unusedSimpArgs false

theorem guardR : Try.prog.eqGuardType Try.prog.depth 24 = false := by kernel_rfl
theorem guardTn : Try.prog.eqGuardType Try.prog.depth 77 = false := by kernel_rfl
theorem neqR (x y : ResD) (w : World) : Sem.run Try.prog (binOp .neq 24 (.agg #[.int .i64 x.1, .int .i64 x.2.1, .int .i64 x.2.2]) (.agg #[.int .i64 y.1, .int .i64 y.2.1, .int .i64 y.2.2])) w = .ok (.bool (!((x.1 == y.1) && ((x.2.1 == y.2.1) && (x.2.2 == y.2.2))))) w := by
  have u3 := Try.underlying3
  have a3 := Try.isAgg3
  have z3 := Try.sizeOf3
  have hS : Try.prog.underlying 24 = some (.struct (Try.prog.fieldsOf 24)) := by kernel_rfl
  have hp : Try.prog.stoodInHeld 24 = false := by kernel_rfl
  rw [run_neq_struct, show (10000 : Nat) = 9999 + 1 from rfl, run_equalIn_agg w 9999 24 _ _ hS hp]
  simp only [Program.fieldsOf, Try.underlying24]
  go_simp
  by_cases h1 : x.1 = y.1 <;> by_cases h2 : x.2.1 = y.2.1 <;> by_cases h3 : x.2.2 = y.2.2 <;> simp [h1, h2, h3]
theorem neqTn (x y : Tnt) (w : World) : Sem.run Try.prog (binOp .neq 77 (.agg #[.string x.1, .string x.2.1, .int .i64 x.2.2]) (.agg #[.string y.1, .string y.2.1, .int .i64 y.2.2])) w = .ok (.bool (!tEq x y)) w := by
  have u3 := Try.underlying3
  have a3 := Try.isAgg3
  have z3 := Try.sizeOf3
  have u9 := Try.underlying9
  have a9 := Try.isAgg9
  have z9 := Try.sizeOf9
  have hS : Try.prog.underlying 77 = some (.struct (Try.prog.fieldsOf 77)) := by kernel_rfl
  have hp : Try.prog.stoodInHeld 77 = false := by kernel_rfl
  rw [run_neq_struct, show (10000 : Nat) = 9999 + 1 from rfl, run_equalIn_agg w 9999 77 _ _ hS hp]
  simp only [Program.fieldsOf, Try.underlying77]
  go_simp
  simp only [tEq, sEq]
  by_cases h1 : x.1.toList = y.1.toList <;> by_cases h2 : x.2.1.toList = y.2.1.toList <;> by_cases h3 : x.2.2 = y.2.2 <;> simp [h1, h2, h3]
theorem tEq_iff (x y : Tnt) : tEq x y = true ↔ x = y := by
  simp only [tEq, Bool.and_eq_true, sEq_iff, beq_iff_eq, Prod.ext_iff]
theorem res_iff (x y : ResD) : ((x.1 == y.1) && ((x.2.1 == y.2.1) && (x.2.2 == y.2.2))) = true ↔ x = y := by
  simp only [Bool.and_eq_true, beq_iff_eq, Prod.ext_iff]
theorem list_same {α : Type} [Inhabited α] {L M : List α} (hl : L.length = M.length) (h : ∀ j, j < L.length → L.getD j default = M.getD j default) : L = M := by
  apply List.ext_getElem hl
  intro i h1 h2
  have := h i h1
  rwa [getE _ _ h1, getE _ _ h2] at this

end Go.Proofs.Yteihniiacfghoab
namespace Go.Proofs.Yteihniiacfghoab
open Go.RowKit
set_option linter.unusedSimpArgs false

section
variable {P : Program} {md : Region.Mode} {ops : Array Oper} {Q : Exit → Act → World → Prop} {S : World → Prop} {oi : Oper} {d fuel : Nat} {listed : Array Bool} {a : Act} {w : World}
/-- Operation i is taken first; whether it runs is said by hy. -/
theorem tq (i : Nat) (v : Value) (hy : YieldsIf P ops S oi v a) (h : wpAnyH P md ops (NoPanic Q) S fuel (listed.setIfInBounds i true) (a.put (some d) v) w)
    (hi : ops[i]? = some oi := by rfl) (hd : oi.dst = some d := by rfl) (hb : (Region.noSelect ops && (Region.free md ops listed i && (Region.ready md ops listed).contains i)) = true := by kernel_rfl) (hS : S w := by assumption) : wpAnyH P md ops (NoPanic Q) S (fuel + 1) listed a w :=
  wpAnyH_take hi (Bool.and_eq_true _ _ ▸ hb).1 (Bool.and_eq_true _ _ ▸ (Bool.and_eq_true _ _ ▸ hb).2).1 (Bool.and_eq_true _ _ ▸ (Bool.and_eq_true _ _ ▸ hb).2).2 (fun _ _ _ h => h) hy hS (hd ▸ h)
/-- Operation i is taken first; it runs. -/
theorem tk (i : Nat) {v : Value} (hy : ∀ u, S u → (execOp a.eval oi).run P u = .ok (.value v) u) (h : wpAnyH P md ops (NoPanic Q) S fuel (listed.setIfInBounds i true) (a.put (some d) v) w)
    (hi : ops[i]? = some oi := by rfl) (hd : oi.dst = some d := by rfl) (hb : (Region.noSelect ops && (Region.free md ops listed i && (Region.ready md ops listed).contains i)) = true := by kernel_rfl) (hw : Region.wanted oi (yielded ops a.tmps) = true := by rfl) (hS : S w := by assumption) : wpAnyH P md ops (NoPanic Q) S (fuel + 1) listed a w :=
  tq i v (.inl ⟨hw, hy⟩) h hi hd hb hS
/-- Operation i is taken first; its guard says no. -/
theorem tn (i : Nat) (h : wpAnyH P md ops (NoPanic Q) S fuel (listed.setIfInBounds i true) (a.put (some d) undef) w)
    (hi : ops[i]? = some oi := by rfl) (hd : oi.dst = some d := by rfl) (hb : (Region.noSelect ops && (Region.free md ops listed i && (Region.ready md ops listed).contains i)) = true := by kernel_rfl) (hw : Region.wanted oi (yielded ops a.tmps) = false := by rfl) (hS : S w := by assumption) : wpAnyH P md ops (NoPanic Q) S (fuel + 1) listed a w :=
  tq i undef (.inr ⟨hw, rfl⟩) h hi hd hb hS
/-- Operation i is taken first; it runs, whatever the world. -/
theorem tp (i : Nat) {v : Value} (h : wpAnyH P md ops (NoPanic Q) S fuel (listed.setIfInBounds i true) (a.put (some d) v) w)
    (hi : ops[i]? = some oi := by rfl) (hd : oi.dst = some d := by rfl) (hb : (Region.noSelect ops && (Region.free md ops listed i && (Region.ready md ops listed).contains i)) = true := by kernel_rfl) (hw : Region.wanted oi (yielded ops a.tmps) = true := by rfl)
    (hy : ∀ u, (execOp a.eval oi).run P u = .ok (.value v) u := by intro u; go_simp; try with_reducible rfl) (hS : S w := by assumption) : wpAnyH P md ops (NoPanic Q) S (fuel + 1) listed a w :=
  tk i (fun u _ => hy u) h hi hd hb hw hS
/-- Operation i alone may come up; it writes slot d. -/
theorem tr (i : Nat) (h : ∀ K' : Act → World → Prop, Shut (∀ v w, S w → (S w → wpAnyH P md ops Q S fuel (listed.setIfInBounds i true) (a.put (some d) v) w) → K' (a.put oi.dst v) w) → if Region.wanted oi (yielded ops a.tmps) = true then Oper.wp P oi a w K' Q else K' (a.put oi.dst undef) w)
    (hi : ops[i]? = some oi := by rfl) (hd : oi.dst = some d := by rfl) (hr : Region.ready md ops listed = [i] := by kernel_rfl) : wpAnyH P md ops Q S (fuel + 1) listed a w :=
  wpAnyH_ready hr (by simp) (AllReadyH.cons hi (fun K' hK => h K' (fun v w h1 h2 => hK.out _ w h1 (fun h3 => hd ▸ h2 h3))) AllReadyH.nil)
/-- Operation i alone may come up; it writes no slot. -/
theorem ts (i : Nat) (h : ∀ K' : Act → World → Prop, Shut (∀ v w, S w → (S w → wpAnyH P md ops Q S fuel (listed.setIfInBounds i true) a w) → K' (a.put oi.dst v) w) → if Region.wanted oi (yielded ops a.tmps) = true then Oper.wp P oi a w K' Q else K' (a.put oi.dst undef) w)
    (hi : ops[i]? = some oi := by rfl) (hd : oi.dst = none := by rfl) (hr : Region.ready md ops listed = [i] := by kernel_rfl) : wpAnyH P md ops Q S (fuel + 1) listed a w :=
  wpAnyH_ready hr (by simp) (AllReadyH.cons hi (fun K' hK => h K' (fun v w h1 h2 => hK.out _ w h1 (fun h3 => by rw [hd]; exact h2 h3))) AllReadyH.nil)
/-- The end of a region. -/
theorem tz (h : Q .normal a w) (hr : Region.ready md ops listed = [] := by kernel_rfl) : wpAnyH P md ops (NoPanic Q) S fuel listed a w := wpAnyH_done hr (NoPanic.normal h) _
/-- Its beginning. -/
theorem t0 {id : Nat} (S : World → Prop) (hS : S w.drew) (h : S w.drew → wpAnyH P .any ops (NoPanic Q) S ops.size (Array.replicate ops.size false) a w.drew) (hm : P.follows .mixedOrders = true := by kernel_rfl) : (Code.region id ops true).wp P Q a w :=
  wp_region_noPanic (wp_region_held_drew hm hS h)
end
end Go.Proofs.Yteihniiacfghoab
namespace Go.Proofs.Yteihniiacfghoab
open Go.RowKit
set_option linter.unusedSimpArgs false
set_option maxRecDepth 100000

theorem guardBe : Try.prog.eqGuardType Try.prog.depth 42 = false := by kernel_rfl
theorem neqR_same (a b c : Int) (w : World) : Sem.run Try.prog (binOp .neq 24 (.agg #[.int .i64 a, .int .i64 b, .int .i64 c]) (.agg #[.int .i64 a, .int .i64 b, .int .i64 c])) w = .ok (.bool false) w := by
  have := neqR (a, b, c) (a, b, c) w
  simpa using this
theorem neqBe_same (a b : ByteArray) (c : Bool) (d : Int) (w : World) : Sem.run Try.prog (binOp .neq 42 (.agg #[.string a, .string b, .bool c, .int .i64 d]) (.agg #[.string a, .string b, .bool c, .int .i64 d])) w = .ok (.bool false) w := by
  have u3 := Try.underlying3
  have a3 := Try.isAgg3
  have z3 := Try.sizeOf3
  have u9 := Try.underlying9
  have a9 := Try.isAgg9
  have z9 := Try.sizeOf9
  have u4 := Try.underlying4
  have a4 := Try.isAgg4
  have z4 := Try.sizeOf4
  have hS : Try.prog.underlying 42 = some (.struct (Try.prog.fieldsOf 42)) := by kernel_rfl
  have hp : Try.prog.stoodInHeld 42 = false := by kernel_rfl
  rw [run_neq_struct, show (10000 : Nat) = 9999 + 1 from rfl, run_equalIn_agg w 9999 42 _ _ hS hp]
  simp only [Program.fieldsOf, Try.underlying42]
  go_simp
/-- The blocks of the two parameters. -/
structure PB2 (w u : World) (P Y : List Value) : Prop where
  p : BoxL u w.heap.size P
  y : BoxL u (w.heap.size + 1) Y
  b : Below w.heap.size w u
theorem PB2.on {w u u' : World} {P Y : List Value} (h : PB2 w u P Y) (hb : Below u.heap.size u u') : PB2 w u' P Y := ⟨h.p.on hb, h.y.on hb, on2 h.b hb⟩

end Go.Proofs.Yteihniiacfghoab
namespace Go.Proofs.Yteihniiacfghoab
open Go.RowKit
set_option linter.unusedSimpArgs false
set_option maxRecDepth 100000

/-- An info: its node's lists lie where A says, its own where F says. -/
def InfoAt (A F : Where) (w : World) (cs : List Value) (x : InfoD) : Prop :=
  ∃ c d, cs = c ++ d ∧ RNode A w c x.1 ∧ RPair (RSl RStr 1 16) (RPair RRes (RPair (RSl RInt 1 8) (RSl RStr 1 16))) F w d x.2
theorem InfoAt.info {A F : Where} {w : World} {cs : List Value} {x : InfoD} (h : InfoAt A F w cs x) : RInfo (fun b => A b ∨ F b) w cs x := by
  obtain ⟨c, d, e, h1, h2⟩ := h
  exact ⟨c, d, e, RNode.firm.weak h1 (fun _ _ h => .inl h), (Firm.pair (RSl.firm RStr.firm) (Firm.pair RRes.firm (Firm.pair (RSl.firm RInt.firm) (RSl.firm RStr.firm)))).weak h2 (fun _ _ h => .inr h)⟩
theorem InfoAt.kept {A F : Where} {w w' : World} {cs : List Value} {x : InfoD} (h : InfoAt A F w cs x) (hA : Kept A w w') (hF : Kept F w w') : InfoAt A F w' cs x := by
  obtain ⟨c, d, e, h1, h2⟩ := h
  exact ⟨c, d, e, RNode.firm.kept h1 hA, (Firm.pair (RSl.firm RStr.firm) (Firm.pair RRes.firm (Firm.pair (RSl.firm RInt.firm) (RSl.firm RStr.firm)))).kept h2 hF⟩
theorem InfoAt.weak {A A' F F' : Where} {w : World} {cs : List Value} {x : InfoD} (h : InfoAt A F w cs x) (hA : ∀ b, b < w.heap.size → A b → A' b) (hF : ∀ b, b < w.heap.size → F b → F' b) : InfoAt A' F' w cs x := by
  obtain ⟨c, d, e, h1, h2⟩ := h
  exact ⟨c, d, e, RNode.firm.weak h1 hA, (Firm.pair (RSl.firm RStr.firm) (Firm.pair RRes.firm (Firm.pair (RSl.firm RInt.firm) (RSl.firm RStr.firm)))).weak h2 hF⟩
theorem InfoAt.on {A F : Where} {w w' : World} {cs : List Value} {x : InfoD} (h : InfoAt A F w cs x) (hb : Below w.heap.size w w') : InfoAt A F w' cs x := h.kept (Kept.below hb) (Kept.below hb)
theorem InfoAt.len {A F : Where} {w : World} {cs : List Value} {x : InfoD} (h : InfoAt A F w cs x) : cs.length = 15 := RInfo.firm.len h.info
theorem InfoAt.one {A F : Where} {w : World} {cs : List Value} {x : InfoD} (h : InfoAt A F w cs x) : ∀ u ∈ cs, u.oneCell' = true := RInfo.firm.one h.info
theorem eqR_same (a b c : Int) (w : World) : Sem.run Try.prog (binOp .eql 24 (.agg #[.int .i64 a, .int .i64 b, .int .i64 c]) (.agg #[.int .i64 a, .int .i64 b, .int .i64 c])) w = .ok (.bool true) w := by
  have u3 := Try.underlying3
  have a3 := Try.isAgg3
  have z3 := Try.sizeOf3
  have hS : Try.prog.underlying 24 = some (.struct (Try.prog.fieldsOf 24)) := by kernel_rfl
  have hp : Try.prog.stoodInHeld 24 = false := by kernel_rfl
  rw [run_eql_struct, show (10000 : Nat) = 9999 + 1 from rfl, run_equalIn_agg w 9999 24 _ _ hS hp]
  simp only [Program.fieldsOf, Try.underlying24]
  go_simp
theorem tells_yes {α : Type} {e : Ending} {x : α} (h : TellsEq e x x) : e = .returned (.bool true) := by
  obtain ⟨r, rfl, h⟩ := h
  rw [h.2 rfl]
end Go.Proofs.Yteihniiacfghoab
namespace Go.Proofs.Yteihniiacfghoab
end Go.Proofs.Yteihniiacfghoab
namespace Go.Proofs.Yteihniiacfghoab
open Go.RowKit

theorem ret_int {k : IntKind} {a b : Int} (h : a = b) : Ending.returned (.int k a) = .returned (.int k b) := by rw [h]

set_option maxHeartbeats 400000 in
theorem clamp_calls (a : Int) (w : World) : Calls Try.prog 32 #[.int .i64 a] w fun e w' => e = .returned (.int .i64 (clampI a)) ∧ w' = w := by
  go_enter Try.func32, Try.ntmps32
  go_wp2
  all_goals (go_ret; exact ⟨ret_int (by unfold clampI; omega), rfl⟩)
set_option maxHeartbeats 400000 in
theorem add_calls (a b : Int) (w : World) : Calls Try.prog 38 #[.int .i64 a, .int .i64 b] w fun e w' => e = .returned (.int .i64 (addI a b)) ∧ w' = w := by
  have h1 := clampI_ge a; have h2 := clampI_ge b; have h3 := clampI_le a; have h4 := clampI_le b
  go_enter Try.func38, Try.ntmps38
  go_wp2_with (go_at_call 32; refine (clamp_calls _ _).mono ?_; rintro e w' ⟨rfl, rfl⟩)
  go_ret
  exact ⟨rfl, rfl⟩
set_option maxHeartbeats 400000 in
theorem sub_calls (a b : Int) (w : World) : Calls Try.prog 37 #[.int .i64 a, .int .i64 b] w fun e w' => e = .returned (.int .i64 (subI a b)) ∧ w' = w := by
  have h1 := clampI_ge a; have h2 := clampI_ge b; have h3 := clampI_le a; have h4 := clampI_le b
  go_enter Try.func37, Try.ntmps37
  go_wp2_with (go_at_call 32; refine (clamp_calls _ _).mono ?_; rintro e w' ⟨rfl, rfl⟩)
  go_ret
  exact ⟨rfl, rfl⟩
end Go.Proofs.Yteihniiacfghoab
namespace Go.Proofs.Yteihniiacfghoab
open Go.RowKit

abbrev res (a b c : Int) : Value := .agg #[.int .i64 a, .int .i64 b, .int .i64 c]

set_option maxHeartbeats 1000000 in
theorem split_calls (a b c : Int) (w : World) : Calls Try.prog 35 #[.agg #[.int .i64 a, .int .i64 b, .int .i64 c]] w fun e w' => e = .returned (.agg #[.int .i64 a, .int .i64 b, .int .i64 c]) ∧ w' = ((w.alloc (.cells #[.int .i64 a, .int .i64 b, .int .i64 c] 24)).alloc (.cells #[.int .i64 a, .int .i64 b, .int .i64 c] 82)) := by
  go_enter Try.func35, Try.ntmps35
  go_wp2
  exact bodyPost_ret (v := .agg #[.int .i64 a, .int .i64 b, .int .i64 c]) (by simp [results, Try.results35, go_sem]) rfl ⟨rfl, rfl⟩
set_option maxHeartbeats 1000000 in
theorem join_calls (a b c : Int) (w : World) : Calls Try.prog 36 #[.agg #[.int .i64 a, .int .i64 b, .int .i64 c]] w fun e w' => e = .returned (.agg #[.int .i64 a, .int .i64 b, .int .i64 c]) ∧ w' = ((w.alloc (.cells #[.int .i64 a, .int .i64 b, .int .i64 c] 82)).alloc (.cells #[.int .i64 a, .int .i64 b, .int .i64 c] 24)) := by
  go_enter Try.func36, Try.ntmps36
  go_wp2
  exact bodyPost_ret (v := .agg #[.int .i64 a, .int .i64 b, .int .i64 c]) (by simp [results, Try.results36, go_sem]) rfl ⟨rfl, rfl⟩

theorem join_below (a b c : Int) (w : World) : Calls Try.prog 36 #[.agg #[.int .i64 a, .int .i64 b, .int .i64 c]] w fun e w' => e = .returned (.agg #[.int .i64 a, .int .i64 b, .int .i64 c]) ∧ Below w.heap.size w w' :=
  (join_calls a b c w).mono fun e w' ⟨he, hw⟩ => ⟨he, by rw [hw]; exact ((Below.refl _ _).alloc (Nat.le_refl _) _).alloc (by simp) _⟩

set_option maxHeartbeats 400000 in
theorem plus_calls (a b : Int) (w : World) : Calls Try.prog 31 #[.int .i64 a, .int .i64 b] w fun e w' => e = .returned (.int .i64 (addI a b)) ∧ w' = w := by
  go_enter Try.func31, Try.ntmps31
  go_wp2_with (go_at_call 38; refine (add_calls _ _ _).mono ?_; rintro e w' ⟨rfl, rfl⟩)
  go_ret
  exact ⟨rfl, rfl⟩
set_option maxHeartbeats 400000 in
theorem minus_calls (a b : Int) (w : World) : Calls Try.prog 30 #[.int .i64 a, .int .i64 b] w fun e w' => e = .returned (.int .i64 (subI a b)) ∧ w' = w := by
  go_enter Try.func30, Try.ntmps30
  go_wp2_with (go_at_call 37; refine (sub_calls _ _ _).mono ?_; rintro e w' ⟨rfl, rfl⟩)
  go_ret
  exact ⟨rfl, rfl⟩

/-- block B of the world holds just these three numbers -/
def Holds3 (w : World) (B : Nat) (a b c : Int) : Prop := w.cell? ⟨B, 0, none⟩ = some (.int .i64 a) ∧ w.cell? ⟨B, 1, none⟩ = some (.int .i64 b) ∧ w.cell? ⟨B, 2, none⟩ = some (.int .i64 c)

end Go.Proofs.Yteihniiacfghoab
namespace Go.Proofs.Yteihniiacfghoab
open Go.RowKit
set_option maxRecDepth 100000

theorem ret_b {a b : Bool} (h : a = b) : Ending.returned (.bool a) = .returned (.bool b) := by rw [h]
/-- no member of the first is above the second's -/
def fitsB (a b c x y z : Int) : Bool := decide (clampI a ≤ clampI x) && decide (clampI b ≤ clampI y) && decide (clampI c ≤ clampI z)

end Go.Proofs.Yteihniiacfghoab
namespace Go.Proofs.Yteihniiacfghoab
open Go.RowKit
set_option linter.unusedSimpArgs false
set_option maxRecDepth 100000

theorem clash_succ (V : List Int) (L : List Int) {k : Nat} (hk : k < L.length) : (L.take (k + 1)).any (fun q => hasB iEq V q) = ((L.take k).any (fun q => hasB iEq V q) || hasB iEq V (L.getD k default)) := by
  rw [← take_at hk]; simp
end Go.Proofs.Yteihniiacfghoab
