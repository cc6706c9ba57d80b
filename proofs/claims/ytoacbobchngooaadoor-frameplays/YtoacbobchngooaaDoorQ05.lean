/- Several rows of one's own side by side: an append to one leaves the others. Plain facts on worlds. No condition. Rows and slices of one's own: members read and written, kept over other calls. Plain facts on worlds. No condition. Plugins and texts in cells; what a frame of the program must keep. No condition. base.SameTexts over texts. Condition: what is handed in lies as is said of it. plugins and names, of the laws. Condition: what is handed in lies as is said of it. names, of the laws. Condition: the texts lie as is said of them. -/
import Derived.Test.YtoacbobchngooaaDoorQ04
import Derived.Test.YtoacbobchngooaaDoorQ03
namespace Go.Proofs.YtoacbobchngooaaDoor
open Go.RowKit
set_option linter.unusedSimpArgs false

section
variable {α : Type} [Inhabited α] {R : Rep α} {k : Nat}
theorem Row.lt {A : Where} {w0 u : World} {e : TypeId} {v : Value} {L : List α} (h : Row R k A w0 u e v L) {b : Nat} (hb : v.ownBlock = some b) : w0.heap.size ≤ b ∧ b < u.heap.size := by
  obtain ⟨xs, h1, _⟩ := h
  exact h1.2.lt b hb
theorem Row.grown (hR : Firm R k) {A : Where} {w0 u u' : World} {row : Option Nat} {e : TypeId} {v : Value} {L : List α} (h : Row R k A w0 u e v L) (hg : u.grownBy u' row) (hn : ∀ b, row = some b → w0.heap.size ≤ b ∧ v.ownBlock ≠ some b ∧ ¬ A b) : Row R k A w0 u' e v L := by
  obtain ⟨xs, ⟨h1, h0, h2⟩, h3⟩ := h
  refine ⟨xs, ⟨?_, h0, ?_⟩, h3.kept hR (Kept.grown hg (fun b hb h => (hn b hb).2.2 h.1))⟩
  · exact Below.grown h1 hg h1.size (fun b hb => (hn b hb).1)
  · rcases h2 with h2 | ⟨g, cap, cur, hv, hg0, hh, r⟩
    · exact .inl h2
    · refine .inr ⟨g, cap, cur, hv, hg0, ?_, r⟩
      rw [hg.block g ?_ ?_]
      · exact hh
      · rcases Nat.lt_or_ge g u.heap.size with h | h
        · exact h
        · rw [Array.getElem?_eq_none h] at hh; cases hh
      · intro e1
        have := (hn g e1.symm).2.1
        rw [hv] at this
        exact this rfl
/-- An append of what lies in a slice, or in none, with the place of the new row. -/
theorem row_appendP_wp (hR : Firm R k) {o : Oper} {a : Act} {K : Act → World → Prop} {Q : Exit → Act → World → Prop} {A : Where} {w0 u : World} (s x : Operand) (t e : TypeId)
    (ho : o.op = .call { callee := .builtin .append, args := #[s, x], argTypes := #[t, t] }) (z : Value) (bytes : Nat) (hinfo : (Tryd.prog.info? e).map (fun i => (i.zero, i.size, i.bytes)) = some (some z, k, bytes)) (ht : Tryd.prog.underlying t = some (.slice e)) (hzs : z.cells.size = k) (hk0 : 0 < k) (hby : 1 ≤ bytes)
    (v : Value) (L : List α) (hs : a.eval s = v) (hrow : Row R k A w0 u e v L)
    (ad : Option Addr) (m c : Nat) (N : List α) (hx : a.eval x = .slice ad m c) (hN : Src R k (fun b => A b ∧ v.ownBlock ≠ some b) u ad m N) (hb : (L.length + N.length) * bytes ≤ 140737488355328)
    (h : ∀ v' u', Row R k A w0 u' e v' (L ++ N) → u.grownBy u' v.ownBlock → (v'.ownBlock = v.ownBlock ∨ v'.ownBlock = some u.heap.size) → K (a.put o.dst v') u') : o.wp Tryd.prog a u K Q := by
  obtain ⟨hm, hN⟩ := hN
  rcases hN with ⟨rfl, rfl⟩ | ⟨ad, news, rfl, hN, hcells, h1⟩
  · obtain rfl : m = 0 := by simpa using hm.symm
    obtain ⟨i0, hi, hz0, hz1, hz2⟩ := info_parts hinfo
    have hr : ∀ ty, (Builtin.append_ #[t, t] ty #[v, .slice none 0 c]).run Tryd.prog u = .ok v u := by
      intro ty
      obtain ⟨xs, hown, _⟩ := hrow
      rcases hown.2.2 with ⟨rfl, _⟩ | ⟨g, cap, cur, rfl, _, hg, hnc, _⟩
      · simp [Builtin.append_, run_underlying ht, sizeOf, typeInfo, hi, Builtin.lenOf, Builtin.firstCells, loadCells, loadCellsFrom]
      · simp [Builtin.append_, run_underlying ht, sizeOf, typeInfo, hi, Builtin.lenOf, Builtin.firstCells, loadCells, loadCellsFrom, hnc, storeCells]
    unfold Oper.wp execOp
    simp only [ho, resolve, invoke, builtin, Sem.run_bind, Sem.run_pure, Result.andThen_ok, List.map_toArray, List.map_cons, List.map_nil, hs, hx, hr]
    exact h v u (by simpa using hrow) ⟨rfl, rfl, rfl, Nat.le_refl _, fun _ _ _ => rfl⟩ (.inl rfl)
  · subst hm
    obtain ⟨i0, hi, hz0, hz1, hz2⟩ := info_parts hinfo
    obtain ⟨xs, hown, hch⟩ := hrow
    have hmul : (L.length + N.length) * 1 ≤ (L.length + N.length) * bytes := Nat.mul_le_mul_left _ hby
    obtain ⟨v', u', hr, h2, h3, h4, h5⟩ := run_append_own_at (P := Tryd.prog) u w0.heap.size t o.type e i0 z k bytes ht hi hz0 hz1 hz2 hzs hk0 v L.length xs hown.2 ad N.length c news hN.1 hcells h1 (by unfold maxLen; omega) hb hown.1.size
    unfold Oper.wp execOp
    simp only [ho, resolve, invoke, builtin, Sem.run_bind, Sem.run_pure, Result.andThen_ok, List.map_toArray, List.map_cons, List.map_nil, hs, hx, hr]
    refine (h v' u' ⟨xs ++ news, ⟨hown.row h3, by rw [List.length_append]; exact h2⟩, ?_⟩ h3 h5)
    have put : ∀ {ys : List Value} {M : List α}, Chunks R k (fun b => A b ∧ v.ownBlock ≠ some b) u ys M → Chunks R k (fun b => A b ∧ v'.ownBlock ≠ some b) u' ys M := fun {ys M} hc => by
      have c1 := hc.weak hR (A' := fun b => (A b ∧ v.ownBlock ≠ some b) ∧ b < u.heap.size) (fun b hb h => ⟨h, hb⟩)
      have c2 := c1.kept hR (Kept.grown h3 (fun b e => fun h => h.1.2 e))
      refine c2.weak hR (fun b _ h => ⟨h.1.1, fun e => ?_⟩)
      rcases h5 with h5 | h5
      · rw [h5] at e; exact h.1.2 e
      · rw [h5] at e
        have : u.heap.size = b := by simpa using e
        exact absurd h.2 (by omega)
    obtain ⟨l1, c1⟩ := put hch
    obtain ⟨l2, c2⟩ := put hN
    refine ⟨by rw [List.length_append, List.length_append, l1, l2, Nat.add_mul], fun i hi => ?_⟩
    rcases Nat.lt_or_ge i L.length with h' | h'
    · obtain ⟨cs, q1, q2⟩ := c1 i h'
      have e : (L ++ N).getD i default = L.getD i default := by rw [getE _ _ hi, getE _ _ h', List.getElem_append_left h']
      refine ⟨cs, by rw [e]; exact q1, fun j hj => ?_⟩
      rw [List.getElem?_append_left (by have : (i + 1) * k ≤ L.length * k := Nat.mul_le_mul_right k h'; rw [Nat.add_mul] at this; omega)]
      exact q2 j hj
    · have h'' : i - L.length < N.length := by simp at hi; omega
      obtain ⟨cs, q1, q2⟩ := c2 (i - L.length) h''
      have e : (L ++ N).getD i default = N.getD (i - L.length) default := by rw [getE _ _ hi, getE _ _ h'', List.getElem_append_right h']
      refine ⟨cs, by rw [e]; exact q1, fun j hj => ?_⟩
      have hle : L.length * k ≤ i * k := Nat.mul_le_mul_right k h'
      rw [List.getElem?_append_right (by omega), l1, idx_part i L.length k j h', ← q2 j hj]
/-- At a plain region's list of operations. -/
theorem row_appendP (hR : Firm R k) {ops : Array Oper} {rest : List Oper} {o : Oper} {a : Act} {Q : Exit → Act → World → Prop} {A : Where} {w0 u : World} (hgd : Region.wanted o (yielded ops a.tmps) = true) (s x : Operand) (t e : TypeId)
    (ho : o.op = .call { callee := .builtin .append, args := #[s, x], argTypes := #[t, t] }) (z : Value) (bytes : Nat) (hinfo : (Tryd.prog.info? e).map (fun i => (i.zero, i.size, i.bytes)) = some (some z, k, bytes)) (ht : Tryd.prog.underlying t = some (.slice e)) (hzs : z.cells.size = k) (hk0 : 0 < k) (hby : 1 ≤ bytes)
    (v : Value) (L : List α) (hs : a.eval s = v) (hrow : Row R k A w0 u e v L)
    (ad : Option Addr) (m c : Nat) (N : List α) (hx : a.eval x = .slice ad m c) (hN : Src R k (fun b => A b ∧ v.ownBlock ≠ some b) u ad m N) (hb : (L.length + N.length) * bytes ≤ 140737488355328)
    (h : ∀ v' u', Row R k A w0 u' e v' (L ++ N) → u.grownBy u' v.ownBlock → (v'.ownBlock = v.ownBlock ∨ v'.ownBlock = some u.heap.size) → wpList Tryd.prog ops Q rest (a.put o.dst v') u') : wpList Tryd.prog ops Q (o :: rest) a u :=
  BigFrame.wpList_want hgd (fun _ hK => row_appendP_wp hR s x t e ho z bytes hinfo ht hzs hk0 hby v L hs hrow ad m c N hx hN hb (fun v' u' h2 h3 h4 => hK _ _ (h v' u' h2 h3 h4)))
end
end Go.Proofs.YtoacbobchngooaaDoor
namespace Go.Proofs.YtoacbobchngooaaDoor
open Go.RowKit
set_option linter.unusedSimpArgs false
set_option maxRecDepth 100000

section
variable {α : Type} [Inhabited α] {R : Rep α} {k : Nat}
theorem heap_setCellG {u : World} {g o : Nat} {cur : Array Value} {T : TypeId} {val : Value} (hg : u.heap[g]? = some (.cells cur T (0, 0))) : (u.setCell ⟨g, o, none⟩ val).heap[g]? = some (.cells (cur.setIfInBounds o val) T (0, 0)) := by
  have hlt : g < u.heap.size := (Array.getElem?_eq_some_iff.1 hg).1
  have hge : u.heap[g] = .cells cur T (0, 0) := (Array.getElem?_eq_some_iff.1 hg).2
  simp [World.setCell, hg, hlt, Array.getElem_modify, hge]
theorem Row.setG (hR : Firm R k) {A : Where} {w0 u : World} {e : TypeId} {g cap i j : Nat} {L : List α} {val : Value} {x : α} (h : Row R k A w0 u e (.slice (some ⟨g, 0, none⟩) L.length cap) L) (hi : i < L.length) (hj : j < k)
    (hx : ∀ B cs, R B u cs (L.getD i default) → R B u (cs.set j val) x) : Row R k A w0 (u.setCell ⟨g, i * k + j, none⟩ val) e (.slice (some ⟨g, 0, none⟩) L.length cap) (L.set i x) := by
  obtain ⟨xs, ⟨hb, hl, ⟨e1, _⟩ | ⟨g', cap', cur, e1, hBg, hg, hcp, hcm, hsz, htk⟩⟩, hch⟩ := h
  · cases e1
  simp only [Value.slice.injEq, Option.some.injEq, Addr.mk.injEq, and_true, true_and] at e1
  obtain ⟨rfl, rfl⟩ := e1
  have hkn : (i + 1) * k ≤ L.length * k := Nat.mul_le_mul_right k hi
  have hkc : L.length * k ≤ cap * k := Nat.mul_le_mul_right k hcp
  rw [Nat.add_mul, Nat.one_mul] at hkn
  have hxl : xs.length = L.length * k := hl
  refine ⟨xs.set (i * k + j) val, ⟨hb.setCell (p := ⟨g, i * k + j, none⟩) hBg val, ?_⟩, ?_⟩
  · rw [List.length_set]
    refine ⟨by rw [List.length_set]; exact hl, .inr ⟨g, cap, cur.setIfInBounds (i * k + j) val, rfl, hBg, heap_setCellG hg, hcp, hcm, by simpa using hsz, ?_⟩⟩
    rw [Array.toList_setIfInBounds, List.take_set, htk]
  · have k1 : Kept (fun b => A b ∧ Value.ownBlock (.slice (some ⟨g, 0, none⟩) L.length cap) ≠ some b) u (u.setCell ⟨g, i * k + j, none⟩ val) := Kept.set (p := ⟨g, i * k + j, none⟩) (fun h => h.2 rfl) val
    refine ⟨by simp only [List.length_set]; exact hxl, fun m hm => ?_⟩
    rw [List.length_set] at hm
    obtain ⟨cs, h1, h2⟩ := hch.2 m hm
    by_cases hmi : m = i
    · subst hmi
      refine ⟨cs.set j val, ?_, fun q hq => ?_⟩
      · have e3 : (L.set m x).getD m default = x := by simp [List.getD_eq_getElem?_getD, hm]
        rw [e3]
        exact hR.kept (hx _ cs h1) k1
      · have hcl := hR.len h1
        rw [List.getElem?_set, List.getElem?_set]
        by_cases hqj : j = q
        · subst hqj
          rw [if_pos rfl, if_pos rfl, if_pos (by omega), if_pos (by omega)]
        · rw [if_neg (by omega), if_neg hqj]; exact h2 q hq
    · refine ⟨cs, ?_, fun q hq => ?_⟩
      · have e3 : (L.set i x).getD m default = L.getD m default := by simp [List.getD_eq_getElem?_getD, List.getElem?_set, Ne.symm hmi]
        rw [e3]
        exact hR.kept h1 k1
      · rw [List.getElem?_set, if_neg]
        · exact h2 q hq
        · intro e
          rcases Nat.lt_or_gt_of_ne hmi with hl | hl
          · have := Nat.mul_le_mul_right k (show m + 1 ≤ i from hl); rw [Nat.add_mul, Nat.one_mul] at this; omega
          · have := Nat.mul_le_mul_right k (show i + 1 ≤ m from hl); rw [Nat.add_mul, Nat.one_mul] at this; omega
theorem Row.keptXG (hR : Firm R k) {A : Where} {w0 u u' : World} {e : TypeId} {v : Value} {L : List α} (h : Row R k A w0 u e v L) (hb : Below w0.heap.size w0 u') (hk : Kept (fun b => A b ∨ v.ownBlock = some b) u u') : Row R k A w0 u' e v L := by
  obtain ⟨xs, h1, h2⟩ := h
  refine ⟨xs, ⟨hb, ?_⟩, h2.kept hR (hk.weak (fun b hb => .inl hb.1))⟩
  obtain ⟨hl, h0 | ⟨g, cap, cur, rfl, hg, hh, r⟩⟩ := h1.2
  · exact ⟨hl, .inl h0⟩
  · exact ⟨hl, .inr ⟨g, cap, cur, rfl, hg, (hk.2 g (.inr rfl) (Array.getElem?_eq_some_iff.1 hh).1).trans hh, r⟩⟩
theorem Row.headG {A : Where} {w0 u : World} {e : TypeId} {v : Value} {L : List α} (h : Row R k A w0 u e v L) : ∃ a n c, v = .slice a n c := by
  obtain ⟨xs, h1, _⟩ := h
  obtain ⟨_, ⟨rfl, _⟩ | ⟨g, cap, cur, rfl, _⟩⟩ := h1.2
  · exact ⟨_, _, _, rfl⟩
  · exact ⟨_, _, _, rfl⟩
end
section
variable {α : Type} [Inhabited α] {R : Rep α} {k : Nat}
theorem Row.meltsG {A : Where} {w0 u : World} {e : TypeId} {g n cap o : Nat} {L : List α} (h : Row R k A w0 u e (.slice (some ⟨g, 0, none⟩) n cap) L) : u.frozen? ⟨g, o, none⟩ = false := by
  obtain ⟨xs, ⟨hb, hl, ⟨e1, _⟩ | ⟨g', cap', cur, e1, hBg, hg, hcp, hcm, hsz, htk⟩⟩, hch⟩ := h
  · cases e1
  simp only [Value.slice.injEq, Option.some.injEq, Addr.mk.injEq, and_true, true_and] at e1
  obtain ⟨rfl, _, rfl⟩ := e1
  simp [World.frozen?, hg]
theorem Row.getG {α : Type} [Inhabited α] {R : Rep α} {k : Nat} (hR : Firm R k) {A : Where} {w0 u : World} {e : TypeId} {v : Value} {L : List α} (h : Row R k A w0 u e v L) {i : Nat} (hi : i < L.length) : ∃ g c cs, v = .slice (some ⟨g, 0, none⟩) L.length c ∧ g < u.heap.size ∧ R (fun b => A b ∧ v.ownBlock ≠ some b) u cs (L.getD i default) ∧ u.rangeAt g (i * k) cs := by
  obtain ⟨xs, h1, h2⟩ := h
  obtain ⟨cs, hr, hc⟩ := h2.2 i hi
  have h12 := h1.2
  obtain ⟨_, ⟨_, h0⟩ | ⟨g, cap, cur, rfl, hg, hh, hnc, _, hcs, htk⟩⟩ := h1.2
  · omega
  refine ⟨g, cap, cs, rfl, (Array.getElem?_eq_some_iff.1 hh).1, hr, fun j y hj => ?_⟩
  have hjk : j < k := by have := (List.getElem?_eq_some_iff.1 hj).1; rwa [hR.len hr] at this
  have hle : (i + 1) * k ≤ L.length * k := Nat.mul_le_mul_right k hi
  rw [Nat.add_mul, Nat.one_mul] at hle
  rw [h12.cellAt (i * k + j) (by omega), hc j hjk]
  exact hj
end
section
variable {α : Type} [Inhabited α] {R : Rep α} {k : Nat}
theorem Row.wAG (hR : Firm R k) {A A' : Where} {w0 u : World} {e : TypeId} {v : Value} {L : List α} (h : Row R k A w0 u e v L) (hA : ∀ b, A b → A' b) : Row R k A' w0 u e v L := by
  obtain ⟨xs, h1, h2⟩ := h
  exact ⟨xs, h1, h2.weak hR (fun b _ h => ⟨hA b h.1, h.2⟩)⟩
/-- A beginning of a slice. -/
theorem sl_takeG {bytes : Nat} {A : Where} {w : World} {a : Option Addr} {n cap : Nat} {L : List α} (h : SlAt R k bytes A w a n cap L) {m : Nat} (hm : m ≤ n) : SlAt R k bytes A w a m cap (L.take m) := by
  obtain ⟨h1, h2, h3, h4, h5⟩ := h
  refine ⟨by rw [List.length_take]; omega, by omega, h3, Nat.le_trans (Nat.mul_le_mul_right _ hm) h4, fun h0 => ?_⟩
  obtain ⟨B, off, e, hB, hA, hc⟩ := h5 (by omega)
  refine ⟨B, off, e, hB, hA, fun i hi => ?_⟩
  obtain ⟨cs, hr, hv⟩ := hc i (by omega)
  refine ⟨cs, ?_, hv⟩
  rw [List.getD_eq_getElem?_getD, List.getElem?_take, if_pos hi, ← List.getD_eq_getElem?_getD]
  exact hr
end
theorem src_boxG {α : Type} [Inhabited α] {R : Rep α} {k : Nat} (hR : Firm R k) {A : Where} {u : World} {B : Nat} {cs : List Value} {x : α} (hb : BoxL u B cs) (hr : R A u cs x) : Src R k A u (some ⟨B, 0, none⟩) 1 [x] := by
  refine ⟨rfl, .inr ⟨⟨B, 0, none⟩, cs, rfl, ⟨by rw [hR.len hr]; simp, fun i hi => ?_⟩, fun j y hj => ?_, hR.one hr⟩⟩
  · obtain rfl : i = 0 := by simpa using hi
    exact ⟨cs, hr, fun j _ => by rw [Nat.zero_mul, Nat.zero_add]⟩
  · have := (hb.2 j y hj).1
    by_cases h0 : j = 0
    · subst h0; simpa [Addr.add] using this
    · simpa [Addr.add, h0] using this
theorem wpl_atG {P : Program} {ops : Array Oper} {Q : Exit → Act → World → Prop} {rest : List Oper} {a : Act} {u W : World} (h : W = u) (k : wpList P ops Q rest a W) : wpList P ops Q rest a u := h ▸ k
theorem take_atG {α : Type} [Inhabited α] {L : List α} {k : Nat} (h : k < L.length) : L.take k ++ [L.getD k default] = L.take (k + 1) := by
  rw [List.take_succ_eq_append_getElem h, List.getD_eq_getElem?_getD, List.getElem?_eq_getElem h]; rfl
/-- Over an earlier world. -/
theorem Row.fromG {α : Type} [Inhabited α] {R : Rep α} {k : Nat} {w0 w1 u : World} {e : TypeId} {v : Value} {L : List α} (h : Row R k (fun _ => False) w1 u e v L) (hw : Below w0.heap.size w0 w1) : Row R k (fun _ => False) w0 u e v L := by
  obtain ⟨xs, ⟨h1, h2⟩, h3⟩ := h
  exact ⟨xs, ⟨on2 hw h1, Go.Joins.ownsRow_le h2 hw.size⟩, h3⟩
end Go.Proofs.YtoacbobchngooaaDoor
namespace Go.Proofs.YtoacbobchngooaaDoor
open Go.RowKit Go.Maps
set_option linter.unusedSimpArgs false
set_option maxRecDepth 100000

def RTxt : Rep ByteArray := fun _ _ cs s => cs = [.string s] ∧ s.size ≤ 281474976710656
theorem RTxt.firm : Firm RTxt 1 := {
  len := (by rintro A w cs x ⟨rfl, _⟩; rfl),
  one := (by rintro A w cs x ⟨rfl, _⟩ u hu; simp at hu; subst hu; rfl),
  kept := fun h _ => h,
  weak := fun h _ => h }
def RPlug : Rep PlugD := RPair RStr (RPair RInt (RPair RInt (RPair RInt (RPair RInt (RPair RInt (RSl RInt 1 8))))))
theorem RPlug.firm : Firm RPlug 7 := Firm.pair RStr.firm (Firm.pair RInt.firm (Firm.pair RInt.firm (Firm.pair RInt.firm (Firm.pair RInt.firm (Firm.pair RInt.firm (RSl.firm RInt.firm))))))
theorem RPlug.out {A : Where} {w : World} {cs : List Value} {x : PlugD} (h : RPlug A w cs x) : ∃ a n c, cs = [.string x.1, .int .i64 x.2.1, .int .i64 x.2.2.1, .int .i64 x.2.2.2.1, .int .i64 x.2.2.2.2.1, .int .i64 (plW x), .slice a n c] ∧ x.1.size ≤ 140737488355328 ∧ SlAt RInt 1 8 A w a n c (plS x) := by
  obtain ⟨c1, d1, rfl, ⟨rfl, hs⟩, h⟩ := h
  obtain ⟨c2, d2, rfl, h2, h⟩ := h
  obtain rfl : c2 = _ := h2
  obtain ⟨c3, d3, rfl, h3, h⟩ := h
  obtain rfl : c3 = _ := h3
  obtain ⟨c4, d4, rfl, h4, h⟩ := h
  obtain rfl : c4 = _ := h4
  obtain ⟨c5, d5, rfl, h5, h⟩ := h
  obtain rfl : c5 = _ := h5
  obtain ⟨c6, d6, rfl, h6, h⟩ := h
  obtain rfl : c6 = _ := h6
  obtain ⟨a, n, c, rfl, hs7⟩ := h
  exact ⟨a, n, c, rfl, hs, hs7⟩
theorem RPlug.mk {A : Where} {w : World} {x : PlugD} {a : Option Addr} {n c : Nat} (h1 : x.1.size ≤ 140737488355328) (h2 : SlAt RInt 1 8 A w a n c (plS x)) : RPlug A w [.string x.1, .int .i64 x.2.1, .int .i64 x.2.2.1, .int .i64 x.2.2.2.1, .int .i64 x.2.2.2.2.1, .int .i64 (plW x), .slice a n c] x :=
  ⟨[.string x.1], _, rfl, ⟨rfl, h1⟩, [.int .i64 x.2.1], _, rfl, rfl, [.int .i64 x.2.2.1], _, rfl, rfl, [.int .i64 x.2.2.2.1], _, rfl, rfl, [.int .i64 x.2.2.2.2.1], _, rfl, rfl, [.int .i64 (plW x)], _, rfl, rfl, a, n, c, rfl, h2⟩
theorem sizePlug : (Tryd.prog.info? 33).map (·.size) = some 7 := by kernel_rfl
theorem infoPlug : (Tryd.prog.info? 33).map (fun i => (i.zero, i.size, i.bytes)) = some (some (.agg #[.string ⟨#[]⟩, .int .i64 0, .int .i64 0, .int .i64 0, .int .i64 0, .int .i64 0, .slice none 0 0]), 7, 80) := by kernel_rfl
theorem infoStrF : (Tryd.prog.info? 9).map (fun i => (i.zero, i.size, i.bytes)) = some (some (.string ⟨#[]⟩), 1, 16) := by kernel_rfl
/-- What New hands back. -/
def NewO (PF : Where → World → Nat → FrD → Prop) (l : List PlugD) (w : World) (e : Ending) (w' : World) : Prop :=
  Below w.heap.size w w' ∧ ((newB l = true ∧ ∃ p, e = .returned (.tuple #[.pointer (some ⟨p, 0, none⟩), .int .i64 0]) ∧ PF (Fresh w) w' p (newP l)) ∨ (newB l = false ∧ e = .returned (.tuple #[.pointer none, .int .i64 170])))
/-- A frame of the program: where it lies, and what its calls answer. -/
structure FrameOK where
  PF : Where → World → Nat → FrD → Prop
  weak : ∀ {F G : Where} {u : World} {p : Nat} {f : FrD}, PF F u p f → (∀ b, b < u.heap.size → F b → G b) → PF G u p f
  kept : ∀ {F : Where} {u u' : World} {p : Nat} {f : FrD}, PF F u p f → Kept F u u' → PF F u' p f
  new : ∀ (a : Option Addr) (n cap : Nat) (A : Where) (l : List PlugD) (w : World), Hid (SlAt RPlug 7 80 A w a n cap l) → Calls Tryd.prog 9 #[.slice a n cap] w (NewO PF l w)
  run : ∀ {F : Where} {u : World} {p : Nat} {f : FrD}, PF F u p f → (∀ b, u.heap.size ≤ b → F b) → f.2.2.length ≤ 100000 → ∀ pt : Int, Calls Tryd.prog 14 #[.pointer (some ⟨p, 0, none⟩), .int .i64 pt] u fun e w' => e = .returned (.tuple #[.int .i64 (runP f pt).2, .int .i64 (runE pt)]) ∧ PF F w' p (runP f pt).1 ∧ Turns F u w'
  calls : ∀ {F : Where} {u : World} {p : Nat} {f : FrD}, PF F u p f → f.2.2.length ≤ 1000000 → Calls Tryd.prog 16 #[.pointer (some ⟨p, 0, none⟩)] u fun e w' => ∃ v, e = .returned v ∧ Row RTxt 1 (fun _ => False) u w' 9 v f.2.2
  reset : ∀ {F : Where} {u : World} {p : Nat} {f : FrD}, PF F u p f → (∀ b, u.heap.size ≤ b → F b) → Calls Tryd.prog 11 #[.pointer (some ⟨p, 0, none⟩)] u fun e w' => e = .returned (.tuple #[]) ∧ PF F w' p (resetP f) ∧ Turns F u w'
  scores : ∀ {F : Where} {u : World} {p : Nat} {f : FrD}, PF F u p f → Calls Tryd.prog 19 #[.pointer (some ⟨p, 0, none⟩)] u fun e w' => ∃ v, e = .returned v ∧ Row RInt 1 (fun _ => False) u w' 3 v (scoresP f.1)
  more : ∀ {F : Where} {u : World} {p : Nat} {f : FrD}, PF F u p f → f.1.length ≤ 64 ∧ p < u.heap.size ∧ F p
end Go.Proofs.YtoacbobchngooaaDoor
namespace Go.Proofs.YtoacbobchngooaaDoor
open Go.RowKit Go.Maps
set_option linter.unusedSimpArgs false
set_option maxRecDepth 100000

set_option maxHeartbeats 4000000 in
theorem SameTextsU_calls (a : Option Addr) (n cap : Nat) (A : Where) (L : List (ByteArray)) (b : Option Addr) (m capb : Nat) (A' : Where) (M : List (ByteArray)) (w : World) (hA : Hid (SlAt RTxt 1 16 A w a n cap L)) (hB : Hid (SlAt RTxt 1 16 A' w b m capb M)) : Calls Tryd.prog 17 #[.slice a n cap, .slice b m capb] w fun e w' => e = .returned (.bool (decide (L = M))) ∧ ∃ q, w' = w.drewN q := by
  have hn : Hid (L.length = n) := hA.out.1
  have hm : Hid (M.length = m) := hB.out.1
  have hlen := hA.out.len (by decide)
  by_cases hnm : n = m
  case neg =>
    have HF : Hid (decide (L = M) = false) := same_len (by rw [hn.out, hm.out]; exact hnm)
    have hne : ((n : Int) != (m : Int)) = true := by rw [bne_iff_ne]; omega
    go_enter Tryd.func17, Tryd.ntmps17
    go_wp2
    go_ret
    exact ⟨retB HF.out.symm, 0, rfl⟩
  subst hnm
  have hne : ((n : Int) != (n : Int)) = false := by simp
  go_enter Tryd.func17, Tryd.ntmps17
  go_wp2
  go_loopw [5] (fun i wr => ∃ k : Nat, k ≤ n ∧ i = .int .i64 k ∧ Hid (∃ q, wr = w.drewN q) ∧ Hid (∀ j, j < k → L.getD j default = M.getD j default)) (fun i _ => n - (intOf i).toNat)
  case atStart => exact ⟨0, Nat.zero_le _, rfl, ⟨0, rfl⟩, fun j hj => absurd hj (Nat.not_lt_zero _)⟩
  case round =>
    obtain ⟨k, hk, rfl, hwr, hall⟩ := hrel
    have hbel : Below w.heap.size w wr := by obtain ⟨q, rfl⟩ := hwr.out; exact below_drewN (Below.refl _ _) _
    have hback : Hid (∀ q, ∃ q', wr.drewN q = w.drewN q') := by obtain ⟨q0, rfl⟩ := hwr.out; exact fun q => ⟨_, World.drewN_drewN _ _ _⟩
    by_cases hlt : k < n
    · have hltz : (k : Int) < (n : Int) := by omega
      obtain ⟨B, off, rfl, hBl, _, cs, hra, hva⟩ := (hA.out.on RTxt.firm hbel).get hlt
      obtain ⟨B', off', rfl, hBl', _, cs', hrb, hvb⟩ := (hB.out.on RTxt.firm hbel).get hlt
      obtain ⟨rfl, sa⟩ := hra
      obtain ⟨rfl, sb⟩ := hrb
      have d0 := hva 0 _ rfl
      have g0 := hvb 0 _ rfl
      rw [Nat.add_zero] at d0 g0
      rw [Nat.mul_one] at d0 g0
      have HG : Hid (decide (L.getD k default = M.getD k default) = true → ∀ j, j < k + 1 → L.getD j default = M.getD j default) := fun h j hj => by
        rcases Nat.lt_succ_iff_lt_or_eq.1 hj with h' | rfl
        · exact hall.out j h'
        · exact of_decide_eq_true h
      have HF : Hid (decide (L.getD k default = M.getD k default) = false → decide (L = M) = false) := fun h => same_no (of_decide_eq_false h)
      clear hall hva hvb
      have HE : (!((L.getD k default).toList == (M.getD k default).toList)) = !decide (L.getD k default = M.getD k default) := by rw [show ((L.getD k default).toList == (M.getD k default).toList) = decide (L.getD k default = M.getD k default) by rw [Bool.eq_iff_iff, decide_eq_true_iff]; exact sEq_iff _ _]
      generalize L.getD k default = x at d0 sa HE HG HF
      generalize M.getD k default = y at g0 sb HE HG HF
      cases hd : decide (x = y)
      · have HF2 : Hid (decide (L = M) = false) := HF.out hd
        rw [hd] at HE
        clear HG HF hd
        go_wp2_with fail
        go_quiet (fail)
        go_wp2_with fail
        go_ret
        exact ⟨retB HF2.out.symm, hback.out _⟩
      · have HG2 : Hid (∀ j, j < k + 1 → L.getD j default = M.getD j default) := HG.out hd
        rw [hd] at HE
        clear HG HF hd
        go_wp2_with fail
        go_quiet (fail)
        go_wp2_with fail
        go_roundw
        case rel => exact ⟨k + 1, by omega, by go_num, hback.out _, HG2⟩
        case measure => simp [intOf]; omega
    · have HT : Hid (decide (L = M) = true) := same_yes (by rw [hn.out, hm.out]) (fun j hj => hall.out j (by rw [hn.out] at hj; omega))
      clear hall
      go_wp2
      go_ret
      exact ⟨retB HT.out.symm, hwr.out⟩
end Go.Proofs.YtoacbobchngooaaDoor
namespace Go.Proofs.YtoacbobchngooaaDoor
open Go.RowKit Go.Maps
set_option linter.unusedSimpArgs false
set_option maxRecDepth 100000

theorem take_snocF {α : Type} [Inhabited α] {L : List α} {k : Nat} (h : k < L.length) : L.take (k + 1) = L.take k ++ [L.getD k default] := (take_atG h).symm
set_option maxHeartbeats 4000000 in
theorem plugins_calls (a : Option Addr) (n cap : Nat) (A : Where) (l : List PlugD) (w : World) (hL : Hid (SlAt RPlug 7 80 A w a n cap l)) : Calls Tryd.prog 8 #[.slice a n cap] w fun e w' => ∃ v, e = .returned v ∧ Row RPlug 7 (Fresh w) w w' 33 v l := by
  have hn : Hid (l.length = n) := hL.out.1
  have HLn : Hid (n * 80 ≤ 140737488351232) := hL.out.2.2.2.1
  have hml : n < 1000000000000000 := by have := HLn.out; omega
  have HR0 : Hid (Row RPlug 7 (Fresh w) w (w.alloc (.cells #[] 33)) 33 (.slice (some ⟨w.heap.size, 0, none⟩) 0 0) (l.take 0)) := Row.start _ w w _ (Below.refl _ _)
  go_enter Tryd.func8, Tryd.ntmps8
  go_wp2_with fail
  go_loopw [3, 4] (fun v i wr => ∃ k : Nat, k ≤ n ∧ i = .int .i64 k ∧ Hid (Row RPlug 7 (Fresh w) w wr 33 v (l.take k))) (fun _ i _ => n - (intOf i).toNat)
  case atStart => exact ⟨0, Nat.zero_le _, rfl, HR0⟩
  case round =>
    clear HR0
    obtain ⟨k, hk, rfl, hrun⟩ := hrel
    by_cases hlt : k < n
    · have hltz : (k : Int) < (n : Int) := by omega
      have hkl : k < l.length := by rw [hn.out]; exact hlt
      obtain ⟨D, off, rfl, hD, _, cs, hra, hva⟩ := (hL.out.on RPlug.firm hrun.out.below).get hlt
      obtain ⟨x, hx⟩ : ∃ x, x = l.getD k default := ⟨_, rfl⟩
      rw [← hx] at hra
      obtain ⟨sa, sn, sc, rfl, hsz, hss⟩ := hra.out
      have HSn : Hid (l.take (k + 1) = l.take k ++ [x]) := by rw [Hid, take_snocF hkl, ← hx]
      obtain ⟨x1, hx1⟩ : ∃ y, y = x.1 := ⟨_, rfl⟩
      obtain ⟨x2, hx2⟩ : ∃ y, y = x.2.1 := ⟨_, rfl⟩
      obtain ⟨x3, hx3⟩ : ∃ y, y = x.2.2.1 := ⟨_, rfl⟩
      obtain ⟨x4, hx4⟩ : ∃ y, y = x.2.2.2.1 := ⟨_, rfl⟩
      obtain ⟨x5, hx5⟩ : ∃ y, y = x.2.2.2.2.1 := ⟨_, rfl⟩
      obtain ⟨x6, hx6⟩ : ∃ y, y = plW x := ⟨_, rfl⟩
      have HE7 : Hid (∀ (A : Where) (u : World) (ga : Option Addr) (gn gc : Nat), SlAt RInt 1 8 A u ga gn gc (plS x) → RPlug A u [.string x1, .int .i64 x2, .int .i64 x3, .int .i64 x4, .int .i64 x5, .int .i64 x6, .slice ga gn gc] x) := fun A u ga gn gc h => by rw [hx1, hx2, hx3, hx4, hx5, hx6]; exact RPlug.mk hsz h
      rw [← hx1, ← hx2, ← hx3, ← hx4, ← hx5, ← hx6] at hva
      have d0 := hva 0 _ rfl
      have d1 := hva 1 _ rfl
      have d2 := hva 2 _ rfl
      have d3 := hva 3 _ rfl
      have d4 := hva 4 _ rfl
      have d5 := hva 5 _ rfl
      have d6 := hva 6 _ rfl
      rw [Nat.add_zero] at d0
      obtain ⟨W3, hW3⟩ : ∃ Z, Z = wr.alloc (.cells #[.string x1, .int .i64 x2, .int .i64 x3, .int .i64 x4, .int .i64 x5, .int .i64 x6, .slice sa sn sc] 33) := ⟨_, rfl⟩
      have b3 : Below wr.heap.size wr W3 := by rw [hW3]; exact (Below.refl _ _).alloc (Nat.le_refl _) _
      have q3 : BoxL W3 wr.heap.size [.string x1, .int .i64 x2, .int .i64 x3, .int .i64 x4, .int .i64 x5, .int .i64 x6, .slice sa sn sc] := by rw [hW3]; exact BoxL.new wr 33 _
      have HW3 : Hid (wr.alloc (.cells #[.string x1, .int .i64 x2, .int .i64 x3, .int .i64 x4, .int .i64 x5, .int .i64 x6, .slice sa sn sc] 33) = W3) := hW3.symm
      have hI := Ints_copy sa sn sc A (plS x) W3 (hss.on RInt.firm b3)
      have e6 := (q3.2 6 _ rfl).1
      have HQ3 : Hid (BoxL W3 wr.heap.size [.string x1, .int .i64 x2, .int .i64 x3, .int .i64 x4, .int .i64 x5, .int .i64 x6, .slice sa sn sc]) := q3
      have HB3 : Hid (Below wr.heap.size wr W3) := b3
      have HRun : Hid (∀ z, Below wr.heap.size wr z → Row RPlug 7 (Fresh w) w z 33 u3 (l.take k)) := fun z hz => hrun.out.on RPlug.firm hz
      have HOwn : Hid (∀ b, u3.ownBlock = some b → b < wr.heap.size) := fun b hb => (hrun.out.lt hb).2
      have HBw : Hid (Below w.heap.size w wr) := hrun.out.below
      have HLk : Hid ((l.take k).length ≤ k) := by rw [Hid, List.length_take]; exact Nat.min_le_left _ _
      obtain ⟨B, hB⟩ : ∃ B, B = wr.heap.size := ⟨_, rfl⟩
      have HBB : Hid (wr.heap.size = B) := hB.symm
      rw [← hB] at HQ3 e6
      clear hx hva hra hss hx1 hx2 hx3 hx4 hx5 hx6 hW3 b3 q3 hB hrun
      go_upto_region 6 with fail
      --M1
      rw [HW3.out, HBB.out]
      clear d0 d1 d2 d3 d4 d5 d6 HW3
      go_wp2_with fail
      refine hI.mono ?_
      rintro e w5 ⟨ga, gc, rfl, hg, b5⟩
      obtain ⟨W6, hW6⟩ : ∃ Z, Z = w5.setCell ⟨B, 6, none⟩ (.slice ga sn gc) := ⟨_, rfl⟩
      have q5 := HQ3.out.on b5
      have f6 := (q5.2 6 _ rfl).1
      have n6 := (q5.2 6 _ rfl).2
      have q6 : BoxL W6 B [.string x1, .int .i64 x2, .int .i64 x3, .int .i64 x4, .int .i64 x5, .int .i64 x6, .slice ga sn gc] := by rw [hW6]; exact q5.set 6 (.slice ga sn gc) (by simp)
      have b6 : Below wr.heap.size wr W6 := by rw [hW6]; exact (on2 HB3.out b5).setCell (Nat.le_of_eq HBB.out) _
      have hgB : SlAt RInt 1 8 (fun b => W3.heap.size ≤ b) W6 ga sn gc (plS x) := (hg.weak RInt.firm (fun b _ h => h)).kept RInt.firm (by rw [hW6]; exact Kept.set (fun h => by have h1 := HQ3.out.1; have h2 : W3.heap.size ≤ B := h; omega) _)
      obtain ⟨W7, hW7⟩ : ∃ Z, Z = W6.alloc (.cells #[.string x1, .int .i64 x2, .int .i64 x3, .int .i64 x4, .int .i64 x5, .int .i64 x6, .slice ga sn gc] 33) := ⟨_, rfl⟩
      have b7 : Below W6.heap.size W6 W7 := by rw [hW7]; exact (Below.refl _ _).alloc (Nat.le_refl _) _
      have q7 : BoxL W7 W6.heap.size [.string x1, .int .i64 x2, .int .i64 x3, .int .i64 x4, .int .i64 x5, .int .i64 x6, .slice ga sn gc] := by rw [hW7]; exact BoxL.new W6 33 _
      have HR7 : Hid (Row RPlug 7 (Fresh w) w W7 33 u3 (l.take k)) := HRun.out W7 (on2 b6 b7)
      have HSr : Hid (Src RPlug 7 (fun b => Fresh w b ∧ Value.ownBlock u3 ≠ some b) W7 (some ⟨W6.heap.size, 0, none⟩) 1 [x]) := by
        refine src_boxG RPlug.firm q7 (HE7.out _ _ _ _ _ ((hgB.on RInt.firm b7).weak RInt.firm (fun b _ h => ⟨?_, fun e => ?_⟩)))
        · have h1 := HBw.out.size; have h2 := HB3.out.size; have h3 : W3.heap.size ≤ b := h; exact Nat.le_trans h1 (Nat.le_trans h2 h3)
        · have h1 := HOwn.out b e; have h2 := HB3.out.size; have h3 : W3.heap.size ≤ b := h; omega
      have HW6 : Hid (w5.setCell ⟨B, 6, none⟩ (.slice ga sn gc) = W6) := hW6.symm
      have HW7 : Hid (W6.alloc (.cells #[.string x1, .int .i64 x2, .int .i64 x3, .int .i64 x4, .int .i64 x5, .int .i64 x6, .slice ga sn gc] 33) = W7) := hW7.symm
      have HLb : Hid (((l.take k).length + [x].length) * 80 ≤ 140737488355328) := by have h1 := HLk.out; have h2 := HLn.out; rw [Hid, List.length_singleton]; omega
      have c0 := (q6.2 0 _ rfl).1
      have c1 := (q6.2 1 _ rfl).1
      have c2 := (q6.2 2 _ rfl).1
      have c3 := (q6.2 3 _ rfl).1
      have c4 := (q6.2 4 _ rfl).1
      have c5 := (q6.2 5 _ rfl).1
      have c6 := (q6.2 6 _ rfl).1
      clear hI hg b5 q5 q6 b6 hgB b7 q7 hW6 hW7 e6 HQ3 HB3 HRun HOwn HBw HE7
      go_upto_region 7 with fail
      --M2
      rw [HW6.out]
      clear f6 n6 HW6
      go_wp2_with (at_builtin; refine wpl_atG HW7.out.symm ?_; refine row_appendP RPlug.firm (A := Fresh w) (w0 := w) rfl _ _ 22 33 rfl _ 80 infoPlug Tryd.underlying22 rfl (by decide) (by decide) u3 (l.take k) rfl HR7.out (some ⟨W6.heap.size, 0, none⟩) 1 1 [x] rfl HSr.out HLb.out ?_; intro v8 w8 hrow8 hg8 hw8)
      --M3
      have HE : Hid (Row RPlug 7 (Fresh w) w w8 33 v8 (l.take (k + 1))) := by rw [HSn.out]; exact hrow8
      clear hrow8 hg8 hw8 HR7 HSr HW7 HLb HSn
      go_roundw
      case rel => exact ⟨k + 1, by omega, by go_num, HE⟩
      case measure => simp [intOf]; omega
    · have hltz : ¬ (k : Int) < (n : Int) := by omega
      have HE : Hid (Row RPlug 7 (Fresh w) w wr 33 u3 l) := by have h := hrun.out; rw [List.take_of_length_le (by rw [hn.out]; omega)] at h; exact h
      clear hrun
      go_wp2_with fail
      go_ret
      exact ⟨_, rfl, HE.out⟩
end Go.Proofs.YtoacbobchngooaaDoor
namespace Go.Proofs.YtoacbobchngooaaDoor
open Go.RowKit Go.Maps
set_option linter.unusedSimpArgs false
set_option maxRecDepth 100000

theorem names_snoc (C : List ByteArray) (p : ByteArray) {k : Nat} (hk : k < C.length) : namesP (C.take (k + 1)) p = namesP (C.take k) p ++ (if nameB p (C.getD k default) = true then [(C.getD k default).extract 0 ((C.getD k default).size - 2)] else []) := by
  rw [take_snocF hk, names_app]
  congr 1
  unfold namesP
  rw [List.filter_cons]
  split <;> rfl
theorem names_len (C : List ByteArray) (p : ByteArray) : (namesP C p).length ≤ C.length := by unfold namesP; rw [List.length_map]; exact List.length_filter_le _ _
set_option maxHeartbeats 4000000 in
theorem names_calls17 (a : Option Addr) (n cap : Nat) (A : Where) (C : List ByteArray) (p : ByteArray) (hp : p.size ≤ 1000) (w : World) (hL : Hid (SlAt RTxt 1 16 A w a n cap C)) : Calls Tryd.prog 22 #[.slice a n cap, .string p] w fun e w' => ∃ v, e = .returned v ∧ Row RTxt 1 (fun _ => False) w w' 9 v (namesP C p) := by
  have hn : Hid (C.length = n) := hL.out.1
  have HLn : Hid (n * 16 ≤ 140737488351232) := hL.out.2.2.2.1
  have hml : n < 1000000000000000 := by have := HLn.out; omega
  have HR0 : Hid (Row RTxt 1 (fun _ => False) w (w.alloc (.cells #[] 9)) 9 (.slice (some ⟨w.heap.size, 0, none⟩) 0 0) (namesP (C.take 0) p)) := Row.start _ w w _ (Below.refl _ _)
  go_enter Tryd.func22, Tryd.ntmps22
  go_wp2_with fail
  go_loopw [5, 6] (fun v i wr => ∃ k : Nat, k ≤ n ∧ i = .int .i64 k ∧ Hid (Row RTxt 1 (fun _ => False) w wr 9 v (namesP (C.take k) p))) (fun _ i _ => n - (intOf i).toNat)
  case atStart => exact ⟨0, Nat.zero_le _, rfl, HR0⟩
  case round =>
    clear HR0
    obtain ⟨k, hk, rfl, hrun⟩ := hrel
    by_cases hlt : k < n
    · have hltz : (k : Int) < (n : Int) := by omega
      have hkl : k < C.length := by rw [hn.out]; exact hlt
      obtain ⟨D, off, rfl, hD, _, cs, hra, hva⟩ := (hL.out.on RTxt.firm hrun.out.below).get hlt
      obtain ⟨rfl, hsz⟩ : cs = [.string (C.getD k default)] ∧ (C.getD k default).size ≤ 281474976710656 := hra
      have d0 := hva 0 _ rfl
      rw [Nat.add_zero, Nat.mul_one] at d0
      have HSn := names_snoc C p hkl
      obtain ⟨x, hx⟩ : ∃ x, x = C.getD k default := ⟨_, rfl⟩
      rw [← hx] at d0 HSn hsz
      have HSN : Hid (namesP (C.take (k + 1)) p = namesP (C.take k) p ++ (if nameB p x = true then [x.extract 0 (x.size - 2)] else [])) := HSn
      have HNl : Hid ((namesP (C.take k) p).length ≤ k) := Nat.le_trans (names_len _ _) (by rw [List.length_take]; exact Nat.min_le_left _ _)
      have HRn : Hid (∀ z, Below wr.heap.size wr z → Row RTxt 1 (fun _ => False) w z 9 u5 (namesP (C.take k) p)) := fun z hz => hrun.out.on RTxt.firm hz
      obtain ⟨N, hN⟩ : ∃ N, N = namesP (C.take k) p := ⟨_, rfl⟩
      rw [← hN] at HSN HNl HRn
      clear hx hva HSn hrun hN
      by_cases h2 : 2 < x.size
      · have h2z : (2 : Int) < (x.size : Int) := by omega
        have hnB : Hid (nameB p x = sEq (x.extract (x.size - 2) x.size) (colS ++ p)) := by unfold nameB; rw [Hid, show decide (2 < x.size) = true from decide_eq_true h2, Bool.true_and]
        have hsub : (x.size : Int) - 2 = ((x.size - 2 : Nat) : Int) := by omega
        have hs1 : (0 : Int) ≤ ((x.size - 2 : Nat) : Int) ∧ ((x.size - 2 : Nat) : Int) ≤ (x.size : Int) := by omega
        have hs2 : (0 : Int) ≤ ((x.size - 2 : Nat) : Int) := by omega
        have hs3 : ((x.size - 2 : Nat) : Int) ≤ (x.size : Int) := by omega
        obtain ⟨t, ht⟩ : ∃ t, t = sEq (x.extract (x.size - 2) x.size) (colS ++ p) := ⟨_, rfl⟩
        have htt : ((x.extract (x.size - 2) x.size).toList == (({ data := #[58] } : ByteArray) ++ p).toList) = t := ht.symm
        rw [← ht] at hnB
        rw [hnB.out] at HSN
        clear ht hnB
        cases t
        · have HE : Hid (Row RTxt 1 (fun _ => False) w wr 9 u5 (namesP (C.take (k + 1)) p)) := by rw [HSN.out, if_neg (by decide), List.append_nil]; exact HRn.out wr (Below.refl _ _)
          clear HSN HRn HNl
          go_wp2_with fail
          --M2
          go_roundw
          case rel => exact ⟨k + 1, by omega, by go_num, HE⟩
          case measure => simp [intOf]; omega
        · rw [if_pos rfl] at HSN
          obtain ⟨y, hy⟩ : ∃ y, y = x.extract 0 (x.size - 2) := ⟨_, rfl⟩
          have hys : y.size ≤ 281474976710656 := by rw [hy, ByteArray.size_extract]; omega
          have HY : Hid (x.extract 0 (x.size - 2) = y) := hy.symm
          rw [← hy] at HSN
          obtain ⟨W3, hW3⟩ : ∃ Z, Z = wr.alloc (.cells #[.string y] 9) := ⟨_, rfl⟩
          have b3 : Below wr.heap.size wr W3 := by rw [hW3]; exact (Below.refl _ _).alloc (Nat.le_refl _) _
          have q3 : BoxL W3 wr.heap.size [.string y] := by rw [hW3]; exact BoxL.new wr 9 _
          have HW3 : Hid (wr.alloc (.cells #[.string (x.extract 0 (x.size - 2))] 9) = W3) := by rw [Hid, HY.out]; exact hW3.symm
          have HR3 : Hid (Row RTxt 1 (fun _ => False) w W3 9 u5 N) := HRn.out W3 b3
          have HSr : Hid (Src RTxt 1 (fun b => False ∧ Value.ownBlock u5 ≠ some b) W3 (some ⟨wr.heap.size, 0, none⟩) 1 [y]) := src_boxG RTxt.firm q3 ⟨rfl, hys⟩
          have HLb : Hid ((N.length + [y].length) * 16 ≤ 140737488355328) := by have h1 := HNl.out; have h2 := HLn.out; rw [Hid, List.length_singleton]; omega
          clear hy hys hW3 b3 q3 HRn HNl
          go_upto_region 7 with fail
          go_wp2_with (at_builtin; refine wpl_atG HW3.out.symm ?_; refine row_appendP RTxt.firm (A := (fun _ => False)) (w0 := w) rfl _ _ 37 9 rfl _ 16 infoStrF Tryd.underlying37 rfl (by decide) (by decide) u5 N rfl HR3.out (some ⟨wr.heap.size, 0, none⟩) 1 1 [y] rfl HSr.out HLb.out ?_; intro v8 w8 hrow8 hg8 hw8)
          --M3
          have HE : Hid (Row RTxt 1 (fun _ => False) w w8 9 v8 (namesP (C.take (k + 1)) p)) := by rw [HSN.out]; exact hrow8
          clear hrow8 hg8 hw8 HR3 HSr HW3 HLb HSN
          go_roundw
          case rel => exact ⟨k + 1, by omega, by go_num, HE⟩
          case measure => simp [intOf]; omega
      · have h2z : ¬ (2 : Int) < (x.size : Int) := by omega
        have HE : Hid (Row RTxt 1 (fun _ => False) w wr 9 u5 (namesP (C.take (k + 1)) p)) := by
          have h : nameB p x = false := by unfold nameB; rw [show decide (2 < x.size) = false from decide_eq_false h2]; rfl
          rw [HSN.out, h, if_neg (by decide), List.append_nil]; exact HRn.out wr (Below.refl _ _)
        clear HSN HRn HNl
        go_wp2_with fail
        --M5
        go_roundw
        case rel => exact ⟨k + 1, by omega, by go_num, HE⟩
        case measure => simp [intOf]; omega
    · have hltz : ¬ (k : Int) < (n : Int) := by omega
      have HE : Hid (Row RTxt 1 (fun _ => False) w wr 9 u5 (namesP C p)) := by have h := hrun.out; rw [List.take_of_length_le (by rw [hn.out]; omega)] at h; exact h
      clear hrun
      go_wp2_with fail
      go_ret
      exact ⟨_, rfl, HE.out⟩
end Go.Proofs.YtoacbobchngooaaDoor
