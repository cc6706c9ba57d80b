/- A row of one's own of nested data that is built piece by piece, by appends. Plain facts on worlds. No condition. -/
import Derived.Test.YtnlmipgmakmbiaaDRep
import Derived.Maps.AppendAt
namespace Go.Proofs.Ytnlmipgmakmbiaa
open Go.RowKit
set_option linter.unusedSimpArgs false

/-- The blocks that have come since. -/
def Fresh (w : World) : Where := fun b => w.heap.size ≤ b
theorem Fresh.not {w : World} {D : Nat} (h : D < w.heap.size) : ¬ Fresh w D := fun k => absurd h (Nat.not_lt.2 k)

theorem idx_part (i l k j : Nat) (h : l ≤ i) : i * k + j - l * k = (i - l) * k + j := by
  have : l * k ≤ i * k := Nat.mul_le_mul_right k h
  rw [Nat.sub_mul]
  omega
section
variable {α : Type} [Inhabited α] {R : Rep α} {k : Nat}
/-- A row of one's own: what it holds lies elsewhere, where A says. -/
def Row (R : Rep α) (k : Nat) (A : Where) (w0 u : World) (e : TypeId) (v : Value) (L : List α) : Prop :=
  ∃ xs, Own w0 u e k v L.length xs ∧ Chunks R k (fun b => A b ∧ v.ownBlock ≠ some b) u xs L
theorem Row.below {A : Where} {w0 u : World} {e : TypeId} {v : Value} {L : List α} (h : Row R k A w0 u e v L) : Below w0.heap.size w0 u := by
  obtain ⟨xs, h, _⟩ := h; exact h.1
theorem Row.nil (A : Where) (w : World) (e : TypeId) : Row R k A w w e (.slice none 0 0) [] := ⟨[], ⟨Below.refl _ _, by simp, .inl ⟨rfl, rfl⟩⟩, Chunks.nil _ _⟩
theorem Row.start (A : Where) (w u : World) (e : TypeId) (hb : Below w.heap.size w u) : Row R k A w (u.alloc (.cells #[] e)) e (.slice (some ⟨u.heap.size, 0, none⟩) 0 0) [] :=
  ⟨[], Own.start w u e k hb, Chunks.nil _ _⟩
theorem Row.on (hR : Firm R k) {A : Where} {w0 u u' : World} {e : TypeId} {v : Value} {L : List α} (h : Row R k A w0 u e v L) (hb : Below u.heap.size u u') : Row R k A w0 u' e v L := by
  obtain ⟨xs, h1, h2⟩ := h
  exact ⟨xs, h1.on hb, h2.kept hR (Kept.below hb)⟩
/-- From an elder world on. -/
theorem Row.from {A A' : Where} (hR : Firm R k) {w0 w1 u : World} {e : TypeId} {v : Value} {L : List α} (h : Row R k A w1 u e v L) (hb : Below w0.heap.size w0 w1) (hA : ∀ b, A b → A' b) : Row R k A' w0 u e v L := by
  obtain ⟨xs, h1, h2⟩ := h
  exact ⟨xs, ⟨on2 hb h1.1, Go.Joins.ownsRow_le h1.2 hb.size⟩, h2.weak hR (fun b _ h => ⟨hA b h.1, h.2⟩)⟩
/-- What it is in the end. -/
theorem Row.sl (hR : Firm R k) {bytes : Nat} {A : Where} {w0 u : World} {e : TypeId} {v : Value} {L : List α} (h : Row R k A w0 u e v L) (hb : L.length * bytes ≤ 140737488351232) :
    ∃ a cap, v = .slice a L.length cap ∧ SlAt R k bytes (fun b => A b ∨ Fresh w0 b) u a L.length cap L := by
  obtain ⟨xs, h1, h2⟩ := h
  obtain ⟨a, cap, e1, h3⟩ := sl_of_owns (bytes := bytes) hR h1.2 h2 hb
  refine ⟨a, cap, e1, h3.weak hR (fun b _ hb => ?_)⟩
  rcases hb with hb | hb
  · exact .inl hb.1
  · exact .inr (h1.2.lt b hb).1
/-- The same, where all of it has come since. -/
theorem Row.slF (hR : Firm R k) {bytes : Nat} {w0 u : World} {e : TypeId} {v : Value} {L : List α} (h : Row R k (Fresh w0) w0 u e v L) (hb : L.length * bytes ≤ 140737488351232) :
    ∃ a cap, v = .slice a L.length cap ∧ SlAt R k bytes (Fresh w0) u a L.length cap L := by
  obtain ⟨a, cap, e1, h3⟩ := h.sl hR hb
  exact ⟨a, cap, e1, h3.weak hR (fun b _ hb => by rcases hb with hb | hb <;> exact hb)⟩

/-- An append to one's own row, whatever the region. -/
theorem row_append_wp (hR : Firm R k) {o : Oper} {a : Act} {K : Act → World → Prop} {Q : Exit → Act → World → Prop} {A : Where} {w0 u : World} (s x : Operand) (t e : TypeId)
    (ho : o.op = .call { callee := .builtin .append, args := #[s, x], argTypes := #[t, t] }) (z : Value) (bytes : Nat) (hinfo : (Try.prog.info? e).map (fun i => (i.zero, i.size, i.bytes)) = some (some z, k, bytes)) (ht : Try.prog.underlying t = some (.slice e)) (hzs : z.cells.size = k) (hk0 : 0 < k) (hby : 1 ≤ bytes)
    (v : Value) (L : List α) (hs : a.eval s = v) (hrow : Row R k A w0 u e v L)
    (ad : Addr) (m c : Nat) (news : List Value) (N : List α) (hm : N.length = m) (hx : a.eval x = .slice (some ad) m c) (hN : Chunks R k (fun b => A b ∧ v.ownBlock ≠ some b) u news N) (hcells : ∀ j y, news[j]? = some y → u.cell? (ad.add j) = some y) (h1 : ∀ y ∈ news, y.oneCell' = true) (hb : (L.length + N.length) * bytes ≤ 140737488355328)
    (h : ∀ v' u', Row R k A w0 u' e v' (L ++ N) → u.grownBy u' v.ownBlock → K (a.put o.dst v') u') : o.wp Try.prog a u K Q := by
  subst hm
  obtain ⟨i0, hi, hz0, hz1, hz2⟩ := info_parts hinfo
  obtain ⟨xs, hown, hch⟩ := hrow
  have hmul : (L.length + N.length) * 1 ≤ (L.length + N.length) * bytes := Nat.mul_le_mul_left _ hby
  obtain ⟨v', u', hr, h2, h3, h4, h5⟩ := run_append_own_at (P := Try.prog) u w0.heap.size t o.type e i0 z k bytes ht hi hz0 hz1 hz2 hzs hk0 v L.length xs hown.2 ad N.length c news hN.1 hcells h1 (by unfold maxLen; omega) hb hown.1.size
  unfold Oper.wp execOp
  simp only [ho, resolve, invoke, builtin, Sem.run_bind, Sem.run_pure, Result.andThen_ok, List.map_toArray, List.map_cons, List.map_nil, hs, hx, hr]
  refine (h v' u' ⟨xs ++ news, ⟨hown.row h3, by rw [List.length_append]; exact h2⟩, ?_⟩ h3)
  have put : ∀ {ys : List Value} {M : List α}, Chunks R k (fun b => A b ∧ v.ownBlock ≠ some b) u ys M → Chunks R k (fun b => A b ∧ v'.ownBlock ≠ some b) u' ys M := fun {ys M} hc => by
    have c1 := hc.weak hR (A' := fun b => (A b ∧ v.ownBlock ≠ some b) ∧ b < u.heap.size) (fun b hb h => ⟨h, hb⟩)
    have c2 := c1.kept hR (Kept.grown h3 (fun b e => fun h => h.1.2 e))
    refine c2.weak hR (fun b _ h => ⟨h.1.1, fun e => ?_⟩)
    rcases h5 with h5 | h5
    · rw [h5] at e; exact h.1.2 e
    · rw [h5] at e
      have : u.heap.size = b := by simpa using e
      exact absurd h.2 (by omega)
  obtain ⟨l1, c1⟩ := put hch
  obtain ⟨l2, c2⟩ := put hN
  refine ⟨by rw [List.length_append, List.length_append, l1, l2, Nat.add_mul], fun i hi => ?_⟩
  rcases Nat.lt_or_ge i L.length with h' | h'
  · obtain ⟨cs, q1, q2⟩ := c1 i h'
    have e : (L ++ N).getD i default = L.getD i default := by rw [getE _ _ hi, getE _ _ h', List.getElem_append_left h']
    refine ⟨cs, by rw [e]; exact q1, fun j hj => ?_⟩
    rw [List.getElem?_append_left (by have : (i + 1) * k ≤ L.length * k := Nat.mul_le_mul_right k h'; rw [Nat.add_mul] at this; omega)]
    exact q2 j hj
  · have h'' : i - L.length < N.length := by simp at hi; omega
    obtain ⟨cs, q1, q2⟩ := c2 (i - L.length) h''
    have e : (L ++ N).getD i default = N.getD (i - L.length) default := by rw [getE _ _ hi, getE _ _ h'', List.getElem_append_right h']
    refine ⟨cs, by rw [e]; exact q1, fun j hj => ?_⟩
    have hle : L.length * k ≤ i * k := Nat.mul_le_mul_right k h'
    rw [List.getElem?_append_right (by omega), l1, idx_part i L.length k j h', ← q2 j hj]
/-- An append to one's own row. -/
theorem row_append (hR : Firm R k) {ops : Array Oper} {rest : List Oper} {o : Oper} {a : Act} {Q : Exit → Act → World → Prop} {A : Where} {w0 u : World} (hgd : Region.wanted o (yielded ops a.tmps) = true) (s x : Operand) (t e : TypeId)
    (ho : o.op = .call { callee := .builtin .append, args := #[s, x], argTypes := #[t, t] }) (z : Value) (bytes : Nat) (hinfo : (Try.prog.info? e).map (fun i => (i.zero, i.size, i.bytes)) = some (some z, k, bytes)) (ht : Try.prog.underlying t = some (.slice e)) (hzs : z.cells.size = k) (hk0 : 0 < k) (hby : 1 ≤ bytes)
    (v : Value) (L : List α) (hs : a.eval s = v) (hrow : Row R k A w0 u e v L)
    (ad : Addr) (m c : Nat) (news : List Value) (N : List α) (hm : N.length = m) (hx : a.eval x = .slice (some ad) m c) (hN : Chunks R k (fun b => A b ∧ v.ownBlock ≠ some b) u news N) (hcells : ∀ j y, news[j]? = some y → u.cell? (ad.add j) = some y) (h1 : ∀ y ∈ news, y.oneCell' = true) (hb : (L.length + N.length) * bytes ≤ 140737488355328)
    (h : ∀ v' u', Row R k A w0 u' e v' (L ++ N) → u.grownBy u' v.ownBlock → wpList Try.prog ops Q rest (a.put o.dst v') u') : wpList Try.prog ops Q (o :: rest) a u :=
  BigFrame.wpList_want hgd (fun _ hK => row_append_wp hR s x t e ho z bytes hinfo ht hzs hk0 hby v L hs hrow ad m c news N hm hx hN hcells h1 hb (fun v' u' h2 h3 => hK _ _ (h v' u' h2 h3)))
/-- One thing more: its cells lie in a block of their own. -/
theorem chunk_one (hR : Firm R k) {A : Where} {u : World} {cs : List Value} {x : α} (h : R A u cs x) : Chunks R k A u cs [x] := by
  simpa using (Chunks.nil (R := R) (k := k) A u).snoc hR h
theorem one_cells (u : World) (cs : List Value) (t : TypeId) : ∀ j y, cs[j]? = some y → (u.alloc (.cells cs.toArray t)).cell? ((⟨u.heap.size, 0, none⟩ : Addr).add j) = some y := by
  intro j y hj
  rw [add_lit]
  have : (u.alloc (.cells cs.toArray t)).heap[u.heap.size]? = some (.cells cs.toArray t) := heap_new u _ _ rfl
  generalize u.alloc (.cells cs.toArray t) = u' at this ⊢
  simp [World.cell?, this, hj]
end
/-- Block D holds these cells, and may be written. -/
def BoxL (u : World) (D : Nat) (cs : List Value) : Prop := D < u.heap.size ∧ ∀ j v, cs[j]? = some v → u.cell? ⟨D, j, none⟩ = some v ∧ u.frozen? ⟨D, j, none⟩ = false
theorem BoxL.on {u u' : World} {D : Nat} {cs : List Value} (h : BoxL u D cs) (hb : Below u.heap.size u u') : BoxL u' D cs :=
  ⟨Nat.lt_of_lt_of_le h.1 hb.size, fun j v hj => ⟨(hb.cell h.1).trans (h.2 j v hj).1, (hb.frozen h.1).trans (h.2 j v hj).2⟩⟩
theorem BoxL.kept {A : Where} {u u' : World} {D : Nat} {cs : List Value} (h : BoxL u D cs) (hk : Kept A u u') (hA : A D) : BoxL u' D cs :=
  ⟨Nat.lt_of_lt_of_le h.1 hk.1, fun j v hj => ⟨(hk.cell hA h.1).trans (h.2 j v hj).1, (World.frozen?_of_block (w := u) (hk.2 D hA h.1)).trans (h.2 j v hj).2⟩⟩
theorem BoxL.new (u : World) (t : TypeId) (cs : List Value) : BoxL (u.alloc (.cells cs.toArray t)) u.heap.size cs := by
  refine ⟨by simp, fun j v hj => ?_⟩
  have : (u.alloc (.cells cs.toArray t)).heap[u.heap.size]? = some (.cells cs.toArray t) := heap_new u _ _ rfl
  generalize u.alloc (.cells cs.toArray t) = u' at this ⊢
  simp [World.cell?, World.frozen?, this, hj]
theorem BoxL.set {u : World} {D : Nat} {cs : List Value} (h : BoxL u D cs) (i : Nat) (v : Value) (hi : i < cs.length) : BoxL (u.setCell ⟨D, i, none⟩ v) D (cs.set i v) := by
  refine ⟨by simpa using h.1, fun j y hj => ?_⟩
  rw [List.getElem?_set] at hj
  by_cases e : i = j
  · subst e
    simp [hi] at hj
    subst hj
    have h0 := h.2 i cs[i] (List.getElem?_eq_getElem hi)
    exact ⟨World.cell?_setCell_same (h := h0.1) .., by simpa using h0.2⟩
  · simp only [e, if_false] at hj
    have h0 := h.2 j y hj
    have hne : (⟨D, i, none⟩ : Addr) ≠ ⟨D, j, none⟩ := by simp [e]
    exact ⟨(World.cell?_setCell_other (h := hne) ..).trans h0.1, by simpa using h0.2⟩
theorem BoxL.other {u : World} {D : Nat} {cs : List Value} (h : BoxL u D cs) {p : Addr} (hp : p.block ≠ D) (v : Value) : BoxL (u.setCell p v) D cs :=
  h.kept (A := fun b => b ≠ p.block) (Kept.set (fun h => h rfl) v) (fun e => hp e.symm)
end Go.Proofs.Ytnlmipgmakmbiaa
