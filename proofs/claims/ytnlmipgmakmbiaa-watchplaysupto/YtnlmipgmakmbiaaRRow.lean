/- Rows of structs in memory, whatever the struct: how a slice of them lies, what a row of one's own holds, what an append makes of it. Plain facts on worlds. No condition. -/
import Derived.Test.YtnlmipgmakmbiaaLBase
import Derived.WalkSpells
import Derived.Lib.SmallJoins
namespace Go.Proofs.Ytnlmipgmakmbiaa
open Go.RowKit
set_option linter.unusedSimpArgs false

/-- What comes behind. -/
theorem on2 {w u v : World} (h : Below w.heap.size w u) (k : Below u.heap.size u v) : Below w.heap.size w v := h.trans (k.mono h.size)
theorem getE {α : Type} [Inhabited α] (L : List α) (i : Nat) (h : i < L.length) : L.getD i default = L[i] := by
  rw [List.getD_eq_getElem?_getD, List.getElem?_eq_getElem h]; rfl
theorem add_lit (B off i : Nat) : (⟨B, off, none⟩ : Addr).add i = ⟨B, off + i, none⟩ := by unfold Addr.add; split <;> simp_all

/-- The function's own row: it has come since w0, and nothing of w0 has turned. -/
def Own (w0 u : World) (e : TypeId) (size : Nat) (v : Value) (n : Nat) (xs : List Value) : Prop := Below w0.heap.size w0 u ∧ u.ownsRow w0.heap.size e size v n xs
theorem heap_new (u : World) (o : Obj) (n : Nat) (hn : u.heap.size = n) : (u.alloc o).heap[n]? = some o := by
  subst hn
  exact (MapKept.heap_alloc u o).1
theorem owns_on {w w' : World} {B : Nat} {e : TypeId} {size : Nat} {v : Value} {n : Nat} {xs : List Value} (h : w.ownsRow B e size v n xs) (hb : Below w.heap.size w w') : w'.ownsRow B e size v n xs := by
  obtain ⟨h1, h2 | ⟨g, cap, cur, hv, hB, hg, h3⟩⟩ := h
  · exact ⟨h1, .inl h2⟩
  · refine ⟨h1, .inr ⟨g, cap, cur, hv, hB, ?_, h3⟩⟩
    have hlt : g < w.heap.size := by
      rcases Nat.lt_or_ge g w.heap.size with h4 | h4
      · exact h4
      · rw [Array.getElem?_eq_none h4] at hg; cases hg
    rw [hb.block g hlt]; exact hg
theorem Own.on {w0 u u' : World} {e : TypeId} {size : Nat} {v : Value} {n : Nat} {xs : List Value} (h : Own w0 u e size v n xs) (hb : Below u.heap.size u u') : Own w0 u' e size v n xs :=
  ⟨on2 h.1 hb, owns_on h.2 hb⟩
theorem Own.start (w u : World) (e : TypeId) (size : Nat) (hb : Below w.heap.size w u) : Own w (u.alloc (.cells #[] e)) e size (.slice (some ⟨u.heap.size, 0, none⟩) 0 0) 0 [] :=
  ⟨on2 hb (by go_grown), by simp, .inr ⟨u.heap.size, 0, #[], rfl, hb.size, heap_new u _ _ rfl, Nat.le_refl _, by unfold maxLen; omega, by simp, by simp⟩⟩
theorem Own.row {w0 u u' : World} {e : TypeId} {size : Nat} {v : Value} {n : Nat} {xs : List Value} (h : Own w0 u e size v n xs) (hg : u.grownBy u' v.ownBlock) : Below w0.heap.size w0 u' := by
  refine h.1.grown hg h.1.size (fun k hk => ?_)
  obtain ⟨_, ⟨rfl, _⟩ | ⟨g, cap, cur, rfl, hB, _⟩⟩ := h.2
  · simp [Value.ownBlock] at hk
  · simp [Value.ownBlock] at hk
    omega
/-- What an own row holds. -/
theorem own_cells {w : World} {B : Nat} {e : TypeId} {size : Nat} {v : Value} {n : Nat} {xs : List Value} (h : w.ownsRow B e size v n xs) :
    (v = .slice none 0 0 ∧ n = 0) ∨ ∃ g cap, v = .slice (some ⟨g, 0, none⟩) n cap ∧ n ≤ cap ∧ B ≤ g ∧ g < w.heap.size ∧ ∀ j, j < n * size → w.cell? ⟨g, j, none⟩ = xs[j]? ∧ w.frozen? ⟨g, j, none⟩ = false := by
  obtain ⟨hx, h0 | ⟨g, cap, cur, hv, hb, hg, hcp, _, hsz, htk⟩⟩ := h
  · exact .inl h0
  · refine .inr ⟨g, cap, hv, hcp, hb, ?_, fun j hj => ⟨?_, ?_⟩⟩
    · rcases Nat.lt_or_ge g w.heap.size with h1 | h1
      · exact h1
      · rw [Array.getElem?_eq_none h1] at hg; cases hg
    · have e1 : w.cell? ⟨g, j, none⟩ = cur[j]? := by simp [World.cell?, hg]
      rw [e1, ← htk, List.getElem?_take, if_pos hj, Array.getElem?_toList]
    · simp [World.frozen?, hg]

/-- The cells, one struct behind the other. -/
def flatE {α : Type} (enc : α → List Value) (L : List α) : List Value := L.flatMap enc
theorem flatE_append {α : Type} {enc : α → List Value} (A B : List α) : flatE enc (A ++ B) = flatE enc A ++ flatE enc B := List.flatMap_append
theorem flatE_length {α : Type} {enc : α → List Value} {k : Nat} (hk : ∀ x, (enc x).length = k) : ∀ (L : List α), (flatE enc L).length = L.length * k
  | [] => by simp [flatE]
  | x :: L => by
    have ih := flatE_length hk L
    simp only [flatE, List.flatMap_cons, List.length_append, hk, List.length_cons, Nat.add_mul] at ih ⊢
    omega
theorem flatE_one {α : Type} {enc : α → List Value} (h1 : ∀ x, ∀ u ∈ enc x, u.oneCell' = true) (L : List α) : ∀ u ∈ flatE enc L, u.oneCell' = true := by
  intro u hu
  simp only [flatE, List.mem_flatMap] at hu
  obtain ⟨x, _, h⟩ := hu
  exact h1 x u h
section
variable {α : Type} [Inhabited α]

/-- A slice of structs of k cells: its address, and what it holds. -/
def RowAt (enc : α → List Value) (k : Nat) (ok : α → Prop) (w : World) (a : Option Addr) (L : List α) : Prop :=
  L.length ≤ 140737488355328 ∧ (∀ x ∈ L, ok x) ∧ (L ≠ [] → ∃ B off, a = some ⟨B, off, none⟩ ∧ B < w.heap.size ∧ ∀ i, i < L.length → ∀ j v, (enc (L.getD i default))[j]? = some v → w.cell? ⟨B, off + i * k + j, none⟩ = some v)

variable {enc : α → List Value} {k : Nat} {ok : α → Prop}
theorem RowAt.on {w w' : World} {a : Option Addr} {L : List α} (h : RowAt enc k ok w a L) (hb : Below w.heap.size w w') : RowAt enc k ok w' a L := by
  obtain ⟨h1, h2, h3⟩ := h
  refine ⟨h1, h2, fun hn => ?_⟩
  obtain ⟨B, off, rfl, hB, hc⟩ := h3 hn
  exact ⟨B, off, rfl, Nat.lt_of_lt_of_le hB hb.size, fun i hi j v hv => (hb.cell hB).trans (hc i hi j v hv)⟩
theorem RowAt.nil (w : World) (a : Option Addr) : RowAt enc k ok w a [] := ⟨by simp, by simp, fun h => absurd rfl h⟩
theorem RowAt.get {w : World} {a : Option Addr} {L : List α} (h : RowAt enc k ok w a L) {i : Nat} (hi : i < L.length) : ∃ B off, a = some ⟨B, off, none⟩ ∧ B < w.heap.size ∧ (∀ j v, (enc (L.getD i default))[j]? = some v → w.cell? ⟨B, off + i * k + j, none⟩ = some v) ∧ ok (L.getD i default) := by
  obtain ⟨h1, h2, h3⟩ := h
  obtain ⟨B, off, rfl, hB, hc⟩ := h3 (by intro e; rw [e] at hi; simp at hi)
  refine ⟨B, off, rfl, hB, hc i hi, h2 _ ?_⟩
  rw [getE _ _ hi]
  exact List.getElem_mem hi
theorem RowAt.take {w : World} {a : Option Addr} {L : List α} (h : RowAt enc k ok w a L) (m : Nat) : RowAt enc k ok w a (L.take m) := by
  obtain ⟨h1, h2, h3⟩ := h
  refine ⟨by rw [List.length_take]; omega, fun x hx => h2 x (List.mem_of_mem_take hx), fun hn => ?_⟩
  obtain ⟨B, off, e, hB, hc⟩ := h3 (fun e => hn (by rw [e]; simp))
  refine ⟨B, off, e, hB, fun i hi => ?_⟩
  have hi' : i < L.length := by rw [List.length_take] at hi; omega
  have e2 : (L.take m).getD i default = L.getD i default := by rw [getE _ _ hi, getE _ _ hi']; simp
  rw [e2]
  exact hc i hi'
theorem RowAt.drop {w : World} {ad : Addr} {L : List α} (h : RowAt enc k ok w (some ad) L) (m : Nat) : RowAt enc k ok w (some (ad.add (m * k))) (L.drop m) := by
  obtain ⟨h1, h2, h3⟩ := h
  refine ⟨by simp; omega, fun x hx => h2 x (List.mem_of_mem_drop hx), fun hn => ?_⟩
  obtain ⟨B, off, e, hB, hc⟩ := h3 (fun e => hn (by rw [e]; simp))
  obtain rfl : ad = ⟨B, off, none⟩ := by simpa using e
  refine ⟨B, off + m * k, by rw [add_lit], hB, fun i hi => ?_⟩
  have hi' : m + i < L.length := by simp at hi; omega
  have e2 : (L.drop m).getD i default = L.getD (m + i) default := by rw [getE _ _ hi, getE _ _ hi']; simp
  rw [e2]
  intro j v hv
  have := hc (m + i) hi' j v hv
  rw [Nat.add_mul] at this
  rw [show off + m * k + i * k + j = off + (m * k + i * k) + j by omega]
  exact this
/-- At no length the address does not count. -/
theorem RowAt.any {w : World} {a : Option Addr} (b : Option Addr) {L : List α} (h : RowAt enc k ok w a L) (h0 : L = []) : RowAt enc k ok w b L := by
  subst h0; exact RowAt.nil w b
theorem RowAt.none_nil {w : World} {L : List α} (h : RowAt enc k ok w none L) : L = [] := by
  rcases Classical.em (L = []) with e | e
  · exact e
  · obtain ⟨B, off, h', _⟩ := h.2.2 e; cases h'

theorem flatE_at (hk : ∀ x, (enc x).length = k) : ∀ (L : List α) (i j : Nat), i < L.length → j < k → (flatE enc L)[i * k + j]? = (enc (L.getD i default))[j]?
  | [], i, _, h, _ => by simp at h
  | x :: L, 0, j, _, hj => by
    simp only [flatE, List.flatMap_cons, Nat.zero_mul, Nat.zero_add]
    rw [List.getElem?_append_left (by rw [hk]; exact hj)]
    rfl
  | x :: L, i + 1, j, h, hj => by
    have ih := flatE_at hk L i j (by simpa using h) hj
    simp only [flatE, List.flatMap_cons] at ih ⊢
    rw [List.getElem?_append_right (by rw [hk, Nat.add_mul]; omega), hk, show (i + 1) * k + j - k = i * k + j by rw [Nat.add_mul]; omega, ih]
    simp
/-- A slice that owns the cells of structs holds the structs. -/
theorem row_of_owns (hk : ∀ x, (enc x).length = k) {w : World} {B : Nat} {e : TypeId} {v : Value} {L : List α} (h : w.ownsRow B e k v L.length (flatE enc L)) (hl : L.length ≤ 140737488355328) (hs : ∀ x ∈ L, ok x) :
    ∃ a cap, v = .slice a L.length cap ∧ RowAt enc k ok w a L ∧ (a = none → cap = 0) ∧ L.length ≤ cap := by
  rcases own_cells h with ⟨rfl, h0⟩ | ⟨g, cap, rfl, hcp, hB, hg, hc⟩
  · have : L = [] := List.length_eq_zero_iff.1 h0
    subst this
    exact ⟨none, 0, rfl, RowAt.nil w none, fun _ => rfl, Nat.le_refl _⟩
  · refine ⟨some ⟨g, 0, none⟩, cap, rfl, ⟨hl, hs, fun _ => ⟨g, 0, rfl, hg, fun i hi j u hj => ?_⟩⟩, (fun h => by cases h), hcp⟩
    have hjk : j < k := by
      have := (List.getElem?_eq_some_iff.1 hj).1
      rwa [hk] at this
    have hlt : i * k + j < L.length * k := by
      have : (i + 1) * k ≤ L.length * k := Nat.mul_le_mul_right k hi
      rw [Nat.add_mul] at this
      omega
    rw [Nat.zero_add, (hc (i * k + j) hlt).1, flatE_at hk L i j hi hjk]
    exact hj
theorem flatE_cells (hk : ∀ x, (enc x).length = k) {w : World} {ad : Addr} {L : List α} (h : RowAt enc k ok w (some ad) L) : ∀ j u, (flatE enc L)[j]? = some u → w.cell? (ad.add j) = some u := by
  intro j u hj
  have hl : j < L.length * k := by
    have := (List.getElem?_eq_some_iff.1 hj).1
    rwa [flatE_length hk] at this
  have hk0 : 0 < k := by
    rcases Nat.eq_zero_or_pos k with h | h
    · subst h; simp at hl
    · exact h
  have hi : j / k < L.length := by rw [Nat.div_lt_iff_lt_mul hk0]; exact hl
  have hm : j % k < k := Nat.mod_lt _ hk0
  have ej : j / k * k + j % k = j := by rw [Nat.mul_comm]; exact Nat.div_add_mod j k
  obtain ⟨B, off, e, hB, hc, _⟩ := h.get hi
  obtain rfl : ad = ⟨B, off, none⟩ := by simpa using e
  rw [add_lit]
  have h1 := flatE_at hk L (j / k) (j % k) hi hm
  rw [ej, hj] at h1
  have := hc (j % k) u h1.symm
  rwa [Nat.add_assoc, ej] at this
end

/-- An append to one's own row, in a region whose order is the text's. -/
theorem own_append {ops : Array Oper} {rest : List Oper} {o : Oper} {a : Act} {Q : Exit → Act → World → Prop} {w0 u : World} (hgd : o.guard = none) (s x : Operand) (t e : TypeId)
    (ho : o.op = .call { callee := .builtin .append, args := #[s, x], argTypes := #[t, t] }) (z : Value) (size bytes : Nat) (hinfo : (Try.prog.info? e).map (fun i => (i.zero, i.size, i.bytes)) = some (some z, size, bytes)) (ht : Try.prog.underlying t = some (.slice e)) (hzs : z.cells.size = size) (hsz : 0 < size)
    (v : Value) (n : Nat) (xs : List Value) (hs : a.eval s = v) (hown : Own w0 u e size v n xs)
    (ad : Addr) (m c : Nat) (news : List Value) (hx : a.eval x = .slice (some ad) m c) (hl : news.length = m * size) (hnews : ∀ j y, news[j]? = some y → u.cell? (ad.add j) = some y) (h1 : ∀ y ∈ news, y.oneCell' = true) (h63 : n + m ≤ maxLen) (hb : (n + m) * bytes ≤ 140737488355328)
    (h : ∀ v' u', Own w0 u' e size v' (n + m) (xs ++ news) → (v' = .slice none 0 0 ↔ v = .slice none 0 0 ∧ m = 0) → wpList Try.prog ops Q rest (a.put o.dst v') u') : wpList Try.prog ops Q (o :: rest) a u := by
  obtain ⟨i0, hi, hz0, hz1, hz2⟩ := info_parts hinfo
  refine wpList_append_own u hgd s x t ho w0.heap.size e i0 z size bytes ht hi hz0 hz1 hz2 hzs hsz v n xs hs hown.2 ad m c news hx hl hnews h1 h63 hb hown.1.size ?_
  intro v' u' ho' hg hn
  exact h v' u' ⟨hown.row hg, ho'⟩ hn

/-- An append of structs, wherever they lie, to one's own row, whatever the region. -/
theorem append_rowO {α : Type} [Inhabited α] {enc : α → List Value} {k : Nat} {ok : α → Prop} (hk : ∀ x, (enc x).length = k) (h1 : ∀ x, ∀ u ∈ enc x, u.oneCell' = true) {o : Oper} {a : Act} {K : Act → World → Prop} {Q : Exit → Act → World → Prop} {w0 u : World} (s x : Operand) (t e : TypeId)
    (ho : o.op = .call { callee := .builtin .append, args := #[s, x], argTypes := #[t, t] }) (z : Value) (bytes : Nat) (hinfo : (Try.prog.info? e).map (fun i => (i.zero, i.size, i.bytes)) = some (some z, k, bytes)) (ht : Try.prog.underlying t = some (.slice e)) (hzs : z.cells.size = k) (hk0 : 0 < k) (hby : 1 ≤ bytes)
    (v : Value) (A : List α) (hs : a.eval s = v) (hown : Own w0 u e k v A.length (flatE enc A))
    (c : Option Addr) (n capc : Nat) (N : List α) (hn : N.length = n) (hx : a.eval x = .slice c n capc) (hcap : c = none → capc = 0) (hN : RowAt enc k ok u c N) (hb : (A.length + N.length) * bytes ≤ 140737488355328)
    (h : ∀ v' u', Own w0 u' e k v' (A ++ N).length (flatE enc (A ++ N)) → u.heap.size ≤ u'.heap.size → K (a.put o.dst v') u') : o.wp Try.prog a u K Q := by
  subst hn
  obtain ⟨i0, hi, hz0, hz1, hz2⟩ := info_parts hinfo
  match c with
  | none =>
    obtain rfl := hN.none_nil
    obtain rfl := hcap rfl
    have hr := run_append_owned_none (P := Try.prog) (w := u) w0.heap.size t o.type e i0 k ht hi v A.length (flatE enc A) hown.2
    unfold Oper.wp execOp
    have hx' : a.eval x = .slice none 0 0 := hx
    simp only [ho, resolve, invoke, builtin, Sem.run_bind, Sem.run_pure, Result.andThen_ok, List.map_toArray, List.map_cons, List.map_nil, hs, hx', hr]
    exact h v u (by simpa using hown) (Nat.le_refl _)
  | some ad =>
    have hm : (A.length + N.length) * 1 ≤ (A.length + N.length) * bytes := Nat.mul_le_mul_left _ hby
    refine wp_append_own (w := u) s x t ho w0.heap.size e i0 z k bytes ht hi hz0 hz1 hz2 hzs hk0 v A.length (flatE enc A) hs hown.2 ad N.length capc (flatE enc N) hx (flatE_length hk N) (flatE_cells hk hN) (flatE_one h1 N) (by unfold maxLen; omega) hb hown.1.size ?_
    intro v' u' ho' hg hn
    refine h v' u' ⟨hown.row hg, ?_⟩ hg.size
    rw [List.length_append, flatE_append]
    exact ho'
end Go.Proofs.Ytnlmipgmakmbiaa
