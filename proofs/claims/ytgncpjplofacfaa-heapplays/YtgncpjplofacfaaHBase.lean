/- How a heap with keys lies in memory: the struct, its row of entries, the map of places; which blocks a call may turn. Plain facts on worlds. No condition. -/
import Derived.Test.YtgncpjplofacfaaDRow
import Derived.Maps.OwnSet
namespace Go.Proofs.Ytgncpjplofacfaa
open Go.RowKit Go.Maps
set_option linter.unusedSimpArgs false

/-- An entry: its key, its rank, its number. -/
abbrev It := ByteArray × Int × Int
def encI (x : It) : List Value := [.string x.1, .int .i64 x.2.1, .int .i64 x.2.2]
theorem encI_len (x : It) : (encI x).length = 3 := rfl
theorem encI_one (x : It) : ∀ u ∈ encI x, u.oneCell' = true := by
  intro u hu
  simp only [encI, List.mem_cons, List.not_mem_nil, or_false] at hu
  rcases hu with rfl | rfl | rfl <;> rfl
def okI (x : It) : Prop := x.1.size ≤ 140737488355328
/-- The value of an entry. -/
abbrev vI (x : It) : Value := .agg #[.string x.1, .int .i64 x.2.1, .int .i64 x.2.2]
def kl (x : It) : Lit := .string x.1.data.toList
theorem kl_key (x : It) (h : okI x) : keyOf Try.prog 9 (.string x.1) = some (kl x) := WideMaps.keyOf_string_mk Try.underlying9 (Nat.le_trans h (by unfold maxLen; omega))
theorem kl_is (x : It) : WideAt.IsKeyLit (kl x) := by unfold kl; trivial
theorem law9 : Keyed Try.prog 9 := string_keyed Try.underlying9

/-- Which of two comes ahead. -/
def ahead (a b : It) : Bool := if a.2.1 ≠ b.2.1 then decide (b.2.1 < a.2.1) else if a.2.2 ≠ b.2.2 then decide (a.2.2 < b.2.2) else Op.bytesLess a.1.toList b.1.toList

/-- What a call turns: blocks that are meant, and none is gone. -/
structure Turns (F : Where) (w w' : World) : Prop where
  os : w'.os = w.os
  tape : w'.tape = w.tape
  output : w'.output = w.output
  size : w.heap.size ≤ w'.heap.size
  block : ∀ b, b < w.heap.size → ¬ F b → w'.heap[b]? = w.heap[b]?
theorem Turns.refl (F : Where) (w : World) : Turns F w w := ⟨rfl, rfl, rfl, Nat.le_refl _, fun _ _ _ => rfl⟩
theorem Turns.trans {F : Where} {u v w : World} (h : Turns F u v) (k : Turns F v w) : Turns F u w :=
  ⟨k.os.trans h.os, k.tape.trans h.tape, k.output.trans h.output, Nat.le_trans h.size k.size, fun b hb hf => (k.block b (Nat.lt_of_lt_of_le hb h.size) hf).trans (h.block b hb hf)⟩
theorem Turns.below {F : Where} {w w' : World} (h : Below w.heap.size w w') : Turns F w w' := ⟨h.os, h.tape, h.output, h.size, fun b hb _ => h.block b hb⟩
theorem Turns.alloc (F : Where) (w : World) (o : Obj) : Turns F w (w.alloc o) := Turns.below ((Below.refl _ w).alloc (Nat.le_refl _) o)
theorem Turns.drew (F : Where) (w : World) : Turns F w w.drew := Turns.below (Below.refl _ w).drew
theorem Turns.grown {F : Where} {w w' : World} {row : Option Nat} (hg : w.grownBy w' row) (h : ∀ b, row = some b → F b) : Turns F w w' :=
  ⟨hg.os, hg.tape, hg.output, hg.size, fun b hb hf => hg.block b hb (fun e => hf (h b e.symm))⟩
theorem Turns.set {F : Where} {w : World} {p : Addr} (h : F p.block) (v : Value) : Turns F w (w.setCell p v) := by
  have := (Below.refl 0 w).setCell (p := p) (Nat.zero_le _) v
  exact ⟨this.os, this.tape, this.output, this.size, fun b _ hf => Below.heap_setCell w p v b (fun e => hf (e ▸ h))⟩
theorem Turns.map {F : Where} {w w' : World} {b : Nat} (h : w.mapTurned w' b) (hb : F b) : Turns F w w' := Turns.grown h.grown (fun k e => by cases e; exact hb)
theorem Turns.behind {w0 w w' : World} (h : Below w0.heap.size w0 w) (k : Turns (Fresh w0) w w') : Below w0.heap.size w0 w' :=
  ⟨k.os.trans h.os, k.tape.trans h.tape, k.output.trans h.output, Nat.le_trans h.size k.size, fun b hb => (k.block b (Nat.lt_of_lt_of_le hb h.size) (Fresh.not hb)).trans (h.block b hb)⟩
theorem Turns.weak {F G : Where} {w w' : World} (h : Turns F w w') (k : ∀ b, b < w.heap.size → F b → G b) : Turns G w w' :=
  ⟨h.os, h.tape, h.output, h.size, fun b hb hg => h.block b hb (fun hf => hg (k b hb hf))⟩

/-- The map tells each key's place, and no other key. -/
def Tells (D : DataW Unit) (L : List It) : Prop :=
  Maps.size D = L.length ∧ (∀ i (h : i < L.length), Maps.has D (kl L[i]) = true ∧ ∀ z, D.atKey (kl L[i]) z = .lit (.int .i64 (i : Int))) ∧
    ∀ k, Maps.has D k = true → ∃ (i : Nat) (h : i < L.length), kl L[i] = k

/-- A heap with keys: the struct in block kb, its slice v, its map in block mb. -/
structure KAt (F : Where) (w : World) (kb : Nat) (v : Value) (mb n : Nat) (D : DataW Unit) (L : List It) : Prop where
  fk : F kb
  fm : F mb
  fr : ∀ b, v.ownBlock = some b → F b
  own : w.heap[kb]? = some (.cells #[v, .func (.func 36) #[] #[], .map (some mb)] 61 (0, 0))
  row : w.ownsRow 0 27 3 v L.length (flatE encI L)
  map : w.ownsMap Try.prog 9 (plainElem Try.prog 3) mb n D
  ok : ∀ x ∈ L, okI x

section
variable {F : Where} {w : World} {kb : Nat} {v : Value} {mb n : Nat} {D : DataW Unit} {L : List It}
theorem block_lt {w : World} {b : Nat} {o : Obj} (h : w.heap[b]? = some o) : b < w.heap.size := by
  rcases Nat.lt_or_ge b w.heap.size with h1 | h1
  · exact h1
  · rw [Array.getElem?_eq_none h1] at h; cases h
theorem KAt.lt (h : KAt F w kb v mb n D L) : kb < w.heap.size := block_lt h.own
theorem KAt.c0 (h : KAt F w kb v mb n D L) : w.cell? ⟨kb, 0, none⟩ = some v := by simp [World.cell?, h.own]
theorem KAt.c1 (h : KAt F w kb v mb n D L) : w.cell? ⟨kb, 1, none⟩ = some (.func (.func 36) #[] #[]) := by simp [World.cell?, h.own]
theorem KAt.c2 (h : KAt F w kb v mb n D L) : w.cell? ⟨kb, 2, none⟩ = some (.map (some mb)) := by simp [World.cell?, h.own]
theorem KAt.f0 (h : KAt F w kb v mb n D L) : w.frozen? ⟨kb, 0, none⟩ = false := by simp [World.frozen?, h.own]
theorem KAt.apart (h : KAt F w kb v mb n D L) : mb ≠ kb := by
  obtain ⟨es, c, h1, _⟩ := h.map
  intro e
  rw [e, h.own] at h1
  cases h1
/-- The slice, where there is an entry. -/
theorem KAt.sl (h : KAt F w kb v mb n D L) (hn : 0 < L.length) : ∃ g cap, v = .slice (some ⟨g, 0, none⟩) L.length cap ∧ L.length ≤ cap ∧ g < w.heap.size ∧ g ≠ kb ∧ g ≠ mb ∧ F g ∧
    ∀ i (hi : i < L.length), (w.cell? ⟨g, i * 3, none⟩ = some (.string L[i].1) ∧ w.cell? ⟨g, i * 3 + 1, none⟩ = some (.int .i64 L[i].2.1) ∧ w.cell? ⟨g, i * 3 + 2, none⟩ = some (.int .i64 L[i].2.2)) ∧
      w.frozen? ⟨g, i * 3, none⟩ = false ∧ w.frozen? ⟨g, i * 3 + 1, none⟩ = false ∧ w.frozen? ⟨g, i * 3 + 2, none⟩ = false := by
  have hrow := h.row
  obtain ⟨_, h0 | ⟨g, cap, cur, hv, _, hg, hcp, _, _, _⟩⟩ := hrow
  · omega
  · refine ⟨g, cap, hv, hcp, block_lt hg, ?_, ?_, h.fr g (by rw [hv]; rfl), fun i hi => ?_⟩
    · intro e; rw [e, h.own] at hg; simp at hg
    · intro e
      obtain ⟨es, c, h1, _⟩ := h.map
      rw [e, h1] at hg; cases hg
    · rcases own_cells h.row with ⟨_, h0⟩ | ⟨g', cap', hv', _, _, _, hc⟩
      · omega
      · rw [hv] at hv'
        obtain ⟨rfl, rfl⟩ : g = g' ∧ cap = cap' := by simpa using hv'
        have e0 := hc (i * 3) (by omega)
        have e1 := hc (i * 3 + 1) (by omega)
        have e2 := hc (i * 3 + 2) (by omega)
        have q0 := flatE_at encI_len L i 0 hi (by omega)
        have q1 := flatE_at encI_len L i 1 hi (by omega)
        have q2 := flatE_at encI_len L i 2 hi (by omega)
        rw [getE _ _ hi] at q0 q1 q2
        rw [Nat.add_zero] at q0
        exact ⟨⟨e0.1.trans q0, e1.1.trans q1, e2.1.trans q2⟩, e0.2, e1.2, e2.2⟩
theorem KAt.len (h : KAt F w kb v mb n D L) : ∃ a cap, v = .slice a L.length cap ∧ (a = none → cap = 0 ∧ L.length = 0) := by
  obtain ⟨_, ⟨rfl, h0⟩ | ⟨g, cap, cur, hv, _⟩⟩ := h.row
  · exact ⟨none, 0, by rw [h0], fun _ => ⟨rfl, h0⟩⟩
  · exact ⟨_, cap, hv, fun e => by cases e⟩
theorem KAt.weak {G : Where} (h : KAt F w kb v mb n D L) (k : ∀ b, b < w.heap.size → F b → G b) : KAt G w kb v mb n D L := by
  refine ⟨k _ h.lt h.fk, k _ h.map.lt h.fm, fun b hb => ?_, h.own, h.row, h.map, h.ok⟩
  have := h.row
  obtain ⟨_, ⟨rfl, _⟩ | ⟨g, cap, cur, rfl, _, hg, _⟩⟩ := this
  · simp [Value.ownBlock] at hb
  · simp [Value.ownBlock] at hb
    subst hb
    exact k _ (block_lt hg) (h.fr _ rfl)
/-- What stands untouched stays. -/
theorem KAt.on {w' : World} (h : KAt F w kb v mb n D L) (hb : ∀ b, b < w.heap.size → F b → w'.heap[b]? = w.heap[b]?) : KAt F w' kb v mb n D L := by
  refine ⟨h.fk, h.fm, h.fr, ?_, ?_, ?_, h.ok⟩
  · rw [hb kb h.lt h.fk]; exact h.own
  · obtain ⟨h1, h2 | ⟨g, cap, cur, hv, hB, hg, h3⟩⟩ := h.row
    · exact ⟨h1, .inl h2⟩
    · exact ⟨h1, .inr ⟨g, cap, cur, hv, hB, by rw [hb g (block_lt hg) (h.fr g (by rw [hv]; rfl))]; exact hg, h3⟩⟩
  · obtain ⟨es, c, h1, h2⟩ := h.map
    exact ⟨es, c, by rw [hb mb h.map.lt h.fm]; exact h1, h2⟩
theorem KAt.grow {w' : World} (h : KAt F w kb v mb n D L) (hb : Below w.heap.size w w') : KAt F w' kb v mb n D L := h.on (fun b hb' _ => hb.block b hb')
theorem KAt.drew (h : KAt F w kb v mb n D L) : KAt F w.drew kb v mb n D L := h.on (fun _ _ _ => rfl)

/-- A row behind a store of cells into it. -/
theorem row_setCells (g : Nat) (T : TypeId) : ∀ (vs : List Value) (o : Nat) (w : World) (cur : Array Value), w.heap[g]? = some (.cells cur T (0, 0)) → o + vs.length ≤ cur.size →
    ∃ cur' : Array Value, (w.setCells g o vs).heap[g]? = some (.cells cur' T (0, 0)) ∧ cur'.size = cur.size ∧ cur'.toList = cur.toList.take o ++ vs ++ cur.toList.drop (o + vs.length)
  | [], o, w, cur, hg, _ => ⟨cur, hg, rfl, by simp⟩
  | v :: r, o, w, cur, hg, hl => by
    simp only [List.length_cons] at hl
    have hg1 := heap_setCell_same w g o cur T v hg
    obtain ⟨cur', h1, h2, h3⟩ := row_setCells g T r (o + 1) _ _ hg1 (by simp; omega)
    refine ⟨cur', h1, by simpa using h2, ?_⟩
    rw [h3]
    have ho : o < cur.toList.length := by simp; omega
    simp only [Array.toList_setIfInBounds, List.length_cons]
    rw [List.take_add_one, List.getElem?_set]
    simp only [ho, if_true]
    rw [List.take_set_of_le (Nat.le_refl _), List.drop_set_of_lt (by omega)]
    simp [Nat.add_assoc, Nat.add_comm 1]
theorem grown_setCells {w : World} {g : Nat} : ∀ (vs : List Value) (o : Nat), w.grownBy (w.setCells g o vs) (some g) := fun vs o =>
  have h : ∀ (vs : List Value) (o : Nat) (u : World), w.grownBy u (some g) → w.grownBy (u.setCells g o vs) (some g) := fun vs => by
    induction vs with
    | nil => intro o u hu; exact hu
    | cons v r ih =>
      intro o u hu
      rw [World.setCells]
      refine ih _ _ ⟨hu.os, hu.tape, hu.output, by simpa using hu.size, fun k hk hne => ?_⟩
      rw [heap_setCell_other u ⟨g, o, none⟩ k v (fun e => hne (by simp [e]))]
      exact hu.block k hk hne
  h vs o w ⟨rfl, rfl, rfl, Nat.le_refl _, fun _ _ _ => rfl⟩
theorem flatE_take (L : List It) (i : Nat) (hi : i ≤ L.length) : (flatE encI L).take (i * 3) = flatE encI (L.take i) ∧ (flatE encI L).drop (i * 3) = flatE encI (L.drop i) := by
  have h : flatE encI L = flatE encI (L.take i) ++ flatE encI (L.drop i) := by rw [← flatE_append, List.take_append_drop]
  have hl : (flatE encI (L.take i)).length = i * 3 := by rw [flatE_length encI_len, List.length_take]; congr 1; omega
  rw [h]
  exact ⟨by rw [← hl, List.take_left], by rw [← hl, List.drop_left]⟩
theorem flatE_set (L : List It) (i : Nat) (x : It) (hi : i < L.length) : flatE encI (L.set i x) = (flatE encI L).take (i * 3) ++ encI x ++ (flatE encI L).drop (i * 3 + 3) := by
  have h2 := (flatE_take L (i + 1) (by omega)).2
  rw [Nat.add_mul, Nat.one_mul] at h2
  rw [(flatE_take L i (by omega)).1, h2, List.set_eq_take_append_cons_drop, if_pos hi, flatE_append]
  simp [flatE, List.flatMap_cons]

/-- An entry is laid at place i of the row. -/
def putI (w : World) (g i : Nat) (x : It) : World := w.setCells g (i * 3) (encI x)
theorem KAt.items (h : KAt F w kb v mb n D L) {g : Nat} (hv : v.ownBlock = some g) {i : Nat} (hi : i < L.length) {x : It} (hx : okI x) : KAt F (putI w g i x) kb v mb n D (L.set i x) ∧ Turns F w (putI w g i x) := by
  have hgr : w.grownBy (putI w g i x) (some g) := grown_setCells _ _
  obtain ⟨hl, ⟨rfl, h0⟩ | ⟨g', cap, cur, rfl, hB, hg, hcp, hmx, hsz, htk⟩⟩ := h.row
  · simp [Value.ownBlock] at hv
  · obtain rfl : g' = g := by simpa [Value.ownBlock] using hv
    have hk : g' ≠ kb := by intro e; rw [e, h.own] at hg; simp at hg
    have hm : g' ≠ mb := by
      intro e
      obtain ⟨es, c, h1, _⟩ := h.map
      rw [e, h1] at hg; cases hg
    refine ⟨⟨h.fk, h.fm, h.fr, ?_, ?_, ?_, ?_⟩, Turns.grown hgr (fun b e => by cases e; exact h.fr _ rfl)⟩
    · rw [hgr.block kb h.lt (fun e => hk (by simpa using e.symm))]; exact h.own
    · have hbd : i * 3 + (encI x).length ≤ cur.size := by rw [hsz, encI_len]; omega
      obtain ⟨cur', k1, k2, k3⟩ := row_setCells g' _ (encI x) (i * 3) w cur hg hbd
      refine ⟨by rw [flatE_length encI_len], .inr ⟨g', cap, cur', by rw [List.length_set], hB, k1, by rw [List.length_set]; exact hcp, hmx, by rw [k2, hsz], ?_⟩⟩
      have hcl : cur.toList.length = cap * 3 := by simp [hsz]
      rw [k3, flatE_set L i x hi, ← htk, List.length_set, encI_len, List.take_take, Nat.min_eq_left (by omega), List.drop_take, List.append_assoc, List.append_assoc, List.take_append, List.take_append]
      have e1 : (cur.toList.take (i * 3)).length = i * 3 := by rw [List.length_take]; omega
      have e0 : (cur.toList.take (i * 3)).take (L.length * 3) = cur.toList.take (i * 3) := List.take_of_length_le (by rw [e1]; omega)
      have e2 : (encI x).take (L.length * 3 - i * 3) = encI x := List.take_of_length_le (by rw [encI_len]; omega)
      rw [e0, e1, e2, encI_len, show L.length * 3 - i * 3 - 3 = L.length * 3 - (i * 3 + 3) by omega]
    · obtain ⟨es, c, h1, h2⟩ := h.map
      exact ⟨es, c, by rw [hgr.block mb h.map.lt (fun e => hm (by simpa using e.symm))]; exact h1, h2⟩
    · intro y hy
      rcases List.mem_or_eq_of_mem_set hy with h1 | rfl
      · exact h.ok y h1
      · exact hx
/-- The map has turned. -/
theorem KAt.mapped {w' : World} {n' : Nat} {D' : DataW Unit} (h : KAt F w kb v mb n D L) (hm : w'.ownsMap Try.prog 9 (plainElem Try.prog 3) mb n' D') (ht : w.mapTurned w' mb) : KAt F w' kb v mb n' D' L := by
  refine ⟨h.fk, h.fm, h.fr, ?_, ?_, hm, h.ok⟩
  · rw [ht.grown.block kb h.lt (fun e => h.apart (by simpa using e.symm))]; exact h.own
  · obtain ⟨h1, h2 | ⟨g, cap, cur, hv, hB, hg, h3⟩⟩ := h.row
    · exact ⟨h1, .inl h2⟩
    · refine ⟨h1, .inr ⟨g, cap, cur, hv, hB, ?_, h3⟩⟩
      rw [ht.grown.block g (block_lt hg) ?_]
      · exact hg
      · intro e
        obtain ⟨es, c, q1, _⟩ := h.map
        have e' : g = mb := by simpa using e
        rw [e', q1] at hg; cases hg
theorem KAt.tight (h : KAt F w kb v mb n D L) : KAt F w kb v mb (Maps.size D) D L := by
  refine ⟨h.fk, h.fm, h.fr, h.own, h.row, ?_, h.ok⟩
  obtain ⟨es, c, h1, h2, h3, rfl⟩ := h.map
  refine ⟨es, c, h1, h2, ?_, rfl⟩
  rw [Maps.size_eq, length_read]
  exact Nat.le_refl _
theorem KAt.tidy (h : KAt F w kb v mb n D L) : Tidy D := h.map.tidy law9

theorem Tells.inj (h : Tells D L) {i j : Nat} (hi : i < L.length) (hj : j < L.length) (e : kl L[i] = kl L[j]) : i = j := by
  have h1 := (h.2.1 i hi).2 .nil
  have h2 := (h.2.1 j hj).2 .nil
  rw [e, h2] at h1
  have : (j : Int) = (i : Int) := by simpa using h1
  omega
theorem Tells.nil : Tells (.map []) [] := ⟨rfl, fun i h => absurd h (Nat.not_lt_zero _), fun k h => by simp [Maps.has] at h⟩
theorem Tells.swap (h : Tells D L) (hT : Tidy D) {i j : Nat} (hi : i < L.length) (hj : j < L.length) (hij : ¬ i = j) :
    Tells ((D.put (kl L[j]) (.lit (.int .i64 (i : Int)))).put (kl L[i]) (.lit (.int .i64 (j : Int)))) ((L.set i L[j]).set j L[i]) := by
  have hk : ∀ {a b : Nat} (ha : a < L.length) (hb : b < L.length), ¬ a = b → kl L[a] ≠ kl L[b] := fun ha hb hne e => hne (h.inj ha hb e)
  have hM := hT.isMap
  have hM1 := hM.put (kl L[j]) (.lit (.int .i64 (i : Int)))
  have hT1 := hT.put (kl_is L[j]) (.lit (.int .i64 (i : Int)))
  refine ⟨?_, fun t ht => ?_, fun k hk' => ?_⟩
  · rw [size_put hT1, has_put_other (hk hi hj hij), (h.2.1 i hi).1, if_pos rfl, size_put hT, (h.2.1 j hj).1, if_pos rfl, h.1]; simp
  · have ht' : t < L.length := by simpa using ht
    by_cases e1 : j = t
    · subst e1
      rw [List.getElem_set_self]
      exact ⟨has_put_same hM1 (kl_is _) _, fun z => atKey_put_same hM1 (kl_is _) _ _⟩
    · rw [List.getElem_set_ne e1]
      by_cases e2 : i = t
      · subst e2
        rw [List.getElem_set_self]
        refine ⟨?_, fun z => ?_⟩
        · rw [has_put_other (hk hj hi (fun e => hij e.symm))]; exact has_put_same hM (kl_is _) _
        · rw [atKey_put_other (hk hj hi (fun e => hij e.symm))]; exact atKey_put_same hM (kl_is _) _ _
      · rw [List.getElem_set_ne e2]
        refine ⟨?_, fun z => ?_⟩
        · rw [has_put_other (hk ht' hi (fun e => e2 e.symm)), has_put_other (hk ht' hj (fun e => e1 e.symm))]; exact (h.2.1 t ht').1
        · rw [atKey_put_other (hk ht' hi (fun e => e2 e.symm)), atKey_put_other (hk ht' hj (fun e => e1 e.symm))]; exact (h.2.1 t ht').2 z
  · have hlen : ((L.set i L[j]).set j L[i]).length = L.length := by simp
    by_cases e1 : k = kl L[i]
    · exact ⟨j, by rw [hlen]; exact hj, by rw [List.getElem_set_self, e1]⟩
    · rw [has_put_other e1] at hk'
      by_cases e2 : k = kl L[j]
      · exact ⟨i, by rw [hlen]; exact hi, by rw [List.getElem_set_ne (fun e => hij e.symm), List.getElem_set_self, e2]⟩
      · rw [has_put_other e2] at hk'
        obtain ⟨t, ht, e⟩ := h.2.2 k hk'
        have n1 : i ≠ t := by rintro rfl; exact e1 e.symm
        have n2 : j ≠ t := by rintro rfl; exact e2 e.symm
        exact ⟨t, by rw [hlen]; exact ht, by rw [List.getElem_set_ne n2, List.getElem_set_ne n1, e]⟩
theorem Tells.snoc (h : Tells D L) (hT : Tidy D) {x : It} (hx : Maps.has D (kl x) = false) : Tells (D.put (kl x) (.lit (.int .i64 (L.length : Int)))) (L ++ [x]) := by
  have hM := hT.isMap
  have hne : ∀ t (ht : t < L.length), kl L[t] ≠ kl x := fun t ht e => by
    have := (h.2.1 t ht).1
    rw [e, hx] at this
    cases this
  refine ⟨?_, fun t ht => ?_, fun k hk => ?_⟩
  · rw [size_put hT, hx, h.1]; simp
  · rcases Nat.lt_or_ge t L.length with h1 | h1
    · rw [List.getElem_append_left h1]
      exact ⟨by rw [has_put_other (hne t h1)]; exact (h.2.1 t h1).1, fun z => by rw [atKey_put_other (hne t h1)]; exact (h.2.1 t h1).2 z⟩
    · obtain rfl : t = L.length := by simp at ht; omega
      rw [List.getElem_append_right (Nat.le_refl _)]
      simp only [Nat.sub_self, List.getElem_cons_zero]
      exact ⟨has_put_same hM (kl_is _) _, fun z => atKey_put_same hM (kl_is _) _ _⟩
  · by_cases e : k = kl x
    · exact ⟨L.length, by simp, by rw [List.getElem_append_right (Nat.le_refl _)]; simp [e]⟩
    · rw [has_put_other e] at hk
      obtain ⟨t, ht, e'⟩ := h.2.2 k hk
      exact ⟨t, by simp; omega, by rw [List.getElem_append_left ht]; exact e'⟩
theorem Tells.pop {x : It} (h : Tells D (L ++ [x])) (hT : Tidy D) : Tells (D.del (kl x)) L := by
  have hx := h.2.1 L.length (by simp)
  rw [List.getElem_append_right (Nat.le_refl _)] at hx
  simp only [Nat.sub_self, List.getElem_cons_zero] at hx
  have hne : ∀ t (ht : t < L.length), kl L[t] ≠ kl x := fun t ht e => by
    have := h.inj (i := t) (j := L.length) (by simp; omega) (by simp) (by rw [List.getElem_append_left ht, List.getElem_append_right (Nat.le_refl _)]; simpa using e)
    omega
  refine ⟨?_, fun t ht => ?_, fun k hk => ?_⟩
  · have := size_del (k := kl x) hT
    rw [hx.1, h.1] at this
    simp at this
    omega
  · have := h.2.1 t (by simp; omega)
    rw [List.getElem_append_left ht] at this
    exact ⟨by rw [has_del_other (hne t ht)]; exact this.1, fun z => by rw [atKey_del_other (hne t ht)]; exact this.2 z⟩
  · have hkx : k ≠ kl x := fun e => by rw [e, has_del_same] at hk; cases hk
    rw [has_del_other hkx] at hk
    obtain ⟨t, ht, e⟩ := h.2.2 k hk
    rcases Nat.lt_or_ge t L.length with h1 | h1
    · rw [List.getElem_append_left h1] at e
      exact ⟨t, h1, e⟩
    · obtain rfl : t = L.length := by simp at ht; omega
      rw [List.getElem_append_right (Nat.le_refl _)] at e
      simp only [Nat.sub_self, List.getElem_cons_zero] at e
      exact absurd e.symm hkx
/-- A heap that is told by its map. -/
def HK (F : Where) (w : World) (kb : Nat) (L : List It) : Prop := ∃ v mb D, KAt F w kb v mb L.length D L ∧ Tells D L
theorem HK.of {v : Value} (h : KAt F w kb v mb n D L) (t : Tells D L) : HK F w kb L := ⟨v, mb, D, by rw [← t.1]; exact h.tight, t⟩
theorem HK.grow {w' : World} (h : HK F w kb L) (hb : Below w.heap.size w w') : HK F w' kb L := by
  obtain ⟨v, mb, D, h, t⟩ := h
  exact ⟨v, mb, D, h.grow hb, t⟩

/-- A key is laid in the map, whatever the region. -/
theorem map_put_wp {o : Oper} {a : Act} {K : Act → World → Prop} {Q : Exit → Act → World → Prop} (m k z : Operand) (hop : o.op = Op.mapUpdate 59 m k z) (hm : a.eval m = .map (some mb)) (x : It) (hx : okI x) (hk : a.eval k = .string x.1)
    (i : Int) (hi : (Lit.int .i64 i).wf = true) (hz : a.eval z = .int .i64 i) (hown : w.ownsMap Try.prog 9 (plainElem Try.prog 3) mb n D) (hn : n < maxLen)
    (hK : ∀ w', w'.ownsMap Try.prog 9 (plainElem Try.prog 3) mb (n + 1) (D.put (kl x) (.lit (.int .i64 i))) → w.mapTurned w' mb → K (a.put o.dst undef) w') : o.wp Try.prog a w K Q := by
  obtain ⟨w', hrun, r1, r2⟩ := hown.store law9 Try.underlying59 hn (kl_key x hx) (plainElem_int Try.underlying3 hi)
  unfold Oper.wp
  simp [execOp, hop, hm, hk, hz, hrun, Result.andThen]
  exact hK w' r1 r2
theorem map_del_wp {o : Oper} {a : Act} {K : Act → World → Prop} {Q : Exit → Act → World → Prop} (m k : Operand) (hop : o.op = Op.call { callee := Callee.builtin Builtin.delete, args := #[m, k], argTypes := #[59, 9] }) (hm : a.eval m = .map (some mb)) (x : It) (hx : okI x) (hk : a.eval k = .string x.1)
    (hown : w.ownsMap Try.prog 9 (plainElem Try.prog 3) mb n D)
    (hK : ∀ w', w'.ownsMap Try.prog 9 (plainElem Try.prog 3) mb n (D.del (kl x)) → w.mapTurned w' mb → K (a.put o.dst (.tuple #[])) w') : o.wp Try.prog a w K Q := by
  obtain ⟨w', hrun, r1, r2⟩ := hown.drop law9 Try.underlying59 (kl_key x hx) o.type
  unfold Oper.wp
  simp [execOp, hop, resolve, invoke, builtin, hm, hk, hrun, Result.andThen]
  exact hK w' r1 r2
end
end Go.Proofs.Ytgncpjplofacfaa
