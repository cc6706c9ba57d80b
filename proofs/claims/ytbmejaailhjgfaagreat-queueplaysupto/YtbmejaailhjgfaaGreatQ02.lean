/- How a heap with keys lies in memory: the struct, its row of entries, the map of places; which blocks a call may turn. Plain facts on worlds. No condition. Words, numbers, labels and what is asked of them, as plain functions over texts' bytes. Plain mathematics, no program. No condition. A map from names whose values are held as they are; a list of members, each told by its name. Plain facts on worlds. No condition. -/
import Derived.Test.YtbmejaailhjgfaaGreatQ01
import Derived.Maps.OwnSet
import Derived.Maps.RangeWalk
namespace Go.Proofs.YtbmejaailhjgfaaGreat
open Go.RowKit Go.Maps
set_option linter.unusedSimpArgs false
set_option maxRecDepth 100000

def kl (x : It) : Lit := .string x.1.data.toList
theorem kl_key (x : It) (h : okI x) : keyOf Tryz.prog 9 (.string x.1) = some (kl x) := WideMaps.keyOf_string_mk Tryz.underlying9 (Nat.le_trans h (by unfold maxLen; omega))
theorem kl_is (x : It) : WideAt.IsKeyLit (kl x) := by unfold kl; trivial
theorem law9 : Keyed Tryz.prog 9 := string_keyed Tryz.underlying9

/-- What a call turns: blocks that are meant, and none is gone. -/
structure Turns (F : Where) (w w' : World) : Prop where
  os : w'.os = w.os
  tape : w'.tape = w.tape
  output : w'.output = w.output
  size : w.heap.size ≤ w'.heap.size
  block : ∀ b, b < w.heap.size → ¬ F b → w'.heap[b]? = w.heap[b]?
theorem Turns.refl (F : Where) (w : World) : Turns F w w := ⟨rfl, rfl, rfl, Nat.le_refl _, fun _ _ _ => rfl⟩
theorem Turns.trans {F : Where} {u v w : World} (h : Turns F u v) (k : Turns F v w) : Turns F u w :=
  ⟨k.os.trans h.os, k.tape.trans h.tape, k.output.trans h.output, Nat.le_trans h.size k.size, fun b hb hf => (k.block b (Nat.lt_of_lt_of_le hb h.size) hf).trans (h.block b hb hf)⟩
theorem Turns.below {F : Where} {w w' : World} (h : Below w.heap.size w w') : Turns F w w' := ⟨h.os, h.tape, h.output, h.size, fun b hb _ => h.block b hb⟩
theorem Turns.alloc (F : Where) (w : World) (o : Obj) : Turns F w (w.alloc o) := Turns.below ((Below.refl _ w).alloc (Nat.le_refl _) o)
theorem Turns.drew (F : Where) (w : World) : Turns F w w.drew := Turns.below (Below.refl _ w).drew
theorem Turns.grown {F : Where} {w w' : World} {row : Option Nat} (hg : w.grownBy w' row) (h : ∀ b, row = some b → F b) : Turns F w w' :=
  ⟨hg.os, hg.tape, hg.output, hg.size, fun b hb hf => hg.block b hb (fun e => hf (h b e.symm))⟩
theorem Turns.set {F : Where} {w : World} {p : Addr} (h : F p.block) (v : Value) : Turns F w (w.setCell p v) := by
  have := (Below.refl 0 w).setCell (p := p) (Nat.zero_le _) v
  exact ⟨this.os, this.tape, this.output, this.size, fun b _ hf => Below.heap_setCell w p v b (fun e => hf (e ▸ h))⟩
theorem Turns.map {F : Where} {w w' : World} {b : Nat} (h : w.mapTurned w' b) (hb : F b) : Turns F w w' := Turns.grown h.grown (fun k e => by cases e; exact hb)
theorem Turns.behind {w0 w w' : World} (h : Below w0.heap.size w0 w) (k : Turns (Fresh w0) w w') : Below w0.heap.size w0 w' :=
  ⟨k.os.trans h.os, k.tape.trans h.tape, k.output.trans h.output, Nat.le_trans h.size k.size, fun b hb => (k.block b (Nat.lt_of_lt_of_le hb h.size) (Fresh.not hb)).trans (h.block b hb)⟩
theorem Turns.weak {F G : Where} {w w' : World} (h : Turns F w w') (k : ∀ b, b < w.heap.size → F b → G b) : Turns G w w' :=
  ⟨h.os, h.tape, h.output, h.size, fun b hb hg => h.block b hb (fun hf => hg (k b hb hf))⟩

/-- The map tells each key's place, and no other key. -/
def Tells (D : DataW Unit) (L : List It) : Prop :=
  Maps.size D = L.length ∧ (∀ i (h : i < L.length), Maps.has D (kl L[i]) = true ∧ ∀ z, D.atKey (kl L[i]) z = .lit (.int .i64 (i : Int))) ∧
    ∀ k, Maps.has D k = true → ∃ (i : Nat) (h : i < L.length), kl L[i] = k

/-- A heap with keys: the struct in block kb, its slice v, its map in block mb. -/
structure KAt (F : Where) (w : World) (kb : Nat) (v : Value) (mb n : Nat) (D : DataW Unit) (L : List It) : Prop where
  fk : F kb
  fm : F mb
  fr : ∀ b, v.ownBlock = some b → F b
  own : w.heap[kb]? = some (.cells #[v, .func (.func 93) #[] #[], .map (some mb)] 102 (0, 0))
  row : w.ownsRow 0 67 3 v L.length (flatE encI L)
  map : w.ownsMap Tryz.prog 9 (plainElem Tryz.prog 3) mb n D
  ok : ∀ x ∈ L, okI x

section
variable {F : Where} {w : World} {kb : Nat} {v : Value} {mb n : Nat} {D : DataW Unit} {L : List It}
theorem block_lt {w : World} {b : Nat} {o : Obj} (h : w.heap[b]? = some o) : b < w.heap.size := by
  rcases Nat.lt_or_ge b w.heap.size with h1 | h1
  · exact h1
  · rw [Array.getElem?_eq_none h1] at h; cases h
theorem KAt.lt (h : KAt F w kb v mb n D L) : kb < w.heap.size := block_lt h.own
theorem KAt.c0 (h : KAt F w kb v mb n D L) : w.cell? ⟨kb, 0, none⟩ = some v := by simp [World.cell?, h.own]
theorem KAt.c1 (h : KAt F w kb v mb n D L) : w.cell? ⟨kb, 1, none⟩ = some (.func (.func 93) #[] #[]) := by simp [World.cell?, h.own]
theorem KAt.c2 (h : KAt F w kb v mb n D L) : w.cell? ⟨kb, 2, none⟩ = some (.map (some mb)) := by simp [World.cell?, h.own]
theorem KAt.f0 (h : KAt F w kb v mb n D L) : w.frozen? ⟨kb, 0, none⟩ = false := by simp [World.frozen?, h.own]
theorem KAt.apart (h : KAt F w kb v mb n D L) : mb ≠ kb := by
  obtain ⟨es, c, h1, _⟩ := h.map
  intro e
  rw [e, h.own] at h1
  cases h1
/-- The slice, where there is an entry. -/
theorem KAt.sl (h : KAt F w kb v mb n D L) (hn : 0 < L.length) : ∃ g cap, v = .slice (some ⟨g, 0, none⟩) L.length cap ∧ L.length ≤ cap ∧ g < w.heap.size ∧ g ≠ kb ∧ g ≠ mb ∧ F g ∧
    ∀ i (hi : i < L.length), (w.cell? ⟨g, i * 3, none⟩ = some (.string L[i].1) ∧ w.cell? ⟨g, i * 3 + 1, none⟩ = some (.int .i64 L[i].2.1) ∧ w.cell? ⟨g, i * 3 + 2, none⟩ = some (.int .i64 L[i].2.2)) ∧
      w.frozen? ⟨g, i * 3, none⟩ = false ∧ w.frozen? ⟨g, i * 3 + 1, none⟩ = false ∧ w.frozen? ⟨g, i * 3 + 2, none⟩ = false := by
  have hrow := h.row
  obtain ⟨_, h0 | ⟨g, cap, cur, hv, _, hg, hcp, _, _, _⟩⟩ := hrow
  · omega
  · refine ⟨g, cap, hv, hcp, block_lt hg, ?_, ?_, h.fr g (by rw [hv]; rfl), fun i hi => ?_⟩
    · intro e; rw [e, h.own] at hg; simp at hg
    · intro e
      obtain ⟨es, c, h1, _⟩ := h.map
      rw [e, h1] at hg; cases hg
    · rcases own_cells h.row with ⟨_, h0⟩ | ⟨g', cap', hv', _, _, _, hc⟩
      · omega
      · rw [hv] at hv'
        obtain ⟨rfl, rfl⟩ : g = g' ∧ cap = cap' := by simpa using hv'
        have e0 := hc (i * 3) (by omega)
        have e1 := hc (i * 3 + 1) (by omega)
        have e2 := hc (i * 3 + 2) (by omega)
        have q0 := flatE_at encI_len L i 0 hi (by omega)
        have q1 := flatE_at encI_len L i 1 hi (by omega)
        have q2 := flatE_at encI_len L i 2 hi (by omega)
        rw [getE _ _ hi] at q0 q1 q2
        rw [Nat.add_zero] at q0
        exact ⟨⟨e0.1.trans q0, e1.1.trans q1, e2.1.trans q2⟩, e0.2, e1.2, e2.2⟩
theorem KAt.len (h : KAt F w kb v mb n D L) : ∃ a cap, v = .slice a L.length cap ∧ (a = none → cap = 0 ∧ L.length = 0) := by
  obtain ⟨_, ⟨rfl, h0⟩ | ⟨g, cap, cur, hv, _⟩⟩ := h.row
  · exact ⟨none, 0, by rw [h0], fun _ => ⟨rfl, h0⟩⟩
  · exact ⟨_, cap, hv, fun e => by cases e⟩
theorem KAt.weak {G : Where} (h : KAt F w kb v mb n D L) (k : ∀ b, b < w.heap.size → F b → G b) : KAt G w kb v mb n D L := by
  refine ⟨k _ h.lt h.fk, k _ h.map.lt h.fm, fun b hb => ?_, h.own, h.row, h.map, h.ok⟩
  have := h.row
  obtain ⟨_, ⟨rfl, _⟩ | ⟨g, cap, cur, rfl, _, hg, _⟩⟩ := this
  · simp [Value.ownBlock] at hb
  · simp [Value.ownBlock] at hb
    subst hb
    exact k _ (block_lt hg) (h.fr _ rfl)
/-- What stands untouched stays. -/
theorem KAt.on {w' : World} (h : KAt F w kb v mb n D L) (hb : ∀ b, b < w.heap.size → F b → w'.heap[b]? = w.heap[b]?) : KAt F w' kb v mb n D L := by
  refine ⟨h.fk, h.fm, h.fr, ?_, ?_, ?_, h.ok⟩
  · rw [hb kb h.lt h.fk]; exact h.own
  · obtain ⟨h1, h2 | ⟨g, cap, cur, hv, hB, hg, h3⟩⟩ := h.row
    · exact ⟨h1, .inl h2⟩
    · exact ⟨h1, .inr ⟨g, cap, cur, hv, hB, by rw [hb g (block_lt hg) (h.fr g (by rw [hv]; rfl))]; exact hg, h3⟩⟩
  · obtain ⟨es, c, h1, h2⟩ := h.map
    exact ⟨es, c, by rw [hb mb h.map.lt h.fm]; exact h1, h2⟩
theorem KAt.grow {w' : World} (h : KAt F w kb v mb n D L) (hb : Below w.heap.size w w') : KAt F w' kb v mb n D L := h.on (fun b hb' _ => hb.block b hb')
theorem KAt.drew (h : KAt F w kb v mb n D L) : KAt F w.drew kb v mb n D L := h.on (fun _ _ _ => rfl)

/-- A row behind a store of cells into it. -/
theorem row_setCells (g : Nat) (T : TypeId) : ∀ (vs : List Value) (o : Nat) (w : World) (cur : Array Value), w.heap[g]? = some (.cells cur T (0, 0)) → o + vs.length ≤ cur.size →
    ∃ cur' : Array Value, (w.setCells g o vs).heap[g]? = some (.cells cur' T (0, 0)) ∧ cur'.size = cur.size ∧ cur'.toList = cur.toList.take o ++ vs ++ cur.toList.drop (o + vs.length)
  | [], o, w, cur, hg, _ => ⟨cur, hg, rfl, by simp⟩
  | v :: r, o, w, cur, hg, hl => by
    simp only [List.length_cons] at hl
    have hg1 := heap_setCell_same w g o cur T v hg
    obtain ⟨cur', h1, h2, h3⟩ := row_setCells g T r (o + 1) _ _ hg1 (by simp; omega)
    refine ⟨cur', h1, by simpa using h2, ?_⟩
    rw [h3]
    have ho : o < cur.toList.length := by simp; omega
    simp only [Array.toList_setIfInBounds, List.length_cons]
    rw [List.take_add_one, List.getElem?_set]
    simp only [ho, if_true]
    rw [List.take_set_of_le (Nat.le_refl _), List.drop_set_of_lt (by omega)]
    simp [Nat.add_assoc, Nat.add_comm 1]
theorem grown_setCells {w : World} {g : Nat} : ∀ (vs : List Value) (o : Nat), w.grownBy (w.setCells g o vs) (some g) := fun vs o =>
  have h : ∀ (vs : List Value) (o : Nat) (u : World), w.grownBy u (some g) → w.grownBy (u.setCells g o vs) (some g) := fun vs => by
    induction vs with
    | nil => intro o u hu; exact hu
    | cons v r ih =>
      intro o u hu
      rw [World.setCells]
      refine ih _ _ ⟨hu.os, hu.tape, hu.output, by simpa using hu.size, fun k hk hne => ?_⟩
      rw [heap_setCell_other u ⟨g, o, none⟩ k v (fun e => hne (by simp [e]))]
      exact hu.block k hk hne
  h vs o w ⟨rfl, rfl, rfl, Nat.le_refl _, fun _ _ _ => rfl⟩
theorem flatE_take (L : List It) (i : Nat) (hi : i ≤ L.length) : (flatE encI L).take (i * 3) = flatE encI (L.take i) ∧ (flatE encI L).drop (i * 3) = flatE encI (L.drop i) := by
  have h : flatE encI L = flatE encI (L.take i) ++ flatE encI (L.drop i) := by rw [← flatE_append, List.take_append_drop]
  have hl : (flatE encI (L.take i)).length = i * 3 := by rw [flatE_length encI_len, List.length_take]; congr 1; omega
  rw [h]
  exact ⟨by rw [← hl, List.take_left], by rw [← hl, List.drop_left]⟩
theorem flatE_set (L : List It) (i : Nat) (x : It) (hi : i < L.length) : flatE encI (L.set i x) = (flatE encI L).take (i * 3) ++ encI x ++ (flatE encI L).drop (i * 3 + 3) := by
  have h2 := (flatE_take L (i + 1) (by omega)).2
  rw [Nat.add_mul, Nat.one_mul] at h2
  rw [(flatE_take L i (by omega)).1, h2, List.set_eq_take_append_cons_drop, if_pos hi, flatE_append]
  simp [flatE, List.flatMap_cons]

/-- An entry is laid at place i of the row. -/
def putI (w : World) (g i : Nat) (x : It) : World := w.setCells g (i * 3) (encI x)
theorem KAt.items (h : KAt F w kb v mb n D L) {g : Nat} (hv : v.ownBlock = some g) {i : Nat} (hi : i < L.length) {x : It} (hx : okI x) : KAt F (putI w g i x) kb v mb n D (L.set i x) ∧ Turns F w (putI w g i x) := by
  have hgr : w.grownBy (putI w g i x) (some g) := grown_setCells _ _
  obtain ⟨hl, ⟨rfl, h0⟩ | ⟨g', cap, cur, rfl, hB, hg, hcp, hmx, hsz, htk⟩⟩ := h.row
  · simp [Value.ownBlock] at hv
  · obtain rfl : g' = g := by simpa [Value.ownBlock] using hv
    have hk : g' ≠ kb := by intro e; rw [e, h.own] at hg; simp at hg
    have hm : g' ≠ mb := by
      intro e
      obtain ⟨es, c, h1, _⟩ := h.map
      rw [e, h1] at hg; cases hg
    refine ⟨⟨h.fk, h.fm, h.fr, ?_, ?_, ?_, ?_⟩, Turns.grown hgr (fun b e => by cases e; exact h.fr _ rfl)⟩
    · rw [hgr.block kb h.lt (fun e => hk (by simpa using e.symm))]; exact h.own
    · have hbd : i * 3 + (encI x).length ≤ cur.size := by rw [hsz, encI_len]; omega
      obtain ⟨cur', k1, k2, k3⟩ := row_setCells g' _ (encI x) (i * 3) w cur hg hbd
      refine ⟨by rw [flatE_length encI_len], .inr ⟨g', cap, cur', by rw [List.length_set], hB, k1, by rw [List.length_set]; exact hcp, hmx, by rw [k2, hsz], ?_⟩⟩
      have hcl : cur.toList.length = cap * 3 := by simp [hsz]
      rw [k3, flatE_set L i x hi, ← htk, List.length_set, encI_len, List.take_take, Nat.min_eq_left (by omega), List.drop_take, List.append_assoc, List.append_assoc, List.take_append, List.take_append]
      have e1 : (cur.toList.take (i * 3)).length = i * 3 := by rw [List.length_take]; omega
      have e0 : (cur.toList.take (i * 3)).take (L.length * 3) = cur.toList.take (i * 3) := List.take_of_length_le (by rw [e1]; omega)
      have e2 : (encI x).take (L.length * 3 - i * 3) = encI x := List.take_of_length_le (by rw [encI_len]; omega)
      rw [e0, e1, e2, encI_len, show L.length * 3 - i * 3 - 3 = L.length * 3 - (i * 3 + 3) by omega]
    · obtain ⟨es, c, h1, h2⟩ := h.map
      exact ⟨es, c, by rw [hgr.block mb h.map.lt (fun e => hm (by simpa using e.symm))]; exact h1, h2⟩
    · intro y hy
      rcases List.mem_or_eq_of_mem_set hy with h1 | rfl
      · exact h.ok y h1
      · exact hx
/-- The map has turned. -/
theorem KAt.mapped {w' : World} {n' : Nat} {D' : DataW Unit} (h : KAt F w kb v mb n D L) (hm : w'.ownsMap Tryz.prog 9 (plainElem Tryz.prog 3) mb n' D') (ht : w.mapTurned w' mb) : KAt F w' kb v mb n' D' L := by
  refine ⟨h.fk, h.fm, h.fr, ?_, ?_, hm, h.ok⟩
  · rw [ht.grown.block kb h.lt (fun e => h.apart (by simpa using e.symm))]; exact h.own
  · obtain ⟨h1, h2 | ⟨g, cap, cur, hv, hB, hg, h3⟩⟩ := h.row
    · exact ⟨h1, .inl h2⟩
    · refine ⟨h1, .inr ⟨g, cap, cur, hv, hB, ?_, h3⟩⟩
      rw [ht.grown.block g (block_lt hg) ?_]
      · exact hg
      · intro e
        obtain ⟨es, c, q1, _⟩ := h.map
        have e' : g = mb := by simpa using e
        rw [e', q1] at hg; cases hg
theorem KAt.tight (h : KAt F w kb v mb n D L) : KAt F w kb v mb (Maps.size D) D L := by
  refine ⟨h.fk, h.fm, h.fr, h.own, h.row, ?_, h.ok⟩
  obtain ⟨es, c, h1, h2, h3, rfl⟩ := h.map
  refine ⟨es, c, h1, h2, ?_, rfl⟩
  rw [Maps.size_eq, length_read]
  exact Nat.le_refl _
theorem KAt.tidy (h : KAt F w kb v mb n D L) : Tidy D := h.map.tidy law9

theorem Tells.inj (h : Tells D L) {i j : Nat} (hi : i < L.length) (hj : j < L.length) (e : kl L[i] = kl L[j]) : i = j := by
  have h1 := (h.2.1 i hi).2 .nil
  have h2 := (h.2.1 j hj).2 .nil
  rw [e, h2] at h1
  have : (j : Int) = (i : Int) := by simpa using h1
  omega
theorem Tells.nil : Tells (.map []) [] := ⟨rfl, fun i h => absurd h (Nat.not_lt_zero _), fun k h => by simp [Maps.has] at h⟩
theorem Tells.swap (h : Tells D L) (hT : Tidy D) {i j : Nat} (hi : i < L.length) (hj : j < L.length) (hij : ¬ i = j) :
    Tells ((D.put (kl L[j]) (.lit (.int .i64 (i : Int)))).put (kl L[i]) (.lit (.int .i64 (j : Int)))) ((L.set i L[j]).set j L[i]) := by
  have hk : ∀ {a b : Nat} (ha : a < L.length) (hb : b < L.length), ¬ a = b → kl L[a] ≠ kl L[b] := fun ha hb hne e => hne (h.inj ha hb e)
  have hM := hT.isMap
  have hM1 := hM.put (kl L[j]) (.lit (.int .i64 (i : Int)))
  have hT1 := hT.put (kl_is L[j]) (.lit (.int .i64 (i : Int)))
  refine ⟨?_, fun t ht => ?_, fun k hk' => ?_⟩
  · rw [size_put hT1, has_put_other (hk hi hj hij), (h.2.1 i hi).1, if_pos rfl, size_put hT, (h.2.1 j hj).1, if_pos rfl, h.1]; simp
  · have ht' : t < L.length := by simpa using ht
    by_cases e1 : j = t
    · subst e1
      rw [List.getElem_set_self]
      exact ⟨has_put_same hM1 (kl_is _) _, fun z => atKey_put_same hM1 (kl_is _) _ _⟩
    · rw [List.getElem_set_ne e1]
      by_cases e2 : i = t
      · subst e2
        rw [List.getElem_set_self]
        refine ⟨?_, fun z => ?_⟩
        · rw [has_put_other (hk hj hi (fun e => hij e.symm))]; exact has_put_same hM (kl_is _) _
        · rw [atKey_put_other (hk hj hi (fun e => hij e.symm))]; exact atKey_put_same hM (kl_is _) _ _
      · rw [List.getElem_set_ne e2]
        refine ⟨?_, fun z => ?_⟩
        · rw [has_put_other (hk ht' hi (fun e => e2 e.symm)), has_put_other (hk ht' hj (fun e => e1 e.symm))]; exact (h.2.1 t ht').1
        · rw [atKey_put_other (hk ht' hi (fun e => e2 e.symm)), atKey_put_other (hk ht' hj (fun e => e1 e.symm))]; exact (h.2.1 t ht').2 z
  · have hlen : ((L.set i L[j]).set j L[i]).length = L.length := by simp
    by_cases e1 : k = kl L[i]
    · exact ⟨j, by rw [hlen]; exact hj, by rw [List.getElem_set_self, e1]⟩
    · rw [has_put_other e1] at hk'
      by_cases e2 : k = kl L[j]
      · exact ⟨i, by rw [hlen]; exact hi, by rw [List.getElem_set_ne (fun e => hij e.symm), List.getElem_set_self, e2]⟩
      · rw [has_put_other e2] at hk'
        obtain ⟨t, ht, e⟩ := h.2.2 k hk'
        have n1 : i ≠ t := by rintro rfl; exact e1 e.symm
        have n2 : j ≠ t := by rintro rfl; exact e2 e.symm
        exact ⟨t, by rw [hlen]; exact ht, by rw [List.getElem_set_ne n2, List.getElem_set_ne n1, e]⟩
theorem Tells.snoc (h : Tells D L) (hT : Tidy D) {x : It} (hx : Maps.has D (kl x) = false) : Tells (D.put (kl x) (.lit (.int .i64 (L.length : Int)))) (L ++ [x]) := by
  have hM := hT.isMap
  have hne : ∀ t (ht : t < L.length), kl L[t] ≠ kl x := fun t ht e => by
    have := (h.2.1 t ht).1
    rw [e, hx] at this
    cases this
  refine ⟨?_, fun t ht => ?_, fun k hk => ?_⟩
  · rw [size_put hT, hx, h.1]; simp
  · rcases Nat.lt_or_ge t L.length with h1 | h1
    · rw [List.getElem_append_left h1]
      exact ⟨by rw [has_put_other (hne t h1)]; exact (h.2.1 t h1).1, fun z => by rw [atKey_put_other (hne t h1)]; exact (h.2.1 t h1).2 z⟩
    · obtain rfl : t = L.length := by simp at ht; omega
      rw [List.getElem_append_right (Nat.le_refl _)]
      simp only [Nat.sub_self, List.getElem_cons_zero]
      exact ⟨has_put_same hM (kl_is _) _, fun z => atKey_put_same hM (kl_is _) _ _⟩
  · by_cases e : k = kl x
    · exact ⟨L.length, by simp, by rw [List.getElem_append_right (Nat.le_refl _)]; simp [e]⟩
    · rw [has_put_other e] at hk
      obtain ⟨t, ht, e'⟩ := h.2.2 k hk
      exact ⟨t, by simp; omega, by rw [List.getElem_append_left ht]; exact e'⟩
theorem Tells.pop {x : It} (h : Tells D (L ++ [x])) (hT : Tidy D) : Tells (D.del (kl x)) L := by
  have hx := h.2.1 L.length (by simp)
  rw [List.getElem_append_right (Nat.le_refl _)] at hx
  simp only [Nat.sub_self, List.getElem_cons_zero] at hx
  have hne : ∀ t (ht : t < L.length), kl L[t] ≠ kl x := fun t ht e => by
    have := h.inj (i := t) (j := L.length) (by simp; omega) (by simp) (by rw [List.getElem_append_left ht, List.getElem_append_right (Nat.le_refl _)]; simpa using e)
    omega
  refine ⟨?_, fun t ht => ?_, fun k hk => ?_⟩
  · have := size_del (k := kl x) hT
    rw [hx.1, h.1] at this
    simp at this
    omega
  · have := h.2.1 t (by simp; omega)
    rw [List.getElem_append_left ht] at this
    exact ⟨by rw [has_del_other (hne t ht)]; exact this.1, fun z => by rw [atKey_del_other (hne t ht)]; exact this.2 z⟩
  · have hkx : k ≠ kl x := fun e => by rw [e, has_del_same] at hk; cases hk
    rw [has_del_other hkx] at hk
    obtain ⟨t, ht, e⟩ := h.2.2 k hk
    rcases Nat.lt_or_ge t L.length with h1 | h1
    · rw [List.getElem_append_left h1] at e
      exact ⟨t, h1, e⟩
    · obtain rfl : t = L.length := by simp at ht; omega
      rw [List.getElem_append_right (Nat.le_refl _)] at e
      simp only [Nat.sub_self, List.getElem_cons_zero] at e
      exact absurd e.symm hkx
/-- A heap that is told by its map. -/
def HK (F : Where) (w : World) (kb : Nat) (L : List It) : Prop := ∃ v mb D, KAt F w kb v mb L.length D L ∧ Tells D L
theorem HK.of {v : Value} (h : KAt F w kb v mb n D L) (t : Tells D L) : HK F w kb L := ⟨v, mb, D, by rw [← t.1]; exact h.tight, t⟩
theorem HK.grow {w' : World} (h : HK F w kb L) (hb : Below w.heap.size w w') : HK F w' kb L := by
  obtain ⟨v, mb, D, h, t⟩ := h
  exact ⟨v, mb, D, h.grow hb, t⟩

/-- A key is laid in the map, whatever the region. -/
theorem map_put_wp {o : Oper} {a : Act} {K : Act → World → Prop} {Q : Exit → Act → World → Prop} (m k z : Operand) (hop : o.op = Op.mapUpdate 100 m k z) (hm : a.eval m = .map (some mb)) (x : It) (hx : okI x) (hk : a.eval k = .string x.1)
    (i : Int) (hi : (Lit.int .i64 i).wf = true) (hz : a.eval z = .int .i64 i) (hown : w.ownsMap Tryz.prog 9 (plainElem Tryz.prog 3) mb n D) (hn : n < maxLen)
    (hK : ∀ w', w'.ownsMap Tryz.prog 9 (plainElem Tryz.prog 3) mb (n + 1) (D.put (kl x) (.lit (.int .i64 i))) → w.mapTurned w' mb → K (a.put o.dst undef) w') : o.wp Tryz.prog a w K Q := by
  obtain ⟨w', hrun, r1, r2⟩ := hown.store law9 Tryz.underlying100 hn (kl_key x hx) (plainElem_int Tryz.underlying3 hi)
  unfold Oper.wp
  simp [execOp, hop, hm, hk, hz, hrun, Result.andThen]
  exact hK w' r1 r2
theorem map_del_wp {o : Oper} {a : Act} {K : Act → World → Prop} {Q : Exit → Act → World → Prop} (m k : Operand) (hop : o.op = Op.call { callee := Callee.builtin Builtin.delete, args := #[m, k], argTypes := #[100, 9] }) (hm : a.eval m = .map (some mb)) (x : It) (hx : okI x) (hk : a.eval k = .string x.1)
    (hown : w.ownsMap Tryz.prog 9 (plainElem Tryz.prog 3) mb n D)
    (hK : ∀ w', w'.ownsMap Tryz.prog 9 (plainElem Tryz.prog 3) mb n (D.del (kl x)) → w.mapTurned w' mb → K (a.put o.dst (.tuple #[])) w') : o.wp Tryz.prog a w K Q := by
  obtain ⟨w', hrun, r1, r2⟩ := hown.drop law9 Tryz.underlying100 (kl_key x hx) o.type
  unfold Oper.wp
  simp [execOp, hop, resolve, invoke, builtin, hm, hk, hrun, Result.andThen]
  exact hK w' r1 r2
end
end Go.Proofs.YtbmejaailhjgfaaGreat
namespace Go.Proofs.YtbmejaailhjgfaaGreat

abbrev Lab := ByteArray × ByteArray
/-- Something that is asked: the key, the Op, the values. -/
abbrev Ask := ByteArray × Int × List ByteArray
abbrev Ask.key (r : Ask) : ByteArray := r.1
abbrev Ask.op (r : Ask) : Int := r.2.1
abbrev Ask.vals (r : Ask) : List ByteArray := r.2.2

/-- p of every number below n. -/
def allTo (n : Nat) (p : Nat → Bool) : Bool := (List.range n).all p
theorem allTo_true {n : Nat} {p : Nat → Bool} (h : ∀ j, j < n → p j = true) : allTo n p = true := by
  simp only [allTo, List.all_eq_true, List.mem_range]; exact h
theorem allTo_false {n k : Nat} {p : Nat → Bool} (hk : k < n) (h : p k = false) : allTo n p = false := by
  cases e : allTo n p
  · rfl
  · simp only [allTo, List.all_eq_true, List.mem_range] at e
    rw [e k hk] at h; cases h
theorem allTo_iff {n : Nat} {p : Nat → Bool} : allTo n p = true ↔ ∀ j, j < n → p j = true := by
  simp [allTo, List.all_eq_true, List.mem_range]

def isDig (c : UInt8) : Bool := decide (48 ≤ c.toNat) && decide (c.toNat ≤ 57)
def wChar (c : UInt8) : Bool := decide (97 ≤ c.toNat) && decide (c.toNat ≤ 122) || isDig c || decide (c.toNat = 45) || decide (c.toNat = 46) || decide (c.toNat = 47)
def byteAt (s : ByteArray) (i : Nat) : UInt8 := s.data.toList.getD i 0
def wordB (s : ByteArray) : Bool := decide (1 ≤ s.size) && decide (s.size ≤ 32) && allTo s.size fun i => wChar (byteAt s i)
def valB (s : ByteArray) : Bool := decide (s.size = 0) || wordB s
/-- 1 to 15 digits, without a 0 ahead of others. -/
def numB (s : ByteArray) : Bool := decide (1 ≤ s.size) && decide (s.size ≤ 15) && !(decide (1 < s.size) && decide ((byteAt s 0).toNat = 48)) && allTo s.size fun i => isDig (byteAt s i)
/-- The number that the first k digits tell. -/
def numTo (s : ByteArray) : Nat → Nat
  | 0 => 0
  | k + 1 => 10 * numTo s k + ((byteAt s k).toNat - 48)
def numN (s : ByteArray) : Nat := numTo s s.size

def sLt (a b : ByteArray) : Bool := Op.bytesLess a.toList b.toList
def sEq (a b : ByteArray) : Bool := a.toList == b.toList

theorem byteAt_get (s : ByteArray) (k : Nat) (h : k < s.size) : byteAt s k = s[k] := by
  unfold byteAt
  rw [List.getD_eq_getElem?_getD, List.getElem?_eq_getElem (by simpa using h)]
  rfl
theorem sEq_iff (a b : ByteArray) : sEq a b = true ↔ a = b := by
  unfold sEq
  rw [beq_iff_eq, ByteArray.toList_eq, ByteArray.toList_eq]
  constructor
  · intro h; obtain ⟨⟨a⟩⟩ := a; obtain ⟨⟨b⟩⟩ := b; simp_all
  · intro h; rw [h]
theorem sEq_self (a : ByteArray) : sEq a a = true := (sEq_iff a a).2 rfl
theorem sEq_false {a b : ByteArray} (h : a ≠ b) : sEq a b = false := by
  cases e : sEq a b
  · rfl
  · exact absurd ((sEq_iff a b).1 e) h

/-- The label at a place is right: key and value words, the key above the one before. -/
def labOk (L : List Lab) (i : Nat) : Bool := wordB (L.getD i default).1 && valB (L.getD i default).2 && (decide (i = 0) || sLt (L.getD (i - 1) default).1 (L.getD i default).1)
def checkI (L : List Lab) : Int := if 64 < L.length then 3 else if allTo L.length (labOk L) then 0 else 20
/-- May the values stand with the Op? -/
def rightV (op : Int) (V : List ByteArray) : Bool :=
  if op = 1 ∨ op = 2 then decide (1 ≤ V.length) && decide (V.length ≤ 64) && allTo V.length (fun i => valB (V.getD i default))
  else if op = 3 ∨ op = 4 then decide (V.length = 0)
  else if op = 5 ∨ op = 6 then decide (V.length = 1) && numB (V.getD 0 default)
  else false
def askOk (R : List Ask) (i : Nat) : Bool := wordB (R.getD i default).key && rightV (R.getD i default).op (R.getD i default).vals
def checkR (R : List Ask) : Int := if 64 < R.length then 3 else if allTo R.length (askOk R) then 0 else 21

/-- The first label of a key. -/
def getL (L : List Lab) (key : ByteArray) : ByteArray × Bool := match L.find? (fun x => sEq x.1 key) with | some x => (x.2, true) | none => (default, false)
def hasL (V : List ByteArray) (s : ByteArray) : Bool := V.any fun v => sEq v s
def meetsV (v : ByteArray) (there : Bool) (op : Int) (V : List ByteArray) : Bool :=
  if op = 1 then there && hasL V v
  else if op = 2 then !(there && hasL V v)
  else if op = 3 then there
  else if op = 4 then !there
  else if op = 5 then there && numB v && (decide (V.length = 1) && numB (V.getD 0 default)) && decide (numN (V.getD 0 default) < numN v)
  else if op = 6 then there && numB v && (decide (V.length = 1) && numB (V.getD 0 default)) && decide (numN v < numN (V.getD 0 default))
  else false
def meetsL (L : List Lab) (r : Ask) : Bool := meetsV (getL L r.key).1 (getL L r.key).2 r.op r.vals
def matchL (L : List Lab) (R : List Ask) : Bool := allTo R.length fun i => meetsL L (R.getD i default)
def sameL (A B : List Lab) (key : ByteArray) : Bool := (getL A key).2 && (getL B key).2 && sEq (getL A key).1 (getL B key).1
end Go.Proofs.YtbmejaailhjgfaaGreat
namespace Go.Proofs.YtbmejaailhjgfaaGreat
open Go.RowKit Go.Maps
set_option linter.unusedSimpArgs false
set_option maxRecDepth 100000

/-- A value as it stands. -/
def RHv (v : Value) : Option (DataW Value × List MemPlace) := some (.held v, [])
def kT (s : ByteArray) : Lit := .string s.data.toList
theorem kT_key {s : ByteArray} (h : s.size ≤ 140737488355328) : keyOf Tryz.prog 9 (.string s) = some (kT s) := WideMaps.keyOf_string_mk Tryz.underlying9 (Nat.le_trans h (by unfold maxLen; omega))
theorem kT_is (s : ByteArray) : WideAt.IsKeyLit (kT s) := by unfold kT; trivial
theorem kT_inj {s t : ByteArray} (h : kT s = kT t) : s = t := by
  have := Lit.string.inj h
  exact ByteArray.ext (Array.ext' this)
theorem lawT : Keyed Tryz.prog 9 := string_keyed Tryz.underlying9
section
variable {α : Type} {key : α → ByteArray} {val : α → Value} {D : DataW Value} {S : List α}
/-- The datum tells these members, each by its name; no two have one name. -/
structure Tls (key : α → ByteArray) (val : α → Value) (D : DataW Value) (S : List α) : Prop where
  size : Maps.size D = S.length
  at_ : ∀ x ∈ S, ∀ z, D.atKey (kT (key x)) z = .held (val x)
  has : ∀ x ∈ S, Maps.has D (kT (key x)) = true
  mem : ∀ k, Maps.has D k = true → ∃ x ∈ S, k = kT (key x)
  nd : (S.map key).Nodup
/-- The one of that name. -/
def fndG (key : α → ByteArray) (S : List α) (s : ByteArray) : Option α := S.find? (fun x => sEq (key x) s)
/-- All but those of that name. -/
def othG (key : α → ByteArray) (s : ByteArray) (S : List α) : List α := S.filter (fun x => !sEq (key x) s)
theorem fndG_some {s : ByteArray} {x : α} (h : fndG key S s = some x) : x ∈ S ∧ key x = s :=
  ⟨List.mem_of_find?_eq_some h, (sEq_iff _ _).1 (List.find?_some (p := fun x => sEq (key x) s) h)⟩
theorem fndG_none {s : ByteArray} (h : fndG key S s = none) : ∀ x ∈ S, key x ≠ s := fun x hx e => by
  have := List.find?_eq_none.1 h x hx
  exact this ((sEq_iff _ _).2 e)
theorem mem_othG {s : ByteArray} {x : α} : x ∈ othG key s S ↔ x ∈ S ∧ key x ≠ s := by
  unfold othG
  rw [List.mem_filter]
  constructor
  · rintro ⟨h1, h2⟩
    exact ⟨h1, fun e => by rw [(sEq_iff _ _).2 e] at h2; cases h2⟩
  · rintro ⟨h1, h2⟩
    refine ⟨h1, ?_⟩
    cases e : sEq (key x) s with
    | true => exact absurd ((sEq_iff _ _).1 e) h2
    | false => rfl
theorem nd_one (h : (S.map key).Nodup) {x y : α} (hx : x ∈ S) (hy : y ∈ S) (e : key x = key y) : x = y := by
  induction S with
  | nil => cases hx
  | cons z S ih =>
    rw [List.map_cons, List.nodup_cons] at h
    rcases List.mem_cons.1 hx with ex | hx
    · rcases List.mem_cons.1 hy with ey | hy
      · rw [ex, ey]
      · exact absurd (List.mem_map.2 ⟨y, hy, by rw [← e, ex]⟩) h.1
    · rcases List.mem_cons.1 hy with ey | hy
      · exact absurd (List.mem_map.2 ⟨x, hx, by rw [e, ey]⟩) h.1
      · exact ih h.2 hx hy
theorem othG_nd (h : (S.map key).Nodup) (s : ByteArray) : ((othG key s S).map key).Nodup := by
  unfold othG
  exact h.sublist (List.filter_sublist.map key)
theorem othG_len (h : (S.map key).Nodup) (s : ByteArray) : (othG key s S).length + (if (fndG key S s).isSome = true then 1 else 0) = S.length := by
  induction S with
  | nil => rfl
  | cons z S ih =>
    rw [List.map_cons, List.nodup_cons] at h
    have := ih h.2
    unfold othG fndG at this ⊢
    cases e : sEq (key z) s with
    | true =>
      have hn : S.find? (fun x => sEq (key x) s) = none := by
        rw [List.find?_eq_none]
        intro x hx e2
        exact h.1 (List.mem_map.2 ⟨x, hx, ((sEq_iff _ _).1 e2).trans ((sEq_iff _ _).1 e).symm⟩)
      rw [hn] at this
      simp [List.filter_cons, List.find?_cons, e]
      simpa using this
    | false => simp [List.filter_cons, List.find?_cons, e] at this ⊢; omega
theorem fndG_of (h : (S.map key).Nodup) {x : α} (hx : x ∈ S) : fndG key S (key x) = some x := by
  cases e : fndG key S (key x) with
  | none => exact absurd rfl (fndG_none e x hx)
  | some y =>
    have := fndG_some e
    rw [nd_one h this.1 hx this.2]
theorem Tls.nil : Tls key val (.map []) [] := ⟨rfl, fun _ h => absurd h List.not_mem_nil, fun _ h => absurd h List.not_mem_nil, fun k h => by simp [Maps.has] at h, List.nodup_nil⟩
theorem Tls.perm {S' : List α} (h : Tls key val D S) (p : S'.Perm S) : Tls key val D S' :=
  ⟨by rw [h.size, p.length_eq], fun x hx => h.at_ x (p.mem_iff.1 hx), fun x hx => h.has x (p.mem_iff.1 hx), fun k hk => by obtain ⟨x, hx, e⟩ := h.mem k hk; exact ⟨x, p.mem_iff.2 hx, e⟩, (p.map key).nodup_iff.2 h.nd⟩
theorem Tls.has_iff (h : Tls key val D S) (s : ByteArray) : Maps.has D (kT s) = (fndG key S s).isSome := by
  cases e : fndG key S s with
  | none =>
    cases e2 : Maps.has D (kT s) with
    | false => rfl
    | true =>
      obtain ⟨x, hx, ek⟩ := h.mem _ e2
      exact absurd (kT_inj ek).symm (fndG_none e x hx)
  | some x =>
    have := fndG_some e
    rw [← this.2]; exact h.has x this.1
theorem Tls.look (h : Tls key val D S) (s : ByteArray) (z : Value) : D.atKey (kT s) (.held z) = .held ((fndG key S s).elim z val) := by
  cases e : fndG key S s with
  | none =>
    have := h.has_iff s
    rw [e] at this
    exact atKey_of_not_has this _
  | some x =>
    have := fndG_some e
    rw [← this.2]; exact h.at_ x this.1 _
theorem Tls.put (h : Tls key val D S) (hT : Tidy D) (x : α) : Tls key val (D.put (kT (key x)) (.held (val x))) (othG key (key x) S ++ [x]) := by
  have hM := hT.isMap
  refine ⟨?_, fun y hy => ?_, fun y hy => ?_, fun k hk => ?_, ?_⟩
  · rw [size_put hT, h.has_iff, h.size, List.length_append, List.length_singleton]
    have := othG_len h.nd (key x)
    split
    · rename_i e; rw [if_pos e] at this; omega
    · rename_i e; rw [if_neg e] at this; omega
  · rcases List.mem_append.1 hy with hy | hy
    · obtain ⟨hy, hne⟩ := mem_othG.1 hy
      intro z
      rw [atKey_put_other (fun e => hne (kT_inj e))]; exact h.at_ y hy z
    · obtain rfl := List.mem_singleton.1 hy
      exact fun z => atKey_put_same hM (kT_is _) _ _
  · rcases List.mem_append.1 hy with hy | hy
    · obtain ⟨hy, hne⟩ := mem_othG.1 hy
      rw [has_put_other (fun e => hne (kT_inj e))]; exact h.has y hy
    · obtain rfl := List.mem_singleton.1 hy
      exact has_put_same hM (kT_is _) _
  · by_cases e : k = kT (key x)
    · exact ⟨x, List.mem_append.2 (.inr (List.mem_singleton.2 rfl)), e⟩
    · rw [has_put_other e] at hk
      obtain ⟨y, hy, ek⟩ := h.mem k hk
      exact ⟨y, List.mem_append.2 (.inl (mem_othG.2 ⟨hy, fun e2 => e (by rw [ek, e2])⟩)), ek⟩
  · rw [List.map_append, List.nodup_append]
    refine ⟨othG_nd h.nd _, by simp, fun a ha b hb => ?_⟩
    obtain ⟨y, hy, rfl⟩ := List.mem_map.1 ha
    simp only [List.map_cons, List.map_nil, List.mem_singleton] at hb
    rw [hb]
    exact (mem_othG.1 hy).2
theorem Tls.del (h : Tls key val D S) (hT : Tidy D) (s : ByteArray) : Tls key val (D.del (kT s)) (othG key s S) := by
  refine ⟨?_, fun y hy => ?_, fun y hy => ?_, fun k hk => ?_, othG_nd h.nd _⟩
  · have := size_del (k := kT s) hT
    rw [h.has_iff, h.size] at this
    have h2 := othG_len h.nd s
    omega
  · obtain ⟨hy, hne⟩ := mem_othG.1 hy
    intro z
    rw [atKey_del_other (fun e => hne (kT_inj e))]; exact h.at_ y hy z
  · obtain ⟨hy, hne⟩ := mem_othG.1 hy
    rw [has_del_other (fun e => hne (kT_inj e))]; exact h.has y hy
  · have e : k ≠ kT s := fun e => by rw [e, has_del_same] at hk; cases hk
    rw [has_del_other e] at hk
    obtain ⟨y, hy, ek⟩ := h.mem k hk
    exact ⟨y, mem_othG.2 ⟨hy, fun e2 => e (by rw [ek, e2])⟩, ek⟩
/-- Block mb is a map that tells these members. -/
def MpL (u : World) (mb : Nat) (key : α → ByteArray) (val : α → Value) (S : List α) : Prop := ∃ D : DataW Value, u.ownsMap Tryz.prog 9 RHv mb S.length D ∧ Tls key val D S
variable {u u' : World} {mb : Nat}
theorem MpL.lt (h : MpL u mb key val S) : mb < u.heap.size := by obtain ⟨D, h1, _⟩ := h; exact h1.lt
theorem MpL.nd (h : MpL u mb key val S) : (S.map key).Nodup := by obtain ⟨D, _, h1⟩ := h; exact h1.nd
theorem MpL.same (h : MpL u mb key val S) (hb : u'.heap[mb]? = u.heap[mb]?) : MpL u' mb key val S := by
  obtain ⟨D, ⟨es, ck, h1, h2⟩, h3⟩ := h
  exact ⟨D, ⟨es, ck, hb.trans h1, h2⟩, h3⟩
theorem MpL.on (h : MpL u mb key val S) (hb : Below u.heap.size u u') : MpL u' mb key val S := h.same (hb.block mb h.lt)
theorem MpL.isMap (h : MpL u mb key val S) : ∃ es ck, u.heap[mb]? = some (.map es ck) := by obtain ⟨D, ⟨es, ck, h1, _⟩, _⟩ := h; exact ⟨es, ck, h1⟩
theorem MpL.made (w : World) : MpL (w.alloc (.map #[] 0)) w.heap.size key val [] := ⟨.map [], World.ownsMap_made _ _ _ _, Tls.nil⟩
theorem MpL.perm {S' : List α} (h : MpL u mb key val S) (p : S'.Perm S) : MpL u mb key val S' := by
  obtain ⟨D, h1, h2⟩ := h
  exact ⟨D, by rw [p.length_eq]; exact h1, h2.perm p⟩
theorem tight_own {n : Nat} (h : u.ownsMap Tryz.prog 9 RHv mb n D) : u.ownsMap Tryz.prog 9 RHv mb (Maps.size D) D := by
  obtain ⟨es, c, h1, h2, h3, rfl⟩ := h
  refine ⟨es, c, h1, h2, ?_, rfl⟩
  rw [Maps.size_eq, length_read]
  exact Nat.le_refl _
/-- 'm[s]'. -/
theorem MpL.look (h : MpL u mb key val S) (t e : TypeId) (ht : Tryz.prog.underlying t = some (.map 9 e)) {z : Value} (hz : (zeroValue e).run Tryz.prog u = .ok z u) {s : ByteArray} (hs : s.size ≤ 140737488355328) :
    (Instr.lookup t (.map (some mb)) (.string s) false).run Tryz.prog u = .ok ((fndG key S s).elim z val) u := by
  obtain ⟨D, h1, h2⟩ := h
  obtain ⟨v, ps, hrun, hv⟩ := h1.lookup lawT ht hz (zd := .held z) (zp := []) rfl (kT_key hs)
  rw [h2.look s z] at hv
  simp only [RHv, Option.some.injEq, Prod.mk.injEq, DataW.held.injEq] at hv
  rw [hrun, hv.1]
/-- 'v, ok := m[s]'. -/
theorem MpL.lookOk (h : MpL u mb key val S) (t e : TypeId) (ht : Tryz.prog.underlying t = some (.map 9 e)) {z : Value} (hz : (zeroValue e).run Tryz.prog u = .ok z u) {s : ByteArray} (hs : s.size ≤ 140737488355328) :
    (Instr.lookup t (.map (some mb)) (.string s) true).run Tryz.prog u = .ok (.tuple #[(fndG key S s).elim z val, .bool (fndG key S s).isSome]) u := by
  obtain ⟨D, h1, h2⟩ := h
  obtain ⟨v, ps, hrun, hv⟩ := h1.look_ok lawT ht hz (zd := .held z) (zp := []) rfl (kT_key hs)
  rw [h2.look s z] at hv
  simp only [RHv, Option.some.injEq, Prod.mk.injEq, DataW.held.injEq] at hv
  rw [hrun, hv.1, h2.has_iff]
/-- 'm[s] = v'. -/
theorem MpL.put (h : MpL u mb key val S) (t e : TypeId) (ht : Tryz.prog.underlying t = some (.map 9 e)) (x : α) (hs : (key x).size ≤ 140737488355328) (hn : S.length < 140737488355328) :
    ∃ u' : World, (Instr.mapUpdate t (.map (some mb)) (.string (key x)) (val x)).run Tryz.prog u = .ok () u' ∧ MpL u' mb key val (othG key (key x) S ++ [x]) ∧ u.mapTurned u' mb := by
  obtain ⟨D, h1, h2⟩ := h
  obtain ⟨u', hrun, r1, r2⟩ := h1.store lawT ht (Nat.lt_of_lt_of_le hn (by unfold maxLen; omega)) (val := val x) (kT_key hs) rfl
  have r3 := h2.put (h1.tidy lawT) x
  refine ⟨u', hrun, ⟨_, ?_, r3⟩, r2⟩
  rw [← r3.size]
  exact tight_own r1
/-- 'delete(m, s)'. -/
theorem MpL.drop (h : MpL u mb key val S) (t e : TypeId) (ht : Tryz.prog.underlying t = some (.map 9 e)) (s : ByteArray) (hs : s.size ≤ 140737488355328) (ty : TypeId) :
    ∃ u' : World, (Builtin.delete_ #[t, 9] ty #[.map (some mb), .string s]).run Tryz.prog u = .ok (.tuple #[]) u' ∧ MpL u' mb key val (othG key s S) ∧ u.mapTurned u' mb := by
  obtain ⟨D, h1, h2⟩ := h
  obtain ⟨u', hrun, r1, r2⟩ := h1.drop lawT ht (kT_key hs) ty
  have r3 := h2.del (h1.tidy lawT) s
  refine ⟨u', hrun, ⟨_, ?_, r3⟩, r2⟩
  rw [← r3.size]
  exact tight_own r1
/-- What has come of a range: those that are no longer to come. -/
def cameG (key : α → ByteArray) (left : Lit → Bool) (S : List α) : List α := S.filter (fun x => !left (kT (key x)))
theorem came_start (h : Tls key val D S) : cameG key (Maps.has D) S = [] := by
  unfold cameG
  rw [List.filter_eq_nil_iff]
  intro x hx
  rw [h.has x hx]
  decide
theorem came_end {left : Lit → Bool} (hl : ∀ k, left k = false) : cameG key left S = S := by
  unfold cameG
  rw [List.filter_eq_self]
  intro x _
  rw [hl]
  rfl
theorem came_step (hn : (S.map key).Nodup) {left : Lit → Bool} {x : α} (hx : x ∈ S) (hl : left (kT (key x)) = true) : (cameG key (fun z => left z && !z.sameKey (kT (key x))) S).Perm (cameG key left S ++ [x]) := by
  unfold cameG
  have hsame : ∀ y ∈ S, (!(left (kT (key y)) && !(kT (key y)).sameKey (kT (key x)))) = (!left (kT (key y)) || decide (key y = key x)) := fun y hy => by
    by_cases e : key y = key x
    · rw [e]
      have : (kT (key x)).sameKey (kT (key x)) = true := by simp [Lit.sameKey, kT]
      rw [this]; simp
    · have : (kT (key y)).sameKey (kT (key x)) = false := sameKey_ne (fun e2 => e (kT_inj e2))
      rw [this]; simp [e]
  rw [List.filter_congr hsame]
  clear hsame
  induction S with
  | nil => cases hx
  | cons y S ih =>
    rw [List.map_cons, List.nodup_cons] at hn
    by_cases e : y = x
    · subst e
      have h2 : S.filter (fun z => !left (kT (key z)) || decide (key z = key y)) = S.filter (fun z => !left (kT (key z))) := List.filter_congr (fun z hz => by
        have : key z ≠ key y := fun e => hn.1 (List.mem_map.2 ⟨z, hz, e⟩)
        simp [this])
      rw [List.filter_cons, List.filter_cons, h2]
      simp only [hl, Bool.not_true, Bool.false_or, decide_true, if_true, Bool.false_eq_true, if_false]
      exact List.perm_append_comm (l₁ := [y])
    · have hx2 : x ∈ S := (List.mem_cons.1 hx).resolve_left (fun e2 => e e2.symm)
      have hne : key y ≠ key x := fun e2 => hn.1 (List.mem_map.2 ⟨x, hx2, e2.symm⟩)
      have := ih hn.2 hx2
      rw [List.filter_cons, List.filter_cons]
      simp only [hne, decide_false, Bool.or_false]
      split
      · exact List.Perm.cons y this
      · exact this
end
end Go.Proofs.YtbmejaailhjgfaaGreat
