/- What a law's proof needs of the row's form: a law that returns true and writes nothing that was there meets its row. No condition. Rows of structs in memory, whatever the struct: how a slice of them lies, what a row of one's own holds, what an append makes of it. Plain facts on worlds. No condition. How nested data lies in memory, whatever its type: numbers, texts, structs, slices of them; what stays when memory grows; a row of one's own that is built piece by piece. Plain facts on worlds. No condition. A row of one's own of nested data that is built piece by piece, by appends. Plain facts on worlds. No condition. -/
import Derived.Test.YtpjgffcpjabghaaProg
import Derived.WalkKit
import Derived.ProofKit
import Derived.OpenShut
import Derived.ShutString
import Derived.ChangeOld
import Derived.Below
import Derived.WalkSmall
import Derived.Deep.DeepHandedRow
import Derived.BigQuiet
import Derived.Deep.RegionHeld3
import Derived.Lib.Bytealg
import Derived.Deep.QuietTactic
import Derived.BigRegion
import Derived.Deep.DeepCutAuto
import Derived.Outline
import Derived.Handy
import Derived.WalkSpells
import Derived.Lib.SmallJoins
import Derived.Maps.AppendAt
namespace Go.Proofs.Ytpjgffcpjabghaa
open Go.ChangeShapes Go.WideShapes Go.ChangeAt Go.RowKit

theorem own : ownKnob Try.prog.godebug = none := by kernel_rfl
theorem laidOut : laidOutB Try.prog = true := by kernel_rfl

/-- All arguments read as they did where nothing that was there has turned. -/
theorem trodAll_below {H : Type} {enc : TypeId × Value → H} {P : Program} (hl : laidOutB P = true) {W W' : World} (hb : Below W.heap.size W W') :
    ∀ {ts : List TypeId} {vs : List Value} {ds : List (DataW H)} {p : List MemPlace}, (∀ t ∈ ts, P.readableRec t = true ∧ t < P.types.size) → (∀ x ∈ p, x.block < W.heap.size) →
      DataW.TrodAll enc P W 0 (fun _ => true) true ts vs ds p → DataW.TrodAll enc P W' 0 (fun b => decide (b < W.heap.size)) true ts vs ds p
  | [], _, _, _, _, _, h => by
    obtain ⟨rfl, rfl, rfl⟩ := trodAll_nil h
    exact trodAll_mk0
  | t :: ts, _, _, _, hts, hlt, h => by
    obtain ⟨v, vs, d, ds, p, q, rfl, rfl, rfl, h1, h2⟩ := trodAll_cons h
    exact trodAll_cons_mk (Below.trod hl (hts t (by simp)).1 (hts t (by simp)).2 h1 hb (fun x hx => hlt x (by simp [hx])))
      (trodAll_below hl hb (fun u hu => hts u (by simp [hu])) (fun x hx => hlt x (by simp [hx])) h2)

/-- A law that has returned true and written nothing that was there has met its row. -/
theorem law_post {H : Type} {enc : TypeId × Value → H} {P : Program} {f : Func} {s : ChangeSpec} {tb : TypeId} {W W' : World} {args : Array Value} {ds gs : List (DataW H)} {before : List MemPlace}
    (hl : laidOutB P = true) (hts : ∀ t ∈ f.params.toList, P.readableRec t = true ∧ t < P.types.size) (hv : s.vars = []) (hr : f.resultTypes = #[tb]) (htb : P.underlying tb = some .bool)
    (hfn : s.fn H (ds ++ gs) = { results := [.lit (.bool true)], args := ds })
    (hW : DataW.Whole enc P f.params.toList s.vars false W args.toList ds gs before) (hb : Below W.heap.size W W') :
    s.post enc P f false true false false W args (.bool true) W' := by
  have hlt := hW.lt
  have hW' := hW
  obtain ⟨p, q, hA, hV, rfl, _, _⟩ := hW
  refine ⟨ds, gs, _, [], p, [], hW', ?_, ?_, ?_, hb.frame _, fun h => by cases h⟩
  · rw [hfn, hr]
    exact trodAll_mk1 (shut_bool htb _)
  · rw [hfn]
    exact trodAll_below hl hb hts (fun x hx => hlt x (by simp [hx])) hA
  · rw [hv, hfn]
    rfl
end Go.Proofs.Ytpjgffcpjabghaa
namespace Go.Proofs.Ytpjgffcpjabghaa
open Go.RowKit
set_option linter.unusedSimpArgs false

/-- What comes behind. -/
theorem on2 {w u v : World} (h : Below w.heap.size w u) (k : Below u.heap.size u v) : Below w.heap.size w v := h.trans (k.mono h.size)
theorem getE {α : Type} [Inhabited α] (L : List α) (i : Nat) (h : i < L.length) : L.getD i default = L[i] := by
  rw [List.getD_eq_getElem?_getD, List.getElem?_eq_getElem h]; rfl
theorem add_lit (B off i : Nat) : (⟨B, off, none⟩ : Addr).add i = ⟨B, off + i, none⟩ := by unfold Addr.add; split <;> simp_all

/-- The function's own row: it has come since w0, and nothing of w0 has turned. -/
def Own (w0 u : World) (e : TypeId) (size : Nat) (v : Value) (n : Nat) (xs : List Value) : Prop := Below w0.heap.size w0 u ∧ u.ownsRow w0.heap.size e size v n xs
theorem heap_new (u : World) (o : Obj) (n : Nat) (hn : u.heap.size = n) : (u.alloc o).heap[n]? = some o := by
  subst hn
  exact (MapKept.heap_alloc u o).1
theorem owns_on {w w' : World} {B : Nat} {e : TypeId} {size : Nat} {v : Value} {n : Nat} {xs : List Value} (h : w.ownsRow B e size v n xs) (hb : Below w.heap.size w w') : w'.ownsRow B e size v n xs := by
  obtain ⟨h1, h2 | ⟨g, cap, cur, hv, hB, hg, h3⟩⟩ := h
  · exact ⟨h1, .inl h2⟩
  · refine ⟨h1, .inr ⟨g, cap, cur, hv, hB, ?_, h3⟩⟩
    have hlt : g < w.heap.size := by
      rcases Nat.lt_or_ge g w.heap.size with h4 | h4
      · exact h4
      · rw [Array.getElem?_eq_none h4] at hg; cases hg
    rw [hb.block g hlt]; exact hg
theorem Own.on {w0 u u' : World} {e : TypeId} {size : Nat} {v : Value} {n : Nat} {xs : List Value} (h : Own w0 u e size v n xs) (hb : Below u.heap.size u u') : Own w0 u' e size v n xs :=
  ⟨on2 h.1 hb, owns_on h.2 hb⟩
theorem Own.start (w u : World) (e : TypeId) (size : Nat) (hb : Below w.heap.size w u) : Own w (u.alloc (.cells #[] e)) e size (.slice (some ⟨u.heap.size, 0, none⟩) 0 0) 0 [] :=
  ⟨on2 hb (by go_grown), by simp, .inr ⟨u.heap.size, 0, #[], rfl, hb.size, heap_new u _ _ rfl, Nat.le_refl _, by unfold maxLen; omega, by simp, by simp⟩⟩
theorem Own.row {w0 u u' : World} {e : TypeId} {size : Nat} {v : Value} {n : Nat} {xs : List Value} (h : Own w0 u e size v n xs) (hg : u.grownBy u' v.ownBlock) : Below w0.heap.size w0 u' := by
  refine h.1.grown hg h.1.size (fun k hk => ?_)
  obtain ⟨_, ⟨rfl, _⟩ | ⟨g, cap, cur, rfl, hB, _⟩⟩ := h.2
  · simp [Value.ownBlock] at hk
  · simp [Value.ownBlock] at hk
    omega
/-- What an own row holds. -/
theorem own_cells {w : World} {B : Nat} {e : TypeId} {size : Nat} {v : Value} {n : Nat} {xs : List Value} (h : w.ownsRow B e size v n xs) :
    (v = .slice none 0 0 ∧ n = 0) ∨ ∃ g cap, v = .slice (some ⟨g, 0, none⟩) n cap ∧ n ≤ cap ∧ B ≤ g ∧ g < w.heap.size ∧ ∀ j, j < n * size → w.cell? ⟨g, j, none⟩ = xs[j]? ∧ w.frozen? ⟨g, j, none⟩ = false := by
  obtain ⟨hx, h0 | ⟨g, cap, cur, hv, hb, hg, hcp, _, hsz, htk⟩⟩ := h
  · exact .inl h0
  · refine .inr ⟨g, cap, hv, hcp, hb, ?_, fun j hj => ⟨?_, ?_⟩⟩
    · rcases Nat.lt_or_ge g w.heap.size with h1 | h1
      · exact h1
      · rw [Array.getElem?_eq_none h1] at hg; cases hg
    · have e1 : w.cell? ⟨g, j, none⟩ = cur[j]? := by simp [World.cell?, hg]
      rw [e1, ← htk, List.getElem?_take, if_pos hj, Array.getElem?_toList]
    · simp [World.frozen?, hg]

/-- The cells, one struct behind the other. -/
def flatE {α : Type} (enc : α → List Value) (L : List α) : List Value := L.flatMap enc
theorem flatE_append {α : Type} {enc : α → List Value} (A B : List α) : flatE enc (A ++ B) = flatE enc A ++ flatE enc B := List.flatMap_append
theorem flatE_length {α : Type} {enc : α → List Value} {k : Nat} (hk : ∀ x, (enc x).length = k) : ∀ (L : List α), (flatE enc L).length = L.length * k
  | [] => by simp [flatE]
  | x :: L => by
    have ih := flatE_length hk L
    simp only [flatE, List.flatMap_cons, List.length_append, hk, List.length_cons, Nat.add_mul] at ih ⊢
    omega
theorem flatE_one {α : Type} {enc : α → List Value} (h1 : ∀ x, ∀ u ∈ enc x, u.oneCell' = true) (L : List α) : ∀ u ∈ flatE enc L, u.oneCell' = true := by
  intro u hu
  simp only [flatE, List.mem_flatMap] at hu
  obtain ⟨x, _, h⟩ := hu
  exact h1 x u h
section
variable {α : Type} [Inhabited α]

/-- A slice of structs of k cells: its address, and what it holds. -/
def RowAt (enc : α → List Value) (k : Nat) (ok : α → Prop) (w : World) (a : Option Addr) (L : List α) : Prop :=
  L.length ≤ 140737488355328 ∧ (∀ x ∈ L, ok x) ∧ (L ≠ [] → ∃ B off, a = some ⟨B, off, none⟩ ∧ B < w.heap.size ∧ ∀ i, i < L.length → ∀ j v, (enc (L.getD i default))[j]? = some v → w.cell? ⟨B, off + i * k + j, none⟩ = some v)

variable {enc : α → List Value} {k : Nat} {ok : α → Prop}
theorem RowAt.on {w w' : World} {a : Option Addr} {L : List α} (h : RowAt enc k ok w a L) (hb : Below w.heap.size w w') : RowAt enc k ok w' a L := by
  obtain ⟨h1, h2, h3⟩ := h
  refine ⟨h1, h2, fun hn => ?_⟩
  obtain ⟨B, off, rfl, hB, hc⟩ := h3 hn
  exact ⟨B, off, rfl, Nat.lt_of_lt_of_le hB hb.size, fun i hi j v hv => (hb.cell hB).trans (hc i hi j v hv)⟩
theorem RowAt.nil (w : World) (a : Option Addr) : RowAt enc k ok w a [] := ⟨by simp, by simp, fun h => absurd rfl h⟩
theorem RowAt.get {w : World} {a : Option Addr} {L : List α} (h : RowAt enc k ok w a L) {i : Nat} (hi : i < L.length) : ∃ B off, a = some ⟨B, off, none⟩ ∧ B < w.heap.size ∧ (∀ j v, (enc (L.getD i default))[j]? = some v → w.cell? ⟨B, off + i * k + j, none⟩ = some v) ∧ ok (L.getD i default) := by
  obtain ⟨h1, h2, h3⟩ := h
  obtain ⟨B, off, rfl, hB, hc⟩ := h3 (by intro e; rw [e] at hi; simp at hi)
  refine ⟨B, off, rfl, hB, hc i hi, h2 _ ?_⟩
  rw [getE _ _ hi]
  exact List.getElem_mem hi
theorem RowAt.take {w : World} {a : Option Addr} {L : List α} (h : RowAt enc k ok w a L) (m : Nat) : RowAt enc k ok w a (L.take m) := by
  obtain ⟨h1, h2, h3⟩ := h
  refine ⟨by rw [List.length_take]; omega, fun x hx => h2 x (List.mem_of_mem_take hx), fun hn => ?_⟩
  obtain ⟨B, off, e, hB, hc⟩ := h3 (fun e => hn (by rw [e]; simp))
  refine ⟨B, off, e, hB, fun i hi => ?_⟩
  have hi' : i < L.length := by rw [List.length_take] at hi; omega
  have e2 : (L.take m).getD i default = L.getD i default := by rw [getE _ _ hi, getE _ _ hi']; simp
  rw [e2]
  exact hc i hi'
theorem RowAt.drop {w : World} {ad : Addr} {L : List α} (h : RowAt enc k ok w (some ad) L) (m : Nat) : RowAt enc k ok w (some (ad.add (m * k))) (L.drop m) := by
  obtain ⟨h1, h2, h3⟩ := h
  refine ⟨by simp; omega, fun x hx => h2 x (List.mem_of_mem_drop hx), fun hn => ?_⟩
  obtain ⟨B, off, e, hB, hc⟩ := h3 (fun e => hn (by rw [e]; simp))
  obtain rfl : ad = ⟨B, off, none⟩ := by simpa using e
  refine ⟨B, off + m * k, by rw [add_lit], hB, fun i hi => ?_⟩
  have hi' : m + i < L.length := by simp at hi; omega
  have e2 : (L.drop m).getD i default = L.getD (m + i) default := by rw [getE _ _ hi, getE _ _ hi']; simp
  rw [e2]
  intro j v hv
  have := hc (m + i) hi' j v hv
  rw [Nat.add_mul] at this
  rw [show off + m * k + i * k + j = off + (m * k + i * k) + j by omega]
  exact this
/-- At no length the address does not count. -/
theorem RowAt.any {w : World} {a : Option Addr} (b : Option Addr) {L : List α} (h : RowAt enc k ok w a L) (h0 : L = []) : RowAt enc k ok w b L := by
  subst h0; exact RowAt.nil w b
theorem RowAt.none_nil {w : World} {L : List α} (h : RowAt enc k ok w none L) : L = [] := by
  rcases Classical.em (L = []) with e | e
  · exact e
  · obtain ⟨B, off, h', _⟩ := h.2.2 e; cases h'

theorem flatE_at (hk : ∀ x, (enc x).length = k) : ∀ (L : List α) (i j : Nat), i < L.length → j < k → (flatE enc L)[i * k + j]? = (enc (L.getD i default))[j]?
  | [], i, _, h, _ => by simp at h
  | x :: L, 0, j, _, hj => by
    simp only [flatE, List.flatMap_cons, Nat.zero_mul, Nat.zero_add]
    rw [List.getElem?_append_left (by rw [hk]; exact hj)]
    rfl
  | x :: L, i + 1, j, h, hj => by
    have ih := flatE_at hk L i j (by simpa using h) hj
    simp only [flatE, List.flatMap_cons] at ih ⊢
    rw [List.getElem?_append_right (by rw [hk, Nat.add_mul]; omega), hk, show (i + 1) * k + j - k = i * k + j by rw [Nat.add_mul]; omega, ih]
    simp
/-- A slice that owns the cells of structs holds the structs. -/
theorem row_of_owns (hk : ∀ x, (enc x).length = k) {w : World} {B : Nat} {e : TypeId} {v : Value} {L : List α} (h : w.ownsRow B e k v L.length (flatE enc L)) (hl : L.length ≤ 140737488355328) (hs : ∀ x ∈ L, ok x) :
    ∃ a cap, v = .slice a L.length cap ∧ RowAt enc k ok w a L ∧ (a = none → cap = 0) ∧ L.length ≤ cap := by
  rcases own_cells h with ⟨rfl, h0⟩ | ⟨g, cap, rfl, hcp, hB, hg, hc⟩
  · have : L = [] := List.length_eq_zero_iff.1 h0
    subst this
    exact ⟨none, 0, rfl, RowAt.nil w none, fun _ => rfl, Nat.le_refl _⟩
  · refine ⟨some ⟨g, 0, none⟩, cap, rfl, ⟨hl, hs, fun _ => ⟨g, 0, rfl, hg, fun i hi j u hj => ?_⟩⟩, (fun h => by cases h), hcp⟩
    have hjk : j < k := by
      have := (List.getElem?_eq_some_iff.1 hj).1
      rwa [hk] at this
    have hlt : i * k + j < L.length * k := by
      have : (i + 1) * k ≤ L.length * k := Nat.mul_le_mul_right k hi
      rw [Nat.add_mul] at this
      omega
    rw [Nat.zero_add, (hc (i * k + j) hlt).1, flatE_at hk L i j hi hjk]
    exact hj
theorem flatE_cells (hk : ∀ x, (enc x).length = k) {w : World} {ad : Addr} {L : List α} (h : RowAt enc k ok w (some ad) L) : ∀ j u, (flatE enc L)[j]? = some u → w.cell? (ad.add j) = some u := by
  intro j u hj
  have hl : j < L.length * k := by
    have := (List.getElem?_eq_some_iff.1 hj).1
    rwa [flatE_length hk] at this
  have hk0 : 0 < k := by
    rcases Nat.eq_zero_or_pos k with h | h
    · subst h; simp at hl
    · exact h
  have hi : j / k < L.length := by rw [Nat.div_lt_iff_lt_mul hk0]; exact hl
  have hm : j % k < k := Nat.mod_lt _ hk0
  have ej : j / k * k + j % k = j := by rw [Nat.mul_comm]; exact Nat.div_add_mod j k
  obtain ⟨B, off, e, hB, hc, _⟩ := h.get hi
  obtain rfl : ad = ⟨B, off, none⟩ := by simpa using e
  rw [add_lit]
  have h1 := flatE_at hk L (j / k) (j % k) hi hm
  rw [ej, hj] at h1
  have := hc (j % k) u h1.symm
  rwa [Nat.add_assoc, ej] at this
end

/-- An append to one's own row, in a region whose order is the text's. -/
theorem own_append {ops : Array Oper} {rest : List Oper} {o : Oper} {a : Act} {Q : Exit → Act → World → Prop} {w0 u : World} (hgd : o.guard = none) (s x : Operand) (t e : TypeId)
    (ho : o.op = .call { callee := .builtin .append, args := #[s, x], argTypes := #[t, t] }) (z : Value) (size bytes : Nat) (hinfo : (Try.prog.info? e).map (fun i => (i.zero, i.size, i.bytes)) = some (some z, size, bytes)) (ht : Try.prog.underlying t = some (.slice e)) (hzs : z.cells.size = size) (hsz : 0 < size)
    (v : Value) (n : Nat) (xs : List Value) (hs : a.eval s = v) (hown : Own w0 u e size v n xs)
    (ad : Addr) (m c : Nat) (news : List Value) (hx : a.eval x = .slice (some ad) m c) (hl : news.length = m * size) (hnews : ∀ j y, news[j]? = some y → u.cell? (ad.add j) = some y) (h1 : ∀ y ∈ news, y.oneCell' = true) (h63 : n + m ≤ maxLen) (hb : (n + m) * bytes ≤ 140737488355328)
    (h : ∀ v' u', Own w0 u' e size v' (n + m) (xs ++ news) → (v' = .slice none 0 0 ↔ v = .slice none 0 0 ∧ m = 0) → wpList Try.prog ops Q rest (a.put o.dst v') u') : wpList Try.prog ops Q (o :: rest) a u := by
  obtain ⟨i0, hi, hz0, hz1, hz2⟩ := info_parts hinfo
  refine wpList_append_own u hgd s x t ho w0.heap.size e i0 z size bytes ht hi hz0 hz1 hz2 hzs hsz v n xs hs hown.2 ad m c news hx hl hnews h1 h63 hb hown.1.size ?_
  intro v' u' ho' hg hn
  exact h v' u' ⟨hown.row hg, ho'⟩ hn

/-- An append of structs, wherever they lie, to one's own row, whatever the region. -/
theorem append_rowO {α : Type} [Inhabited α] {enc : α → List Value} {k : Nat} {ok : α → Prop} (hk : ∀ x, (enc x).length = k) (h1 : ∀ x, ∀ u ∈ enc x, u.oneCell' = true) {o : Oper} {a : Act} {K : Act → World → Prop} {Q : Exit → Act → World → Prop} {w0 u : World} (s x : Operand) (t e : TypeId)
    (ho : o.op = .call { callee := .builtin .append, args := #[s, x], argTypes := #[t, t] }) (z : Value) (bytes : Nat) (hinfo : (Try.prog.info? e).map (fun i => (i.zero, i.size, i.bytes)) = some (some z, k, bytes)) (ht : Try.prog.underlying t = some (.slice e)) (hzs : z.cells.size = k) (hk0 : 0 < k) (hby : 1 ≤ bytes)
    (v : Value) (A : List α) (hs : a.eval s = v) (hown : Own w0 u e k v A.length (flatE enc A))
    (c : Option Addr) (n capc : Nat) (N : List α) (hn : N.length = n) (hx : a.eval x = .slice c n capc) (hcap : c = none → capc = 0) (hN : RowAt enc k ok u c N) (hb : (A.length + N.length) * bytes ≤ 140737488355328)
    (h : ∀ v' u', Own w0 u' e k v' (A ++ N).length (flatE enc (A ++ N)) → u.heap.size ≤ u'.heap.size → K (a.put o.dst v') u') : o.wp Try.prog a u K Q := by
  subst hn
  obtain ⟨i0, hi, hz0, hz1, hz2⟩ := info_parts hinfo
  match c with
  | none =>
    obtain rfl := hN.none_nil
    obtain rfl := hcap rfl
    have hr := run_append_owned_none (P := Try.prog) (w := u) w0.heap.size t o.type e i0 k ht hi v A.length (flatE enc A) hown.2
    unfold Oper.wp execOp
    have hx' : a.eval x = .slice none 0 0 := hx
    simp only [ho, resolve, invoke, builtin, Sem.run_bind, Sem.run_pure, Result.andThen_ok, List.map_toArray, List.map_cons, List.map_nil, hs, hx', hr]
    exact h v u (by simpa using hown) (Nat.le_refl _)
  | some ad =>
    have hm : (A.length + N.length) * 1 ≤ (A.length + N.length) * bytes := Nat.mul_le_mul_left _ hby
    refine wp_append_own (w := u) s x t ho w0.heap.size e i0 z k bytes ht hi hz0 hz1 hz2 hzs hk0 v A.length (flatE enc A) hs hown.2 ad N.length capc (flatE enc N) hx (flatE_length hk N) (flatE_cells hk hN) (flatE_one h1 N) (by unfold maxLen; omega) hb hown.1.size ?_
    intro v' u' ho' hg hn
    refine h v' u' ⟨hown.row hg, ?_⟩ hg.size
    rw [List.length_append, flatE_append]
    exact ho'
end Go.Proofs.Ytpjgffcpjabghaa
namespace Go.Proofs.Ytpjgffcpjabghaa
open Go.RowKit
set_option linter.unusedSimpArgs false

/-- Which blocks are meant. -/
abbrev Where := Nat → Prop
/-- The blocks that are meant are as they were, and none is gone. -/
def Kept (A : Where) (w w' : World) : Prop := w.heap.size ≤ w'.heap.size ∧ ∀ b, A b → b < w.heap.size → w'.heap[b]? = w.heap[b]?
theorem Kept.refl (A : Where) (w : World) : Kept A w w := ⟨Nat.le_refl _, fun _ _ _ => rfl⟩
theorem Kept.trans {A : Where} {u v w : World} (h : Kept A u v) (k : Kept A v w) : Kept A u w :=
  ⟨Nat.le_trans h.1 k.1, fun b ha hb => (k.2 b ha (Nat.lt_of_lt_of_le hb h.1)).trans (h.2 b ha hb)⟩
theorem Kept.below {A : Where} {w w' : World} (h : Below w.heap.size w w') : Kept A w w' := ⟨h.size, fun b _ hb => h.block b hb⟩
theorem Kept.alloc (A : Where) (w : World) (o : Obj) : Kept A w (w.alloc o) := Kept.below ((Below.refl _ w).alloc (Nat.le_refl _) o)
theorem Kept.drew (A : Where) (w : World) : Kept A w w.drew := Kept.below (Below.refl _ w).drew
theorem Kept.set {A : Where} {w : World} {p : Addr} (h : ¬ A p.block) (v : Value) : Kept A w (w.setCell p v) := by
  refine ⟨by simp, fun b ha _ => Below.heap_setCell w p v b (fun e => h (e ▸ ha))⟩
theorem Kept.weak {A A' : Where} {w w' : World} (h : Kept A w w') (k : ∀ b, A' b → A b) : Kept A' w w' := ⟨h.1, fun b ha hb => h.2 b (k b ha) hb⟩
theorem Kept.grown {A : Where} {w w' : World} {row : Option Nat} (hg : w.grownBy w' row) (h : ∀ k, row = some k → ¬ A k) : Kept A w w' :=
  ⟨hg.size, fun b ha hb => hg.block b hb (fun e => h b e.symm ha)⟩
theorem Kept.cell {A : Where} {w w' : World} (h : Kept A w w') {p : Addr} (ha : A p.block) (hb : p.block < w.heap.size) : w'.cell? p = w.cell? p := World.cell?_of_block (w := w) (h.2 p.block ha hb)

/-- How something is told by cells. -/
abbrev Rep (α : Type) := Where → World → List Value → α → Prop
structure Firm {α : Type} (R : Rep α) (k : Nat) : Prop where
  len : ∀ {A w cs x}, R A w cs x → cs.length = k
  one : ∀ {A w cs x}, R A w cs x → ∀ u ∈ cs, u.oneCell' = true
  kept : ∀ {A w w' cs x}, R A w cs x → Kept A w w' → R A w' cs x
  weak : ∀ {A A' w cs x}, R A w cs x → (∀ b, b < w.heap.size → A b → A' b) → R A' w cs x

def RStr : Rep ByteArray := fun _ _ cs s => cs = [.string s] ∧ s.size ≤ 140737488355328
def RInt : Rep Int := fun _ _ cs n => cs = [.int .i64 n]
def RBool : Rep Bool := fun _ _ cs b => cs = [.bool b]
def RPair {α β : Type} (R : Rep α) (S : Rep β) : Rep (α × β) := fun A w cs x => ∃ c d, cs = c ++ d ∧ R A w c x.1 ∧ S A w d x.2
theorem RStr.firm : Firm RStr 1 := {
  len := (by rintro A w cs x ⟨rfl, _⟩; rfl),
  one := (by rintro A w cs x ⟨rfl, _⟩ u hu; simp at hu; subst hu; rfl),
  kept := fun h _ => h,
  weak := fun h _ => h }
theorem RInt.firm : Firm RInt 1 := {
  len := (by rintro A w cs x rfl; rfl),
  one := (by rintro A w cs x rfl u hu; simp at hu; subst hu; rfl),
  kept := fun h _ => h,
  weak := fun h _ => h }
theorem RBool.firm : Firm RBool 1 := {
  len := (by rintro A w cs x rfl; rfl),
  one := (by rintro A w cs x rfl u hu; simp at hu; subst hu; rfl),
  kept := fun h _ => h,
  weak := fun h _ => h }
theorem Firm.pair {α β : Type} {R : Rep α} {S : Rep β} {k m : Nat} (hR : Firm R k) (hS : Firm S m) : Firm (RPair R S) (k + m) := {
  len := (by rintro A w cs x ⟨c, d, rfl, h1, h2⟩; rw [List.length_append, hR.len h1, hS.len h2]),
  one := (by
    rintro A w cs x ⟨c, d, rfl, h1, h2⟩ u hu
    rcases List.mem_append.1 hu with hu | hu
    · exact hR.one h1 u hu
    · exact hS.one h2 u hu),
  kept := (by rintro A w w' cs x ⟨c, d, rfl, h1, h2⟩ k; exact ⟨c, d, rfl, hR.kept h1 k, hS.kept h2 k⟩),
  weak := (by rintro A A' w cs x ⟨c, d, rfl, h1, h2⟩ k; exact ⟨c, d, rfl, hR.weak h1 k, hS.weak h2 k⟩) }

section
variable {α : Type} [Inhabited α]
/-- A slice: its header, and what it holds. -/
def SlAt (R : Rep α) (k bytes : Nat) (A : Where) (w : World) (a : Option Addr) (n cap : Nat) (L : List α) : Prop :=
  L.length = n ∧ n ≤ cap ∧ (a = none → cap = 0) ∧ n * bytes ≤ 140737488351232 ∧
    (0 < n → ∃ B off, a = some ⟨B, off, none⟩ ∧ B < w.heap.size ∧ A B ∧ ∀ i, i < n → ∃ cs, R A w cs (L.getD i default) ∧ ∀ j v, cs[j]? = some v → w.cell? ⟨B, off + i * k + j, none⟩ = some v)
def RSl (R : Rep α) (k bytes : Nat) : Rep (List α) := fun A w cs L => ∃ a n cap, cs = [.slice a n cap] ∧ SlAt R k bytes A w a n cap L

variable {R : Rep α} {k bytes : Nat}
theorem SlAt.kept (hR : Firm R k) {A : Where} {w w' : World} {a : Option Addr} {n cap : Nat} {L : List α} (h : SlAt R k bytes A w a n cap L) (hk : Kept A w w') : SlAt R k bytes A w' a n cap L := by
  obtain ⟨h1, h2, h3, h4, h5⟩ := h
  refine ⟨h1, h2, h3, h4, fun hn => ?_⟩
  obtain ⟨B, off, rfl, hB, hA, hc⟩ := h5 hn
  refine ⟨B, off, rfl, Nat.lt_of_lt_of_le hB hk.1, hA, fun i hi => ?_⟩
  obtain ⟨cs, hr, hv⟩ := hc i hi
  exact ⟨cs, hR.kept hr hk, fun j v hj => (hk.cell hA hB).trans (hv j v hj)⟩
theorem SlAt.weak (hR : Firm R k) {A A' : Where} {w : World} {a : Option Addr} {n cap : Nat} {L : List α} (h : SlAt R k bytes A w a n cap L) (hk : ∀ b, b < w.heap.size → A b → A' b) : SlAt R k bytes A' w a n cap L := by
  obtain ⟨h1, h2, h3, h4, h5⟩ := h
  refine ⟨h1, h2, h3, h4, fun hn => ?_⟩
  obtain ⟨B, off, rfl, hB, hA, hc⟩ := h5 hn
  refine ⟨B, off, rfl, hB, hk B hB hA, fun i hi => ?_⟩
  obtain ⟨cs, hr, hv⟩ := hc i hi
  exact ⟨cs, hR.weak hr hk, hv⟩
theorem SlAt.on (hR : Firm R k) {A : Where} {w w' : World} {a : Option Addr} {n cap : Nat} {L : List α} (h : SlAt R k bytes A w a n cap L) (hb : Below w.heap.size w w') : SlAt R k bytes A w' a n cap L := h.kept hR (Kept.below hb)
theorem SlAt.nil (A : Where) (w : World) (a : Option Addr) (cap : Nat) (h : a = none → cap = 0) : SlAt R k bytes A w a 0 cap ([] : List α) :=
  ⟨rfl, Nat.zero_le _, h, by simp, fun h => absurd h (Nat.lt_irrefl _)⟩
theorem SlAt.get {A : Where} {w : World} {a : Option Addr} {n cap : Nat} {L : List α} (h : SlAt R k bytes A w a n cap L) {i : Nat} (hi : i < n) :
    ∃ B off, a = some ⟨B, off, none⟩ ∧ B < w.heap.size ∧ A B ∧ ∃ cs, R A w cs (L.getD i default) ∧ ∀ j v, cs[j]? = some v → w.cell? ⟨B, off + i * k + j, none⟩ = some v := by
  obtain ⟨B, off, e, hB, hA, hc⟩ := h.2.2.2.2 (by omega)
  exact ⟨B, off, e, hB, hA, hc i hi⟩
theorem RSl.firm (hR : Firm R k) : Firm (RSl R k bytes) 1 := {
  len := (by rintro A w cs x ⟨a, n, cap, rfl, _⟩; rfl),
  one := (by rintro A w cs x ⟨a, n, cap, rfl, _⟩ u hu; simp at hu; subst hu; rfl),
  kept := (by rintro A w w' cs x ⟨a, n, cap, rfl, h⟩ hk; exact ⟨a, n, cap, rfl, h.kept hR hk⟩),
  weak := (by rintro A A' w cs x ⟨a, n, cap, rfl, h⟩ hk; exact ⟨a, n, cap, rfl, h.weak hR hk⟩) }

/-- Cells, a struct behind the other. -/
def Chunks (R : Rep α) (k : Nat) (A : Where) (u : World) (xs : List Value) (L : List α) : Prop :=
  xs.length = L.length * k ∧ ∀ i, i < L.length → ∃ cs, R A u cs (L.getD i default) ∧ ∀ j, j < k → xs[i * k + j]? = cs[j]?
theorem Chunks.nil (A : Where) (u : World) : Chunks R k A u [] [] := ⟨by simp, fun i hi => absurd hi (Nat.not_lt_zero _)⟩
theorem Chunks.kept (hR : Firm R k) {A : Where} {u u' : World} {xs : List Value} {L : List α} (h : Chunks R k A u xs L) (hk : Kept A u u') : Chunks R k A u' xs L :=
  ⟨h.1, fun i hi => by obtain ⟨cs, h1, h2⟩ := h.2 i hi; exact ⟨cs, hR.kept h1 hk, h2⟩⟩
theorem Chunks.weak (hR : Firm R k) {A A' : Where} {u : World} {xs : List Value} {L : List α} (h : Chunks R k A u xs L) (hk : ∀ b, b < u.heap.size → A b → A' b) : Chunks R k A' u xs L :=
  ⟨h.1, fun i hi => by obtain ⟨cs, h1, h2⟩ := h.2 i hi; exact ⟨cs, hR.weak h1 hk, h2⟩⟩
theorem Chunks.snoc (hR : Firm R k) {A : Where} {u : World} {xs cs : List Value} {L : List α} {x : α} (h : Chunks R k A u xs L) (hx : R A u cs x) : Chunks R k A u (xs ++ cs) (L ++ [x]) := by
  obtain ⟨hl, hc⟩ := h
  refine ⟨by rw [List.length_append, List.length_append, hl, hR.len hx, Nat.add_mul]; simp, fun i hi => ?_⟩
  rcases Nat.lt_or_ge i L.length with h' | h'
  · obtain ⟨cs', h1, h2⟩ := hc i h'
    have e : (L ++ [x]).getD i default = L.getD i default := by rw [getE _ _ hi, getE _ _ h', List.getElem_append_left h']
    refine ⟨cs', by rw [e]; exact h1, fun j hj => ?_⟩
    rw [List.getElem?_append_left (by have : (i + 1) * k ≤ L.length * k := Nat.mul_le_mul_right k h'; rw [Nat.add_mul] at this; omega)]
    exact h2 j hj
  · obtain rfl : i = L.length := by simp at hi; omega
    have e : (L ++ [x]).getD L.length default = x := by rw [getE _ _ hi]; simp
    refine ⟨cs, by rw [e]; exact hx, fun j hj => ?_⟩
    rw [List.getElem?_append_right (by omega), hl, show L.length * k + j - L.length * k = j by omega]
/-- What lies in a slice, as cells. -/
theorem SlAt.chunks (hR : Firm R k) {A : Where} {w : World} {ad : Addr} {n cap : Nat} {L : List α} (h : SlAt R k bytes A w (some ad) n cap L) : ∃ xs, Chunks R k A w xs L ∧ (∀ j y, xs[j]? = some y → w.cell? (ad.add j) = some y) ∧ ∀ y ∈ xs, y.oneCell' = true := by
  obtain ⟨hn, h2, h3, h4, h5⟩ := h
  suffices H : ∀ m, m ≤ n → ∃ xs, Chunks R k A w xs (L.take m) ∧ (∀ j y, xs[j]? = some y → w.cell? (ad.add j) = some y) ∧ ∀ y ∈ xs, y.oneCell' = true by
    obtain ⟨xs, h6⟩ := H n (Nat.le_refl _)
    rw [List.take_of_length_le (by omega)] at h6
    exact ⟨xs, h6⟩
  intro m
  induction m with
  | zero => intro _; exact ⟨[], by simpa using Chunks.nil A w, by simp, by simp⟩
  | succ m ih =>
    intro hm
    obtain ⟨xs, hc, hv, ho⟩ := ih (by omega)
    obtain ⟨B, off, e, hB, hA, hall⟩ := h5 (by omega)
    obtain rfl : ad = ⟨B, off, none⟩ := by simpa using e
    obtain ⟨cs, hr, hcell⟩ := hall m (by omega)
    have hmL : m < L.length := by omega
    have et : L.take (m + 1) = L.take m ++ [L.getD m default] := by rw [List.take_succ_eq_append_getElem hmL, getE _ _ hmL]
    have hl : xs.length = m * k := by rw [hc.1, List.length_take]; congr 1; omega
    refine ⟨xs ++ cs, by rw [et]; exact hc.snoc hR hr, fun j y hj => ?_, fun y hy => ?_⟩
    · rcases Nat.lt_or_ge j (m * k) with h' | h'
      · rw [List.getElem?_append_left (by omega)] at hj
        exact hv j y hj
      · rw [List.getElem?_append_right (by omega), hl] at hj
        have := hcell _ _ hj
        rw [add_lit]
        rwa [show off + m * k + (j - m * k) = off + j by omega] at this
    · rcases List.mem_append.1 hy with hy | hy
      · exact ho y hy
      · exact hR.one hr y hy
/-- A row of one's own that holds such cells is such a slice. -/
theorem sl_of_owns (hR : Firm R k) {A : Where} {u : World} {g0 : Nat} {e : TypeId} {v : Value} {xs : List Value} {L : List α} (h : u.ownsRow g0 e k v L.length xs) (hc : Chunks R k A u xs L) (hb : L.length * bytes ≤ 140737488351232) :
    ∃ a cap, v = .slice a L.length cap ∧ SlAt R k bytes (fun b => A b ∨ v.ownBlock = some b) u a L.length cap L := by
  rcases own_cells h with ⟨rfl, h0⟩ | ⟨g, cap, rfl, hcp, hB, hg, hcell⟩
  · obtain rfl : L = [] := List.length_eq_zero_iff.1 h0
    exact ⟨none, 0, rfl, SlAt.nil _ _ _ _ (fun _ => rfl)⟩
  · refine ⟨some ⟨g, 0, none⟩, cap, rfl, rfl, hcp, (fun h => by cases h), hb, fun _ => ⟨g, 0, rfl, hg, .inr rfl, fun i hi => ?_⟩⟩
    obtain ⟨cs, h1, h2⟩ := hc.2 i hi
    refine ⟨cs, hR.weak h1 (fun _ _ h => .inl h), fun j y hj => ?_⟩
    have hjk : j < k := by
      have := (List.getElem?_eq_some_iff.1 hj).1
      rwa [hR.len h1] at this
    have hlt : i * k + j < L.length * k := by
      have : (i + 1) * k ≤ L.length * k := Nat.mul_le_mul_right k hi
      rw [Nat.add_mul] at this
      omega
    rw [Nat.zero_add, (hcell (i * k + j) hlt).1, h2 j hjk, hj]
end
end Go.Proofs.Ytpjgffcpjabghaa
namespace Go.Proofs.Ytpjgffcpjabghaa
open Go.RowKit
set_option linter.unusedSimpArgs false

/-- The blocks that have come since. -/
def Fresh (w : World) : Where := fun b => w.heap.size ≤ b
theorem Fresh.not {w : World} {D : Nat} (h : D < w.heap.size) : ¬ Fresh w D := fun k => absurd h (Nat.not_lt.2 k)

theorem idx_part (i l k j : Nat) (h : l ≤ i) : i * k + j - l * k = (i - l) * k + j := by
  have : l * k ≤ i * k := Nat.mul_le_mul_right k h
  rw [Nat.sub_mul]
  omega
section
variable {α : Type} [Inhabited α] {R : Rep α} {k : Nat}
/-- A row of one's own: what it holds lies elsewhere, where A says. -/
def Row (R : Rep α) (k : Nat) (A : Where) (w0 u : World) (e : TypeId) (v : Value) (L : List α) : Prop :=
  ∃ xs, Own w0 u e k v L.length xs ∧ Chunks R k (fun b => A b ∧ v.ownBlock ≠ some b) u xs L
theorem Row.below {A : Where} {w0 u : World} {e : TypeId} {v : Value} {L : List α} (h : Row R k A w0 u e v L) : Below w0.heap.size w0 u := by
  obtain ⟨xs, h, _⟩ := h; exact h.1
theorem Row.nil (A : Where) (w : World) (e : TypeId) : Row R k A w w e (.slice none 0 0) [] := ⟨[], ⟨Below.refl _ _, by simp, .inl ⟨rfl, rfl⟩⟩, Chunks.nil _ _⟩
theorem Row.start (A : Where) (w u : World) (e : TypeId) (hb : Below w.heap.size w u) : Row R k A w (u.alloc (.cells #[] e)) e (.slice (some ⟨u.heap.size, 0, none⟩) 0 0) [] :=
  ⟨[], Own.start w u e k hb, Chunks.nil _ _⟩
theorem Row.on (hR : Firm R k) {A : Where} {w0 u u' : World} {e : TypeId} {v : Value} {L : List α} (h : Row R k A w0 u e v L) (hb : Below u.heap.size u u') : Row R k A w0 u' e v L := by
  obtain ⟨xs, h1, h2⟩ := h
  exact ⟨xs, h1.on hb, h2.kept hR (Kept.below hb)⟩
/-- From an elder world on. -/
theorem Row.from {A A' : Where} (hR : Firm R k) {w0 w1 u : World} {e : TypeId} {v : Value} {L : List α} (h : Row R k A w1 u e v L) (hb : Below w0.heap.size w0 w1) (hA : ∀ b, A b → A' b) : Row R k A' w0 u e v L := by
  obtain ⟨xs, h1, h2⟩ := h
  exact ⟨xs, ⟨on2 hb h1.1, Go.Joins.ownsRow_le h1.2 hb.size⟩, h2.weak hR (fun b _ h => ⟨hA b h.1, h.2⟩)⟩
/-- What it is in the end. -/
theorem Row.sl (hR : Firm R k) {bytes : Nat} {A : Where} {w0 u : World} {e : TypeId} {v : Value} {L : List α} (h : Row R k A w0 u e v L) (hb : L.length * bytes ≤ 140737488351232) :
    ∃ a cap, v = .slice a L.length cap ∧ SlAt R k bytes (fun b => A b ∨ Fresh w0 b) u a L.length cap L := by
  obtain ⟨xs, h1, h2⟩ := h
  obtain ⟨a, cap, e1, h3⟩ := sl_of_owns (bytes := bytes) hR h1.2 h2 hb
  refine ⟨a, cap, e1, h3.weak hR (fun b _ hb => ?_)⟩
  rcases hb with hb | hb
  · exact .inl hb.1
  · exact .inr (h1.2.lt b hb).1
/-- The same, where all of it has come since. -/
theorem Row.slF (hR : Firm R k) {bytes : Nat} {w0 u : World} {e : TypeId} {v : Value} {L : List α} (h : Row R k (Fresh w0) w0 u e v L) (hb : L.length * bytes ≤ 140737488351232) :
    ∃ a cap, v = .slice a L.length cap ∧ SlAt R k bytes (Fresh w0) u a L.length cap L := by
  obtain ⟨a, cap, e1, h3⟩ := h.sl hR hb
  exact ⟨a, cap, e1, h3.weak hR (fun b _ hb => by rcases hb with hb | hb <;> exact hb)⟩

/-- An append to one's own row, whatever the region. -/
theorem row_append_wp (hR : Firm R k) {o : Oper} {a : Act} {K : Act → World → Prop} {Q : Exit → Act → World → Prop} {A : Where} {w0 u : World} (s x : Operand) (t e : TypeId)
    (ho : o.op = .call { callee := .builtin .append, args := #[s, x], argTypes := #[t, t] }) (z : Value) (bytes : Nat) (hinfo : (Try.prog.info? e).map (fun i => (i.zero, i.size, i.bytes)) = some (some z, k, bytes)) (ht : Try.prog.underlying t = some (.slice e)) (hzs : z.cells.size = k) (hk0 : 0 < k) (hby : 1 ≤ bytes)
    (v : Value) (L : List α) (hs : a.eval s = v) (hrow : Row R k A w0 u e v L)
    (ad : Addr) (m c : Nat) (news : List Value) (N : List α) (hm : N.length = m) (hx : a.eval x = .slice (some ad) m c) (hN : Chunks R k (fun b => A b ∧ v.ownBlock ≠ some b) u news N) (hcells : ∀ j y, news[j]? = some y → u.cell? (ad.add j) = some y) (h1 : ∀ y ∈ news, y.oneCell' = true) (hb : (L.length + N.length) * bytes ≤ 140737488355328)
    (h : ∀ v' u', Row R k A w0 u' e v' (L ++ N) → u.grownBy u' v.ownBlock → K (a.put o.dst v') u') : o.wp Try.prog a u K Q := by
  subst hm
  obtain ⟨i0, hi, hz0, hz1, hz2⟩ := info_parts hinfo
  obtain ⟨xs, hown, hch⟩ := hrow
  have hmul : (L.length + N.length) * 1 ≤ (L.length + N.length) * bytes := Nat.mul_le_mul_left _ hby
  obtain ⟨v', u', hr, h2, h3, h4, h5⟩ := run_append_own_at (P := Try.prog) u w0.heap.size t o.type e i0 z k bytes ht hi hz0 hz1 hz2 hzs hk0 v L.length xs hown.2 ad N.length c news hN.1 hcells h1 (by unfold maxLen; omega) hb hown.1.size
  unfold Oper.wp execOp
  simp only [ho, resolve, invoke, builtin, Sem.run_bind, Sem.run_pure, Result.andThen_ok, List.map_toArray, List.map_cons, List.map_nil, hs, hx, hr]
  refine (h v' u' ⟨xs ++ news, ⟨hown.row h3, by rw [List.length_append]; exact h2⟩, ?_⟩ h3)
  have put : ∀ {ys : List Value} {M : List α}, Chunks R k (fun b => A b ∧ v.ownBlock ≠ some b) u ys M → Chunks R k (fun b => A b ∧ v'.ownBlock ≠ some b) u' ys M := fun {ys M} hc => by
    have c1 := hc.weak hR (A' := fun b => (A b ∧ v.ownBlock ≠ some b) ∧ b < u.heap.size) (fun b hb h => ⟨h, hb⟩)
    have c2 := c1.kept hR (Kept.grown h3 (fun b e => fun h => h.1.2 e))
    refine c2.weak hR (fun b _ h => ⟨h.1.1, fun e => ?_⟩)
    rcases h5 with h5 | h5
    · rw [h5] at e; exact h.1.2 e
    · rw [h5] at e
      have : u.heap.size = b := by simpa using e
      exact absurd h.2 (by omega)
  obtain ⟨l1, c1⟩ := put hch
  obtain ⟨l2, c2⟩ := put hN
  refine ⟨by rw [List.length_append, List.length_append, l1, l2, Nat.add_mul], fun i hi => ?_⟩
  rcases Nat.lt_or_ge i L.length with h' | h'
  · obtain ⟨cs, q1, q2⟩ := c1 i h'
    have e : (L ++ N).getD i default = L.getD i default := by rw [getE _ _ hi, getE _ _ h', List.getElem_append_left h']
    refine ⟨cs, by rw [e]; exact q1, fun j hj => ?_⟩
    rw [List.getElem?_append_left (by have : (i + 1) * k ≤ L.length * k := Nat.mul_le_mul_right k h'; rw [Nat.add_mul] at this; omega)]
    exact q2 j hj
  · have h'' : i - L.length < N.length := by simp at hi; omega
    obtain ⟨cs, q1, q2⟩ := c2 (i - L.length) h''
    have e : (L ++ N).getD i default = N.getD (i - L.length) default := by rw [getE _ _ hi, getE _ _ h'', List.getElem_append_right h']
    refine ⟨cs, by rw [e]; exact q1, fun j hj => ?_⟩
    have hle : L.length * k ≤ i * k := Nat.mul_le_mul_right k h'
    rw [List.getElem?_append_right (by omega), l1, idx_part i L.length k j h', ← q2 j hj]
/-- An append to one's own row. -/
theorem row_append (hR : Firm R k) {ops : Array Oper} {rest : List Oper} {o : Oper} {a : Act} {Q : Exit → Act → World → Prop} {A : Where} {w0 u : World} (hgd : Region.wanted o (yielded ops a.tmps) = true) (s x : Operand) (t e : TypeId)
    (ho : o.op = .call { callee := .builtin .append, args := #[s, x], argTypes := #[t, t] }) (z : Value) (bytes : Nat) (hinfo : (Try.prog.info? e).map (fun i => (i.zero, i.size, i.bytes)) = some (some z, k, bytes)) (ht : Try.prog.underlying t = some (.slice e)) (hzs : z.cells.size = k) (hk0 : 0 < k) (hby : 1 ≤ bytes)
    (v : Value) (L : List α) (hs : a.eval s = v) (hrow : Row R k A w0 u e v L)
    (ad : Addr) (m c : Nat) (news : List Value) (N : List α) (hm : N.length = m) (hx : a.eval x = .slice (some ad) m c) (hN : Chunks R k (fun b => A b ∧ v.ownBlock ≠ some b) u news N) (hcells : ∀ j y, news[j]? = some y → u.cell? (ad.add j) = some y) (h1 : ∀ y ∈ news, y.oneCell' = true) (hb : (L.length + N.length) * bytes ≤ 140737488355328)
    (h : ∀ v' u', Row R k A w0 u' e v' (L ++ N) → u.grownBy u' v.ownBlock → wpList Try.prog ops Q rest (a.put o.dst v') u') : wpList Try.prog ops Q (o :: rest) a u :=
  BigFrame.wpList_want hgd (fun _ hK => row_append_wp hR s x t e ho z bytes hinfo ht hzs hk0 hby v L hs hrow ad m c news N hm hx hN hcells h1 hb (fun v' u' h2 h3 => hK _ _ (h v' u' h2 h3)))
/-- One thing more: its cells lie in a block of their own. -/
theorem chunk_one (hR : Firm R k) {A : Where} {u : World} {cs : List Value} {x : α} (h : R A u cs x) : Chunks R k A u cs [x] := by
  simpa using (Chunks.nil (R := R) (k := k) A u).snoc hR h
theorem one_cells (u : World) (cs : List Value) (t : TypeId) : ∀ j y, cs[j]? = some y → (u.alloc (.cells cs.toArray t)).cell? ((⟨u.heap.size, 0, none⟩ : Addr).add j) = some y := by
  intro j y hj
  rw [add_lit]
  have : (u.alloc (.cells cs.toArray t)).heap[u.heap.size]? = some (.cells cs.toArray t) := heap_new u _ _ rfl
  generalize u.alloc (.cells cs.toArray t) = u' at this ⊢
  simp [World.cell?, this, hj]
end
/-- Block D holds these cells, and may be written. -/
def BoxL (u : World) (D : Nat) (cs : List Value) : Prop := D < u.heap.size ∧ ∀ j v, cs[j]? = some v → u.cell? ⟨D, j, none⟩ = some v ∧ u.frozen? ⟨D, j, none⟩ = false
theorem BoxL.on {u u' : World} {D : Nat} {cs : List Value} (h : BoxL u D cs) (hb : Below u.heap.size u u') : BoxL u' D cs :=
  ⟨Nat.lt_of_lt_of_le h.1 hb.size, fun j v hj => ⟨(hb.cell h.1).trans (h.2 j v hj).1, (hb.frozen h.1).trans (h.2 j v hj).2⟩⟩
theorem BoxL.kept {A : Where} {u u' : World} {D : Nat} {cs : List Value} (h : BoxL u D cs) (hk : Kept A u u') (hA : A D) : BoxL u' D cs :=
  ⟨Nat.lt_of_lt_of_le h.1 hk.1, fun j v hj => ⟨(hk.cell hA h.1).trans (h.2 j v hj).1, (World.frozen?_of_block (w := u) (hk.2 D hA h.1)).trans (h.2 j v hj).2⟩⟩
theorem BoxL.new (u : World) (t : TypeId) (cs : List Value) : BoxL (u.alloc (.cells cs.toArray t)) u.heap.size cs := by
  refine ⟨by simp, fun j v hj => ?_⟩
  have : (u.alloc (.cells cs.toArray t)).heap[u.heap.size]? = some (.cells cs.toArray t) := heap_new u _ _ rfl
  generalize u.alloc (.cells cs.toArray t) = u' at this ⊢
  simp [World.cell?, World.frozen?, this, hj]
theorem BoxL.set {u : World} {D : Nat} {cs : List Value} (h : BoxL u D cs) (i : Nat) (v : Value) (hi : i < cs.length) : BoxL (u.setCell ⟨D, i, none⟩ v) D (cs.set i v) := by
  refine ⟨by simpa using h.1, fun j y hj => ?_⟩
  rw [List.getElem?_set] at hj
  by_cases e : i = j
  · subst e
    simp [hi] at hj
    subst hj
    have h0 := h.2 i cs[i] (List.getElem?_eq_getElem hi)
    exact ⟨World.cell?_setCell_same (h := h0.1) .., by simpa using h0.2⟩
  · simp only [e, if_false] at hj
    have h0 := h.2 j y hj
    have hne : (⟨D, i, none⟩ : Addr) ≠ ⟨D, j, none⟩ := by simp [e]
    exact ⟨(World.cell?_setCell_other (h := hne) ..).trans h0.1, by simpa using h0.2⟩
theorem BoxL.other {u : World} {D : Nat} {cs : List Value} (h : BoxL u D cs) {p : Addr} (hp : p.block ≠ D) (v : Value) : BoxL (u.setCell p v) D cs :=
  h.kept (A := fun b => b ≠ p.block) (Kept.set (fun h => h rfl) v) (fun e => hp e.symm)
end Go.Proofs.Ytpjgffcpjabghaa
