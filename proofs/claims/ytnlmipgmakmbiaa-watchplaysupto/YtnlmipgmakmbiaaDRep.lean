/- How nested data lies in memory, whatever its type: numbers, texts, structs, slices of them; what stays when memory grows; a row of one's own that is built piece by piece. Plain facts on worlds. No condition. -/
import Derived.Test.YtnlmipgmakmbiaaRRow
namespace Go.Proofs.Ytnlmipgmakmbiaa
open Go.RowKit
set_option linter.unusedSimpArgs false

/-- Which blocks are meant. -/
abbrev Where := Nat → Prop
/-- The blocks that are meant are as they were, and none is gone. -/
def Kept (A : Where) (w w' : World) : Prop := w.heap.size ≤ w'.heap.size ∧ ∀ b, A b → b < w.heap.size → w'.heap[b]? = w.heap[b]?
theorem Kept.refl (A : Where) (w : World) : Kept A w w := ⟨Nat.le_refl _, fun _ _ _ => rfl⟩
theorem Kept.trans {A : Where} {u v w : World} (h : Kept A u v) (k : Kept A v w) : Kept A u w :=
  ⟨Nat.le_trans h.1 k.1, fun b ha hb => (k.2 b ha (Nat.lt_of_lt_of_le hb h.1)).trans (h.2 b ha hb)⟩
theorem Kept.below {A : Where} {w w' : World} (h : Below w.heap.size w w') : Kept A w w' := ⟨h.size, fun b _ hb => h.block b hb⟩
theorem Kept.alloc (A : Where) (w : World) (o : Obj) : Kept A w (w.alloc o) := Kept.below ((Below.refl _ w).alloc (Nat.le_refl _) o)
theorem Kept.drew (A : Where) (w : World) : Kept A w w.drew := Kept.below (Below.refl _ w).drew
theorem Kept.set {A : Where} {w : World} {p : Addr} (h : ¬ A p.block) (v : Value) : Kept A w (w.setCell p v) := by
  refine ⟨by simp, fun b ha _ => Below.heap_setCell w p v b (fun e => h (e ▸ ha))⟩
theorem Kept.weak {A A' : Where} {w w' : World} (h : Kept A w w') (k : ∀ b, A' b → A b) : Kept A' w w' := ⟨h.1, fun b ha hb => h.2 b (k b ha) hb⟩
theorem Kept.grown {A : Where} {w w' : World} {row : Option Nat} (hg : w.grownBy w' row) (h : ∀ k, row = some k → ¬ A k) : Kept A w w' :=
  ⟨hg.size, fun b ha hb => hg.block b hb (fun e => h b e.symm ha)⟩
theorem Kept.cell {A : Where} {w w' : World} (h : Kept A w w') {p : Addr} (ha : A p.block) (hb : p.block < w.heap.size) : w'.cell? p = w.cell? p := World.cell?_of_block (w := w) (h.2 p.block ha hb)

/-- How something is told by cells. -/
abbrev Rep (α : Type) := Where → World → List Value → α → Prop
structure Firm {α : Type} (R : Rep α) (k : Nat) : Prop where
  len : ∀ {A w cs x}, R A w cs x → cs.length = k
  one : ∀ {A w cs x}, R A w cs x → ∀ u ∈ cs, u.oneCell' = true
  kept : ∀ {A w w' cs x}, R A w cs x → Kept A w w' → R A w' cs x
  weak : ∀ {A A' w cs x}, R A w cs x → (∀ b, b < w.heap.size → A b → A' b) → R A' w cs x

def RStr : Rep ByteArray := fun _ _ cs s => cs = [.string s] ∧ s.size ≤ 140737488355328
def RInt : Rep Int := fun _ _ cs n => cs = [.int .i64 n]
def RBool : Rep Bool := fun _ _ cs b => cs = [.bool b]
def RPair {α β : Type} (R : Rep α) (S : Rep β) : Rep (α × β) := fun A w cs x => ∃ c d, cs = c ++ d ∧ R A w c x.1 ∧ S A w d x.2
theorem RStr.firm : Firm RStr 1 := {
  len := (by rintro A w cs x ⟨rfl, _⟩; rfl),
  one := (by rintro A w cs x ⟨rfl, _⟩ u hu; simp at hu; subst hu; rfl),
  kept := fun h _ => h,
  weak := fun h _ => h }
theorem RInt.firm : Firm RInt 1 := {
  len := (by rintro A w cs x rfl; rfl),
  one := (by rintro A w cs x rfl u hu; simp at hu; subst hu; rfl),
  kept := fun h _ => h,
  weak := fun h _ => h }
theorem RBool.firm : Firm RBool 1 := {
  len := (by rintro A w cs x rfl; rfl),
  one := (by rintro A w cs x rfl u hu; simp at hu; subst hu; rfl),
  kept := fun h _ => h,
  weak := fun h _ => h }
theorem Firm.pair {α β : Type} {R : Rep α} {S : Rep β} {k m : Nat} (hR : Firm R k) (hS : Firm S m) : Firm (RPair R S) (k + m) := {
  len := (by rintro A w cs x ⟨c, d, rfl, h1, h2⟩; rw [List.length_append, hR.len h1, hS.len h2]),
  one := (by
    rintro A w cs x ⟨c, d, rfl, h1, h2⟩ u hu
    rcases List.mem_append.1 hu with hu | hu
    · exact hR.one h1 u hu
    · exact hS.one h2 u hu),
  kept := (by rintro A w w' cs x ⟨c, d, rfl, h1, h2⟩ k; exact ⟨c, d, rfl, hR.kept h1 k, hS.kept h2 k⟩),
  weak := (by rintro A A' w cs x ⟨c, d, rfl, h1, h2⟩ k; exact ⟨c, d, rfl, hR.weak h1 k, hS.weak h2 k⟩) }

section
variable {α : Type} [Inhabited α]
/-- A slice: its header, and what it holds. -/
def SlAt (R : Rep α) (k bytes : Nat) (A : Where) (w : World) (a : Option Addr) (n cap : Nat) (L : List α) : Prop :=
  L.length = n ∧ n ≤ cap ∧ (a = none → cap = 0) ∧ n * bytes ≤ 140737488351232 ∧
    (0 < n → ∃ B off, a = some ⟨B, off, none⟩ ∧ B < w.heap.size ∧ A B ∧ ∀ i, i < n → ∃ cs, R A w cs (L.getD i default) ∧ ∀ j v, cs[j]? = some v → w.cell? ⟨B, off + i * k + j, none⟩ = some v)
def RSl (R : Rep α) (k bytes : Nat) : Rep (List α) := fun A w cs L => ∃ a n cap, cs = [.slice a n cap] ∧ SlAt R k bytes A w a n cap L

variable {R : Rep α} {k bytes : Nat}
theorem SlAt.kept (hR : Firm R k) {A : Where} {w w' : World} {a : Option Addr} {n cap : Nat} {L : List α} (h : SlAt R k bytes A w a n cap L) (hk : Kept A w w') : SlAt R k bytes A w' a n cap L := by
  obtain ⟨h1, h2, h3, h4, h5⟩ := h
  refine ⟨h1, h2, h3, h4, fun hn => ?_⟩
  obtain ⟨B, off, rfl, hB, hA, hc⟩ := h5 hn
  refine ⟨B, off, rfl, Nat.lt_of_lt_of_le hB hk.1, hA, fun i hi => ?_⟩
  obtain ⟨cs, hr, hv⟩ := hc i hi
  exact ⟨cs, hR.kept hr hk, fun j v hj => (hk.cell hA hB).trans (hv j v hj)⟩
theorem SlAt.weak (hR : Firm R k) {A A' : Where} {w : World} {a : Option Addr} {n cap : Nat} {L : List α} (h : SlAt R k bytes A w a n cap L) (hk : ∀ b, b < w.heap.size → A b → A' b) : SlAt R k bytes A' w a n cap L := by
  obtain ⟨h1, h2, h3, h4, h5⟩ := h
  refine ⟨h1, h2, h3, h4, fun hn => ?_⟩
  obtain ⟨B, off, rfl, hB, hA, hc⟩ := h5 hn
  refine ⟨B, off, rfl, hB, hk B hB hA, fun i hi => ?_⟩
  obtain ⟨cs, hr, hv⟩ := hc i hi
  exact ⟨cs, hR.weak hr hk, hv⟩
theorem SlAt.on (hR : Firm R k) {A : Where} {w w' : World} {a : Option Addr} {n cap : Nat} {L : List α} (h : SlAt R k bytes A w a n cap L) (hb : Below w.heap.size w w') : SlAt R k bytes A w' a n cap L := h.kept hR (Kept.below hb)
theorem SlAt.nil (A : Where) (w : World) (a : Option Addr) (cap : Nat) (h : a = none → cap = 0) : SlAt R k bytes A w a 0 cap ([] : List α) :=
  ⟨rfl, Nat.zero_le _, h, by simp, fun h => absurd h (Nat.lt_irrefl _)⟩
theorem SlAt.get {A : Where} {w : World} {a : Option Addr} {n cap : Nat} {L : List α} (h : SlAt R k bytes A w a n cap L) {i : Nat} (hi : i < n) :
    ∃ B off, a = some ⟨B, off, none⟩ ∧ B < w.heap.size ∧ A B ∧ ∃ cs, R A w cs (L.getD i default) ∧ ∀ j v, cs[j]? = some v → w.cell? ⟨B, off + i * k + j, none⟩ = some v := by
  obtain ⟨B, off, e, hB, hA, hc⟩ := h.2.2.2.2 (by omega)
  exact ⟨B, off, e, hB, hA, hc i hi⟩
theorem RSl.firm (hR : Firm R k) : Firm (RSl R k bytes) 1 := {
  len := (by rintro A w cs x ⟨a, n, cap, rfl, _⟩; rfl),
  one := (by rintro A w cs x ⟨a, n, cap, rfl, _⟩ u hu; simp at hu; subst hu; rfl),
  kept := (by rintro A w w' cs x ⟨a, n, cap, rfl, h⟩ hk; exact ⟨a, n, cap, rfl, h.kept hR hk⟩),
  weak := (by rintro A A' w cs x ⟨a, n, cap, rfl, h⟩ hk; exact ⟨a, n, cap, rfl, h.weak hR hk⟩) }

/-- Cells, a struct behind the other. -/
def Chunks (R : Rep α) (k : Nat) (A : Where) (u : World) (xs : List Value) (L : List α) : Prop :=
  xs.length = L.length * k ∧ ∀ i, i < L.length → ∃ cs, R A u cs (L.getD i default) ∧ ∀ j, j < k → xs[i * k + j]? = cs[j]?
theorem Chunks.nil (A : Where) (u : World) : Chunks R k A u [] [] := ⟨by simp, fun i hi => absurd hi (Nat.not_lt_zero _)⟩
theorem Chunks.kept (hR : Firm R k) {A : Where} {u u' : World} {xs : List Value} {L : List α} (h : Chunks R k A u xs L) (hk : Kept A u u') : Chunks R k A u' xs L :=
  ⟨h.1, fun i hi => by obtain ⟨cs, h1, h2⟩ := h.2 i hi; exact ⟨cs, hR.kept h1 hk, h2⟩⟩
theorem Chunks.weak (hR : Firm R k) {A A' : Where} {u : World} {xs : List Value} {L : List α} (h : Chunks R k A u xs L) (hk : ∀ b, b < u.heap.size → A b → A' b) : Chunks R k A' u xs L :=
  ⟨h.1, fun i hi => by obtain ⟨cs, h1, h2⟩ := h.2 i hi; exact ⟨cs, hR.weak h1 hk, h2⟩⟩
theorem Chunks.snoc (hR : Firm R k) {A : Where} {u : World} {xs cs : List Value} {L : List α} {x : α} (h : Chunks R k A u xs L) (hx : R A u cs x) : Chunks R k A u (xs ++ cs) (L ++ [x]) := by
  obtain ⟨hl, hc⟩ := h
  refine ⟨by rw [List.length_append, List.length_append, hl, hR.len hx, Nat.add_mul]; simp, fun i hi => ?_⟩
  rcases Nat.lt_or_ge i L.length with h' | h'
  · obtain ⟨cs', h1, h2⟩ := hc i h'
    have e : (L ++ [x]).getD i default = L.getD i default := by rw [getE _ _ hi, getE _ _ h', List.getElem_append_left h']
    refine ⟨cs', by rw [e]; exact h1, fun j hj => ?_⟩
    rw [List.getElem?_append_left (by have : (i + 1) * k ≤ L.length * k := Nat.mul_le_mul_right k h'; rw [Nat.add_mul] at this; omega)]
    exact h2 j hj
  · obtain rfl : i = L.length := by simp at hi; omega
    have e : (L ++ [x]).getD L.length default = x := by rw [getE _ _ hi]; simp
    refine ⟨cs, by rw [e]; exact hx, fun j hj => ?_⟩
    rw [List.getElem?_append_right (by omega), hl, show L.length * k + j - L.length * k = j by omega]
/-- What lies in a slice, as cells. -/
theorem SlAt.chunks (hR : Firm R k) {A : Where} {w : World} {ad : Addr} {n cap : Nat} {L : List α} (h : SlAt R k bytes A w (some ad) n cap L) : ∃ xs, Chunks R k A w xs L ∧ (∀ j y, xs[j]? = some y → w.cell? (ad.add j) = some y) ∧ ∀ y ∈ xs, y.oneCell' = true := by
  obtain ⟨hn, h2, h3, h4, h5⟩ := h
  suffices H : ∀ m, m ≤ n → ∃ xs, Chunks R k A w xs (L.take m) ∧ (∀ j y, xs[j]? = some y → w.cell? (ad.add j) = some y) ∧ ∀ y ∈ xs, y.oneCell' = true by
    obtain ⟨xs, h6⟩ := H n (Nat.le_refl _)
    rw [List.take_of_length_le (by omega)] at h6
    exact ⟨xs, h6⟩
  intro m
  induction m with
  | zero => intro _; exact ⟨[], by simpa using Chunks.nil A w, by simp, by simp⟩
  | succ m ih =>
    intro hm
    obtain ⟨xs, hc, hv, ho⟩ := ih (by omega)
    obtain ⟨B, off, e, hB, hA, hall⟩ := h5 (by omega)
    obtain rfl : ad = ⟨B, off, none⟩ := by simpa using e
    obtain ⟨cs, hr, hcell⟩ := hall m (by omega)
    have hmL : m < L.length := by omega
    have et : L.take (m + 1) = L.take m ++ [L.getD m default] := by rw [List.take_succ_eq_append_getElem hmL, getE _ _ hmL]
    have hl : xs.length = m * k := by rw [hc.1, List.length_take]; congr 1; omega
    refine ⟨xs ++ cs, by rw [et]; exact hc.snoc hR hr, fun j y hj => ?_, fun y hy => ?_⟩
    · rcases Nat.lt_or_ge j (m * k) with h' | h'
      · rw [List.getElem?_append_left (by omega)] at hj
        exact hv j y hj
      · rw [List.getElem?_append_right (by omega), hl] at hj
        have := hcell _ _ hj
        rw [add_lit]
        rwa [show off + m * k + (j - m * k) = off + j by omega] at this
    · rcases List.mem_append.1 hy with hy | hy
      · exact ho y hy
      · exact hR.one hr y hy
/-- A row of one's own that holds such cells is such a slice. -/
theorem sl_of_owns (hR : Firm R k) {A : Where} {u : World} {g0 : Nat} {e : TypeId} {v : Value} {xs : List Value} {L : List α} (h : u.ownsRow g0 e k v L.length xs) (hc : Chunks R k A u xs L) (hb : L.length * bytes ≤ 140737488351232) :
    ∃ a cap, v = .slice a L.length cap ∧ SlAt R k bytes (fun b => A b ∨ v.ownBlock = some b) u a L.length cap L := by
  rcases own_cells h with ⟨rfl, h0⟩ | ⟨g, cap, rfl, hcp, hB, hg, hcell⟩
  · obtain rfl : L = [] := List.length_eq_zero_iff.1 h0
    exact ⟨none, 0, rfl, SlAt.nil _ _ _ _ (fun _ => rfl)⟩
  · refine ⟨some ⟨g, 0, none⟩, cap, rfl, rfl, hcp, (fun h => by cases h), hb, fun _ => ⟨g, 0, rfl, hg, .inr rfl, fun i hi => ?_⟩⟩
    obtain ⟨cs, h1, h2⟩ := hc.2 i hi
    refine ⟨cs, hR.weak h1 (fun _ _ h => .inl h), fun j y hj => ?_⟩
    have hjk : j < k := by
      have := (List.getElem?_eq_some_iff.1 hj).1
      rwa [hR.len h1] at this
    have hlt : i * k + j < L.length * k := by
      have : (i + 1) * k ≤ L.length * k := Nat.mul_le_mul_right k hi
      rw [Nat.add_mul] at this
      omega
    rw [Nat.zero_add, (hcell (i * k + j) hlt).1, h2 j hjk, hj]
end
end Go.Proofs.Ytnlmipgmakmbiaa
