/- Taints, what is borne, and what bears what, as plain functions; how slices of them lie in memory. No program. No condition. -/
import Derived.Test.YtnlmipgmakmbiaaLPlain
import Derived.Test.YtnlmipgmakmbiaaRRow
namespace Go.Proofs.Ytnlmipgmakmbiaa
open Go.RowKit

/-- A taint: key, value, effect. What is borne: key, value, Any, effect. -/
abbrev Tnt := ByteArray × ByteArray × Int
abbrev Bear := ByteArray × ByteArray × Bool × Int
def encT (x : Tnt) : List Value := [.string x.1, .string x.2.1, .int .i64 x.2.2]
def encB (b : Bear) : List Value := [.string b.1, .string b.2.1, .bool b.2.2.1, .int .i64 b.2.2.2]
def okT (x : Tnt) : Prop := x.1.size ≤ 140737488355328 ∧ x.2.1.size ≤ 140737488355328
def okB (b : Bear) : Prop := b.1.size ≤ 140737488355328 ∧ b.2.1.size ≤ 140737488355328
theorem encT_len (x : Tnt) : (encT x).length = 3 := rfl
theorem encB_len (b : Bear) : (encB b).length = 4 := rfl
theorem encT_one (x : Tnt) : ∀ u ∈ encT x, u.oneCell' = true := by simp [encT, Value.oneCell']
theorem encB_one (x : Bear) : ∀ u ∈ encB x, u.oneCell' = true := by simp [encB, Value.oneCell']
abbrev TntsAt := RowAt encT 3 okT
abbrev BearsAt := RowAt encB 4 okB

theorem TntsAt.get {w : World} {a : Option Addr} {L : List Tnt} (h : TntsAt w a L) {k : Nat} (hk : k < L.length) : ∃ B off, a = some ⟨B, off, none⟩ ∧ B < w.heap.size ∧ w.cell? ⟨B, off + k * 3, none⟩ = some (.string (L.getD k default).1) ∧ w.cell? ⟨B, off + k * 3 + 1, none⟩ = some (.string (L.getD k default).2.1) ∧ w.cell? ⟨B, off + k * 3 + 2, none⟩ = some (.int .i64 (L.getD k default).2.2) ∧ okT (L.getD k default) := by
  obtain ⟨B, off, e, hB, hc, ho⟩ := RowAt.get h hk
  exact ⟨B, off, e, hB, hc 0 _ rfl, hc 1 _ rfl, hc 2 _ rfl, ho⟩
theorem BearsAt.get {w : World} {a : Option Addr} {L : List Bear} (h : BearsAt w a L) {k : Nat} (hk : k < L.length) : ∃ B off, a = some ⟨B, off, none⟩ ∧ B < w.heap.size ∧ w.cell? ⟨B, off + k * 4, none⟩ = some (.string (L.getD k default).1) ∧ w.cell? ⟨B, off + k * 4 + 1, none⟩ = some (.string (L.getD k default).2.1) ∧ w.cell? ⟨B, off + k * 4 + 2, none⟩ = some (.bool (L.getD k default).2.2.1) ∧ w.cell? ⟨B, off + k * 4 + 3, none⟩ = some (.int .i64 (L.getD k default).2.2.2) ∧ okB (L.getD k default) := by
  obtain ⟨B, off, e, hB, hc, ho⟩ := RowAt.get h hk
  exact ⟨B, off, e, hB, hc 0 _ rfl, hc 1 _ rfl, hc 2 _ rfl, hc 3 _ rfl, ho⟩

def sNil (s : ByteArray) : Bool := s.toList.isEmpty
/-- Two taints are one. -/
def tEq (x y : Tnt) : Bool := sEq x.1 y.1 && (sEq x.2.1 y.2.1 && (x.2.2 == y.2.2))
def bEq (x y : Bear) : Bool := sEq x.1 y.1 && (sEq x.2.1 y.2.1 && ((x.2.2.1 == y.2.2.1) && (x.2.2.2 == y.2.2.2)))
theorem tEq_self (x : Tnt) : tEq x x = true := by simp [tEq, sEq_self]
theorem bEq_self (x : Bear) : bEq x x = true := by simp [bEq, sEq_self]
/-- What b bears, in the document's words. -/
def bearsB (b : Bear) (t : Tnt) : Bool :=
  (b.2.2.2 == 0 || b.2.2.2 == t.2.2) && (sEq b.1 t.1 || (sNil b.1 && b.2.2.1)) && (b.2.2.1 || sEq b.2.1 t.2.1)
def meantT (b : Bear) (t : Tnt) : Tnt :=
  (if b.2.2.1 && sNil b.1 then t.1 else b.1, if b.2.2.1 then t.2.1 else b.2.1, if b.2.2.2 == 0 then t.2.2 else b.2.2.2)
theorem meant_bears (b : Bear) (t : Tnt) : tEq (meantT b t) t = bearsB b t := by
  obtain ⟨bk, bv, ba, be⟩ := b
  obtain ⟨tk, tv, te⟩ := t
  simp only [meantT, tEq, bearsB]
  cases ba <;> cases hn : sNil bk <;> cases h0 : (be == 0) <;> simp [sEq_self, Bool.and_comm, Bool.and_assoc, Bool.and_left_comm]
def borneB (B : List Bear) (t : Tnt) : Bool := B.any fun b => bearsB b t
/-- A taint of that effect that nothing bears. -/
def openT (e : Int) (B : List Bear) (t : Tnt) : Bool := (t.2.2 == e) && !borneB B t
def keptT (L : List Tnt) (B : List Bear) : Tnt × Bool := match L.find? (openT 1 B) with | some t => (t, true) | none => (default, false)
def shyN (L : List Tnt) (B : List Bear) : Nat := L.countP (openT 2 B)

theorem find_no {α : Type} [Inhabited α] {L : List α} {p : α → Bool} (h : ∀ j, j < L.length → p (L.getD j default) = false) : L.find? p = none := by
  rw [List.find?_eq_none]
  intro x hx
  obtain ⟨j, hj, rfl⟩ := List.mem_iff_getElem.1 hx
  have := h j hj
  rw [getE _ _ hj] at this
  simp [this]
theorem find_yes {α : Type} [Inhabited α] {L : List α} {p : α → Bool} {k : Nat} (hk : k < L.length) (h : ∀ j, j < k → p (L.getD j default) = false) (hy : p (L.getD k default) = true) : L.find? p = some (L.getD k default) := by
  rw [List.find?_eq_some_iff_getElem]
  refine ⟨hy, k, hk, ?_, ?_⟩
  · rw [getE _ _ hk]
  · intro j hj
    have := h j hj
    rw [getE _ _ (by omega)] at this
    simp [this]
theorem any_no {α : Type} [Inhabited α] {L : List α} {p : α → Bool} (h : ∀ j, j < L.length → p (L.getD j default) = false) : L.any p = false := by
  rw [List.any_eq_false]
  intro x hx
  obtain ⟨j, hj, rfl⟩ := List.mem_iff_getElem.1 hx
  have := h j hj
  rw [getE _ _ hj] at this
  simp [this]
theorem any_yes {α : Type} [Inhabited α] {L : List α} {p : α → Bool} {k : Nat} (hk : k < L.length) (hy : p (L.getD k default) = true) : L.any p = true := by
  rw [List.any_eq_true]
  rw [getE _ _ hk] at hy
  exact ⟨_, List.getElem_mem hk, hy⟩
theorem take_succ {α : Type} [Inhabited α] {L : List α} {k : Nat} (hk : k < L.length) : L.take (k + 1) = L.take k ++ [L.getD k default] := by
  rw [List.take_succ_eq_append_getElem hk, getE _ _ hk]
theorem count_step {α : Type} [Inhabited α] {L : List α} {p : α → Bool} {k : Nat} (hk : k < L.length) : (L.take (k + 1)).countP p = (L.take k).countP p + (if p (L.getD k default) then 1 else 0) := by
  rw [take_succ hk, List.countP_append]
  simp [List.countP_cons]
theorem count_le {α : Type} {L : List α} {p : α → Bool} {k : Nat} : (L.take k).countP p ≤ k := by
  have := List.countP_le_length (p := p) (l := L.take k)
  rw [List.length_take] at this
  omega
end Go.Proofs.Ytnlmipgmakmbiaa
