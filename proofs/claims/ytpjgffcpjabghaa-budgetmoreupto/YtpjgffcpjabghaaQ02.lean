/- Words, numbers, labels and what is asked of them, as plain functions over texts' bytes. Plain mathematics, no program. No condition. Taints, what is borne, and what bears what, as plain functions; how slices of them lie in memory. No program. No condition. -/
import Derived.Test.YtpjgffcpjabghaaQ01
namespace Go.Proofs.Ytpjgffcpjabghaa

abbrev Lab := ByteArray × ByteArray
/-- Something that is asked: the key, the Op, the values. -/
abbrev Ask := ByteArray × Int × List ByteArray
abbrev Ask.key (r : Ask) : ByteArray := r.1
abbrev Ask.op (r : Ask) : Int := r.2.1
abbrev Ask.vals (r : Ask) : List ByteArray := r.2.2

/-- p of every number below n. -/
def allTo (n : Nat) (p : Nat → Bool) : Bool := (List.range n).all p
theorem allTo_true {n : Nat} {p : Nat → Bool} (h : ∀ j, j < n → p j = true) : allTo n p = true := by
  simp only [allTo, List.all_eq_true, List.mem_range]; exact h
theorem allTo_false {n k : Nat} {p : Nat → Bool} (hk : k < n) (h : p k = false) : allTo n p = false := by
  cases e : allTo n p
  · rfl
  · simp only [allTo, List.all_eq_true, List.mem_range] at e
    rw [e k hk] at h; cases h
theorem allTo_iff {n : Nat} {p : Nat → Bool} : allTo n p = true ↔ ∀ j, j < n → p j = true := by
  simp [allTo, List.all_eq_true, List.mem_range]

def isDig (c : UInt8) : Bool := decide (48 ≤ c.toNat) && decide (c.toNat ≤ 57)
def wChar (c : UInt8) : Bool := decide (97 ≤ c.toNat) && decide (c.toNat ≤ 122) || isDig c || decide (c.toNat = 45) || decide (c.toNat = 46) || decide (c.toNat = 47)
def byteAt (s : ByteArray) (i : Nat) : UInt8 := s.data.toList.getD i 0
def wordB (s : ByteArray) : Bool := decide (1 ≤ s.size) && decide (s.size ≤ 32) && allTo s.size fun i => wChar (byteAt s i)
def valB (s : ByteArray) : Bool := decide (s.size = 0) || wordB s
/-- 1 to 15 digits, without a 0 ahead of others. -/
def numB (s : ByteArray) : Bool := decide (1 ≤ s.size) && decide (s.size ≤ 15) && !(decide (1 < s.size) && decide ((byteAt s 0).toNat = 48)) && allTo s.size fun i => isDig (byteAt s i)
/-- The number that the first k digits tell. -/
def numTo (s : ByteArray) : Nat → Nat
  | 0 => 0
  | k + 1 => 10 * numTo s k + ((byteAt s k).toNat - 48)
def numN (s : ByteArray) : Nat := numTo s s.size

def sLt (a b : ByteArray) : Bool := Op.bytesLess a.toList b.toList
def sEq (a b : ByteArray) : Bool := a.toList == b.toList

theorem byteAt_get (s : ByteArray) (k : Nat) (h : k < s.size) : byteAt s k = s[k] := by
  unfold byteAt
  rw [List.getD_eq_getElem?_getD, List.getElem?_eq_getElem (by simpa using h)]
  rfl
theorem sEq_iff (a b : ByteArray) : sEq a b = true ↔ a = b := by
  unfold sEq
  rw [beq_iff_eq, ByteArray.toList_eq, ByteArray.toList_eq]
  constructor
  · intro h; obtain ⟨⟨a⟩⟩ := a; obtain ⟨⟨b⟩⟩ := b; simp_all
  · intro h; rw [h]
theorem sEq_self (a : ByteArray) : sEq a a = true := (sEq_iff a a).2 rfl
theorem sEq_false {a b : ByteArray} (h : a ≠ b) : sEq a b = false := by
  cases e : sEq a b
  · rfl
  · exact absurd ((sEq_iff a b).1 e) h

/-- The label at a place is right: key and value words, the key above the one before. -/
def labOk (L : List Lab) (i : Nat) : Bool := wordB (L.getD i default).1 && valB (L.getD i default).2 && (decide (i = 0) || sLt (L.getD (i - 1) default).1 (L.getD i default).1)
def checkI (L : List Lab) : Int := if 64 < L.length then 3 else if allTo L.length (labOk L) then 0 else 20
/-- May the values stand with the Op? -/
def rightV (op : Int) (V : List ByteArray) : Bool :=
  if op = 1 ∨ op = 2 then decide (1 ≤ V.length) && decide (V.length ≤ 64) && allTo V.length (fun i => valB (V.getD i default))
  else if op = 3 ∨ op = 4 then decide (V.length = 0)
  else if op = 5 ∨ op = 6 then decide (V.length = 1) && numB (V.getD 0 default)
  else false
def askOk (R : List Ask) (i : Nat) : Bool := wordB (R.getD i default).key && rightV (R.getD i default).op (R.getD i default).vals
def checkR (R : List Ask) : Int := if 64 < R.length then 3 else if allTo R.length (askOk R) then 0 else 21

/-- The first label of a key. -/
def getL (L : List Lab) (key : ByteArray) : ByteArray × Bool := match L.find? (fun x => sEq x.1 key) with | some x => (x.2, true) | none => (default, false)
def hasL (V : List ByteArray) (s : ByteArray) : Bool := V.any fun v => sEq v s
def meetsV (v : ByteArray) (there : Bool) (op : Int) (V : List ByteArray) : Bool :=
  if op = 1 then there && hasL V v
  else if op = 2 then !(there && hasL V v)
  else if op = 3 then there
  else if op = 4 then !there
  else if op = 5 then there && numB v && (decide (V.length = 1) && numB (V.getD 0 default)) && decide (numN (V.getD 0 default) < numN v)
  else if op = 6 then there && numB v && (decide (V.length = 1) && numB (V.getD 0 default)) && decide (numN v < numN (V.getD 0 default))
  else false
def meetsL (L : List Lab) (r : Ask) : Bool := meetsV (getL L r.key).1 (getL L r.key).2 r.op r.vals
def matchL (L : List Lab) (R : List Ask) : Bool := allTo R.length fun i => meetsL L (R.getD i default)
def sameL (A B : List Lab) (key : ByteArray) : Bool := (getL A key).2 && (getL B key).2 && sEq (getL A key).1 (getL B key).1
end Go.Proofs.Ytpjgffcpjabghaa
namespace Go.Proofs.Ytpjgffcpjabghaa
open Go.RowKit

/-- A taint: key, value, effect. What is borne: key, value, Any, effect. -/
abbrev Tnt := ByteArray × ByteArray × Int
abbrev Bear := ByteArray × ByteArray × Bool × Int
def encT (x : Tnt) : List Value := [.string x.1, .string x.2.1, .int .i64 x.2.2]
def encB (b : Bear) : List Value := [.string b.1, .string b.2.1, .bool b.2.2.1, .int .i64 b.2.2.2]
def okT (x : Tnt) : Prop := x.1.size ≤ 140737488355328 ∧ x.2.1.size ≤ 140737488355328
def okB (b : Bear) : Prop := b.1.size ≤ 140737488355328 ∧ b.2.1.size ≤ 140737488355328
theorem encT_len (x : Tnt) : (encT x).length = 3 := rfl
theorem encB_len (b : Bear) : (encB b).length = 4 := rfl
theorem encT_one (x : Tnt) : ∀ u ∈ encT x, u.oneCell' = true := by simp [encT, Value.oneCell']
theorem encB_one (x : Bear) : ∀ u ∈ encB x, u.oneCell' = true := by simp [encB, Value.oneCell']
abbrev TntsAt := RowAt encT 3 okT
abbrev BearsAt := RowAt encB 4 okB

theorem TntsAt.get {w : World} {a : Option Addr} {L : List Tnt} (h : TntsAt w a L) {k : Nat} (hk : k < L.length) : ∃ B off, a = some ⟨B, off, none⟩ ∧ B < w.heap.size ∧ w.cell? ⟨B, off + k * 3, none⟩ = some (.string (L.getD k default).1) ∧ w.cell? ⟨B, off + k * 3 + 1, none⟩ = some (.string (L.getD k default).2.1) ∧ w.cell? ⟨B, off + k * 3 + 2, none⟩ = some (.int .i64 (L.getD k default).2.2) ∧ okT (L.getD k default) := by
  obtain ⟨B, off, e, hB, hc, ho⟩ := RowAt.get h hk
  exact ⟨B, off, e, hB, hc 0 _ rfl, hc 1 _ rfl, hc 2 _ rfl, ho⟩
theorem BearsAt.get {w : World} {a : Option Addr} {L : List Bear} (h : BearsAt w a L) {k : Nat} (hk : k < L.length) : ∃ B off, a = some ⟨B, off, none⟩ ∧ B < w.heap.size ∧ w.cell? ⟨B, off + k * 4, none⟩ = some (.string (L.getD k default).1) ∧ w.cell? ⟨B, off + k * 4 + 1, none⟩ = some (.string (L.getD k default).2.1) ∧ w.cell? ⟨B, off + k * 4 + 2, none⟩ = some (.bool (L.getD k default).2.2.1) ∧ w.cell? ⟨B, off + k * 4 + 3, none⟩ = some (.int .i64 (L.getD k default).2.2.2) ∧ okB (L.getD k default) := by
  obtain ⟨B, off, e, hB, hc, ho⟩ := RowAt.get h hk
  exact ⟨B, off, e, hB, hc 0 _ rfl, hc 1 _ rfl, hc 2 _ rfl, hc 3 _ rfl, ho⟩

def sNil (s : ByteArray) : Bool := s.toList.isEmpty
/-- Two taints are one. -/
def tEq (x y : Tnt) : Bool := sEq x.1 y.1 && (sEq x.2.1 y.2.1 && (x.2.2 == y.2.2))
def bEq (x y : Bear) : Bool := sEq x.1 y.1 && (sEq x.2.1 y.2.1 && ((x.2.2.1 == y.2.2.1) && (x.2.2.2 == y.2.2.2)))
theorem tEq_self (x : Tnt) : tEq x x = true := by simp [tEq, sEq_self]
theorem bEq_self (x : Bear) : bEq x x = true := by simp [bEq, sEq_self]
/-- What b bears, in the document's words. -/
def bearsB (b : Bear) (t : Tnt) : Bool :=
  (b.2.2.2 == 0 || b.2.2.2 == t.2.2) && (sEq b.1 t.1 || (sNil b.1 && b.2.2.1)) && (b.2.2.1 || sEq b.2.1 t.2.1)
def meantT (b : Bear) (t : Tnt) : Tnt :=
  (if b.2.2.1 && sNil b.1 then t.1 else b.1, if b.2.2.1 then t.2.1 else b.2.1, if b.2.2.2 == 0 then t.2.2 else b.2.2.2)
theorem meant_bears (b : Bear) (t : Tnt) : tEq (meantT b t) t = bearsB b t := by
  obtain ⟨bk, bv, ba, be⟩ := b
  obtain ⟨tk, tv, te⟩ := t
  simp only [meantT, tEq, bearsB]
  cases ba <;> cases hn : sNil bk <;> cases h0 : (be == 0) <;> simp [sEq_self, Bool.and_comm, Bool.and_assoc, Bool.and_left_comm]
def borneB (B : List Bear) (t : Tnt) : Bool := B.any fun b => bearsB b t
/-- A taint of that effect that nothing bears. -/
def openT (e : Int) (B : List Bear) (t : Tnt) : Bool := (t.2.2 == e) && !borneB B t
def keptT (L : List Tnt) (B : List Bear) : Tnt × Bool := match L.find? (openT 1 B) with | some t => (t, true) | none => (default, false)
def shyN (L : List Tnt) (B : List Bear) : Nat := L.countP (openT 2 B)

theorem find_no {α : Type} [Inhabited α] {L : List α} {p : α → Bool} (h : ∀ j, j < L.length → p (L.getD j default) = false) : L.find? p = none := by
  rw [List.find?_eq_none]
  intro x hx
  obtain ⟨j, hj, rfl⟩ := List.mem_iff_getElem.1 hx
  have := h j hj
  rw [getE _ _ hj] at this
  simp [this]
theorem find_yes {α : Type} [Inhabited α] {L : List α} {p : α → Bool} {k : Nat} (hk : k < L.length) (h : ∀ j, j < k → p (L.getD j default) = false) (hy : p (L.getD k default) = true) : L.find? p = some (L.getD k default) := by
  rw [List.find?_eq_some_iff_getElem]
  refine ⟨hy, k, hk, ?_, ?_⟩
  · rw [getE _ _ hk]
  · intro j hj
    have := h j hj
    rw [getE _ _ (by omega)] at this
    simp [this]
theorem any_no {α : Type} [Inhabited α] {L : List α} {p : α → Bool} (h : ∀ j, j < L.length → p (L.getD j default) = false) : L.any p = false := by
  rw [List.any_eq_false]
  intro x hx
  obtain ⟨j, hj, rfl⟩ := List.mem_iff_getElem.1 hx
  have := h j hj
  rw [getE _ _ hj] at this
  simp [this]
theorem any_yes {α : Type} [Inhabited α] {L : List α} {p : α → Bool} {k : Nat} (hk : k < L.length) (hy : p (L.getD k default) = true) : L.any p = true := by
  rw [List.any_eq_true]
  rw [getE _ _ hk] at hy
  exact ⟨_, List.getElem_mem hk, hy⟩
theorem take_succ {α : Type} [Inhabited α] {L : List α} {k : Nat} (hk : k < L.length) : L.take (k + 1) = L.take k ++ [L.getD k default] := by
  rw [List.take_succ_eq_append_getElem hk, getE _ _ hk]
theorem count_step {α : Type} [Inhabited α] {L : List α} {p : α → Bool} {k : Nat} (hk : k < L.length) : (L.take (k + 1)).countP p = (L.take k).countP p + (if p (L.getD k default) then 1 else 0) := by
  rw [take_succ hk, List.countP_append]
  simp [List.countP_cons]
theorem count_le {α : Type} {L : List α} {p : α → Bool} {k : Nat} : (L.take k).countP p ≤ k := by
  have := List.countP_le_length (p := p) (l := L.take k)
  rw [List.length_take] at this
  omega
end Go.Proofs.Ytpjgffcpjabghaa
