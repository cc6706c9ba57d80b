/- Words, numbers, labels and what is asked of them, as plain functions over texts' bytes. Plain mathematics, no program. No condition. -/
import Derived.Test.YtnlmipgmakmbiaaLBase
namespace Go.Proofs.Ytnlmipgmakmbiaa

abbrev Lab := ByteArray × ByteArray
/-- Something that is asked: the key, the Op, the values. -/
abbrev Ask := ByteArray × Int × List ByteArray
abbrev Ask.key (r : Ask) : ByteArray := r.1
abbrev Ask.op (r : Ask) : Int := r.2.1
abbrev Ask.vals (r : Ask) : List ByteArray := r.2.2

/-- p of every number below n. -/
def allTo (n : Nat) (p : Nat → Bool) : Bool := (List.range n).all p
theorem allTo_true {n : Nat} {p : Nat → Bool} (h : ∀ j, j < n → p j = true) : allTo n p = true := by
  simp only [allTo, List.all_eq_true, List.mem_range]; exact h
theorem allTo_false {n k : Nat} {p : Nat → Bool} (hk : k < n) (h : p k = false) : allTo n p = false := by
  cases e : allTo n p
  · rfl
  · simp only [allTo, List.all_eq_true, List.mem_range] at e
    rw [e k hk] at h; cases h
theorem allTo_iff {n : Nat} {p : Nat → Bool} : allTo n p = true ↔ ∀ j, j < n → p j = true := by
  simp [allTo, List.all_eq_true, List.mem_range]

def isDig (c : UInt8) : Bool := decide (48 ≤ c.toNat) && decide (c.toNat ≤ 57)
def wChar (c : UInt8) : Bool := decide (97 ≤ c.toNat) && decide (c.toNat ≤ 122) || isDig c || decide (c.toNat = 45) || decide (c.toNat = 46) || decide (c.toNat = 47)
def byteAt (s : ByteArray) (i : Nat) : UInt8 := s.data.toList.getD i 0
def wordB (s : ByteArray) : Bool := decide (1 ≤ s.size) && decide (s.size ≤ 32) && allTo s.size fun i => wChar (byteAt s i)
def valB (s : ByteArray) : Bool := decide (s.size = 0) || wordB s
/-- 1 to 15 digits, without a 0 ahead of others. -/
def numB (s : ByteArray) : Bool := decide (1 ≤ s.size) && decide (s.size ≤ 15) && !(decide (1 < s.size) && decide ((byteAt s 0).toNat = 48)) && allTo s.size fun i => isDig (byteAt s i)
/-- The number that the first k digits tell. -/
def numTo (s : ByteArray) : Nat → Nat
  | 0 => 0
  | k + 1 => 10 * numTo s k + ((byteAt s k).toNat - 48)
def numN (s : ByteArray) : Nat := numTo s s.size

def sLt (a b : ByteArray) : Bool := Op.bytesLess a.toList b.toList
def sEq (a b : ByteArray) : Bool := a.toList == b.toList

theorem byteAt_get (s : ByteArray) (k : Nat) (h : k < s.size) : byteAt s k = s[k] := by
  unfold byteAt
  rw [List.getD_eq_getElem?_getD, List.getElem?_eq_getElem (by simpa using h)]
  rfl
theorem sEq_iff (a b : ByteArray) : sEq a b = true ↔ a = b := by
  unfold sEq
  rw [beq_iff_eq, ByteArray.toList_eq, ByteArray.toList_eq]
  constructor
  · intro h; obtain ⟨⟨a⟩⟩ := a; obtain ⟨⟨b⟩⟩ := b; simp_all
  · intro h; rw [h]
theorem sEq_self (a : ByteArray) : sEq a a = true := (sEq_iff a a).2 rfl
theorem sEq_false {a b : ByteArray} (h : a ≠ b) : sEq a b = false := by
  cases e : sEq a b
  · rfl
  · exact absurd ((sEq_iff a b).1 e) h

/-- The label at a place is right: key and value words, the key above the one before. -/
def labOk (L : List Lab) (i : Nat) : Bool := wordB (L.getD i default).1 && valB (L.getD i default).2 && (decide (i = 0) || sLt (L.getD (i - 1) default).1 (L.getD i default).1)
def checkI (L : List Lab) : Int := if 64 < L.length then 3 else if allTo L.length (labOk L) then 0 else 20
/-- May the values stand with the Op? -/
def rightV (op : Int) (V : List ByteArray) : Bool :=
  if op = 1 ∨ op = 2 then decide (1 ≤ V.length) && decide (V.length ≤ 64) && allTo V.length (fun i => valB (V.getD i default))
  else if op = 3 ∨ op = 4 then decide (V.length = 0)
  else if op = 5 ∨ op = 6 then decide (V.length = 1) && numB (V.getD 0 default)
  else false
def askOk (R : List Ask) (i : Nat) : Bool := wordB (R.getD i default).key && rightV (R.getD i default).op (R.getD i default).vals
def checkR (R : List Ask) : Int := if 64 < R.length then 3 else if allTo R.length (askOk R) then 0 else 21

/-- The first label of a key. -/
def getL (L : List Lab) (key : ByteArray) : ByteArray × Bool := match L.find? (fun x => sEq x.1 key) with | some x => (x.2, true) | none => (default, false)
def hasL (V : List ByteArray) (s : ByteArray) : Bool := V.any fun v => sEq v s
def meetsV (v : ByteArray) (there : Bool) (op : Int) (V : List ByteArray) : Bool :=
  if op = 1 then there && hasL V v
  else if op = 2 then !(there && hasL V v)
  else if op = 3 then there
  else if op = 4 then !there
  else if op = 5 then there && numB v && (decide (V.length = 1) && numB (V.getD 0 default)) && decide (numN (V.getD 0 default) < numN v)
  else if op = 6 then there && numB v && (decide (V.length = 1) && numB (V.getD 0 default)) && decide (numN v < numN (V.getD 0 default))
  else false
def meetsL (L : List Lab) (r : Ask) : Bool := meetsV (getL L r.key).1 (getL L r.key).2 r.op r.vals
def matchL (L : List Lab) (R : List Ask) : Bool := allTo R.length fun i => meetsL L (R.getD i default)
def sameL (A B : List Lab) (key : ByteArray) : Bool := (getL A key).2 && (getL B key).2 && sEq (getL A key).1 (getL B key).1
end Go.Proofs.Ytnlmipgmakmbiaa
