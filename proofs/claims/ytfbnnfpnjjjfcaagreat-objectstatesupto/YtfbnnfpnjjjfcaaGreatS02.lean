/- Words, numbers, labels and what is asked of them, as plain functions over texts' bytes, and its like. No condition beyond what each says. -/
import Derived.Test.YtfbnnfpnjjjfcaaGreatS01
namespace Go.Proofs.YtfbnnfpnjjjfcaaGreat
set_option maxHeartbeats 16000000
set_option maxRecDepth 100000
abbrev Lab := ByteArray × ByteArray
abbrev Ask := ByteArray × Int × List ByteArray
abbrev Ask.key (r : Ask) : ByteArray := r.1
abbrev Ask.op (r : Ask) : Int := r.2.1
abbrev Ask.vals (r : Ask) : List ByteArray := r.2.2
def allTo (n : Nat) (p : Nat → Bool) : Bool := (List.range n).all p
theorem allTo_true {n : Nat} {p : Nat → Bool} (h : ∀ j, j < n → p j = true) : allTo n p = true := by
 simp only [allTo, List.all_eq_true, List.mem_range]; exact h
theorem allTo_false {n k : Nat} {p : Nat → Bool} (hk : k < n) (h : p k = false) : allTo n p = false := by
 cases e : allTo n p
 ·
  rfl
 ·
  simp only [allTo, List.all_eq_true, List.mem_range] at e
  rw [e k hk] at h; cases h
theorem allTo_iff {n : Nat} {p : Nat → Bool} : allTo n p = true ↔ ∀ j, j < n → p j = true := by
 simp [allTo, List.all_eq_true, List.mem_range]
def isDig (c : UInt8) : Bool := decide (48 ≤ c.toNat) && decide (c.toNat ≤ 57)
def wChar (c : UInt8) : Bool := decide (97 ≤ c.toNat) && decide (c.toNat ≤ 122) || isDig c || decide (c.toNat = 45) || decide (c.toNat = 46) || decide (c.toNat = 47)
def byteAt (s : ByteArray) (i : Nat) : UInt8 := s.data.toList.getD i 0
def wordB (s : ByteArray) : Bool := decide (1 ≤ s.size) && decide (s.size ≤ 32) && allTo s.size fun i => wChar (byteAt s i)
def valB (s : ByteArray) : Bool := decide (s.size = 0) || wordB s
def numB (s : ByteArray) : Bool := decide (1 ≤ s.size) && decide (s.size ≤ 15) && !(decide (1 < s.size) && decide ((byteAt s 0).toNat = 48)) && allTo s.size fun i => isDig (byteAt s i)
def numTo (s : ByteArray) : Nat → Nat
 | 0 => 0
 | k + 1 => 10 * numTo s k + ((byteAt s k).toNat - 48)
def numN (s : ByteArray) : Nat := numTo s s.size
def sLt (a b : ByteArray) : Bool := Op.bytesLess a.toList b.toList
def sEq (a b : ByteArray) : Bool := a.toList == b.toList
theorem byteAt_get (s : ByteArray) (k : Nat) (h : k < s.size) : byteAt s k = s[k] := by
 unfold byteAt
 rw [List.getD_eq_getElem?_getD, List.getElem?_eq_getElem (by simpa using h)]
 rfl
theorem sEq_iff (a b : ByteArray) : sEq a b = true ↔ a = b := by
 unfold sEq
 rw [beq_iff_eq, ByteArray.toList_eq, ByteArray.toList_eq]
 constructor
 ·
  intro h; obtain ⟨⟨a⟩⟩ := a; obtain ⟨⟨b⟩⟩ := b; simp_all
 ·
  intro h; rw [h]
theorem sEq_self (a : ByteArray) : sEq a a = true := (sEq_iff a a).2 rfl
theorem sEq_false {a b : ByteArray} (h : a ≠ b) : sEq a b = false := by
 cases e : sEq a b
 ·
  rfl
 ·
  exact absurd ((sEq_iff a b).1 e) h
def labOk (L : List Lab) (i : Nat) : Bool := wordB (L.getD i default).1 && valB (L.getD i default).2 && (decide (i = 0) || sLt (L.getD (i - 1) default).1 (L.getD i default).1)
def checkI (L : List Lab) : Int := if 64 < L.length then 3 else if allTo L.length (labOk L) then 0 else 20
def rightV (op : Int) (V : List ByteArray) : Bool :=
 if op = 1 ∨ op = 2 then decide (1 ≤ V.length) && decide (V.length ≤ 64) && allTo V.length (fun i => valB (V.getD i default))
 else if op = 3 ∨ op = 4 then decide (V.length = 0)
 else if op = 5 ∨ op = 6 then decide (V.length = 1) && numB (V.getD 0 default)
 else false
def askOk (R : List Ask) (i : Nat) : Bool := wordB (R.getD i default).key && rightV (R.getD i default).op (R.getD i default).vals
def checkR (R : List Ask) : Int := if 64 < R.length then 3 else if allTo R.length (askOk R) then 0 else 21
end Go.Proofs.YtfbnnfpnjjjfcaaGreat

namespace Go.Proofs.YtfbnnfpnjjjfcaaGreat
set_option maxHeartbeats 16000000
set_option maxRecDepth 100000
open Tryz Go.RowKit
abbrev Tnt := ByteArray × ByteArray × Int
abbrev Bear := ByteArray × ByteArray × Bool × Int
def encT (x : Tnt) : List Value := [.string x.1, .string x.2.1, .int .i64 x.2.2]
def encB (b : Bear) : List Value := [.string b.1, .string b.2.1, .bool b.2.2.1, .int .i64 b.2.2.2]
def okT (x : Tnt) : Prop := x.1.size ≤ 140737488355328 ∧ x.2.1.size ≤ 140737488355328
def okB (b : Bear) : Prop := b.1.size ≤ 140737488355328 ∧ b.2.1.size ≤ 140737488355328
abbrev TntsAt := RowAt encT 3 okT
abbrev BearsAt := RowAt encB 4 okB
theorem TntsAt.get {w : World} {a : Option Addr} {L : List Tnt} (h : TntsAt w a L) {k : Nat} (hk : k < L.length) : ∃ B off, a = some ⟨B, off, none⟩ ∧ B < w.heap.size ∧ w.cell? ⟨B, off + k * 3, none⟩ = some (.string (L.getD k default).1) ∧ w.cell? ⟨B, off + k * 3 + 1, none⟩ = some (.string (L.getD k default).2.1) ∧ w.cell? ⟨B, off + k * 3 + 2, none⟩ = some (.int .i64 (L.getD k default).2.2) ∧ okT (L.getD k default) := by
 obtain ⟨B, off, e, hB, hc, ho⟩ := RowAt.get h hk
 exact ⟨B, off, e, hB, hc 0 _ rfl, hc 1 _ rfl, hc 2 _ rfl, ho⟩
theorem BearsAt.get {w : World} {a : Option Addr} {L : List Bear} (h : BearsAt w a L) {k : Nat} (hk : k < L.length) : ∃ B off, a = some ⟨B, off, none⟩ ∧ B < w.heap.size ∧ w.cell? ⟨B, off + k * 4, none⟩ = some (.string (L.getD k default).1) ∧ w.cell? ⟨B, off + k * 4 + 1, none⟩ = some (.string (L.getD k default).2.1) ∧ w.cell? ⟨B, off + k * 4 + 2, none⟩ = some (.bool (L.getD k default).2.2.1) ∧ w.cell? ⟨B, off + k * 4 + 3, none⟩ = some (.int .i64 (L.getD k default).2.2.2) ∧ okB (L.getD k default) := by
 obtain ⟨B, off, e, hB, hc, ho⟩ := RowAt.get h hk
 exact ⟨B, off, e, hB, hc 0 _ rfl, hc 1 _ rfl, hc 2 _ rfl, hc 3 _ rfl, ho⟩
def sNil (s : ByteArray) : Bool := s.toList.isEmpty
def tEq (x y : Tnt) : Bool := sEq x.1 y.1 && (sEq x.2.1 y.2.1 && (x.2.2 == y.2.2))
theorem any_no {α : Type} [Inhabited α] {L : List α} {p : α → Bool} (h : ∀ j, j < L.length → p (L.getD j default) = false) : L.any p = false := by
 rw [List.any_eq_false]
 intro x hx
 obtain ⟨j, hj, rfl⟩ := List.mem_iff_getElem.1 hx
 have := h j hj
 rw [getE _ _ hj] at this
 simp [this]
theorem any_yes {α : Type} [Inhabited α] {L : List α} {p : α → Bool} {k : Nat} (hk : k < L.length) (hy : p (L.getD k default) = true) : L.any p = true := by
 rw [List.any_eq_true]
 rw [getE _ _ hk] at hy
 exact ⟨_, List.getElem_mem hk, hy⟩
theorem take_succ {α : Type} [Inhabited α] {L : List α} {k : Nat} (hk : k < L.length) : L.take (k + 1) = L.take k ++ [L.getD k default] := by
 rw [List.take_succ_eq_append_getElem hk, getE _ _ hk]
end Go.Proofs.YtfbnnfpnjjjfcaaGreat

