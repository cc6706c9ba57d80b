/- Amounts' texts as lists of bytes: which texts are digits, what number they tell, what a text tells, and an amount's text. Plain mathematics, no program. No condition. -/
import Derived.Test.YthnfdbbnmddnhaaDoorNum
import Derived.Lib.ItoaNum
namespace Go.Proofs.YthnfdbbnmddnhaaDoor

def isDig (c : UInt8) : Bool := decide (48 ≤ c.toNat) && decide (c.toNat ≤ 57)
/-- 1 to 16 digits, without a 0 ahead of others. -/
def isNum (l : List UInt8) : Bool := decide (1 ≤ l.length) && decide (l.length ≤ 16) && !(decide (1 < l.length) && l.head? == some 48) && l.all isDig
/-- The number that digits tell. -/
def numOf (l : List UInt8) : Nat := l.foldl (fun n c => 10 * n + (c.toNat - 48)) 0

theorem numOf_nil : numOf [] = 0 := rfl
theorem numOf_snoc (l : List UInt8) (c : UInt8) : numOf (l ++ [c]) = 10 * numOf l + (c.toNat - 48) := by simp [numOf]
theorem isDig_iff (c : UInt8) : isDig c = true ↔ 48 ≤ c.toNat ∧ c.toNat ≤ 57 := by simp [isDig]

theorem numOf_lt (l : List UInt8) (h : l.all isDig = true) : numOf l < 10 ^ l.length := by
  suffices hs : ∀ n : Nat, ∀ m : List UInt8, m.length = n → m.all isDig = true → numOf m < 10 ^ m.length from hs _ l rfl h
  intro n
  induction n with
  | zero =>
    intro m hm _
    obtain rfl := List.length_eq_zero_iff.1 hm
    decide
  | succ n ih =>
    intro m hm ha
    have hne : m ≠ [] := by intro e; subst e; simp at hm
    obtain ⟨r, c, rfl⟩ : ∃ r c, m = r ++ [c] := ⟨m.dropLast, m.getLast hne, (List.dropLast_concat_getLast hne).symm⟩
    simp only [List.all_append, List.all_cons, List.all_nil, Bool.and_true, Bool.and_eq_true] at ha
    have hr := ih r (by simpa using hm) ha.1
    have hc := (isDig_iff c).1 ha.2
    rw [numOf_snoc, List.length_append, List.length_singleton, Nat.pow_succ]
    omega
theorem numOf_le16 (l : List UInt8) (h : l.all isDig = true) (hl : l.length ≤ 16) : numOf l ≤ 9999999999999999 := by
  have h1 := numOf_lt l h
  have h2 : 10 ^ l.length ≤ 10 ^ 16 := Nat.pow_le_pow_right (by omega) hl
  have h3 : (10 : Nat) ^ 16 = 10000000000000000 := by decide
  omega
theorem isNum_parts {l : List UInt8} (h : isNum l = true) : 1 ≤ l.length ∧ l.length ≤ 16 ∧ l.all isDig = true := by
  simp only [isNum, Bool.and_eq_true, decide_eq_true_eq] at h
  exact ⟨h.1.1.1, h.1.1.2, h.2⟩
theorem isNum_le {l : List UInt8} (h : isNum l = true) : numOf l ≤ 9999999999999999 := numOf_le16 l (isNum_parts h).2.2 (isNum_parts h).2.1

/-- What a text tells: an amount and 0, or 0 and 2 (none), 3 (too great). -/
def tells (d : List UInt8) (unit : Nat) : Nat × Nat := if isNum d then (if 1125899906842624 / unit < numOf d then (0, 3) else (numOf d * unit, 0)) else (0, 2)
def parseL (l : List UInt8) : Nat × Nat := if l.getLast? = some 109 then tells l.dropLast 1 else tells l 1000
theorem tells_le (d : List UInt8) (unit : Nat) : (tells d unit).1 ≤ 1125899906842624 := by
  unfold tells
  split
  · split
    · exact Nat.zero_le _
    · rename_i h
      show numOf d * unit ≤ _
      exact Nat.le_trans (Nat.mul_le_mul_right _ (Nat.le_of_not_lt h)) (Nat.div_mul_le_self _ _)
  · exact Nat.zero_le _
theorem parseL_le (l : List UInt8) : (parseL l).1 ≤ 1125899906842624 := by unfold parseL; split <;> exact tells_le _ _
theorem tells_err (d : List UInt8) (unit : Nat) (h : (tells d unit).2 ≠ 0) : (tells d unit).1 = 0 := by
  unfold tells at *
  split
  · rename_i h1
    simp only [h1, if_true] at h
    split
    · rfl
    · rename_i h2
      simp [h2] at h
  · rfl
theorem parseL_err (l : List UInt8) (h : (parseL l).2 ≠ 0) : (parseL l).1 = 0 := by
  unfold parseL at *
  split
  · rename_i h1
    rw [if_pos h1] at h
    exact tells_err _ _ h
  · rename_i h1
    rw [if_neg h1] at h
    exact tells_err _ _ h

/-- An amount's text. -/
def printL (a : Int) : List UInt8 := if clampI a % 1000 = 0 then Lib.decDigits (clampI a / 1000).toNat else Lib.decDigits (clampI a).toNat ++ [109]

theorem take_snoc (s : ByteArray) (k : Nat) (h : k < s.size) : s.data.toList.take (k + 1) = s.data.toList.take k ++ [s[k]] := by
  rw [List.take_succ_eq_append_getElem (by simpa using h)]; rfl
theorem length_data (s : ByteArray) : s.data.toList.length = s.size := by rw [Array.length_toList]; rfl
theorem take_all (s : ByteArray) : s.data.toList.take s.size = s.data.toList := List.take_of_length_le (by rw [length_data]; exact Nat.le_refl _)
end Go.Proofs.YthnfdbbnmddnhaaDoor
