/- A value is empty, or a word: the two ways of the test. Plain mathematics. No condition. -/
import Derived.Test.YtpehmobedcflnaaLCheck
namespace Go.Proofs.Ytpehmobedcflnaa
open Go.RowKit
theorem val_split (s : ByteArray) : (s.toList.isEmpty = true ∧ Hid (valB s = true)) ∨ (s.toList.isEmpty = false ∧ Hid (valB s = wordB s)) := by
  by_cases h : s.size = 0
  · exact .inl ⟨empty_of h, by simp [Hid, valB, h]⟩
  · exact .inr ⟨not_empty_of (by omega), by simp [Hid, valB, h]⟩
end Go.Proofs.Ytpehmobedcflnaa
