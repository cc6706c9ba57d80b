/- quant.Parse returns what the text tells, and changes nothing. Condition: the text is no longer than a Go string can be. -/
import Derived.Test.YthnfdbbnmddnhaaDoorParse
namespace Go.Proofs.YthnfdbbnmddnhaaDoor
open Go.RowKit

theorem suffix_m (l : List UInt8) : Lib.hasSuffix l [109] = decide (l.getLast? = some 109) := by
  rw [Bool.eq_iff_iff, decide_eq_true_iff]
  unfold Lib.hasSuffix
  rw [List.isSuffixOf_iff_suffix]
  constructor
  · rintro ⟨r, rfl⟩
    simp
  · intro h
    obtain ⟨r, rfl⟩ := List.getLast?_eq_some_iff.1 h
    exact ⟨r, rfl⟩
theorem trim_m_yes (l : List UInt8) (h : l.getLast? = some 109) : Lib.trimSuffix l [109] = l.dropLast := by
  unfold Lib.trimSuffix
  rw [suffix_m, if_pos (by simpa using h), List.dropLast_eq_take]
  rfl
theorem trim_m_no (l : List UInt8) (h : ¬ l.getLast? = some 109) : Lib.trimSuffix l [109] = l := by
  unfold Lib.trimSuffix
  rw [suffix_m, if_neg (by simpa using h)]

theorem ret_two {k : IntKind} {a b c d : Int} (h : a = c ∧ b = d) : Ending.returned (.tuple #[.int k a, .int k b]) = .returned (.tuple #[.int k c, .int k d]) := by rw [h.1, h.2]

theorem isNumberL (d : List UInt8) (w : World) (hs : d.length ≤ 9223372036854775807) : Calls Tryd.prog 34 #[.string ⟨d.toArray⟩] w fun e w' => e = .returned (.bool (isNum d)) ∧ w' = w :=
  isNumber_calls ⟨d.toArray⟩ w (by show d.toArray.size ≤ maxLen; unfold maxLen; rw [List.size_toArray]; omega)
theorem numberL (d : List UInt8) (w : World) (h : Hid (isNum d = true)) : Calls Tryd.prog 35 #[.string ⟨d.toArray⟩] w fun e w' => e = .returned (.int .i64 (numOf d)) ∧ w' = w :=
  number_calls ⟨d.toArray⟩ w (by show d.toArray.size ≤ 16; rw [List.size_toArray]; exact (isNum_parts h.out).2.1) (isNum_parts h.out).2.2

set_option maxHeartbeats 1000000 in
theorem parse_m (s : ByteArray) (d : List UInt8) (w : World) (hs : s.size ≤ 9223372036854775807) (hm : Lib.hasSuffix s.data.toList [109] = true) (Ht : Hid (Lib.trimSuffix s.data.toList [109] = d)) (hd : d.length ≤ 9223372036854775807) :
    Calls Tryd.prog 20 #[.string s] w fun e w' => e = .returned (.tuple #[.int .i64 (tells d 1).1, .int .i64 (tells d 1).2]) ∧ w' = w := by
  cases hn : isNum d
  · have HP : Hid (tells d 1 = (0, 2)) := by unfold Hid tells; rw [hn]; rfl
    go_enter Tryd.func20, Tryd.ntmps20
    go_wp2_with (first | (go_at_call 33; refine (Tryd.strings_CutSuffix _ _ _ hs).mono ?_; rintro e w' ⟨rfl, rfl⟩; rw [Ht.out]) | (go_at_call 34; refine (isNumberL _ _ hd).mono ?_; rintro e w' ⟨rfl, rfl⟩))
    go_ret2
    exact ⟨ret_two (by rw [HP.out]; exact ⟨rfl, rfl⟩), rfl⟩
  · have hle := isNum_le hn
    have Hn : Hid (isNum d = true) := hn
    by_cases hb : (1125899906842624 : Int) < (numOf d : Int)
    · have HP : Hid (tells d 1 = (0, 3)) := by unfold Hid tells; rw [if_pos hn, if_pos (by omega)]
      go_enter Tryd.func20, Tryd.ntmps20
      go_wp2_with (first | (go_at_call 33; refine (Tryd.strings_CutSuffix _ _ _ hs).mono ?_; rintro e w' ⟨rfl, rfl⟩; rw [Ht.out]) | (go_at_call 34; refine (isNumberL _ _ hd).mono ?_; rintro e w' ⟨rfl, rfl⟩) | (go_at_call 35; refine (numberL _ _ Hn).mono ?_; rintro e w' ⟨rfl, rfl⟩))
      go_ret2
      exact ⟨ret_two (by rw [HP.out]; exact ⟨rfl, rfl⟩), rfl⟩
    · have HP : Hid (tells d 1 = (numOf d * 1, 0)) := by unfold Hid tells; rw [if_pos hn, if_neg (by omega)]
      go_enter Tryd.func20, Tryd.ntmps20
      go_wp2_with (first | (go_at_call 33; refine (Tryd.strings_CutSuffix _ _ _ hs).mono ?_; rintro e w' ⟨rfl, rfl⟩; rw [Ht.out]) | (go_at_call 34; refine (isNumberL _ _ hd).mono ?_; rintro e w' ⟨rfl, rfl⟩) | (go_at_call 35; refine (numberL _ _ Hn).mono ?_; rintro e w' ⟨rfl, rfl⟩))
      go_ret2
      exact ⟨ret_two (by rw [HP.out]; exact ⟨by simp, rfl⟩), rfl⟩

set_option maxHeartbeats 1000000 in
theorem parse_k (s : ByteArray) (d : List UInt8) (w : World) (hs : s.size ≤ 9223372036854775807) (hm : Lib.hasSuffix s.data.toList [109] = false) (Ht : Hid (Lib.trimSuffix s.data.toList [109] = d)) (hd : d.length ≤ 9223372036854775807) :
    Calls Tryd.prog 20 #[.string s] w fun e w' => e = .returned (.tuple #[.int .i64 (tells d 1000).1, .int .i64 (tells d 1000).2]) ∧ w' = w := by
  cases hn : isNum d
  · have HP : Hid (tells d 1000 = (0, 2)) := by unfold Hid tells; rw [hn]; rfl
    go_enter Tryd.func20, Tryd.ntmps20
    go_wp2_with (first | (go_at_call 33; refine (Tryd.strings_CutSuffix _ _ _ hs).mono ?_; rintro e w' ⟨rfl, rfl⟩; rw [Ht.out]) | (go_at_call 34; refine (isNumberL _ _ hd).mono ?_; rintro e w' ⟨rfl, rfl⟩))
    go_ret2
    exact ⟨ret_two (by rw [HP.out]; exact ⟨rfl, rfl⟩), rfl⟩
  · have hle := isNum_le hn
    have Hn : Hid (isNum d = true) := hn
    by_cases hb : (1125899906842 : Int) < (numOf d : Int)
    · have HP : Hid (tells d 1000 = (0, 3)) := by unfold Hid tells; rw [if_pos hn, if_pos (by omega)]
      go_enter Tryd.func20, Tryd.ntmps20
      go_wp2_with (first | (go_at_call 33; refine (Tryd.strings_CutSuffix _ _ _ hs).mono ?_; rintro e w' ⟨rfl, rfl⟩; rw [Ht.out]) | (go_at_call 34; refine (isNumberL _ _ hd).mono ?_; rintro e w' ⟨rfl, rfl⟩) | (go_at_call 35; refine (numberL _ _ Hn).mono ?_; rintro e w' ⟨rfl, rfl⟩))
      go_ret2
      exact ⟨ret_two (by rw [HP.out]; exact ⟨rfl, rfl⟩), rfl⟩
    · have HP : Hid (tells d 1000 = (numOf d * 1000, 0)) := by unfold Hid tells; rw [if_pos hn, if_neg (by omega)]
      go_enter Tryd.func20, Tryd.ntmps20
      go_wp2_with (first | (go_at_call 33; refine (Tryd.strings_CutSuffix _ _ _ hs).mono ?_; rintro e w' ⟨rfl, rfl⟩; rw [Ht.out]) | (go_at_call 34; refine (isNumberL _ _ hd).mono ?_; rintro e w' ⟨rfl, rfl⟩) | (go_at_call 35; refine (numberL _ _ Hn).mono ?_; rintro e w' ⟨rfl, rfl⟩))
      go_ret2
      exact ⟨ret_two (by rw [HP.out]; exact ⟨by simp, rfl⟩), rfl⟩

theorem parse_calls (s : ByteArray) (w : World) (hs : s.size ≤ maxLen) : Calls Tryd.prog 20 #[.string s] w fun e w' => e = .returned (.tuple #[.int .i64 (parseL s.data.toList).1, .int .i64 (parseL s.data.toList).2]) ∧ w' = w := by
  unfold maxLen at hs
  have hm := suffix_m s.data.toList
  have hl := length_data s
  by_cases h : s.data.toList.getLast? = some 109
  · have e : parseL s.data.toList = tells s.data.toList.dropLast 1 := by unfold parseL; rw [if_pos h]
    rw [e]
    exact parse_m s s.data.toList.dropLast w (by omega) (by rw [hm]; simpa using h) (trim_m_yes _ h) (by rw [List.length_dropLast]; omega)
  · have e : parseL s.data.toList = tells s.data.toList 1000 := by unfold parseL; rw [if_neg h]
    rw [e]
    exact parse_k s s.data.toList w (by omega) (by rw [hm]; simpa using h) (trim_m_no _ h) (by omega)
end Go.Proofs.YthnfdbbnmddnhaaDoor
