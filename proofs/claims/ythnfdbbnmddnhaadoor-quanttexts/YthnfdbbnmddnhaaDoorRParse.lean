/- The document's own Parse returns what the text tells, and changes nothing. Condition: the text is no longer than a Go string can be. -/
import Derived.Test.YthnfdbbnmddnhaaDoorWhole
namespace Go.Proofs.YthnfdbbnmddnhaaDoor
open Go.RowKit

theorem whole_calls (s : ByteArray) (w : World) (hs : s.size ≤ maxLen) : Calls Tryd.prog 36 #[.string s, .int .i64 16] w fun e w' => e = .returned (.tuple #[.int .i64 (wholeL s.data.toList).1, .bool (wholeL s.data.toList).2]) ∧ w' = w := by
  unfold maxLen at hs
  by_cases h0 : s.size = 0
  · have e0 := empty_of s h0
    have HN : Hid _ := wholeL_no (isNum_short s h0)
    clear h0
    go_enter Tryd.func36, Tryd.ntmps36
    go_wp2
    go_ret2
    exact ⟨ret_ib (by rw [HN.out]; exact ⟨rfl, rfl⟩), rfl⟩
  · have he := not_empty_of s (by omega)
    by_cases h1 : s.size ≤ 16
    · by_cases h2 : s.size = 1
      · exact whole_loop s w (by omega) h1 (.inl h2)
      · cases h3 : ((s[0].toNat : Int) == 48)
        · exact whole_loop s w (by omega) h1 (.inr h3)
        · have hg : decide ((16 : Int) < (s.size : Int)) = false := by simp; omega
          have h4 : decide ((1 : Int) < (s.size : Int)) = true := by simp; omega
          have h5 : 0 < s.size := by omega
          have HN : Hid _ := wholeL_no (isNum_zero s (by omega) h3)
          go_enter Tryd.func36, Tryd.ntmps36
          go_wp2
          go_ret2
          exact ⟨ret_ib (by rw [HN.out]; exact ⟨rfl, rfl⟩), rfl⟩
    · have hg : decide ((16 : Int) < (s.size : Int)) = true := by simp; omega
      have HN : Hid _ := wholeL_no (isNum_long s (by omega))
      go_enter Tryd.func36, Tryd.ntmps36
      go_wp2
      go_ret2
      exact ⟨ret_ib (by rw [HN.out]; exact ⟨rfl, rfl⟩), rfl⟩

theorem whole_of (b : ByteArray) (d : List UInt8) (x : Nat × Bool) (w : World) (hb : Hid (b.data.toList = d)) (hs : b.size ≤ 9223372036854775807) (hx : Hid (wholeL d = x)) :
    Calls Tryd.prog 36 #[.string b, .int .i64 16] w fun e w' => e = .returned (.tuple #[.int .i64 x.1, .bool x.2]) ∧ w' = w := by
  have h := whole_calls b w (by unfold maxLen; omega)
  rw [hb.out, hx.out] at h
  exact h
theorem extract_drop (s : ByteArray) : (s.extract 0 (s.size - 1)).data.toList = s.data.toList.dropLast := by
  rw [ByteArray.data_extract, Array.toList_extract, List.extract_eq_take_drop, List.drop_zero, List.dropLast_eq_take, length_data]
  rfl
theorem last_data (s : ByteArray) (h : 1 ≤ s.size) : s.data.toList.getLast? = some s[s.size - 1] := by
  rw [List.getLast?_eq_getElem?, length_data, List.getElem?_eq_getElem (by rw [length_data]; omega)]
  rfl

set_option maxHeartbeats 1000000 in
theorem rparse_m (s : ByteArray) (d : List UInt8) (w : World) (hs : s.size ≤ 9223372036854775807) (h0 : 1 ≤ s.size) (he : s.toList.isEmpty = false) (hm : ((s[s.size - 1].toNat : Int) == 109) = true) (HD : Hid ((s.extract 0 (s.size - 1)).data.toList = d)) :
    Calls Tryd.prog 21 #[.string s] w fun e w' => e = .returned (.tuple #[.int .i64 (tells d 1).1, .int .i64 (tells d 1).2]) ∧ w' = w := by
  have hz : (s.extract 0 (s.size - 1)).size ≤ 9223372036854775807 := by rw [ByteArray.size_extract]; omega
  cases hn : isNum d
  · have HW : Hid (wholeL d = (0, false)) := wholeL_no hn
    have HP : Hid (tells d 1 = (0, 2)) := by unfold Hid tells; rw [hn]; rfl
    clear hn
    go_enter Tryd.func21, Tryd.ntmps21
    go_wp2_with (go_at_call 36; refine (whole_of _ _ _ _ HD hz HW).mono ?_; rintro e w' ⟨rfl, rfl⟩)
    go_ret2
    exact ⟨ret_two (by rw [HP.out]; exact ⟨rfl, rfl⟩), rfl⟩
  · have hle := isNum_le hn
    have HW : Hid (wholeL d = (numOf d, true)) := wholeL_yes hn
    by_cases hb : (1125899906842624 : Int) < (numOf d : Int)
    · have HP : Hid (tells d 1 = (0, 3)) := by unfold Hid tells; rw [if_pos hn, if_pos (by omega)]
      clear hn
      go_enter Tryd.func21, Tryd.ntmps21
      go_wp2_with (go_at_call 36; refine (whole_of _ _ _ _ HD hz HW).mono ?_; rintro e w' ⟨rfl, rfl⟩)
      go_ret2
      exact ⟨ret_two (by rw [HP.out]; exact ⟨rfl, rfl⟩), rfl⟩
    · have HP : Hid (tells d 1 = (numOf d * 1, 0)) := by unfold Hid tells; rw [if_pos hn, if_neg (by omega)]
      clear hn
      go_enter Tryd.func21, Tryd.ntmps21
      go_wp2_with (go_at_call 36; refine (whole_of _ _ _ _ HD hz HW).mono ?_; rintro e w' ⟨rfl, rfl⟩)
      go_ret2
      exact ⟨ret_two (by rw [HP.out]; exact ⟨by simp, rfl⟩), rfl⟩

set_option maxHeartbeats 1000000 in
theorem rparse_k (s : ByteArray) (d : List UInt8) (w : World) (hs : s.size ≤ 9223372036854775807) (h0 : 1 ≤ s.size) (he : s.toList.isEmpty = false) (hm : ((s[s.size - 1].toNat : Int) == 109) = false) (HD : Hid (s.data.toList = d)) :
    Calls Tryd.prog 21 #[.string s] w fun e w' => e = .returned (.tuple #[.int .i64 (tells d 1000).1, .int .i64 (tells d 1000).2]) ∧ w' = w := by
  have hz : s.size ≤ 9223372036854775807 := hs
  cases hn : isNum d
  · have HW : Hid (wholeL d = (0, false)) := wholeL_no hn
    have HP : Hid (tells d 1000 = (0, 2)) := by unfold Hid tells; rw [hn]; rfl
    clear hn
    go_enter Tryd.func21, Tryd.ntmps21
    go_wp2_with (go_at_call 36; refine (whole_of _ _ _ _ HD hz HW).mono ?_; rintro e w' ⟨rfl, rfl⟩)
    go_ret2
    exact ⟨ret_two (by rw [HP.out]; exact ⟨rfl, rfl⟩), rfl⟩
  · have hle := isNum_le hn
    have HW : Hid (wholeL d = (numOf d, true)) := wholeL_yes hn
    by_cases hb : (1125899906842 : Int) < (numOf d : Int)
    · have HP : Hid (tells d 1000 = (0, 3)) := by unfold Hid tells; rw [if_pos hn, if_pos (by omega)]
      clear hn
      go_enter Tryd.func21, Tryd.ntmps21
      go_wp2_with (go_at_call 36; refine (whole_of _ _ _ _ HD hz HW).mono ?_; rintro e w' ⟨rfl, rfl⟩)
      go_ret2
      exact ⟨ret_two (by rw [HP.out]; exact ⟨rfl, rfl⟩), rfl⟩
    · have HP : Hid (tells d 1000 = (numOf d * 1000, 0)) := by unfold Hid tells; rw [if_pos hn, if_neg (by omega)]
      clear hn
      go_enter Tryd.func21, Tryd.ntmps21
      go_wp2_with (go_at_call 36; refine (whole_of _ _ _ _ HD hz HW).mono ?_; rintro e w' ⟨rfl, rfl⟩)
      go_ret2
      exact ⟨ret_two (by rw [HP.out]; exact ⟨by simp, rfl⟩), rfl⟩

set_option maxHeartbeats 1000000 in
theorem rparse_e (s : ByteArray) (d : List UInt8) (w : World) (hs : s.size ≤ 9223372036854775807) (he : s.toList.isEmpty = true) (HD : Hid (s.data.toList = d)) :
    Calls Tryd.prog 21 #[.string s] w fun e w' => e = .returned (.tuple #[.int .i64 (tells d 1000).1, .int .i64 (tells d 1000).2]) ∧ w' = w := by
  have hz : s.size ≤ 9223372036854775807 := hs
  cases hn : isNum d
  · have HW : Hid (wholeL d = (0, false)) := wholeL_no hn
    have HP : Hid (tells d 1000 = (0, 2)) := by unfold Hid tells; rw [hn]; rfl
    clear hn
    go_enter Tryd.func21, Tryd.ntmps21
    go_wp2_with (go_at_call 36; refine (whole_of _ _ _ _ HD hz HW).mono ?_; rintro e w' ⟨rfl, rfl⟩)
    go_ret2
    exact ⟨ret_two (by rw [HP.out]; exact ⟨rfl, rfl⟩), rfl⟩
  · have hle := isNum_le hn
    have HW : Hid (wholeL d = (numOf d, true)) := wholeL_yes hn
    by_cases hb : (1125899906842 : Int) < (numOf d : Int)
    · have HP : Hid (tells d 1000 = (0, 3)) := by unfold Hid tells; rw [if_pos hn, if_pos (by omega)]
      clear hn
      go_enter Tryd.func21, Tryd.ntmps21
      go_wp2_with (go_at_call 36; refine (whole_of _ _ _ _ HD hz HW).mono ?_; rintro e w' ⟨rfl, rfl⟩)
      go_ret2
      exact ⟨ret_two (by rw [HP.out]; exact ⟨rfl, rfl⟩), rfl⟩
    · have HP : Hid (tells d 1000 = (numOf d * 1000, 0)) := by unfold Hid tells; rw [if_pos hn, if_neg (by omega)]
      clear hn
      go_enter Tryd.func21, Tryd.ntmps21
      go_wp2_with (go_at_call 36; refine (whole_of _ _ _ _ HD hz HW).mono ?_; rintro e w' ⟨rfl, rfl⟩)
      go_ret2
      exact ⟨ret_two (by rw [HP.out]; exact ⟨by simp, rfl⟩), rfl⟩

theorem rparse_calls (s : ByteArray) (w : World) (hs : s.size ≤ maxLen) : Calls Tryd.prog 21 #[.string s] w fun e w' => e = .returned (.tuple #[.int .i64 (parseL s.data.toList).1, .int .i64 (parseL s.data.toList).2]) ∧ w' = w := by
  unfold maxLen at hs
  by_cases h0 : s.size = 0
  · have e : parseL s.data.toList = tells s.data.toList 1000 := by
      unfold parseL
      rw [List.eq_nil_of_length_eq_zero ((length_data s).trans h0), if_neg (by simp)]
    rw [e]
    exact rparse_e s _ w (by omega) (empty_of s h0) rfl
  · have hl := last_data s (by omega)
    cases hm : ((s[s.size - 1].toNat : Int) == 109)
    · have e : parseL s.data.toList = tells s.data.toList 1000 := by
        unfold parseL
        rw [hl, if_neg]
        intro h
        have := Option.some.inj h
        rw [this] at hm
        cases hm
      rw [e]
      exact rparse_k s _ w (by omega) (by omega) (not_empty_of s (by omega)) hm rfl
    · have e : parseL s.data.toList = tells s.data.toList.dropLast 1 := by
        unfold parseL
        have : s[s.size - 1] = 109 := by
          rw [beq_iff_eq] at hm
          exact UInt8.toNat.inj (by simp; omega)
        rw [hl, this, if_pos rfl]
      rw [e]
      exact rparse_m s _ w (by omega) (by omega) (not_empty_of s (by omega)) hm (extract_drop s)
end Go.Proofs.YthnfdbbnmddnhaaDoor
