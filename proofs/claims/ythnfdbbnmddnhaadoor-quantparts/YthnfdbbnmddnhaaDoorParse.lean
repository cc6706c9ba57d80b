/- quant.Parse, and the document's own, return what the text tells, and change nothing. Condition: the text is no longer than a Go string can be. -/
import Derived.Test.YthnfdbbnmddnhaaDoorClamp
import Derived.Test.YthnfdbbnmddnhaaDoorText
import Derived.Test.YthnfdbbnmddnhaaDoorShelf
import Derived.WalkLawsBesides
import Derived.Outline
namespace Go.Proofs.YthnfdbbnmddnhaaDoor
open Go.RowKit

theorem ret_bool {a b : Bool} (h : a = b) : Ending.returned (.bool a) = .returned (.bool b) := by rw [h]
theorem head_data (s : ByteArray) (h : 0 < s.size) : s.data.toList.head? = some s[0] := by
  rw [List.head?_eq_getElem?, List.getElem?_eq_getElem (by rw [length_data]; exact h)]; rfl

theorem isNum_short (s : ByteArray) (h : s.size = 0) : isNum s.data.toList = false := by
  have := length_data s
  simp [isNum, h, this]
theorem isNum_long (s : ByteArray) (h : 16 < s.size) : isNum s.data.toList = false := by
  have hl := length_data s
  have : decide (s.data.toList.length ≤ 16) = false := by rw [hl]; simpa using h
  simp only [isNum, this, Bool.and_false, Bool.false_and]
theorem isNum_zero (s : ByteArray) (h : 1 < s.size) (h0 : ((s[0].toNat : Int) == 48) = true) : isNum s.data.toList = false := by
  have hl := length_data s
  have e : s[0] = 48 := by
    rw [beq_iff_eq] at h0
    exact UInt8.toNat.inj (by simp; omega)
  have hh := head_data s (by omega)
  have h1 : decide (1 < s.data.toList.length) = true := by rw [hl]; simpa using h
  simp only [isNum, h1, hh, e, Bool.and_false, Bool.false_and, Bool.true_and, beq_self_eq_true, Bool.not_true]
theorem isNum_rest (s : ByteArray) (h1 : 1 ≤ s.size) (h2 : s.size ≤ 16) (h3 : s.size = 1 ∨ ((s[0].toNat : Int) == 48) = false) : isNum s.data.toList = s.data.toList.all isDig := by
  have hl := length_data s
  have hh := head_data s (by omega)
  have e1 : decide (1 ≤ s.data.toList.length) = true := by rw [hl]; simpa using h1
  have e2 : decide (s.data.toList.length ≤ 16) = true := by rw [hl]; simpa using h2
  rcases h3 with h3 | h3
  · have e3 : decide (1 < s.data.toList.length) = false := by rw [hl]; simp; omega
    simp only [isNum, e1, e2, e3, Bool.and_true, Bool.true_and, Bool.false_and, Bool.not_false]
  · have e3 : (some s[0] == some (48 : UInt8)) = false := by
      rw [beq_eq_false_iff_ne] at h3 ⊢
      intro h
      have := Option.some.inj h
      rw [this] at h3
      exact h3 rfl
    simp only [isNum, e1, e2, hh, e3, Bool.and_true, Bool.true_and, Bool.and_false, Bool.not_false]
theorem all_take_false (s : ByteArray) (k : Nat) (hk : k < s.size) (h : isDig s[k] = false) : s.data.toList.all isDig = false := by
  rw [List.all_eq_false]
  refine ⟨s[k], ?_, by simp [h]⟩
  have : s.data.toList[k]? = some s[k] := by rw [List.getElem?_eq_getElem (by rw [length_data]; exact hk)]; rfl
  exact List.mem_of_getElem? this

set_option maxHeartbeats 1000000 in
theorem isNumber_loop (s : ByteArray) (w : World) (h1 : 1 ≤ s.size) (h2 : s.size ≤ 16) (h3 : s.size = 1 ∨ ((s[0].toNat : Int) == 48) = false) : Calls Tryd.prog 34 #[.string s] w fun e w' => e = .returned (.bool (isNum s.data.toList)) ∧ w' = w := by
  have e0 : ((s.size : Int) == 0) = false := by rw [beq_eq_false_iff_ne]; omega
  have HN : Hid (isNum s.data.toList = s.data.toList.all isDig) := isNum_rest s h1 h2 h3
  have HB : ∃ b : Bool, ((s[0].toNat : Int) == 48) = b ∧ (b = true → ¬ (1 : Int) < (s.size : Int)) := by
    rcases h3 with h3 | h3
    · exact ⟨_, rfl, fun _ => by omega⟩
    · exact ⟨false, h3, fun h => by cases h⟩
  clear h3
  obtain ⟨b, hb0, hb1⟩ := HB
  cases b
  all_goals (try (have hb2 := hb1 rfl); clear hb1)
  all_goals
    go_enter Tryd.func34, Tryd.ntmps34
    go_wp2
    go_loop [22] (fun i => ∃ k : Nat, k ≤ s.size ∧ i = .int .i64 k ∧ Hid ((s.data.toList.take k).all isDig = true)) (fun i => s.size - (intOf i).toNat)
    case atStart => exact ⟨0, Nat.zero_le _, rfl, rfl⟩
    case round =>
      obtain ⟨k, hk, rfl, hall⟩ := hrel
      by_cases hlt : k < s.size
      · by_cases ha : (s[k].toNat : Int) < 48
        · go_wp2
          go_ret
          exact ⟨ret_bool (by rw [HN.out]; exact (all_take_false s k hlt (by simp [isDig]; omega)).symm), rfl⟩
        · by_cases hb : (57 : Int) < (s[k].toNat : Int)
          · go_wp2
            go_ret
            exact ⟨ret_bool (by rw [HN.out]; exact (all_take_false s k hlt (by simp [isDig]; omega)).symm), rfl⟩
          · go_wp2
            go_round
            case rel => exact ⟨k + 1, by omega, by go_num, by rw [take_snoc s k hlt]; simp only [Hid, List.all_append, hall.out, List.all_cons, List.all_nil, Bool.and_true, Bool.true_and]; rw [isDig_iff]; omega⟩
            case measure => simp [intOf]; omega
      · go_wp2
        go_ret
        obtain rfl : k = s.size := by omega
        exact ⟨ret_bool (by rw [HN.out, ← hall.out, take_all]), rfl⟩

theorem ret_str {a b : ByteArray} (h : a = b) : Ending.returned (.string a) = .returned (.string b) := by rw [h]

theorem isNumber_calls (s : ByteArray) (w : World) (hs : s.size ≤ maxLen) : Calls Tryd.prog 34 #[.string s] w fun e w' => e = .returned (.bool (isNum s.data.toList)) ∧ w' = w := by
  unfold maxLen at hs
  by_cases h0 : s.size = 0
  · have e0 : ((s.size : Int) == 0) = true := by rw [beq_iff_eq]; omega
    have HN : Hid (isNum s.data.toList = false) := isNum_short s h0
    clear h0
    go_enter Tryd.func34, Tryd.ntmps34
    go_wp2
    go_ret
    exact ⟨ret_bool HN.out.symm, rfl⟩
  · by_cases h1 : s.size ≤ 16
    · by_cases h2 : s.size = 1
      · exact isNumber_loop s w (by omega) h1 (.inl h2)
      · cases h3 : ((s[0].toNat : Int) == 48)
        · exact isNumber_loop s w (by omega) h1 (.inr h3)
        · have e0 : ((s.size : Int) == 0) = false := by rw [beq_eq_false_iff_ne]; omega
          have h4 : (1 : Int) < (s.size : Int) := by omega
          have HN : Hid (isNum s.data.toList = false) := isNum_zero s (by omega) h3
          go_enter Tryd.func34, Tryd.ntmps34
          go_wp2
          go_ret
          exact ⟨ret_bool HN.out.symm, rfl⟩
    · have e0 : ((s.size : Int) == 0) = false := by rw [beq_eq_false_iff_ne]; omega
      have h4 : (16 : Int) < (s.size : Int) := by omega
      have HN : Hid (isNum s.data.toList = false) := isNum_long s (by omega)
      go_enter Tryd.func34, Tryd.ntmps34
      go_wp2
      go_ret
      exact ⟨ret_bool HN.out.symm, rfl⟩

theorem dig_at (s : ByteArray) (h : s.data.toList.all isDig = true) (k : Nat) (hk : k < s.size) : 48 ≤ s[k].toNat ∧ s[k].toNat ≤ 57 := by
  rw [List.all_eq_true] at h
  have : s.data.toList[k]? = some s[k] := by rw [List.getElem?_eq_getElem (by rw [length_data]; exact hk)]; rfl
  exact (isDig_iff _).1 (h _ (List.mem_of_getElem? this))
theorem numOf_take (s : ByteArray) (h : s.data.toList.all isDig = true) (hl : s.size ≤ 16) (k : Nat) (hk : k < s.size) :
    numOf (s.data.toList.take k) ≤ 999999999999999 ∧ numOf (s.data.toList.take (k + 1)) = 10 * numOf (s.data.toList.take k) + (s[k].toNat - 48) := by
  have hs := take_snoc s k hk
  have hd := dig_at s h k hk
  have ha : (s.data.toList.take (k + 1)).all isDig = true := by
    rw [List.all_eq_true] at h ⊢
    exact fun x hx => h x (List.mem_of_mem_take hx)
  have hb := numOf_le16 _ ha (by rw [List.length_take]; omega)
  rw [hs, numOf_snoc] at hb
  refine ⟨by omega, by rw [hs, numOf_snoc]⟩

set_option maxHeartbeats 1000000 in
theorem number_calls (s : ByteArray) (w : World) (hl : s.size ≤ 16) (h : Hid (s.data.toList.all isDig = true)) : Calls Tryd.prog 35 #[.string s] w fun e w' => e = .returned (.int .i64 (numOf s.data.toList)) ∧ w' = w := by
  go_enter Tryd.func35, Tryd.ntmps35
  go_wp2
  go_loop [3, 7] (fun n i => ∃ k : Nat, k ≤ s.size ∧ i = .int .i64 k ∧ n = .int .i64 (numOf (s.data.toList.take k) : Nat)) (fun _ i => s.size - (intOf i).toNat)
  case atStart => exact ⟨0, Nat.zero_le _, rfl, rfl⟩
  case round =>
    obtain ⟨k, hk, rfl, rfl⟩ := hrel
    by_cases hlt : k < s.size
    · obtain ⟨hb, hn⟩ := numOf_take s h.out hl k hlt
      have hd := dig_at s h.out k hlt
      have HN : Hid _ := hn
      clear hn
      go_wp2
      go_round
      case rel => exact ⟨k + 1, by omega, by go_num, by rw [HN.out]; go_num⟩
      case measure => simp [intOf]; omega
    · go_wp2
      go_ret
      obtain rfl : k = s.size := by omega
      exact ⟨ret_int (by rw [take_all]), rfl⟩
end Go.Proofs.YthnfdbbnmddnhaaDoor
