/- The document's own Whole and Parse return what the plain functions say, and change nothing. Condition: the text is no longer than a Go string can be. -/
import Derived.Test.YthnfdbbnmddnhaaDoorPrint
namespace Go.Proofs.YthnfdbbnmddnhaaDoor
open Go.RowKit

theorem ret_ib {k : IntKind} {a c : Int} {b d : Bool} (h : a = c ∧ b = d) : Ending.returned (.tuple #[.int k a, .bool b]) = .returned (.tuple #[.int k c, .bool d]) := by rw [h.1, h.2]
/-- What Whole answers at 16 digits. -/
def wholeL (l : List UInt8) : Nat × Bool := if isNum l then (numOf l, true) else (0, false)
theorem wholeL_no {l : List UInt8} (h : isNum l = false) : wholeL l = (0, false) := by unfold wholeL; rw [h]; rfl
theorem wholeL_yes {l : List UInt8} (h : isNum l = true) : wholeL l = (numOf l, true) := by unfold wholeL; rw [h]; rfl
theorem empty_of (s : ByteArray) (h : s.size = 0) : s.toList.isEmpty = true := by
  rw [ByteArray.toList_eq, List.isEmpty_iff_length_eq_zero, length_data, h]
theorem not_empty_of (s : ByteArray) (h : 1 ≤ s.size) : s.toList.isEmpty = false := by
  cases e : s.toList.isEmpty
  · rfl
  · rw [ByteArray.toList_eq, List.isEmpty_iff_length_eq_zero, length_data] at e
    omega

set_option maxHeartbeats 1000000 in
theorem whole_loop (s : ByteArray) (w : World) (h1 : 1 ≤ s.size) (h2 : s.size ≤ 16) (h3 : s.size = 1 ∨ ((s[0].toNat : Int) == 48) = false) : Calls Tryd.prog 36 #[.string s, .int .i64 16] w fun e w' => e = .returned (.tuple #[.int .i64 (wholeL s.data.toList).1, .bool (wholeL s.data.toList).2]) ∧ w' = w := by
  have HN : Hid (isNum s.data.toList = s.data.toList.all isDig) := isNum_rest s h1 h2 h3
  have he := not_empty_of s h1
  have hg : decide ((16 : Int) < (s.size : Int)) = false := by simp; omega
  have HB : ∃ b c : Bool, ((s[0].toNat : Int) == 48) = b ∧ decide ((1 : Int) < (s.size : Int)) = c ∧ (c && b) = false := by
    rcases h3 with h3 | h3
    · exact ⟨_, false, rfl, by simp; omega, rfl⟩
    · exact ⟨false, _, h3, rfl, by simp⟩
  clear h3
  obtain ⟨b, c, hb0, hc0, hbc⟩ := HB
  cases b <;> cases c
  case true.true => cases hbc
  all_goals
    clear hbc
    go_enter Tryd.func36, Tryd.ntmps36
    go_wp2
    go_loop [6, 7] (fun n i => ∃ k : Nat, k ≤ s.size ∧ i = .int .i64 k ∧ n = .int .i64 (numOf (s.data.toList.take k) : Nat) ∧ Hid ((s.data.toList.take k).all isDig = true)) (fun _ i => s.size - (intOf i).toNat)
    case atStart => exact ⟨0, Nat.zero_le _, rfl, rfl, rfl⟩
    case round =>
      obtain ⟨k, hk, rfl, rfl, hall⟩ := hrel
      by_cases hlt : k < s.size
      · by_cases ha : (s[k].toNat : Int) < 48
        · have HF := wholeL_no (HN.out.trans (all_take_false s k hlt (by simp [isDig]; omega)))
          have HF' : Hid _ := HF
          clear HF
          go_wp2
          go_ret2
          exact ⟨ret_ib (by rw [HF'.out]; exact ⟨rfl, rfl⟩), rfl⟩
        · by_cases hb : (57 : Int) < (s[k].toNat : Int)
          · have HF := wholeL_no (HN.out.trans (all_take_false s k hlt (by simp [isDig]; omega)))
            have HF' : Hid _ := HF
            clear HF
            go_wp2
            go_ret2
            exact ⟨ret_ib (by rw [HF'.out]; exact ⟨rfl, rfl⟩), rfl⟩
          · have hnb := numOf_le16 _ hall.out (by rw [List.length_take]; omega)
            have HS : Hid (numOf (s.data.toList.take (k + 1)) = 10 * numOf (s.data.toList.take k) + (s[k].toNat - 48)) := by rw [take_snoc s k hlt, numOf_snoc]; rfl
            have ha' : (48 : Int) ≤ (s[k].toNat : Int) := by omega
            have hb' : (s[k].toNat : Int) ≤ 57 := by omega
            go_wp2
            go_round
            case rel => exact ⟨k + 1, by omega, by go_num, by rw [HS.out]; go_num, by rw [take_snoc s k hlt]; simp only [Hid, List.all_append, hall.out, List.all_cons, List.all_nil, Bool.and_true, Bool.true_and]; rw [isDig_iff]; omega⟩
            case measure => simp [intOf]; omega
      · have HF : Hid (wholeL s.data.toList = (numOf (s.data.toList.take k), true)) := by
          obtain rfl : k = s.size := by omega
          have h := hall.out
          rw [take_all] at h ⊢
          exact wholeL_yes (HN.out.trans h)
        go_wp2
        go_ret2
        exact ⟨ret_ib (by rw [HF.out]; exact ⟨rfl, rfl⟩), rfl⟩
end Go.Proofs.YthnfdbbnmddnhaaDoor
