/- The document's own Whole at 15 digits returns what the plain functions say, and changes nothing. No condition. -/
import Derived.Test.YtpehmobedcflnaaLLeafB
namespace Go.Proofs.Ytpehmobedcflnaa
open Go.RowKit
set_option linter.unusedSimpArgs false

theorem ret_ib {k : IntKind} {a c : Int} {b d : Bool} (h : a = c ∧ b = d) : Ending.returned (.tuple #[.int k a, .bool b]) = .returned (.tuple #[.int k c, .bool d]) := by rw [h.1, h.2]
def wholeN (s : ByteArray) : Nat := if numB s then numN s else 0
theorem numTo_le (s : ByteArray) : ∀ k, k ≤ s.size → (∀ j, j < k → isDig (byteAt s j) = true) → numTo s k < 10 ^ k
  | 0, _, _ => by simp [numTo]
  | k + 1, hk, h => by
    have ih := numTo_le s k (by omega) (fun j hj => h j (by omega))
    have hd := (isDig_iff _).1 (h k (by omega))
    simp only [numTo, Nat.pow_succ]
    omega
theorem pow15 {k : Nat} (h : k ≤ 15) : 10 ^ k ≤ 1000000000000000 := by
  have := Nat.pow_le_pow_right (n := 10) (by omega) h
  simpa using this

set_option maxHeartbeats 2000000 in
theorem Whole_calls (s : ByteArray) (w : World) : Calls Try.prog 39 #[.string s, .int .i64 15] w fun e w' => e = .returned (.tuple #[.int .i64 (wholeN s : Nat), .bool (numB s)]) ∧ w' = w := by
  by_cases h0 : s.size = 0
  · have HF : Hid (numB s = false) := numB_no (by omega)
    have HG : Hid (wholeN s = 0) := by simp [Hid, wholeN, HF.out]
    have he := empty_of h0
    go_enter Try.func39, Try.ntmps39
    go_wp2
    go_ret2
    exact ⟨ret_ib ⟨by rw [HG.out]; rfl, HF.out.symm⟩, rfl⟩
  have he := not_empty_of (s := s) (by omega)
  by_cases h1 : (15 : Int) < (s.size : Int)
  · have HF : Hid (numB s = false) := numB_no (by omega)
    have HG : Hid (wholeN s = 0) := by simp [Hid, wholeN, HF.out]
    go_enter Try.func39, Try.ntmps39
    go_wp2
    go_ret2
    exact ⟨ret_ib ⟨by rw [HG.out]; rfl, HF.out.symm⟩, rfl⟩
  have hp : 0 < s.size := by omega
  have HB : ∃ b c : Bool, ((s[0].toNat : Int) == 48) = b ∧ decide ((1 : Int) < (s.size : Int)) = c ∧ Hid ((b && c) = true → numB s = false) ∧ Hid ((b && c) = false → numB s = allTo s.size fun i => isDig (byteAt s i)) := by
    refine ⟨_, _, rfl, rfl, ?_, ?_⟩
    · intro h
      simp only [Bool.and_eq_true, beq_iff_eq, decide_eq_true_eq] at h
      exact numB_zero (by omega) (by rw [byteAt_get s 0 hp]; omega)
    · intro h
      refine numB_rest (by omega) (by omega) ?_
      rintro ⟨x, y⟩
      rw [byteAt_get s 0 hp] at y
      rw [beq_iff_eq.2 (show (s[0].toNat : Int) = 48 by omega), decide_eq_true (show (1 : Int) < s.size by omega)] at h
      cases h
  obtain ⟨b, c, hb, hc, HT, HN⟩ := HB
  cases b <;> cases c
  case true.true =>
    have HF : Hid (numB s = false) := HT.out rfl
    have HG : Hid (wholeN s = 0) := by simp [Hid, wholeN, HF.out]
    clear HT HN
    go_enter Try.func39, Try.ntmps39
    go_wp2
    go_ret2
    exact ⟨ret_ib ⟨by rw [HG.out]; rfl, HF.out.symm⟩, rfl⟩
  all_goals
    have HM : Hid (numB s = allTo s.size fun i => isDig (byteAt s i)) := HN.out rfl
    clear HT HN
    go_enter Try.func39, Try.ntmps39
    go_wp2
    go_loop [6, 7] (fun n i => ∃ k : Nat, k ≤ s.size ∧ i = .int .i64 k ∧ n = .int .i64 (numTo s k : Nat) ∧ Hid (∀ j, j < k → isDig (byteAt s j) = true)) (fun _ i => s.size - (intOf i).toNat)
    case atStart => exact ⟨0, Nat.zero_le _, rfl, rfl, fun j hj => absurd hj (Nat.not_lt_zero _)⟩
    case round =>
      obtain ⟨k, hk, rfl, rfl, hall⟩ := hrel
      by_cases hlt : k < s.size
      · by_cases ha : (s[k].toNat : Int) < 48
        · have HF : Hid (numB s = false) := HM.out.trans (allTo_false hlt (by rw [byteAt_get s k hlt]; exact isDig_no (by omega)))
          have HG : Hid (wholeN s = 0) := by simp [Hid, wholeN, HF.out]
          go_wp2
          go_ret2
          exact ⟨ret_ib ⟨by rw [HG.out]; rfl, HF.out.symm⟩, rfl⟩
        · by_cases hb : (57 : Int) < (s[k].toNat : Int)
          · have HF : Hid (numB s = false) := HM.out.trans (allTo_false hlt (by rw [byteAt_get s k hlt]; exact isDig_no (by omega)))
            have HG : Hid (wholeN s = 0) := by simp [Hid, wholeN, HF.out]
            go_wp2
            go_ret2
            exact ⟨ret_ib ⟨by rw [HG.out]; rfl, HF.out.symm⟩, rfl⟩
          · have hnb := Nat.lt_of_lt_of_le (numTo_le s k hk hall.out) (pow15 (by omega))
            have HS : Hid (numTo s (k + 1) = 10 * numTo s k + (s[k].toNat - 48)) := by simp only [Hid, numTo, byteAt_get s k hlt]
            have HD : Hid (∀ j, j < k + 1 → isDig (byteAt s j) = true) := fun j hj => by
              rcases Nat.lt_succ_iff_lt_or_eq.1 hj with h | rfl
              · exact hall.out j h
              · rw [byteAt_get s j hlt]; exact (isDig_iff _).2 (by omega)
            have ha' : (48 : Int) ≤ (s[k].toNat : Int) := by omega
            have hb' : (s[k].toNat : Int) ≤ 57 := by omega
            clear hall
            go_wp2
            go_round
            case rel => exact ⟨k + 1, by omega, by go_num, by rw [HS.out]; go_num, HD⟩
            case measure => simp [intOf]; omega
      · have HF : Hid (numB s = true) := HM.out.trans (allTo_true (fun j hj => hall.out j (by omega)))
        have HG : Hid (wholeN s = numTo s k) := by
          obtain rfl : k = s.size := by omega
          simp [Hid, wholeN, HF.out, numN]
        go_wp2
        go_ret2
        exact ⟨ret_ib ⟨by rw [HG.out], HF.out.symm⟩, rfl⟩
end Go.Proofs.Ytpehmobedcflnaa
