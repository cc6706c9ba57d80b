/- quant.Times and quant.Share, and the document's own, return what plain integers say, and change nothing. No condition. -/
import Derived.Test.YthnfdbbnmddnhaaDoorClamp
namespace Go.Proofs.YthnfdbbnmddnhaaDoor
open Go.RowKit

theorem mul_le_most {a n : Int} (ha : 0 ≤ a) (hn : 0 < n) (h : a ≤ 1125899906842624 / n) : 0 ≤ a * n ∧ a * n ≤ 1125899906842624 :=
  ⟨Int.mul_nonneg ha (by omega), (Int.le_ediv_iff_mul_le hn).1 h⟩
theorem most_lt_mul {a n : Int} (hn : 0 < n) (h : 1125899906842624 / n < a) : 1125899906842624 < a * n := (Int.ediv_lt_iff_lt_mul hn).1 h

set_option maxHeartbeats 1000000 in
theorem times_calls (a n : Int) (w : World) : Calls Tryd.prog 15 #[.int .i64 a, .int .i64 n] w fun e w' => e = .returned (.int .i64 (timesI a n)) ∧ w' = w := by
  have h1 := clampI_ge a; have h2 := clampI_le a; have h3 := clampI_ge n; have h4 := clampI_le n
  by_cases h0 : clampI n = 0
  · have hz : (clampI n != 0) = false := by simpa using h0
    have HP : Hid (timesI a n = clampI a * clampI n) := by unfold Hid timesI; rw [h0]; simp
    have hm : 0 ≤ clampI a * clampI n := by rw [h0]; simp
    have hm2 : clampI a * clampI n ≤ 1125899906842624 := by rw [h0]; simp
    clear h0
    go_enter Tryd.func15, Tryd.ntmps15
    go_wp2_with (go_at_call 9; refine (clamp_calls _ _).mono ?_; rintro e w' ⟨rfl, rfl⟩)
    go_ret
    exact ⟨ret_int HP.out.symm, rfl⟩
  · have hz : (clampI n != 0) = true := by simpa using h0
    have hp : 0 < clampI n := by omega
    by_cases hb : 1125899906842624 / clampI n < clampI a
    · have HP : Hid (timesI a n = 1125899906842624) := by unfold Hid timesI; rw [if_pos (most_lt_mul hp hb)]
      go_enter Tryd.func15, Tryd.ntmps15
      go_wp2_with (go_at_call 9; refine (clamp_calls _ _).mono ?_; rintro e w' ⟨rfl, rfl⟩)
      go_ret
      exact ⟨ret_int HP.out.symm, rfl⟩
    · obtain ⟨hm, hm2⟩ := mul_le_most h1 hp (Int.not_lt.1 hb)
      have HP : Hid (timesI a n = clampI a * clampI n) := by unfold Hid timesI; rw [if_neg (by omega)]
      go_enter Tryd.func15, Tryd.ntmps15
      go_wp2_with (go_at_call 9; refine (clamp_calls _ _).mono ?_; rintro e w' ⟨rfl, rfl⟩)
      go_ret
      exact ⟨ret_int HP.out.symm, rfl⟩

theorem mul_bd {a s : Int} (h1 : 0 ≤ a) (h2 : a ≤ 1125899906842624) (h3 : 0 ≤ s) (h4 : s ≤ 1000) : 0 ≤ a * s ∧ a * s ≤ 1125899906842624000 :=
  ⟨Int.mul_nonneg h1 h3, Int.le_trans (Int.mul_le_mul h2 h4 h3 (by omega)) (by omega)⟩
theorem div_bd {m b : Int} (h1 : 0 ≤ m) (h2 : m ≤ 1125899906842624000) (hb : 0 < b) : 0 ≤ m / b ∧ m / b ≤ 1125899906842624000 :=
  ⟨Int.ediv_nonneg h1 (by omega), Int.le_trans (Int.ediv_le_self _ h1) h2⟩

theorem share_zero {a b c : Int} (h : clampI b = 0) : shareI a b c = 0 := by unfold shareI; rw [if_pos h]
theorem share_some {a b c s : Int} (h : clampI b ≠ 0) (hs : scaleI c = s) : shareI a b c = if s < clampI a * s / clampI b then s else clampI a * s / clampI b := by unfold shareI; rw [if_neg h, hs]

set_option maxHeartbeats 1000000 in
theorem share_calls (a b c : Int) (w : World) : Calls Tryd.prog 17 #[.int .i64 a, .int .i64 b, .int .i64 c] w fun e w' => e = .returned (.int .i64 (shareI a b c)) ∧ w' = w := by
  have h1 := clampI_ge a; have h2 := clampI_le a; have h3 := clampI_ge b; have h4 := clampI_le b
  by_cases h0 : clampI b = 0
  · have hz : (clampI b == 0) = true := by simpa using h0
    have HP : Hid (shareI a b c = 0) := share_zero h0
    clear h0
    go_enter Tryd.func17, Tryd.ntmps17
    go_wp2_with (go_at_call 9; refine (clamp_calls _ _).mono ?_; rintro e w' ⟨rfl, rfl⟩)
    all_goals (go_ret; exact ⟨ret_int HP.out.symm, rfl⟩)
  · have hz : (clampI b == 0) = false := by simpa using h0
    have hp : 0 < clampI b := by omega
    by_cases hc0 : c < 0
    · obtain ⟨m1, m2⟩ := mul_bd h1 h2 (show (0 : Int) ≤ 0 by omega) (show (0 : Int) ≤ 1000 by omega)
      have HP : Hid _ := share_some (a := a) h0 (show scaleI c = 0 by unfold scaleI; omega)
      go_enter Tryd.func17, Tryd.ntmps17
      go_wp2_with (go_at_call 9; refine (clamp_calls _ _).mono ?_; rintro e w' ⟨rfl, rfl⟩)
      all_goals (go_ret; exact ⟨ret_int (by rw [HP.out]; simp), rfl⟩)
    · by_cases hc1 : 1000 < c
      · obtain ⟨m1, m2⟩ := mul_bd h1 h2 (show (0 : Int) ≤ 1000 by omega) (show (1000 : Int) ≤ 1000 by omega)
        obtain ⟨m3, m4⟩ := div_bd m1 m2 hp
        have HP : Hid _ := share_some (a := a) h0 (show scaleI c = 1000 by unfold scaleI; omega)
        go_enter Tryd.func17, Tryd.ntmps17
        go_wp2_with (go_at_call 9; refine (clamp_calls _ _).mono ?_; rintro e w' ⟨rfl, rfl⟩)
        all_goals (go_ret; exact ⟨ret_int (by rw [HP.out]; omega), rfl⟩)
      · obtain ⟨m1, m2⟩ := mul_bd (s := c) h1 h2 (by omega) (by omega)
        obtain ⟨m3, m4⟩ := div_bd m1 m2 hp
        have HP : Hid _ := share_some (a := a) h0 (show scaleI c = c by unfold scaleI; omega)
        go_enter Tryd.func17, Tryd.ntmps17
        go_wp2_with (go_at_call 9; refine (clamp_calls _ _).mono ?_; rintro e w' ⟨rfl, rfl⟩)
        all_goals (go_ret; exact ⟨ret_int (by rw [HP.out]; omega), rfl⟩)
set_option maxHeartbeats 1000000 in
theorem rtimes_calls (a n : Int) (w : World) : Calls Tryd.prog 16 #[.int .i64 a, .int .i64 n] w fun e w' => e = .returned (.int .i64 (timesI a n)) ∧ w' = w := by
  have h1 := clampI_ge a; have h2 := clampI_le a; have h3 := clampI_ge n; have h4 := clampI_le n
  by_cases ha : clampI a = 0
  · have hz : (clampI a == 0) = true := by simpa using ha
    have HP : Hid (timesI a n = 0) := by unfold Hid timesI; rw [ha]; simp
    clear ha
    go_enter Tryd.func16, Tryd.ntmps16
    go_wp2_with (go_at_call 10; refine (rclamp_calls _ _).mono ?_; rintro e w' ⟨rfl, rfl⟩)
    go_ret
    exact ⟨ret_int HP.out.symm, rfl⟩
  · have hy : (clampI a == 0) = false := by simpa using ha
    by_cases h0 : clampI n = 0
    · have hz : (clampI n == 0) = true := by simpa using h0
      have HP : Hid (timesI a n = 0) := by unfold Hid timesI; rw [h0]; simp
      clear h0 ha
      go_enter Tryd.func16, Tryd.ntmps16
      go_wp2_with (go_at_call 10; refine (rclamp_calls _ _).mono ?_; rintro e w' ⟨rfl, rfl⟩)
      go_ret
      exact ⟨ret_int HP.out.symm, rfl⟩
    · have hz : (clampI n == 0) = false := by simpa using h0
      have hp : 0 < clampI n := by omega
      by_cases hb : 1125899906842624 / clampI n < clampI a
      · have HP : Hid (timesI a n = 1125899906842624) := by unfold Hid timesI; rw [if_pos (most_lt_mul hp hb)]
        go_enter Tryd.func16, Tryd.ntmps16
        go_wp2_with (go_at_call 10; refine (rclamp_calls _ _).mono ?_; rintro e w' ⟨rfl, rfl⟩)
        go_ret
        exact ⟨ret_int HP.out.symm, rfl⟩
      · obtain ⟨hm, hm2⟩ := mul_le_most h1 hp (Int.not_lt.1 hb)
        have HP : Hid (timesI a n = clampI a * clampI n) := by unfold Hid timesI; rw [if_neg (by omega)]
        go_enter Tryd.func16, Tryd.ntmps16
        go_wp2_with (go_at_call 10; refine (rclamp_calls _ _).mono ?_; rintro e w' ⟨rfl, rfl⟩)
        go_ret
        exact ⟨ret_int HP.out.symm, rfl⟩

set_option maxHeartbeats 1000000 in
theorem rshare_calls (a b c : Int) (w : World) : Calls Tryd.prog 18 #[.int .i64 a, .int .i64 b, .int .i64 c] w fun e w' => e = .returned (.int .i64 (shareI a b c)) ∧ w' = w := by
  have h1 := clampI_ge a; have h2 := clampI_le a; have h3 := clampI_ge b; have h4 := clampI_le b
  by_cases h0 : clampI b = 0
  · have hz : (clampI b == 0) = true := by simpa using h0
    have HP : Hid (shareI a b c = 0) := share_zero h0
    clear h0
    go_enter Tryd.func18, Tryd.ntmps18
    go_wp2_with (go_at_call 10; refine (rclamp_calls _ _).mono ?_; rintro e w' ⟨rfl, rfl⟩)
    all_goals (go_ret; exact ⟨ret_int HP.out.symm, rfl⟩)
  · have hz : (clampI b == 0) = false := by simpa using h0
    have hp : 0 < clampI b := by omega
    by_cases hc0 : c ≤ 0
    · obtain ⟨m1, m2⟩ := mul_bd h1 h2 (show (0 : Int) ≤ 0 by omega) (show (0 : Int) ≤ 1000 by omega)
      have HP : Hid _ := share_some (a := a) h0 (show scaleI c = 0 by unfold scaleI; omega)
      go_enter Tryd.func18, Tryd.ntmps18
      go_wp2_with (go_at_call 10; refine (rclamp_calls _ _).mono ?_; rintro e w' ⟨rfl, rfl⟩)
      all_goals (go_ret; exact ⟨ret_int (by rw [HP.out]; simp), rfl⟩)
    · by_cases hc1 : 1000 < c
      · obtain ⟨m1, m2⟩ := mul_bd h1 h2 (show (0 : Int) ≤ 1000 by omega) (show (1000 : Int) ≤ 1000 by omega)
        obtain ⟨m3, m4⟩ := div_bd m1 m2 hp
        have HP : Hid _ := share_some (a := a) h0 (show scaleI c = 1000 by unfold scaleI; omega)
        go_enter Tryd.func18, Tryd.ntmps18
        go_wp2_with (go_at_call 10; refine (rclamp_calls _ _).mono ?_; rintro e w' ⟨rfl, rfl⟩)
        all_goals (go_ret; exact ⟨ret_int (by rw [HP.out]; omega), rfl⟩)
      · obtain ⟨m1, m2⟩ := mul_bd (s := c) h1 h2 (by omega) (by omega)
        obtain ⟨m3, m4⟩ := div_bd m1 m2 hp
        have HP : Hid _ := share_some (a := a) h0 (show scaleI c = c by unfold scaleI; omega)
        go_enter Tryd.func18, Tryd.ntmps18
        go_wp2_with (go_at_call 10; refine (rclamp_calls _ _).mono ?_; rintro e w' ⟨rfl, rfl⟩)
        all_goals (go_ret; exact ⟨ret_int (by rw [HP.out]; omega), rfl⟩)
end Go.Proofs.YthnfdbbnmddnhaaDoor
