/- The document's own Plus, Minus and Fits of amounts of several things: what they return, and that they change nothing that was there. No condition. -/
import Derived.Test.YthnfdbbnmddnhaaDoorRes
namespace Go.Proofs.YthnfdbbnmddnhaaDoor
open Go.RowKit

set_option maxHeartbeats 4000000 in
theorem rplus_calls (a b c x y z : Int) (w : World) : Calls Tryd.prog 25 #[.agg #[.int .i64 a, .int .i64 b, .int .i64 c], .agg #[.int .i64 x, .int .i64 y, .int .i64 z]] w fun e w' => e = .returned (.agg #[.int .i64 (addI a x), .int .i64 (addI b y), .int .i64 (addI c z)]) ∧ Below w.heap.size w w' := by
  go_enter Tryd.func25, Tryd.ntmps25
  go_wp2_with fail
  go_region_held3 (fun w' => w'.cell? ⟨w.heap.size, 0, none⟩ = some (.int .i64 a) ∧ w'.cell? ⟨w.heap.size, 1, none⟩ = some (.int .i64 b) ∧ w'.cell? ⟨w.heap.size, 2, none⟩ = some (.int .i64 c) ∧ w'.cell? ⟨w.heap.size + 1, 0, none⟩ = some (.int .i64 x) ∧ w'.cell? ⟨w.heap.size + 1, 1, none⟩ = some (.int .i64 y) ∧ w'.cell? ⟨w.heap.size + 1, 2, none⟩ = some (.int .i64 z)) ((refine ⟨?_, ?_, ?_, ?_, ?_, ?_⟩) <;> (simp [go_sem]; done))
    (first | (go_at_call 12; refine (radd_calls _ _ _).mono ?_; rintro e w' ⟨rfl, rfl⟩))
  go_wp2_with fail
  exact bodyPost_ret (v := .agg #[.int .i64 (addI a x), .int .i64 (addI b y), .int .i64 (addI c z)]) (by simp [results, Tryd.results25, go_sem]) rfl ⟨rfl, by go_grown⟩
set_option maxHeartbeats 4000000 in
theorem rminus_calls (a b c x y z : Int) (w : World) : Calls Tryd.prog 27 #[.agg #[.int .i64 a, .int .i64 b, .int .i64 c], .agg #[.int .i64 x, .int .i64 y, .int .i64 z]] w fun e w' => e = .returned (.agg #[.int .i64 (subI a x), .int .i64 (subI b y), .int .i64 (subI c z)]) ∧ Below w.heap.size w w' := by
  go_enter Tryd.func27, Tryd.ntmps27
  go_wp2_with fail
  go_region_held3 (fun w' => w'.cell? ⟨w.heap.size, 0, none⟩ = some (.int .i64 a) ∧ w'.cell? ⟨w.heap.size, 1, none⟩ = some (.int .i64 b) ∧ w'.cell? ⟨w.heap.size, 2, none⟩ = some (.int .i64 c) ∧ w'.cell? ⟨w.heap.size + 1, 0, none⟩ = some (.int .i64 x) ∧ w'.cell? ⟨w.heap.size + 1, 1, none⟩ = some (.int .i64 y) ∧ w'.cell? ⟨w.heap.size + 1, 2, none⟩ = some (.int .i64 z)) ((refine ⟨?_, ?_, ?_, ?_, ?_, ?_⟩) <;> (simp [go_sem]; done))
    (first | (go_at_call 14; refine (rsub_calls _ _ _).mono ?_; rintro e w' ⟨rfl, rfl⟩))
  go_wp2_with fail
  exact bodyPost_ret (v := .agg #[.int .i64 (subI a x), .int .i64 (subI b y), .int .i64 (subI c z)]) (by simp [results, Tryd.results27, go_sem]) rfl ⟨rfl, by go_grown⟩

theorem ret_b {a b : Bool} (h : a = b) : Ending.returned (.bool a) = .returned (.bool b) := by rw [h]
/-- no member of the first is above the second's -/
def fitsB (a b c x y z : Int) : Bool := decide (clampI a ≤ clampI x) && decide (clampI b ≤ clampI y) && decide (clampI c ≤ clampI z)

set_option maxHeartbeats 4000000 in
theorem rfits_calls (a b c x y z : Int) (w : World) : Calls Tryd.prog 29 #[.agg #[.int .i64 a, .int .i64 b, .int .i64 c], .agg #[.int .i64 x, .int .i64 y, .int .i64 z]] w fun e w' => e = .returned (.bool (fitsB a b c x y z)) ∧ Below w.heap.size w w' := by
  cases h1 : decide (clampI a ≤ clampI x)
  · have HF : Hid (fitsB a b c x y z = false) := by unfold Hid fitsB; rw [h1]; rfl
    go_enter Tryd.func29, Tryd.ntmps29
    go_wp2_with fail
    go_quiet ((go_at_call 10; exact Calls.quiet_of_same (rclamp_calls _ _)))
    go_wp2_with fail
    go_ret
    exact ⟨ret_b HF.out.symm, below_drewN (((Below.refl _ _).alloc (Nat.le_refl _) _).alloc (by simp) _) _⟩
  · cases h2 : decide (clampI b ≤ clampI y)
    · have HF : Hid (fitsB a b c x y z = false) := by unfold Hid fitsB; rw [h1, h2]; rfl
      go_enter Tryd.func29, Tryd.ntmps29
      go_wp2_with fail
      go_quiet ((go_at_call 10; exact Calls.quiet_of_same (rclamp_calls _ _)))
      go_wp2_with fail
      go_ret
      exact ⟨ret_b HF.out.symm, below_drewN (((Below.refl _ _).alloc (Nat.le_refl _) _).alloc (by simp) _) _⟩
    · cases h3 : decide (clampI c ≤ clampI z)
      · have HF : Hid (fitsB a b c x y z = false) := by unfold Hid fitsB; rw [h1, h2, h3]; rfl
        go_enter Tryd.func29, Tryd.ntmps29
        go_wp2_with fail
        go_quiet ((go_at_call 10; exact Calls.quiet_of_same (rclamp_calls _ _)))
        go_wp2_with fail
        go_ret
        exact ⟨ret_b HF.out.symm, below_drewN (((Below.refl _ _).alloc (Nat.le_refl _) _).alloc (by simp) _) _⟩
      · have HF : Hid (fitsB a b c x y z = true) := by unfold Hid fitsB; rw [h1, h2, h3]; rfl
        go_enter Tryd.func29, Tryd.ntmps29
        go_wp2_with fail
        go_quiet ((go_at_call 10; exact Calls.quiet_of_same (rclamp_calls _ _)))
        go_wp2_with fail
        go_ret
        exact ⟨ret_b HF.out.symm, below_drewN (((Below.refl _ _).alloc (Nat.le_refl _) _).alloc (by simp) _) _⟩
end Go.Proofs.YthnfdbbnmddnhaaDoor
