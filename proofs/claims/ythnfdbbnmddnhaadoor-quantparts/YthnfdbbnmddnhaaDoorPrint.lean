/- quant.Print returns the amount's text, and changes nothing that was there. Condition: the table of powers of ten reads as Go's library lays it. -/
import Derived.Test.YthnfdbbnmddnhaaDoorParseTop
import Derived.Lib.ItoaLen
namespace Go.Proofs.YthnfdbbnmddnhaaDoor
open Go.RowKit

theorem itoa_nat {n : Int} (h : 0 ≤ n) : Lib.itoa n = Lib.decDigits n.toNat := by unfold Lib.itoa; rw [if_neg (by omega)]

theorem bytes_m (l : List UInt8) : ({ data := l.toArray } ++ { data := #[109] } : ByteArray) = { data := (l ++ [109]).toArray } := by
  apply ByteArray.ext
  simp

set_option maxHeartbeats 1000000 in
theorem print_calls (a : Int) (w : World) (ht : Tab w) : Calls Tryd.prog 22 #[.int .i64 a] w fun e w' => e = .returned (.string ⟨(printL a).toArray⟩) ∧ Below w.heap.size w w' := by
  have h1 := clampI_ge a; have h2 := clampI_le a
  have HT := ht
  have hil := Lib.itoa_length_le (clampI a) (by omega) (by omega)
  by_cases hr : clampI a % 1000 = 0
  · have hr' : (clampI a % 1000 == 0) = true := by simpa using hr
    have HP : Hid (printL a = Lib.itoa (clampI a / 1000)) := by unfold Hid printL; rw [if_pos hr, itoa_nat (by omega)]
    clear hr
    go_enter Tryd.func22, Tryd.ntmps22
    go_wp2_with (first | (go_at_call 9; refine (clamp_calls _ _).mono ?_; rintro e w' ⟨rfl, rfl⟩) | (go_at_call 37; refine (Tryd.strconv_Itoa _ (by omega) (by omega) _ HT).mono ?_; rintro e w' ⟨rfl, k, os, rfl⟩))
    go_ret
    exact ⟨ret_str (by rw [HP.out]), Lib.below_grow _ _ (Nat.le_refl _) _ _⟩
  · have hr' : (clampI a % 1000 == 0) = false := by simpa using hr
    have HP : Hid (printL a = Lib.itoa (clampI a) ++ [109]) := by unfold Hid printL; rw [if_neg hr, itoa_nat (by omega)]
    clear hr
    go_enter Tryd.func22, Tryd.ntmps22
    go_wp2_with (first | (go_at_call 9; refine (clamp_calls _ _).mono ?_; rintro e w' ⟨rfl, rfl⟩) | (go_at_call 37; refine (Tryd.strconv_Itoa _ (by omega) (by omega) _ HT).mono ?_; rintro e w' ⟨rfl, k, os, rfl⟩))
    go_ret
    exact ⟨ret_str (by rw [HP.out, bytes_m]), Lib.below_grow _ _ (Nat.le_refl _) _ _⟩
end Go.Proofs.YthnfdbbnmddnhaaDoor
