/- The chapter's examples come out as it says, whatever the world, and change nothing that was there. Condition: the table of powers of ten reads as Go's library lays it. -/
import Derived.Test.YthnfdbbnmddnhaaDoorPrint
import Derived.Test.YthnfdbbnmddnhaaDoorArith
namespace Go.Proofs.YthnfdbbnmddnhaaDoor
open Go.RowKit

theorem parse_1500m : parseL [49, 53, 48, 48, 109] = (1500, 0) := by decide +kernel
theorem add_most : addI 1125899906842624 1 = 1125899906842624 := by decide +kernel
theorem share_37 : shareI 1500 4000 100 = 37 := by decide +kernel
theorem print_1500 : printL 1500 = [49, 53, 48, 48, 109] := by
  have e : Lib.decDigits 1500 = [49, 53, 48, 48] := by
    rw [Lib.decDigits_eq]
    rw [Lib.nDigits_unique 3 1500 (by decide) (by decide)]
    decide +kernel
  have c : clampI 1500 = 1500 := by decide +kernel
  unfold printL
  rw [c, if_neg (by decide), show ((1500 : Int).toNat) = 1500 from rfl, e]
  rfl

set_option maxHeartbeats 1000000 in
theorem works_calls (w : World) (ht : Tab w) : Calls Tryd.prog 19 #[] w fun e w' => e = .returned (.bool true) ∧ Below w.heap.size w w' := by
  have HT := ht
  have p1 : (parseL [49, 53, 48, 48, 109]).1 = 1500 := by rw [parse_1500m]
  have p2 : (parseL [49, 53, 48, 48, 109]).2 = 0 := by rw [parse_1500m]
  have p3 := add_most
  have p4 := share_37
  have p5 := print_1500
  go_enter Tryd.func19, Tryd.ntmps19
  go_wp2_with (first | (go_at_call 20; refine (parse_calls _ _ (by decide)).mono ?_; rintro e w' ⟨rfl, rfl⟩) | (go_at_call 11; refine (add_calls _ _ _).mono ?_; rintro e w' ⟨rfl, rfl⟩) | (go_at_call 17; refine (share_calls _ _ _ _).mono ?_; rintro e w' ⟨rfl, rfl⟩) | (go_at_call 22; refine (print_calls _ _ HT).mono ?_; rintro e w1 ⟨rfl, hb⟩))
  go_ret
  exact ⟨rfl, hb⟩
end Go.Proofs.YthnfdbbnmddnhaaDoor
