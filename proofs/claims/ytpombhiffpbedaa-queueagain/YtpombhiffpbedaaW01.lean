/- base.Among: which number it is. Condition: the second number is above 0, and no greater than a length can be. -/
import Derived.Test.YtpombhiffpbedaaQ01
namespace Go.Proofs.Ytpombhiffpbedaa
open Go.RowKit
set_option linter.unusedSimpArgs false

def amongP (n : Int) (m : Nat) : Nat := (IntKind.u64.wrap n % (m : Int)).toNat
theorem among_lt (n : Int) {m : Nat} (hm : 0 < m) : amongP n m < m := by
  have h1 : 0 ≤ IntKind.u64.wrap n % (m : Int) := Int.emod_nonneg _ (by omega)
  have h2 : IntKind.u64.wrap n % (m : Int) < (m : Int) := Int.emod_lt_of_pos _ (by omega)
  unfold amongP
  omega
theorem Among_is (n : Int) (m : Nat) (hm : 0 < m) (hml : m ≤ 140737488355328) (w : World) : Calls Try.prog 9 #[.int .i64 n, .int .i64 m] w fun e w' => e = .returned (.int .i64 (amongP n m)) ∧ w' = w := by
  have hw : IntKind.u64.wrap (m : Int) = (m : Int) := by simp [IntKind.wrap, IntKind.bits, IntKind.signed]; omega
  have hz : ((m : Int) == 0) = false := by rw [beq_eq_false_iff_ne]; omega
  have hz' : ¬ (m : Int) = 0 := by omega
  have ha : ((amongP n m : Nat) : Int) = IntKind.u64.wrap n % (m : Int) := by unfold amongP; exact Int.toNat_of_nonneg (Int.emod_nonneg _ (by omega))
  rw [ha]
  clear ha
  generalize hr : IntKind.u64.wrap n = r
  have hr0 : 0 ≤ r := by rw [← hr]; simp [IntKind.wrap, IntKind.bits, IntKind.signed]; omega
  have h1 : 0 ≤ r % (m : Int) := Int.emod_nonneg _ (by omega)
  have h2 : r % (m : Int) < (m : Int) := Int.emod_lt_of_pos _ (by omega)
  have h3 : r.tmod (m : Int) = r % (m : Int) := Int.tmod_eq_emod_of_nonneg hr0
  go_enter Try.func9, Try.ntmps9
  go_wp2
  go_ret
  exact ⟨rfl, rfl⟩
end Go.Proofs.Ytpombhiffpbedaa
