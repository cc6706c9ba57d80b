/- One that bears all is kept off nowhere, and shies at nothing; a number among so many; one thing borne in a slice of its own. Condition: the slices hold what is said of them. -/
import Derived.Test.YtgffnkfiecieeaaTMoreBase
namespace Go.Proofs.Ytgffnkfiecieeaa
open Go.RowKit
set_option linter.unusedSimpArgs false

def allB : Bear := (⟨#[]⟩, ⟨#[]⟩, true, 0)
theorem bears_all (t : Tnt) : bearsB allB t = true := by
  have h : sNil (⟨#[]⟩ : ByteArray) = true := by decide +kernel
  simp [bearsB, allB, h]
theorem borne_all (A C : List Bear) (t : Tnt) : borneB (A ++ [allB] ++ C) t = true := by
  simp [borneB, bears_all]
theorem open_all (e : Int) (A C : List Bear) (t : Tnt) : openT e (A ++ [allB] ++ C) t = false := by
  simp only [openT, borne_all]; simp
theorem kept_all (L : List Tnt) (A C : List Bear) : keptT L (A ++ [allB] ++ C) = (default, false) := keptT_no (fun _ _ => open_all _ _ _ _)
theorem shy_all (L : List Tnt) (A C : List Bear) : shyN L (A ++ [allB] ++ C) = 0 := by
  rw [shyN, List.countP_eq_zero]
  intro t _
  rw [open_all]
  simp

set_option maxHeartbeats 1000000 in
theorem Among_calls (n : Int) (m : Nat) (hm : 0 < m) (hml : m ≤ 140737488355328) (w : World) : Calls Try.prog 21 #[.int .i64 n, .int .i64 m] w fun e w' => (∃ k : Nat, e = .returned (.int .i64 k) ∧ k < m) ∧ w' = w := by
  have hw : IntKind.u64.wrap (m : Int) = (m : Int) := by simp [IntKind.wrap, IntKind.bits, IntKind.signed]; omega
  have hz : ((m : Int) == 0) = false := by rw [beq_eq_false_iff_ne]; omega
  have hz' : ¬ (m : Int) = 0 := by omega
  generalize hr : IntKind.u64.wrap n = r
  have hr0 : 0 ≤ r := by rw [← hr]; simp [IntKind.wrap, IntKind.bits, IntKind.signed]; omega
  have h1 : 0 ≤ r % (m : Int) := Int.emod_nonneg _ (by omega)
  have h2 : r % (m : Int) < (m : Int) := Int.emod_lt_of_pos _ (by omega)
  have h3 : r.tmod (m : Int) = r % (m : Int) := Int.tmod_eq_emod_of_nonneg hr0
  go_enter Try.func21, Try.ntmps21
  go_wp2
  go_ret
  refine ⟨⟨(r % (m : Int)).toNat, ?_, by omega⟩, rfl⟩
  rw [Int.toNat_of_nonneg h1]
  rfl
theorem bear_one (u : World) (t : TypeId) : BearsAt (u.alloc (.cells #[.string ⟨#[]⟩, .string ⟨#[]⟩, .bool true, .int .i64 0] t)) (some ⟨u.heap.size, 0, none⟩) [allB] := by
  refine ⟨by simp, fun x hx => ?_, fun _ => ⟨u.heap.size, 0, rfl, by simp, fun i hi j v hv => ?_⟩⟩
  · obtain rfl : x = allB := by simpa using hx
    exact ⟨by decide, by decide⟩
  · obtain rfl : i = 0 := by simpa using hi
    match j, hv with
    | 0, hv => simp [encB, allB] at hv; subst hv; simp [go_sem]
    | 1, hv => simp [encB, allB] at hv; subst hv; simp [go_sem]
    | 2, hv => simp [encB, allB] at hv; subst hv; simp [go_sem]
    | 3, hv => simp [encB, allB] at hv; subst hv; simp [go_sem]
    | j + 4, hv => simp [encB] at hv
end Go.Proofs.Ytgffnkfiecieeaa
