/- An amount's text tells the amount: plain mathematics on lists of bytes, no program. No condition. -/
import Derived.Test.YthnfdbbnmddnhaaDoorText
namespace Go.Proofs.YthnfdbbnmddnhaaDoor

theorem dec_step (u : Nat) (h : ¬ u < 10) : Lib.decDigits u = Lib.decDigits (u / 10) ++ [UInt8.ofNat (48 + u % 10)] := by
  rw [Lib.decDigits, dif_neg h]
theorem dig_nat (k : Nat) (h : k < 10) : (UInt8.ofNat (48 + k)).toNat = 48 + k := by
  rw [UInt8.toNat_ofNat']
  omega
theorem isDig_of (k : Nat) (h : k < 10) : isDig (UInt8.ofNat (48 + k)) = true := by
  rw [isDig_iff, dig_nat k h]
  omega
theorem dec_facts (n : Nat) : ∀ u : Nat, u < 10 ^ (n + 1) → (Lib.decDigits u).all isDig = true ∧ numOf (Lib.decDigits u) = u ∧ 1 ≤ (Lib.decDigits u).length ∧ (Lib.decDigits u).length ≤ n + 1 ∧ (u ≠ 0 → (Lib.decDigits u).head? ≠ some 48) := by
  induction n with
  | zero =>
    intro u hu
    have hu' : u < 10 := by simpa using hu
    rw [Lib.decDigits_one hu']
    refine ⟨by rw [List.all_cons, isDig_of u hu']; rfl, ?_, by simp, by simp, fun h0 h => ?_⟩
    · show 10 * 0 + ((UInt8.ofNat (48 + u)).toNat - 48) = u
      rw [dig_nat u hu']
      omega
    · have e : UInt8.ofNat (48 + u) = 48 := Option.some.inj h
      have := congrArg UInt8.toNat e
      rw [dig_nat u hu'] at this
      have h48 : (48 : UInt8).toNat = 48 := rfl
      omega
  | succ n ih =>
    intro u hu
    by_cases h10 : u < 10
    · obtain ⟨a, b, c, d, e⟩ := ih u (by have : (10 : Nat) ^ 1 ≤ 10 ^ (n + 1) := Nat.pow_le_pow_right (by omega) (by omega); omega)
      exact ⟨a, b, c, by omega, e⟩
    · have hm : u % 10 < 10 := Nat.mod_lt _ (by omega)
      obtain ⟨a, b, c, d, e⟩ := ih (u / 10) (by rw [Nat.pow_succ] at hu; omega)
      rw [dec_step u h10]
      refine ⟨by rw [List.all_append, a, List.all_cons, isDig_of _ hm]; rfl, ?_, by simp, by simp; omega, fun _ => ?_⟩
      · rw [numOf_snoc, b, dig_nat _ hm]
        omega
      · cases hd : Lib.decDigits (u / 10) with
        | nil => rw [hd] at c; simp at c
        | cons x r =>
          rw [hd] at e
          simpa using e (by omega)
theorem dec_isNum (u : Nat) (h : u < 10 ^ 16) : isNum (Lib.decDigits u) = true ∧ numOf (Lib.decDigits u) = u := by
  obtain ⟨a, b, c, d, e⟩ := dec_facts 15 u h
  refine ⟨?_, b⟩
  unfold isNum
  have h1 : decide (1 ≤ (Lib.decDigits u).length) = true := by simpa using c
  have h2 : decide ((Lib.decDigits u).length ≤ 16) = true := by simpa using d
  rw [h1, h2, a, Bool.and_true, Bool.true_and, Bool.true_and, Bool.not_eq_true', Bool.and_eq_false_iff]
  by_cases h0 : u = 0
  · subst h0
    rw [Lib.decDigits_one (by omega)]
    exact .inl rfl
  · exact .inr (by rw [beq_eq_false_iff_ne]; exact e h0)
theorem dec_last (u : Nat) (h : u < 10 ^ 16) : (Lib.decDigits u).getLast? ≠ some 109 := by
  obtain ⟨a, _, _, _, _⟩ := dec_facts 15 u h
  intro hl
  have := List.all_eq_true.1 a 109 (List.mem_of_getLast? hl)
  revert this
  decide

/-- PRINT AND PARSE LEAD BACK. -/
theorem parse_print (a : Int) : parseL (printL a) = ((clampI a).toNat, 0) := by
  have h1 := clampI_ge a; have h2 := clampI_le a
  have hp : (10 : Nat) ^ 16 = 10000000000000000 := by decide
  unfold printL
  by_cases hr : clampI a % 1000 = 0
  · rw [if_pos hr]
    obtain ⟨i1, i2⟩ := dec_isNum (clampI a / 1000).toNat (by omega)
    unfold parseL
    rw [if_neg (dec_last _ (by omega))]
    unfold tells
    rw [if_pos i1, i2, if_neg (by omega)]
    exact Prod.ext (show (clampI a / 1000).toNat * 1000 = (clampI a).toNat by omega) rfl
  · rw [if_neg hr]
    obtain ⟨i1, i2⟩ := dec_isNum (clampI a).toNat (by omega)
    unfold parseL
    rw [if_pos (by simp), List.dropLast_concat]
    unfold tells
    rw [if_pos i1, i2, if_neg (by omega), Nat.mul_one]
end Go.Proofs.YthnfdbbnmddnhaaDoor
