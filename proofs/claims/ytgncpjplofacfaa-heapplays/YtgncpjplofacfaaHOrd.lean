/- The order of entries: of two that are not the same just one comes ahead, and it goes on over a third. Plain mathematics. No condition. -/
import Derived.Test.YtgncpjplofacfaaHWorks
namespace Go.Proofs.Ytgncpjplofacfaa
set_option linter.unusedSimpArgs false

theorem bl_irr : ∀ a : List UInt8, Op.bytesLess a a = false
  | [] => rfl
  | a :: x => by simp [Op.bytesLess, bl_irr x]
theorem bl_tot : ∀ a b : List UInt8, a ≠ b → Op.bytesLess b a = !Op.bytesLess a b
  | [], [], h => absurd rfl h
  | [], _ :: _, _ => rfl
  | _ :: _, [], _ => rfl
  | a :: x, b :: y, h => by
    by_cases e : a = b
    · subst e
      have ih := bl_tot x y (fun e => h (by rw [e]))
      simp [Op.bytesLess, ih]
    · have hne : a.toNat ≠ b.toNat := fun h' => e (UInt8.toNat_inj.1 h')
      by_cases hl : a < b
      · have h1 : ¬ b < a := fun h' => by have p : a.toNat < b.toNat := hl; have q : b.toNat < a.toNat := h'; omega
        have e2 : ¬ b = a := fun e' => e e'.symm
        simp [Op.bytesLess, hl, h1, e2]
      · have h1 : b < a := by
          show b.toNat < a.toNat
          have : ¬ a.toNat < b.toNat := hl
          omega
        simp [Op.bytesLess, hl, h1, e]
theorem bl_trans : ∀ a b c : List UInt8, Op.bytesLess a b = true → Op.bytesLess b c = true → Op.bytesLess a c = true
  | _, [], _, h, _ => by simp [Op.bytesLess] at h
  | _, _ :: _, [], _, h => by simp [Op.bytesLess] at h
  | [], _ :: _, _ :: _, _, _ => rfl
  | a :: x, b :: y, c :: z, h1, h2 => by
    simp only [Op.bytesLess, Bool.or_eq_true, Bool.and_eq_true, decide_eq_true_eq, beq_iff_eq] at h1 h2 ⊢
    rcases h1 with h1 | ⟨rfl, h1⟩ <;> rcases h2 with h2 | ⟨rfl, h2⟩
    · exact .inl (UInt8.lt_trans h1 h2)
    · exact .inl h1
    · exact .inl h2
    · exact .inr ⟨rfl, bl_trans x y z h1 h2⟩
theorem ahead_self (a : It) : ahead a a = false := by simp [ahead, bl_irr]
theorem str_ne {a b : ByteArray} (h : a ≠ b) : a.toList ≠ b.toList := fun e => by
  rw [ByteArray.toList_eq, ByteArray.toList_eq] at e
  exact h (by cases a; cases b; simp at e; simp [e])
theorem ahead_tot {a b : It} (h : a ≠ b) : ahead b a = !ahead a b := by
  obtain ⟨ak, ar, ac⟩ := a
  obtain ⟨bk, br, bc⟩ := b
  unfold ahead
  simp only
  by_cases h1 : ar = br
  · by_cases h2 : ac = bc
    · have h3 : ak ≠ bk := fun e => h (by rw [e, h1, h2])
      simp [h1, h2, bl_tot _ _ (str_ne h3)]
    · have e : decide (bc < ac) = !decide (ac < bc) := by
        by_cases hl : ac < bc
        · simp [hl]; omega
        · simp [hl]; omega
      have e2 : ¬ bc = ac := fun e' => h2 e'.symm
      simp [h1, h2, e2, e]
  · have e : decide (ar < br) = !decide (br < ar) := by
      by_cases hl : br < ar
      · simp [hl]; omega
      · simp [hl]; omega
    have e2 : ¬ br = ar := fun e' => h1 e'.symm
    simp [h1, e2, e]
theorem ahead_trans {a b c : It} (h1 : ahead a b = true) (h2 : ahead b c = true) : ahead a c = true := by
  obtain ⟨ak, ar, ac⟩ := a
  obtain ⟨bk, br, bc⟩ := b
  obtain ⟨ck, cr, cc⟩ := c
  unfold ahead at h1 h2 ⊢
  simp only at h1 h2 ⊢
  by_cases p1 : ar = br
  · by_cases p2 : br = cr
    · subst p1 p2
      simp only [ne_eq, not_true_eq_false, if_false] at h1 h2 ⊢
      by_cases q1 : ac = bc
      · by_cases q2 : bc = cc
        · subst q1 q2
          simp only [ne_eq, not_true_eq_false, if_false] at h1 h2 ⊢
          exact bl_trans _ _ _ h1 h2
        · subst q1
          simp [q2] at h2 ⊢
          exact h2
      · by_cases q2 : bc = cc
        · subst q2
          simp [q1] at h1 ⊢
          exact h1
        · simp [q1, q2] at h1 h2
          have q3 : ac ≠ cc := by omega
          simp [q3]; omega
    · subst p1
      simp [p2] at h2 ⊢
      exact h2
  · by_cases p2 : br = cr
    · subst p2
      simp [p1] at h1 ⊢
      exact h1
    · simp [p1, p2] at h1 h2
      have p3 : ar ≠ cr := by omega
      simp [p3]; omega
end Go.Proofs.Ytgncpjplofacfaa
