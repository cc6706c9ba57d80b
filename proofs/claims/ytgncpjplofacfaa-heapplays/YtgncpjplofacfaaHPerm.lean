/- What the sort makes of a list has its entries, each as often. Plain mathematics. No condition. -/
import Derived.Test.YtgncpjplofacfaaHStab
namespace Go.Proofs.Ytgncpjplofacfaa
set_option linter.unusedSimpArgs false

theorem swapL_perm {L : List It} {i j : Nat} (hi : i < L.length) (hj : j < L.length) : (swapL L i j).Perm L := by
  unfold swapL
  rw [at_get hi, at_get hj]
  exact List.set_set_perm hi hj
theorem insI_perm (a : Nat) : ∀ (j : Nat) (L : List It), j < L.length → (insI a j L).Perm L
  | 0, L, _ => List.Perm.refl L
  | j + 1, L, h => by
    unfold insI
    split
    · split
      · exact (insI_perm a j _ (by rw [swapL_length]; omega)).trans (swapL_perm h (by omega))
      · exact List.Perm.refl L
    · exact List.Perm.refl L
theorem insO_perm (a : Nat) : ∀ (n i : Nat) (L : List It), i + n ≤ L.length → (insO a n i L).Perm L
  | 0, _, L, _ => List.Perm.refl L
  | n + 1, i, L, h => (insO_perm a n (i + 1) _ (by rw [insI_length]; omega)).trans (insI_perm a i L (by omega))
theorem swR_perm : ∀ (n a b : Nat) (L : List It), a + n ≤ L.length → b + n ≤ L.length → (swR n a b L).Perm L
  | 0, _, _, L, _, _ => List.Perm.refl L
  | n + 1, a, b, L, h1, h2 => (swR_perm n (a + 1) (b + 1) _ (by rw [swapL_length]; omega) (by rw [swapL_length]; omega)).trans (swapL_perm (by omega) (by omega))
theorem rotF_perm : ∀ (f m i j : Nat) (L : List It), i ≤ m → m + j ≤ L.length → (rotF f m i j L).Perm L
  | 0, _, _, _, L, _, _ => List.Perm.refl L
  | f + 1, m, i, j, L, h1, h2 => by
    unfold rotF
    split
    · exact swR_perm _ _ _ _ (by omega) (by omega)
    · split
      · exact (rotF_perm f m (i - j) j _ (by omega) (by rw [swR_length]; omega)).trans (swR_perm _ _ _ _ (by omega) (by omega))
      · exact (rotF_perm f m i (j - i) _ (by omega) (by rw [swR_length]; omega)).trans (swR_perm _ _ _ _ (by omega) (by omega))
theorem swU_perm : ∀ (n k : Nat) (L : List It), n = 0 ∨ k + n < L.length → (swU n k L).Perm L
  | 0, _, L, _ => List.Perm.refl L
  | n + 1, k, L, h => (swU_perm n (k + 1) _ (by rw [swapL_length]; omega)).trans (swapL_perm (by omega) (by omega))
theorem swD_perm : ∀ (n k : Nat) (L : List It), n = 0 ∨ (n ≤ k ∧ k < L.length) → (swD n k L).Perm L
  | 0, _, L, _ => List.Perm.refl L
  | n + 1, k, L, h => (swD_perm n (k - 1) _ (by rw [swapL_length]; omega)).trans (swapL_perm (by omega) (by omega))
theorem symS_in (a m b : Nat) (L : List It) (h1 : a < m) (h2 : m < b) : a ≤ symS a m b L ∧ symS a m b L ≤ m ∧ symS a m b L ≤ (a + b) / 2 ∧ (a + b) / 2 + m ≤ symS a m b L + b := by
  unfold symS
  split
  · have := bs_in (t := symQ ((a + b) / 2 + m) L) ((a + b) / 2 - ((a + b) / 2 + m - b) + 1) ((a + b) / 2 + m - b) ((a + b) / 2) (by omega)
    omega
  · have := bs_in (t := symQ ((a + b) / 2 + m) L) (m - a + 1) a m (by omega)
    omega
theorem symF_perm : ∀ (f a m b : Nat) (L : List It), a < m → m < b → b ≤ L.length → (symF f a m b L).Perm L
  | 0, _, _, _, L, _, _, _ => List.Perm.refl L
  | f + 1, a, m, b, L, h1, h2, h3 => by
    unfold symF
    split
    · have := bs_in (t := fun h => ahead (at_ L h) (at_ L a)) (b - m + 1) m b (by omega)
      exact swU_perm _ _ _ (by omega)
    · split
      · have := bs_in (t := fun h => !ahead (at_ L m) (at_ L h)) (m - a + 1) a m (by omega)
        exact swD_perm _ _ _ (by omega)
      · have hs := symS_in a m b L h1 h2
        generalize symS a m b L = s at hs
        have p1 : ∀ {M : List It}, M.length = L.length → M.Perm L → (if a < s ∧ s < (a + b) / 2 then symF f a s ((a + b) / 2) M else M).Perm L ∧ (if a < s ∧ s < (a + b) / 2 then symF f a s ((a + b) / 2) M else M).length = L.length := by
          intro M hl hp
          split
          · exact ⟨(symF_perm f _ _ _ M (by omega) (by omega) (by omega)).trans hp, by rw [symF_length]; exact hl⟩
          · exact ⟨hp, hl⟩
        have p2 : ∀ {M : List It}, M.length = L.length → M.Perm L → (if (a + b) / 2 < (a + b) / 2 + m - s ∧ (a + b) / 2 + m - s < b then symF f ((a + b) / 2) ((a + b) / 2 + m - s) b M else M).Perm L := by
          intro M hl hp
          split
          · exact (symF_perm f _ _ _ M (by omega) (by omega) (by omega)).trans hp
          · exact hp
        have p0 : ∀ (c : Prop) [Decidable c], c → True := fun _ _ _ => trivial
        unfold symT
        simp only
        by_cases c : s < m ∧ m < (a + b) / 2 + m - s
        · rw [if_pos c]
          have q := p1 (M := rotF ((a + b) / 2 + m - s - s) m (m - s) ((a + b) / 2 + m - s - m) L) (rotF_length _ _ _ _ _) (rotF_perm _ _ _ _ _ (by omega) (by omega))
          exact p2 q.2 q.1
        · rw [if_neg c]
          have q := p1 (M := L) rfl (List.Perm.refl L)
          exact p2 q.2 q.1
theorem blkF_perm : ∀ (f k a n : Nat) (L : List It), a ≤ n → n ≤ L.length → 0 < k → (blkF f k a n L).Perm L
  | 0, _, _, _, L, _, _, _ => List.Perm.refl L
  | f + 1, k, a, n, L, h1, h2, h3 => by
    unfold blkF
    split
    · exact (blkF_perm f k (a + k) n _ (by omega) (by rw [insO_length]; exact h2) h3).trans (insO_perm _ _ _ _ (by omega))
    · rcases Nat.lt_or_ge a n with h | h
      · exact insO_perm _ _ _ _ (by omega)
      · rw [show n - (a + 1) = 0 by omega]; exact List.Perm.refl L
theorem mrgF_perm : ∀ (f k a n : Nat) (L : List It), n ≤ L.length → 0 < k → (mrgF f k a n L).Perm L
  | 0, _, _, _, L, _, _ => List.Perm.refl L
  | f + 1, k, a, n, L, h2, h3 => by
    unfold mrgF
    split
    · exact (mrgF_perm f k (a + 2 * k) n _ (by rw [symF_length]; exact h2) h3).trans (symF_perm _ _ _ _ _ (by omega) (by omega) (by omega))
    · split
      · exact symF_perm _ _ _ _ _ (by omega) (by omega) h2
      · exact List.Perm.refl L
theorem rndF_perm : ∀ (f k n : Nat) (L : List It), n ≤ L.length → 0 < k → (rndF f k n L).Perm L
  | 0, _, _, L, _, _ => List.Perm.refl L
  | f + 1, k, n, L, h2, h3 => by
    unfold rndF
    split
    · exact (rndF_perm f (2 * k) n _ (by rw [mrgF_length]; exact h2) (by omega)).trans (mrgF_perm _ _ _ _ _ h2 h3)
    · exact List.Perm.refl L
theorem stabF_perm (L : List It) : (stabF L).Perm L :=
  (rndF_perm _ _ _ _ (by rw [blkF_length]; exact Nat.le_refl _) (by omega)).trans (blkF_perm _ _ _ _ _ (Nat.zero_le _) (Nat.le_refl _) (by omega))
end Go.Proofs.Ytgncpjplofacfaa
