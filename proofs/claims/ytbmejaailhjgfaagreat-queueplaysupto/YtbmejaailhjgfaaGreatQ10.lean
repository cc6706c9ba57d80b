/- What the sort makes of a list is sorted; of two sorted lists with the same entries there is one. Plain mathematics. No condition. A heap's order: what container/heap's steps make of a list is a heap again, with the entries that are meant. Plain mathematics. No condition. -/
import Derived.Test.YtbmejaailhjgfaaGreatQ08
import Derived.Test.YtbmejaailhjgfaaGreatQ09
namespace Go.Proofs.YtbmejaailhjgfaaGreat
set_option linter.unusedSimpArgs false
set_option maxRecDepth 100000

/-- The one does not come behind the other. -/
def nl (a b : It) : Prop := ahead b a = false
theorem nl_self (a : It) : nl a a := ahead_self a
theorem nl_trans {a b c : It} (h1 : nl a b) (h2 : nl b c) : nl a c := by
  unfold nl at *
  cases h : ahead c a with
  | false => rfl
  | true =>
    by_cases e : b = c
    · subst e; rw [h] at h1; exact h1
    · have k := ahead_tot e
      rw [h2] at k
      have k' : ahead b c = true := by
        cases q : ahead b c with
        | false => rw [q] at k; cases k
        | true => rfl
      have := ahead_trans k' h
      rw [this] at h1; cases h1
theorem nl_of {a b : It} (h : ahead a b = true) : nl a b := by
  unfold nl
  cases k : ahead b a with
  | false => rfl
  | true => have := ahead_trans h k; rw [ahead_self] at this; cases this
theorem nl_eq {a b : It} (h1 : nl a b) (h2 : nl b a) : a = b := by
  unfold nl at *
  by_cases e : a = b
  · exact e
  · have := ahead_tot e; rw [h1, h2] at this; cases this
def Srt (L : List It) (a b : Nat) : Prop := ∀ i j, a ≤ i → i ≤ j → j < b → nl (at_ L i) (at_ L j)
/-- Entries go about within a stretch. -/
structure Win (a b : Nat) (L M : List It) : Prop where
  len : M.length = L.length
  out : ∀ k, ¬ (a ≤ k ∧ k < b) → at_ M k = at_ L k
  ins : ∀ k, a ≤ k → k < b → ∃ j, a ≤ j ∧ j < b ∧ at_ M k = at_ L j
theorem Win.refl (a b : Nat) (L : List It) : Win a b L L := ⟨rfl, fun _ _ => rfl, fun k h1 h2 => ⟨k, h1, h2, rfl⟩⟩
theorem Win.trans {a b : Nat} {L M N : List It} (h : Win a b L M) (k : Win a b M N) : Win a b L N :=
  ⟨k.len.trans h.len, fun t ht => (k.out t ht).trans (h.out t ht), fun t h1 h2 => by
    obtain ⟨j, j1, j2, e⟩ := k.ins t h1 h2
    obtain ⟨i, i1, i2, e'⟩ := h.ins j j1 j2
    exact ⟨i, i1, i2, e.trans e'⟩⟩
theorem Win.wide {a b a' b' : Nat} {L M : List It} (h : Win a b L M) (h1 : a' ≤ a) (h2 : b ≤ b') : Win a' b' L M :=
  ⟨h.len, fun k hk => h.out k (by omega), fun k k1 k2 => by
    by_cases c : a ≤ k ∧ k < b
    · obtain ⟨j, j1, j2, e⟩ := h.ins k c.1 c.2
      exact ⟨j, by omega, by omega, e⟩
    · exact ⟨k, k1, k2, h.out k c⟩⟩
theorem Srt.win {a b c d : Nat} {L M : List It} (h : Srt L a b) (k : Win c d L M) (hd : d ≤ a ∨ b ≤ c) : Srt M a b := by
  intro i j h1 h2 h3
  rw [k.out i (by omega), k.out j (by omega)]
  exact h i j h1 h2 h3
theorem at_swapL {L : List It} {i j : Nat} (hi : i < L.length) (hj : j < L.length) (k : Nat) : at_ (swapL L i j) k = if k = j then at_ L i else if k = i then at_ L j else at_ L k := by
  by_cases hk : k < L.length
  · rw [at_get (by rw [swapL_length]; exact hk)]
    unfold swapL
    rw [List.getElem_set]
    by_cases e : j = k
    · simp [e]
    · rw [if_neg e, if_neg (fun h => e h.symm), List.getElem_set]
      by_cases e2 : i = k
      · simp [e2]
      · rw [if_neg e2, if_neg (fun h => e2 h.symm), at_get hk]
  · rw [if_neg (by omega), if_neg (by omega)]
    unfold at_
    rw [List.getD_eq_getElem?_getD, List.getD_eq_getElem?_getD, List.getElem?_eq_none (by rw [swapL_length]; omega), List.getElem?_eq_none (by omega)]
theorem at_ext {L M : List It} (hl : L.length = M.length) (h : ∀ k, at_ L k = at_ M k) : L = M := by
  apply List.ext_getElem hl
  intro i h1 h2
  have := h i
  rwa [at_get h1, at_get h2] at this
theorem swapL_win {L : List It} {i j a b : Nat} (hi : a ≤ i) (hi' : i < b) (hj : a ≤ j) (hj' : j < b) (hb : b ≤ L.length) : Win a b L (swapL L i j) := by
  refine ⟨swapL_length _ _ _, fun k hk => ?_, fun k h1 h2 => ?_⟩
  · rw [at_swapL (by omega) (by omega), if_neg (by omega), if_neg (by omega)]
  · rw [at_swapL (by omega) (by omega)]
    split
    · exact ⟨i, hi, hi', rfl⟩
    · split
      · exact ⟨j, hj, hj', rfl⟩
      · exact ⟨k, h1, h2, rfl⟩
/-- An entry goes down to its place: all others are sorted, and none behind it comes ahead of it. -/
theorem insI_srt (a e : Nat) : ∀ (j : Nat) (L : List It), a ≤ j → j < e → e ≤ L.length → (∀ i k, a ≤ i → i ≤ k → k < e → i ≠ j → k ≠ j → nl (at_ L i) (at_ L k)) → (∀ k, j < k → k < e → nl (at_ L j) (at_ L k)) → Srt (insI a j L) a e ∧ Win a e L (insI a j L)
  | 0, L, ha, he, hl, h1, h2 => by
    refine ⟨fun i k i1 i2 i3 => ?_, Win.refl _ _ _⟩
    show nl (at_ L i) (at_ L k)
    by_cases c : i = 0
    · subst c
      by_cases d : k = 0
      · subst d; exact nl_self _
      · exact h2 k (by omega) i3
    · exact h1 i k i1 i2 i3 c (by omega)
  | p + 1, L, ha, he, hl, h1, h2 => by
    have stop : (a < p + 1 → nl (at_ L p) (at_ L (p + 1))) → Srt L a e := by
      intro hp i k i1 i2 i3
      by_cases c : i = p + 1
      · by_cases d : k = p + 1
        · rw [c, d]; exact nl_self _
        · rw [c]; exact h2 k (by omega) i3
      · by_cases d : k = p + 1
        · rw [d]
          exact nl_trans (h1 i p i1 (by omega) (by omega) (by omega) (by omega)) (hp (by omega))
        · exact h1 i k i1 i2 i3 c d
    unfold insI
    split
    · rename_i hap
      split
      · rename_i hah
        have hs := fun k => at_swapL (L := L) (i := p + 1) (j := p) (by omega) (by omega) k
        have ih := insI_srt a e p (swapL L (p + 1) p) (by omega) (by omega) (by rw [swapL_length]; exact hl) (by
          intro i k i1 i2 i3 c d
          rw [hs i, hs k, if_neg c, if_neg d]
          by_cases c1 : i = p + 1
          · rw [if_pos c1]
            by_cases d1 : k = p + 1
            · rw [if_pos d1]; exact nl_self _
            · rw [if_neg d1]; exact h1 p k (by omega) (by omega) i3 (by omega) d1
          · rw [if_neg c1]
            by_cases d1 : k = p + 1
            · rw [if_pos d1]; exact h1 i p i1 (by omega) (by omega) c1 (by omega)
            · rw [if_neg d1]; exact h1 i k i1 i2 i3 c1 d1) (by
          intro k k1 k2
          rw [hs p, hs k, if_pos rfl, if_neg (by omega)]
          by_cases d1 : k = p + 1
          · rw [if_pos d1]; exact nl_of hah
          · rw [if_neg d1]; exact h2 k (by omega) k2)
        exact ⟨ih.1, (swapL_win (by omega) (by omega) (by omega) (by omega) hl).trans ih.2⟩
      · rename_i hah
        exact ⟨stop (fun _ => by unfold nl; simpa using hah), Win.refl _ _ _⟩
    · rename_i hap
      exact ⟨stop (fun h => absurd h hap), Win.refl _ _ _⟩
theorem insO_srt (a : Nat) : ∀ (n i : Nat) (L : List It), a < i → i + n ≤ L.length → Srt L a i → Srt (insO a n i L) a (i + n) ∧ Win a (i + n) L (insO a n i L)
  | 0, i, L, _, _, h => ⟨h, Win.refl _ _ _⟩
  | n + 1, i, L, ha, hl, h => by
    have k := insI_srt a (i + 1) i L (by omega) (by omega) (by omega) (fun x y x1 x2 x3 x4 x5 => h x y x1 x2 (by omega)) (fun k k1 k2 => by omega)
    have ih := insO_srt a n (i + 1) (insI a i L) (by omega) (by rw [insI_length]; omega) k.1
    rw [show i + 1 + n = i + (n + 1) by omega] at ih
    exact ⟨ih.1, (k.2.wide (Nat.le_refl _) (by omega)).trans ih.2⟩
theorem ins_srt (a b : Nat) (L : List It) (hb : b ≤ L.length) : Srt (insO a (b - (a + 1)) (a + 1) L) a b ∧ Win a b L (insO a (b - (a + 1)) (a + 1) L) := by
  rcases Nat.lt_or_ge a b with h | h
  · have := insO_srt a (b - (a + 1)) (a + 1) L (by omega) (by omega) (fun i j h1 h2 h3 => by rw [show i = j by omega]; exact nl_self _)
    rwa [show a + 1 + (b - (a + 1)) = b by omega] at this
  · rw [show b - (a + 1) = 0 by omega]
    exact ⟨fun i j h1 h2 h3 => by omega, Win.refl _ _ _⟩
theorem at_swR : ∀ (n a b : Nat) (L : List It), a + n ≤ b → b + n ≤ L.length → ∀ k, at_ (swR n a b L) k = if a ≤ k ∧ k < a + n then at_ L (k + (b - a)) else if b ≤ k ∧ k < b + n then at_ L (k - (b - a)) else at_ L k
  | 0, a, b, L, _, _, k => by rw [if_neg (by omega), if_neg (by omega)]; rfl
  | n + 1, a, b, L, h1, h2, k => by
    have hs := fun k => at_swapL (L := L) (i := a) (j := b) (by omega) (by omega) k
    rw [swR, at_swR n (a + 1) (b + 1) _ (by omega) (by rw [swapL_length]; omega)]
    by_cases c1 : k = a
    · rw [if_neg (by omega), if_neg (by omega), if_pos (by omega), hs, if_neg (by omega), if_pos c1]
      congr 1; omega
    · by_cases c2 : k = b
      · rw [if_neg (by omega), if_neg (by omega), if_neg (by omega), if_pos (by omega), hs, if_pos c2]
        congr 1; omega
      · by_cases c3 : a + 1 ≤ k ∧ k < a + 1 + n
        · rw [if_pos c3, if_pos (by omega), hs, if_neg (by omega), if_neg (by omega)]
          congr 1; omega
        · rw [if_neg c3]
          by_cases c4 : b + 1 ≤ k ∧ k < b + 1 + n
          · rw [if_pos c4, if_neg (by omega), if_pos (by omega), hs, if_neg (by omega), if_neg (by omega)]
            congr 1; omega
          · rw [if_neg c4, if_neg (by omega), if_neg (by omega), hs, if_neg c2, if_neg c1]
theorem at_rotF : ∀ (f m i j : Nat) (L : List It), 0 < i → 0 < j → i ≤ m → m + j ≤ L.length → i + j ≤ f → ∀ k, at_ (rotF f m i j L) k = if m - i ≤ k ∧ k < m - i + j then at_ L (k + i) else if m - i + j ≤ k ∧ k < m + j then at_ L (k - j) else at_ L k
  | 0, m, i, j, L, h1, h2, h3, h4, h5, k => by omega
  | f + 1, m, i, j, L, h1, h2, h3, h4, h5, k => by
    unfold rotF
    split
    · rename_i e
      subst e
      rw [at_swR _ _ _ _ (by omega) (by omega)]
      by_cases c1 : m - i ≤ k ∧ k < m - i + i
      · rw [if_pos c1, if_pos c1]; congr 1; omega
      · rw [if_neg c1, if_neg c1]
        by_cases c2 : m ≤ k ∧ k < m + i
        · rw [if_pos c2, if_pos (by omega)]; congr 1; omega
        · rw [if_neg c2, if_neg (by omega)]
    · rename_i e
      split
      · rename_i e2
        have hs := fun k => at_swR j (m - i) m L (by omega) (by omega) k
        rw [at_rotF f m (i - j) j _ (by omega) h2 (by omega) (by rw [swR_length]; omega) (by omega)]
        by_cases c1 : m - i ≤ k ∧ k < m - i + j
        · rw [if_pos c1, if_neg (by omega), if_neg (by omega), hs, if_pos c1]; congr 1; omega
        · rw [if_neg c1]
          by_cases c2 : m - i + j ≤ k ∧ k < m + j
          · rw [if_pos c2]
            by_cases c3 : k < m - (i - j) + j
            · rw [if_pos (by omega), hs, if_neg (by omega), if_pos (by omega)]; congr 1; omega
            · rw [if_neg (by omega), if_pos (by omega), hs, if_neg (by omega), if_neg (by omega)]
          · rw [if_neg c2, if_neg (by omega), if_neg (by omega), hs, if_neg (by omega), if_neg (by omega)]
      · rename_i e2
        have hs := fun k => at_swR i (m - i) (m + j - i) L (by omega) (by omega) k
        rw [at_rotF f m i (j - i) _ h1 (by omega) (by omega) (by rw [swR_length]; omega) (by omega)]
        by_cases c1 : m - i ≤ k ∧ k < m - i + j
        · rw [if_pos c1]
          by_cases c3 : k < m - i + (j - i)
          · rw [if_pos (by omega), hs, if_neg (by omega), if_neg (by omega)]
          · rw [if_neg (by omega), if_pos (by omega), hs, if_pos (by omega)]; congr 1; omega
        · rw [if_neg c1]
          by_cases c2 : m - i + j ≤ k ∧ k < m + j
          · rw [if_pos c2, if_neg (by omega), if_neg (by omega), hs, if_neg (by omega), if_pos (by omega)]; congr 1; omega
          · rw [if_neg c2, if_neg (by omega), if_neg (by omega), hs, if_neg (by omega), if_neg (by omega)]
theorem at_swU : ∀ (n k : Nat) (L : List It), n = 0 ∨ k + n < L.length → ∀ t, at_ (swU n k L) t = if k ≤ t ∧ t < k + n then at_ L (t + 1) else if t = k + n then at_ L k else at_ L t
  | 0, k, L, _, t => by
    rw [if_neg (by omega)]
    split
    · rename_i e; rw [e]; rfl
    · rfl
  | n + 1, k, L, h, t => by
    have hs := fun t => at_swapL (L := L) (i := k) (j := k + 1) (by omega) (by omega) t
    rw [swU, at_swU n (k + 1) _ (by rw [swapL_length]; omega)]
    by_cases c1 : t = k
    · rw [if_neg (by omega), if_neg (by omega), if_pos (by omega), hs, if_neg (by omega), if_pos c1, c1]
    · by_cases c2 : k + 1 ≤ t ∧ t < k + 1 + n
      · rw [if_pos c2, if_pos (by omega), hs, if_neg (by omega), if_neg (by omega)]
      · rw [if_neg c2]
        by_cases c3 : t = k + 1 + n
        · rw [if_pos c3, if_neg (by omega), if_pos (by omega), hs, if_pos rfl]
        · rw [if_neg c3, if_neg (by omega), if_neg (by omega), hs, if_neg (by omega), if_neg c1]
theorem at_swD : ∀ (n k : Nat) (L : List It), n = 0 ∨ (n ≤ k ∧ k < L.length) → ∀ t, at_ (swD n k L) t = if k - n < t ∧ t ≤ k then at_ L (t - 1) else if t = k - n then at_ L k else at_ L t
  | 0, k, L, _, t => by
    rw [if_neg (by omega)]
    split
    · rename_i e; rw [e]; rfl
    · rfl
  | n + 1, k, L, h, t => by
    have hs := fun t => at_swapL (L := L) (i := k) (j := k - 1) (by omega) (by omega) t
    rw [swD, at_swD n (k - 1) _ (by rw [swapL_length]; omega)]
    by_cases c1 : t = k
    · rw [if_neg (by omega), if_neg (by omega), if_pos (by omega), hs, if_neg (by omega), if_pos c1]
      congr 1; omega
    · by_cases c2 : k - 1 - n < t ∧ t ≤ k - 1
      · rw [if_pos c2, if_pos (by omega), hs, if_neg (by omega), if_neg (by omega)]
      · rw [if_neg c2]
        by_cases c3 : t = k - 1 - n
        · rw [if_pos c3, if_neg (by omega), if_pos (by omega), hs, if_pos rfl]
        · rw [if_neg c3, if_neg (by omega), if_neg (by omega), hs, if_neg (by omega), if_neg c1]
theorem bs_at {t : Nat → Bool} : ∀ (f i j : Nat), i ≤ j → j - i < f → (i < bs t f i j → t (bs t f i j - 1) = true) ∧ (bs t f i j < j → t (bs t f i j) = false)
  | 0, i, j, _, h => by omega
  | f + 1, i, j, h, hf => by
    unfold bs
    split
    · rename_i hij
      split
      · rename_i ht
        have ih := bs_at (t := t) f ((i + j) / 2 + 1) j (by omega) (by omega)
        have hi := bs_in (t := t) f ((i + j) / 2 + 1) j (by omega)
        refine ⟨fun _ => ?_, ih.2⟩
        rcases Nat.lt_or_ge ((i + j) / 2 + 1) (bs t f ((i + j) / 2 + 1) j) with c | c
        · exact ih.1 c
        · rw [show bs t f ((i + j) / 2 + 1) j - 1 = (i + j) / 2 by omega]; exact ht
      · rename_i ht
        have ih := bs_at (t := t) f i ((i + j) / 2) (by omega) (by omega)
        have hi := bs_in (t := t) f i ((i + j) / 2) (by omega)
        refine ⟨ih.1, fun _ => ?_⟩
        rcases Nat.lt_or_ge (bs t f i ((i + j) / 2)) ((i + j) / 2) with c | c
        · exact ih.2 c
        · rw [show bs t f i ((i + j) / 2) = (i + j) / 2 by omega]; simpa using ht
    · exact ⟨fun h => by omega, fun h => by omega⟩
/-- Two stretches that are sorted come to one. -/
theorem swU_srt {a b : Nat} {L : List It} (hab : a + 1 < b) (hb : b ≤ L.length) (h : Srt L (a + 1) b) : let M := swU (bs (fun h => ahead (at_ L h) (at_ L a)) (b - (a + 1) + 1) (a + 1) b - 1 - a) a L; Srt M a b ∧ Win a b L M := by
  have h1 := bs_in (t := fun h => ahead (at_ L h) (at_ L a)) (b - (a + 1) + 1) (a + 1) b (by omega)
  have h2 := bs_at (t := fun h => ahead (at_ L h) (at_ L a)) (b - (a + 1) + 1) (a + 1) b (by omega) (by omega)
  generalize bs (fun h => ahead (at_ L h) (at_ L a)) (b - (a + 1) + 1) (a + 1) b = i at h1 h2
  simp only
  have hs := fun t => at_swU (i - 1 - a) a L (by omega) t
  refine ⟨fun x y h3 h4 h5 => ?_, swU_length _ _ _, fun k hk => ?_, fun k k1 k2 => ?_⟩
  · rw [hs x, hs y]
    by_cases c1 : x < i - 1
    · rw [if_pos (by omega)]
      by_cases c2 : y < i - 1
      · rw [if_pos (by omega)]; exact h _ _ (by omega) (by omega) (by omega)
      · by_cases c3 : y = i - 1
        · rw [if_neg (by omega), if_pos (by omega)]
          exact nl_trans (h (x + 1) (i - 1) (by omega) (by omega) (by omega)) (nl_of (h2.1 (by omega)))
        · rw [if_neg (by omega), if_neg (by omega)]; exact h _ _ (by omega) (by omega) (by omega)
    · by_cases c4 : x = i - 1
      · rw [if_neg (by omega), if_pos (by omega)]
        by_cases c3 : y = i - 1
        · rw [if_neg (by omega), if_pos (by omega)]; exact nl_self _
        · rw [if_neg (by omega), if_neg (by omega)]
          exact nl_trans (h2.2 (by omega)) (h i y (by omega) (by omega) (by omega))
      · rw [if_neg (by omega), if_neg (by omega), if_neg (by omega), if_neg (by omega)]; exact h _ _ (by omega) (by omega) (by omega)
  · rw [hs k, if_neg (by omega), if_neg (by omega)]
  · rw [hs k]
    split
    · exact ⟨k + 1, by omega, by omega, rfl⟩
    · split
      · exact ⟨a, by omega, by omega, rfl⟩
      · exact ⟨k, k1, k2, rfl⟩
theorem swD_srt {a m : Nat} {L : List It} (hab : a < m) (hb : m + 1 ≤ L.length) (h : Srt L a m) : let M := swD (m - bs (fun h => !ahead (at_ L m) (at_ L h)) (m - a + 1) a m) m L; Srt M a (m + 1) ∧ Win a (m + 1) L M := by
  have h1 := bs_in (t := fun h => !ahead (at_ L m) (at_ L h)) (m - a + 1) a m (by omega)
  have h2 := bs_at (t := fun h => !ahead (at_ L m) (at_ L h)) (m - a + 1) a m (by omega) (by omega)
  generalize bs (fun h => !ahead (at_ L m) (at_ L h)) (m - a + 1) a m = i at h1 h2
  simp only
  have hs := fun t => at_swD (m - i) m L (by omega) t
  refine ⟨fun x y h3 h4 h5 => ?_, swD_length _ _ _, fun k hk => ?_, fun k k1 k2 => ?_⟩
  · rw [hs x, hs y]
    by_cases c1 : x < i
    · rw [if_neg (by omega), if_neg (by omega)]
      by_cases c2 : y < i
      · rw [if_neg (by omega), if_neg (by omega)]; exact h _ _ (by omega) (by omega) (by omega)
      · by_cases c3 : y = i
        · rw [if_neg (by omega), if_pos (by omega)]
          have := h2.1 (by omega)
          exact nl_trans (h x (i - 1) (by omega) (by omega) (by omega)) (show nl (at_ L (i - 1)) (at_ L m) by unfold nl; simpa using this)
        · rw [if_pos (by omega)]; exact h _ _ (by omega) (by omega) (by omega)
    · by_cases c4 : x = i
      · rw [if_neg (by omega), if_pos (by omega)]
        by_cases c3 : y = i
        · rw [if_neg (by omega), if_pos (by omega)]; exact nl_self _
        · rw [if_pos (by omega)]
          have := h2.2 (by omega)
          exact nl_trans (nl_of (show ahead (at_ L m) (at_ L i) = true by simpa using this)) (h i (y - 1) (by omega) (by omega) (by omega))
      · rw [if_pos (by omega), if_pos (by omega)]; exact h _ _ (by omega) (by omega) (by omega)
  · rw [hs k, if_neg (by omega), if_neg (by omega)]
  · rw [hs k]
    split
    · exact ⟨k - 1, by omega, by omega, rfl⟩
    · split
      · exact ⟨m, by omega, by omega, rfl⟩
      · exact ⟨k, k1, k2, rfl⟩
/-- Where the search ended: each place ahead against its fellow. -/
theorem symS_at (a m b : Nat) (L : List It) (h1 : a < m) (h2 : m < b) : (a < symS a m b L → (a + b) / 2 + m - symS a m b L < b → nl (at_ L (symS a m b L - 1)) (at_ L ((a + b) / 2 + m - symS a m b L))) ∧
    (symS a m b L < m → m < (a + b) / 2 + m - symS a m b L → nl (at_ L ((a + b) / 2 + m - symS a m b L - 1)) (at_ L (symS a m b L))) := by
  unfold symS
  split
  · rename_i c
    have hi := bs_in (t := symQ ((a + b) / 2 + m) L) ((a + b) / 2 - ((a + b) / 2 + m - b) + 1) ((a + b) / 2 + m - b) ((a + b) / 2) (by omega)
    have ha := bs_at (t := symQ ((a + b) / 2 + m) L) ((a + b) / 2 - ((a + b) / 2 + m - b) + 1) ((a + b) / 2 + m - b) ((a + b) / 2) (by omega) (by omega)
    generalize bs (symQ ((a + b) / 2 + m) L) ((a + b) / 2 - ((a + b) / 2 + m - b) + 1) ((a + b) / 2 + m - b) ((a + b) / 2) = s at hi ha
    refine ⟨fun c1 c2 => ?_, fun c1 c2 => ?_⟩
    · have := ha.1 (by omega)
      unfold symQ at this
      rw [show (a + b) / 2 + m - 1 - (s - 1) = (a + b) / 2 + m - s by omega] at this
      unfold nl; simpa using this
    · have := ha.2 (by omega)
      unfold symQ at this
      rw [show (a + b) / 2 + m - 1 - s = (a + b) / 2 + m - s - 1 by omega] at this
      exact nl_of (by simpa using this)
  · rename_i c
    have hi := bs_in (t := symQ ((a + b) / 2 + m) L) (m - a + 1) a m (by omega)
    have ha := bs_at (t := symQ ((a + b) / 2 + m) L) (m - a + 1) a m (by omega) (by omega)
    generalize bs (symQ ((a + b) / 2 + m) L) (m - a + 1) a m = s at hi ha
    refine ⟨fun c1 c2 => ?_, fun c1 c2 => ?_⟩
    · have := ha.1 (by omega)
      unfold symQ at this
      rw [show (a + b) / 2 + m - 1 - (s - 1) = (a + b) / 2 + m - s by omega] at this
      unfold nl; simpa using this
    · have := ha.2 (by omega)
      unfold symQ at this
      rw [show (a + b) / 2 + m - 1 - s = (a + b) / 2 + m - s - 1 by omega] at this
      exact nl_of (by simpa using this)
/-- Two sorted stretches, each of the one ahead of each of the other. -/
theorem srt_join {a c b : Nat} {L : List It} (h1 : Srt L a c) (h2 : Srt L c b) (h3 : ∀ i j, a ≤ i → i < c → c ≤ j → j < b → nl (at_ L i) (at_ L j)) : Srt L a b := by
  intro i j i1 i2 i3
  by_cases c1 : j < c
  · exact h1 i j i1 i2 c1
  · by_cases c2 : i < c
    · exact h3 i j i1 c2 (by omega) i3
    · exact h2 i j (by omega) i2 i3
theorem symF_srt : ∀ (f a m b : Nat) (L : List It), a < m → m < b → b ≤ L.length → b - a ≤ f → Srt L a m → Srt L m b → Srt (symF f a m b L) a b ∧ Win a b L (symF f a m b L)
  | 0, _, _, _, _, _, _, _, _, _, _ => by omega
  | f + 1, a, m, b, L, h1, h2, h3, hf, k1, k2 => by
    unfold symF
    split
    · rename_i e
      subst e
      exact swU_srt h2 h3 k2
    · split
      · rename_i e
        subst e
        exact swD_srt h1 h3 k1
      · rename_i e1 e2
        have hs := symS_in a m b L h1 h2
        have ha := symS_at a m b L h1 h2
        generalize symS a m b L = s at hs ha
        have hm1 : a < (a + b) / 2 := by omega
        have hm2 : (a + b) / 2 < b := by omega
        have hf1 : (a + b) / 2 - a ≤ f := by omega
        have hf2 : b - (a + b) / 2 ≤ f := by omega
        generalize (a + b) / 2 = mid at hs ha hm1 hm2 hf1 hf2
        generalize he : mid + m - s = e at ha
        unfold symT
        simp only
        have hr : ∃ M, (if s < m ∧ m < e then rotF (e - s) m (m - s) (e - m) L else L) = M ∧ Win a b L M ∧ Srt M a s ∧ Srt M s mid ∧ Srt M mid e ∧ Srt M e b ∧ ∀ i j, a ≤ i → i < mid → mid ≤ j → j < b → nl (at_ M i) (at_ M j) := by
          by_cases c : s < m ∧ m < e
          · rw [if_pos c]
            have hk : ∀ k, at_ (rotF (e - s) m (m - s) (e - m) L) k = if s ≤ k ∧ k < mid then at_ L (k + (m - s)) else if mid ≤ k ∧ k < e then at_ L (k - (e - m)) else at_ L k := by
              intro k
              rw [at_rotF (e - s) m (m - s) (e - m) L (by omega) (by omega) (by omega) (by omega) (by omega) k]
              rw [show m - (m - s) = s by omega, show s + (e - m) = mid by omega, show m + (e - m) = e by omega]
            refine ⟨_, rfl, ⟨rotF_length _ _ _ _ _, fun k hk' => ?_, fun k q1 q2 => ?_⟩, ?_, ?_, ?_, ?_, ?_⟩
            · rw [hk, if_neg (by omega), if_neg (by omega)]
            · rw [hk]
              split
              · exact ⟨_, by omega, by omega, rfl⟩
              · split
                · exact ⟨_, by omega, by omega, rfl⟩
                · exact ⟨k, q1, q2, rfl⟩
            · intro i j q1 q2 q3
              rw [hk, hk, if_neg (by omega), if_neg (by omega), if_neg (by omega), if_neg (by omega)]
              exact k1 i j (by omega) (by omega) (by omega)
            · intro i j q1 q2 q3
              rw [hk, hk, if_pos (by omega), if_pos (by omega)]
              exact k2 _ _ (by omega) (by omega) (by omega)
            · intro i j q1 q2 q3
              rw [hk i, if_neg (by omega), if_pos (by omega), hk j, if_neg (by omega), if_pos (by omega)]
              exact k1 _ _ (by omega) (by omega) (by omega)
            · intro i j q1 q2 q3
              rw [hk, hk, if_neg (by omega), if_neg (by omega), if_neg (by omega), if_neg (by omega)]
              exact k2 i j (by omega) (by omega) (by omega)
            · intro i j q1 q2 q3 q4
              rw [hk i, hk j]
              by_cases d1 : s ≤ i
              · rw [if_pos (by omega), if_neg (by omega)]
                by_cases d2 : j < e
                · rw [if_pos (by omega)]
                  exact nl_trans (k2 _ (e - 1) (by omega) (by omega) (by omega)) (nl_trans (ha.2 (by omega) (by omega)) (k1 s _ (by omega) (by omega) (by omega)))
                · rw [if_neg (by omega)]
                  exact k2 _ _ (by omega) (by omega) (by omega)
              · rw [if_neg (by omega), if_neg (by omega), if_neg (by omega)]
                by_cases d2 : j < e
                · rw [if_pos (by omega)]
                  exact k1 _ _ (by omega) (by omega) (by omega)
                · rw [if_neg (by omega)]
                  exact nl_trans (k1 i (s - 1) (by omega) (by omega) (by omega)) (nl_trans (ha.1 (by omega) (by omega)) (k2 e j (by omega) (by omega) (by omega)))
          · rw [if_neg c]
            have hc : (s = m ∧ e = mid) ∨ (s = mid ∧ e = m) := by omega
            refine ⟨_, rfl, Win.refl _ _ _, ?_, ?_, ?_, ?_, ?_⟩
            · intro i j q1 q2 q3; exact k1 i j (by omega) (by omega) (by omega)
            · intro i j q1 q2 q3
              rcases hc with hc | hc
              · exact k2 i j (by omega) (by omega) (by omega)
              · omega
            · intro i j q1 q2 q3
              rcases hc with hc | hc
              · omega
              · exact k1 i j (by omega) (by omega) (by omega)
            · intro i j q1 q2 q3; exact k2 i j (by omega) (by omega) (by omega)
            · intro i j q1 q2 q3 q4
              rcases hc with hc | hc
              · by_cases d1 : i < s
                · exact nl_trans (k1 i (s - 1) (by omega) (by omega) (by omega)) (nl_trans (ha.1 (by omega) (by omega)) (k2 e j (by omega) (by omega) (by omega)))
                · exact k2 i j (by omega) (by omega) (by omega)
              · by_cases d1 : j < e
                · exact k1 i j (by omega) (by omega) (by omega)
                · exact nl_trans (k1 i (s - 1) (by omega) (by omega) (by omega)) (nl_trans (ha.1 (by omega) (by omega)) (k2 e j (by omega) (by omega) (by omega)))
        obtain ⟨M, hM, w0, s1, s2, s3, s4, s5⟩ := hr
        rw [hM]
        have hMl := w0.len
        have hr2 : ∃ N, (if a < s ∧ s < mid then symF f a s mid M else M) = N ∧ Win a mid M N ∧ Srt N a mid := by
          by_cases c : a < s ∧ s < mid
          · rw [if_pos c]
            have ih := symF_srt f a s mid M c.1 c.2 (by omega) (by omega) s1 s2
            exact ⟨_, rfl, ih.2, ih.1⟩
          · rw [if_neg c]
            refine ⟨_, rfl, Win.refl _ _ _, ?_⟩
            intro i j q1 q2 q3
            by_cases d : a < s
            · exact s1 i j q1 q2 (by omega)
            · exact s2 i j (by omega) q2 q3
        obtain ⟨N, hN, w1, t1⟩ := hr2
        rw [hN]
        have hNl := w1.len
        have hr3 : ∃ O, (if mid < e ∧ e < b then symF f mid e b N else N) = O ∧ Win mid b N O ∧ Srt O mid b := by
          by_cases c : mid < e ∧ e < b
          · rw [if_pos c]
            have ih := symF_srt f mid e b N c.1 c.2 (by omega) (by omega) (s3.win w1 (.inl (Nat.le_refl _))) (s4.win w1 (.inl (by omega)))
            exact ⟨_, rfl, ih.2, ih.1⟩
          · rw [if_neg c]
            refine ⟨_, rfl, Win.refl _ _ _, ?_⟩
            intro i j q1 q2 q3
            rw [w1.out i (by omega), w1.out j (by omega)]
            by_cases d : mid < e
            · exact s3 i j q1 q2 (by omega)
            · exact s4 i j (by omega) q2 q3
        obtain ⟨O, hO, w2, t2⟩ := hr3
        rw [hO]
        refine ⟨srt_join (t1.win w2 (.inr (Nat.le_refl _))) t2 (fun i j i1 i2 j1 j2 => ?_), w0.trans ((w1.wide (Nat.le_refl _) (by omega)).trans (w2.wide (by omega) (Nat.le_refl _)))⟩
        rw [w2.out i (by omega)]
        obtain ⟨j', q1, q2, ej⟩ := w2.ins j j1 j2
        rw [ej, w1.out j' (by omega)]
        obtain ⟨i', p1, p2, ei⟩ := w1.ins i i1 i2
        rw [ei]
        exact s5 i' j' p1 p2 q1 q2
/-- Stretches of k, from a on, are sorted. -/
def Blk (L : List It) (k a n : Nat) : Prop := ∀ q, Srt L (a + q * k) (min (a + q * k + k) n)
theorem blkF_srt {k : Nat} (hk : 0 < k) : ∀ (f a n : Nat) (L : List It), a ≤ n → n ≤ L.length → n - a < f → Blk (blkF f k a n L) k a n ∧ Win a n L (blkF f k a n L)
  | 0, _, _, _, _, _, _ => by omega
  | f + 1, a, n, L, h1, h2, h3 => by
    unfold blkF
    split
    · rename_i c
      have s := ins_srt a (a + k) L (by omega)
      have hl := s.2.len
      have ih := blkF_srt hk f (a + k) n (insO a (a + k - (a + 1)) (a + 1) L) c (by omega) (by omega)
      refine ⟨fun q => ?_, (s.2.wide (Nat.le_refl _) c).trans (ih.2.wide (by omega) (Nat.le_refl _))⟩
      cases q with
      | zero =>
        simp only [Nat.zero_mul, Nat.add_zero]
        rw [Nat.min_eq_left c]
        exact s.1.win ih.2 (.inr (Nat.le_refl _))
      | succ q =>
        have := ih.1 q
        rwa [show a + k + q * k = a + (q + 1) * k by rw [Nat.add_mul]; omega] at this
    · rename_i c
      have s := ins_srt a n L h2
      refine ⟨fun q => ?_, s.2⟩
      intro i j q1 q2 q3
      exact s.1 i j (by omega) q2 (by omega)
theorem mrgF_srt {k : Nat} (hk : 0 < k) : ∀ (f a n : Nat) (L : List It), n ≤ L.length → n < a + f → Blk L k a n → Blk (mrgF f k a n L) (2 * k) a n ∧ Win a n L (mrgF f k a n L)
  | 0, a, n, L, _, h3, _ => by
    refine ⟨fun q i j q1 q2 q3 => ?_, Win.refl _ _ _⟩
    omega
  | f + 1, a, n, L, h2, h3, hB => by
    have b0 := hB 0
    have b1 := hB 1
    simp only [Nat.zero_mul, Nat.add_zero] at b0
    simp only [Nat.one_mul] at b1
    unfold mrgF
    split
    · rename_i c
      have s := symF_srt (2 * k) a (a + k) (a + 2 * k) L (by omega) (by omega) (by omega) (by omega) (by rwa [Nat.min_eq_left (by omega)] at b0) (by rwa [show min (a + k + k) n = a + 2 * k by omega] at b1)
      have hl := s.2.len
      have ih := mrgF_srt hk f (a + 2 * k) n (symF (2 * k) a (a + k) (a + 2 * k) L) (by omega) (by omega) (fun q => by
        have := (hB (q + 2)).win s.2 (.inl (by rw [Nat.add_mul]; omega))
        rwa [show a + (q + 2) * k = a + 2 * k + q * k by rw [Nat.add_mul]; omega] at this)
      refine ⟨fun q => ?_, (s.2.wide (Nat.le_refl _) c).trans (ih.2.wide (by omega) (Nat.le_refl _))⟩
      cases q with
      | zero =>
        simp only [Nat.zero_mul, Nat.add_zero]
        rw [Nat.min_eq_left c]
        exact s.1.win ih.2 (.inr (Nat.le_refl _))
      | succ q =>
        have := ih.1 q
        rwa [show a + 2 * k + q * (2 * k) = a + (q + 1) * (2 * k) by rw [Nat.add_mul]; omega] at this
    · rename_i c
      split
      · rename_i c2
        have s := symF_srt (n - a) a (a + k) n L (by omega) c2 h2 (by omega) (by rwa [Nat.min_eq_left (by omega)] at b0) (by rwa [show min (a + k + k) n = n by omega] at b1)
        refine ⟨fun q i j q1 q2 q3 => ?_, s.2⟩
        exact s.1 i j (by omega) q2 (by omega)
      · rename_i c2
        refine ⟨fun q i j q1 q2 q3 => ?_, Win.refl _ _ _⟩
        exact b0 i j (by omega) q2 (by omega)
theorem rndF_srt : ∀ (f k n : Nat) (L : List It), 0 < k → n ≤ L.length → n < k + f → Blk L k 0 n → Srt (rndF f k n L) 0 n
  | 0, k, n, L, hk, h2, h3, hB => by
    have b0 := hB 0
    simp only [Nat.zero_mul, Nat.add_zero, Nat.zero_add] at b0
    rwa [Nat.min_eq_right (by omega)] at b0
  | f + 1, k, n, L, hk, h2, h3, hB => by
    have b0 := hB 0
    simp only [Nat.zero_mul, Nat.add_zero, Nat.zero_add] at b0
    unfold rndF
    split
    · have s := mrgF_srt hk (n + 1) 0 n L h2 (by omega) hB
      exact rndF_srt f (2 * k) n _ (by omega) (by rw [s.2.len]; exact h2) (by omega) s.1
    · rwa [Nat.min_eq_right (by omega)] at b0
theorem stabF_srt (L : List It) : Srt (stabF L) 0 L.length := by
  unfold stabF
  have s := blkF_srt (k := 20) (by omega) (L.length + 1) 0 L.length L (Nat.zero_le _) (Nat.le_refl _) (by omega)
  exact rndF_srt _ _ _ _ (by omega) (by rw [s.2.len]; exact Nat.le_refl _) (by omega) s.1
/-- Of two sorted lists with the same entries there is one. -/
theorem srt_one {L M : List It} (hp : L.Perm M) (h1 : Srt L 0 L.length) (h2 : Srt M 0 M.length) : L = M := by
  have hs : ∀ {N : List It}, Srt N 0 N.length → N.Pairwise nl := by
    intro N h
    rw [List.pairwise_iff_getElem]
    intro i j hi hj hij
    have := h i j (Nat.zero_le _) (by omega) hj
    rwa [at_get hi, at_get hj] at this
  exact hp.eq_of_pairwise (fun a b _ _ p q => nl_eq p q) (hs h1) (hs h2)
end Go.Proofs.YtbmejaailhjgfaaGreat
namespace Go.Proofs.YtbmejaailhjgfaaGreat
set_option linter.unusedSimpArgs false
set_option maxRecDepth 100000

/-- No entry comes ahead of the one above it. -/
def HeapN (n : Nat) (L : List It) : Prop := ∀ k, 0 < k → k < n → nl (at_ L ((k - 1) / 2)) (at_ L k)
def HeapL (L : List It) : Prop := HeapN L.length L
theorem HeapN.root {n : Nat} {L : List It} (h : HeapN n L) : ∀ (m k : Nat), k < m → k < n → nl (at_ L 0) (at_ L k)
  | 0, _, h1, _ => by omega
  | m + 1, k, h1, h2 => by
    by_cases c : k = 0
    · subst c; exact nl_self _
    · exact nl_trans (h.root m ((k - 1) / 2) (by omega) (by omega)) (h k (by omega) h2)
/-- All but what lies about place i. -/
def Hole (n : Nat) (L : List It) (i : Nat) : Prop := (∀ k, 0 < k → k < n → (k - 1) / 2 ≠ i → k ≠ i → nl (at_ L ((k - 1) / 2)) (at_ L k)) ∧ ∀ c, 0 < i → 0 < c → c < n → (c - 1) / 2 = i → nl (at_ L ((i - 1) / 2)) (at_ L c)
theorem HeapN.hole {n : Nat} {L : List It} (h : HeapN n L) (i : Nat) (hi : i < n) : Hole n L i :=
  ⟨fun k h1 h2 _ _ => h k h1 h2, fun c h0 h1 h2 h3 => nl_trans (h i h0 hi) (by have := h c h1 h2; rwa [h3] at this)⟩
theorem Hole.of {n : Nat} {L M : List It} {i : Nat} (h : Hole n L i) (he : ∀ k, k < n → k ≠ i → at_ M k = at_ L k) : Hole n M i := by
  refine ⟨fun k h1 h2 h3 h4 => ?_, fun c h0 h1 h2 h3 => ?_⟩
  · rw [he k h2 h4, he _ (by omega) h3]; exact h.1 k h1 h2 h3 h4
  · rw [he c h2 (by omega), he _ (by omega) (by omega)]; exact h.2 c h0 h1 h2 h3
theorem child_in {n : Nat} {L : List It} {i : Nat} (h : ¬ n ≤ 2 * i + 1) : child n L i < n ∧ (child n L i = 2 * i + 1 ∨ child n L i = 2 * i + 2) ∧ ∀ c, c < n → (c = 2 * i + 1 ∨ c = 2 * i + 2) → nl (at_ L (child n L i)) (at_ L c) := by
  unfold child
  split
  · rename_i hc
    refine ⟨hc.1, .inr rfl, fun c h1 h2 => ?_⟩
    rcases h2 with rfl | rfl
    · exact nl_of hc.2
    · exact nl_self _
  · rename_i hc
    refine ⟨by omega, .inl rfl, fun c h1 h2 => ?_⟩
    rcases h2 with rfl | rfl
    · exact nl_self _
    · unfold nl
      cases hx : ahead (at_ L (2 * i + 2)) (at_ L (2 * i + 1)) with
      | false => rfl
      | true => exact absurd ⟨h1, hx⟩ hc
theorem downF_heap : ∀ (f n : Nat) (L : List It) (i : Nat), n ≤ L.length → n < i + f → Hole n L i →
    (∀ k, 0 < k → k < n → k ≠ i → nl (at_ (downF f n L i).1 ((k - 1) / 2)) (at_ (downF f n L i).1 k)) ∧ (i < (downF f n L i).2 → 0 < i → nl (at_ (downF f n L i).1 ((i - 1) / 2)) (at_ (downF f n L i).1 i)) ∧ (¬ i < (downF f n L i).2 → (downF f n L i).1 = L) ∧ i ≤ (downF f n L i).2 ∧ Win 0 n L (downF f n L i).1
  | 0, n, L, i, _, h, hH => by
    refine ⟨fun k h1 h2 h3 => ?_, fun h => absurd h (Nat.lt_irrefl _), fun _ => rfl, Nat.le_refl _, Win.refl _ _ _⟩
    exact hH.1 k h1 h2 (by omega) h3
  | f + 1, n, L, i, hl, hf, hH => by
    by_cases c1 : n ≤ 2 * i + 1
    · rw [downF_end c1]
      refine ⟨fun k h1 h2 h3 => ?_, fun h => absurd h (Nat.lt_irrefl _), fun _ => rfl, Nat.le_refl _, Win.refl _ _ _⟩
      exact hH.1 k h1 h2 (by omega) h3
    · obtain ⟨hc1, hc2, hc3⟩ := child_in (L := L) c1
      cases hah : ahead (at_ L (child n L i)) (at_ L i) with
      | false =>
        rw [downF_stop c1 rfl hah]
        refine ⟨fun k h1 h2 h3 => ?_, fun h => absurd h (Nat.lt_irrefl _), fun _ => rfl, Nat.le_refl _, Win.refl _ _ _⟩
        by_cases d : (k - 1) / 2 = i
        · rw [d]; exact nl_trans hah (hc3 k h2 (by omega))
        · exact hH.1 k h1 h2 d h3
      | true =>
        rw [downF_go (by omega) c1 rfl hah]
        have hs := fun k => at_swapL (L := L) (i := i) (j := child n L i) (by omega) (by omega) k
        have hg := fun c h1 h2 => hc3 c h1 h2
        generalize child n L i = c at hc1 hc2 hah hs hg
        have hH2 : Hole n (swapL L i c) c := by
          refine ⟨fun k h1 h2 h3 h4 => ?_, fun d h0 h1 h2 h3 => ?_⟩
          · rw [hs, hs, if_neg h3, if_neg h4]
            by_cases d : k = i
            · rw [if_pos d, if_neg (by omega), d]
              exact hH.2 c (by omega) (by omega) hc1 (by omega)
            · rw [if_neg d]
              by_cases d2 : (k - 1) / 2 = i
              · rw [if_pos d2]; exact hg k h2 (by omega)
              · rw [if_neg d2]; exact hH.1 k h1 h2 d2 d
          · rw [hs, hs, if_neg (by omega), if_pos (by omega), if_neg (by omega), if_neg (by omega)]
            have := hH.1 d h1 h2 (by omega) (by omega)
            rwa [h3] at this
        obtain ⟨k1, k2, k3, k4, k5⟩ := downF_heap (f + 1 - 1) n (swapL L i c) c (by rw [swapL_length]; exact hl) (by omega) hH2
        have hw := swapL_win (L := L) (i := i) (j := c) (a := 0) (b := n) (by omega) (by omega) (by omega) hc1 hl
        have kc : nl (at_ (downF (f + 1 - 1) n (swapL L i c) c).1 ((c - 1) / 2)) (at_ (downF (f + 1 - 1) n (swapL L i c) c).1 c) := by
          by_cases d : c < (downF (f + 1 - 1) n (swapL L i c) c).2
          · exact k2 d (by omega)
          · rw [k3 d, hs, hs, if_neg (by omega), if_pos (by omega), if_pos rfl]
            exact nl_of hah
        refine ⟨fun k h1 h2 h3 => ?_, fun _ h0 => k1 i h0 (by omega) (by omega), fun h => by omega, by omega, hw.trans k5⟩
        by_cases d : k = c
        · rw [d]; exact kc
        · exact k1 k h1 h2 d
theorem upF_heap : ∀ (f n : Nat) (L : List It) (j : Nat), n ≤ L.length → j < n → j < f → (∀ k, 0 < k → k < n → k ≠ j → nl (at_ L ((k - 1) / 2)) (at_ L k)) → (∀ c, 0 < j → 0 < c → c < n → (c - 1) / 2 = j → nl (at_ L ((j - 1) / 2)) (at_ L c)) → HeapN n (upF f L j) ∧ Win 0 n L (upF f L j)
  | 0, _, _, _, _, _, h, _, _ => by omega
  | f + 1, n, L, j, hl, hj, hf, h1, h2 => by
    by_cases c0 : j = 0
    · subst c0
      rw [upF_zero]
      exact ⟨fun k k1 k2 => h1 k k1 k2 (by omega), Win.refl _ _ _⟩
    · cases hah : ahead (at_ L j) (at_ L ((j - 1) / 2)) with
      | false =>
        rw [upF_stop (by omega) c0 hah]
        refine ⟨fun k k1 k2 => ?_, Win.refl _ _ _⟩
        by_cases d : k = j
        · rw [d]; exact hah
        · exact h1 k k1 k2 d
      | true =>
        rw [upF_go (by omega) c0 hah]
        have hp : (j - 1) / 2 < j := by omega
        generalize hq : (j - 1) / 2 = p at hah hp
        have hs := fun k => at_swapL (L := L) (i := p) (j := j) (by omega) (by omega) k
        have ih := upF_heap (f + 1 - 1) n (swapL L p j) p (by rw [swapL_length]; exact hl) (by omega) (by omega)
          (fun k k1 k2 k3 => by
            by_cases d : k = j
            · rw [d, hs, hs, if_pos rfl, hq, if_neg (by omega), if_pos rfl]; exact nl_of hah
            · by_cases d2 : (k - 1) / 2 = j
              · rw [hs, hs, if_pos d2, if_neg d, if_neg k3]
                have := h2 k (by omega) k1 k2 d2
                rwa [hq] at this
              · by_cases d3 : (k - 1) / 2 = p
                · rw [hs, hs, if_neg d2, if_pos d3, if_neg d, if_neg k3]
                  have := h1 k k1 k2 d
                  rw [d3] at this
                  exact nl_trans (nl_of hah) this
                · rw [hs, hs, if_neg d2, if_neg d3, if_neg d, if_neg k3]
                  exact h1 k k1 k2 d)
          (fun c p0 c0' c1 c2 => by
            have rp := h1 p p0 (by omega) (by omega)
            by_cases d : c = j
            · rw [d, hs, hs, if_neg (by omega), if_neg (by omega), if_pos rfl]; exact rp
            · rw [hs, hs, if_neg (by omega), if_neg (by omega), if_neg d, if_neg (by omega)]
              have := h1 c c0' c1 d
              rw [c2] at this
              exact nl_trans rp this)
        exact ⟨ih.1, (swapL_win (by omega) (by omega) (by omega) hj hl).trans ih.2⟩
theorem upF_perm : ∀ (f : Nat) (L : List It) (j : Nat), j < L.length → (upF f L j).Perm L
  | 0, L, _, _ => List.Perm.refl L
  | f + 1, L, j, h => by
    unfold upF
    split
    · exact List.Perm.refl L
    · split
      · exact (upF_perm f _ _ (by rw [swapL_length]; omega)).trans (swapL_perm (by omega) h)
      · exact List.Perm.refl L
theorem downF_perm : ∀ (f n : Nat) (L : List It) (i : Nat), n ≤ L.length → (downF f n L i).1.Perm L
  | 0, _, L, _, _ => List.Perm.refl L
  | f + 1, n, L, i, h => by
    unfold downF
    split
    · exact List.Perm.refl L
    · split
      · rename_i c1 _
        have := child_in (L := L) c1
        exact (downF_perm f n _ _ (by rw [swapL_length]; exact h)).trans (swapL_perm (by omega) (by omega))
      · exact List.Perm.refl L
theorem fixL_heap {n : Nat} {L : List It} {i : Nat} (hn : n ≤ L.length) (hi : i < n) (h : Hole n L i) : HeapN n (fixL n L i) ∧ Win 0 n L (fixL n L i) ∧ (fixL n L i).Perm L := by
  obtain ⟨k1, k2, k3, k4, k5⟩ := downF_heap (n + 1) n L i hn (by omega) h
  have p := downF_perm (n + 1) n L i hn
  unfold fixL
  split
  · rename_i c
    refine ⟨fun k h1 h2 => ?_, k5, p⟩
    by_cases d : k = i
    · rw [d] at h1 ⊢; exact k2 c h1
    · exact k1 k h1 h2 d
  · rename_i c
    have e := k3 c
    rw [e] at k1 k5 ⊢
    have u := upF_heap (i + 1) n L i hn hi (by omega) k1 h.2
    exact ⟨u.1, u.2, upF_perm _ _ _ (by omega)⟩
theorem pushL_heap {L : List It} (h : HeapL L) (y : It) : HeapL (pushL L y) ∧ (pushL L y).Perm (L ++ [y]) := by
  have hlen : (L ++ [y]).length = L.length + 1 := by simp
  have he : ∀ k, k < L.length → at_ (L ++ [y]) k = at_ L k := fun k hk => by rw [at_get hk, at_get (by omega), List.getElem_append_left hk]
  have u := upF_heap (L.length + 1) (L.length + 1) (L ++ [y]) L.length (by omega) (by omega) (by omega)
    (fun k k1 k2 k3 => by rw [he k (by omega), he _ (by omega)]; exact h k k1 (by omega))
    (fun c c0 c1 c2 c3 => by omega)
  unfold pushL
  refine ⟨?_, upF_perm _ _ _ (by omega)⟩
  unfold HeapL
  rw [upF_length, hlen]
  exact u.1
theorem fix_heap {L : List It} (h : HeapL L) {i : Nat} (hi : i < L.length) (y : It) : HeapL (fixL (L.set i y).length (L.set i y) i) ∧ (fixL (L.set i y).length (L.set i y) i).Perm (L.set i y) := by
  have hh : Hole (L.set i y).length (L.set i y) i := by
    rw [List.length_set]
    refine (HeapN.hole h i hi).of (fun k hk hne => ?_)
    rw [at_get (by rw [List.length_set]; exact hk), at_get hk, List.getElem_set_ne (fun e => hne e.symm)]
  obtain ⟨h1, _, h3⟩ := fixL_heap (Nat.le_refl _) (by rw [List.length_set]; exact hi) hh
  refine ⟨?_, h3⟩
  unfold HeapL
  rw [fixL_length]
  exact h1
theorem lastL_heap {L : List It} (h : HeapL L) {i : Nat} (hi : i < L.length) : HeapL (lastL L i).dropLast ∧ ((lastL L i).dropLast ++ [at_ L i]).Perm L := by
  have key : HeapN (L.length - 1) (lastL L i) ∧ at_ (lastL L i) (L.length - 1) = at_ L i ∧ (lastL L i).Perm L := by
    unfold lastL
    split
    · rename_i e
      exact ⟨fun k h1 h2 => h k h1 (by omega), by rw [e], List.Perm.refl L⟩
    · rename_i e
      have hs := fun k => at_swapL (L := L) (i := i) (j := L.length - 1) (by omega) (by omega) k
      have hh : Hole (L.length - 1) (swapL L i (L.length - 1)) i := by
        have h0 : HeapN (L.length - 1) L := fun k h1 h2 => h k h1 (by omega)
        refine (h0.hole i (by omega)).of (fun k hk hne => ?_)
        rw [hs, if_neg (by omega), if_neg hne]
      obtain ⟨h1, h2, h3⟩ := fixL_heap (n := L.length - 1) (by rw [swapL_length]; omega) (by omega) hh
      refine ⟨h1, ?_, h3.trans (swapL_perm hi (by omega))⟩
      rw [h2.out _ (by omega), hs, if_pos rfl]
  have hlen : (lastL L i).length = L.length := lastL_length L i
  have hd : (lastL L i).dropLast.length = L.length - 1 := by rw [List.length_dropLast, hlen]
  have hat : ∀ k, k < L.length - 1 → at_ (lastL L i).dropLast k = at_ (lastL L i) k := fun k hk => by
    rw [at_get (by omega), at_get (by omega), List.getElem_dropLast]
  refine ⟨fun k h1 h2 => ?_, ?_⟩
  · rw [hd] at h2
    rw [hat k h2, hat _ (by omega)]
    exact key.1 k h1 h2
  · have e := snoc_of (lastL L i) (by omega)
    have e2 : lastI (lastL L i) = at_ L i := by
      rw [← key.2.1, at_get (by omega)]
      have : (lastL L i)[L.length - 1]'(by omega) = ((lastL L i).dropLast ++ [lastI (lastL L i)])[L.length - 1]'(by simp; omega) := by
        congr 1
      rw [this, List.getElem_append_right (by omega)]
      simp
    rw [← e2, ← e]
    exact key.2.2
end Go.Proofs.YtbmejaailhjgfaaGreat
