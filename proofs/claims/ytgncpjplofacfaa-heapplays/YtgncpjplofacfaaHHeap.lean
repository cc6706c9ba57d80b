/- A heap's order: what container/heap's steps make of a list is a heap again, with the entries that are meant. Plain mathematics. No condition. -/
import Derived.Test.YtgncpjplofacfaaHSrtd
import Derived.Test.YtgncpjplofacfaaHGlue
namespace Go.Proofs.Ytgncpjplofacfaa
set_option linter.unusedSimpArgs false

/-- No entry comes ahead of the one above it. -/
def HeapN (n : Nat) (L : List It) : Prop := ∀ k, 0 < k → k < n → nl (at_ L ((k - 1) / 2)) (at_ L k)
def HeapL (L : List It) : Prop := HeapN L.length L
theorem HeapN.root {n : Nat} {L : List It} (h : HeapN n L) : ∀ (m k : Nat), k < m → k < n → nl (at_ L 0) (at_ L k)
  | 0, _, h1, _ => by omega
  | m + 1, k, h1, h2 => by
    by_cases c : k = 0
    · subst c; exact nl_self _
    · exact nl_trans (h.root m ((k - 1) / 2) (by omega) (by omega)) (h k (by omega) h2)
/-- All but what lies about place i. -/
def Hole (n : Nat) (L : List It) (i : Nat) : Prop := (∀ k, 0 < k → k < n → (k - 1) / 2 ≠ i → k ≠ i → nl (at_ L ((k - 1) / 2)) (at_ L k)) ∧ ∀ c, 0 < i → 0 < c → c < n → (c - 1) / 2 = i → nl (at_ L ((i - 1) / 2)) (at_ L c)
theorem HeapN.hole {n : Nat} {L : List It} (h : HeapN n L) (i : Nat) (hi : i < n) : Hole n L i :=
  ⟨fun k h1 h2 _ _ => h k h1 h2, fun c h0 h1 h2 h3 => nl_trans (h i h0 hi) (by have := h c h1 h2; rwa [h3] at this)⟩
theorem Hole.of {n : Nat} {L M : List It} {i : Nat} (h : Hole n L i) (he : ∀ k, k < n → k ≠ i → at_ M k = at_ L k) : Hole n M i := by
  refine ⟨fun k h1 h2 h3 h4 => ?_, fun c h0 h1 h2 h3 => ?_⟩
  · rw [he k h2 h4, he _ (by omega) h3]; exact h.1 k h1 h2 h3 h4
  · rw [he c h2 (by omega), he _ (by omega) (by omega)]; exact h.2 c h0 h1 h2 h3
theorem child_in {n : Nat} {L : List It} {i : Nat} (h : ¬ n ≤ 2 * i + 1) : child n L i < n ∧ (child n L i = 2 * i + 1 ∨ child n L i = 2 * i + 2) ∧ ∀ c, c < n → (c = 2 * i + 1 ∨ c = 2 * i + 2) → nl (at_ L (child n L i)) (at_ L c) := by
  unfold child
  split
  · rename_i hc
    refine ⟨hc.1, .inr rfl, fun c h1 h2 => ?_⟩
    rcases h2 with rfl | rfl
    · exact nl_of hc.2
    · exact nl_self _
  · rename_i hc
    refine ⟨by omega, .inl rfl, fun c h1 h2 => ?_⟩
    rcases h2 with rfl | rfl
    · exact nl_self _
    · unfold nl
      cases hx : ahead (at_ L (2 * i + 2)) (at_ L (2 * i + 1)) with
      | false => rfl
      | true => exact absurd ⟨h1, hx⟩ hc
theorem downF_heap : ∀ (f n : Nat) (L : List It) (i : Nat), n ≤ L.length → n < i + f → Hole n L i →
    (∀ k, 0 < k → k < n → k ≠ i → nl (at_ (downF f n L i).1 ((k - 1) / 2)) (at_ (downF f n L i).1 k)) ∧ (i < (downF f n L i).2 → 0 < i → nl (at_ (downF f n L i).1 ((i - 1) / 2)) (at_ (downF f n L i).1 i)) ∧ (¬ i < (downF f n L i).2 → (downF f n L i).1 = L) ∧ i ≤ (downF f n L i).2 ∧ Win 0 n L (downF f n L i).1
  | 0, n, L, i, _, h, hH => by
    refine ⟨fun k h1 h2 h3 => ?_, fun h => absurd h (Nat.lt_irrefl _), fun _ => rfl, Nat.le_refl _, Win.refl _ _ _⟩
    exact hH.1 k h1 h2 (by omega) h3
  | f + 1, n, L, i, hl, hf, hH => by
    by_cases c1 : n ≤ 2 * i + 1
    · rw [downF_end c1]
      refine ⟨fun k h1 h2 h3 => ?_, fun h => absurd h (Nat.lt_irrefl _), fun _ => rfl, Nat.le_refl _, Win.refl _ _ _⟩
      exact hH.1 k h1 h2 (by omega) h3
    · obtain ⟨hc1, hc2, hc3⟩ := child_in (L := L) c1
      cases hah : ahead (at_ L (child n L i)) (at_ L i) with
      | false =>
        rw [downF_stop c1 rfl hah]
        refine ⟨fun k h1 h2 h3 => ?_, fun h => absurd h (Nat.lt_irrefl _), fun _ => rfl, Nat.le_refl _, Win.refl _ _ _⟩
        by_cases d : (k - 1) / 2 = i
        · rw [d]; exact nl_trans hah (hc3 k h2 (by omega))
        · exact hH.1 k h1 h2 d h3
      | true =>
        rw [downF_go (by omega) c1 rfl hah]
        have hs := fun k => at_swapL (L := L) (i := i) (j := child n L i) (by omega) (by omega) k
        have hg := fun c h1 h2 => hc3 c h1 h2
        generalize child n L i = c at hc1 hc2 hah hs hg
        have hH2 : Hole n (swapL L i c) c := by
          refine ⟨fun k h1 h2 h3 h4 => ?_, fun d h0 h1 h2 h3 => ?_⟩
          · rw [hs, hs, if_neg h3, if_neg h4]
            by_cases d : k = i
            · rw [if_pos d, if_neg (by omega), d]
              exact hH.2 c (by omega) (by omega) hc1 (by omega)
            · rw [if_neg d]
              by_cases d2 : (k - 1) / 2 = i
              · rw [if_pos d2]; exact hg k h2 (by omega)
              · rw [if_neg d2]; exact hH.1 k h1 h2 d2 d
          · rw [hs, hs, if_neg (by omega), if_pos (by omega), if_neg (by omega), if_neg (by omega)]
            have := hH.1 d h1 h2 (by omega) (by omega)
            rwa [h3] at this
        obtain ⟨k1, k2, k3, k4, k5⟩ := downF_heap (f + 1 - 1) n (swapL L i c) c (by rw [swapL_length]; exact hl) (by omega) hH2
        have hw := swapL_win (L := L) (i := i) (j := c) (a := 0) (b := n) (by omega) (by omega) (by omega) hc1 hl
        have kc : nl (at_ (downF (f + 1 - 1) n (swapL L i c) c).1 ((c - 1) / 2)) (at_ (downF (f + 1 - 1) n (swapL L i c) c).1 c) := by
          by_cases d : c < (downF (f + 1 - 1) n (swapL L i c) c).2
          · exact k2 d (by omega)
          · rw [k3 d, hs, hs, if_neg (by omega), if_pos (by omega), if_pos rfl]
            exact nl_of hah
        refine ⟨fun k h1 h2 h3 => ?_, fun _ h0 => k1 i h0 (by omega) (by omega), fun h => by omega, by omega, hw.trans k5⟩
        by_cases d : k = c
        · rw [d]; exact kc
        · exact k1 k h1 h2 d
theorem upF_heap : ∀ (f n : Nat) (L : List It) (j : Nat), n ≤ L.length → j < n → j < f → (∀ k, 0 < k → k < n → k ≠ j → nl (at_ L ((k - 1) / 2)) (at_ L k)) → (∀ c, 0 < j → 0 < c → c < n → (c - 1) / 2 = j → nl (at_ L ((j - 1) / 2)) (at_ L c)) → HeapN n (upF f L j) ∧ Win 0 n L (upF f L j)
  | 0, _, _, _, _, _, h, _, _ => by omega
  | f + 1, n, L, j, hl, hj, hf, h1, h2 => by
    by_cases c0 : j = 0
    · subst c0
      rw [upF_zero]
      exact ⟨fun k k1 k2 => h1 k k1 k2 (by omega), Win.refl _ _ _⟩
    · cases hah : ahead (at_ L j) (at_ L ((j - 1) / 2)) with
      | false =>
        rw [upF_stop (by omega) c0 hah]
        refine ⟨fun k k1 k2 => ?_, Win.refl _ _ _⟩
        by_cases d : k = j
        · rw [d]; exact hah
        · exact h1 k k1 k2 d
      | true =>
        rw [upF_go (by omega) c0 hah]
        have hp : (j - 1) / 2 < j := by omega
        generalize hq : (j - 1) / 2 = p at hah hp
        have hs := fun k => at_swapL (L := L) (i := p) (j := j) (by omega) (by omega) k
        have ih := upF_heap (f + 1 - 1) n (swapL L p j) p (by rw [swapL_length]; exact hl) (by omega) (by omega)
          (fun k k1 k2 k3 => by
            by_cases d : k = j
            · rw [d, hs, hs, if_pos rfl, hq, if_neg (by omega), if_pos rfl]; exact nl_of hah
            · by_cases d2 : (k - 1) / 2 = j
              · rw [hs, hs, if_pos d2, if_neg d, if_neg k3]
                have := h2 k (by omega) k1 k2 d2
                rwa [hq] at this
              · by_cases d3 : (k - 1) / 2 = p
                · rw [hs, hs, if_neg d2, if_pos d3, if_neg d, if_neg k3]
                  have := h1 k k1 k2 d
                  rw [d3] at this
                  exact nl_trans (nl_of hah) this
                · rw [hs, hs, if_neg d2, if_neg d3, if_neg d, if_neg k3]
                  exact h1 k k1 k2 d)
          (fun c p0 c0' c1 c2 => by
            have rp := h1 p p0 (by omega) (by omega)
            by_cases d : c = j
            · rw [d, hs, hs, if_neg (by omega), if_neg (by omega), if_pos rfl]; exact rp
            · rw [hs, hs, if_neg (by omega), if_neg (by omega), if_neg d, if_neg (by omega)]
              have := h1 c c0' c1 d
              rw [c2] at this
              exact nl_trans rp this)
        exact ⟨ih.1, (swapL_win (by omega) (by omega) (by omega) hj hl).trans ih.2⟩
theorem upF_perm : ∀ (f : Nat) (L : List It) (j : Nat), j < L.length → (upF f L j).Perm L
  | 0, L, _, _ => List.Perm.refl L
  | f + 1, L, j, h => by
    unfold upF
    split
    · exact List.Perm.refl L
    · split
      · exact (upF_perm f _ _ (by rw [swapL_length]; omega)).trans (swapL_perm (by omega) h)
      · exact List.Perm.refl L
theorem downF_perm : ∀ (f n : Nat) (L : List It) (i : Nat), n ≤ L.length → (downF f n L i).1.Perm L
  | 0, _, L, _, _ => List.Perm.refl L
  | f + 1, n, L, i, h => by
    unfold downF
    split
    · exact List.Perm.refl L
    · split
      · rename_i c1 _
        have := child_in (L := L) c1
        exact (downF_perm f n _ _ (by rw [swapL_length]; exact h)).trans (swapL_perm (by omega) (by omega))
      · exact List.Perm.refl L
theorem fixL_heap {n : Nat} {L : List It} {i : Nat} (hn : n ≤ L.length) (hi : i < n) (h : Hole n L i) : HeapN n (fixL n L i) ∧ Win 0 n L (fixL n L i) ∧ (fixL n L i).Perm L := by
  obtain ⟨k1, k2, k3, k4, k5⟩ := downF_heap (n + 1) n L i hn (by omega) h
  have p := downF_perm (n + 1) n L i hn
  unfold fixL
  split
  · rename_i c
    refine ⟨fun k h1 h2 => ?_, k5, p⟩
    by_cases d : k = i
    · rw [d] at h1 ⊢; exact k2 c h1
    · exact k1 k h1 h2 d
  · rename_i c
    have e := k3 c
    rw [e] at k1 k5 ⊢
    have u := upF_heap (i + 1) n L i hn hi (by omega) k1 h.2
    exact ⟨u.1, u.2, upF_perm _ _ _ (by omega)⟩
theorem pushL_heap {L : List It} (h : HeapL L) (y : It) : HeapL (pushL L y) ∧ (pushL L y).Perm (L ++ [y]) := by
  have hlen : (L ++ [y]).length = L.length + 1 := by simp
  have he : ∀ k, k < L.length → at_ (L ++ [y]) k = at_ L k := fun k hk => by rw [at_get hk, at_get (by omega), List.getElem_append_left hk]
  have u := upF_heap (L.length + 1) (L.length + 1) (L ++ [y]) L.length (by omega) (by omega) (by omega)
    (fun k k1 k2 k3 => by rw [he k (by omega), he _ (by omega)]; exact h k k1 (by omega))
    (fun c c0 c1 c2 c3 => by omega)
  unfold pushL
  refine ⟨?_, upF_perm _ _ _ (by omega)⟩
  unfold HeapL
  rw [upF_length, hlen]
  exact u.1
theorem fix_heap {L : List It} (h : HeapL L) {i : Nat} (hi : i < L.length) (y : It) : HeapL (fixL (L.set i y).length (L.set i y) i) ∧ (fixL (L.set i y).length (L.set i y) i).Perm (L.set i y) := by
  have hh : Hole (L.set i y).length (L.set i y) i := by
    rw [List.length_set]
    refine (HeapN.hole h i hi).of (fun k hk hne => ?_)
    rw [at_get (by rw [List.length_set]; exact hk), at_get hk, List.getElem_set_ne (fun e => hne e.symm)]
  obtain ⟨h1, _, h3⟩ := fixL_heap (Nat.le_refl _) (by rw [List.length_set]; exact hi) hh
  refine ⟨?_, h3⟩
  unfold HeapL
  rw [fixL_length]
  exact h1
theorem lastL_heap {L : List It} (h : HeapL L) {i : Nat} (hi : i < L.length) : HeapL (lastL L i).dropLast ∧ ((lastL L i).dropLast ++ [at_ L i]).Perm L := by
  have key : HeapN (L.length - 1) (lastL L i) ∧ at_ (lastL L i) (L.length - 1) = at_ L i ∧ (lastL L i).Perm L := by
    unfold lastL
    split
    · rename_i e
      exact ⟨fun k h1 h2 => h k h1 (by omega), by rw [e], List.Perm.refl L⟩
    · rename_i e
      have hs := fun k => at_swapL (L := L) (i := i) (j := L.length - 1) (by omega) (by omega) k
      have hh : Hole (L.length - 1) (swapL L i (L.length - 1)) i := by
        have h0 : HeapN (L.length - 1) L := fun k h1 h2 => h k h1 (by omega)
        refine (h0.hole i (by omega)).of (fun k hk hne => ?_)
        rw [hs, if_neg (by omega), if_neg hne]
      obtain ⟨h1, h2, h3⟩ := fixL_heap (n := L.length - 1) (by rw [swapL_length]; omega) (by omega) hh
      refine ⟨h1, ?_, h3.trans (swapL_perm hi (by omega))⟩
      rw [h2.out _ (by omega), hs, if_pos rfl]
  have hlen : (lastL L i).length = L.length := lastL_length L i
  have hd : (lastL L i).dropLast.length = L.length - 1 := by rw [List.length_dropLast, hlen]
  have hat : ∀ k, k < L.length - 1 → at_ (lastL L i).dropLast k = at_ (lastL L i) k := fun k hk => by
    rw [at_get (by omega), at_get (by omega), List.getElem_dropLast]
  refine ⟨fun k h1 h2 => ?_, ?_⟩
  · rw [hd] at h2
    rw [hat k h2, hat _ (by omega)]
    exact key.1 k h1 h2
  · have e := snoc_of (lastL L i) (by omega)
    have e2 : lastI (lastL L i) = at_ L i := by
      rw [← key.2.1, at_get (by omega)]
      have : (lastL L i)[L.length - 1]'(by omega) = ((lastL L i).dropLast ++ [lastI (lastL L i)])[L.length - 1]'(by simp; omega) := by
        congr 1
      rw [this, List.getElem_append_right (by omega)]
      simp
    rw [← e2, ← e]
    exact key.2.2
end Go.Proofs.Ytgncpjplofacfaa
