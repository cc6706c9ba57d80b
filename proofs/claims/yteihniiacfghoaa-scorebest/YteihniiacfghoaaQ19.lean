/- What is best: those that may with none better, rising. Plain facts. No condition. -/
import Derived.Test.YteihniiacfghoaaQ04
namespace Go.Proofs.Yteihniiacfghoaa
open Go.RowKit
set_option linter.unusedSimpArgs false

theorem best_both (s : List Int) (may : List Bool) : ∀ K, (bestTo s may K = [] → ∀ i, i < K → may.getD i default = false) ∧ ∀ i, i ∈ bestTo s may K ↔ i < K ∧ may.getD i default = true ∧ ∀ j, j < K → may.getD j default = true → s.getD j default ≤ s.getD i default
  | 0 => ⟨fun _ i h => absurd h (Nat.not_lt_zero _), fun i => ⟨fun h => (by cases h), fun h => absurd h.1 (Nat.not_lt_zero _)⟩⟩
  | K + 1 => by
    obtain ⟨ih0, ih⟩ := best_both s may K
    have hstep : bestTo s may (K + 1) = bestStep s may (bestTo s may K) K := rfl
    rw [hstep]
    generalize bestTo s may K = out at ih0 ih
    unfold bestStep
    by_cases hm : may.getD K default = true
    · rw [if_pos hm]
      by_cases ho : out = []
      · rw [if_pos (.inl ho)]
        have hn := ih0 ho
        refine ⟨fun h => (by cases h), fun i => ⟨fun h => ?_, fun h => ?_⟩⟩
        · obtain rfl := List.mem_singleton.1 h
          refine ⟨Nat.lt_succ_self _, hm, fun j hj hmj => ?_⟩
          by_cases e : j = i
          · subst e; exact Int.le_refl _
          · rw [hn j (by omega)] at hmj; cases hmj
        · refine List.mem_singleton.2 ?_
          by_cases e : i = K
          · exact e
          · have := hn i (by omega); rw [this] at h; exact absurd h.2.1 (by decide)
      · have hh : out.getD 0 default ∈ out := by
          cases out with
          | nil => exact absurd rfl ho
          | cons x l => exact List.mem_cons_self
        obtain ⟨h1, h2, h3⟩ := (ih _).1 hh
        by_cases hlt : s.getD (out.getD 0 default) default < s.getD K default
        · rw [if_pos (.inr hlt)]
          refine ⟨fun h => (by cases h), fun i => ⟨fun h => ?_, fun h => ?_⟩⟩
          · obtain rfl := List.mem_singleton.1 h
            refine ⟨Nat.lt_succ_self _, hm, fun j hj hmj => ?_⟩
            by_cases e : j = i
            · subst e; exact Int.le_refl _
            · have := h3 j (by omega) hmj; omega
          · refine List.mem_singleton.2 ?_
            by_cases e : i = K
            · exact e
            · have h4 := h3 i (by omega) h.2.1; have h5 := h.2.2 K (by omega) hm; omega
        · rw [if_neg (fun e => e.elim ho hlt)]
          by_cases he : s.getD K default = s.getD (out.getD 0 default) default
          · rw [if_pos he]
            refine ⟨fun h => absurd (congrArg List.length h) (by simp), fun i => ⟨fun h => ?_, fun h => ?_⟩⟩
            · rcases List.mem_append.1 h with h | h
              · obtain ⟨k1, k2, k3⟩ := (ih i).1 h
                refine ⟨by omega, k2, fun j hj hmj => ?_⟩
                by_cases e : j = K
                · subst e; have := k3 _ h1 h2; omega
                · exact k3 j (by omega) hmj
              · obtain rfl := List.mem_singleton.1 h
                refine ⟨by omega, hm, fun j hj hmj => ?_⟩
                by_cases e : j = i
                · subst e; exact Int.le_refl _
                · have := h3 j (by omega) hmj; omega
            · by_cases e : i = K
              · exact List.mem_append_right _ (List.mem_singleton.2 e)
              · exact List.mem_append_left _ ((ih i).2 ⟨by omega, h.2.1, fun j hj hmj => h.2.2 j (by omega) hmj⟩)
          · rw [if_neg he]
            refine ⟨fun h => absurd h ho, fun i => ⟨fun h => ?_, fun h => ?_⟩⟩
            · obtain ⟨k1, k2, k3⟩ := (ih i).1 h
              refine ⟨by omega, k2, fun j hj hmj => ?_⟩
              by_cases e : j = K
              · subst e; have := k3 _ h1 h2; omega
              · exact k3 j (by omega) hmj
            · by_cases e : i = K
              · subst e; have := h.2.2 _ (by omega : out.getD 0 default < i + 1) h2; omega
              · exact (ih i).2 ⟨by omega, h.2.1, fun j hj hmj => h.2.2 j (by omega) hmj⟩
    · rw [if_neg hm]
      have hmf : may.getD K default = false := by simpa using hm
      refine ⟨fun h i hi => ?_, fun i => ⟨fun h => ?_, fun h => ?_⟩⟩
      · by_cases e : i = K
        · rw [e]; exact hmf
        · exact ih0 h i (by omega)
      · obtain ⟨k1, k2, k3⟩ := (ih i).1 h
        refine ⟨by omega, k2, fun j hj hmj => ?_⟩
        by_cases e : j = K
        · subst e; exact absurd hmj hm
        · exact k3 j (by omega) hmj
      · by_cases e : i = K
        · subst e; exact absurd h.2.1 hm
        · exact (ih i).2 ⟨by omega, h.2.1, fun j hj hmj => h.2.2 j (by omega) hmj⟩
/-- A draw below the number of the best ones picks that one. -/
theorem pick_at (s : List Int) (may : List Bool) (d : Nat) (hd : d < (bestP s may).length) (h : d < 18446744073709551616) : pickP s may d = (((bestP s may).getD d default : Nat) : Int) := by
  have hne : bestP s may ≠ [] := fun e => by rw [e] at hd; exact absurd hd (Nat.not_lt_zero _)
  unfold pickP unsI
  rw [if_neg hne]
  rw [Int.emod_eq_of_lt (a := (d : Int)) (by omega) (by omega), Int.emod_eq_of_lt (by omega) (by omega)]
  rfl
theorem pick_mem (s : List Int) (may : List Bool) (d : Int) (hne : bestP s may ≠ []) : ∃ k ∈ bestP s may, pickP s may d = ((k : Nat) : Int) := by
  have hp : 0 < (bestP s may).length := List.length_pos_iff.2 hne
  refine ⟨(bestP s may).getD (unsI d % ((bestP s may).length : Int)).toNat default, ?_, by unfold pickP; rw [if_neg hne]⟩
  have h0 := Int.emod_nonneg (unsI d) (show ((bestP s may).length : Int) ≠ 0 by omega)
  have h1 := Int.emod_lt_of_pos (unsI d) (show (0 : Int) < ((bestP s may).length : Int) by omega)
  have hl : (unsI d % ((bestP s may).length : Int)).toNat < (bestP s may).length := by omega
  rw [List.getD_eq_getElem?_getD, List.getElem?_eq_getElem hl]
  exact List.getElem_mem hl
end Go.Proofs.Yteihniiacfghoaa
