/- The document's own sort: what it makes of a list is what the program's sort makes of it. Plain mathematics. No condition. -/
import Derived.Test.YtgncpjplofacfaaHSrtd
namespace Go.Proofs.Ytgncpjplofacfaa
set_option linter.unusedSimpArgs false

/-- Entry x behind the first k. -/
def insAt (A : List It) (k : Nat) (x : It) : List It := A.take k ++ [x] ++ A.drop k
theorem insAt_length {A : List It} {k : Nat} {x : It} (h : k ≤ A.length) : (insAt A k x).length = A.length + 1 := by
  simp [insAt]; omega
theorem insAt_perm {A : List It} {k : Nat} {x : It} : (insAt A k x).Perm (A ++ [x]) := by
  have h1 : (insAt A k x).Perm (A.take k ++ A.drop k ++ [x]) := by
    unfold insAt
    rw [List.append_assoc, List.append_assoc]
    exact List.Perm.append_left _ List.perm_append_comm
  rwa [List.take_append_drop] at h1
theorem at_insAt {A : List It} {k : Nat} {x : It} (h : k ≤ A.length) (i : Nat) : at_ (insAt A k x) i = if i < k then at_ A i else if i = k then x else at_ A (i - 1) := by
  unfold at_ insAt
  have hl : (A.take k).length = k := by rw [List.length_take]; omega
  simp only [List.getD_eq_getElem?_getD]
  by_cases c1 : i < k
  · rw [if_pos c1, List.append_assoc, List.getElem?_append_left (by rw [hl]; exact c1), List.getElem?_take, if_pos c1]
  · rw [if_neg c1, List.append_assoc, List.getElem?_append_right (by rw [hl]; omega), hl]
    by_cases c2 : i = k
    · subst c2
      rw [if_pos rfl, Nat.sub_self]; rfl
    · rw [if_neg c2, show i - k = (i - 1 - k) + 1 by omega, List.singleton_append, List.getElem?_cons_succ, List.getElem?_drop, show k + (i - 1 - k) = i - 1 by omega]
theorem insAt_srt {A : List It} {k : Nat} {x : It} (hA : Srt A 0 A.length) (hk : k ≤ A.length) (hgt : ∀ j, k ≤ j → j < A.length → ahead x (at_ A j) = true) (hle : k = 0 ∨ ahead x (at_ A (k - 1)) = false) : Srt (insAt A k x) 0 (insAt A k x).length := by
  intro i j _ h2 h3
  rw [insAt_length hk] at h3
  rw [at_insAt hk i, at_insAt hk j]
  have low : ∀ t, t < k → nl (at_ A t) x := by
    intro t ht
    rcases hle with h | h
    · omega
    · exact nl_trans (hA t (k - 1) (Nat.zero_le _) (by omega) (by omega)) h
  by_cases c1 : i < k
  · rw [if_pos c1]
    by_cases d1 : j < k
    · rw [if_pos d1]; exact hA i j (Nat.zero_le _) h2 (by omega)
    · rw [if_neg d1]
      by_cases d2 : j = k
      · rw [if_pos d2]; exact low i c1
      · rw [if_neg d2]; exact hA i (j - 1) (Nat.zero_le _) (by omega) (by omega)
  · rw [if_neg c1, if_neg (show ¬ j < k by omega)]
    by_cases c2 : i = k
    · rw [if_pos c2]
      by_cases d2 : j = k
      · rw [if_pos d2]; exact nl_self _
      · rw [if_neg d2]; exact nl_of (hgt (j - 1) (by omega) (by omega))
    · rw [if_neg c2, if_neg (show ¬ j = k by omega)]; exact hA _ _ (Nat.zero_le _) (by omega) (by omega)
/-- A sorted list with L's entries is what the sort makes of it. -/
theorem srt_stab {A L : List It} (hp : A.Perm L) (hs : Srt A 0 A.length) : A = stabF L :=
  srt_one (hp.trans (stabF_perm L).symm) hs (by have := stabF_srt L; rw [stabF_length]; exact this)
end Go.Proofs.Ytgncpjplofacfaa
