/- Changes by version and kind; what a watcher's cursor makes of them. Plain mathematics. No condition. -/
import Derived.Test.YtnlmipgmakmbiaaLBase
namespace Go.Proofs.Ytnlmipgmakmbiaa
set_option linter.unusedSimpArgs false

/-- A change: its version, its kind. -/
abbrev Ch := Int × Int
/-- Those of a kind above a version. -/
def restW (k v : Int) (L : List Ch) : List Ch := L.filter (fun c => decide (c.2 = k) && decide (v < c.1))
/-- Versions rise. -/
def Rise (L : List Ch) : Prop := L.Pairwise (fun a b => a.1 < b.1)
theorem rest_rise {L : List Ch} (h : Rise L) (k v : Int) : Rise (restW k v L) := List.Pairwise.filter _ h
theorem rest_mem {L : List Ch} {k v : Int} {c : Ch} : c ∈ restW k v L ↔ c ∈ L ∧ c.2 = k ∧ v < c.1 := by
  unfold restW
  rw [List.mem_filter, Bool.and_eq_true, decide_eq_true_eq, decide_eq_true_eq]
theorem rest_rest {L : List Ch} {k v v' : Int} (h : v ≤ v') : restW k v' L = (restW k v L).filter (fun c => decide (v' < c.1)) := by
  unfold restW
  rw [List.filter_filter]
  refine List.filter_congr (fun c _ => ?_)
  by_cases h1 : v' < c.1
  · have h2 : v < c.1 := by omega
    simp [h1, h2]
  · simp [h1]
/-- Where the cursor stands behind those that came. -/
def lastV (v : Int) (l : List Ch) : Int := match l.getLast? with | some c => c.1 | none => v
theorem lastV_nil (v : Int) : lastV v [] = v := rfl
theorem lastV_snoc (v : Int) (l : List Ch) (c : Ch) : lastV v (l ++ [c]) = c.1 := by unfold lastV; rw [List.getLast?_append]; rfl
theorem rise_cut {A B : List Ch} {c : Ch} (h : Rise (A ++ c :: B)) : (∀ a ∈ A, a.1 < c.1) ∧ ∀ b ∈ B, c.1 < b.1 := by
  unfold Rise at h
  rw [List.pairwise_append] at h
  refine ⟨fun a ha => h.2.2 a ha c (List.mem_cons_self ..), fun b hb => ?_⟩
  exact (List.pairwise_cons.1 h.2.1).1 b hb
/-- What is left behind a piece. -/
theorem rest_next {L : List Ch} (hL : Rise L) (k v : Int) (j : Nat) : restW k (lastV v ((restW k v L).take j)) L = (restW k v L).drop j := by
  have hR := rest_rise hL k v
  have hm : ∀ c ∈ restW k v L, v < c.1 := fun c hc => (rest_mem.1 hc).2.2
  have hr : ∀ v', v ≤ v' → restW k v' L = (restW k v L).filter (fun c => decide (v' < c.1)) := fun v' h => rest_rest h
  generalize restW k v L = R at hR hm hr ⊢
  rcases List.eq_nil_or_concat (R.take j) with e | ⟨A, c, e⟩
  · rw [e, lastV_nil, hr v (Int.le_refl _)]
    have e2 : R.drop j = R := by
      have h1 := List.take_append_drop j R
      rw [e, List.nil_append] at h1
      exact h1
    rw [e2, List.filter_eq_self]
    exact fun c hc => by simpa using hm c hc
  · rw [List.concat_eq_append] at e
    rw [e, lastV_snoc]
    have h1 := List.take_append_drop j R
    rw [e, List.append_assoc, List.singleton_append] at h1
    generalize R.drop j = B at h1 ⊢
    subst h1
    obtain ⟨p1, p2⟩ := rise_cut hR
    have hc := hm c (by simp)
    rw [hr c.1 (by omega), List.filter_append, List.filter_cons]
    rw [List.filter_eq_nil_iff.2 (fun a ha => by have := p1 a ha; simp; omega), List.filter_eq_self.2 (fun b hb => by simpa using p2 b hb)]
    simp
theorem rest_take_len (k v : Int) (L : List Ch) (j : Nat) : ((restW k v L).take j).length + ((restW k v L).drop j).length = (restW k v L).length := by
  rw [← List.length_append, List.take_append_drop]
/-- A log of kinds: versions from 1 on. -/
def logP : List Int → Int → List Ch
  | [], _ => []
  | k :: ks, n => (n + 1, k) :: logP ks (n + 1)
theorem log_len : ∀ (ks : List Int) (n : Int), (logP ks n).length = ks.length
  | [], _ => rfl
  | _ :: ks, n => by show (logP ks (n + 1)).length + 1 = ks.length + 1; rw [log_len ks]
theorem log_above : ∀ (ks : List Int) (n : Int), ∀ c ∈ logP ks n, n < c.1
  | [], _, c, h => by cases h
  | k :: ks, n, c, h => by
    rcases List.mem_cons.1 h with rfl | h
    · show n < n + 1; omega
    · have := log_above ks (n + 1) c h; omega
theorem log_rise : ∀ (ks : List Int) (n : Int), Rise (logP ks n)
  | [], _ => List.Pairwise.nil
  | k :: ks, n => List.pairwise_cons.2 ⟨fun c h => by have := log_above ks (n + 1) c h; show n + 1 < c.1; exact this, log_rise ks (n + 1)⟩
theorem log_snoc : ∀ (ks : List Int) (n k : Int), logP (ks ++ [k]) n = logP ks n ++ [(n + ks.length + 1, k)]
  | [], n, k => by simp [logP]
  | j :: ks, n, k => by
    show (n + 1, j) :: logP (ks ++ [k]) (n + 1) = (n + 1, j) :: (logP ks (n + 1) ++ [_])
    rw [log_snoc ks (n + 1) k, show n + 1 + (ks.length : Int) + 1 = n + ((j :: ks).length : Int) + 1 by rw [List.length_cons]; omega]
/-- Pieces one behind the other come to a beginning. -/
theorem order_step {L R : List Ch} (hL : Rise L) {k v : Int} {m : Nat} (h : restW k v L = R.drop m) (j : Nat) :
    restW k (lastV v ((restW k v L).take j)) L = R.drop (m + j) ∧ R.take m ++ (restW k v L).take j = R.take (m + j) := by
  refine ⟨by rw [rest_next hL, h, List.drop_drop], ?_⟩
  rw [h, List.take_add]
end Go.Proofs.Ytnlmipgmakmbiaa
