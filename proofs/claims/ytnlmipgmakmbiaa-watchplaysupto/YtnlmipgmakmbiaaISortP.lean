/- Insertion into a rising list, each once. Plain mathematics. No condition. -/
import Derived.Test.YtnlmipgmakmbiaaIHas
namespace Go.Proofs.Ytnlmipgmakmbiaa
open Go.RowKit
set_option linter.unusedSimpArgs false

def insB {α : Type} (lt eq : α → α → Bool) : List α → α → List α
  | [], s => [s]
  | x :: xs, s => if lt x s = true then x :: insB lt eq xs s else if eq x s = true then x :: xs else s :: x :: xs
def sortB {α : Type} (lt eq : α → α → Bool) (L : List α) : List α := L.foldl (insB lt eq) []
def iLt (a b : Int) : Bool := decide (a < b)
theorem insB_len {α : Type} (lt eq : α → α → Bool) (s : α) : ∀ L : List α, (insB lt eq L s).length ≤ L.length + 1
  | [] => by simp [insB]
  | x :: xs => by
    have := insB_len lt eq s xs
    unfold insB
    split
    · simp; omega
    · split <;> simp
section
variable {α : Type} [Inhabited α] (lt eq : α → α → Bool)
theorem insB_at (s : α) : ∀ (L : List α) (k : Nat), k ≤ L.length → (∀ j, j < k → lt (L.getD j default) s = true) → (k < L.length → lt (L.getD k default) s = false) →
    insB lt eq L s = if k < L.length ∧ eq (L.getD k default) s = true then L else L.take k ++ ([s] ++ L.drop k)
  | [], k, hk, _, _ => by
    obtain rfl : k = 0 := by simpa using hk
    simp [insB]
  | x :: xs, 0, _, _, h2 => by
    have h := h2 (by simp)
    simp only [List.getD_cons_zero] at h
    simp [insB, h]
  | x :: xs, k + 1, hk, h1, h2 => by
    have h := h1 0 (by omega)
    simp only [List.getD_cons_zero] at h
    have ih := insB_at s xs k (by simpa using hk) (fun j hj => by simpa using h1 (j + 1) (by omega)) (fun hl => by simpa using h2 (by simpa using hl))
    have e : (x :: xs).getD (k + 1) default = xs.getD k default := by simp
    have l : k + 1 < (x :: xs).length ↔ k < xs.length := by simp
    rw [e]
    simp only [insB, h, if_true, ih]
    by_cases c : k < xs.length ∧ eq (xs.getD k default) s = true
    · rw [if_pos c, if_pos ⟨l.2 c.1, c.2⟩]
    · rw [if_neg c, if_neg (fun h => c ⟨l.1 h.1, h.2⟩)]; simp
theorem sortB_succ (L : List α) {k : Nat} (hk : k < L.length) : sortB lt eq (L.take (k + 1)) = insB lt eq (sortB lt eq (L.take k)) (L.getD k default) := by
  rw [← take_at hk]; simp [sortB]
theorem sortB_len : ∀ (L : List α), (sortB lt eq L).length ≤ L.length := by
  intro L
  suffices H : ∀ k, k ≤ L.length → (sortB lt eq (L.take k)).length ≤ k by
    have := H L.length (Nat.le_refl _)
    rwa [List.take_of_length_le (Nat.le_refl _)] at this
  intro k
  induction k with
  | zero => intro _; simp [sortB]
  | succ k ih =>
    intro hk
    rw [sortB_succ lt eq L (by omega)]
    have := insB_len lt eq (L.getD k default) (sortB lt eq (L.take k))
    have := ih (by omega)
    omega
end
/-- The first k, and what lies behind them. -/
theorem SlAt.take {α : Type} [Inhabited α] {R : Rep α} {k bytes : Nat} {A : Where} {w : World} {a : Option Addr} {n cap : Nat} {L : List α} (h : SlAt R k bytes A w a n cap L) {t : Nat} (ht : t ≤ n) : SlAt R k bytes A w a t cap (L.take t) := by
  obtain ⟨h1, h2, h3, h4, h5⟩ := h
  refine ⟨by rw [List.length_take]; omega, by omega, h3, Nat.le_trans (Nat.mul_le_mul_right bytes ht) h4, fun h0 => ?_⟩
  obtain ⟨B, off, e, hB, hA, hc⟩ := h5 (by omega)
  refine ⟨B, off, e, hB, hA, fun i hi => ?_⟩
  obtain ⟨cs, h6, h7⟩ := hc i (by omega)
  have : (L.take t).getD i default = L.getD i default := by
    rw [getE _ _ (show i < (L.take t).length by rw [List.length_take]; omega), getE _ _ (show i < L.length by omega), List.getElem_take]
  rw [this]
  exact ⟨cs, h6, h7⟩
theorem SlAt.drop {α : Type} [Inhabited α] {R : Rep α} {k bytes : Nat} {A : Where} {w : World} {B off n cap : Nat} {L : List α} (h : SlAt R k bytes A w (some ⟨B, off, none⟩) n cap L) {t : Nat} (ht : t ≤ n) : SlAt R k bytes A w (some ⟨B, off + t * k, none⟩) (n - t) (cap - t) (L.drop t) := by
  obtain ⟨h1, h2, h3, h4, h5⟩ := h
  refine ⟨by rw [List.length_drop]; omega, by omega, (fun h => by cases h), Nat.le_trans (Nat.mul_le_mul_right bytes (Nat.sub_le _ _)) h4, fun h0 => ?_⟩
  obtain ⟨B', off', e, hB, hA, hc⟩ := h5 (by omega)
  injection e with e
  injection e with e1 e2
  subst e1 e2
  refine ⟨B, _, rfl, hB, hA, fun i hi => ?_⟩
  obtain ⟨cs, h6, h7⟩ := hc (t + i) (by omega)
  have : (L.drop t).getD i default = L.getD (t + i) default := by
    rw [getE _ _ (show i < (L.drop t).length by rw [List.length_drop]; omega), getE _ _ (show t + i < L.length by omega), List.getElem_drop]
  rw [this]
  refine ⟨cs, h6, fun j v hj => ?_⟩
  have := h7 j v hj
  rwa [Nat.add_mul, ← Nat.add_assoc] at this
end Go.Proofs.Ytnlmipgmakmbiaa
