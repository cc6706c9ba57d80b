/- Who bears more is kept off by no more, and shies at no more; an append of what is borne to a copy. Condition: the slices hold what is said of them. -/
import Derived.Test.YtgffnkfiecieeaaTKept
import Derived.Test.YtgffnkfiecieeaaTWorks
import Derived.Test.YtgffnkfiecieeaaTCopy
import Derived.Test.YtgffnkfiecieeaaTOpen
namespace Go.Proofs.Ytgffnkfiecieeaa
open Go.RowKit
set_option linter.unusedSimpArgs false

theorem kept_any (L : List Tnt) (B : List Bear) : (keptT L B).2 = L.any (openT 1 B) := by
  unfold keptT
  cases h : L.find? (openT 1 B) with
  | none =>
    rw [List.find?_eq_none] at h
    have : L.any (openT 1 B) = false := by rw [List.any_eq_false]; exact h
    rw [this]
  | some t =>
    have h1 := List.find?_some h
    have h2 := List.mem_of_find?_eq_some h
    have : L.any (openT 1 B) = true := by rw [List.any_eq_true]; exact ⟨t, h2, h1⟩
    rw [this]
theorem openT_more {e : Int} {B C : List Bear} {t : Tnt} (h : openT e (B ++ C) t = true) : openT e B t = true := by
  simp only [openT, borneB, List.any_append, Bool.and_eq_true, Bool.not_eq_true', Bool.or_eq_false_iff] at h ⊢
  exact ⟨h.1, h.2.1⟩
theorem kept_more (L : List Tnt) (B C : List Bear) (h : (keptT L (B ++ C)).2 = true) : (keptT L B).2 = true := by
  rw [kept_any, List.any_eq_true] at h ⊢
  obtain ⟨t, h1, h2⟩ := h
  exact ⟨t, h1, openT_more h2⟩
theorem shy_more (L : List Tnt) (B C : List Bear) : shyN L (B ++ C) ≤ shyN L B :=
  List.countP_mono_left (fun _ _ h => openT_more h)

/-- An append of what is borne, as it lies, to a copy. -/
theorem append_bears {ops : Array Oper} {rest : List Oper} {o : Oper} {a : Act} {Q : Exit → Act → World → Prop} {w0 u : World} (hgd : Region.wanted o (yielded ops a.tmps) = true) (s x : Operand)
    (ho : o.op = .call { callee := .builtin .append, args := #[s, x], argTypes := #[23, 23] })
    (v : Value) (A : List Bear) (hs : a.eval s = v) (hown : Own w0 u 38 4 v A.length (flatE encB A))
    (c : Option Addr) (capc : Nat) (N : List Bear) (hx : a.eval x = .slice c N.length capc) (hcap : c = none → capc = 0) (hN : BearsAt w0 c N) (hb : (A.length + N.length) * 48 ≤ 140737488355328) (hsA : ∀ r ∈ A, okB r)
    (h : ∀ d capd u', BearsAt u' d (A ++ N) → Below w0.heap.size w0 u' → wpList Try.prog ops Q rest (a.put o.dst (.slice d (A ++ N).length capd)) u') : wpList Try.prog ops Q (o :: rest) a u := by
  refine BigFrame.wpList_want hgd (fun K hK => ?_)
  refine append_rowO (ok := okB) encB_len encB_one (w0 := w0) s x 23 38 ho _ 48 infoB Try.underlying23 rfl (by decide) (by decide) v A hs hown c N.length capc N rfl hx hcap (hN.on hown.1) hb ?_
  intro v' u' hO _
  obtain ⟨d, capd, rfl, hat, _⟩ := row_of_owns (ok := okB) encB_len hO.2 (by simp; omega) (fun r hr => by
    rcases List.mem_append.1 hr with hr | hr
    · exact hsA r hr
    · exact hN.2.1 r hr)
  exact hK _ _ (h d capd u' hat hO.1)
end Go.Proofs.Ytgffnkfiecieeaa
