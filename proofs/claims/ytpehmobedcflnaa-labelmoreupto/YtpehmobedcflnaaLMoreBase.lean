/- What is asked, one list behind the other: an append of it to a copy, and how it is met. Condition: the slices hold what is said of them. -/
import Derived.Test.YtpehmobedcflnaaLOpen
import Derived.Test.YtpehmobedcflnaaLSameReqs
namespace Go.Proofs.Ytpehmobedcflnaa
open Go.RowKit
set_option linter.unusedSimpArgs false

theorem matchL_all (L : List Lab) (R : List Ask) : matchL L R = R.all (meetsL L) := by
  rw [Bool.eq_iff_iff, matchL, allTo_iff, List.all_eq_true]
  constructor
  · intro h x hx
    obtain ⟨i, hi, rfl⟩ := List.mem_iff_getElem.1 hx
    have := h i hi
    rwa [getD_get _ _ hi] at this
  · intro h i hi
    rw [getD_get _ _ hi]
    exact h _ (List.getElem_mem hi)
theorem matchL_append (L : List Lab) (A B : List Ask) : matchL L (A ++ B) = (matchL L A && matchL L B) := by simp [matchL_all]

theorem CopyAt.both {w0 u : World} {A B : List Ask} {xs ys : List Value} (hA : CopyAt w0 A A.length xs u) (hB : CopyAt w0 B B.length ys u) : CopyAt w0 (A ++ B) (A ++ B).length (xs ++ ys) u := by
  refine ⟨by simp [hA.1, hB.1]; omega, fun i hi => ?_⟩
  rcases Nat.lt_or_ge i A.length with h | h
  · obtain ⟨h1, h2, v, h3, h4⟩ := hA.2 i h
    have e : (A ++ B).getD i default = A.getD i default := by rw [getD_get _ _ (by simp; omega), getD_get _ _ h, List.getElem_append_left h]
    rw [e]
    have hl := hA.1
    refine ⟨?_, ?_, v, ?_, h4⟩
    · rw [List.getElem?_append_left (by omega)]; exact h1
    · rw [List.getElem?_append_left (by omega)]; exact h2
    · rw [List.getElem?_append_left (by omega)]; exact h3
  · have hi' : i - A.length < B.length := by simp at hi; omega
    obtain ⟨h1, h2, v, h3, h4⟩ := hB.2 (i - A.length) hi'
    have e : (A ++ B).getD i default = B.getD (i - A.length) default := by rw [getD_get _ _ hi, getD_get _ _ hi', List.getElem_append_right h]
    rw [e]
    have hl := hA.1
    refine ⟨?_, ?_, v, ?_, h4⟩
    · rw [List.getElem?_append_right (by omega), hl, show i * 3 - A.length * 3 = (i - A.length) * 3 by omega]; exact h1
    · rw [List.getElem?_append_right (by omega), hl, show i * 3 + 1 - A.length * 3 = (i - A.length) * 3 + 1 by omega]; exact h2
    · rw [List.getElem?_append_right (by omega), hl, show i * 3 + 2 - A.length * 3 = (i - A.length) * 3 + 2 by omega]; exact h3

/-- The cells of what is asked, where they lie. -/
theorem asks_cells {w0 u : World} {B off : Nat} {N : List Ask} (hb : Below w0.heap.size w0 u) (hB : B < w0.heap.size) (hc : ∀ i, i < N.length → w0.cell? ⟨B, off + i * 3, none⟩ = some (.string (N.getD i default).key) ∧ w0.cell? ⟨B, off + i * 3 + 1, none⟩ = some (.int .i64 (N.getD i default).op) ∧
    ∃ a' cap', w0.cell? ⟨B, off + i * 3 + 2, none⟩ = some (.slice a' (N.getD i default).vals.length cap') ∧ StrsAt w0 a' (N.getD i default).vals) :
    ∃ ys, CopyAt w0 N N.length ys u ∧ (∀ j q, ys[j]? = some q → u.cell? ((⟨B, off, none⟩ : Addr).add j) = some q) ∧ ∀ y ∈ ys, y.oneCell' = true := by
  have each : ∀ i, i < N.length → ∃ v : Value, w0.cell? ⟨B, off + i * 3 + 2, none⟩ = some v ∧ ValAt w0 u v (N.getD i default).vals ∧ v.oneCell' = true := fun i hi => by
    obtain ⟨_, _, a', cap', h1, h2⟩ := hc i hi
    exact ⟨_, h1, ⟨hb, h2.1, h2.2.1, .inl ⟨a', cap', rfl, h2⟩⟩, rfl⟩
  obtain ⟨f, hf⟩ := Go.Deep.choose_lt each
  let c : Nat → Value := fun j => if j % 3 = 0 then .string (N.getD (j / 3) default).key else if j % 3 = 1 then .int .i64 (N.getD (j / 3) default).op else f (j / 3)
  have hget : ∀ j, j < N.length * 3 → ((List.range (N.length * 3)).map c)[j]? = some (c j) := fun j hj => by simp [hj]
  have hcell : ∀ j, j < N.length * 3 → w0.cell? ⟨B, off + j, none⟩ = some (c j) := fun j hj => by
    obtain ⟨h1, h2, _⟩ := hc (j / 3) (by omega)
    have h3 := (hf (j / 3) (by omega)).1
    by_cases e0 : j % 3 = 0
    · simp only [c, e0, if_true]; rw [show off + j = off + j / 3 * 3 by omega]; exact h1
    · by_cases e1 : j % 3 = 1
      · simp only [c, e0, e1, if_false, if_true]; rw [show off + j = off + j / 3 * 3 + 1 by omega]; exact h2
      · simp only [c, e0, e1, if_false]; rw [show off + j = off + j / 3 * 3 + 2 by omega]; exact h3
  refine ⟨(List.range (N.length * 3)).map c, ⟨by simp, fun i hi => ?_⟩, ?_, ?_⟩
  · refine ⟨?_, ?_, f i, ?_, (hf i hi).2.1⟩
    · rw [hget _ (by omega)]; simp only [c, show i * 3 % 3 = 0 by omega, show i * 3 / 3 = i by omega, if_true]
    · rw [hget _ (by omega)]; simp only [c, show (i * 3 + 1) % 3 = 1 by omega, show (i * 3 + 1) / 3 = i by omega, if_true]; rfl
    · rw [hget _ (by omega)]; simp only [c, show (i * 3 + 2) % 3 = 2 by omega, show (i * 3 + 2) / 3 = i by omega]; rfl
  · intro j q hj
    have hl : j < N.length * 3 := by simpa using (List.getElem?_eq_some_iff.1 hj).1
    rw [hget j hl] at hj
    have ha : (⟨B, off, none⟩ : Addr).add j = ⟨B, off + j, none⟩ := by unfold Addr.add; split <;> simp_all
    rw [ha, hb.cell hB, hcell j hl]; exact hj
  · intro y hy
    simp only [List.mem_map, List.mem_range] at hy
    obtain ⟨j, hj, rfl⟩ := hy
    by_cases e0 : j % 3 = 0
    · simp only [c, e0, if_true]; rfl
    · by_cases e1 : j % 3 = 1
      · simp only [c, e0, e1, if_false, if_true]; rfl
      · simp only [c, e0, e1, if_false]; exact (hf (j / 3) (by omega)).2.2

/-- An append of what is asked, as it lies, to a copy. -/
theorem append_asks {ops : Array Oper} {rest : List Oper} {o : Oper} {a : Act} {Q : Exit → Act → World → Prop} {w0 u : World} (hgd : Region.wanted o (yielded ops a.tmps) = true) (s x : Operand)
    (ho : o.op = .call { callee := .builtin .append, args := #[s, x], argTypes := #[23, 23] })
    (v : Value) (A : List Ask) (xs : List Value) (hs : a.eval s = v) (hown : Own w0 u 41 3 v A.length xs) (hC : CopyAt w0 A A.length xs u)
    (c : Option Addr) (capc : Nat) (N : List Ask) (hx : a.eval x = .slice c N.length capc) (hcap : c = none → capc = 0) (hN : AsksAt w0 c N) (hb : (A.length + N.length) * 48 ≤ 140737488355328) (hsA : ∀ r ∈ A, r.key.size ≤ 140737488355328)
    (h : ∀ b capb u', AsksAt u' b (A ++ N) → Below w0.heap.size w0 u' → wpList Try.prog ops Q rest (a.put o.dst (.slice b (A ++ N).length capb)) u') : wpList Try.prog ops Q (o :: rest) a u := by
  obtain ⟨i0, hi, hz0, hz1, hz2⟩ := info_parts infoReq
  have hsz : ∀ r ∈ A ++ N, r.key.size ≤ 140737488355328 := fun r hr => by
    rcases List.mem_append.1 hr with hr | hr
    · exact hsA r hr
    · exact hN.2.1 r hr
  have hlen : (A ++ N).length ≤ 140737488355328 := by simp; omega
  refine BigFrame.wpList_want hgd (fun K hK => ?_)
  match c with
  | none =>
    have h0 : N = [] := by
      rcases Classical.em (N = []) with e | e
      · exact e
      · obtain ⟨B, off, h', _⟩ := hN.2.2 e; cases h'
    subst h0
    obtain rfl := hcap rfl
    have hr := run_append_owned_none (P := Try.prog) (w := u) w0.heap.size 23 o.type 41 i0 3 Try.underlying23 hi v A.length xs hown.2
    obtain ⟨b, capb, hv, hat⟩ := asks_of_owns (R := A ++ []) (by simpa using hown) (by simpa using hC) hlen hsz
    unfold Oper.wp execOp
    have hx' : a.eval x = .slice none 0 0 := hx
    simp only [ho, resolve, invoke, builtin, Sem.run_bind, Sem.run_pure, Result.andThen_ok, List.map_toArray, List.map_cons, List.map_nil, hs, hx', hr]
    refine hK _ _ ?_
    rw [hv]
    exact h b capb u hat hown.1
  | some ad =>
    have hys : ∃ ys, CopyAt w0 N N.length ys u ∧ (∀ j q, ys[j]? = some q → u.cell? (ad.add j) = some q) ∧ ∀ y ∈ ys, y.oneCell' = true := by
      rcases Classical.em (N = []) with e | e
      · subst e; exact ⟨[], ⟨rfl, fun i hi => absurd hi (Nat.not_lt_zero _)⟩, fun j q hj => by simp at hj, fun y hy => by simp at hy⟩
      · obtain ⟨B, off, h', hB, hc⟩ := hN.2.2 e
        obtain rfl : ad = ⟨B, off, none⟩ := by simpa using h'
        exact asks_cells hown.1 hB hc
    obtain ⟨ys, hCy, hcy, hoy⟩ := hys
    refine wp_append_own (w := u) s x 23 ho w0.heap.size 41 i0 _ 3 48 Try.underlying23 hi hz0 hz1 hz2 rfl (by decide) v A.length xs hs hown.2 ad N.length capc ys hx hCy.1 hcy hoy (by unfold maxLen; omega) hb hown.1.size ?_
    intro v' u' ho' hg _
    have hO' : Own w0 u' 41 3 v' (A ++ N).length (xs ++ ys) := ⟨hown.row hg, by rw [List.length_append]; exact ho'⟩
    obtain ⟨b, capb, hv, hat⟩ := asks_of_owns hO' ((hC.grown hown hg).both (hCy.grown hown hg)) hlen hsz
    refine hK _ _ ?_
    rw [hv]
    exact h b capb u' hat hO'.1
end Go.Proofs.Ytpehmobedcflnaa
