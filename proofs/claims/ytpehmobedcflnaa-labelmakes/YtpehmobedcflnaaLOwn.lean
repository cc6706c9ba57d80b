/- Rows of cells that a function has made itself: what they hold, what an append makes of them. Plain facts on worlds. No condition. -/
import Derived.Test.YtpehmobedcflnaaLCheck
import Derived.WalkSpells
import Derived.Lib.SmallJoins
namespace Go.Proofs.Ytpehmobedcflnaa
open Go.RowKit
set_option linter.unusedSimpArgs false

/-- The function's own row: it has come since w0, and nothing of w0 has turned. -/
def Own (w0 u : World) (e : TypeId) (size : Nat) (v : Value) (n : Nat) (xs : List Value) : Prop := Below w0.heap.size w0 u ∧ u.ownsRow w0.heap.size e size v n xs

theorem heap_new (u : World) (o : Obj) (n : Nat) (hn : u.heap.size = n) : (u.alloc o).heap[n]? = some o := by
  subst hn
  exact (MapKept.heap_alloc u o).1
theorem owns_on {w w' : World} {B : Nat} {e : TypeId} {size : Nat} {v : Value} {n : Nat} {xs : List Value} (h : w.ownsRow B e size v n xs) (hb : Below w.heap.size w w') : w'.ownsRow B e size v n xs := by
  obtain ⟨h1, h2 | ⟨g, cap, cur, hv, hB, hg, h3⟩⟩ := h
  · exact ⟨h1, .inl h2⟩
  · refine ⟨h1, .inr ⟨g, cap, cur, hv, hB, ?_, h3⟩⟩
    have hlt : g < w.heap.size := by
      rcases Nat.lt_or_ge g w.heap.size with h4 | h4
      · exact h4
      · rw [Array.getElem?_eq_none h4] at hg; cases hg
    rw [hb.block g hlt]; exact hg
theorem Own.on {w0 u u' : World} {e : TypeId} {size : Nat} {v : Value} {n : Nat} {xs : List Value} (h : Own w0 u e size v n xs) (hb : Below u.heap.size u u') : Own w0 u' e size v n xs :=
  ⟨on2 h.1 hb, owns_on h.2 hb⟩
theorem Own.nil (w : World) (e : TypeId) (size : Nat) : Own w w e size (.slice none 0 0) 0 [] := ⟨Below.refl _ _, by simp, .inl ⟨rfl, rfl⟩⟩
theorem Own.start (w u : World) (e : TypeId) (size : Nat) (hb : Below w.heap.size w u) : Own w (u.alloc (.cells #[] e)) e size (.slice (some ⟨u.heap.size, 0, none⟩) 0 0) 0 [] :=
  ⟨on2 hb (by go_grown), by simp, .inr ⟨u.heap.size, 0, #[], rfl, hb.size, heap_new u _ _ rfl, Nat.le_refl _, by unfold maxLen; omega, by simp, by simp⟩⟩
theorem Own.row {w0 u u' : World} {e : TypeId} {size : Nat} {v : Value} {n : Nat} {xs : List Value} (h : Own w0 u e size v n xs) (hg : u.grownBy u' v.ownBlock) : Below w0.heap.size w0 u' := by
  refine h.1.grown hg h.1.size (fun k hk => ?_)
  obtain ⟨_, ⟨rfl, _⟩ | ⟨g, cap, cur, rfl, hB, _⟩⟩ := h.2
  · simp [Value.ownBlock] at hk
  · simp [Value.ownBlock] at hk
    omega
/-- What an own row holds. -/
theorem own_cells {w : World} {B : Nat} {e : TypeId} {size : Nat} {v : Value} {n : Nat} {xs : List Value} (h : w.ownsRow B e size v n xs) :
    (v = .slice none 0 0 ∧ n = 0) ∨ ∃ g cap, v = .slice (some ⟨g, 0, none⟩) n cap ∧ B ≤ g ∧ g < w.heap.size ∧ ∀ j, j < n * size → w.cell? ⟨g, j, none⟩ = xs[j]? ∧ w.frozen? ⟨g, j, none⟩ = false := by
  obtain ⟨hx, h0 | ⟨g, cap, cur, hv, hb, hg, _, _, hsz, htk⟩⟩ := h
  · exact .inl h0
  · refine .inr ⟨g, cap, hv, hb, ?_, fun j hj => ⟨?_, ?_⟩⟩
    · rcases Nat.lt_or_ge g w.heap.size with h1 | h1
      · exact h1
      · rw [Array.getElem?_eq_none h1] at hg; cases hg
    · have e1 : w.cell? ⟨g, j, none⟩ = cur[j]? := by simp [World.cell?, hg]
      rw [e1, ← htk, List.getElem?_take, if_pos hj, Array.getElem?_toList]
    · simp [World.frozen?, hg]

/-- The cells of labels, one behind the other. -/
def flatL : List Lab → List Value
  | [] => []
  | x :: L => .string x.1 :: .string x.2 :: flatL L
theorem flatL_append : ∀ (A B : List Lab), flatL (A ++ B) = flatL A ++ flatL B
  | [], _ => rfl
  | x :: A, B => by simp [flatL, flatL_append A B]
theorem flatL_length : ∀ (L : List Lab), (flatL L).length = L.length * 2
  | [] => rfl
  | x :: L => by simp [flatL, flatL_length L]; omega
theorem flatL_one : ∀ (L : List Lab), ∀ u ∈ flatL L, u.oneCell' = true
  | [], u, h => by simp [flatL] at h
  | x :: L, u, h => by
    simp only [flatL, List.mem_cons] at h
    rcases h with rfl | rfl | h
    · rfl
    · rfl
    · exact flatL_one L u h
theorem flatL_at : ∀ (L : List Lab) (i : Nat), i < L.length → (flatL L)[i * 2]? = some (.string (L.getD i default).1) ∧ (flatL L)[i * 2 + 1]? = some (.string (L.getD i default).2)
  | [], i, h => by simp at h
  | x :: L, 0, _ => by simp [flatL]
  | x :: L, i + 1, h => by
    have := flatL_at L i (by simpa using h)
    have e : (i + 1) * 2 = i * 2 + 1 + 1 := by omega
    rw [e]
    simpa [flatL] using this
/-- A slice that owns the cells of labels holds the labels. -/
theorem labs_of_owns {w : World} {B : Nat} {e : TypeId} {v : Value} {L : List Lab} (h : w.ownsRow B e 2 v L.length (flatL L)) (hl : L.length ≤ 140737488355328) (hs : ∀ x ∈ L, x.1.size ≤ 140737488355328 ∧ x.2.size ≤ 140737488355328) :
    ∃ a cap, v = .slice a L.length cap ∧ LabsAt w a L := by
  rcases own_cells h with ⟨rfl, h0⟩ | ⟨g, cap, rfl, hB, hg, hc⟩
  · have : L = [] := List.length_eq_zero_iff.1 h0
    subst this
    exact ⟨none, 0, rfl, LabsAt.nil w none⟩
  · refine ⟨some ⟨g, 0, none⟩, cap, rfl, hl, hs, fun _ => ⟨g, 0, rfl, hg, fun i hi => ?_⟩⟩
    have h1 := flatL_at L i hi
    rw [Nat.zero_add]
    exact ⟨((hc (i * 2) (by omega)).1).trans h1.1, ((hc (i * 2 + 1) (by omega)).1).trans h1.2⟩
theorem flatL_cells {w : World} {B off : Nat} {L : List Lab} (hc : ∀ i, i < L.length → w.cell? ⟨B, off + i * 2, none⟩ = some (.string (L.getD i default).1) ∧ w.cell? ⟨B, off + i * 2 + 1, none⟩ = some (.string (L.getD i default).2)) : ∀ j u, (flatL L)[j]? = some u → w.cell? ((⟨B, off, none⟩ : Addr).add j) = some u := by
  intro j u hj
  have hl : j < L.length * 2 := by
    have := (List.getElem?_eq_some_iff.1 hj).1
    rwa [flatL_length] at this
  have ha : (⟨B, off, none⟩ : Addr).add j = ⟨B, off + j, none⟩ := by unfold Addr.add; split <;> simp_all
  rw [ha]
  obtain ⟨h1, h2⟩ := flatL_at L (j / 2) (by omega)
  obtain ⟨c1, c2⟩ := hc (j / 2) (by omega)
  by_cases h0 : j % 2 = 0
  · have e : j = j / 2 * 2 := by omega
    rw [e] at hj
    rw [h1] at hj
    rw [show off + j = off + j / 2 * 2 by omega, c1]; exact hj
  · have e : j = j / 2 * 2 + 1 := by omega
    rw [e] at hj
    rw [h2] at hj
    rw [show off + j = off + j / 2 * 2 + 1 by omega, c2]; exact hj
theorem infoLab : (Try.prog.info? 52).map (fun i => (i.zero, i.size, i.bytes)) = some (some (.agg #[.string ⟨#[]⟩, .string ⟨#[]⟩]), 2, 32) := by kernel_rfl
theorem infoReq : (Try.prog.info? 41).map (fun i => (i.zero, i.size, i.bytes)) = some (some (.agg #[.string ⟨#[]⟩, .int .i64 0, .slice none 0 0]), 3, 48) := by kernel_rfl
theorem infoStr : (Try.prog.info? 9).map (fun i => (i.zero, i.size, i.bytes)) = some (some (.string ⟨#[]⟩), 1, 16) := by kernel_rfl

/-- An append of labels to one's own row. -/
theorem append_labs {o : Oper} {a : Act} {K : Act → World → Prop} {Q : Exit → Act → World → Prop} {w0 u : World} (s x : Operand)
    (ho : o.op = .call { callee := .builtin .append, args := #[s, x], argTypes := #[22, 22] })
    (v : Value) (A : List Lab) (hs : a.eval s = v) (hown : Own w0 u 52 2 v A.length (flatL A))
    (ad : Addr) (c : Nat) (N : List Lab) (hx : a.eval x = .slice (some ad) N.length c) (hnews : ∀ j y, (flatL N)[j]? = some y → u.cell? (ad.add j) = some y) (hb : (A.length + N.length) * 32 ≤ 140737488355328)
    (h : ∀ v' u', Own w0 u' 52 2 v' (A ++ N).length (flatL (A ++ N)) → (v' = .slice none 0 0 ↔ v = .slice none 0 0 ∧ N.length = 0) → u.heap.size ≤ u'.heap.size → K (a.put o.dst v') u') : o.wp Try.prog a u K Q := by
  obtain ⟨i0, hi, hz0, hz1, hz2⟩ := info_parts infoLab
  refine wp_append_own (w := u) s x 22 ho w0.heap.size 52 i0 _ 2 32 Try.underlying22 hi hz0 hz1 hz2 rfl (by decide) v A.length (flatL A) hs hown.2 ad N.length c (flatL N) hx (flatL_length N) hnews (flatL_one N) (by unfold maxLen; omega) hb hown.1.size ?_
  intro v' u' ho' hg hn
  refine h v' u' ⟨hown.row hg, ?_⟩ hn hg.size
  rw [List.length_append, flatL_append]
  exact ho'
end Go.Proofs.Ytpehmobedcflnaa
