/- The document's copy of what is asked (base.Reqs): a slice of its own that holds the same. Condition: the slice holds what is said of it, and is no longer than memory allows. -/
import Derived.Test.YtpehmobedcflnaaLSame
import Derived.Test.YtpehmobedcflnaaLReqCheck
namespace Go.Proofs.Ytpehmobedcflnaa
open Go.RowKit
set_option linter.unusedSimpArgs false

set_option maxHeartbeats 1000000 in
theorem Texts_own (a : Option Addr) (cap : Nat) (V : List ByteArray) (w : World) (hV : Hid (StrsAt w a V)) (hby : V.length * 16 ≤ 140737488355328) : Calls Try.prog 28 #[.slice a V.length cap] w fun e w' => ∃ v, e = .returned v ∧ Own w w' 9 1 v V.length (flatS V) := by
  have HO : Hid (Own w (w.alloc (.cells #[] 9)) 9 1 (.slice (some ⟨w.heap.size, 0, none⟩) 0 0) 0 []) := Own.start w w _ _ (Below.refl _ _)
  match a with
  | none =>
    have h0 : V = [] := by
      rcases Classical.em (V = []) with h | h
      · exact h
      · obtain ⟨B, off, h', _⟩ := hV.out.2.2 h; cases h'
    subst h0
    simp only [List.length_nil]
    go_enter Try.func28, Try.ntmps28
    go_wp2_with fail
    go_ret
    exact ⟨_, rfl, HO.out⟩
  | some ad =>
    have HN : Hid (∀ j y, (flatS V)[j]? = some y → (w.alloc (.cells #[] 9)).cell? (ad.add j) = some y) := by
      intro j y hj
      have hl : j < V.length := by
        have := (List.getElem?_eq_some_iff.1 hj).1
        rw [flatS_length] at this; omega
      obtain ⟨B, off, h', hB, hc, _⟩ := hV.out.get hl
      obtain rfl : ad = ⟨B, off, none⟩ := by simpa using h'
      have hb : Below w.heap.size w (w.alloc (.cells #[] 9)) := by go_grown
      have ha : (⟨B, off, none⟩ : Addr).add j = ⟨B, off + j, none⟩ := by unfold Addr.add; split <;> simp_all
      rw [ha, hb.cell hB, hc, ← flatS_at V j hl]; exact hj
    clear hV
    go_enter Try.func28, Try.ntmps28
    go_wp2_with (at_builtin; go_must (refine own_append (w0 := w) rfl _ _ 39 9 rfl _ 1 16 infoStr Try.underlying39 rfl (by decide) _ 0 [] rfl HO.out ad V.length cap (flatS V) rfl (flatS_length V) HN.out (flatS_one V) (by unfold maxLen; omega) (by omega) ?_); intro v1 w1 hown1 hnil)
    go_ret
    refine ⟨_, rfl, ?_⟩
    simpa using hown1

/-- Values that lie where they lay, or in a row of texts of one's own. -/
def ValAt (w0 u : World) (v : Value) (V : List ByteArray) : Prop :=
  Below w0.heap.size w0 u ∧ V.length ≤ 140737488355328 ∧ (∀ s ∈ V, s.size ≤ 140737488355328) ∧ ((∃ a cap, v = .slice a V.length cap ∧ StrsAt w0 a V) ∨ u.ownsRow w0.heap.size 9 1 v V.length (flatS V))
theorem ValAt.strs {w0 u : World} {v : Value} {V : List ByteArray} (h : ValAt w0 u v V) : ∃ a cap, v = .slice a V.length cap ∧ StrsAt u a V := by
  obtain ⟨hb, hl, hs, ⟨a, cap, rfl, h⟩ | h⟩ := h
  · exact ⟨a, cap, rfl, h.on hb⟩
  · exact strs_of_owns h hl hs
theorem ValAt.on {w0 u u' : World} {v : Value} {V : List ByteArray} (h : ValAt w0 u v V) (hb : Below u.heap.size u u') : ValAt w0 u' v V := by
  obtain ⟨hb0, hl, hs, h | h⟩ := h
  · exact ⟨on2 hb0 hb, hl, hs, .inl h⟩
  · exact ⟨on2 hb0 hb, hl, hs, .inr (owns_on h hb)⟩
/-- A row of what is asked that grows leaves rows of texts. -/
theorem ValAt.grown {w0 u u' : World} {v r : Value} {V : List ByteArray} {n : Nat} {xs : List Value} (h : ValAt w0 u v V) (hr : Own w0 u 41 3 r n xs) (hg : u.grownBy u' r.ownBlock) : ValAt w0 u' v V := by
  have hb' := hr.row hg
  obtain ⟨hb0, hl, hs, h | h⟩ := h
  · exact ⟨hb', hl, hs, .inl h⟩
  · refine ⟨hb', hl, hs, .inr ?_⟩
    obtain ⟨h1, h2 | ⟨g, cap, cur, hv, hB, hgc, h3⟩⟩ := h
    · exact ⟨h1, .inl h2⟩
    · refine ⟨h1, .inr ⟨g, cap, cur, hv, hB, ?_, h3⟩⟩
      have hlt : g < u.heap.size := by
        rcases Nat.lt_or_ge g u.heap.size with h4 | h4
        · exact h4
        · rw [Array.getElem?_eq_none h4] at hgc; cases hgc
      have hne : r.ownBlock ≠ some g := by
        obtain ⟨_, ⟨rfl, _⟩ | ⟨g2, cap2, cur2, rfl, _, hgc2, _⟩⟩ := hr.2
        · simp [Value.ownBlock]
        · simp only [Value.ownBlock]
          intro e
          obtain rfl : g2 = g := by simpa using e
          rw [hgc] at hgc2
          simp at hgc2
      rw [hg.block g hlt (Ne.symm hne)]; exact hgc

/-- The cells of what is asked, values copied or not. -/
def CopyAt (w0 : World) (R : List Ask) (k : Nat) (xs : List Value) (u : World) : Prop :=
  xs.length = k * 3 ∧ ∀ i, i < k → xs[i * 3]? = some (.string (R.getD i default).key) ∧ xs[i * 3 + 1]? = some (.int .i64 (R.getD i default).op) ∧ ∃ v, xs[i * 3 + 2]? = some v ∧ ValAt w0 u v (R.getD i default).vals
theorem CopyAt.on {w0 u u' : World} {R : List Ask} {k : Nat} {xs : List Value} (h : CopyAt w0 R k xs u) (hb : Below u.heap.size u u') : CopyAt w0 R k xs u' :=
  ⟨h.1, fun i hi => by obtain ⟨h1, h2, v, h3, h4⟩ := h.2 i hi; exact ⟨h1, h2, v, h3, h4.on hb⟩⟩
theorem CopyAt.grown {w0 u u' : World} {R : List Ask} {k n : Nat} {xs ys : List Value} {r : Value} (h : CopyAt w0 R k xs u) (hr : Own w0 u 41 3 r n ys) (hg : u.grownBy u' r.ownBlock) : CopyAt w0 R k xs u' :=
  ⟨h.1, fun i hi => by obtain ⟨h1, h2, v, h3, h4⟩ := h.2 i hi; exact ⟨h1, h2, v, h3, h4.grown hr hg⟩⟩
theorem CopyAt.snoc {w0 u : World} {R : List Ask} {k : Nat} {xs : List Value} {v : Value} (h : CopyAt w0 R k xs u) (hv : ValAt w0 u v (R.getD k default).vals) : CopyAt w0 R (k + 1) (xs ++ [.string (R.getD k default).key, .int .i64 (R.getD k default).op, v]) u := by
  obtain ⟨hl, hc⟩ := h
  refine ⟨by simp [hl]; omega, fun i hi => ?_⟩
  rcases Nat.lt_succ_iff_lt_or_eq.1 hi with h' | rfl
  · obtain ⟨h1, h2, v', h3, h4⟩ := hc i h'
    refine ⟨?_, ?_, v', ?_, h4⟩
    · rw [List.getElem?_append_left (by omega)]; exact h1
    · rw [List.getElem?_append_left (by omega)]; exact h2
    · rw [List.getElem?_append_left (by omega)]; exact h3
  · refine ⟨?_, ?_, v, ?_, hv⟩
    · rw [List.getElem?_append_right (by omega), hl, Nat.sub_self]; rfl
    · rw [List.getElem?_append_right (by omega), hl, show i * 3 + 1 - i * 3 = 1 by omega]; rfl
    · rw [List.getElem?_append_right (by omega), hl, show i * 3 + 2 - i * 3 = 2 by omega]; rfl
theorem asks_of_owns {w0 u : World} {v : Value} {R : List Ask} {xs : List Value} (h : Own w0 u 41 3 v R.length xs) (hc : CopyAt w0 R R.length xs u) (hl : R.length ≤ 140737488355328) (hs : ∀ r ∈ R, r.key.size ≤ 140737488355328) : ∃ a cap, v = .slice a R.length cap ∧ AsksAt u a R := by
  rcases own_cells h.2 with ⟨rfl, h0⟩ | ⟨g, cap, rfl, hB, hg, hcell⟩
  · have : R = [] := List.length_eq_zero_iff.1 h0
    subst this
    exact ⟨none, 0, rfl, AsksAt.nil u none⟩
  · refine ⟨some ⟨g, 0, none⟩, cap, rfl, hl, hs, fun _ => ⟨g, 0, rfl, hg, fun i hi => ?_⟩⟩
    obtain ⟨h1, h2, v', h3, h4⟩ := hc.2 i hi
    obtain ⟨a', cap', rfl, hst⟩ := h4.strs
    rw [Nat.zero_add]
    exact ⟨((hcell (i * 3) (by omega)).1).trans h1, ((hcell (i * 3 + 1) (by omega)).1).trans h2, a', cap', ((hcell (i * 3 + 2) (by omega)).1).trans h3, hst⟩

/-- An append to one's own row, with what it leaves. -/
theorem own_append2 {ops : Array Oper} {rest : List Oper} {o : Oper} {a : Act} {Q : Exit → Act → World → Prop} {w0 u : World} (hgd : o.guard = none) (s x : Operand) (t e : TypeId)
    (ho : o.op = .call { callee := .builtin .append, args := #[s, x], argTypes := #[t, t] }) (z : Value) (size bytes : Nat) (hinfo : (Try.prog.info? e).map (fun i => (i.zero, i.size, i.bytes)) = some (some z, size, bytes)) (ht : Try.prog.underlying t = some (.slice e)) (hzs : z.cells.size = size) (hsz : 0 < size)
    (v : Value) (n : Nat) (xs : List Value) (hs : a.eval s = v) (hown : Own w0 u e size v n xs)
    (ad : Addr) (m c : Nat) (news : List Value) (hx : a.eval x = .slice (some ad) m c) (hl : news.length = m * size) (hnews : ∀ j y, news[j]? = some y → u.cell? (ad.add j) = some y) (h1 : ∀ y ∈ news, y.oneCell' = true) (h63 : n + m ≤ maxLen) (hb : (n + m) * bytes ≤ 140737488355328)
    (h : ∀ v' u', Own w0 u' e size v' (n + m) (xs ++ news) → u.grownBy u' v.ownBlock → wpList Try.prog ops Q rest (a.put o.dst v') u') : wpList Try.prog ops Q (o :: rest) a u := by
  obtain ⟨i0, hi, hz0, hz1, hz2⟩ := info_parts hinfo
  refine wpList_append_own u hgd s x t ho w0.heap.size e i0 z size bytes ht hi hz0 hz1 hz2 hzs hsz v n xs hs hown.2 ad m c news hx hl hnews h1 h63 hb hown.1.size ?_
  intro v' u' ho' hg hn
  exact h v' u' ⟨hown.row hg, ho'⟩ hg
end Go.Proofs.Ytpehmobedcflnaa
