/- The document's copies: base.Texts, Labels give slices of their own that hold the same. Condition: the slice holds what is said of it, and is no longer than memory allows. -/
import Derived.Test.YtpehmobedcflnaaLWorks
namespace Go.Proofs.Ytpehmobedcflnaa
open Go.RowKit
set_option linter.unusedSimpArgs false

/-- An append to one's own row, in a region whose order is the text's. -/
theorem own_append {ops : Array Oper} {rest : List Oper} {o : Oper} {a : Act} {Q : Exit → Act → World → Prop} {w0 u : World} (hgd : o.guard = none) (s x : Operand) (t e : TypeId)
    (ho : o.op = .call { callee := .builtin .append, args := #[s, x], argTypes := #[t, t] }) (z : Value) (size bytes : Nat) (hinfo : (Try.prog.info? e).map (fun i => (i.zero, i.size, i.bytes)) = some (some z, size, bytes)) (ht : Try.prog.underlying t = some (.slice e)) (hzs : z.cells.size = size) (hsz : 0 < size)
    (v : Value) (n : Nat) (xs : List Value) (hs : a.eval s = v) (hown : Own w0 u e size v n xs)
    (ad : Addr) (m c : Nat) (news : List Value) (hx : a.eval x = .slice (some ad) m c) (hl : news.length = m * size) (hnews : ∀ j y, news[j]? = some y → u.cell? (ad.add j) = some y) (h1 : ∀ y ∈ news, y.oneCell' = true) (h63 : n + m ≤ maxLen) (hb : (n + m) * bytes ≤ 140737488355328)
    (h : ∀ v' u', Own w0 u' e size v' (n + m) (xs ++ news) → (v' = .slice none 0 0 ↔ v = .slice none 0 0 ∧ m = 0) → wpList Try.prog ops Q rest (a.put o.dst v') u') : wpList Try.prog ops Q (o :: rest) a u := by
  obtain ⟨i0, hi, hz0, hz1, hz2⟩ := info_parts hinfo
  refine wpList_append_own u hgd s x t ho w0.heap.size e i0 z size bytes ht hi hz0 hz1 hz2 hzs hsz v n xs hs hown.2 ad m c news hx hl hnews h1 h63 hb hown.1.size ?_
  intro v' u' ho' hg hn
  exact h v' u' ⟨hown.row hg, ho'⟩ hn

set_option maxHeartbeats 1000000 in
theorem Labels_calls (a : Option Addr) (cap : Nat) (L : List Lab) (w : World) (hL : Hid (LabsAt w a L)) (hby : L.length * 32 ≤ 140737488355328) : Calls Try.prog 9 #[.slice a L.length cap] w fun e w' => ∃ v, e = .returned v ∧ Own w w' 52 2 v L.length (flatL L) := by
  have HO : Hid (Own w (w.alloc (.cells #[] 52)) 52 2 (.slice (some ⟨w.heap.size, 0, none⟩) 0 0) 0 []) := Own.start w w _ _ (Below.refl _ _)
  match a with
  | none =>
    have h0 : L = [] := by
      rcases Classical.em (L = []) with h | h
      · exact h
      · obtain ⟨B, off, h', _⟩ := hL.out.2.2 h; cases h'
    subst h0
    simp only [List.length_nil]
    go_enter Try.func9, Try.ntmps9
    go_wp2_with fail
    go_ret
    exact ⟨_, rfl, HO.out⟩
  | some ad =>
    have HN : Hid (∀ j y, (flatL L)[j]? = some y → (w.alloc (.cells #[] 52)).cell? (ad.add j) = some y) := by
      rcases Classical.em (L = []) with h | h
      · subst h; intro j y hj; simp [flatL] at hj
      · obtain ⟨B, off, h', hB, hc⟩ := hL.out.2.2 h
        obtain rfl : ad = ⟨B, off, none⟩ := by simpa using h'
        have hb : Below w.heap.size w (w.alloc (.cells #[] 52)) := by go_grown
        exact flatL_cells (fun i hi => ⟨(hb.cell hB).trans (hc i hi).1, (hb.cell hB).trans (hc i hi).2⟩)
    clear hL
    go_enter Try.func9, Try.ntmps9
    go_wp2_with (at_builtin; go_must (refine own_append (w0 := w) rfl _ _ 22 52 rfl _ 2 32 infoLab Try.underlying22 rfl (by decide) _ 0 [] rfl HO.out ad L.length cap (flatL L) rfl (flatL_length L) HN.out (flatL_one L) (by unfold maxLen; omega) (by omega) ?_); intro v1 w1 hown1 hnil)
    go_ret
    refine ⟨_, rfl, ?_⟩
    simpa using hown1

/-- The cells of texts. -/
def flatS (V : List ByteArray) : List Value := V.map .string
theorem flatS_length (V : List ByteArray) : (flatS V).length = V.length * 1 := by simp [flatS]
theorem flatS_one (V : List ByteArray) : ∀ u ∈ flatS V, u.oneCell' = true := by
  intro u hu
  simp only [flatS, List.mem_map] at hu
  obtain ⟨s, _, rfl⟩ := hu
  rfl
theorem flatS_at (V : List ByteArray) (i : Nat) (h : i < V.length) : (flatS V)[i]? = some (.string (V.getD i default)) := by
  rw [flatS, List.getElem?_map, List.getElem?_eq_getElem h, getD_get _ _ h]; rfl
theorem strs_of_owns {w : World} {B : Nat} {e : TypeId} {v : Value} {V : List ByteArray} (h : w.ownsRow B e 1 v V.length (flatS V)) (hl : V.length ≤ 140737488355328) (hs : ∀ s ∈ V, s.size ≤ 140737488355328) :
    ∃ a cap, v = .slice a V.length cap ∧ StrsAt w a V := by
  rcases own_cells h with ⟨rfl, h0⟩ | ⟨g, cap, rfl, hB, hg, hc⟩
  · have : V = [] := List.length_eq_zero_iff.1 h0
    subst this
    exact ⟨none, 0, rfl, StrsAt.nil w none⟩
  · refine ⟨some ⟨g, 0, none⟩, cap, rfl, hl, hs, fun _ => ⟨g, 0, rfl, hg, fun i hi => ?_⟩⟩
    rw [Nat.zero_add]
    exact ((hc i (by omega)).1).trans (flatS_at V i hi)

set_option maxHeartbeats 1000000 in
theorem Texts_calls (a : Option Addr) (cap : Nat) (V : List ByteArray) (w : World) (hV : Hid (StrsAt w a V)) (hby : V.length * 16 ≤ 140737488355328) : Calls Try.prog 28 #[.slice a V.length cap] w fun e w' => ∃ b cap', e = .returned (.slice b V.length cap') ∧ StrsAt w' b V ∧ Below w.heap.size w w' := by
  have HO : Hid (Own w (w.alloc (.cells #[] 9)) 9 1 (.slice (some ⟨w.heap.size, 0, none⟩) 0 0) 0 []) := Own.start w w _ _ (Below.refl _ _)
  match a with
  | none =>
    have h0 : V = [] := by
      rcases Classical.em (V = []) with h | h
      · exact h
      · obtain ⟨B, off, h', _⟩ := hV.out.2.2 h; cases h'
    subst h0
    simp only [List.length_nil]
    go_enter Try.func28, Try.ntmps28
    go_wp2_with fail
    go_ret
    exact ⟨_, _, rfl, StrsAt.nil _ _, HO.out.1⟩
  | some ad =>
    have HN : Hid (∀ j y, (flatS V)[j]? = some y → (w.alloc (.cells #[] 9)).cell? (ad.add j) = some y) := by
      intro j y hj
      have hl : j < V.length := by
        have := (List.getElem?_eq_some_iff.1 hj).1
        rw [flatS_length] at this; omega
      obtain ⟨B, off, h', hB, hc, _⟩ := hV.out.get hl
      obtain rfl : ad = ⟨B, off, none⟩ := by simpa using h'
      have hb : Below w.heap.size w (w.alloc (.cells #[] 9)) := by go_grown
      have ha : (⟨B, off, none⟩ : Addr).add j = ⟨B, off + j, none⟩ := by unfold Addr.add; split <;> simp_all
      rw [ha, hb.cell hB, hc, ← flatS_at V j hl]; exact hj
    have hs := hV.out.2.1
    have hlen := hV.out.1
    clear hV
    go_enter Try.func28, Try.ntmps28
    go_wp2_with (at_builtin; go_must (refine own_append (w0 := w) rfl _ _ 39 9 rfl _ 1 16 infoStr Try.underlying39 rfl (by decide) _ 0 [] rfl HO.out ad V.length cap (flatS V) rfl (flatS_length V) HN.out (flatS_one V) (by unfold maxLen; omega) (by omega) ?_); intro v1 w1 hown1 hnil)
    go_ret
    have ho : w1.ownsRow w.heap.size 9 1 v1 V.length (flatS V) := by simpa using hown1.2
    obtain ⟨b, cap', rfl, hb⟩ := strs_of_owns ho hlen hs
    exact ⟨b, cap', rfl, hb, hown1.1⟩
end Go.Proofs.Ytpehmobedcflnaa
