/- A label put into sorted labels behind all whose keys are not above its own: a permutation, sorted. The order of texts, both ways. Plain mathematics. No condition. -/
import Derived.Test.YtpehmobedcflnaaLApartBase
import Derived.Test.YtpehmobedcflnaaLCheckR
import Derived.Test.YtpehmobedcflnaaLSame
namespace Go.Proofs.Ytpehmobedcflnaa
open Go.RowKit
set_option linter.unusedSimpArgs false

theorem cb_tri : ∀ a b : List UInt8, (Lib.compareBytes a b < 0 ∧ 0 < Lib.compareBytes b a) ∨ (Lib.compareBytes a b = 0 ∧ a = b) ∨ (0 < Lib.compareBytes a b ∧ Lib.compareBytes b a < 0)
  | [], [] => .inr (.inl ⟨rfl, rfl⟩)
  | [], _ :: _ => .inl ⟨by simp [Lib.compareBytes], by simp [Lib.compareBytes]⟩
  | _ :: _, [] => .inr (.inr ⟨by simp [Lib.compareBytes], by simp [Lib.compareBytes]⟩)
  | a :: xs, b :: ys => by
    have ih := cb_tri xs ys
    rcases cb_cons a b xs ys with ⟨h, e⟩ | ⟨h, e⟩ | ⟨h, e⟩ <;> rcases cb_cons b a ys xs with ⟨h', e'⟩ | ⟨h', e'⟩ | ⟨h', e'⟩ <;> rw [e, e'] <;> first | omega | skip
    have : a = b := UInt8.toNat_inj.1 h
    subst this
    rcases ih with h | ⟨h1, h2⟩ | h
    · exact .inl h
    · exact .inr (.inl ⟨h1, by rw [h2]⟩)
    · exact .inr (.inr h)
/-- '>' of texts. -/
theorem gt_iff (a b : ByteArray) : (!(Op.bytesLess a.toList b.toList || a.toList == b.toList)) = sLt b a := by
  have h1 : Op.bytesLess a.toList b.toList = sLt a b := rfl
  have h2 : (a.toList == b.toList) = sEq a b := rfl
  rw [h1, h2]
  rcases cb_tri a.data.toList b.data.toList with ⟨h, h'⟩ | ⟨h, h'⟩ | ⟨h, h'⟩
  · rw [(sLt_iff a b).2 h, (sLt_false b a).2 (by omega)]; rfl
  · obtain rfl : a = b := by obtain ⟨⟨a⟩⟩ := a; obtain ⟨⟨b⟩⟩ := b; simp_all
    rw [sEq_self, (sLt_false a a).2 (by rw [cb_self]; omega)]; simp
  · rw [(sLt_false a b).2 (by omega), (sLt_iff b a).2 h', sEq_false (fun e => by rw [e] at h'; rw [cb_self] at h'; omega)]; rfl
theorem sLt_asymm {a b : ByteArray} (h : sLt a b = true) : sLt b a = false := by
  rw [sLt_false]; rw [sLt_iff] at h
  rcases cb_tri a.data.toList b.data.toList with ⟨_, h'⟩ | ⟨h', _⟩ | ⟨h', _⟩ <;> omega
theorem sLt_ntrans {a b c : ByteArray} (h1 : sLt a b = false) (h2 : sLt b c = false) : sLt a c = false := by
  rw [sLt_false] at *; exact cb_ntrans _ _ _ h1 h2

/-- What the insertion leaves. -/
theorem insert_sorted {A : List Lab} {x : Lab} {m : Nat} (hA : SortedK A) (hm : m ≤ A.length) (hgt : ∀ j, m ≤ j → j < A.length → sLt x.1 (A.getD j default).1 = true) (hle : m = 0 ∨ sLt x.1 (A.getD (m - 1) default).1 = false) : SortedK (A.take m ++ [x] ++ A.drop m) := by
  have hA' := List.pairwise_iff_getElem.1 hA
  have low : ∀ y ∈ A.take m, sLt x.1 y.1 = false := fun y hy => by
    obtain ⟨i, hi, rfl⟩ := List.mem_iff_getElem.1 hy
    rw [List.length_take] at hi
    rw [List.getElem_take]
    rcases hle with rfl | hle
    · omega
    · rw [getD_get _ _ (show m - 1 < A.length by omega)] at hle
      rcases Nat.lt_or_ge i (m - 1) with h | h
      · exact sLt_ntrans hle (hA' i (m - 1) (by omega) (by omega) h)
      · have : i = m - 1 := by omega
        subst this; exact hle
  have high : ∀ y ∈ A.drop m, sLt x.1 y.1 = true := fun y hy => by
    obtain ⟨i, hi, rfl⟩ := List.mem_iff_getElem.1 hy
    rw [List.length_drop] at hi
    rw [List.getElem_drop]
    have := hgt (m + i) (by omega) (by omega)
    rwa [getD_get _ _ (by omega)] at this
  have hsplit : (A.take m ++ A.drop m).Pairwise (fun x y => sLt y.1 x.1 = false) := by rw [List.take_append_drop]; exact hA
  obtain ⟨h1, h2, h3⟩ := List.pairwise_append.1 hsplit
  unfold SortedK
  rw [List.append_assoc, List.pairwise_append]
  refine ⟨h1, ?_, ?_⟩
  · rw [List.singleton_append, List.pairwise_cons]
    exact ⟨fun y hy => sLt_asymm (high y hy), h2⟩
  · intro y hy z hz
    rw [List.singleton_append, List.mem_cons] at hz
    rcases hz with rfl | hz
    · exact low y hy
    · exact h3 y hy z hz
theorem insert_perm {A : List Lab} {x : Lab} {m : Nat} : (A.take m ++ [x] ++ A.drop m).Perm (A ++ [x]) := by
  have h1 : (A.take m ++ [x] ++ A.drop m).Perm (A.take m ++ A.drop m ++ [x]) := by
    rw [List.append_assoc, List.append_assoc]
    exact List.Perm.append_left _ List.perm_append_comm
  rwa [List.take_append_drop] at h1

/-- An append of labels to one's own row, with what it leaves. -/
theorem append_labsK {o : Oper} {a : Act} {K : Act → World → Prop} {Q : Exit → Act → World → Prop} {w0 u : World} (s x : Operand)
    (ho : o.op = .call { callee := .builtin .append, args := #[s, x], argTypes := #[22, 22] })
    (v : Value) (A : List Lab) (hs : a.eval s = v) (hown : Own w0 u 52 2 v A.length (flatL A))
    (ad : Addr) (n capc : Nat) (N : List Lab) (hn : N.length = n) (hx : a.eval x = .slice (some ad) n capc) (hN : LabsAt u (some ad) N) (hb : (A.length + N.length) * 32 ≤ 140737488355328)
    (h : ∀ v' u', Own w0 u' 52 2 v' (A ++ N).length (flatL (A ++ N)) → u.grownBy u' v.ownBlock → K (a.put o.dst v') u') : o.wp Try.prog a u K Q := by
  subst hn
  obtain ⟨i0, hi, hz0, hz1, hz2⟩ := info_parts infoLab
  refine wp_append_own (w := u) s x 22 ho w0.heap.size 52 i0 _ 2 32 Try.underlying22 hi hz0 hz1 hz2 rfl (by decide) v A.length (flatL A) hs hown.2 ad N.length capc (flatL N) hx (flatL_length N) ?_ (flatL_one N) (by unfold maxLen; omega) hb hown.1.size ?_
  · rcases Classical.em (N = []) with e | e
    · subst e; intro j y hj; simp [flatL] at hj
    · obtain ⟨B, off, h', hB, hc⟩ := hN.2.2 e
      obtain rfl : ad = ⟨B, off, none⟩ := by simpa using h'
      exact flatL_cells hc
  · intro v' u' ho' hg _
    refine h v' u' ⟨hown.row hg, ?_⟩ hg
    rw [List.length_append, flatL_append]
    exact ho'
theorem labs_kept {u u' : World} {E : Nat} {N : List Lab} {r : Option Nat} (h : LabsAt u (some ⟨E, 0, none⟩) N) (hN : N ≠ []) (hg : u.grownBy u' r) (hr : some E ≠ r) : LabsAt u' (some ⟨E, 0, none⟩) N := by
  obtain ⟨h1, h2, h3⟩ := h
  obtain ⟨B, off, e, hB, hc⟩ := h3 hN
  obtain ⟨rfl, rfl⟩ : E = B ∧ 0 = off := by simpa using e
  have hk := hg.block E hB hr
  refine ⟨h1, h2, fun _ => ⟨E, 0, rfl, Nat.lt_of_lt_of_le hB hg.size, fun i hi => ?_⟩⟩
  rw [World.cell?_of_block (w := u) (w' := u') hk, World.cell?_of_block (w := u) (w' := u') hk]
  exact hc i hi
end Go.Proofs.Ytpehmobedcflnaa
