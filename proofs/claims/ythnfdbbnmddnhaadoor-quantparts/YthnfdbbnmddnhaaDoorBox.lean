/- Boxes of three numbers in memory: what stays, what a store of all three leaves. Plain facts on worlds. No condition. -/
import Derived.Test.YthnfdbbnmddnhaaDoorRes
namespace Go.Proofs.YthnfdbbnmddnhaaDoor
open Go.RowKit

/-- Block B is there, holds the three numbers, and may be written. -/
def Box3 (w : World) (B : Nat) (a b c : Int) : Prop :=
  B < w.heap.size ∧ Holds3 w B a b c ∧ w.frozen? ⟨B, 0, none⟩ = false ∧ w.frozen? ⟨B, 1, none⟩ = false ∧ w.frozen? ⟨B, 2, none⟩ = false
/-- All three stored. -/
def set3 (w : World) (B : Nat) (a b c : Int) : World := ((w.setCell ⟨B, 0, none⟩ (.int .i64 a)).setCell ⟨B, 1, none⟩ (.int .i64 b)).setCell ⟨B, 2, none⟩ (.int .i64 c)

theorem cell_other {w : World} {a b : Addr} {v : Value} (h : a ≠ b) : (w.setCell a v).cell? b = w.cell? b := World.cell?_setCell_other (h := h) ..
theorem cell_same {w : World} {a : Addr} {v u : Value} (h : w.cell? a = some u) : (w.setCell a v).cell? a = some v := World.cell?_setCell_same (h := h) ..

theorem Box3.on {u u' : World} {B : Nat} {a b c : Int} (h : Box3 u B a b c) (hb : Below u.heap.size u u') : Box3 u' B a b c := by
  obtain ⟨hB, ⟨h0, h1, h2⟩, f0, f1, f2⟩ := h
  exact ⟨Nat.lt_of_lt_of_le hB hb.size, ⟨(hb.cell hB).trans h0, (hb.cell hB).trans h1, (hb.cell hB).trans h2⟩, (hb.frozen hB).trans f0, (hb.frozen hB).trans f1, (hb.frozen hB).trans f2⟩
theorem Box3.new (u : World) (t : TypeId) (a b c : Int) : Box3 (u.alloc (.cells #[.int .i64 a, .int .i64 b, .int .i64 c] t)) u.heap.size a b c :=
  ⟨by simp, ⟨by simp [go_sem], by simp [go_sem], by simp [go_sem]⟩, by simp [go_sem], by simp [go_sem], by simp [go_sem]⟩
theorem Box3.set {u : World} {B : Nat} {a b c : Int} (h : Box3 u B a b c) (x y z : Int) : Box3 (set3 u B x y z) B x y z := by
  obtain ⟨hB, ⟨h0, h1, h2⟩, f0, f1, f2⟩ := h
  have e01 : (⟨B, 0, none⟩ : Addr) ≠ ⟨B, 1, none⟩ := by simp
  have e02 : (⟨B, 0, none⟩ : Addr) ≠ ⟨B, 2, none⟩ := by simp
  have e12 : (⟨B, 1, none⟩ : Addr) ≠ ⟨B, 2, none⟩ := by simp
  unfold set3
  refine ⟨by simpa using hB, ⟨?_, ?_, ?_⟩, by simpa using f0, by simpa using f1, by simpa using f2⟩
  · rw [cell_other e02.symm, cell_other e01.symm]
    exact cell_same h0
  · rw [cell_other e12.symm]
    exact cell_same (by rw [cell_other e01]; exact h1)
  · exact cell_same (by rw [cell_other e12, cell_other e02]; exact h2)
theorem Box3.other {u : World} {B C : Nat} {a b c : Int} (h : Box3 u C a b c) (hne : B ≠ C) (x y z : Int) : Box3 (set3 u B x y z) C a b c := by
  obtain ⟨hB, ⟨h0, h1, h2⟩, f0, f1, f2⟩ := h
  unfold set3
  have e : ∀ i j : Nat, (⟨B, i, none⟩ : Addr) ≠ ⟨C, j, none⟩ := fun i j h => hne (by simpa using congrArg Addr.block h)
  refine ⟨by simpa using hB, ⟨?_, ?_, ?_⟩, by simpa using f0, by simpa using f1, by simpa using f2⟩
  · rw [cell_other (e 2 0), cell_other (e 1 0), cell_other (e 0 0)]; exact h0
  · rw [cell_other (e 2 1), cell_other (e 1 1), cell_other (e 0 1)]; exact h1
  · rw [cell_other (e 2 2), cell_other (e 1 2), cell_other (e 0 2)]; exact h2
theorem below_set3 {w u : World} {N B : Nat} (h : Below N w u) (hB : N ≤ B) (x y z : Int) : Below N w (set3 u B x y z) := ((h.setCell hB _).setCell hB _).setCell hB _
end Go.Proofs.YthnfdbbnmddnhaaDoor
