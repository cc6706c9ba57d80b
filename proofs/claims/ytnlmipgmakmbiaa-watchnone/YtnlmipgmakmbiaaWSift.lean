/- The program's iterator over changes of a kind behind a cursor: it gives each of them, in order. Condition: the log lies as is said of it. -/
import Derived.RangeFuncNested
import Derived.RangeFuncBound
import Derived.RangeFuncCalls
import Derived.RangeFuncLeaves
import Derived.RangeFuncWrites
import Derived.Shelf.Abstract
import Derived.Shelf.RegionOpen
import Derived.WalkKit
import Derived.OwnWalkIn
import Derived.TacticsInMore
import Derived.LoopNIn
import Derived.LoopIn
import Derived.Test.YtnlmipgmakmbiaaWPgB
namespace Go.Proofs.Ytnlmipgmakmbiaa
open Go.RowKit Go.Shelf
set_option linter.unusedSimpArgs false
set_option maxRecDepth 100000
attribute [local go_sem] Oper.semAt_some

section
variable {F : Fence} {n : Nat} {P : Program} {ops : Array Oper} {rest : List Oper} {o : Oper} {a : Act} {w : World} {Q : Exit → Act → World → Prop}
theorem stepIn13 (hw : Region.wanted o (yielded ops a.tmps) = true) (h : ∀ K : Act → World → Prop, (∀ a w, wpListIn F n P ops Q rest a w → K a w) → o.wpIn F n P a w K Q) : wpListIn F n P ops Q (o :: rest) a w :=
  wpListIn_step fun K hK => by simp only [hw, if_true]; exact h K hK
/-- A struct is read, within a fence. -/
theorem loadIn13 (hw : Region.wanted o (yielded ops a.tmps) = true) (ty : TypeId) (x : Operand) (ho : o.op = .load ty x) (b k : Nat) (hx : a.eval x = .pointer (some ⟨b, k, none⟩)) (cs : List Value) (d : TypeDesc) (hr : w.rangeAt b k cs)
    (hu : P.underlying ty = some d) (hd : d.isRow = true) (hi : (P.info? ty).map (·.size) = some cs.length) (h : wpListIn F n P ops Q rest (a.put o.dst (.agg cs.toArray)) w) : wpListIn F n P ops Q (o :: rest) a w := by
  refine stepIn13 hw fun K hK => ?_
  unfold Oper.wpIn
  refine ⟨?_, ?_⟩
  · simp [Oper.about, ho]
  · rw [Oper.semAt_plain F _ _ (by rw [ho]; intro c hc; cases hc)]
    unfold execOp
    simp only [ho, hx, Instr.loadAt, Instr.sureAddr, Sem.run_bind, Sem.run_pure, Result.andThen_ok, run_loadVar_mid w b k ty cs d hr hu hd hi]
    exact hK _ _ h
/-- A struct is written, within a fence. -/
theorem storeIn13 (hw : Region.wanted o (yielded ops a.tmps) = true) (ty : TypeId) (x y : Operand) (ho : o.op = .store ty x y) (b k : Nat) (cells : Array Value) (hx : a.eval x = .pointer (some ⟨b, k, none⟩)) (hy : a.eval y = .agg cells)
    (ht : w.there b k cells.size) (hi : (P.info? ty).map (·.size) = some cells.size) (h1 : cells.all (·.oneCell') = true) (h : wpListIn F n P ops Q rest (a.put o.dst undef) (w.setCells b k cells.toList)) : wpListIn F n P ops Q (o :: rest) a w := by
  refine stepIn13 hw fun K hK => ?_
  unfold Oper.wpIn
  refine ⟨?_, ?_⟩
  · simp [Oper.about, ho]
  · rw [Oper.semAt_plain F _ _ (by rw [ho]; intro c hc; cases hc)]
    unfold execOp
    simp only [ho, hx, hy, Instr.storeAt, Instr.sureAddr, Sem.run_bind, Sem.run_pure, Result.andThen_ok, run_storeVar_mid w b k ty cells ht hi h1]
    exact hK _ _ h
theorem wlin13 {W : World} (h : w = W) (k : wpListIn F n P ops Q rest a W) : wpListIn F n P ops Q rest a w := h ▸ k
end
/-- Is it to come? -/
abbrev fitB (k v : Int) (x : Ch) : Bool := decide (x.2 = k) && decide (v < x.1)
set_option maxHeartbeats 2000000 in
theorem come1_calls (x : Ch) (Bk Bs : Nat) (k v : Int) (w : World) (hk : w.cell? ⟨Bk, 0, none⟩ = some (.int .i64 k)) (hs : w.cell? ⟨Bs, 0, none⟩ = some (.int .i64 v)) (lk : Bk < w.heap.size) (ls : Bs < w.heap.size) : Calls Try.prog 32 #[.agg (chC x.1 x.2).toArray, .pointer (some ⟨Bk, 0, none⟩), .pointer (some ⟨Bs, 0, none⟩)] w fun e w' => e = .returned (.bool (fitB k v x)) ∧ w' = w.alloc (.cells (chC x.1 x.2).toArray 76) := by
  obtain ⟨W1, hW1⟩ : ∃ W, W = w.alloc (.cells (chC x.1 x.2).toArray 76) := ⟨_, rfl⟩
  have b1 : Below w.heap.size w W1 := by rw [hW1]; exact (Below.refl _ _).alloc (Nat.le_refl _) _
  have q1 : BoxL W1 w.heap.size (chC x.1 x.2) := by rw [hW1]; exact BoxL.new w _ _
  have c0 := (q1.2 0 _ rfl).1
  have c2 := (q1.2 2 _ rfl).1
  have ck : W1.cell? ⟨Bk, 0, none⟩ = some (.int .i64 k) := (b1.cell (p := ⟨Bk, 0, none⟩) lk).trans hk
  have cs : W1.cell? ⟨Bs, 0, none⟩ = some (.int .i64 v) := (b1.cell (p := ⟨Bs, 0, none⟩) ls).trans hs
  have HW : Hid (w.alloc (.cells (chC x.1 x.2).toArray 76) = W1) := hW1.symm
  rw [← hW1]
  clear hW1 b1 q1 hk hs
  by_cases hx : x.2 = k
  · subst hx
    have hf : fitB x.2 v x = decide (v < x.1) := by simp [fitB]
    rw [hf]
    clear hf
    by_cases hv : v < x.1
    · rw [decide_eq_true hv]
      go_enter Try.func32, Try.ntmps32
      go_upto_region 1 with fail
      rw [HW.out]
      go_wp2_with fail
      go_ret
      exact ⟨rfl, rfl⟩
    · rw [decide_eq_false hv]
      go_enter Try.func32, Try.ntmps32
      go_upto_region 1 with fail
      rw [HW.out]
      go_wp2_with fail
      go_ret
      exact ⟨rfl, rfl⟩
  · have hf : fitB k v x = false := by simp [fitB, hx]
    rw [hf]
    clear hf
    go_enter Try.func32, Try.ntmps32
    go_upto_region 1 with fail
    rw [HW.out]
    go_wp2_with fail
    go_ret
    exact ⟨rfl, rfl⟩
theorem come_calls (k v : Int) (w : World) : Calls Try.prog 27 #[.int .i64 k, .int .i64 v] w fun e w' => e = .returned (.func (.func 32) #[] #[.pointer (some ⟨w.heap.size, 0, none⟩), .pointer (some ⟨w.heap.size + 1, 0, none⟩)]) ∧ w' = (w.alloc (.cells #[.int .i64 k] 3)).alloc (.cells #[.int .i64 v] 3) := by
  go_enter Try.func27, Try.ntmps27
  go_wp2_with fail
  go_ret
  exact ⟨rfl, rfl⟩
theorem sift_calls (a : Option Addr) (n cap : Nat) (f : Value) (w : World) (lb : Array Value) (hf : f = .func (.func 32) #[] lb) : Calls Try.prog 26 #[.slice a n cap, f] w fun e w' => e = .returned (.func (.func 31) #[] #[.pointer (some ⟨w.heap.size, 0, none⟩), .pointer (some ⟨w.heap.size + 1, 0, none⟩)]) ∧ w' = (w.alloc (.cells #[.slice a n cap] 28)).alloc (.cells #[f] 91) := by
  subst hf
  go_enter Try.func26, Try.ntmps26
  go_wp2_with fail
  go_ret
  exact ⟨rfl, rfl⟩
end Go.Proofs.Ytnlmipgmakmbiaa
