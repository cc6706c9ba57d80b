/- taint.borne, unborne and hasTwin: what is looked for by a function that is handed in comes out as the plain functions say. Condition: the slices hold what is said of them. -/
import Derived.Test.YtgffnkfiecieeaaTFind
import Derived.Test.YtgffnkfiecieeaaTBears
import Derived.Test.YtgffnkfiecieeaaTCheckP
import Derived.Shelf.Abstract
namespace Go.Proofs.Ytgffnkfiecieeaa
open Go.RowKit Go.Shelf
set_option linter.unusedSimpArgs false

/-- Block D holds a taint, and may be written. -/
def BoxT (u : World) (D : Nat) (x : Tnt) : Prop :=
  D < u.heap.size ∧ (u.cell? ⟨D, 0, none⟩ = some (.string x.1) ∧ u.cell? ⟨D, 1, none⟩ = some (.string x.2.1) ∧ u.cell? ⟨D, 2, none⟩ = some (.int .i64 x.2.2)) ∧ u.frozen? ⟨D, 0, none⟩ = false ∧ u.frozen? ⟨D, 1, none⟩ = false ∧ u.frozen? ⟨D, 2, none⟩ = false
theorem BoxT.on {u u' : World} {D : Nat} {x : Tnt} (h : BoxT u D x) (hb : Below u.heap.size u u') : BoxT u' D x := by
  obtain ⟨hB, ⟨h0, h1, h2⟩, f0, f1, f2⟩ := h
  exact ⟨Nat.lt_of_lt_of_le hB hb.size, ⟨(hb.cell hB).trans h0, (hb.cell hB).trans h1, (hb.cell hB).trans h2⟩, (hb.frozen hB).trans f0, (hb.frozen hB).trans f1, (hb.frozen hB).trans f2⟩
theorem BoxT.new (u : World) (t : TypeId) (x : Tnt) : BoxT (u.alloc (.cells #[.string x.1, .string x.2.1, .int .i64 x.2.2] t)) u.heap.size x :=
  ⟨by simp, ⟨by simp [go_sem], by simp [go_sem], by simp [go_sem]⟩, by simp [go_sem], by simp [go_sem], by simp [go_sem]⟩

theorem enters41 : ∀ args w, (callFunc 41 args).run Try.prog w = .ok (.enter 41 args) w := enters_of Try.func41 (by kernel_rfl) rfl
theorem enters37 : ∀ args w, (callFunc 37 args).run Try.prog w = .ok (.enter 37 args) w := enters_of Try.func37 (by kernel_rfl) rfl
theorem enters36 : ∀ args w, (callFunc 36 args).run Try.prog w = .ok (.enter 36 args) w := enters_of Try.func36 (by kernel_rfl) rfl

theorem bornePred (t : Tnt) (D : Nat) (w : World) (hD : BoxT w D t) : PredB 41 #[.pointer (some ⟨D, 0, none⟩)] (fun b => bearsB b t) w := fun W x hb => by
  obtain ⟨hDl, ⟨c0, c1, c2⟩, _⟩ := hD
  have d0 := (hb.cell (p := ⟨D, 0, none⟩) hDl).trans c0
  have d1 := (hb.cell (p := ⟨D, 1, none⟩) hDl).trans c1
  have d2 := (hb.cell (p := ⟨D, 2, none⟩) hDl).trans c2
  have hDW : D < W.heap.size := by have := hb.size; omega
  have hne : D ≠ W.heap.size := by omega
  have HB := Bears_calls x.1 x.2.1 x.2.2.1 x.2.2.2 t.1 t.2.1 t.2.2
  show Calls Try.prog 41 #[.agg #[.string x.1, .string x.2.1, .bool x.2.2.1, .int .i64 x.2.2.2], .pointer (some ⟨D, 0, none⟩)] W fun e w' => e = .returned (.bool (bearsB x t)) ∧ Below W.heap.size W w'
  change ∀ w, Calls Try.prog 19 _ w fun e w' => e = .returned (.bool (bearsB x t)) ∧ Below w.heap.size w w' at HB
  generalize bearsB x t = r at HB ⊢
  clear c0 c1 c2
  go_enter Try.func41, Try.ntmps41
  go_wp2_with fail
  refine (HB _).mono ?_
  rintro e w1 ⟨rfl, hb1⟩
  go_wp2_with fail
  go_ret
  exact ⟨rfl, on2 (by go_grown) hb1⟩

theorem borne_calls (t : Tnt) (a : Option Addr) (cap : Nat) (L : List Bear) (w : World) (hL : Hid (BearsAt w a L)) : Calls Try.prog 38 #[.agg #[.string t.1, .string t.2.1, .int .i64 t.2.2], .slice a L.length cap] w fun e w' => e = .returned (.bool (borneB L t)) ∧ Below w.heap.size w w' := by
  have hb0 : Below w.heap.size w (w.alloc (.cells #[.string t.1, .string t.2.1, .int .i64 t.2.2] 32)) := by go_grown
  have hC := ContainsB_calls a cap L (w.alloc (.cells #[.string t.1, .string t.2.1, .int .i64 t.2.2] 32)) (hL.out.on hb0) (fun b => bearsB b t) 41 #[.pointer (some ⟨w.heap.size, 0, none⟩)] enters41 (bornePred t w.heap.size _ (BoxT.new w _ t))
  change Calls Try.prog _ _ _ fun e w' => e = .returned (.bool (borneB L t)) ∧ _ at hC
  generalize borneB L t = r at hC ⊢
  go_enter Try.func38, Try.ntmps38
  go_wp2_with fail
  refine hC.mono ?_
  rintro e w1 ⟨rfl, hb1⟩
  go_wp2_with fail
  go_ret
  exact ⟨rfl, on2 hb0 hb1⟩

theorem unbornePred (e : Int) (a : Option Addr) (cap : Nat) (L : List Bear) (D E : Nat) (w : World) (hD : D < w.heap.size) (hE : E < w.heap.size) (cD : w.cell? ⟨D, 0, none⟩ = some (.int .i64 e)) (cE : w.cell? ⟨E, 0, none⟩ = some (.slice a L.length cap)) (hL : BearsAt w a L) :
    PredT 37 #[.pointer (some ⟨D, 0, none⟩), .pointer (some ⟨E, 0, none⟩)] (openT e L) w := fun W x hb => by
  have d0 := (hb.cell (p := ⟨D, 0, none⟩) hD).trans cD
  have d1 := (hb.cell (p := ⟨E, 0, none⟩) hE).trans cE
  have hDW : D < W.heap.size := by have := hb.size; omega
  have hEW : E < W.heap.size := by have := hb.size; omega
  have hne : D ≠ W.heap.size := by omega
  have hne' : E ≠ W.heap.size := by omega
  have hb0 : Below W.heap.size W (W.alloc (.cells #[.string x.1, .string x.2.1, .int .i64 x.2.2] 32)) := by go_grown
  have HB := borne_calls x a cap L (W.alloc (.cells #[.string x.1, .string x.2.1, .int .i64 x.2.2] 32)) (hL.on (hb.trans (hb0.mono hb.size)))
  show Calls Try.prog 37 #[.agg #[.string x.1, .string x.2.1, .int .i64 x.2.2], .pointer (some ⟨D, 0, none⟩), .pointer (some ⟨E, 0, none⟩)] W fun r w' => r = .returned (.bool ((x.2.2 == e) && !borneB L x)) ∧ Below W.heap.size W w'
  generalize borneB L x = r at HB ⊢
  clear cD cE
  cases hq : (x.2.2 == e)
  · go_enter Try.func37, Try.ntmps37
    go_wp2_with fail
    go_ret
    exact ⟨rfl, hb0⟩
  · go_enter Try.func37, Try.ntmps37
    go_wp2_with fail
    refine HB.mono ?_
    rintro e w1 ⟨rfl, hb1⟩
    go_wp2_with fail
    go_ret
    exact ⟨rfl, on2 hb0 hb1⟩

theorem unborne_calls (e : Int) (a : Option Addr) (cap : Nat) (L : List Bear) (w : World) (hL : Hid (BearsAt w a L)) : Calls Try.prog 29 #[.int .i64 e, .slice a L.length cap] w fun r w' => ∃ lb, r = .returned (.func (.func 37) #[] lb) ∧ PredT 37 lb (openT e L) w' ∧ Below w.heap.size w w' := by
  have hb0 : Below w.heap.size w ((w.alloc (.cells #[.int .i64 e] 3)).alloc (.cells #[.slice a L.length cap] 23)) := by go_grown
  have HP := unbornePred e a cap L w.heap.size (w.heap.size + 1) ((w.alloc (.cells #[.int .i64 e] 3)).alloc (.cells #[.slice a L.length cap] 23)) (by simp; omega) (by simp) (by simp [go_sem]) (by simp [go_sem]) (hL.out.on hb0)
  have HP' : Hid (PredT 37 #[.pointer (some ⟨w.heap.size, 0, none⟩), .pointer (some ⟨w.heap.size + 1, 0, none⟩)] (openT e L) ((w.alloc (.cells #[.int .i64 e] 3)).alloc (.cells #[.slice a L.length cap] 23))) := HP
  clear HP
  go_enter Try.func29, Try.ntmps29
  go_wp2_with fail
  go_ret
  exact ⟨_, rfl, HP'.out, hb0⟩

theorem twin_eq (x t : Tnt) : tEq (x.1, t.2.1, x.2.2) t = (sEq x.1 t.1 && (x.2.2 == t.2.2)) := by simp [tEq, sEq_self]
theorem twinPred (t : Tnt) (D : Nat) (w : World) (hD : BoxT w D t) : PredT 36 #[.pointer (some ⟨D, 0, none⟩)] (fun x => sEq x.1 t.1 && (x.2.2 == t.2.2)) w := fun W x hb => by
  obtain ⟨hDl, ⟨c0, c1, c2⟩, _⟩ := hD
  have d0 := (hb.cell (p := ⟨D, 0, none⟩) hDl).trans c0
  have d1 := (hb.cell (p := ⟨D, 1, none⟩) hDl).trans c1
  have d2 := (hb.cell (p := ⟨D, 2, none⟩) hDl).trans c2
  have hDW : D < W.heap.size := by have := hb.size; omega
  have hne : D ≠ W.heap.size := by omega
  have HQ := eqT (x.1, t.2.1, x.2.2) t
  have HG := guardT
  rw [twin_eq] at HQ
  show Calls Try.prog 36 #[.agg #[.string x.1, .string x.2.1, .int .i64 x.2.2], .pointer (some ⟨D, 0, none⟩)] W fun e w' => e = .returned (.bool (sEq x.1 t.1 && (x.2.2 == t.2.2))) ∧ Below W.heap.size W w'
  generalize (sEq x.1 t.1 && (x.2.2 == t.2.2)) = r at HQ ⊢
  clear c0 c1 c2
  go_enter Try.func36, Try.ntmps36
  go_wp2_with fail
  go_ret
  exact ⟨rfl, by go_grown⟩
theorem hasTwin_calls (t : Tnt) (a : Option Addr) (cap : Nat) (L : List Tnt) (w : World) (hL : Hid (TntsAt w a L)) : Calls Try.prog 23 #[.slice a L.length cap, .agg #[.string t.1, .string t.2.1, .int .i64 t.2.2]] w fun e w' => e = .returned (.bool (twinB L t)) ∧ Below w.heap.size w w' := by
  have hb0 : Below w.heap.size w (w.alloc (.cells #[.string t.1, .string t.2.1, .int .i64 t.2.2] 32)) := by go_grown
  have hC := ContainsT_calls a cap L (w.alloc (.cells #[.string t.1, .string t.2.1, .int .i64 t.2.2] 32)) (hL.out.on hb0) (fun x => sEq x.1 t.1 && (x.2.2 == t.2.2)) 36 #[.pointer (some ⟨w.heap.size, 0, none⟩)] enters36 (twinPred t w.heap.size _ (BoxT.new w _ t))
  change Calls Try.prog _ _ _ fun e w' => e = .returned (.bool (twinB L t)) ∧ _ at hC
  generalize twinB L t = r at hC ⊢
  go_enter Try.func23, Try.ntmps23
  go_wp2_with fail
  refine hC.mono ?_
  rintro e w1 ⟨rfl, hb1⟩
  go_wp2_with fail
  go_ret
  exact ⟨rfl, on2 hb0 hb1⟩
end Go.Proofs.Ytgffnkfiecieeaa
