/- list.Swap: two entries change places. No condition. -/
import Derived.Test.YtgncpjplofacfaaHLess
namespace Go.Proofs.Ytgncpjplofacfaa
open Go.RowKit Go.Maps
set_option linter.unusedSimpArgs false

set_option maxHeartbeats 2000000 in
theorem lSwap_at (g n cap i j : Nat) (f : Value) (x y : It) (w : World) (hij : ¬ i = j) (hi : (i : Int) < (n : Int)) (hj : (j : Int) < (n : Int)) (hg : g < w.heap.size)
    (x0 : w.cell? ⟨g, i * 3, none⟩ = some (.string x.1)) (x1 : w.cell? ⟨g, i * 3 + 1, none⟩ = some (.int .i64 x.2.1)) (x2 : w.cell? ⟨g, i * 3 + 2, none⟩ = some (.int .i64 x.2.2))
    (y0 : w.cell? ⟨g, j * 3, none⟩ = some (.string y.1)) (y1 : w.cell? ⟨g, j * 3 + 1, none⟩ = some (.int .i64 y.2.1)) (y2 : w.cell? ⟨g, j * 3 + 2, none⟩ = some (.int .i64 y.2.2))
    (fi0 : w.frozen? ⟨g, i * 3, none⟩ = false) (fi1 : w.frozen? ⟨g, i * 3 + 1, none⟩ = false) (fi2 : w.frozen? ⟨g, i * 3 + 2, none⟩ = false)
    (fj0 : w.frozen? ⟨g, j * 3, none⟩ = false) (fj1 : w.frozen? ⟨g, j * 3 + 1, none⟩ = false) (fj2 : w.frozen? ⟨g, j * 3 + 2, none⟩ = false) :
    Calls Try.prog 70 #[.agg #[.slice (some ⟨g, 0, none⟩) n cap, f], .int .i64 (i : Int), .int .i64 (j : Int)] w fun e w' => e = .returned (.tuple #[]) ∧ ∃ W, Below w.heap.size w W ∧ w' = (putI (putI W g i y) g j x).drew := by
  have hji : ¬ j = i := fun e => hij e.symm
  have hgn : g ≠ w.heap.size := by omega
  have hgn' : w.heap.size ≠ g := by omega
  go_enter Try.func70, Try.ntmps70
  go_wp2_with fail
  generalize hW : w.alloc _ = W
  have b0 : W.cell? ⟨w.heap.size, 0, none⟩ = some (.slice (some ⟨g, 0, none⟩) n cap) := by rw [← hW]; simp [go_sem]
  have hb : Below w.heap.size w W := by rw [← hW]; go_grown
  have x0' := (hb.cell hg).trans x0
  have x1' := (hb.cell hg).trans x1
  have x2' := (hb.cell hg).trans x2
  have y0' := (hb.cell hg).trans y0
  have y1' := (hb.cell hg).trans y1
  have y2' := (hb.cell hg).trans y2
  have fi0' := (hb.frozen hg).trans fi0
  have fi1' := (hb.frozen hg).trans fi1
  have fi2' := (hb.frozen hg).trans fi2
  have fj0' := (hb.frozen hg).trans fj0
  have fj1' := (hb.frozen hg).trans fj1
  have fj2' := (hb.frozen hg).trans fj2
  go_region
  go_end0
  exact ⟨rfl, W, hb, rfl⟩
end Go.Proofs.Ytgncpjplofacfaa
