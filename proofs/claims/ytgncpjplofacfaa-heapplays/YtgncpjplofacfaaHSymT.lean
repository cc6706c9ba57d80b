/- sort.symMerge over a list of entries, the halves: the plain function. No condition. -/
import Derived.Test.YtgncpjplofacfaaHSym2
namespace Go.Proofs.Ytgncpjplofacfaa
open Go.RowKit Go.Maps
set_option linter.unusedSimpArgs false

/-- Which places are held against each other. -/
def symQ (n : Nat) (L : List It) (c : Nat) : Bool := !ahead (at_ L (n - 1 - c)) (at_ L c)
/-- What is done behind the search. -/
def symT (rec : Nat → Nat → Nat → List It → List It) (a m b mid e s : Nat) (L : List It) : List It :=
  let L1 := if s < m ∧ m < e then rotF (e - s) m (m - s) (e - m) L else L
  let L2 := if a < s ∧ s < mid then rec a s mid L1 else L1
  if mid < e ∧ e < b then rec mid e b L2 else L2
theorem symT_length {rec : Nat → Nat → Nat → List It → List It} (h : ∀ a m b L, (rec a m b L).length = L.length) (a m b mid e s : Nat) (L : List It) : (symT rec a m b mid e s L).length = L.length := by
  unfold symT
  simp only
  split <;> split <;> split <;> simp [h, rotF_length]
theorem rotate_as {F : Where} {w : World} {g cap n0 : Nat} {L : List It} (h : LsAt F w g cap L) (hn : L.length = n0) (hL : n0 < 1099511627776) (a m b : Nat) (ham : a < m) (hmb : m < b) (hb : b ≤ n0) :
    Calls Try.prog 47 #[.iface 58 (Lv g n0 cap), .int .i64 (a : Int), .int .i64 (m : Int), .int .i64 (b : Int)] w fun e w' => e = .returned (.tuple #[]) ∧ LsAt F w' g cap (rotF (b - a) m (m - a) (b - m) L) ∧ Turns F w w' := by
  subst hn
  exact rotate_calls h hL a m b ham hmb hb
theorem sLess_as {F : Where} {w : World} {g cap n0 : Nat} {L : List It} (h : LsAt F w g cap L) (hn : L.length = n0) {i j : Nat} (hi : i < n0) (hj : j < n0) {b : Bool} (e : ahead (at_ L i) (at_ L j) = b) :
    Calls Try.prog 66 #[Lv g n0 cap, .int .i64 (i : Int), .int .i64 (j : Int)] w fun e w' => e = .returned (.bool b) ∧ Below w.heap.size w w' := by
  subst hn
  exact sLess h hi hj e
end Go.Proofs.Ytgncpjplofacfaa
