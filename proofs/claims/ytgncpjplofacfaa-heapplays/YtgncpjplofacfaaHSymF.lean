/- sort.symMerge over a list of entries: the plain function. No condition. -/
import Derived.Test.YtgncpjplofacfaaHSymHi
import Derived.Test.YtgncpjplofacfaaHSymLo
namespace Go.Proofs.Ytgncpjplofacfaa
open Go.RowKit Go.Maps
set_option linter.unusedSimpArgs false

theorem swU_length : ∀ (n k : Nat) (L : List It), (swU n k L).length = L.length
  | 0, _, _ => rfl
  | n + 1, k, L => by rw [swU, swU_length, swapL_length]
theorem swD_length : ∀ (n k : Nat) (L : List It), (swD n k L).length = L.length
  | 0, _, _ => rfl
  | n + 1, k, L => by rw [swD, swD_length, swapL_length]
/-- Where the search by halves ends. -/
def symS (a m b : Nat) (L : List It) : Nat :=
  if (a + b) / 2 < m then bs (symQ ((a + b) / 2 + m) L) ((a + b) / 2 - ((a + b) / 2 + m - b) + 1) ((a + b) / 2 + m - b) ((a + b) / 2) else bs (symQ ((a + b) / 2 + m) L) (m - a + 1) a m
def symF : Nat → Nat → Nat → Nat → List It → List It
  | 0, _, _, _, L => L
  | f + 1, a, m, b, L =>
    if m = a + 1 then swU (bs (fun h => ahead (at_ L h) (at_ L a)) (b - m + 1) m b - 1 - a) a L
    else if b = m + 1 then swD (m - bs (fun h => !ahead (at_ L m) (at_ L h)) (m - a + 1) a m) m L
    else symT (symF f) a m b ((a + b) / 2) ((a + b) / 2 + m - symS a m b L) (symS a m b L) L
theorem symF_length : ∀ (f a m b : Nat) (L : List It), (symF f a m b L).length = L.length
  | 0, _, _, _, _ => rfl
  | f + 1, a, m, b, L => by
    unfold symF
    split
    · rw [swU_length]
    · split
      · rw [swD_length]
      · exact symT_length (symF_length f) _ _ _ _ _ _ _
theorem symMerge_calls {F : Where} {g cap n0 : Nat} (hL : n0 < 1099511627776) : ∀ (f : Nat) (w : World) (L : List It) (a m b : Nat), LsAt F w g cap L → L.length = n0 → a < m → m < b → b ≤ n0 → b - a ≤ f →
    Calls Try.prog 46 #[.iface 58 (Lv g n0 cap), .int .i64 (a : Int), .int .i64 (m : Int), .int .i64 (b : Int)] w fun e w' => e = .returned (.tuple #[]) ∧ LsAt F w' g cap (symF f a m b L) ∧ Turns F w w'
  | 0, _, _, _, _, _, _, _, _, _, _, hf => absurd hf (by omega)
  | f + 1, w, L, a, m, b, h, hn, h1, h2, hb, hf => by
    unfold symF
    by_cases c1 : m = a + 1
    · rw [if_pos c1]
      subst hn
      exact sym_one h hL a m b c1 h2 hb
    · rw [if_neg c1]
      by_cases c2 : b = m + 1
      · rw [if_pos c2]
        subst hn
        exact sym_two h hL a m b h1 c1 c2 hb
      · rw [if_neg c2]
        have IH : Hid (∀ (w : World) (L : List It) (a' m b' : Nat), LsAt F w g cap L → L.length = n0 → a' < m → m < b' → b' ≤ n0 → b' - a' < b - a → Calls Try.prog 46 #[.iface 58 (Lv g n0 cap), .int .i64 (a' : Int), .int .i64 (m : Int), .int .i64 (b' : Int)] w fun e w' => e = .returned (.tuple #[]) ∧ LsAt F w' g cap (symF f a' m b' L) ∧ Turns F w w') :=
          fun w L a' m b' h hn h1 h2 hb hlt => symMerge_calls hL f w L a' m b' h hn h1 h2 hb (by omega)
        unfold symS
        by_cases c3 : (a + b) / 2 < m
        · rw [if_pos c3]
          exact sym_hi (symF f) (symF_length f) (b - a) IH h hn hL a m b ((a + b) / 2) ((a + b) / 2 + m) ((a + b) / 2 + m - b) (by omega) (by omega) hb (Nat.le_refl _) rfl rfl c3 rfl
        · rw [if_neg c3]
          exact sym_lo (symF f) (symF_length f) (b - a) IH h hn hL a m b ((a + b) / 2) ((a + b) / 2 + m) a (by omega) (by omega) hb (Nat.le_refl _) rfl rfl c3 rfl
end Go.Proofs.Ytgncpjplofacfaa
