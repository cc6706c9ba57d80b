/- sort.rotate over a list of entries: the plain function. No condition. -/
import Derived.Test.YtgncpjplofacfaaHIns
namespace Go.Proofs.Ytgncpjplofacfaa
open Go.RowKit Go.Maps
set_option linter.unusedSimpArgs false

def rotF : Nat → Nat → Nat → Nat → List It → List It
  | 0, _, _, _, L => L
  | f + 1, m, i, j, L => if i = j then swR i (m - i) m L else if j < i then rotF f m (i - j) j (swR j (m - i) m L) else rotF f m i (j - i) (swR i (m - i) (m + j - i) L)
theorem rotF_length : ∀ (f m i j : Nat) (L : List It), (rotF f m i j L).length = L.length
  | 0, _, _, _, _ => rfl
  | f + 1, m, i, j, L => by
    unfold rotF
    split
    · rw [swR_length]
    · split
      · rw [rotF_length, swR_length]
      · rw [rotF_length, swR_length]
theorem swapRange_as {F : Where} {w : World} {g cap n0 : Nat} {L : List It} (h : LsAt F w g cap L) (hn : L.length = n0) (hL : n0 < 1099511627776) (a b n : Nat) (ha : a + n ≤ n0) (hb : b + n ≤ n0) (hab : ¬ a = b) :
    Calls Try.prog 48 #[.iface 58 (Lv g n0 cap), .int .i64 (a : Int), .int .i64 (b : Int), .int .i64 (n : Int)] w fun e w' => e = .returned (.tuple #[]) ∧ LsAt F w' g cap (swR n a b L) ∧ Turns F w w' := by
  subst hn
  exact swapRange_calls h hL a b n ha hb hab
set_option maxHeartbeats 4000000 in
theorem rotate_calls {F : Where} {w : World} {g cap : Nat} {L : List It} (h : LsAt F w g cap L) (hL : L.length < 1099511627776) (a m b : Nat) (ham : a < m) (hmb : m < b) (hb : b ≤ L.length) :
    Calls Try.prog 47 #[.iface 58 (Lv g L.length cap), .int .i64 (a : Int), .int .i64 (m : Int), .int .i64 (b : Int)] w fun e w' => e = .returned (.tuple #[]) ∧ LsAt F w' g cap (rotF (b - a) m (m - a) (b - m) L) ∧ Turns F w w' := by
  have HH : Hid (LsAt F w g cap L) := h
  clear h
  obtain ⟨i0, hi0⟩ : ∃ i0, i0 = m - a := ⟨_, rfl⟩
  obtain ⟨j0, hj0⟩ : ∃ j0, j0 = b - m := ⟨_, rfl⟩
  obtain ⟨f0, hf0⟩ : ∃ f0, f0 = b - a := ⟨_, rfl⟩
  rw [← hi0, ← hj0, ← hf0]
  have e1 : (m : Int) - (a : Int) = (i0 : Int) := by omega
  have e2 : (b : Int) - (m : Int) = (j0 : Int) := by omega
  have hii : 0 < i0 ∧ i0 ≤ m := by omega
  have hjj : 0 < j0 ∧ m + j0 ≤ L.length := by omega
  have hff : i0 + j0 ≤ f0 := by omega
  clear hi0 hj0 hf0
  go_enter Try.func47, Try.ntmps47
  go_wp2_with fail
  go_loopw [8, 9] (fun vi vj wr => ∃ (i j f : Nat) (M : List It), vi = .int .i64 (i : Int) ∧ vj = .int .i64 (j : Int) ∧ 0 < i ∧ i ≤ m ∧ 0 < j ∧ m + j ≤ L.length ∧ i + j ≤ f ∧ M.length = L.length ∧ LsAt F wr g cap M ∧ Turns F w wr ∧ rotF f m i j M = rotF f0 m i0 j0 L) (fun vi vj _ => (intOf vi).toNat + (intOf vj).toNat)
  case atStart => exact ⟨i0, j0, f0, L, rfl, rfl, hii.1, hii.2, hjj.1, hjj.2, hff, rfl, HH.out, Turns.refl _ _, rfl⟩
  case round =>
    obtain ⟨i, j, f, M, rfl, rfl, hi0, him, hj0, hjm, hf, hM, h1, h2, h3⟩ := hrel
    have HR : Hid (LsAt F wr g cap M ∧ Turns F w wr ∧ rotF f m i j M = rotF f0 m i0 j0 L) := ⟨h1, h2, h3⟩
    clear h1 h2 h3 HH
    obtain ⟨k, hk⟩ : ∃ k, f = k + 1 := ⟨f - 1, by omega⟩
    subst hk
    obtain ⟨p, hp⟩ : ∃ p, p = m - i := ⟨_, rfl⟩
    have hpe : (m : Int) - (i : Int) = (p : Int) := by omega
    have HP : Hid (p = m - i) := hp
    have hpm : p + i = m := by omega
    clear hp
    by_cases hij : i = j
    · have hij' : (i : Int) = (j : Int) := by omega
      have HS := swapRange_as HR.out.1 hM hL p m i (by omega) (by omega) (by omega)
      have HSw : Hid (Calls Try.prog 48 #[.iface 58 (Lv g L.length cap), .int .i64 (p : Int), .int .i64 (m : Int), .int .i64 (i : Int)] wr fun e w' => e = .returned (.tuple #[]) ∧ LsAt F w' g cap (rotF f0 m i0 j0 L) ∧ Turns F wr w') := by
        rw [← HR.out.2.2, rotF, if_pos hij, ← HP.out]
        exact HS
      clear HS
      subst hij
      go_wp2_with (go_at_call 48; refine HSw.out.mono ?_; rintro e w1 ⟨rfl, k1, u1⟩)
      go_end0
      exact ⟨rfl, k1, HR.out.2.1.trans u1⟩
    · have hij' : ¬ (i : Int) = (j : Int) := by omega
      by_cases hlt : j < i
      · have hlt' : (j : Int) < (i : Int) := by omega
        obtain ⟨r, hr⟩ : ∃ r, r = i - j := ⟨_, rfl⟩
        have hre : (i : Int) - (j : Int) = (r : Int) := by omega
        have HRr : Hid (r = i - j) := hr
        have hrj : r + j = i := by omega
        clear hr
        have HS := swapRange_as HR.out.1 hM hL p m j (by omega) (by omega) (by omega)
        have HSw : Hid (Calls Try.prog 48 #[.iface 58 (Lv g L.length cap), .int .i64 (p : Int), .int .i64 (m : Int), .int .i64 (j : Int)] wr fun e w' => e = .returned (.tuple #[]) ∧ LsAt F w' g cap (swR j p m M) ∧ Turns F wr w') := HS
        clear HS
        go_wp2_with (go_at_call 48; refine HSw.out.mono ?_; rintro e w1 ⟨rfl, k1, u1⟩)
        go_roundw
        case rel => exact ⟨r, j, k, swR j p m M, rfl, rfl, by omega, by omega, hj0, hjm, by omega, by rw [swR_length]; exact hM, k1, HR.out.2.1.trans u1, by rw [← HR.out.2.2, rotF, if_neg hij, if_pos hlt, ← HP.out, ← HRr.out]⟩
        case measure => simp [intOf]; omega
      · have hlt' : ¬ (j : Int) < (i : Int) := by omega
        obtain ⟨r, hr⟩ : ∃ r, r = j - i := ⟨_, rfl⟩
        obtain ⟨q, hq⟩ : ∃ q, q = m + j - i := ⟨_, rfl⟩
        have hre : (j : Int) - (i : Int) = (r : Int) := by omega
        have hqe : (m : Int) + (j : Int) - (i : Int) = (q : Int) := by omega
        have HRr : Hid (r = j - i ∧ q = m + j - i) := ⟨hr, hq⟩
        have hrj : r + i = j := by omega
        have hqj : q + i = m + j := by omega
        clear hr hq
        have HS := swapRange_as HR.out.1 hM hL p q i (by omega) (by omega) (by omega)
        have HSw : Hid (Calls Try.prog 48 #[.iface 58 (Lv g L.length cap), .int .i64 (p : Int), .int .i64 (q : Int), .int .i64 (i : Int)] wr fun e w' => e = .returned (.tuple #[]) ∧ LsAt F w' g cap (swR i p q M) ∧ Turns F wr w') := HS
        clear HS
        go_wp2_with (go_at_call 48; refine HSw.out.mono ?_; rintro e w1 ⟨rfl, k1, u1⟩)
        go_roundw
        case rel => exact ⟨i, r, k, swR i p q M, rfl, rfl, hi0, him, by omega, by omega, by omega, by rw [swR_length]; exact hM, k1, HR.out.2.1.trans u1, by rw [← HR.out.2.2, rotF, if_neg hij, if_neg hlt, ← HP.out, ← HRr.out.1, ← HRr.out.2]⟩
        case measure => simp [intOf]; omega
end Go.Proofs.Ytgncpjplofacfaa
