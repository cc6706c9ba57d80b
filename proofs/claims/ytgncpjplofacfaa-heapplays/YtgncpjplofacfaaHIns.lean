/- sort.insertionSort over a list of entries: the plain function. No condition. -/
import Derived.Test.YtgncpjplofacfaaHSort
namespace Go.Proofs.Ytgncpjplofacfaa
open Go.RowKit Go.Maps
set_option linter.unusedSimpArgs false

/-- An entry goes down to its place. -/
def insI (a : Nat) : Nat → List It → List It
  | 0, L => L
  | j + 1, L => if a < j + 1 then (if ahead (at_ L (j + 1)) (at_ L j) then insI a j (swapL L (j + 1) j) else L) else L
/-- Entries from i on, n of them. -/
def insO (a : Nat) : Nat → Nat → List It → List It
  | 0, _, L => L
  | n + 1, i, L => insO a n (i + 1) (insI a i L)
theorem insI_length (a : Nat) : ∀ (j : Nat) (L : List It), (insI a j L).length = L.length
  | 0, _ => rfl
  | j + 1, L => by
    unfold insI
    split
    · split
      · rw [insI_length, swapL_length]
      · rfl
    · rfl
theorem insO_length (a : Nat) : ∀ (n i : Nat) (L : List It), (insO a n i L).length = L.length
  | 0, _, _ => rfl
  | n + 1, i, L => by rw [insO, insO_length, insI_length]
theorem insI_stop {a j : Nat} {L : List It} (h : ¬ a < j) : insI a j L = L := by
  cases j with
  | zero => rfl
  | succ j => simp [insI, h]
theorem insI_halt {a j p : Nat} {L : List It} (hp : j = p + 1) (h : ahead (at_ L j) (at_ L p) = false) : insI a j L = L := by
  subst hp
  unfold insI
  split
  · rw [if_neg (by rw [h]; simp)]
  · rfl
theorem insI_go {a j p : Nat} {L : List It} (hp : j = p + 1) (ha : a < j) (h : ahead (at_ L j) (at_ L p) = true) : insI a j L = insI a p (swapL L j p) := by
  subst hp
  rw [insI, if_pos ha, if_pos h]
set_option maxHeartbeats 4000000 in
theorem insertionSort_calls {F : Where} {w : World} {g cap : Nat} {L : List It} (h : LsAt F w g cap L) (hL : L.length < 1099511627776) (a b : Nat) (hab : a ≤ b) (hb : b ≤ L.length) :
    Calls Try.prog 45 #[.iface 58 (Lv g L.length cap), .int .i64 (a : Int), .int .i64 (b : Int)] w fun e w' => e = .returned (.tuple #[]) ∧ LsAt F w' g cap (insO a (b - (a + 1)) (a + 1) L) ∧ Turns F w w' := by
  have HH : Hid (LsAt F w g cap L) := h
  clear h
  go_enter Try.func45, Try.ntmps45
  go_wp2_with fail
  go_loopw [6] (fun vi wr => ∃ (i : Nat) (M : List It), vi = .int .i64 (i : Int) ∧ a < i ∧ i ≤ b + 1 ∧ M.length = L.length ∧ LsAt F wr g cap M ∧ Turns F w wr ∧ insO a (b - i) i M = insO a (b - (a + 1)) (a + 1) L) (fun vi _ => b + 1 - (intOf vi).toNat)
  case atStart => exact ⟨a + 1, L, by go_num, by omega, by omega, rfl, HH.out, Turns.refl _ _, rfl⟩
  case round =>
    obtain ⟨i, M, rfl, hai, hib, hM, h1, h2, h3⟩ := hrel
    have HR : Hid (LsAt F wr g cap M ∧ Turns F w wr ∧ insO a (b - i) i M = insO a (b - (a + 1)) (a + 1) L) := ⟨h1, h2, h3⟩
    clear h1 h2 h3 HH
    by_cases hin : i < b
    · have hin' : (i : Int) < (b : Int) := by omega
      go_wp2_with fail
      go_loopw [7] (fun vj wq => ∃ (j : Nat) (K : List It), vj = .int .i64 (j : Int) ∧ a ≤ j ∧ j ≤ i ∧ K.length = L.length ∧ LsAt F wq g cap K ∧ Turns F w wq ∧ insI a j K = insI a i M) (fun vj _ => (intOf vj).toNat)
      case atStart => exact ⟨i, M, rfl, by omega, Nat.le_refl _, hM, HR.out.1, HR.out.2.1, rfl⟩
      case round =>
        obtain ⟨j, K, rfl, haj, hji, hK, k1, k2, k3⟩ := hrel
        have HQ : Hid (LsAt F wr g cap K ∧ Turns F w wr ∧ insI a j K = insI a i M) := ⟨k1, k2, k3⟩
        clear k1 k2 k3
        have HO : Hid (insO a (b - i) i M = insO a (b - (a + 1)) (a + 1) L) := HR.out.2.2
        clear HR
        by_cases hja : a < j
        · have hja' : (a : Int) < (j : Int) := by omega
          obtain ⟨p, hp⟩ : ∃ p, j = p + 1 := ⟨j - 1, by omega⟩
          have hpe : (j : Int) - 1 = (p : Int) := by omega
          have HP : Hid (j = p + 1) := hp
          have hpj : p < j := by omega
          have hpa : a ≤ p := by omega
          have hjL : j < K.length := by omega
          have hpL : p < K.length := by omega
          clear hp
          cases hah : ahead (at_ K j) (at_ K p) with
          | false =>
            have HLs := sLess HQ.out.1 hjL hpL hah
            rw [hK] at HLs
            have HL : Hid (Calls Try.prog 66 #[Lv g L.length cap, .int .i64 (j : Int), .int .i64 (p : Int)] wr fun e w' => e = .returned (.bool false) ∧ Below wr.heap.size wr w') := HLs
            clear HLs
            go_wp2_with (go_at_call 66; refine HL.out.mono ?_; rintro e w1 ⟨rfl, hb1⟩)
            go_roundw
            case rel => exact ⟨i + 1, K, by go_num, by omega, by omega, hK, HQ.out.1.grow hb1, HQ.out.2.1.trans (Turns.below hb1), by rw [← HO.out, show b - i = (b - (i + 1)) + 1 by omega, insO, ← HQ.out.2.2, insI_halt HP.out hah]⟩
            case measure => simp [intOf]; omega
          | true =>
            have HLs := sLess HQ.out.1 hjL hpL hah
            rw [hK] at HLs
            have HL : Hid (Calls Try.prog 66 #[Lv g L.length cap, .int .i64 (j : Int), .int .i64 (p : Int)] wr fun e w' => e = .returned (.bool true) ∧ Below wr.heap.size wr w') := HLs
            have HS : Hid (∀ u, Below wr.heap.size wr u → Calls Try.prog 70 #[Lv g L.length cap, .int .i64 (j : Int), .int .i64 (p : Int)] u fun e w' => e = .returned (.tuple #[]) ∧ LsAt F w' g cap (swapL K j p) ∧ Turns F u w') := by
              intro u hu
              have := sSwap (HQ.out.1.grow hu) hjL hpL (by omega)
              rw [hK] at this
              exact this
            clear HLs
            go_wp2_with (first | (go_at_call 66; refine HL.out.mono ?_; rintro e w1 ⟨rfl, hb1⟩) | (go_at_call 70; refine (HS.out _ hb1).mono ?_; rintro e w2 ⟨rfl, k2, u2⟩))
            go_roundw
            case rel => exact ⟨p, swapL K j p, by first | rfl | go_num, hpa, by omega, by rw [swapL_length]; exact hK, k2, HQ.out.2.1.trans ((Turns.below hb1).trans u2), by rw [← HQ.out.2.2, insI_go HP.out hja hah]⟩
            case measure => simp [intOf]; omega
        · have hja' : ¬ (a : Int) < (j : Int) := by omega
          go_wp2_with fail
          go_roundw
          case rel => exact ⟨i + 1, K, by go_num, by omega, by omega, hK, HQ.out.1, HQ.out.2.1, by rw [← HO.out, show b - i = (b - (i + 1)) + 1 by omega, insO, ← HQ.out.2.2, insI_stop hja]⟩
          case measure => simp [intOf]; omega
    · have hin' : ¬ (i : Int) < (b : Int) := by omega
      go_wp2_with fail
      go_end0
      have := HR.out.2.2
      rw [show b - i = 0 by omega] at this
      exact ⟨rfl, this ▸ HR.out.1, HR.out.2.1⟩
end Go.Proofs.Ytgncpjplofacfaa
