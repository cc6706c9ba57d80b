/- sort.stable over a list of entries: the plain function. No condition. -/
import Derived.Test.YtgncpjplofacfaaHSymF
namespace Go.Proofs.Ytgncpjplofacfaa
open Go.RowKit Go.Maps
set_option linter.unusedSimpArgs false

/-- Blocks of k from a on are sorted, and what is left. -/
def blkF : Nat → Nat → Nat → Nat → List It → List It
  | 0, _, _, _, L => L
  | f + 1, k, a, n, L => if a + k ≤ n then blkF f k (a + k) n (insO a (a + k - (a + 1)) (a + 1) L) else insO a (n - (a + 1)) (a + 1) L
/-- Pairs of blocks are merged, and what is left. -/
def mrgF : Nat → Nat → Nat → Nat → List It → List It
  | 0, _, _, _, L => L
  | f + 1, k, a, n, L => if a + 2 * k ≤ n then mrgF f k (a + 2 * k) n (symF (2 * k) a (a + k) (a + 2 * k) L) else if a + k < n then symF (n - a) a (a + k) n L else L
/-- Rounds of merging. -/
def rndF : Nat → Nat → Nat → List It → List It
  | 0, _, _, L => L
  | f + 1, k, n, L => if k < n then rndF f (2 * k) n (mrgF (n + 1) k 0 n L) else L
theorem blkF_length : ∀ (f k a n : Nat) (L : List It), (blkF f k a n L).length = L.length
  | 0, _, _, _, _ => rfl
  | f + 1, k, a, n, L => by
    unfold blkF
    split
    · rw [blkF_length, insO_length]
    · rw [insO_length]
theorem mrgF_length : ∀ (f k a n : Nat) (L : List It), (mrgF f k a n L).length = L.length
  | 0, _, _, _, _ => rfl
  | f + 1, k, a, n, L => by
    unfold mrgF
    split
    · rw [mrgF_length, symF_length]
    · split
      · rw [symF_length]
      · rfl
theorem rndF_length : ∀ (f k n : Nat) (L : List It), (rndF f k n L).length = L.length
  | 0, _, _, _ => rfl
  | f + 1, k, n, L => by
    unfold rndF
    split
    · rw [rndF_length, mrgF_length]
    · rfl
theorem rndF_end {f k n : Nat} {L : List It} (h : ¬ k < n) : rndF f k n L = L := by
  cases f with
  | zero => rfl
  | succ f => simp [rndF, h]
/-- What sort.Stable makes of a list. -/
def stabF (L : List It) : List It := rndF (L.length + 1) 20 L.length (blkF (L.length + 1) 20 0 L.length L)
theorem stabF_length (L : List It) : (stabF L).length = L.length := by unfold stabF; rw [rndF_length, blkF_length]
theorem ins_as {F : Where} {w : World} {g cap n0 : Nat} {L : List It} (h : LsAt F w g cap L) (hn : L.length = n0) (hL : n0 < 1099511627776) (a b : Nat) (hab : a ≤ b) (hb : b ≤ n0) :
    Calls Try.prog 45 #[.iface 58 (Lv g n0 cap), .int .i64 (a : Int), .int .i64 (b : Int)] w fun e w' => e = .returned (.tuple #[]) ∧ LsAt F w' g cap (insO a (b - (a + 1)) (a + 1) L) ∧ Turns F w w' := by
  subst hn
  exact insertionSort_calls h hL a b hab hb
set_option maxRecDepth 10000 in
set_option maxHeartbeats 8000000 in
theorem stable_calls {F : Where} {w : World} {g cap n : Nat} {L : List It} (h : LsAt F w g cap L) (hn : L.length = n) (hL : n < 1000000000) :
    Calls Try.prog 41 #[.iface 58 (Lv g n cap), .int .i64 (n : Int)] w fun e w' => e = .returned (.tuple #[]) ∧ LsAt F w' g cap (stabF L) ∧ Turns F w w' := by
  have HH : Hid (LsAt F w g cap L) := h
  have HST : Hid (stabF L = rndF (n + 1) 20 n (blkF (n + 1) 20 0 n L)) := by show _ = _; unfold stabF; rw [hn]
  clear h
  go_enter Try.func41, Try.ntmps41
  go_wp2_with fail
  go_loopw [5, 6] (fun va vb wr => ∃ (a f : Nat) (M : List It), va = .int .i64 (a : Int) ∧ vb = .int .i64 ((a : Int) + 20) ∧ a ≤ n ∧ n < a + f ∧ M.length = n ∧ LsAt F wr g cap M ∧ Turns F w wr ∧ blkF f 20 a n M = blkF (n + 1) 20 0 n L) (fun va _ _ => n + 21 - (intOf va).toNat)
  case atStart => exact ⟨0, n + 1, L, rfl, rfl, Nat.zero_le _, by omega, hn, HH.out, Turns.refl _ _, rfl⟩
  case round =>
    obtain ⟨a, f, M, rfl, rfl, han, hf, hM, h1, h2, h3⟩ := hrel
    have HR : Hid (LsAt F wr g cap M ∧ Turns F w wr ∧ blkF f 20 a n M = blkF (n + 1) 20 0 n L) := ⟨h1, h2, h3⟩
    clear h1 h2 h3 HH
    obtain ⟨b, hb⟩ : ∃ b, b = a + 20 := ⟨_, rfl⟩
    have hbe : (a : Int) + 20 = (b : Int) := by omega
    obtain ⟨k, hk⟩ : ∃ k, f = k + 1 := ⟨f - 1, by omega⟩
    subst hk
    by_cases hbn : b ≤ n
    · have hbn' : (b : Int) ≤ (n : Int) := by omega
      have HI : Hid (Calls Try.prog 45 #[.iface 58 (Lv g n cap), .int .i64 (a : Int), .int .i64 (b : Int)] wr fun e w' => e = .returned (.tuple #[]) ∧ LsAt F w' g cap (insO a (b - (a + 1)) (a + 1) M) ∧ Turns F wr w') := ins_as HR.out.1 hM (by omega) a b (by omega) hbn
      have HBB : Hid (b = a + 20) := hb
      clear hb
      go_wp2_with (go_at_call 45; refine HI.out.mono ?_; rintro e w1 ⟨rfl, k1, u1⟩)
      go_roundw
      case rel => exact ⟨b, k, insO a (b - (a + 1)) (a + 1) M, by first | rfl | go_num, by first | rfl | go_num, hbn, by have := HBB.out; omega, by rw [insO_length]; exact hM, k1, HR.out.2.1.trans u1, by have e3 := HBB.out; subst e3; rw [← HR.out.2.2, blkF, if_pos hbn]⟩
      case measure => have := HBB.out; simp [intOf]; omega
    · have hbn' : ¬ (b : Int) ≤ (n : Int) := by omega
      have HI : Hid (Calls Try.prog 45 #[.iface 58 (Lv g n cap), .int .i64 (a : Int), .int .i64 (n : Int)] wr fun e w' => e = .returned (.tuple #[]) ∧ LsAt F w' g cap (blkF (n + 1) 20 0 n L) ∧ Turns F wr w') := by
        have := ins_as HR.out.1 hM (by omega) a n han (Nat.le_refl _)
        rw [← HR.out.2.2, blkF, if_neg (by omega)]
        exact this
      have HT : Hid (Turns F w wr) := HR.out.2.1
      have hBl : (blkF (n + 1) 20 0 n L).length = n := by rw [blkF_length]; exact hn
      generalize blkF (n + 1) 20 0 n L = B at *
      clear HR hb
      go_wp2_with (go_at_call 45; refine HI.out.mono ?_; rintro e w1 ⟨rfl, k1, u1⟩)
      have HB : Hid (LsAt F w1 g cap B ∧ Turns F w w1) := ⟨k1, HT.out.trans u1⟩
      clear k1 u1 HI HT
      go_loopw [4] (fun vk wr => ∃ (K f : Nat) (M : List It), vk = .int .i64 (K : Int) ∧ 0 < K ∧ K < 4000000000 ∧ n < K + f ∧ M.length = n ∧ LsAt F wr g cap M ∧ Turns F w wr ∧ rndF f K n M = rndF (n + 1) 20 n B) (fun vk _ => n - (intOf vk).toNat)
      case atStart => exact ⟨20, n + 1, B, rfl, by omega, by omega, by omega, hBl, HB.out.1, HB.out.2, rfl⟩
      case round =>
        obtain ⟨K, f, M, rfl, hK0, hKn, hf, hM, h1, h2, h3⟩ := hrel
        have HR : Hid (LsAt F wr g cap M ∧ Turns F w wr ∧ rndF f K n M = rndF (n + 1) 20 n B) := ⟨h1, h2, h3⟩
        clear h1 h2 h3 HB
        by_cases hlt : K < n
        · have hlt' : (K : Int) < (n : Int) := by omega
          obtain ⟨q, hq⟩ : ∃ q, f = q + 1 := ⟨f - 1, by omega⟩
          subst hq
          obtain ⟨d, hd⟩ : ∃ d, d = 2 * K := ⟨_, rfl⟩
          have hde : 2 * (K : Int) = (d : Int) := by omega
          have hde2 : (K : Int) * 2 = (d : Int) := by omega
          have HD : Hid (d = 2 * K) := hd
          have hdK : K < d ∧ d < 4000000000 := by omega
          clear hd
          go_wp2_with fail
          go_loopw [5, 6] (fun va vb wq => ∃ (a b f : Nat) (N : List It), va = .int .i64 (a : Int) ∧ vb = .int .i64 (b : Int) ∧ b = a + d ∧ a ≤ n ∧ n < a + f ∧ N.length = n ∧ LsAt F wq g cap N ∧ Turns F w wq ∧ mrgF f K a n N = mrgF (n + 1) K 0 n M) (fun va _ _ => n - (intOf va).toNat)
          case atStart => exact ⟨0, d, n + 1, M, rfl, rfl, by omega, by omega, by omega, hM, HR.out.1, HR.out.2.1, rfl⟩
          case round =>
            obtain ⟨a, b, f, N, rfl, rfl, hb, han, hf2, hN, h1, h2, h3⟩ := hrel
            have HQ : Hid (LsAt F wr g cap N ∧ Turns F w wr ∧ mrgF f K a n N = mrgF (n + 1) K 0 n M) := ⟨h1, h2, h3⟩
            have HBB : Hid (b = a + d ∧ d = 2 * K) := ⟨hb, HD.out⟩
            have HO : Hid (rndF (q + 1) K n M = rndF (n + 1) 20 n B) := HR.out.2.2
            clear h1 h2 h3 HR
            obtain ⟨r, hr⟩ : ∃ r, f = r + 1 := ⟨f - 1, by omega⟩
            subst hr
            obtain ⟨m, hm⟩ : ∃ m, m = a + K := ⟨_, rfl⟩
            have hme : (a : Int) + (K : Int) = (m : Int) := by omega
            have HM : Hid (m = a + K) := hm
            have hmb : a < m ∧ m < b := by omega
            by_cases hbn : b ≤ n
            · have hbn' : (b : Int) ≤ (n : Int) := by omega
              obtain ⟨b2, hb2⟩ : ∃ b2, b2 = b + d := ⟨_, rfl⟩
              have hbd : (b : Int) + (d : Int) = (b2 : Int) := by omega
              have HB2 : Hid (b2 = b + d) := hb2
              clear hb2
              have HI : Hid (Calls Try.prog 46 #[.iface 58 (Lv g n cap), .int .i64 (a : Int), .int .i64 (m : Int), .int .i64 (b : Int)] wr fun e w' => e = .returned (.tuple #[]) ∧ LsAt F w' g cap (symF (2 * K) a m b N) ∧ Turns F wr w') := symMerge_calls (by omega) (2 * K) wr N a m b HQ.out.1 hN hmb.1 hmb.2 hbn (by have := HBB.out; omega)
              clear hb hm
              go_wp2_with (go_at_call 46; refine HI.out.mono ?_; rintro e w1 ⟨rfl, k1, u1⟩)
              go_roundw
              case rel => exact ⟨b, b2, r, symF (2 * K) a m b N, rfl, by first | rfl | go_num, HB2.out, hbn, by have := HBB.out; omega, by rw [symF_length]; exact hN, k1, HQ.out.2.1.trans u1, by rw [← HQ.out.2.2, mrgF, if_pos (by have := HBB.out; omega), show a + 2 * K = b by have := HBB.out; omega, ← HM.out]⟩
              case measure => have := HBB.out; simp [intOf]; omega
            · have hbn' : ¬ (b : Int) ≤ (n : Int) := by omega
              by_cases hmn : m < n
              · have hmn' : (m : Int) < (n : Int) := by omega
                have HI : Hid (Calls Try.prog 46 #[.iface 58 (Lv g n cap), .int .i64 (a : Int), .int .i64 (m : Int), .int .i64 (n : Int)] wr fun e w' => e = .returned (.tuple #[]) ∧ LsAt F w' g cap (symF (n - a) a m n N) ∧ Turns F wr w') := symMerge_calls (by omega) (n - a) wr N a m n HQ.out.1 hN hmb.1 hmn (Nat.le_refl _) (Nat.le_refl _)
                clear hb hm
                go_wp2_with (go_at_call 46; refine HI.out.mono ?_; rintro e w1 ⟨rfl, k1, u1⟩)
                go_roundw
                case rel => exact ⟨d, q, symF (n - a) a m n N, by first | rfl | go_num, by omega, hdK.2, by omega, by rw [symF_length]; exact hN, k1, HQ.out.2.1.trans u1, by rw [← HO.out, rndF, if_pos hlt, ← HQ.out.2.2, mrgF, if_neg (by have := HBB.out; omega), if_pos (by have := HM.out; omega), ← HM.out, ← HD.out]⟩
                case measure => have := HBB.out; simp [intOf]; omega
              · have hmn' : ¬ (m : Int) < (n : Int) := by omega
                clear hb hm
                go_wp2_with fail
                go_roundw
                case rel => exact ⟨d, q, N, by first | rfl | go_num, by omega, hdK.2, by omega, hN, HQ.out.1, HQ.out.2.1, by rw [← HO.out, rndF, if_pos hlt, ← HQ.out.2.2, mrgF, if_neg (by have := HBB.out; omega), if_neg (by have := HM.out; omega), ← HD.out]⟩
                case measure => have := HBB.out; simp [intOf]; omega
        · have hlt' : ¬ (K : Int) < (n : Int) := by omega
          go_wp2_with fail
          go_end0
          have e9 := HR.out.2.2
          rw [rndF_end hlt] at e9
          rw [HST.out, ← e9]
          exact ⟨rfl, HR.out.1, HR.out.2.1⟩
end Go.Proofs.Ytgncpjplofacfaa
