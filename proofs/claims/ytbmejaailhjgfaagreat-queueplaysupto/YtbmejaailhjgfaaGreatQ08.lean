/- sort.stable over a list of entries: the plain function. No condition. What the sort makes of a list has its entries, each as often. Plain mathematics. No condition. container/heap.up over a keyed list: the plain function. No condition. container/heap.down over a keyed list: the plain function. No condition. container/heap's Push, Remove and Fix over a keyed list: the plain functions. No condition. -/
import Derived.Test.YtbmejaailhjgfaaGreatQ07
import Derived.Test.YtbmejaailhjgfaaGreatQ06
namespace Go.Proofs.YtbmejaailhjgfaaGreat
open Go.RowKit Go.Maps
set_option linter.unusedSimpArgs false

/-- Blocks of k from a on are sorted, and what is left. -/
def blkF : Nat → Nat → Nat → Nat → List It → List It
  | 0, _, _, _, L => L
  | f + 1, k, a, n, L => if a + k ≤ n then blkF f k (a + k) n (insO a (a + k - (a + 1)) (a + 1) L) else insO a (n - (a + 1)) (a + 1) L
/-- Pairs of blocks are merged, and what is left. -/
def mrgF : Nat → Nat → Nat → Nat → List It → List It
  | 0, _, _, _, L => L
  | f + 1, k, a, n, L => if a + 2 * k ≤ n then mrgF f k (a + 2 * k) n (symF (2 * k) a (a + k) (a + 2 * k) L) else if a + k < n then symF (n - a) a (a + k) n L else L
/-- Rounds of merging. -/
def rndF : Nat → Nat → Nat → List It → List It
  | 0, _, _, L => L
  | f + 1, k, n, L => if k < n then rndF f (2 * k) n (mrgF (n + 1) k 0 n L) else L
theorem blkF_length : ∀ (f k a n : Nat) (L : List It), (blkF f k a n L).length = L.length
  | 0, _, _, _, _ => rfl
  | f + 1, k, a, n, L => by
    unfold blkF
    split
    · rw [blkF_length, insO_length]
    · rw [insO_length]
theorem mrgF_length : ∀ (f k a n : Nat) (L : List It), (mrgF f k a n L).length = L.length
  | 0, _, _, _, _ => rfl
  | f + 1, k, a, n, L => by
    unfold mrgF
    split
    · rw [mrgF_length, symF_length]
    · split
      · rw [symF_length]
      · rfl
theorem rndF_length : ∀ (f k n : Nat) (L : List It), (rndF f k n L).length = L.length
  | 0, _, _, _ => rfl
  | f + 1, k, n, L => by
    unfold rndF
    split
    · rw [rndF_length, mrgF_length]
    · rfl
theorem rndF_end {f k n : Nat} {L : List It} (h : ¬ k < n) : rndF f k n L = L := by
  cases f with
  | zero => rfl
  | succ f => simp [rndF, h]
/-- What sort.Stable makes of a list. -/
def stabF (L : List It) : List It := rndF (L.length + 1) 20 L.length (blkF (L.length + 1) 20 0 L.length L)
theorem stabF_length (L : List It) : (stabF L).length = L.length := by unfold stabF; rw [rndF_length, blkF_length]
theorem ins_as {F : Where} {w : World} {g cap n0 : Nat} {L : List It} (h : LsAt F w g cap L) (hn : L.length = n0) (hL : n0 < 1099511627776) (a b : Nat) (hab : a ≤ b) (hb : b ≤ n0) :
    Calls Tryz.prog 117 #[.iface 99 (Lv g n0 cap), .int .i64 (a : Int), .int .i64 (b : Int)] w fun e w' => e = .returned (.tuple #[]) ∧ LsAt F w' g cap (insO a (b - (a + 1)) (a + 1) L) ∧ Turns F w w' := by
  subst hn
  exact insertionSort_calls h hL a b hab hb
set_option maxRecDepth 10000 in
set_option maxHeartbeats 8000000 in
theorem stable_calls {F : Where} {w : World} {g cap n : Nat} {L : List It} (h : LsAt F w g cap L) (hn : L.length = n) (hL : n < 1000000000) :
    Calls Tryz.prog 110 #[.iface 99 (Lv g n cap), .int .i64 (n : Int)] w fun e w' => e = .returned (.tuple #[]) ∧ LsAt F w' g cap (stabF L) ∧ Turns F w w' := by
  have HH : Hid (LsAt F w g cap L) := h
  have HST : Hid (stabF L = rndF (n + 1) 20 n (blkF (n + 1) 20 0 n L)) := by show _ = _; unfold stabF; rw [hn]
  clear h
  go_enter Tryz.func110, Tryz.ntmps110
  go_wp2_with fail
  go_loopw [5, 6] (fun va vb wr => ∃ (a f : Nat) (M : List It), va = .int .i64 (a : Int) ∧ vb = .int .i64 ((a : Int) + 20) ∧ a ≤ n ∧ n < a + f ∧ M.length = n ∧ LsAt F wr g cap M ∧ Turns F w wr ∧ blkF f 20 a n M = blkF (n + 1) 20 0 n L) (fun va _ _ => n + 21 - (intOf va).toNat)
  case atStart => exact ⟨0, n + 1, L, rfl, rfl, Nat.zero_le _, by omega, hn, HH.out, Turns.refl _ _, rfl⟩
  case round =>
    obtain ⟨a, f, M, rfl, rfl, han, hf, hM, h1, h2, h3⟩ := hrel
    have HR : Hid (LsAt F wr g cap M ∧ Turns F w wr ∧ blkF f 20 a n M = blkF (n + 1) 20 0 n L) := ⟨h1, h2, h3⟩
    clear h1 h2 h3 HH
    obtain ⟨b, hb⟩ : ∃ b, b = a + 20 := ⟨_, rfl⟩
    have hbe : (a : Int) + 20 = (b : Int) := by omega
    obtain ⟨k, hk⟩ : ∃ k, f = k + 1 := ⟨f - 1, by omega⟩
    subst hk
    by_cases hbn : b ≤ n
    · have hbn' : (b : Int) ≤ (n : Int) := by omega
      have HI : Hid (Calls Tryz.prog 117 #[.iface 99 (Lv g n cap), .int .i64 (a : Int), .int .i64 (b : Int)] wr fun e w' => e = .returned (.tuple #[]) ∧ LsAt F w' g cap (insO a (b - (a + 1)) (a + 1) M) ∧ Turns F wr w') := ins_as HR.out.1 hM (by omega) a b (by omega) hbn
      have HBB : Hid (b = a + 20) := hb
      clear hb
      go_wp2_with (go_at_call 117; refine HI.out.mono ?_; rintro e w1 ⟨rfl, k1, u1⟩)
      go_roundw
      case rel => exact ⟨b, k, insO a (b - (a + 1)) (a + 1) M, by first | rfl | go_num, by first | rfl | go_num, hbn, by have := HBB.out; omega, by rw [insO_length]; exact hM, k1, HR.out.2.1.trans u1, by have e3 := HBB.out; subst e3; rw [← HR.out.2.2, blkF, if_pos hbn]⟩
      case measure => have := HBB.out; simp [intOf]; omega
    · have hbn' : ¬ (b : Int) ≤ (n : Int) := by omega
      have HI : Hid (Calls Tryz.prog 117 #[.iface 99 (Lv g n cap), .int .i64 (a : Int), .int .i64 (n : Int)] wr fun e w' => e = .returned (.tuple #[]) ∧ LsAt F w' g cap (blkF (n + 1) 20 0 n L) ∧ Turns F wr w') := by
        have := ins_as HR.out.1 hM (by omega) a n han (Nat.le_refl _)
        rw [← HR.out.2.2, blkF, if_neg (by omega)]
        exact this
      have HT : Hid (Turns F w wr) := HR.out.2.1
      have hBl : (blkF (n + 1) 20 0 n L).length = n := by rw [blkF_length]; exact hn
      generalize blkF (n + 1) 20 0 n L = B at *
      clear HR hb
      go_wp2_with (go_at_call 117; refine HI.out.mono ?_; rintro e w1 ⟨rfl, k1, u1⟩)
      have HB : Hid (LsAt F w1 g cap B ∧ Turns F w w1) := ⟨k1, HT.out.trans u1⟩
      clear k1 u1 HI HT
      go_loopw [4] (fun vk wr => ∃ (K f : Nat) (M : List It), vk = .int .i64 (K : Int) ∧ 0 < K ∧ K < 4000000000 ∧ n < K + f ∧ M.length = n ∧ LsAt F wr g cap M ∧ Turns F w wr ∧ rndF f K n M = rndF (n + 1) 20 n B) (fun vk _ => n - (intOf vk).toNat)
      case atStart => exact ⟨20, n + 1, B, rfl, by omega, by omega, by omega, hBl, HB.out.1, HB.out.2, rfl⟩
      case round =>
        obtain ⟨K, f, M, rfl, hK0, hKn, hf, hM, h1, h2, h3⟩ := hrel
        have HR : Hid (LsAt F wr g cap M ∧ Turns F w wr ∧ rndF f K n M = rndF (n + 1) 20 n B) := ⟨h1, h2, h3⟩
        clear h1 h2 h3 HB
        by_cases hlt : K < n
        · have hlt' : (K : Int) < (n : Int) := by omega
          obtain ⟨q, hq⟩ : ∃ q, f = q + 1 := ⟨f - 1, by omega⟩
          subst hq
          obtain ⟨d, hd⟩ : ∃ d, d = 2 * K := ⟨_, rfl⟩
          have hde : 2 * (K : Int) = (d : Int) := by omega
          have hde2 : (K : Int) * 2 = (d : Int) := by omega
          have HD : Hid (d = 2 * K) := hd
          have hdK : K < d ∧ d < 4000000000 := by omega
          clear hd
          go_wp2_with fail
          go_loopw [5, 6] (fun va vb wq => ∃ (a b f : Nat) (N : List It), va = .int .i64 (a : Int) ∧ vb = .int .i64 (b : Int) ∧ b = a + d ∧ a ≤ n ∧ n < a + f ∧ N.length = n ∧ LsAt F wq g cap N ∧ Turns F w wq ∧ mrgF f K a n N = mrgF (n + 1) K 0 n M) (fun va _ _ => n - (intOf va).toNat)
          case atStart => exact ⟨0, d, n + 1, M, rfl, rfl, by omega, by omega, by omega, hM, HR.out.1, HR.out.2.1, rfl⟩
          case round =>
            obtain ⟨a, b, f, N, rfl, rfl, hb, han, hf2, hN, h1, h2, h3⟩ := hrel
            have HQ : Hid (LsAt F wr g cap N ∧ Turns F w wr ∧ mrgF f K a n N = mrgF (n + 1) K 0 n M) := ⟨h1, h2, h3⟩
            have HBB : Hid (b = a + d ∧ d = 2 * K) := ⟨hb, HD.out⟩
            have HO : Hid (rndF (q + 1) K n M = rndF (n + 1) 20 n B) := HR.out.2.2
            clear h1 h2 h3 HR
            obtain ⟨r, hr⟩ : ∃ r, f = r + 1 := ⟨f - 1, by omega⟩
            subst hr
            obtain ⟨m, hm⟩ : ∃ m, m = a + K := ⟨_, rfl⟩
            have hme : (a : Int) + (K : Int) = (m : Int) := by omega
            have HM : Hid (m = a + K) := hm
            have hmb : a < m ∧ m < b := by omega
            by_cases hbn : b ≤ n
            · have hbn' : (b : Int) ≤ (n : Int) := by omega
              obtain ⟨b2, hb2⟩ : ∃ b2, b2 = b + d := ⟨_, rfl⟩
              have hbd : (b : Int) + (d : Int) = (b2 : Int) := by omega
              have HB2 : Hid (b2 = b + d) := hb2
              clear hb2
              have HI : Hid (Calls Tryz.prog 118 #[.iface 99 (Lv g n cap), .int .i64 (a : Int), .int .i64 (m : Int), .int .i64 (b : Int)] wr fun e w' => e = .returned (.tuple #[]) ∧ LsAt F w' g cap (symF (2 * K) a m b N) ∧ Turns F wr w') := symMerge_calls (by omega) (2 * K) wr N a m b HQ.out.1 hN hmb.1 hmb.2 hbn (by have := HBB.out; omega)
              clear hb hm
              go_wp2_with (go_at_call 118; refine HI.out.mono ?_; rintro e w1 ⟨rfl, k1, u1⟩)
              go_roundw
              case rel => exact ⟨b, b2, r, symF (2 * K) a m b N, rfl, by first | rfl | go_num, HB2.out, hbn, by have := HBB.out; omega, by rw [symF_length]; exact hN, k1, HQ.out.2.1.trans u1, by rw [← HQ.out.2.2, mrgF, if_pos (by have := HBB.out; omega), show a + 2 * K = b by have := HBB.out; omega, ← HM.out]⟩
              case measure => have := HBB.out; simp [intOf]; omega
            · have hbn' : ¬ (b : Int) ≤ (n : Int) := by omega
              by_cases hmn : m < n
              · have hmn' : (m : Int) < (n : Int) := by omega
                have HI : Hid (Calls Tryz.prog 118 #[.iface 99 (Lv g n cap), .int .i64 (a : Int), .int .i64 (m : Int), .int .i64 (n : Int)] wr fun e w' => e = .returned (.tuple #[]) ∧ LsAt F w' g cap (symF (n - a) a m n N) ∧ Turns F wr w') := symMerge_calls (by omega) (n - a) wr N a m n HQ.out.1 hN hmb.1 hmn (Nat.le_refl _) (Nat.le_refl _)
                clear hb hm
                go_wp2_with (go_at_call 118; refine HI.out.mono ?_; rintro e w1 ⟨rfl, k1, u1⟩)
                go_roundw
                case rel => exact ⟨d, q, symF (n - a) a m n N, by first | rfl | go_num, by omega, hdK.2, by omega, by rw [symF_length]; exact hN, k1, HQ.out.2.1.trans u1, by rw [← HO.out, rndF, if_pos hlt, ← HQ.out.2.2, mrgF, if_neg (by have := HBB.out; omega), if_pos (by have := HM.out; omega), ← HM.out, ← HD.out]⟩
                case measure => have := HBB.out; simp [intOf]; omega
              · have hmn' : ¬ (m : Int) < (n : Int) := by omega
                clear hb hm
                go_wp2_with fail
                go_roundw
                case rel => exact ⟨d, q, N, by first | rfl | go_num, by omega, hdK.2, by omega, hN, HQ.out.1, HQ.out.2.1, by rw [← HO.out, rndF, if_pos hlt, ← HQ.out.2.2, mrgF, if_neg (by have := HBB.out; omega), if_neg (by have := HM.out; omega), ← HD.out]⟩
                case measure => have := HBB.out; simp [intOf]; omega
        · have hlt' : ¬ (K : Int) < (n : Int) := by omega
          go_wp2_with fail
          go_end0
          have e9 := HR.out.2.2
          rw [rndF_end hlt] at e9
          rw [HST.out, ← e9]
          exact ⟨rfl, HR.out.1, HR.out.2.1⟩
end Go.Proofs.YtbmejaailhjgfaaGreat
namespace Go.Proofs.YtbmejaailhjgfaaGreat
set_option linter.unusedSimpArgs false
set_option maxRecDepth 100000

theorem swapL_perm {L : List It} {i j : Nat} (hi : i < L.length) (hj : j < L.length) : (swapL L i j).Perm L := by
  unfold swapL
  rw [at_get hi, at_get hj]
  exact List.set_set_perm hi hj
theorem insI_perm (a : Nat) : ∀ (j : Nat) (L : List It), j < L.length → (insI a j L).Perm L
  | 0, L, _ => List.Perm.refl L
  | j + 1, L, h => by
    unfold insI
    split
    · split
      · exact (insI_perm a j _ (by rw [swapL_length]; omega)).trans (swapL_perm h (by omega))
      · exact List.Perm.refl L
    · exact List.Perm.refl L
theorem insO_perm (a : Nat) : ∀ (n i : Nat) (L : List It), i + n ≤ L.length → (insO a n i L).Perm L
  | 0, _, L, _ => List.Perm.refl L
  | n + 1, i, L, h => (insO_perm a n (i + 1) _ (by rw [insI_length]; omega)).trans (insI_perm a i L (by omega))
theorem swR_perm : ∀ (n a b : Nat) (L : List It), a + n ≤ L.length → b + n ≤ L.length → (swR n a b L).Perm L
  | 0, _, _, L, _, _ => List.Perm.refl L
  | n + 1, a, b, L, h1, h2 => (swR_perm n (a + 1) (b + 1) _ (by rw [swapL_length]; omega) (by rw [swapL_length]; omega)).trans (swapL_perm (by omega) (by omega))
theorem rotF_perm : ∀ (f m i j : Nat) (L : List It), i ≤ m → m + j ≤ L.length → (rotF f m i j L).Perm L
  | 0, _, _, _, L, _, _ => List.Perm.refl L
  | f + 1, m, i, j, L, h1, h2 => by
    unfold rotF
    split
    · exact swR_perm _ _ _ _ (by omega) (by omega)
    · split
      · exact (rotF_perm f m (i - j) j _ (by omega) (by rw [swR_length]; omega)).trans (swR_perm _ _ _ _ (by omega) (by omega))
      · exact (rotF_perm f m i (j - i) _ (by omega) (by rw [swR_length]; omega)).trans (swR_perm _ _ _ _ (by omega) (by omega))
theorem swU_perm : ∀ (n k : Nat) (L : List It), n = 0 ∨ k + n < L.length → (swU n k L).Perm L
  | 0, _, L, _ => List.Perm.refl L
  | n + 1, k, L, h => (swU_perm n (k + 1) _ (by rw [swapL_length]; omega)).trans (swapL_perm (by omega) (by omega))
theorem swD_perm : ∀ (n k : Nat) (L : List It), n = 0 ∨ (n ≤ k ∧ k < L.length) → (swD n k L).Perm L
  | 0, _, L, _ => List.Perm.refl L
  | n + 1, k, L, h => (swD_perm n (k - 1) _ (by rw [swapL_length]; omega)).trans (swapL_perm (by omega) (by omega))
theorem symS_in (a m b : Nat) (L : List It) (h1 : a < m) (h2 : m < b) : a ≤ symS a m b L ∧ symS a m b L ≤ m ∧ symS a m b L ≤ (a + b) / 2 ∧ (a + b) / 2 + m ≤ symS a m b L + b := by
  unfold symS
  split
  · have := bs_in (t := symQ ((a + b) / 2 + m) L) ((a + b) / 2 - ((a + b) / 2 + m - b) + 1) ((a + b) / 2 + m - b) ((a + b) / 2) (by omega)
    omega
  · have := bs_in (t := symQ ((a + b) / 2 + m) L) (m - a + 1) a m (by omega)
    omega
theorem symF_perm : ∀ (f a m b : Nat) (L : List It), a < m → m < b → b ≤ L.length → (symF f a m b L).Perm L
  | 0, _, _, _, L, _, _, _ => List.Perm.refl L
  | f + 1, a, m, b, L, h1, h2, h3 => by
    unfold symF
    split
    · have := bs_in (t := fun h => ahead (at_ L h) (at_ L a)) (b - m + 1) m b (by omega)
      exact swU_perm _ _ _ (by omega)
    · split
      · have := bs_in (t := fun h => !ahead (at_ L m) (at_ L h)) (m - a + 1) a m (by omega)
        exact swD_perm _ _ _ (by omega)
      · have hs := symS_in a m b L h1 h2
        generalize symS a m b L = s at hs
        have p1 : ∀ {M : List It}, M.length = L.length → M.Perm L → (if a < s ∧ s < (a + b) / 2 then symF f a s ((a + b) / 2) M else M).Perm L ∧ (if a < s ∧ s < (a + b) / 2 then symF f a s ((a + b) / 2) M else M).length = L.length := by
          intro M hl hp
          split
          · exact ⟨(symF_perm f _ _ _ M (by omega) (by omega) (by omega)).trans hp, by rw [symF_length]; exact hl⟩
          · exact ⟨hp, hl⟩
        have p2 : ∀ {M : List It}, M.length = L.length → M.Perm L → (if (a + b) / 2 < (a + b) / 2 + m - s ∧ (a + b) / 2 + m - s < b then symF f ((a + b) / 2) ((a + b) / 2 + m - s) b M else M).Perm L := by
          intro M hl hp
          split
          · exact (symF_perm f _ _ _ M (by omega) (by omega) (by omega)).trans hp
          · exact hp
        have p0 : ∀ (c : Prop) [Decidable c], c → True := fun _ _ _ => trivial
        unfold symT
        simp only
        by_cases c : s < m ∧ m < (a + b) / 2 + m - s
        · rw [if_pos c]
          have q := p1 (M := rotF ((a + b) / 2 + m - s - s) m (m - s) ((a + b) / 2 + m - s - m) L) (rotF_length _ _ _ _ _) (rotF_perm _ _ _ _ _ (by omega) (by omega))
          exact p2 q.2 q.1
        · rw [if_neg c]
          have q := p1 (M := L) rfl (List.Perm.refl L)
          exact p2 q.2 q.1
theorem blkF_perm : ∀ (f k a n : Nat) (L : List It), a ≤ n → n ≤ L.length → 0 < k → (blkF f k a n L).Perm L
  | 0, _, _, _, L, _, _, _ => List.Perm.refl L
  | f + 1, k, a, n, L, h1, h2, h3 => by
    unfold blkF
    split
    · exact (blkF_perm f k (a + k) n _ (by omega) (by rw [insO_length]; exact h2) h3).trans (insO_perm _ _ _ _ (by omega))
    · rcases Nat.lt_or_ge a n with h | h
      · exact insO_perm _ _ _ _ (by omega)
      · rw [show n - (a + 1) = 0 by omega]; exact List.Perm.refl L
theorem mrgF_perm : ∀ (f k a n : Nat) (L : List It), n ≤ L.length → 0 < k → (mrgF f k a n L).Perm L
  | 0, _, _, _, L, _, _ => List.Perm.refl L
  | f + 1, k, a, n, L, h2, h3 => by
    unfold mrgF
    split
    · exact (mrgF_perm f k (a + 2 * k) n _ (by rw [symF_length]; exact h2) h3).trans (symF_perm _ _ _ _ _ (by omega) (by omega) (by omega))
    · split
      · exact symF_perm _ _ _ _ _ (by omega) (by omega) h2
      · exact List.Perm.refl L
theorem rndF_perm : ∀ (f k n : Nat) (L : List It), n ≤ L.length → 0 < k → (rndF f k n L).Perm L
  | 0, _, _, L, _, _ => List.Perm.refl L
  | f + 1, k, n, L, h2, h3 => by
    unfold rndF
    split
    · exact (rndF_perm f (2 * k) n _ (by rw [mrgF_length]; exact h2) (by omega)).trans (mrgF_perm _ _ _ _ _ h2 h3)
    · exact List.Perm.refl L
theorem stabF_perm (L : List It) : (stabF L).Perm L :=
  (rndF_perm _ _ _ _ (by rw [blkF_length]; exact Nat.le_refl _) (by omega)).trans (blkF_perm _ _ _ _ _ (Nat.zero_le _) (Nat.le_refl _) (by omega))
end Go.Proofs.YtbmejaailhjgfaaGreat
namespace Go.Proofs.YtbmejaailhjgfaaGreat
open Go.RowKit Go.Maps
set_option linter.unusedSimpArgs false
set_option maxRecDepth 100000

def upF : Nat → List It → Nat → List It
  | 0, L, _ => L
  | f + 1, L, j => if j = 0 then L else if ahead (at_ L j) (at_ L ((j - 1) / 2)) then upF f (swapL L ((j - 1) / 2) j) ((j - 1) / 2) else L
theorem upF_stop {f : Nat} {M : List It} {k : Nat} (hf : 0 < f) (hk : ¬ k = 0) (h : ahead (at_ M k) (at_ M ((k - 1) / 2)) = false) : upF f M k = M := by
  cases f with
  | zero => omega
  | succ f => simp [upF, hk, h]
theorem upF_go {f : Nat} {M : List It} {k : Nat} (hf : 0 < f) (hk : ¬ k = 0) (h : ahead (at_ M k) (at_ M ((k - 1) / 2)) = true) : upF f M k = upF (f - 1) (swapL M ((k - 1) / 2) k) ((k - 1) / 2) := by
  cases f with
  | zero => omega
  | succ f => simp [upF, hk, h]
theorem upF_zero (f : Nat) (M : List It) : upF f M 0 = M := by cases f <;> simp [upF]
set_option maxHeartbeats 4000000 in
theorem up_calls {F : Where} {w : World} {kb : Nat} {L : List It} (h : HK F w kb L) (hL : L.length < 1099511627776) (j : Nat) (hj : j < L.length) :
    Calls Tryz.prog 111 #[.iface 91 (.pointer (some ⟨kb, 0, none⟩)), .int .i64 (j : Int)] w fun e w' => e = .returned (.tuple #[]) ∧ HK F w' kb (upF (j + 1) L j) ∧ Turns F w w' := by
  have HH : Hid (HK F w kb L) := h
  clear h
  go_enter Tryz.func111, Tryz.ntmps111
  go_wp2_with fail
  go_loopw [1] (fun vj wr => ∃ (k f : Nat) (M : List It), vj = .int .i64 (k : Int) ∧ k < M.length ∧ M.length = L.length ∧ k < f ∧ HK F wr kb M ∧ Turns F w wr ∧ upF f M k = upF (j + 1) L j) (fun vj _ => (intOf vj).toNat)
  case atStart => exact ⟨j, j + 1, L, rfl, hj, rfl, by omega, HH.out, Turns.refl _ _, rfl⟩
  case round =>
    obtain ⟨k, f, M, rfl, hk, hM, hf, h1, h2, h3⟩ := hrel
    have HR : Hid (HK F wr kb M ∧ Turns F w wr ∧ upF f M k = upF (j + 1) L j) := ⟨h1, h2, h3⟩
    clear h1 h2 h3
    by_cases hk0 : k = 0
    · subst hk0
      go_wp2_with fail
      go_end0
      have := HR.out.2.2
      rw [upF_zero] at this
      exact ⟨rfl, this ▸ HR.out.1, HR.out.2.1⟩
    · obtain ⟨p, hp⟩ : ∃ p, p = (k - 1) / 2 := ⟨_, rfl⟩
      have hpk : p < k := by omega
      have hpe : ((k : Int) - 1).tdiv 2 = (p : Int) := by rw [Int.tdiv_eq_ediv_of_nonneg (by omega)]; omega
      have hpn : ¬ (p : Int) = (k : Int) := by omega
      have HP : Hid (p = (k - 1) / 2) := hp
      clear hp
      obtain ⟨r, mL, hLs⟩ := kLess HR.out.1
      have HL := hLs k p hk (by omega)
      clear hLs
      cases hah : ahead (at_ M k) (at_ M p) with
      | false =>
        have HHL : Hid (Calls Tryz.prog 141 #[r, .int .i64 (k : Int), .int .i64 (p : Int)] wr fun e w' => e = .returned (.bool false) ∧ Below wr.heap.size wr w') := by
          rw [hah] at HL; exact HL
        clear HL
        go_wp2_with (go_at_call 141; go_loud (refine HHL.out.mono ?_; rintro e w1 ⟨rfl, hb1⟩))
        go_end0
        have := HR.out.2.2
        rw [upF_stop (by omega) hk0 (by rw [← HP.out]; exact hah)] at this
        exact ⟨rfl, this ▸ HR.out.1.grow hb1, HR.out.2.1.trans (Turns.below hb1)⟩
      | true =>
        have HHL : Hid (Calls Tryz.prog 141 #[r, .int .i64 (k : Int), .int .i64 (p : Int)] wr fun e w' => e = .returned (.bool true) ∧ Below wr.heap.size wr w') := by
          rw [hah] at HL; exact HL
        clear HL
        have HSw : Hid (∀ w1, Below wr.heap.size wr w1 → Calls Tryz.prog 144 #[.pointer (some ⟨kb, 0, none⟩), .int .i64 (p : Int), .int .i64 (k : Int)] w1 fun e w' => e = .returned (.tuple #[]) ∧ HK F w' kb (swapL M p k) ∧ Turns F w1 w') := fun w1 hb1 => kSwap' (HR.out.1.grow hb1) (by omega) (i := p) (j := k) (by omega) hk (by omega)
        go_wp2_with (first | (go_at_call 141; refine HHL.out.mono ?_; rintro e w1 ⟨rfl, hb1⟩) | (go_at_call 144; refine (HSw.out _ hb1).mono ?_; rintro e w2 ⟨rfl, hk2, ht2⟩))
        go_roundw
        case measure => simp [intOf]; omega
        case rel => exact ⟨p, f - 1, swapL M p k, rfl, by rw [swapL_length]; omega, by rw [swapL_length]; exact hM, by omega, hk2, HR.out.2.1.trans ((Turns.below hb1).trans ht2), by rw [← HR.out.2.2, upF_go (by omega) hk0 (by rw [← HP.out]; exact hah), ← HP.out]⟩
end Go.Proofs.YtbmejaailhjgfaaGreat
namespace Go.Proofs.YtbmejaailhjgfaaGreat
open Go.RowKit Go.Maps
set_option linter.unusedSimpArgs false
set_option maxRecDepth 100000

/-- Which child is held against the parent. -/
def child (n : Nat) (L : List It) (i : Nat) : Nat := if 2 * i + 2 < n ∧ ahead (at_ L (2 * i + 2)) (at_ L (2 * i + 1)) = true then 2 * i + 2 else 2 * i + 1
def downF : Nat → Nat → List It → Nat → List It × Nat
  | 0, _, L, i => (L, i)
  | f + 1, n, L, i => if n ≤ 2 * i + 1 then (L, i) else if ahead (at_ L (child n L i)) (at_ L i) then downF f n (swapL L i (child n L i)) (child n L i) else (L, i)
theorem downF_end {f n : Nat} {M : List It} {k : Nat} (h : n ≤ 2 * k + 1) : downF f n M k = (M, k) := by
  cases f with
  | zero => rfl
  | succ f => simp [downF, h]
theorem downF_stop {f n c : Nat} {M : List It} {k : Nat} (hk : ¬ n ≤ 2 * k + 1) (hc : child n M k = c) (h : ahead (at_ M c) (at_ M k) = false) : downF f n M k = (M, k) := by
  cases f with
  | zero => rfl
  | succ f => simp [downF, hk, hc, h]
theorem downF_go {f n c : Nat} {M : List It} {k : Nat} (hf : 0 < f) (hk : ¬ n ≤ 2 * k + 1) (hc : child n M k = c) (h : ahead (at_ M c) (at_ M k) = true) : downF f n M k = downF (f - 1) n (swapL M k c) c := by
  cases f with
  | zero => omega
  | succ f => simp [downF, hk, hc, h]
theorem kLessH {F : Where} {w : World} {kb : Nat} {L : List It} (h : HK F w kb L) : ∃ r, Sem.run Tryz.prog (method 284 91 (.pointer (some ⟨kb, 0, none⟩)) "Less") w = .ok (141, r) w ∧
    Hid (∀ (i j : Nat) (b : Bool), i < L.length → j < L.length → ahead (at_ L i) (at_ L j) = b → Calls Tryz.prog 141 #[r, .int .i64 (i : Int), .int .i64 (j : Int)] w fun e w' => e = .returned (.bool b) ∧ Below w.heap.size w w') := by
  obtain ⟨r, h1, h2⟩ := kLess h
  exact ⟨r, h1, fun i j b hi hj e => e ▸ h2 i j hi hj⟩
set_option maxHeartbeats 4000000 in
theorem down_calls {F : Where} {w : World} {kb : Nat} {L : List It} (h : HK F w kb L) (hL : L.length < 1099511627776) (i n : Nat) (hi : i < 1099511627776) (hn : n ≤ L.length) :
    Calls Tryz.prog 112 #[.iface 91 (.pointer (some ⟨kb, 0, none⟩)), .int .i64 (i : Int), .int .i64 (n : Int)] w fun e w' => e = .returned (.bool (decide (i < (downF (n + 1) n L i).2))) ∧ HK F w' kb (downF (n + 1) n L i).1 ∧ Turns F w w' := by
  have HH : Hid (HK F w kb L) := h
  clear h
  go_enter Tryz.func112, Tryz.ntmps112
  go_wp2_with fail
  go_loopw [7] (fun vj wr => ∃ (k f : Nat) (M : List It), vj = .int .i64 (k : Int) ∧ k < 1099511627776 ∧ M.length = L.length ∧ n < k + f ∧ HK F wr kb M ∧ Turns F w wr ∧ downF f n M k = downF (n + 1) n L i) (fun vj _ => n - (intOf vj).toNat)
  case atStart => exact ⟨i, n + 1, L, rfl, hi, rfl, by omega, HH.out, Turns.refl _ _, rfl⟩
  case round =>
    obtain ⟨k, f, M, rfl, hk, hM, hf, h1, h2, h3⟩ := hrel
    have HR : Hid (HK F wr kb M ∧ Turns F w wr ∧ downF f n M k = downF (n + 1) n L i) := ⟨h1, h2, h3⟩
    clear h1 h2 h3 HH
    have hkk : (k : Int) < 1099511627776 := by omega
    obtain ⟨a, hA⟩ : ∃ a, a = 2 * k + 1 := ⟨_, rfl⟩
    obtain ⟨b, hB⟩ : ∃ b, b = a + 1 := ⟨_, rfl⟩
    have hae : 2 * (k : Int) + 1 = (a : Int) := by omega
    have hbe : (a : Int) + 1 = (b : Int) := by omega
    have HA : Hid (a = 2 * k + 1 ∧ b = 2 * k + 2) := ⟨hA, by omega⟩
    have haa : (a : Int) < 4398046511104 := by omega
    have ha0 : ¬ (a : Int) < 0 := by omega
    have OUT : ∀ (w' : World), n ≤ a ∨ (∃ c, child n M k = c ∧ ahead (at_ M c) (at_ M k) = false) → Below wr.heap.size wr w' → (decide (i < (downF (n + 1) n L i).2) = decide (i < k)) ∧ HK F w' kb (downF (n + 1) n L i).1 ∧ Turns F w w' := by
      intro w' hor hb
      have e1 : downF f n M k = (M, k) := by
        rcases hor with h | ⟨c, h1, h2⟩
        · exact downF_end (by omega)
        · by_cases hx : n ≤ 2 * k + 1
          · exact downF_end hx
          · exact downF_stop hx h1 h2
      have e2 := HR.out.2.2
      rw [e1] at e2
      rw [← e2]
      exact ⟨rfl, HR.out.1.grow hb, HR.out.2.1.trans (Turns.below hb)⟩
    have HO : Hid (∀ (w' : World), n ≤ a ∨ (∃ c, child n M k = c ∧ ahead (at_ M c) (at_ M k) = false) → Below wr.heap.size wr w' → (decide (i < (downF (n + 1) n L i).2) = decide (i < k)) ∧ HK F w' kb (downF (n + 1) n L i).1 ∧ Turns F w w') := OUT
    clear OUT hA hB
    by_cases hna : n ≤ a
    · have hna' : (n : Int) ≤ (a : Int) := by omega
      go_wp2_with fail
      go_ret
      obtain ⟨e1, e2, e3⟩ := HO.out wr (.inl hna) (Below.refl _ _)
      exact ⟨retb e1.symm, e2, e3⟩
    · have hna' : ¬ (n : Int) ≤ (a : Int) := by omega
      have hak : k < a := by have := HA.out; omega
      have hab : b = a + 1 := by omega
      have HB : Hid (b = a + 1) := hab
      clear hab
      obtain ⟨r, mL, hLs⟩ := kLessH HR.out.1
      by_cases hbn : b < n
      · have hbn' : (b : Int) < (n : Int) := by omega
        have hkb : k < b := by have := HA.out; omega
        cases hx : ahead (at_ M b) (at_ M a) with
        | true =>
          have HC : Hid (child n M k = b) := by
            have := HA.out
            show child n M k = b
            unfold child
            rw [← this.1, ← this.2, if_pos ⟨hbn, hx⟩]
          cases hah : ahead (at_ M b) (at_ M k) with
          | false =>
            have t1 : True := trivial
            go_wp2_with (first | (go_at_call 141; have _t := t1; refine (hLs.out b a true (by omega) (by omega) hx).mono ?_; rintro e w1 ⟨rfl, hb1⟩; clear t1; obtain ⟨r2, mL2, hL2⟩ := kLessH (HR.out.1.grow hb1)) | (go_at_call 141; refine (hL2.out b k false (by omega) (by omega) hah).mono ?_; rintro e w2 ⟨rfl, hb2⟩))
            go_ret
            obtain ⟨e1, e2, e3⟩ := HO.out _ (.inr ⟨_, HC.out, hah⟩) (on2 hb1 hb2)
            exact ⟨retb e1.symm, e2, e3⟩
          | true =>
            have t1 : True := trivial
            go_wp2_with (first | (go_at_call 141; have _t := t1; refine (hLs.out b a true (by omega) (by omega) hx).mono ?_; rintro e w1 ⟨rfl, hb1⟩; clear t1; obtain ⟨r2, mL2, hL2⟩ := kLessH (HR.out.1.grow hb1)) | (go_at_call 141; refine (hL2.out b k true (by omega) (by omega) hah).mono ?_; rintro e w2 ⟨rfl, hb2⟩) | (go_at_call 144; refine (kSwap' (HR.out.1.grow (on2 hb1 hb2)) (by omega) (i := k) (j := b) (by omega) (by omega) (by omega)).mono ?_; rintro e w3 ⟨rfl, hk3, ht3⟩))
            go_roundw
            case rel => exact ⟨b, f - 1, swapL M k b, rfl, by omega, by rw [swapL_length]; exact hM, by omega, hk3, HR.out.2.1.trans ((Turns.below (on2 hb1 hb2)).trans ht3), by rw [← HR.out.2.2, downF_go (by omega) (by have := HA.out; omega) HC.out hah]⟩
            case measure => simp [intOf]; omega
        | false =>
          have HC : Hid (child n M k = a) := by
            have := HA.out
            show child n M k = a
            unfold child
            rw [← this.1, ← this.2, if_neg (fun h => by rw [hx] at h; exact absurd h.2 (by simp))]
          cases hah : ahead (at_ M a) (at_ M k) with
          | false =>
            have t1 : True := trivial
            go_wp2_with (first | (go_at_call 141; have _t := t1; refine (hLs.out b a false (by omega) (by omega) hx).mono ?_; rintro e w1 ⟨rfl, hb1⟩; clear t1; obtain ⟨r2, mL2, hL2⟩ := kLessH (HR.out.1.grow hb1)) | (go_at_call 141; refine (hL2.out a k false (by omega) (by omega) hah).mono ?_; rintro e w2 ⟨rfl, hb2⟩))
            go_ret
            obtain ⟨e1, e2, e3⟩ := HO.out _ (.inr ⟨_, HC.out, hah⟩) (on2 hb1 hb2)
            exact ⟨retb e1.symm, e2, e3⟩
          | true =>
            have t1 : True := trivial
            go_wp2_with (first | (go_at_call 141; have _t := t1; refine (hLs.out b a false (by omega) (by omega) hx).mono ?_; rintro e w1 ⟨rfl, hb1⟩; clear t1; obtain ⟨r2, mL2, hL2⟩ := kLessH (HR.out.1.grow hb1)) | (go_at_call 141; refine (hL2.out a k true (by omega) (by omega) hah).mono ?_; rintro e w2 ⟨rfl, hb2⟩) | (go_at_call 144; refine (kSwap' (HR.out.1.grow (on2 hb1 hb2)) (by omega) (i := k) (j := a) (by omega) (by omega) (by omega)).mono ?_; rintro e w3 ⟨rfl, hk3, ht3⟩))
            go_roundw
            case rel => exact ⟨a, f - 1, swapL M k a, rfl, by omega, by rw [swapL_length]; exact hM, by omega, hk3, HR.out.2.1.trans ((Turns.below (on2 hb1 hb2)).trans ht3), by rw [← HR.out.2.2, downF_go (by omega) (by have := HA.out; omega) HC.out hah]⟩
            case measure => simp [intOf]; omega
      · have hbn' : ¬ (b : Int) < (n : Int) := by omega
        have HC : Hid (child n M k = a) := by
          have := HA.out
          show child n M k = a
          unfold child
          rw [← this.1, ← this.2, if_neg (fun h => hbn h.1)]
        cases hah : ahead (at_ M a) (at_ M k) with
        | false =>
          go_wp2_with (first | (go_at_call 141; refine (hLs.out a k false (by omega) (by omega) hah).mono ?_; rintro e w1 ⟨rfl, hb1⟩))
          go_ret
          obtain ⟨e1, e2, e3⟩ := HO.out _ (.inr ⟨_, HC.out, hah⟩) hb1
          exact ⟨retb e1.symm, e2, e3⟩
        | true =>
          go_wp2_with (first | (go_at_call 141; refine (hLs.out a k true (by omega) (by omega) hah).mono ?_; rintro e w1 ⟨rfl, hb1⟩) | (go_at_call 144; refine (kSwap' (HR.out.1.grow hb1) (by omega) (i := k) (j := a) (by omega) (by omega) (by omega)).mono ?_; rintro e w3 ⟨rfl, hk3, ht3⟩))
          go_roundw
          case rel => exact ⟨a, f - 1, swapL M k a, rfl, by omega, by rw [swapL_length]; exact hM, by omega, hk3, HR.out.2.1.trans ((Turns.below hb1).trans ht3), by rw [← HR.out.2.2, downF_go (by omega) (by have := HA.out; omega) HC.out hah]⟩
          case measure => simp [intOf]; omega
end Go.Proofs.YtbmejaailhjgfaaGreat
namespace Go.Proofs.YtbmejaailhjgfaaGreat
open Go.RowKit Go.Maps
set_option linter.unusedSimpArgs false
set_option maxRecDepth 100000

theorem upF_length : ∀ (f : Nat) (L : List It) (j : Nat), (upF f L j).length = L.length
  | 0, _, _ => rfl
  | f + 1, L, j => by
    unfold upF
    split
    · rfl
    · split
      · rw [upF_length, swapL_length]
      · rfl
theorem downF_length : ∀ (f n : Nat) (L : List It) (i : Nat), (downF f n L i).1.length = L.length
  | 0, _, _, _ => rfl
  | f + 1, n, L, i => by
    unfold downF
    split
    · rfl
    · split
      · rw [downF_length, swapL_length]
      · rfl
/-- The last entry. -/
def lastI (L : List It) : It := L.getLastD default
theorem snoc_of (L : List It) (h : 0 < L.length) : L = L.dropLast ++ [lastI L] := by
  cases L with
  | nil => simp at h
  | cons x L => simp [lastI, List.getLastD_eq_getLast?, List.getLast?_eq_some_getLast, List.dropLast_concat_getLast]
theorem kLenH {F : Where} {w : World} {kb : Nat} {L : List It} (h : HK F w kb L) : ∃ r, Sem.run Tryz.prog (method 284 91 (.pointer (some ⟨kb, 0, none⟩)) "Len") w = .ok (58, r) w ∧
    Hid (Calls Tryz.prog 58 #[r] w fun e w' => e = .returned (.int .i64 (L.length : Int)) ∧ Below w.heap.size w w') := kLen h
/-- What a new entry's laying makes of a list. -/
def pushL (L : List It) (y : It) : List It := upF (L.length + 1) (L ++ [y]) L.length
/-- An entry's place set right. -/
def fixL (n : Nat) (L : List It) (i : Nat) : List It := if i < (downF (n + 1) n L i).2 then (downF (n + 1) n L i).1 else upF (i + 1) (downF (n + 1) n L i).1 i
theorem fixL_length (n : Nat) (L : List It) (i : Nat) : (fixL n L i).length = L.length := by
  unfold fixL; split
  · rw [downF_length]
  · rw [upF_length, downF_length]
/-- The entry at place i is last. -/
def lastL (L : List It) (i : Nat) : List It := if L.length - 1 = i then L else fixL (L.length - 1) (swapL L i (L.length - 1)) i
theorem lastL_length (L : List It) (i : Nat) : (lastL L i).length = L.length := by
  unfold lastL; split
  · rfl
  · rw [fixL_length, swapL_length]
set_option maxHeartbeats 1000000 in
theorem hPush_calls {F : Where} {w : World} {kb : Nat} {L : List It} (h : HK F w kb L) (hF : ∀ b, w.heap.size ≤ b → F b) (hL : L.length < 1000000000000) (y : It) (hy : okI y) (hnew : ∀ x ∈ L, kl x ≠ kl y) :
    Calls Tryz.prog 94 #[.iface 91 (.pointer (some ⟨kb, 0, none⟩)), .iface 67 (vI y)] w fun e w' => e = .returned (.tuple #[]) ∧ HK F w' kb (pushL L y) ∧ Turns F w w' := by
  have H0 : Hid (HK F w kb L) := h
  clear h
  go_enter Tryz.func94, Tryz.ntmps94
  go_wp2_with (first
    | (go_at_call 143; refine (kPush H0.out hF (by omega) y hy hnew).mono ?_; rintro e w1 ⟨rfl, hk1, ht1⟩; have Hk1 : Hid (HK F w1 kb (L ++ [y])) := hk1; clear hk1; obtain ⟨r, mN, hN⟩ := kLenH Hk1.out)
    | (go_at_call 58; refine hN.out.mono ?_; rintro e w2 ⟨rfl, hb2⟩; have hll : (((L ++ [y]).length : Nat) : Int) - 1 = (L.length : Int) := (by simp))
    | (go_at_call 111; go_loud (refine (up_calls (Hk1.out.grow hb2) (by simp; omega) L.length (by simp)).mono ?_; rintro e w3 ⟨rfl, hk3, ht3⟩)))
  go_end0
  exact ⟨rfl, hk3, (ht1.trans (Turns.below hb2)).trans ht3⟩
/-- The last entry goes. -/
theorem kPop' {F : Where} {w : World} {kb : Nat} {L : List It} (h : HK F w kb L) (hL : L.length < 1099511627776) (h0 : 0 < L.length) :
    Calls Tryz.prog 142 #[.pointer (some ⟨kb, 0, none⟩)] w fun e w' => e = .returned (.iface 67 (vI (lastI L))) ∧ HK F w' kb L.dropLast ∧ Turns F w w' := by
  have e := snoc_of L h0
  rw [e] at h
  exact kPop h (by simp; omega)
set_option maxHeartbeats 2000000 in
theorem Remove_calls {F : Where} {w : World} {kb : Nat} {L : List It} (h : HK F w kb L) (hL : L.length < 1000000000000) (i : Nat) (hi : i < L.length) :
    Calls Tryz.prog 96 #[.iface 91 (.pointer (some ⟨kb, 0, none⟩)), .int .i64 (i : Int)] w fun e w' => e = .returned (.iface 67 (vI (lastI (lastL L i)))) ∧ HK F w' kb (lastL L i).dropLast ∧ Turns F w w' := by
  have H0 : Hid (HK F w kb L) := h
  clear h
  obtain ⟨r, mN, hN⟩ := kLenH H0.out
  obtain ⟨n, hn⟩ : ∃ n, n = L.length - 1 := ⟨_, rfl⟩
  have hne : (L.length : Int) - 1 = (n : Int) := by omega
  have HN : Hid (n = L.length - 1 ∧ n < L.length) := ⟨hn, by omega⟩
  clear hn
  by_cases hni : n = i
  · have HL : Hid (lastL L i = L) := by
      show lastL L i = L
      unfold lastL; rw [if_pos (by rw [← HN.out.1]; exact hni)]
    have hni' : (n : Int) = (i : Int) := by omega
    rw [HL.out]
    go_enter Tryz.func96, Tryz.ntmps96
    go_wp2_with (first
      | (go_at_call 58; refine hN.out.mono ?_; rintro e w1 ⟨rfl, hb1⟩)
      | (go_at_call 142; go_loud (refine (kPop' (H0.out.grow hb1) (by omega) (by omega)).mono ?_; rintro e w5 ⟨rfl, hk5, ht5⟩)))
    go_ret
    exact ⟨rfl, hk5, (Turns.below hb1).trans ht5⟩
  · have hni' : ¬ (n : Int) = (i : Int) := by omega
    have HL : Hid (lastL L i = fixL n (swapL L i n) i) := by
      show lastL L i = _
      unfold lastL; rw [← HN.out.1, if_neg hni]
    have hin : ¬ i = n := fun e => hni e.symm
    by_cases hd : i < (downF (n + 1) n (swapL L i n) i).2
    · have HX : Hid (lastL L i = (downF (n + 1) n (swapL L i n) i).1) := by
        show lastL L i = _
        rw [HL.out]; unfold fixL; rw [if_pos hd]
      have HD : Hid (∀ {u : World}, HK F u kb (swapL L i n) → Calls Tryz.prog 112 #[.iface 91 (.pointer (some ⟨kb, 0, none⟩)), .int .i64 (i : Int), .int .i64 (n : Int)] u fun e w' => e = .returned (.bool true) ∧ HK F w' kb (lastL L i) ∧ Turns F u w') := by
        intro u hu
        have := down_calls hu (by rw [swapL_length]; omega) i n (by omega) (by rw [swapL_length]; omega)
        rw [decide_eq_true hd, ← HX.out] at this
        exact this
      clear HX hd HL
      go_enter Tryz.func96, Tryz.ntmps96
      go_wp2_with (first
        | (go_at_call 58; refine hN.out.mono ?_; rintro e w1 ⟨rfl, hb1⟩)
        | (go_at_call 144; refine (kSwap' (H0.out.grow hb1) (by omega) hi HN.out.2 hin).mono ?_; rintro e w2 ⟨rfl, hk2, ht2⟩)
        | (go_at_call 112; refine (HD.out hk2).mono ?_; rintro e w3 ⟨rfl, hk3, ht3⟩)
        | (go_at_call 142; refine (kPop' hk3 (by rw [lastL_length]; omega) (by rw [lastL_length]; omega)).mono ?_; rintro e w5 ⟨rfl, hk5, ht5⟩))
      go_ret
      exact ⟨rfl, hk5, (((Turns.below hb1).trans ht2).trans ht3).trans ht5⟩
    · have HX : Hid (lastL L i = upF (i + 1) (downF (n + 1) n (swapL L i n) i).1 i) := by
        show lastL L i = _
        rw [HL.out]; unfold fixL; rw [if_neg hd]
      obtain ⟨M, hM⟩ : ∃ M, M = (downF (n + 1) n (swapL L i n) i).1 := ⟨_, rfl⟩
      have hMl : M.length = L.length := by rw [hM, downF_length, swapL_length]
      have HD : Hid (∀ {u : World}, HK F u kb (swapL L i n) → Calls Tryz.prog 112 #[.iface 91 (.pointer (some ⟨kb, 0, none⟩)), .int .i64 (i : Int), .int .i64 (n : Int)] u fun e w' => e = .returned (.bool false) ∧ HK F w' kb M ∧ Turns F u w') := by
        intro u hu
        have := down_calls hu (by rw [swapL_length]; omega) i n (by omega) (by rw [swapL_length]; omega)
        rw [decide_eq_false hd, ← hM] at this
        exact this
      have HU : Hid (∀ {u : World}, HK F u kb M → Calls Tryz.prog 111 #[.iface 91 (.pointer (some ⟨kb, 0, none⟩)), .int .i64 (i : Int)] u fun e w' => e = .returned (.tuple #[]) ∧ HK F w' kb (lastL L i) ∧ Turns F u w') := by
        intro u hu
        have := up_calls hu (by omega) i (by omega)
        rw [HX.out, ← hM]
        exact this
      clear HX hd HL hM
      go_enter Tryz.func96, Tryz.ntmps96
      go_wp2_with (first
        | (go_at_call 58; refine hN.out.mono ?_; rintro e w1 ⟨rfl, hb1⟩)
        | (go_at_call 144; refine (kSwap' (H0.out.grow hb1) (by omega) hi HN.out.2 hin).mono ?_; rintro e w2 ⟨rfl, hk2, ht2⟩)
        | (go_at_call 112; refine (HD.out hk2).mono ?_; rintro e w3 ⟨rfl, hk3, ht3⟩)
        | (go_at_call 111; refine (HU.out hk3).mono ?_; rintro e w4 ⟨rfl, hk4, ht4⟩)
        | (go_at_call 142; refine (kPop' hk4 (by rw [lastL_length]; omega) (by rw [lastL_length]; omega)).mono ?_; rintro e w5 ⟨rfl, hk5, ht5⟩))
      go_ret
      exact ⟨rfl, hk5, ((((Turns.below hb1).trans ht2).trans ht3).trans ht4).trans ht5⟩
set_option maxHeartbeats 2000000 in
theorem Fix_calls {F : Where} {w : World} {kb : Nat} {L : List It} (h : HK F w kb L) (hL : L.length < 1000000000000) (i : Nat) (hi : i < L.length) :
    Calls Tryz.prog 95 #[.iface 91 (.pointer (some ⟨kb, 0, none⟩)), .int .i64 (i : Int)] w fun e w' => e = .returned (.tuple #[]) ∧ HK F w' kb (fixL L.length L i) ∧ Turns F w w' := by
  have H0 : Hid (HK F w kb L) := h
  clear h
  obtain ⟨r, mN, hN⟩ := kLenH H0.out
  by_cases hd : i < (downF (L.length + 1) L.length L i).2
  · have HD : Hid (∀ {u : World}, Below w.heap.size w u → Calls Tryz.prog 112 #[.iface 91 (.pointer (some ⟨kb, 0, none⟩)), .int .i64 (i : Int), .int .i64 (L.length : Int)] u fun e w' => e = .returned (.bool true) ∧ HK F w' kb (fixL L.length L i) ∧ Turns F u w') := by
      intro u hu
      have := down_calls (H0.out.grow hu) (by omega) i L.length (by omega) (Nat.le_refl _)
      unfold fixL
      rw [decide_eq_true hd] at this
      rw [if_pos hd]
      exact this
    clear hd
    go_enter Tryz.func95, Tryz.ntmps95
    go_wp2_with (first
      | (go_at_call 58; refine hN.out.mono ?_; rintro e w1 ⟨rfl, hb1⟩)
      | (go_at_call 112; refine (HD.out hb1).mono ?_; rintro e w3 ⟨rfl, hk3, ht3⟩))
    go_end0
    exact ⟨rfl, hk3, (Turns.below hb1).trans ht3⟩
  · obtain ⟨M, hM⟩ : ∃ M, M = (downF (L.length + 1) L.length L i).1 := ⟨_, rfl⟩
    have hMl : M.length = L.length := by rw [hM, downF_length]
    have HD : Hid (∀ {u : World}, Below w.heap.size w u → Calls Tryz.prog 112 #[.iface 91 (.pointer (some ⟨kb, 0, none⟩)), .int .i64 (i : Int), .int .i64 (L.length : Int)] u fun e w' => e = .returned (.bool false) ∧ HK F w' kb M ∧ Turns F u w') := by
      intro u hu
      have := down_calls (H0.out.grow hu) (by omega) i L.length (by omega) (Nat.le_refl _)
      rw [decide_eq_false hd, ← hM] at this
      exact this
    have HU : Hid (∀ {u : World}, HK F u kb M → Calls Tryz.prog 111 #[.iface 91 (.pointer (some ⟨kb, 0, none⟩)), .int .i64 (i : Int)] u fun e w' => e = .returned (.tuple #[]) ∧ HK F w' kb (fixL L.length L i) ∧ Turns F u w') := by
      intro u hu
      have := up_calls hu (by omega) i (by omega)
      unfold fixL
      rw [if_neg hd, ← hM]
      exact this
    clear hd hM
    go_enter Tryz.func95, Tryz.ntmps95
    go_wp2_with (first
      | (go_at_call 58; refine hN.out.mono ?_; rintro e w1 ⟨rfl, hb1⟩)
      | (go_at_call 112; refine (HD.out hb1).mono ?_; rintro e w3 ⟨rfl, hk3, ht3⟩)
      | (go_at_call 111; refine (HU.out hk3).mono ?_; rintro e w4 ⟨rfl, hk4, ht4⟩))
    go_end0
    exact ⟨rfl, hk4, ((Turns.below hb1).trans ht3).trans ht4⟩
end Go.Proofs.YtbmejaailhjgfaaGreat
