/- The law's same: do two lists of changes tell the same versions and kinds? Condition: the lists lie as is said of them. -/
import Derived.Test.YtnlmipgmakmbiaaWLog
import Derived.Test.YtnlmipgmakmbiaaDSame
namespace Go.Proofs.Ytnlmipgmakmbiaa
open Go.RowKit
set_option linter.unusedSimpArgs false
set_option maxRecDepth 100000

set_option maxHeartbeats 8000000 in
theorem same_calls (a : Option Addr) (n cap : Nat) (A : Where) (L : List Ch) (b : Option Addr) (m capb : Nat) (A' : Where) (M : List Ch) (w : World) (hA : Hid (SlAt RCh 42 640 A w a n cap L)) (hB : Hid (SlAt RCh 42 640 A' w b m capb M)) : Calls Try.prog 15 #[.slice a n cap, .slice b m capb] w fun e w' => e = .returned (.bool (decide (L = M))) ∧ ∃ q, w' = w.drewN q := by
  have hn : Hid (L.length = n) := hA.out.1
  have hm : Hid (M.length = m) := hB.out.1
  have hlen := hA.out.len (by decide)
  by_cases hnm : n = m
  case neg =>
    have HF : Hid (decide (L = M) = false) := same_len (by rw [hn.out, hm.out]; exact hnm)
    have hne : ((n : Int) != (m : Int)) = true := by rw [bne_iff_ne]; omega
    go_enter Try.func15, Try.ntmps15
    go_wp2
    go_ret
    exact ⟨retB HF.out.symm, 0, rfl⟩
  subst hnm
  have hne : ((n : Int) != (n : Int)) = false := by simp
  go_enter Try.func15, Try.ntmps15
  go_wp2
  go_loopw [5] (fun i wr => ∃ k : Nat, k ≤ n ∧ i = .int .i64 k ∧ Hid (∃ q, wr = w.drewN q) ∧ Hid (∀ j, j < k → L.getD j default = M.getD j default)) (fun i _ => n - (intOf i).toNat)
  case atStart => exact ⟨0, Nat.zero_le _, rfl, ⟨0, rfl⟩, fun j hj => absurd hj (Nat.not_lt_zero _)⟩
  case round =>
    obtain ⟨k, hk, rfl, hwr, hall⟩ := hrel
    have hbel : Below w.heap.size w wr := by obtain ⟨q, rfl⟩ := hwr.out; exact below_drewN (Below.refl _ _) _
    have hback : Hid (∀ q, ∃ q', wr.drewN q = w.drewN q') := by obtain ⟨q0, rfl⟩ := hwr.out; exact fun q => ⟨_, World.drewN_drewN _ _ _⟩
    by_cases hlt : k < n
    · have hltz : (k : Int) < (n : Int) := by omega
      obtain ⟨B, off, rfl, hBl, _, cs, hra, hva⟩ := (hA.out.on RCh.firm hbel).get hlt
      obtain ⟨B', off', rfl, hBl', _, cs', hrb, hvb⟩ := (hB.out.on RCh.firm hbel).get hlt
      obtain rfl : cs = chC (L.getD k default).1 (L.getD k default).2 := hra
      obtain rfl : cs' = chC (M.getD k default).1 (M.getD k default).2 := hrb
      have d0 := hva 0 _ rfl
      have g0 := hvb 0 _ rfl
      have d1 := hva 1 _ rfl
      have g1 := hvb 1 _ rfl
      have d2 := hva 2 _ rfl
      have g2 := hvb 2 _ rfl
      rw [Nat.add_zero] at d0 g0
      have HG : Hid (L.getD k default = M.getD k default → ∀ j, j < k + 1 → L.getD j default = M.getD j default) := fun h j hj => by
        rcases Nat.lt_succ_iff_lt_or_eq.1 hj with h' | rfl
        · exact hall.out j h'
        · exact h
      have HF : Hid (¬ L.getD k default = M.getD k default → decide (L = M) = false) := fun h => same_no h
      clear hall hva hvb
      generalize L.getD k default = x at d0 d1 d2 HG HF
      generalize M.getD k default = y at g0 g1 g2 HG HF
      obtain ⟨x1, x2⟩ := x
      obtain ⟨y1, y2⟩ := y
      simp only at d0 d1 d2 g0 g1 g2
      by_cases h1 : x1 = y1
      · subst h1
        by_cases h2 : x2 = y2
        · subst h2
          have HG2 : Hid (∀ j, j < k + 1 → L.getD j default = M.getD j default) := HG.out rfl
          clear HG HF
          go_wp2_with fail
          go_quiet (fail)
          go_wp2_with fail
          go_roundw
          case rel => exact ⟨k + 1, by omega, by go_num, hback.out _, HG2⟩
          case measure => simp [intOf]; omega
        · have HF2 : Hid (decide (L = M) = false) := HF.out (fun e => h2 (congrArg Prod.snd e))
          have hd : (x2 != y2) = true := by rw [bne_iff_ne]; exact h2
          clear HG HF
          go_wp2_with fail
          go_quiet (fail)
          go_wp2_with fail
          go_ret
          exact ⟨retB HF2.out.symm, hback.out _⟩
      · have HF2 : Hid (decide (L = M) = false) := HF.out (fun e => h1 (congrArg Prod.fst e))
        have hd : (x1 != y1) = true := by rw [bne_iff_ne]; exact h1
        clear HG HF
        go_wp2_with fail
        go_quiet (fail)
        go_wp2_with fail
        go_ret
        exact ⟨retB HF2.out.symm, hback.out _⟩
    · have HT : Hid (decide (L = M) = true) := same_yes (by rw [hn.out, hm.out]) (fun j hj => hall.out j (by rw [hn.out] at hj; omega))
      have hltz : ¬ ((k : Int) < (n : Int)) := by omega
      clear hall
      go_wp2_with fail
      go_ret
      exact ⟨retB HT.out.symm, hwr.out⟩
end Go.Proofs.Ytnlmipgmakmbiaa
