/- base.SameTexts, SameInts, SameLabels, SameReqs, sameTerms tell whether two slices hold the same; they change nothing but the count of draws, and its like. No condition beyond what each says. -/
import Derived.Laws.StructEq
import Derived.Test.YtfbnnfpnjjjfcaaGreatS07
namespace Go.Proofs.YtfbnnfpnjjjfcaaGreat
set_option maxHeartbeats 16000000
set_option maxRecDepth 100000
open Tryz Go.RowKit
set_option linter.unusedSimpArgs false
theorem retB {a b : Bool} (h : a = b) : Ending.returned (.bool a) = .returned (.bool b) := by rw [h]
theorem same_len {α : Type} [DecidableEq α] {L M : List α} (h : L.length ≠ M.length) : decide (L = M) = false := by
 rw [decide_eq_false_iff_not]; intro e; exact h (by rw [e])
section
variable {α : Type} [Inhabited α] [DecidableEq α] {L M : List α}
theorem same_no {k : Nat} (h : L.getD k default ≠ M.getD k default) : decide (L = M) = false := by
 rw [decide_eq_false_iff_not]; intro e; exact h (by rw [e])
theorem same_yes (hl : L.length = M.length) (h : ∀ j, j < L.length → L.getD j default = M.getD j default) : decide (L = M) = true := by
 rw [decide_eq_true_iff]
 apply List.ext_getElem hl
 intro i h1 h2
 have := h i h1
 rwa [getE _ _ h1, getE _ _ h2] at this
end
theorem bne_of (a b : Int) : (a != b) = !(a == b) := rfl
theorem guardL : prog.eqGuardType prog.depth 173 = false := by kernel_rfl
theorem neqL (x y : Lab) (w : World) : Sem.run prog (binOp .neq 173 (.agg #[.string x.1, .string x.2]) (.agg #[.string y.1, .string y.2])) w = .ok (.bool (!(sEq x.1 y.1 && sEq x.2 y.2))) w := by
 have u9 := underlying9
 have a9 := Tryz.isAgg9
 have z9 := Tryz.sizeOf9
 have hS : prog.underlying 173 = some (.struct (prog.fieldsOf 173)) := by kernel_rfl
 have hp : prog.stoodInHeld 173 = false := by kernel_rfl
 rw [run_neq_struct, show (10000 : Nat) = 9999 + 1 from rfl, run_equalIn_agg w 9999 173 _ _ hS hp]
 simp only [Program.fieldsOf, underlying173]
 go_simp
 simp only [sEq]
 by_cases h1 : x.1.toList = y.1.toList <;> by_cases h2 : x.2.toList = y.2.toList <;> simp [h1, h2]
theorem lab_eq (x y : Lab) : (sEq x.1 y.1 && sEq x.2 y.2) = decide (x = y) := by
 rw [Bool.eq_iff_iff, Bool.and_eq_true, sEq_iff, sEq_iff, decide_eq_true_iff, Prod.ext_iff]
theorem ask_eq (x y : Ask) : decide (x = y) = (sEq x.1 y.1 && ((x.2.1 == y.2.1) && decide (x.2.2 = y.2.2))) := by
 rw [Bool.eq_iff_iff, Bool.and_eq_true, Bool.and_eq_true, sEq_iff, decide_eq_true_iff, decide_eq_true_iff, beq_iff_eq, Prod.ext_iff, Prod.ext_iff]
theorem term_eq (x y : TermD) : decide (x = y) = (sEq x.2 y.2 && decide (x.1 = y.1)) := by
 rw [Bool.eq_iff_iff, Bool.and_eq_true, sEq_iff, decide_eq_true_iff, decide_eq_true_iff, Prod.ext_iff, And.comm]
theorem SameTexts_calls (a : Option Addr) (n cap : Nat) (A : Where) (L : List (ByteArray)) (b : Option Addr) (m capb : Nat) (A' : Where) (M : List (ByteArray)) (w : World) (hA : Hid (SlAt RStr 1 16 A w a n cap L)) (hB : Hid (SlAt RStr 1 16 A' w b m capb M)) : Calls prog 67 #[.slice a n cap, .slice b m capb] w fun e w' => e = .returned (.bool (decide (L = M))) ∧ ∃ q, w' = w.drewN q := by
 have hn : Hid (L.length = n) := hA.out.1
 have hm : Hid (M.length = m) := hB.out.1
 have hlen := hA.out.len (by decide)
 by_cases hnm : n = m
 case neg =>
  have HF : Hid (decide (L = M) = false) := same_len (by rw [hn.out, hm.out]; exact hnm)
  have hne : ((n : Int) != (m : Int)) = true := by rw [bne_iff_ne]; omega
  go_enter func67, ntmps67
  go_wp2
  go_ret
  exact ⟨retB HF.out.symm, 0, rfl⟩
 subst hnm
 have hne : ((n : Int) != (n : Int)) = false := by simp
 go_enter func67, ntmps67
 go_wp2
 go_loopw [5] (fun i wr => ∃ k : Nat, k ≤ n ∧ i = .int .i64 k ∧ Hid (∃ q, wr = w.drewN q) ∧ Hid (∀ j, j < k → L.getD j default = M.getD j default)) (fun i _ => n - (intOf i).toNat)
 case atStart => exact ⟨0, Nat.zero_le _, rfl, ⟨0, rfl⟩, fun j hj => absurd hj (Nat.not_lt_zero _)⟩
 case round =>
  obtain ⟨k, hk, rfl, hwr, hall⟩ := hrel
  have hbel : Below w.heap.size w wr := by obtain ⟨q, rfl⟩ := hwr.out; exact below_drewN (Below.refl _ _) _
  have hback : Hid (∀ q, ∃ q', wr.drewN q = w.drewN q') := by obtain ⟨q0, rfl⟩ := hwr.out; exact fun q => ⟨_, World.drewN_drewN _ _ _⟩
  by_cases hlt : k < n
  ·
   have hltz : (k : Int) < (n : Int) := by omega
   obtain ⟨B, off, rfl, hBl, _, cs, hra, hva⟩ := (hA.out.on RStr.firm hbel).get hlt
   obtain ⟨B', off', rfl, hBl', _, cs', hrb, hvb⟩ := (hB.out.on RStr.firm hbel).get hlt
   obtain ⟨rfl, sa⟩ := hra
   obtain ⟨rfl, sb⟩ := hrb
   have d0 := hva 0 _ rfl
   have g0 := hvb 0 _ rfl
   rw [Nat.add_zero] at d0 g0
   rw [Nat.mul_one] at d0 g0
   have HG : Hid (decide (L.getD k default = M.getD k default) = true → ∀ j, j < k + 1 → L.getD j default = M.getD j default) := fun h j hj => by
    rcases Nat.lt_succ_iff_lt_or_eq.1 hj with h' | rfl
    ·
     exact hall.out j h'
    ·
     exact of_decide_eq_true h
   have HF : Hid (decide (L.getD k default = M.getD k default) = false → decide (L = M) = false) := fun h => same_no (of_decide_eq_false h)
   clear hall hva hvb
   have HE : (!((L.getD k default).toList == (M.getD k default).toList)) = !decide (L.getD k default = M.getD k default) := by rw [show ((L.getD k default).toList == (M.getD k default).toList) = decide (L.getD k default = M.getD k default) by rw [Bool.eq_iff_iff, decide_eq_true_iff]; exact sEq_iff _ _]
   generalize L.getD k default = x at d0 sa HE HG HF
   generalize M.getD k default = y at g0 sb HE HG HF
   cases hd : decide (x = y)
   ·
    have HF2 : Hid (decide (L = M) = false) := HF.out hd
    rw [hd] at HE
    clear HG HF hd
    go_wp2_with fail
    go_quiet (fail)
    go_wp2_with fail
    go_ret
    exact ⟨retB HF2.out.symm, hback.out _⟩
   ·
    have HG2 : Hid (∀ j, j < k + 1 → L.getD j default = M.getD j default) := HG.out hd
    rw [hd] at HE
    clear HG HF hd
    go_wp2_with fail
    go_quiet (fail)
    go_wp2_with fail
    go_roundw
    case rel => exact ⟨k + 1, by omega, by go_num, hback.out _, HG2⟩
    case measure => simp [intOf]; omega
  ·
   have HT : Hid (decide (L = M) = true) := same_yes (by rw [hn.out, hm.out]) (fun j hj => hall.out j (by rw [hn.out] at hj; omega))
   clear hall
   go_wp2
   go_ret
   exact ⟨retB HT.out.symm, hwr.out⟩
theorem SameInts_calls (a : Option Addr) (n cap : Nat) (A : Where) (L : List (Int)) (b : Option Addr) (m capb : Nat) (A' : Where) (M : List (Int)) (w : World) (hA : Hid (SlAt RInt 1 8 A w a n cap L)) (hB : Hid (SlAt RInt 1 8 A' w b m capb M)) : Calls prog 65 #[.slice a n cap, .slice b m capb] w fun e w' => e = .returned (.bool (decide (L = M))) ∧ ∃ q, w' = w.drewN q := by
 have hn : Hid (L.length = n) := hA.out.1
 have hm : Hid (M.length = m) := hB.out.1
 have hlen := hA.out.len (by decide)
 by_cases hnm : n = m
 case neg =>
  have HF : Hid (decide (L = M) = false) := same_len (by rw [hn.out, hm.out]; exact hnm)
  have hne : ((n : Int) != (m : Int)) = true := by rw [bne_iff_ne]; omega
  go_enter func65, ntmps65
  go_wp2
  go_ret
  exact ⟨retB HF.out.symm, 0, rfl⟩
 subst hnm
 have hne : ((n : Int) != (n : Int)) = false := by simp
 go_enter func65, ntmps65
 go_wp2
 go_loopw [5] (fun i wr => ∃ k : Nat, k ≤ n ∧ i = .int .i64 k ∧ Hid (∃ q, wr = w.drewN q) ∧ Hid (∀ j, j < k → L.getD j default = M.getD j default)) (fun i _ => n - (intOf i).toNat)
 case atStart => exact ⟨0, Nat.zero_le _, rfl, ⟨0, rfl⟩, fun j hj => absurd hj (Nat.not_lt_zero _)⟩
 case round =>
  obtain ⟨k, hk, rfl, hwr, hall⟩ := hrel
  have hbel : Below w.heap.size w wr := by obtain ⟨q, rfl⟩ := hwr.out; exact below_drewN (Below.refl _ _) _
  have hback : Hid (∀ q, ∃ q', wr.drewN q = w.drewN q') := by obtain ⟨q0, rfl⟩ := hwr.out; exact fun q => ⟨_, World.drewN_drewN _ _ _⟩
  by_cases hlt : k < n
  ·
   have hltz : (k : Int) < (n : Int) := by omega
   obtain ⟨B, off, rfl, hBl, _, cs, hra, hva⟩ := (hA.out.on RInt.firm hbel).get hlt
   obtain ⟨B', off', rfl, hBl', _, cs', hrb, hvb⟩ := (hB.out.on RInt.firm hbel).get hlt
   obtain rfl := hra
   obtain rfl := hrb
   have d0 := hva 0 _ rfl
   have g0 := hvb 0 _ rfl
   rw [Nat.add_zero] at d0 g0
   rw [Nat.mul_one] at d0 g0
   have HG : Hid (decide (L.getD k default = M.getD k default) = true → ∀ j, j < k + 1 → L.getD j default = M.getD j default) := fun h j hj => by
    rcases Nat.lt_succ_iff_lt_or_eq.1 hj with h' | rfl
    ·
     exact hall.out j h'
    ·
     exact of_decide_eq_true h
   have HF : Hid (decide (L.getD k default = M.getD k default) = false → decide (L = M) = false) := fun h => same_no (of_decide_eq_false h)
   clear hall hva hvb
   have HE : (L.getD k default != M.getD k default) = !decide (L.getD k default = M.getD k default) := by rw [bne_of, show (L.getD k default == M.getD k default) = decide (L.getD k default = M.getD k default) by rw [Bool.eq_iff_iff, decide_eq_true_iff, beq_iff_eq]]
   generalize L.getD k default = x at d0 HE HG HF
   generalize M.getD k default = y at g0 HE HG HF
   cases hd : decide (x = y)
   ·
    have HF2 : Hid (decide (L = M) = false) := HF.out hd
    rw [hd] at HE
    clear HG HF hd
    go_wp2_with fail
    go_quiet (fail)
    go_wp2_with fail
    go_ret
    exact ⟨retB HF2.out.symm, hback.out _⟩
   ·
    have HG2 : Hid (∀ j, j < k + 1 → L.getD j default = M.getD j default) := HG.out hd
    rw [hd] at HE
    clear HG HF hd
    go_wp2_with fail
    go_quiet (fail)
    go_wp2_with fail
    go_roundw
    case rel => exact ⟨k + 1, by omega, by go_num, hback.out _, HG2⟩
    case measure => simp [intOf]; omega
  ·
   have HT : Hid (decide (L = M) = true) := same_yes (by rw [hn.out, hm.out]) (fun j hj => hall.out j (by rw [hn.out] at hj; omega))
   clear hall
   go_wp2
   go_ret
   exact ⟨retB HT.out.symm, hwr.out⟩
theorem SameLabels_calls (a : Option Addr) (n cap : Nat) (A : Where) (L : List (Lab)) (b : Option Addr) (m capb : Nat) (A' : Where) (M : List (Lab)) (w : World) (hA : Hid (SlAt RLabel 2 32 A w a n cap L)) (hB : Hid (SlAt RLabel 2 32 A' w b m capb M)) : Calls prog 63 #[.slice a n cap, .slice b m capb] w fun e w' => e = .returned (.bool (decide (L = M))) ∧ ∃ q, w' = w.drewN q := by
 have hn : Hid (L.length = n) := hA.out.1
 have hm : Hid (M.length = m) := hB.out.1
 have hlen := hA.out.len (by decide)
 by_cases hnm : n = m
 case neg =>
  have HF : Hid (decide (L = M) = false) := same_len (by rw [hn.out, hm.out]; exact hnm)
  have hne : ((n : Int) != (m : Int)) = true := by rw [bne_iff_ne]; omega
  go_enter func63, ntmps63
  go_wp2
  go_ret
  exact ⟨retB HF.out.symm, 0, rfl⟩
 subst hnm
 have hne : ((n : Int) != (n : Int)) = false := by simp
 go_enter func63, ntmps63
 go_wp2
 go_loopw [5] (fun i wr => ∃ k : Nat, k ≤ n ∧ i = .int .i64 k ∧ Hid (∃ q, wr = w.drewN q) ∧ Hid (∀ j, j < k → L.getD j default = M.getD j default)) (fun i _ => n - (intOf i).toNat)
 case atStart => exact ⟨0, Nat.zero_le _, rfl, ⟨0, rfl⟩, fun j hj => absurd hj (Nat.not_lt_zero _)⟩
 case round =>
  obtain ⟨k, hk, rfl, hwr, hall⟩ := hrel
  have hbel : Below w.heap.size w wr := by obtain ⟨q, rfl⟩ := hwr.out; exact below_drewN (Below.refl _ _) _
  have hback : Hid (∀ q, ∃ q', wr.drewN q = w.drewN q') := by obtain ⟨q0, rfl⟩ := hwr.out; exact fun q => ⟨_, World.drewN_drewN _ _ _⟩
  by_cases hlt : k < n
  ·
   have hltz : (k : Int) < (n : Int) := by omega
   obtain ⟨B, off, rfl, hBl, _, cs, hra, hva⟩ := (hA.out.on RLabel.firm hbel).get hlt
   obtain ⟨B', off', rfl, hBl', _, cs', hrb, hvb⟩ := (hB.out.on RLabel.firm hbel).get hlt
   obtain ⟨rfl, _, _⟩ := hra.out
   obtain ⟨rfl, _, _⟩ := hrb.out
   have d0 := hva 0 _ rfl
   have g0 := hvb 0 _ rfl
   have d1 := hva 1 _ rfl
   have g1 := hvb 1 _ rfl
   rw [Nat.add_zero] at d0 g0
   have HG : Hid (decide (L.getD k default = M.getD k default) = true → ∀ j, j < k + 1 → L.getD j default = M.getD j default) := fun h j hj => by
    rcases Nat.lt_succ_iff_lt_or_eq.1 hj with h' | rfl
    ·
     exact hall.out j h'
    ·
     exact of_decide_eq_true h
   have HF : Hid (decide (L.getD k default = M.getD k default) = false → decide (L = M) = false) := fun h => same_no (of_decide_eq_false h)
   clear hall hva hvb
   have HE : ∀ w, Sem.run prog (binOp .neq 173 (.agg #[.string (L.getD k default).1, .string (L.getD k default).2]) (.agg #[.string (M.getD k default).1, .string (M.getD k default).2])) w = .ok (.bool (!decide (L.getD k default = M.getD k default))) w := fun w => by rw [neqL, lab_eq]
   have hgd := guardL
   generalize L.getD k default = x at d0 d1 HE HG HF
   generalize M.getD k default = y at g0 g1 HE HG HF
   cases hd : decide (x = y)
   ·
    have HF2 : Hid (decide (L = M) = false) := HF.out hd
    rw [hd] at HE
    clear HG HF hd
    go_wp2_with fail
    go_quiet (fail)
    go_wp2_with fail
    go_ret
    exact ⟨retB HF2.out.symm, hback.out _⟩
   ·
    have HG2 : Hid (∀ j, j < k + 1 → L.getD j default = M.getD j default) := HG.out hd
    rw [hd] at HE
    clear HG HF hd
    go_wp2_with fail
    go_quiet (fail)
    go_wp2_with fail
    go_roundw
    case rel => exact ⟨k + 1, by omega, by go_num, hback.out _, HG2⟩
    case measure => simp [intOf]; omega
  ·
   have HT : Hid (decide (L = M) = true) := same_yes (by rw [hn.out, hm.out]) (fun j hj => hall.out j (by rw [hn.out] at hj; omega))
   clear hall
   go_wp2
   go_ret
   exact ⟨retB HT.out.symm, hwr.out⟩
theorem SameReqs_calls (a : Option Addr) (n cap : Nat) (A : Where) (L : List (Ask)) (b : Option Addr) (m capb : Nat) (A' : Where) (M : List (Ask)) (w : World) (hA : Hid (SlAt RReq 3 48 A w a n cap L)) (hB : Hid (SlAt RReq 3 48 A' w b m capb M)) : Calls prog 64 #[.slice a n cap, .slice b m capb] w fun e w' => e = .returned (.bool (decide (L = M))) ∧ ∃ q, w' = w.drewN q := by
 have hn : Hid (L.length = n) := hA.out.1
 have hm : Hid (M.length = m) := hB.out.1
 have hlen := hA.out.len (by decide)
 by_cases hnm : n = m
 case neg =>
  have HF : Hid (decide (L = M) = false) := same_len (by rw [hn.out, hm.out]; exact hnm)
  have hne : ((n : Int) != (m : Int)) = true := by rw [bne_iff_ne]; omega
  go_enter func64, ntmps64
  go_wp2
  go_ret
  exact ⟨retB HF.out.symm, 0, rfl⟩
 subst hnm
 have hne : ((n : Int) != (n : Int)) = false := by simp
 go_enter func64, ntmps64
 go_wp2
 go_loopw [5] (fun i wr => ∃ k : Nat, k ≤ n ∧ i = .int .i64 k ∧ Hid (∃ q, wr = w.drewN q) ∧ Hid (∀ j, j < k → L.getD j default = M.getD j default)) (fun i _ => n - (intOf i).toNat)
 case atStart => exact ⟨0, Nat.zero_le _, rfl, ⟨0, rfl⟩, fun j hj => absurd hj (Nat.not_lt_zero _)⟩
 case round =>
  obtain ⟨k, hk, rfl, hwr, hall⟩ := hrel
  have hbel : Below w.heap.size w wr := by obtain ⟨q, rfl⟩ := hwr.out; exact below_drewN (Below.refl _ _) _
  have hback : Hid (∀ q, ∃ q', wr.drewN q = w.drewN q') := by obtain ⟨q0, rfl⟩ := hwr.out; exact fun q => ⟨_, World.drewN_drewN _ _ _⟩
  by_cases hlt : k < n
  ·
   have hltz : (k : Int) < (n : Int) := by omega
   obtain ⟨B, off, rfl, hBl, _, cs, hra, hva⟩ := (hA.out.on RReq.firm hbel).get hlt
   obtain ⟨B', off', rfl, hBl', _, cs', hrb, hvb⟩ := (hB.out.on RReq.firm hbel).get hlt
   obtain ⟨ha, rfl, _, hTa⟩ := hra.out
   obtain ⟨hb, rfl, _, hTb⟩ := hrb.out
   have d0 := hva 0 _ rfl
   have g0 := hvb 0 _ rfl
   have d1 := hva 1 _ rfl
   have g1 := hvb 1 _ rfl
   have d2 := hva 2 _ rfl
   have g2 := hvb 2 _ rfl
   rw [Nat.add_zero] at d0 g0
   have HG : Hid (decide (L.getD k default = M.getD k default) = true → ∀ j, j < k + 1 → L.getD j default = M.getD j default) := fun h j hj => by
    rcases Nat.lt_succ_iff_lt_or_eq.1 hj with h' | rfl
    ·
     exact hall.out j h'
    ·
     exact of_decide_eq_true h
   have HF : Hid (decide (L.getD k default = M.getD k default) = false → decide (L = M) = false) := fun h => same_no (of_decide_eq_false h)
   clear hall hva hvb
   have HM0 : Hid (∀ m, Calls prog 67 #[J ha, J hb] (wr.drewN m) fun e w' => e = .returned (.bool (decide ((L.getD k default).2.2 = (M.getD k default).2.2))) ∧ ∃ q, w' = (wr.drewN m).drewN q) := fun m => SameTexts_calls _ _ _ A _ _ _ _ A' _ _ (hTa.on RStr.firm (below_drewN (Below.refl _ _) _)) (hTb.on RStr.firm (below_drewN (Below.refl _ _) _))
   clear hTa hTb
   have HE := ask_eq (L.getD k default) (M.getD k default)
   generalize L.getD k default = x at d0 d1 d2 HE HG HF HM0
   generalize M.getD k default = y at g0 g1 g2 HE HG HF HM0
   obtain ⟨r, hr⟩ : ∃ r, decide (x.2.2 = y.2.2) = r := ⟨_, rfl⟩
   rw [hr] at HE
   have HM : Hid (∀ m, Calls prog 67 #[J ha, J hb] (wr.drewN m) fun e w' => e = .returned (.bool r) ∧ ∃ q, w' = (wr.drewN m).drewN q) := by rw [← hr]; exact HM0
   clear HM0 hr
   obtain ⟨p, hp⟩ : ∃ p : Bool, (sEq x.1 y.1) = p := ⟨_, rfl⟩
   rw [hp] at HE
   have kp : (!(x.1.toList == y.1.toList)) = !p := by rw [← hp]; rfl
   clear hp
   obtain ⟨q, hq⟩ : ∃ q : Bool, (x.2.1 == y.2.1) = q := ⟨_, rfl⟩
   rw [hq] at HE
   have kq : (x.2.1 != y.2.1) = !q := by rw [← hq]; rfl
   clear hq
   cases p
   ·
    have HX : Hid (decide (x = y) = false) := HE.trans rfl
    have HF2 : Hid (decide (L = M) = false) := HF.out HX.out
    clear HG HF HX HE
    simp only [Bool.not_true, Bool.not_false] at kp kq
    go_wp2_with fail
    go_quiet ((go_at_call 67; exact Calls.quiet_of (HM.out _)))
    go_wp2_with fail
    go_ret
    exact ⟨retB HF2.out.symm, hback.out _⟩
   ·
    skip
    cases q
    ·
     have HX : Hid (decide (x = y) = false) := HE.trans rfl
     have HF2 : Hid (decide (L = M) = false) := HF.out HX.out
     clear HG HF HX HE
     simp only [Bool.not_true, Bool.not_false] at kp kq
     go_wp2_with fail
     go_quiet ((go_at_call 67; exact Calls.quiet_of (HM.out _)))
     go_wp2_with fail
     go_ret
     exact ⟨retB HF2.out.symm, hback.out _⟩
    ·
     skip
     cases r
     ·
      have HX : Hid (decide (x = y) = false) := HE.trans rfl
      have HF2 : Hid (decide (L = M) = false) := HF.out HX.out
      clear HG HF HX HE
      simp only [Bool.not_true, Bool.not_false] at kp kq
      go_wp2_with fail
      go_quiet ((go_at_call 67; exact Calls.quiet_of (HM.out _)))
      go_wp2_with fail
      go_ret
      exact ⟨retB HF2.out.symm, hback.out _⟩
     ·
      have HX : Hid (decide (x = y) = true) := HE.trans rfl
      have HG2 : Hid (∀ j, j < k + 1 → L.getD j default = M.getD j default) := HG.out HX.out
      clear HG HF HX HE
      simp only [Bool.not_true, Bool.not_false] at kp kq
      go_wp2_with fail
      go_quiet ((go_at_call 67; exact Calls.quiet_of (HM.out _)))
      go_wp2_with fail
      go_roundw
      case rel => exact ⟨k + 1, by omega, by go_num, hback.out _, HG2⟩
      case measure => simp [intOf]; omega
  ·
   have HT : Hid (decide (L = M) = true) := same_yes (by rw [hn.out, hm.out]) (fun j hj => hall.out j (by rw [hn.out] at hj; omega))
   clear hall
   go_wp2
   go_ret
   exact ⟨retB HT.out.symm, hwr.out⟩
theorem sameTerms_calls (a : Option Addr) (n cap : Nat) (A : Where) (L : List (TermD)) (b : Option Addr) (m capb : Nat) (A' : Where) (M : List (TermD)) (w : World) (hA : Hid (SlAt RTerm 2 40 A w a n cap L)) (hB : Hid (SlAt RTerm 2 40 A' w b m capb M)) : Calls prog 66 #[.slice a n cap, .slice b m capb] w fun e w' => e = .returned (.bool (decide (L = M))) ∧ ∃ q, w' = w.drewN q := by
 have hn : Hid (L.length = n) := hA.out.1
 have hm : Hid (M.length = m) := hB.out.1
 have hlen := hA.out.len (by decide)
 by_cases hnm : n = m
 case neg =>
  have HF : Hid (decide (L = M) = false) := same_len (by rw [hn.out, hm.out]; exact hnm)
  have hne : ((n : Int) != (m : Int)) = true := by rw [bne_iff_ne]; omega
  go_enter func66, ntmps66
  go_wp2
  go_ret
  exact ⟨retB HF.out.symm, 0, rfl⟩
 subst hnm
 have hne : ((n : Int) != (n : Int)) = false := by simp
 go_enter func66, ntmps66
 go_wp2
 go_loopw [5] (fun i wr => ∃ k : Nat, k ≤ n ∧ i = .int .i64 k ∧ Hid (∃ q, wr = w.drewN q) ∧ Hid (∀ j, j < k → L.getD j default = M.getD j default)) (fun i _ => n - (intOf i).toNat)
 case atStart => exact ⟨0, Nat.zero_le _, rfl, ⟨0, rfl⟩, fun j hj => absurd hj (Nat.not_lt_zero _)⟩
 case round =>
  obtain ⟨k, hk, rfl, hwr, hall⟩ := hrel
  have hbel : Below w.heap.size w wr := by obtain ⟨q, rfl⟩ := hwr.out; exact below_drewN (Below.refl _ _) _
  have hback : Hid (∀ q, ∃ q', wr.drewN q = w.drewN q') := by obtain ⟨q0, rfl⟩ := hwr.out; exact fun q => ⟨_, World.drewN_drewN _ _ _⟩
  by_cases hlt : k < n
  ·
   have hltz : (k : Int) < (n : Int) := by omega
   obtain ⟨B, off, rfl, hBl, _, cs, hra, hva⟩ := (hA.out.on RTerm.firm hbel).get hlt
   obtain ⟨B', off', rfl, hBl', _, cs', hrb, hvb⟩ := (hB.out.on RTerm.firm hbel).get hlt
   obtain ⟨ha, rfl, hTa, _⟩ := hra.out
   obtain ⟨hb, rfl, hTb, _⟩ := hrb.out
   have d0 := hva 0 _ rfl
   have g0 := hvb 0 _ rfl
   have d1 := hva 1 _ rfl
   have g1 := hvb 1 _ rfl
   rw [Nat.add_zero] at d0 g0
   have HG : Hid (decide (L.getD k default = M.getD k default) = true → ∀ j, j < k + 1 → L.getD j default = M.getD j default) := fun h j hj => by
    rcases Nat.lt_succ_iff_lt_or_eq.1 hj with h' | rfl
    ·
     exact hall.out j h'
    ·
     exact of_decide_eq_true h
   have HF : Hid (decide (L.getD k default = M.getD k default) = false → decide (L = M) = false) := fun h => same_no (of_decide_eq_false h)
   clear hall hva hvb
   have HM0 : Hid (∀ m, Calls prog 64 #[J ha, J hb] (wr.drewN m) fun e w' => e = .returned (.bool (decide ((L.getD k default).1 = (M.getD k default).1))) ∧ ∃ q, w' = (wr.drewN m).drewN q) := fun m => SameReqs_calls _ _ _ A _ _ _ _ A' _ _ (hTa.on RReq.firm (below_drewN (Below.refl _ _) _)) (hTb.on RReq.firm (below_drewN (Below.refl _ _) _))
   clear hTa hTb
   have HE := term_eq (L.getD k default) (M.getD k default)
   generalize L.getD k default = x at d0 d1 HE HG HF HM0
   generalize M.getD k default = y at g0 g1 HE HG HF HM0
   obtain ⟨r, hr⟩ : ∃ r, decide (x.1 = y.1) = r := ⟨_, rfl⟩
   rw [hr] at HE
   have HM : Hid (∀ m, Calls prog 64 #[J ha, J hb] (wr.drewN m) fun e w' => e = .returned (.bool r) ∧ ∃ q, w' = (wr.drewN m).drewN q) := by rw [← hr]; exact HM0
   clear HM0 hr
   obtain ⟨p, hp⟩ : ∃ p : Bool, (sEq x.2 y.2) = p := ⟨_, rfl⟩
   rw [hp] at HE
   have kp : (!(x.2.toList == y.2.toList)) = !p := by rw [← hp]; rfl
   clear hp
   cases p
   ·
    have HX : Hid (decide (x = y) = false) := HE.trans rfl
    have HF2 : Hid (decide (L = M) = false) := HF.out HX.out
    clear HG HF HX HE
    simp only [Bool.not_true, Bool.not_false] at kp
    go_wp2_with fail
    go_quiet ((go_at_call 64; exact Calls.quiet_of (HM.out _)))
    go_wp2_with fail
    go_ret
    exact ⟨retB HF2.out.symm, hback.out _⟩
   ·
    skip
    cases r
    ·
     have HX : Hid (decide (x = y) = false) := HE.trans rfl
     have HF2 : Hid (decide (L = M) = false) := HF.out HX.out
     clear HG HF HX HE
     simp only [Bool.not_true, Bool.not_false] at kp
     go_wp2_with fail
     go_quiet ((go_at_call 64; exact Calls.quiet_of (HM.out _)))
     go_wp2_with fail
     go_ret
     exact ⟨retB HF2.out.symm, hback.out _⟩
    ·
     have HX : Hid (decide (x = y) = true) := HE.trans rfl
     have HG2 : Hid (∀ j, j < k + 1 → L.getD j default = M.getD j default) := HG.out HX.out
     clear HG HF HX HE
     simp only [Bool.not_true, Bool.not_false] at kp
     go_wp2_with fail
     go_quiet ((go_at_call 64; exact Calls.quiet_of (HM.out _)))
     go_wp2_with fail
     go_roundw
     case rel => exact ⟨k + 1, by omega, by go_num, hback.out _, HG2⟩
     case measure => simp [intOf]; omega
  ·
   have HT : Hid (decide (L = M) = true) := same_yes (by rw [hn.out, hm.out]) (fun j hj => hall.out j (by rw [hn.out] at hj; omega))
   clear hall
   go_wp2
   go_ret
   exact ⟨retB HT.out.symm, hwr.out⟩
def TellsEq {α : Type} (e : Ending) (x y : α) : Prop := ∃ r, e = .returned (.bool r) ∧ (r = true ↔ x = y)
theorem tells {α : Type} {x y : α} {r : Bool} (h : r = true ↔ x = y) : TellsEq (.returned (.bool r)) x y := ⟨r, rfl, h⟩
theorem SameVolume_calls (cs ds : List Value) (A A' : Where) (x y : VolumeD) (w : World) (h : Hid (RVolume A w cs x)) (h' : Hid (RVolume A' w ds y)) : Calls prog 43 #[.agg cs.toArray, .agg ds.toArray] w fun e w' => TellsEq e x y ∧ Below w.heap.size w w' := by
 obtain ⟨h3, rfl, _, _, hX, _⟩ := h.out.out
 obtain ⟨g3, rfl, _, _, hY, _⟩ := h'.out.out
 have hb0 : Below w.heap.size w ((w.alloc (.cells #[.string x.1, .int .i64 x.2.1, .string x.2.2.1, J h3, .string x.2.2.2.2] 38)).alloc (.cells #[.string y.1, .int .i64 y.2.1, .string y.2.2.1, J g3, .string y.2.2.2.2] 38)) := by go_grown
 have HC0 := SameReqs_calls h3.1 h3.2.1 h3.2.2 A x.2.2.2.1 g3.1 g3.2.1 g3.2.2 A' y.2.2.2.1 ((w.alloc (.cells #[.string x.1, .int .i64 x.2.1, .string x.2.2.1, J h3, .string x.2.2.2.2] 38)).alloc (.cells #[.string y.1, .int .i64 y.2.1, .string y.2.2.1, J g3, .string y.2.2.2.2] 38)) (SlAt.on RReq.firm hX hb0) (SlAt.on RReq.firm hY hb0)
 clear h h' hX hY
 obtain ⟨r, hr⟩ : ∃ r, decide (x.2.2.2.1 = y.2.2.2.1) = r := ⟨_, rfl⟩
 rw [hr] at HC0
 have HR : Hid (r = true ↔ x.2.2.2.1 = y.2.2.2.1) := by rw [Hid, ← hr]; exact decide_eq_true_iff
 clear hr
 obtain ⟨q0, hq0⟩ : ∃ q0 : Bool, (x.1.toList == y.1.toList) = q0 := ⟨_, rfl⟩
 have Nq0 : Hid (x = y → q0 = true) := fun e => by subst e; rw [← hq0]; exact beq_self_eq_true _
 have Mq0 : Hid (q0 = true → x.1 = y.1) := fun e => (sEq_iff _ _).1 (hq0.trans e)
 obtain ⟨q1, hq1⟩ : ∃ q1 : Bool, (x.2.1 == y.2.1) = q1 := ⟨_, rfl⟩
 have Nq1 : Hid (x = y → q1 = true) := fun e => by subst e; rw [← hq1]; exact beq_self_eq_true _
 have Mq1 : Hid (q1 = true → x.2.1 = y.2.1) := fun e => beq_iff_eq.1 (hq1.trans e)
 obtain ⟨q2, hq2⟩ : ∃ q2 : Bool, (x.2.2.1.toList == y.2.2.1.toList) = q2 := ⟨_, rfl⟩
 have Nq2 : Hid (x = y → q2 = true) := fun e => by subst e; rw [← hq2]; exact beq_self_eq_true _
 have Mq2 : Hid (q2 = true → x.2.2.1 = y.2.2.1) := fun e => (sEq_iff _ _).1 (hq2.trans e)
 obtain ⟨q3, hq3⟩ : ∃ q3 : Bool, (x.2.2.2.2.toList == y.2.2.2.2.toList) = q3 := ⟨_, rfl⟩
 have Nq3 : Hid (x = y → q3 = true) := fun e => by subst e; rw [← hq3]; exact beq_self_eq_true _
 have Mq3 : Hid (q3 = true → x.2.2.2.2 = y.2.2.2.2) := fun e => (sEq_iff _ _).1 (hq3.trans e)
 cases q0
 ·
  have HN : Hid ((false = true) ↔ x = y) := ⟨(fun h => by cases h), fun e => absurd (Nq0.out e) (by decide)⟩
  go_enter func43, ntmps43
  go_wp2_with fail
  go_ret
  exact ⟨tells HN.out, hb0⟩
 ·
  skip
  cases q1
  ·
   have HN : Hid ((false = true) ↔ x = y) := ⟨(fun h => by cases h), fun e => absurd (Nq1.out e) (by decide)⟩
   go_enter func43, ntmps43
   go_wp2_with fail
   go_ret
   exact ⟨tells HN.out, hb0⟩
  ·
   skip
   cases q2
   ·
    have HN : Hid ((false = true) ↔ x = y) := ⟨(fun h => by cases h), fun e => absurd (Nq2.out e) (by decide)⟩
    go_enter func43, ntmps43
    go_wp2_with fail
    go_ret
    exact ⟨tells HN.out, hb0⟩
   ·
    skip
    cases q3
    ·
     have HN : Hid ((false = true) ↔ x = y) := ⟨(fun h => by cases h), fun e => absurd (Nq3.out e) (by decide)⟩
     go_enter func43, ntmps43
     go_wp2_with fail
     go_ret
     exact ⟨tells HN.out, hb0⟩
    ·
     skip
     have HN : Hid (r = true ↔ x = y) := ⟨fun e => Prod.ext (Mq0.out rfl) (Prod.ext (Mq1.out rfl) (Prod.ext (Mq2.out rfl) (Prod.ext (HR.out.1 e) ((Mq3.out rfl))))), fun e => HR.out.2 (by rw [e])⟩
     go_enter func43, ntmps43
     go_wp2_with fail
     refine HC0.mono ?_
     rintro e w1 ⟨rfl, q, rfl⟩
     go_wp2_with fail
     go_ret
     exact ⟨tells HN.out, below_drewN hb0 _⟩
theorem SameBudget_calls (cs ds : List Value) (A A' : Where) (x y : BudgetD) (w : World) (h : Hid (RBudget A w cs x)) (h' : Hid (RBudget A' w ds y)) : Calls prog 44 #[.agg cs.toArray, .agg ds.toArray] w fun e w' => TellsEq e x y ∧ Below w.heap.size w w' := by
 obtain ⟨h1, rfl, _, hX⟩ := h.out.out
 obtain ⟨g1, rfl, _, hY⟩ := h'.out.out
 have hb0 : Below w.heap.size w ((w.alloc (.cells #[.string x.1, J h1, .int .i64 x.2.2] 44)).alloc (.cells #[.string y.1, J g1, .int .i64 y.2.2] 44)) := by go_grown
 have HC0 := SameReqs_calls h1.1 h1.2.1 h1.2.2 A x.2.1 g1.1 g1.2.1 g1.2.2 A' y.2.1 ((w.alloc (.cells #[.string x.1, J h1, .int .i64 x.2.2] 44)).alloc (.cells #[.string y.1, J g1, .int .i64 y.2.2] 44)) (SlAt.on RReq.firm hX hb0) (SlAt.on RReq.firm hY hb0)
 clear h h' hX hY
 obtain ⟨r, hr⟩ : ∃ r, decide (x.2.1 = y.2.1) = r := ⟨_, rfl⟩
 rw [hr] at HC0
 have HR : Hid (r = true ↔ x.2.1 = y.2.1) := by rw [Hid, ← hr]; exact decide_eq_true_iff
 clear hr
 obtain ⟨q0, hq0⟩ : ∃ q0 : Bool, (x.1.toList == y.1.toList) = q0 := ⟨_, rfl⟩
 have Nq0 : Hid (x = y → q0 = true) := fun e => by subst e; rw [← hq0]; exact beq_self_eq_true _
 have Mq0 : Hid (q0 = true → x.1 = y.1) := fun e => (sEq_iff _ _).1 (hq0.trans e)
 obtain ⟨q1, hq1⟩ : ∃ q1 : Bool, (x.2.2 == y.2.2) = q1 := ⟨_, rfl⟩
 have Nq1 : Hid (x = y → q1 = true) := fun e => by subst e; rw [← hq1]; exact beq_self_eq_true _
 have Mq1 : Hid (q1 = true → x.2.2 = y.2.2) := fun e => beq_iff_eq.1 (hq1.trans e)
 cases q0
 ·
  have HN : Hid ((false = true) ↔ x = y) := ⟨(fun h => by cases h), fun e => absurd (Nq0.out e) (by decide)⟩
  go_enter func44, ntmps44
  go_wp2_with fail
  go_ret
  exact ⟨tells HN.out, hb0⟩
 ·
  skip
  cases q1
  ·
   have HN : Hid ((false = true) ↔ x = y) := ⟨(fun h => by cases h), fun e => absurd (Nq1.out e) (by decide)⟩
   go_enter func44, ntmps44
   go_wp2_with fail
   go_ret
   exact ⟨tells HN.out, hb0⟩
  ·
   skip
   have HN : Hid (r = true ↔ x = y) := ⟨fun e => Prod.ext (Mq0.out rfl) (Prod.ext (HR.out.1 e) ((Mq1.out rfl))), fun e => HR.out.2 (by rw [e])⟩
   go_enter func44, ntmps44
   go_wp2_with fail
   refine HC0.mono ?_
   rintro e w1 ⟨rfl, q, rfl⟩
   go_wp2_with fail
   go_ret
   exact ⟨tells HN.out, below_drewN hb0 _⟩
end Go.Proofs.YtfbnnfpnjjjfcaaGreat

