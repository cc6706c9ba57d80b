/- base.SameReqs, sameTerms tell whether two slices hold the same; they change nothing but the count of draws. Condition: the slices hold what is said of them. base.SameVolume, SameBudget tell whether two structs hold the same, and change nothing that was there. Condition: the arguments lie as is said of them. base.SameNode tells whether two nodes hold the same, and changes nothing that was there. Condition: the arguments lie as is said of them. -/
import Derived.Test.YtillkgflppabfaaQ05
namespace Go.Proofs.Ytillkgflppabfaa
open Go.RowKit
set_option linter.unusedSimpArgs false

set_option maxHeartbeats 4000000 in
theorem SameReqs_calls (a : Option Addr) (n cap : Nat) (A : Where) (L : List (Ask)) (b : Option Addr) (m capb : Nat) (A' : Where) (M : List (Ask)) (w : World) (hA : Hid (SlAt RReq 3 48 A w a n cap L)) (hB : Hid (SlAt RReq 3 48 A' w b m capb M)) : Calls Try.prog 46 #[.slice a n cap, .slice b m capb] w fun e w' => e = .returned (.bool (decide (L = M))) ∧ ∃ q, w' = w.drewN q := by
  have hn : Hid (L.length = n) := hA.out.1
  have hm : Hid (M.length = m) := hB.out.1
  have hlen := hA.out.len (by decide)
  by_cases hnm : n = m
  case neg =>
    have HF : Hid (decide (L = M) = false) := same_len (by rw [hn.out, hm.out]; exact hnm)
    have hne : ((n : Int) != (m : Int)) = true := by rw [bne_iff_ne]; omega
    go_enter Try.func46, Try.ntmps46
    go_wp2
    go_ret
    exact ⟨retB HF.out.symm, 0, rfl⟩
  subst hnm
  have hne : ((n : Int) != (n : Int)) = false := by simp
  go_enter Try.func46, Try.ntmps46
  go_wp2
  go_loopw [5] (fun i wr => ∃ k : Nat, k ≤ n ∧ i = .int .i64 k ∧ Hid (∃ q, wr = w.drewN q) ∧ Hid (∀ j, j < k → L.getD j default = M.getD j default)) (fun i _ => n - (intOf i).toNat)
  case atStart => exact ⟨0, Nat.zero_le _, rfl, ⟨0, rfl⟩, fun j hj => absurd hj (Nat.not_lt_zero _)⟩
  case round =>
    obtain ⟨k, hk, rfl, hwr, hall⟩ := hrel
    have hbel : Below w.heap.size w wr := by obtain ⟨q, rfl⟩ := hwr.out; exact below_drewN (Below.refl _ _) _
    have hback : Hid (∀ q, ∃ q', wr.drewN q = w.drewN q') := by obtain ⟨q0, rfl⟩ := hwr.out; exact fun q => ⟨_, World.drewN_drewN _ _ _⟩
    by_cases hlt : k < n
    · have hltz : (k : Int) < (n : Int) := by omega
      obtain ⟨B, off, rfl, hBl, _, cs, hra, hva⟩ := (hA.out.on RReq.firm hbel).get hlt
      obtain ⟨B', off', rfl, hBl', _, cs', hrb, hvb⟩ := (hB.out.on RReq.firm hbel).get hlt
      obtain ⟨ha, rfl, _, hTa⟩ := hra.out
      obtain ⟨hb, rfl, _, hTb⟩ := hrb.out
      have d0 := hva 0 _ rfl
      have g0 := hvb 0 _ rfl
      have d1 := hva 1 _ rfl
      have g1 := hvb 1 _ rfl
      have d2 := hva 2 _ rfl
      have g2 := hvb 2 _ rfl
      rw [Nat.add_zero] at d0 g0
      have HG : Hid (decide (L.getD k default = M.getD k default) = true → ∀ j, j < k + 1 → L.getD j default = M.getD j default) := fun h j hj => by
        rcases Nat.lt_succ_iff_lt_or_eq.1 hj with h' | rfl
        · exact hall.out j h'
        · exact of_decide_eq_true h
      have HF : Hid (decide (L.getD k default = M.getD k default) = false → decide (L = M) = false) := fun h => same_no (of_decide_eq_false h)
      clear hall hva hvb
      have HM0 : Hid (∀ m, Calls Try.prog 49 #[.slice ha.1 ha.2.1 ha.2.2, .slice hb.1 hb.2.1 hb.2.2] (wr.drewN m) fun e w' => e = .returned (.bool (decide ((L.getD k default).2.2 = (M.getD k default).2.2))) ∧ ∃ q, w' = (wr.drewN m).drewN q) := fun m => SameTexts_calls _ _ _ A _ _ _ _ A' _ _ (hTa.on RStr.firm (below_drewN (Below.refl _ _) _)) (hTb.on RStr.firm (below_drewN (Below.refl _ _) _))
      clear hTa hTb
      have HE := ask_eq (L.getD k default) (M.getD k default)
      generalize L.getD k default = x at d0 d1 d2 HE HG HF HM0
      generalize M.getD k default = y at g0 g1 g2 HE HG HF HM0
      obtain ⟨r, hr⟩ : ∃ r, decide (x.2.2 = y.2.2) = r := ⟨_, rfl⟩
      rw [hr] at HE
      have HM : Hid (∀ m, Calls Try.prog 49 #[.slice ha.1 ha.2.1 ha.2.2, .slice hb.1 hb.2.1 hb.2.2] (wr.drewN m) fun e w' => e = .returned (.bool r) ∧ ∃ q, w' = (wr.drewN m).drewN q) := by rw [← hr]; exact HM0
      clear HM0 hr
      obtain ⟨p, hp⟩ : ∃ p : Bool, (sEq x.1 y.1) = p := ⟨_, rfl⟩
      rw [hp] at HE
      have kp : (!(x.1.toList == y.1.toList)) = !p := by rw [← hp]; rfl
      clear hp
      obtain ⟨q, hq⟩ : ∃ q : Bool, (x.2.1 == y.2.1) = q := ⟨_, rfl⟩
      rw [hq] at HE
      have kq : (x.2.1 != y.2.1) = !q := by rw [← hq]; rfl
      clear hq
      cases p
      · have HX : Hid (decide (x = y) = false) := HE.trans rfl
        have HF2 : Hid (decide (L = M) = false) := HF.out HX.out
        clear HG HF HX HE
        simp only [Bool.not_true, Bool.not_false] at kp kq
        go_wp2_with fail
        go_quiet ((go_at_call 49; exact Calls.quiet_of (HM.out _)))
        go_wp2_with fail
        go_ret
        exact ⟨retB HF2.out.symm, hback.out _⟩
      · skip
        cases q
        · have HX : Hid (decide (x = y) = false) := HE.trans rfl
          have HF2 : Hid (decide (L = M) = false) := HF.out HX.out
          clear HG HF HX HE
          simp only [Bool.not_true, Bool.not_false] at kp kq
          go_wp2_with fail
          go_quiet ((go_at_call 49; exact Calls.quiet_of (HM.out _)))
          go_wp2_with fail
          go_ret
          exact ⟨retB HF2.out.symm, hback.out _⟩
        · skip
          cases r
          · have HX : Hid (decide (x = y) = false) := HE.trans rfl
            have HF2 : Hid (decide (L = M) = false) := HF.out HX.out
            clear HG HF HX HE
            simp only [Bool.not_true, Bool.not_false] at kp kq
            go_wp2_with fail
            go_quiet ((go_at_call 49; exact Calls.quiet_of (HM.out _)))
            go_wp2_with fail
            go_ret
            exact ⟨retB HF2.out.symm, hback.out _⟩
          · have HX : Hid (decide (x = y) = true) := HE.trans rfl
            have HG2 : Hid (∀ j, j < k + 1 → L.getD j default = M.getD j default) := HG.out HX.out
            clear HG HF HX HE
            simp only [Bool.not_true, Bool.not_false] at kp kq
            go_wp2_with fail
            go_quiet ((go_at_call 49; exact Calls.quiet_of (HM.out _)))
            go_wp2_with fail
            go_roundw
            case rel => exact ⟨k + 1, by omega, by go_num, hback.out _, HG2⟩
            case measure => simp [intOf]; omega
    · have HT : Hid (decide (L = M) = true) := same_yes (by rw [hn.out, hm.out]) (fun j hj => hall.out j (by rw [hn.out] at hj; omega))
      clear hall
      go_wp2
      go_ret
      exact ⟨retB HT.out.symm, hwr.out⟩

set_option maxHeartbeats 4000000 in
theorem sameTerms_calls (a : Option Addr) (n cap : Nat) (A : Where) (L : List (TermD)) (b : Option Addr) (m capb : Nat) (A' : Where) (M : List (TermD)) (w : World) (hA : Hid (SlAt RTerm 2 40 A w a n cap L)) (hB : Hid (SlAt RTerm 2 40 A' w b m capb M)) : Calls Try.prog 48 #[.slice a n cap, .slice b m capb] w fun e w' => e = .returned (.bool (decide (L = M))) ∧ ∃ q, w' = w.drewN q := by
  have hn : Hid (L.length = n) := hA.out.1
  have hm : Hid (M.length = m) := hB.out.1
  have hlen := hA.out.len (by decide)
  by_cases hnm : n = m
  case neg =>
    have HF : Hid (decide (L = M) = false) := same_len (by rw [hn.out, hm.out]; exact hnm)
    have hne : ((n : Int) != (m : Int)) = true := by rw [bne_iff_ne]; omega
    go_enter Try.func48, Try.ntmps48
    go_wp2
    go_ret
    exact ⟨retB HF.out.symm, 0, rfl⟩
  subst hnm
  have hne : ((n : Int) != (n : Int)) = false := by simp
  go_enter Try.func48, Try.ntmps48
  go_wp2
  go_loopw [5] (fun i wr => ∃ k : Nat, k ≤ n ∧ i = .int .i64 k ∧ Hid (∃ q, wr = w.drewN q) ∧ Hid (∀ j, j < k → L.getD j default = M.getD j default)) (fun i _ => n - (intOf i).toNat)
  case atStart => exact ⟨0, Nat.zero_le _, rfl, ⟨0, rfl⟩, fun j hj => absurd hj (Nat.not_lt_zero _)⟩
  case round =>
    obtain ⟨k, hk, rfl, hwr, hall⟩ := hrel
    have hbel : Below w.heap.size w wr := by obtain ⟨q, rfl⟩ := hwr.out; exact below_drewN (Below.refl _ _) _
    have hback : Hid (∀ q, ∃ q', wr.drewN q = w.drewN q') := by obtain ⟨q0, rfl⟩ := hwr.out; exact fun q => ⟨_, World.drewN_drewN _ _ _⟩
    by_cases hlt : k < n
    · have hltz : (k : Int) < (n : Int) := by omega
      obtain ⟨B, off, rfl, hBl, _, cs, hra, hva⟩ := (hA.out.on RTerm.firm hbel).get hlt
      obtain ⟨B', off', rfl, hBl', _, cs', hrb, hvb⟩ := (hB.out.on RTerm.firm hbel).get hlt
      obtain ⟨ha, rfl, hTa, _⟩ := hra.out
      obtain ⟨hb, rfl, hTb, _⟩ := hrb.out
      have d0 := hva 0 _ rfl
      have g0 := hvb 0 _ rfl
      have d1 := hva 1 _ rfl
      have g1 := hvb 1 _ rfl
      rw [Nat.add_zero] at d0 g0
      have HG : Hid (decide (L.getD k default = M.getD k default) = true → ∀ j, j < k + 1 → L.getD j default = M.getD j default) := fun h j hj => by
        rcases Nat.lt_succ_iff_lt_or_eq.1 hj with h' | rfl
        · exact hall.out j h'
        · exact of_decide_eq_true h
      have HF : Hid (decide (L.getD k default = M.getD k default) = false → decide (L = M) = false) := fun h => same_no (of_decide_eq_false h)
      clear hall hva hvb
      have HM0 : Hid (∀ m, Calls Try.prog 46 #[.slice ha.1 ha.2.1 ha.2.2, .slice hb.1 hb.2.1 hb.2.2] (wr.drewN m) fun e w' => e = .returned (.bool (decide ((L.getD k default).1 = (M.getD k default).1))) ∧ ∃ q, w' = (wr.drewN m).drewN q) := fun m => SameReqs_calls _ _ _ A _ _ _ _ A' _ _ (hTa.on RReq.firm (below_drewN (Below.refl _ _) _)) (hTb.on RReq.firm (below_drewN (Below.refl _ _) _))
      clear hTa hTb
      have HE := term_eq (L.getD k default) (M.getD k default)
      generalize L.getD k default = x at d0 d1 HE HG HF HM0
      generalize M.getD k default = y at g0 g1 HE HG HF HM0
      obtain ⟨r, hr⟩ : ∃ r, decide (x.1 = y.1) = r := ⟨_, rfl⟩
      rw [hr] at HE
      have HM : Hid (∀ m, Calls Try.prog 46 #[.slice ha.1 ha.2.1 ha.2.2, .slice hb.1 hb.2.1 hb.2.2] (wr.drewN m) fun e w' => e = .returned (.bool r) ∧ ∃ q, w' = (wr.drewN m).drewN q) := by rw [← hr]; exact HM0
      clear HM0 hr
      obtain ⟨p, hp⟩ : ∃ p : Bool, (sEq x.2 y.2) = p := ⟨_, rfl⟩
      rw [hp] at HE
      have kp : (!(x.2.toList == y.2.toList)) = !p := by rw [← hp]; rfl
      clear hp
      cases p
      · have HX : Hid (decide (x = y) = false) := HE.trans rfl
        have HF2 : Hid (decide (L = M) = false) := HF.out HX.out
        clear HG HF HX HE
        simp only [Bool.not_true, Bool.not_false] at kp
        go_wp2_with fail
        go_quiet ((go_at_call 46; exact Calls.quiet_of (HM.out _)))
        go_wp2_with fail
        go_ret
        exact ⟨retB HF2.out.symm, hback.out _⟩
      · skip
        cases r
        · have HX : Hid (decide (x = y) = false) := HE.trans rfl
          have HF2 : Hid (decide (L = M) = false) := HF.out HX.out
          clear HG HF HX HE
          simp only [Bool.not_true, Bool.not_false] at kp
          go_wp2_with fail
          go_quiet ((go_at_call 46; exact Calls.quiet_of (HM.out _)))
          go_wp2_with fail
          go_ret
          exact ⟨retB HF2.out.symm, hback.out _⟩
        · have HX : Hid (decide (x = y) = true) := HE.trans rfl
          have HG2 : Hid (∀ j, j < k + 1 → L.getD j default = M.getD j default) := HG.out HX.out
          clear HG HF HX HE
          simp only [Bool.not_true, Bool.not_false] at kp
          go_wp2_with fail
          go_quiet ((go_at_call 46; exact Calls.quiet_of (HM.out _)))
          go_wp2_with fail
          go_roundw
          case rel => exact ⟨k + 1, by omega, by go_num, hback.out _, HG2⟩
          case measure => simp [intOf]; omega
    · have HT : Hid (decide (L = M) = true) := same_yes (by rw [hn.out, hm.out]) (fun j hj => hall.out j (by rw [hn.out] at hj; omega))
      clear hall
      go_wp2
      go_ret
      exact ⟨retB HT.out.symm, hwr.out⟩
end Go.Proofs.Ytillkgflppabfaa
namespace Go.Proofs.Ytillkgflppabfaa
open Go.RowKit
set_option linter.unusedSimpArgs false

/-- A call's end tells whether the two are one. -/
def TellsEq {α : Type} (e : Ending) (x y : α) : Prop := ∃ r, e = .returned (.bool r) ∧ (r = true ↔ x = y)
theorem tells {α : Type} {x y : α} {r : Bool} (h : r = true ↔ x = y) : TellsEq (.returned (.bool r)) x y := ⟨r, rfl, h⟩

end Go.Proofs.Ytillkgflppabfaa
namespace Go.Proofs.Ytillkgflppabfaa
open Go.RowKit
set_option linter.unusedSimpArgs false

theorem guardR : Try.prog.eqGuardType Try.prog.depth 24 = false := by kernel_rfl
theorem guardTn : Try.prog.eqGuardType Try.prog.depth 93 = false := by kernel_rfl
theorem neqR (x y : ResD) (w : World) : Sem.run Try.prog (binOp .neq 24 (.agg #[.int .i64 x.1, .int .i64 x.2.1, .int .i64 x.2.2]) (.agg #[.int .i64 y.1, .int .i64 y.2.1, .int .i64 y.2.2])) w = .ok (.bool (!((x.1 == y.1) && ((x.2.1 == y.2.1) && (x.2.2 == y.2.2))))) w := by
  have u3 := Try.underlying3
  have a3 := Try.isAgg3
  have z3 := Try.sizeOf3
  have hS : Try.prog.underlying 24 = some (.struct (Try.prog.fieldsOf 24)) := by kernel_rfl
  have hp : Try.prog.stoodInHeld 24 = false := by kernel_rfl
  rw [run_neq_struct, show (10000 : Nat) = 9999 + 1 from rfl, run_equalIn_agg w 9999 24 _ _ hS hp]
  simp only [Program.fieldsOf, Try.underlying24]
  go_simp
  by_cases h1 : x.1 = y.1 <;> by_cases h2 : x.2.1 = y.2.1 <;> by_cases h3 : x.2.2 = y.2.2 <;> simp [h1, h2, h3]
theorem neqTn (x y : Tnt) (w : World) : Sem.run Try.prog (binOp .neq 93 (.agg #[.string x.1, .string x.2.1, .int .i64 x.2.2]) (.agg #[.string y.1, .string y.2.1, .int .i64 y.2.2])) w = .ok (.bool (!tEq x y)) w := by
  have u3 := Try.underlying3
  have a3 := Try.isAgg3
  have z3 := Try.sizeOf3
  have u9 := Try.underlying9
  have a9 := Try.isAgg9
  have z9 := Try.sizeOf9
  have hS : Try.prog.underlying 93 = some (.struct (Try.prog.fieldsOf 93)) := by kernel_rfl
  have hp : Try.prog.stoodInHeld 93 = false := by kernel_rfl
  rw [run_neq_struct, show (10000 : Nat) = 9999 + 1 from rfl, run_equalIn_agg w 9999 93 _ _ hS hp]
  simp only [Program.fieldsOf, Try.underlying93]
  go_simp
  simp only [tEq, sEq]
  by_cases h1 : x.1.toList = y.1.toList <;> by_cases h2 : x.2.1.toList = y.2.1.toList <;> by_cases h3 : x.2.2 = y.2.2 <;> simp [h1, h2, h3]
theorem tEq_iff (x y : Tnt) : tEq x y = true ↔ x = y := by
  simp only [tEq, Bool.and_eq_true, sEq_iff, beq_iff_eq, Prod.ext_iff]
theorem res_iff (x y : ResD) : ((x.1 == y.1) && ((x.2.1 == y.2.1) && (x.2.2 == y.2.2))) = true ↔ x = y := by
  simp only [Bool.and_eq_true, beq_iff_eq, Prod.ext_iff]
theorem list_same {α : Type} [Inhabited α] {L M : List α} (hl : L.length = M.length) (h : ∀ j, j < L.length → L.getD j default = M.getD j default) : L = M := by
  apply List.ext_getElem hl
  intro i h1 h2
  have := h i h1
  rwa [getE _ _ h1, getE _ _ h2] at this

set_option maxRecDepth 100000 in
set_option maxHeartbeats 4000000 in
theorem SameNode_calls (cs ds : List Value) (A A' : Where) (x y : NodeD) (w : World) (h : Hid (RNode A w cs x)) (h' : Hid (RNode A' w ds y)) : Calls Try.prog 31 #[.agg cs.toArray, .agg ds.toArray] w fun e w' => TellsEq e x y ∧ Below w.heap.size w w' := by
  obtain ⟨h1, h2, rfl, _, hX, hX2⟩ := h.out.out
  obtain ⟨g1, g2, rfl, _, hY, hY2⟩ := h'.out.out
  have hb0 : Below w.heap.size w ((w.alloc (.cells #[.string x.1, .slice h1.1 h1.2.1 h1.2.2, .slice h2.1 h2.2.1 h2.2.2, .bool x.2.2.2.1, .int .i64 x.2.2.2.2.1.1, .int .i64 x.2.2.2.2.1.2.1, .int .i64 x.2.2.2.2.1.2.2, .int .i64 x.2.2.2.2.2.1, .int .i64 x.2.2.2.2.2.2] 51)).alloc (.cells #[.string y.1, .slice g1.1 g1.2.1 g1.2.2, .slice g2.1 g2.2.1 g2.2.2, .bool y.2.2.2.1, .int .i64 y.2.2.2.2.1.1, .int .i64 y.2.2.2.2.1.2.1, .int .i64 y.2.2.2.2.1.2.2, .int .i64 y.2.2.2.2.2.1, .int .i64 y.2.2.2.2.2.2] 51)) := by go_grown
  have HC0 := SameLabels_calls h1.1 h1.2.1 h1.2.2 A x.2.1 g1.1 g1.2.1 g1.2.2 A' y.2.1 ((w.alloc (.cells #[.string x.1, .slice h1.1 h1.2.1 h1.2.2, .slice h2.1 h2.2.1 h2.2.2, .bool x.2.2.2.1, .int .i64 x.2.2.2.2.1.1, .int .i64 x.2.2.2.2.1.2.1, .int .i64 x.2.2.2.2.1.2.2, .int .i64 x.2.2.2.2.2.1, .int .i64 x.2.2.2.2.2.2] 51)).alloc (.cells #[.string y.1, .slice g1.1 g1.2.1 g1.2.2, .slice g2.1 g2.2.1 g2.2.2, .bool y.2.2.2.1, .int .i64 y.2.2.2.2.1.1, .int .i64 y.2.2.2.2.1.2.1, .int .i64 y.2.2.2.2.1.2.2, .int .i64 y.2.2.2.2.2.1, .int .i64 y.2.2.2.2.2.2] 51)) (SlAt.on RLabel.firm hX hb0) (SlAt.on RLabel.firm hY hb0)
  have HX : Hid (SlAt RTaint 3 40 A ((w.alloc (.cells #[.string x.1, .slice h1.1 h1.2.1 h1.2.2, .slice h2.1 h2.2.1 h2.2.2, .bool x.2.2.2.1, .int .i64 x.2.2.2.2.1.1, .int .i64 x.2.2.2.2.1.2.1, .int .i64 x.2.2.2.2.1.2.2, .int .i64 x.2.2.2.2.2.1, .int .i64 x.2.2.2.2.2.2] 51)).alloc (.cells #[.string y.1, .slice g1.1 g1.2.1 g1.2.2, .slice g2.1 g2.2.1 g2.2.2, .bool y.2.2.2.1, .int .i64 y.2.2.2.2.1.1, .int .i64 y.2.2.2.2.1.2.1, .int .i64 y.2.2.2.2.1.2.2, .int .i64 y.2.2.2.2.2.1, .int .i64 y.2.2.2.2.2.2] 51)) h2.1 h2.2.1 h2.2.2 x.2.2.1) := SlAt.on RTaint.firm hX2 hb0
  have HY : Hid (SlAt RTaint 3 40 A' ((w.alloc (.cells #[.string x.1, .slice h1.1 h1.2.1 h1.2.2, .slice h2.1 h2.2.1 h2.2.2, .bool x.2.2.2.1, .int .i64 x.2.2.2.2.1.1, .int .i64 x.2.2.2.2.1.2.1, .int .i64 x.2.2.2.2.1.2.2, .int .i64 x.2.2.2.2.2.1, .int .i64 x.2.2.2.2.2.2] 51)).alloc (.cells #[.string y.1, .slice g1.1 g1.2.1 g1.2.2, .slice g2.1 g2.2.1 g2.2.2, .bool y.2.2.2.1, .int .i64 y.2.2.2.2.1.1, .int .i64 y.2.2.2.2.1.2.1, .int .i64 y.2.2.2.2.1.2.2, .int .i64 y.2.2.2.2.2.1, .int .i64 y.2.2.2.2.2.2] 51)) g2.1 g2.2.1 g2.2.2 y.2.2.1) := SlAt.on RTaint.firm hY2 hb0
  have hB1 : BoxL ((w.alloc (.cells #[.string x.1, .slice h1.1 h1.2.1 h1.2.2, .slice h2.1 h2.2.1 h2.2.2, .bool x.2.2.2.1, .int .i64 x.2.2.2.2.1.1, .int .i64 x.2.2.2.2.1.2.1, .int .i64 x.2.2.2.2.1.2.2, .int .i64 x.2.2.2.2.2.1, .int .i64 x.2.2.2.2.2.2] 51)).alloc (.cells #[.string y.1, .slice g1.1 g1.2.1 g1.2.2, .slice g2.1 g2.2.1 g2.2.2, .bool y.2.2.2.1, .int .i64 y.2.2.2.2.1.1, .int .i64 y.2.2.2.2.1.2.1, .int .i64 y.2.2.2.2.1.2.2, .int .i64 y.2.2.2.2.2.1, .int .i64 y.2.2.2.2.2.2] 51)) w.heap.size [.string x.1, .slice h1.1 h1.2.1 h1.2.2, .slice h2.1 h2.2.1 h2.2.2, .bool x.2.2.2.1, .int .i64 x.2.2.2.2.1.1, .int .i64 x.2.2.2.2.1.2.1, .int .i64 x.2.2.2.2.1.2.2, .int .i64 x.2.2.2.2.2.1, .int .i64 x.2.2.2.2.2.2] := (BoxL.new w 51 [.string x.1, .slice h1.1 h1.2.1 h1.2.2, .slice h2.1 h2.2.1 h2.2.2, .bool x.2.2.2.1, .int .i64 x.2.2.2.2.1.1, .int .i64 x.2.2.2.2.1.2.1, .int .i64 x.2.2.2.2.1.2.2, .int .i64 x.2.2.2.2.2.1, .int .i64 x.2.2.2.2.2.2]).on ((Below.refl _ _).alloc (Nat.le_refl _) (.cells #[.string y.1, .slice g1.1 g1.2.1 g1.2.2, .slice g2.1 g2.2.1 g2.2.2, .bool y.2.2.2.1, .int .i64 y.2.2.2.2.1.1, .int .i64 y.2.2.2.2.1.2.1, .int .i64 y.2.2.2.2.1.2.2, .int .i64 y.2.2.2.2.2.1, .int .i64 y.2.2.2.2.2.2] 51))
  have hB2 : BoxL ((w.alloc (.cells #[.string x.1, .slice h1.1 h1.2.1 h1.2.2, .slice h2.1 h2.2.1 h2.2.2, .bool x.2.2.2.1, .int .i64 x.2.2.2.2.1.1, .int .i64 x.2.2.2.2.1.2.1, .int .i64 x.2.2.2.2.1.2.2, .int .i64 x.2.2.2.2.2.1, .int .i64 x.2.2.2.2.2.2] 51)).alloc (.cells #[.string y.1, .slice g1.1 g1.2.1 g1.2.2, .slice g2.1 g2.2.1 g2.2.2, .bool y.2.2.2.1, .int .i64 y.2.2.2.2.1.1, .int .i64 y.2.2.2.2.1.2.1, .int .i64 y.2.2.2.2.1.2.2, .int .i64 y.2.2.2.2.2.1, .int .i64 y.2.2.2.2.2.2] 51)) (w.heap.size + 1) [.string y.1, .slice g1.1 g1.2.1 g1.2.2, .slice g2.1 g2.2.1 g2.2.2, .bool y.2.2.2.1, .int .i64 y.2.2.2.2.1.1, .int .i64 y.2.2.2.2.1.2.1, .int .i64 y.2.2.2.2.1.2.2, .int .i64 y.2.2.2.2.2.1, .int .i64 y.2.2.2.2.2.2] := by
    have := BoxL.new (w.alloc (.cells #[.string x.1, .slice h1.1 h1.2.1 h1.2.2, .slice h2.1 h2.2.1 h2.2.2, .bool x.2.2.2.1, .int .i64 x.2.2.2.2.1.1, .int .i64 x.2.2.2.2.1.2.1, .int .i64 x.2.2.2.2.1.2.2, .int .i64 x.2.2.2.2.2.1, .int .i64 x.2.2.2.2.2.2] 51)) 51 [.string y.1, .slice g1.1 g1.2.1 g1.2.2, .slice g2.1 g2.2.1 g2.2.2, .bool y.2.2.2.1, .int .i64 y.2.2.2.2.1.1, .int .i64 y.2.2.2.2.1.2.1, .int .i64 y.2.2.2.2.1.2.2, .int .i64 y.2.2.2.2.2.1, .int .i64 y.2.2.2.2.2.2]
    simpa using this
  clear h h' hX hY hX2 hY2
  obtain ⟨r, hr⟩ : ∃ r, decide (x.2.1 = y.2.1) = r := ⟨_, rfl⟩
  rw [hr] at HC0
  have HR : Hid (r = true ↔ x.2.1 = y.2.1) := by rw [Hid, ← hr]; exact decide_eq_true_iff
  clear hr
  have hgr := guardR
  have hgt := guardTn
  obtain ⟨xo, hxo⟩ : ∃ b, x.2.2.2.1 = b := ⟨_, rfl⟩
  obtain ⟨yo, hyo⟩ : ∃ b, y.2.2.2.1 = b := ⟨_, rfl⟩
  have Nq1 : Hid (x = y → xo = yo) := fun e => by rw [← hxo, ← hyo, e]
  have Mq1 : Hid (xo = yo → x.2.2.2.1 = y.2.2.2.1) := fun e => by rw [hxo, hyo, e]
  simp only [hxo, hyo] at hb0 HC0 HX HY hB1 hB2 ⊢
  clear hxo hyo
  obtain ⟨q0, hq0⟩ : ∃ q0 : Bool, (x.1.toList == y.1.toList) = q0 := ⟨_, rfl⟩
  have Nq0 : Hid (x = y → q0 = true) := fun e => by subst e; rw [← hq0]; exact beq_self_eq_true _
  have Mq0 : Hid (q0 = true → x.1 = y.1) := fun e => (sEq_iff _ _).1 (hq0.trans e)
  have kq0 : (!(x.1.toList == y.1.toList)) = !q0 := by rw [← hq0]; first | done | rfl
  clear hq0
  obtain ⟨q2, hq2⟩ : ∃ q2 : Bool, ((x.2.2.2.2.1.1 == y.2.2.2.2.1.1) && ((x.2.2.2.2.1.2.1 == y.2.2.2.2.1.2.1) && (x.2.2.2.2.1.2.2 == y.2.2.2.2.1.2.2))) = q2 := ⟨_, rfl⟩
  have nR := neqR x.2.2.2.2.1 y.2.2.2.2.1
  rw [hq2] at nR
  have Nq2 : Hid (x = y → q2 = true) := fun e => by subst e; rw [← hq2]; simp
  have Mq2 : Hid (q2 = true → x.2.2.2.2.1 = y.2.2.2.2.1) := fun e => (res_iff _ _).1 (hq2.trans e)
  clear hq2
  obtain ⟨q3, hq3⟩ : ∃ q3 : Bool, (x.2.2.2.2.2.1 == y.2.2.2.2.2.1) = q3 := ⟨_, rfl⟩
  have Nq3 : Hid (x = y → q3 = true) := fun e => by subst e; rw [← hq3]; exact beq_self_eq_true _
  have Mq3 : Hid (q3 = true → x.2.2.2.2.2.1 = y.2.2.2.2.2.1) := fun e => beq_iff_eq.1 (hq3.trans e)
  have kq3 : (x.2.2.2.2.2.1 != y.2.2.2.2.2.1) = !q3 := by rw [← hq3]; first | done | rfl
  clear hq3
  obtain ⟨q4, hq4⟩ : ∃ q4 : Bool, (x.2.2.2.2.2.2 == y.2.2.2.2.2.2) = q4 := ⟨_, rfl⟩
  have Nq4 : Hid (x = y → q4 = true) := fun e => by subst e; rw [← hq4]; exact beq_self_eq_true _
  have Mq4 : Hid (q4 = true → x.2.2.2.2.2.2 = y.2.2.2.2.2.2) := fun e => beq_iff_eq.1 (hq4.trans e)
  have kq4 : (x.2.2.2.2.2.2 != y.2.2.2.2.2.2) = !q4 := by rw [← hq4]; first | done | rfl
  clear hq4
  cases q0
  · have HN : Hid ((false = true) ↔ x = y) := ⟨(fun h => by cases h), fun e => absurd (Nq0.out e) (by decide)⟩
    simp only [Bool.not_false] at kq0
    go_enter Try.func31, Try.ntmps31
    go_wp2_with fail
    go_ret
    exact ⟨tells HN.out, hb0⟩
  · simp only [Bool.not_true] at kq0
    have HNo : Hid (xo ≠ yo → ((false = true) ↔ x = y)) := fun hn => ⟨(fun h => by cases h), fun e => absurd (Nq1.out e) hn⟩
    cases xo <;> cases yo
    case false.true | true.false =>
      have HN := HNo.out (by decide)
      have HN2 : Hid ((false = true) ↔ x = y) := HN
      clear HN HNo
      go_enter Try.func31, Try.ntmps31
      go_wp2_with fail
      go_ret
      exact ⟨tells HN2.out, hb0⟩
    all_goals
      cases q2
      · have HN : Hid ((false = true) ↔ x = y) := ⟨(fun h => by cases h), fun e => absurd (Nq2.out e) (by decide)⟩
        simp only [Bool.not_false] at nR
        go_enter Try.func31, Try.ntmps31
        go_wp2_with fail
        go_ret
        exact ⟨tells HN.out, hb0⟩
      · simp only [Bool.not_true] at nR
        cases q3
        · have HN : Hid ((false = true) ↔ x = y) := ⟨(fun h => by cases h), fun e => absurd (Nq3.out e) (by decide)⟩
          simp only [Bool.not_false] at kq3
          go_enter Try.func31, Try.ntmps31
          go_wp2_with fail
          go_ret
          exact ⟨tells HN.out, hb0⟩
        · simp only [Bool.not_true] at kq3
          cases q4
          · have HN : Hid ((false = true) ↔ x = y) := ⟨(fun h => by cases h), fun e => absurd (Nq4.out e) (by decide)⟩
            simp only [Bool.not_false] at kq4
            go_enter Try.func31, Try.ntmps31
            go_wp2_with fail
            go_ret
            exact ⟨tells HN.out, hb0⟩
          · simp only [Bool.not_true] at kq4
            go_enter Try.func31, Try.ntmps31
            go_wp2_with fail
            refine HC0.mono ?_
            rintro e w1 ⟨rfl, q, hq⟩
            clear HC0
            have hb1 : Below w.heap.size w w1 := by rw [hq]; exact below_drewN hb0 _
            have k1 := BoxL.on (u' := w1) hB1 (by rw [hq]; exact below_drewN (Below.refl _ _) _)
            have k2 := BoxL.on (u' := w1) hB2 (by rw [hq]; exact below_drewN (Below.refl _ _) _)
            have HX1 : Hid (SlAt RTaint 3 40 A w1 h2.1 h2.2.1 h2.2.2 x.2.2.1) := SlAt.on RTaint.firm HX.out (by rw [hq]; exact below_drewN (Below.refl _ _) _)
            have HY1 : Hid (SlAt RTaint 3 40 A' w1 g2.1 g2.2.1 g2.2.2 y.2.2.1) := SlAt.on RTaint.firm HY.out (by rw [hq]; exact below_drewN (Below.refl _ _) _)
            clear HX HY hB1 hB2 hb0 hq
            have K1 : Hid (BoxL w1 w.heap.size _) := k1
            have K2 : Hid (BoxL w1 (w.heap.size + 1) _) := k2
            obtain ⟨e2, _⟩ := k1.2 2 _ rfl
            obtain ⟨f2, _⟩ := k2.2 2 _ rfl
            clear k1 k2
            cases r
            · have HN : Hid ((false = true) ↔ x = y) := ⟨(fun h => by cases h), fun e => absurd (HR.out.2 (by rw [e])) (by decide)⟩
              go_wp2_with fail
              go_ret
              exact ⟨tells HN.out, hb1⟩
            · have hlx := HX1.out.1
              have hly := HY1.out.1
              have hlen := HX1.out.len (by decide)
              have HLX : Hid (x.2.2.1.length = h2.2.1) := hlx
              have HLY : Hid (y.2.2.1.length = g2.2.1) := hly
              clear hlx hly
              by_cases hnm : h2.2.1 = g2.2.1
              · have hne : ((h2.2.1 : Int) != (g2.2.1 : Int)) = false := by rw [hnm]; simp
                go_wp2_with fail
                go_loopw [5] (fun i wr => ∃ k : Nat, k ≤ h2.2.1 ∧ i = .int .i64 k ∧ Below w1.heap.size w1 wr ∧ Hid (∀ j, j < k → x.2.2.1.getD j default = y.2.2.1.getD j default)) (fun i _ => h2.2.1 - (intOf i).toNat)
                case atStart => exact ⟨0, Nat.zero_le _, rfl, Below.refl _ _, fun j hj => absurd hj (Nat.not_lt_zero _)⟩
                case round =>
                  obtain ⟨k, hk, rfl, hbel, hall⟩ := hrel
                  obtain ⟨l2, _⟩ := (K1.out.on hbel).2 2 _ rfl
                  obtain ⟨m2, _⟩ := (K2.out.on hbel).2 2 _ rfl
                  by_cases hlt : k < h2.2.1
                  · have hltz : (k : Int) < (h2.2.1 : Int) := by omega
                    have hltz2 : (k : Int) < (g2.2.1 : Int) := by omega
                    obtain ⟨B, off, eB, hBl, _, cs, hra, hva⟩ := (HX1.out.on RTaint.firm hbel).get hlt
                    obtain ⟨B', off', eB', hBl', _, cs', hrb, hvb⟩ := (HY1.out.on RTaint.firm hbel).get (show k < g2.2.1 by omega)
                    obtain ⟨rfl, _⟩ := hra.out
                    obtain ⟨rfl, _⟩ := hrb.out
                    have d0 := hva 0 _ rfl
                    have d1 := hva 1 _ rfl
                    have d2 := hva 2 _ rfl
                    have b0 := hvb 0 _ rfl
                    have b1 := hvb 1 _ rfl
                    have b2 := hvb 2 _ rfl
                    rw [Nat.add_zero] at d0 b0
                    change _ = some (Value.slice h2.1 _ _) at l2
                    rw [eB] at l2
                    change _ = some (Value.slice g2.1 _ _) at m2
                    rw [eB'] at m2
                    have HG : Hid (x.2.2.1.getD k default = y.2.2.1.getD k default → ∀ j, j < k + 1 → x.2.2.1.getD j default = y.2.2.1.getD j default) := fun h j hj => by
                      rcases Nat.lt_succ_iff_lt_or_eq.1 hj with h' | rfl
                      · exact hall.out j h'
                      · exact h
                    have HF : Hid (x = y → x.2.2.1.getD k default = y.2.2.1.getD k default) := fun e => by rw [e]
                    have nT := neqTn (x.2.2.1.getD k default) (y.2.2.1.getD k default)
                    have tI := tEq_iff (x.2.2.1.getD k default) (y.2.2.1.getD k default)
                    clear hall hva hvb hra hrb e2 f2
                    generalize x.2.2.1.getD k default = tx at d0 d1 d2 HG HF nT tI
                    generalize y.2.2.1.getD k default = ty at b0 b1 b2 HG HF nT tI
                    cases hte : tEq tx ty
                    · have HN : Hid ((false = true) ↔ x = y) := ⟨(fun h => by cases h), fun e => absurd (tI.2 (HF.out e)) (by rw [hte]; decide)⟩
                      rw [hte] at nT
                      simp only [Bool.not_false] at nT
                      clear HG HF tI hte
                      go_wp2_with fail
                      go_quiet (fail)
                      go_wp2_with fail
                      go_ret
                      exact ⟨tells HN.out, on2 hb1 (on2 hbel (below_drewN (Below.refl _ _) _))⟩
                    · have HG2 : Hid (∀ j, j < k + 1 → x.2.2.1.getD j default = y.2.2.1.getD j default) := HG.out (tI.1 hte)
                      rw [hte] at nT
                      simp only [Bool.not_true] at nT
                      clear HG HF tI hte
                      go_wp2_with fail
                      go_quiet (fail)
                      go_wp2_with fail
                      go_roundw
                      case rel => exact ⟨k + 1, by omega, by go_num, on2 hbel (below_drewN (Below.refl _ _) _), HG2⟩
                      case measure => simp [intOf]; omega
                  · have HN : Hid (x = y) := Prod.ext (Mq0.out (by trivial)) (Prod.ext (HR.out.1 (by trivial)) (Prod.ext (list_same (by rw [HLX.out, HLY.out]; exact hnm) (fun j hj => hall.out j (by rw [HLX.out] at hj; omega))) (Prod.ext (Mq1.out (by trivial)) (Prod.ext (Mq2.out (by trivial)) (Prod.ext (Mq3.out (by trivial)) (Mq4.out (by trivial)))))))
                    clear hall
                    go_wp2_with fail
                    go_ret
                    exact ⟨tells ⟨fun _ => HN.out, fun _ => rfl⟩, on2 hb1 hbel⟩
              · have hne : ((h2.2.1 : Int) != (g2.2.1 : Int)) = true := by rw [bne_iff_ne]; omega
                have HN : Hid ((false = true) ↔ x = y) := ⟨(fun h => by cases h), fun e => absurd (by rw [← HLX.out, ← HLY.out, e]) hnm⟩
                go_wp2_with fail
                go_ret
                exact ⟨tells HN.out, hb1⟩
end Go.Proofs.Ytillkgflppabfaa
