/- base.SameNode tells whether two nodes hold the same, and changes nothing that was there, and its like. No condition beyond what each says. -/
import Derived.Test.YtfbnnfpnjjjfcaaGreatS08
namespace Go.Proofs.YtfbnnfpnjjjfcaaGreat
set_option maxHeartbeats 16000000
set_option maxRecDepth 100000
open Tryz Go.RowKit
set_option linter.unusedSimpArgs false
theorem guardR : prog.eqGuardType prog.depth 24 = false := by kernel_rfl
theorem guardTn : prog.eqGuardType prog.depth 130 = false := by kernel_rfl
theorem neqR (x y : ResD) (w : World) : Sem.run prog (binOp .neq 24 (.agg #[.int .i64 x.1, .int .i64 x.2.1, .int .i64 x.2.2]) (.agg #[.int .i64 y.1, .int .i64 y.2.1, .int .i64 y.2.2])) w = .ok (.bool (!((x.1 == y.1) && ((x.2.1 == y.2.1) && (x.2.2 == y.2.2))))) w := by
 have u3 := underlying3
 have a3 := Tryz.isAgg3
 have z3 := Tryz.sizeOf3
 have hS : prog.underlying 24 = some (.struct (prog.fieldsOf 24)) := by kernel_rfl
 have hp : prog.stoodInHeld 24 = false := by kernel_rfl
 rw [run_neq_struct, show (10000 : Nat) = 9999 + 1 from rfl, run_equalIn_agg w 9999 24 _ _ hS hp]
 simp only [Program.fieldsOf, underlying24]
 go_simp
 by_cases h1 : x.1 = y.1 <;> by_cases h2 : x.2.1 = y.2.1 <;> by_cases h3 : x.2.2 = y.2.2 <;> simp [h1, h2, h3]
theorem neqTn (x y : Tnt) (w : World) : Sem.run prog (binOp .neq 130 (.agg #[.string x.1, .string x.2.1, .int .i64 x.2.2]) (.agg #[.string y.1, .string y.2.1, .int .i64 y.2.2])) w = .ok (.bool (!tEq x y)) w := by
 have u3 := underlying3
 have a3 := Tryz.isAgg3
 have z3 := Tryz.sizeOf3
 have u9 := underlying9
 have a9 := Tryz.isAgg9
 have z9 := Tryz.sizeOf9
 have hS : prog.underlying 130 = some (.struct (prog.fieldsOf 130)) := by kernel_rfl
 have hp : prog.stoodInHeld 130 = false := by kernel_rfl
 rw [run_neq_struct, show (10000 : Nat) = 9999 + 1 from rfl, run_equalIn_agg w 9999 130 _ _ hS hp]
 simp only [Program.fieldsOf, underlying130]
 go_simp
 simp only [tEq, sEq]
 by_cases h1 : x.1.toList = y.1.toList <;> by_cases h2 : x.2.1.toList = y.2.1.toList <;> by_cases h3 : x.2.2 = y.2.2 <;> simp [h1, h2, h3]
theorem tEq_iff (x y : Tnt) : tEq x y = true ↔ x = y := by
 simp only [tEq, Bool.and_eq_true, sEq_iff, beq_iff_eq, Prod.ext_iff]
theorem res_iff (x y : ResD) : ((x.1 == y.1) && ((x.2.1 == y.2.1) && (x.2.2 == y.2.2))) = true ↔ x = y := by
 simp only [Bool.and_eq_true, beq_iff_eq, Prod.ext_iff]
theorem list_same {α : Type} [Inhabited α] {L M : List α} (hl : L.length = M.length) (h : ∀ j, j < L.length → L.getD j default = M.getD j default) : L = M := by
 apply List.ext_getElem hl
 intro i h1 h2
 have := h i h1
 rwa [getE _ _ h1, getE _ _ h2] at this
theorem SameNode_calls (cs ds : List Value) (A A' : Where) (x y : NodeD) (w : World) (h : Hid (RNode A w cs x)) (h' : Hid (RNode A' w ds y)) : Calls prog 42 #[.agg cs.toArray, .agg ds.toArray] w fun e w' => TellsEq e x y ∧ Below w.heap.size w w' := by
 obtain ⟨h1, h2, rfl, _, hX, hX2⟩ := h.out.out
 obtain ⟨g1, g2, rfl, _, hY, hY2⟩ := h'.out.out
 have hb0 : Below w.heap.size w ((w.alloc (.cells #[.string x.1, J h1, J h2, .bool x.2.2.2.1, .int .i64 x.2.2.2.2.1.1, .int .i64 x.2.2.2.2.1.2.1, .int .i64 x.2.2.2.2.1.2.2, .int .i64 x.2.2.2.2.2.1, .int .i64 x.2.2.2.2.2.2] 36)).alloc (.cells #[.string y.1, J g1, J g2, .bool y.2.2.2.1, .int .i64 y.2.2.2.2.1.1, .int .i64 y.2.2.2.2.1.2.1, .int .i64 y.2.2.2.2.1.2.2, .int .i64 y.2.2.2.2.2.1, .int .i64 y.2.2.2.2.2.2] 36)) := by go_grown
 have HC0 := SameLabels_calls h1.1 h1.2.1 h1.2.2 A x.2.1 g1.1 g1.2.1 g1.2.2 A' y.2.1 ((w.alloc (.cells #[.string x.1, J h1, J h2, .bool x.2.2.2.1, .int .i64 x.2.2.2.2.1.1, .int .i64 x.2.2.2.2.1.2.1, .int .i64 x.2.2.2.2.1.2.2, .int .i64 x.2.2.2.2.2.1, .int .i64 x.2.2.2.2.2.2] 36)).alloc (.cells #[.string y.1, J g1, J g2, .bool y.2.2.2.1, .int .i64 y.2.2.2.2.1.1, .int .i64 y.2.2.2.2.1.2.1, .int .i64 y.2.2.2.2.1.2.2, .int .i64 y.2.2.2.2.2.1, .int .i64 y.2.2.2.2.2.2] 36)) (SlAt.on RLabel.firm hX hb0) (SlAt.on RLabel.firm hY hb0)
 have HX : Hid (SlAt RTaint 3 40 A ((w.alloc (.cells #[.string x.1, J h1, J h2, .bool x.2.2.2.1, .int .i64 x.2.2.2.2.1.1, .int .i64 x.2.2.2.2.1.2.1, .int .i64 x.2.2.2.2.1.2.2, .int .i64 x.2.2.2.2.2.1, .int .i64 x.2.2.2.2.2.2] 36)).alloc (.cells #[.string y.1, J g1, J g2, .bool y.2.2.2.1, .int .i64 y.2.2.2.2.1.1, .int .i64 y.2.2.2.2.1.2.1, .int .i64 y.2.2.2.2.1.2.2, .int .i64 y.2.2.2.2.2.1, .int .i64 y.2.2.2.2.2.2] 36)) h2.1 h2.2.1 h2.2.2 x.2.2.1) := SlAt.on RTaint.firm hX2 hb0
 have HY : Hid (SlAt RTaint 3 40 A' ((w.alloc (.cells #[.string x.1, J h1, J h2, .bool x.2.2.2.1, .int .i64 x.2.2.2.2.1.1, .int .i64 x.2.2.2.2.1.2.1, .int .i64 x.2.2.2.2.1.2.2, .int .i64 x.2.2.2.2.2.1, .int .i64 x.2.2.2.2.2.2] 36)).alloc (.cells #[.string y.1, J g1, J g2, .bool y.2.2.2.1, .int .i64 y.2.2.2.2.1.1, .int .i64 y.2.2.2.2.1.2.1, .int .i64 y.2.2.2.2.1.2.2, .int .i64 y.2.2.2.2.2.1, .int .i64 y.2.2.2.2.2.2] 36)) g2.1 g2.2.1 g2.2.2 y.2.2.1) := SlAt.on RTaint.firm hY2 hb0
 have hB1 : BoxL ((w.alloc (.cells #[.string x.1, J h1, J h2, .bool x.2.2.2.1, .int .i64 x.2.2.2.2.1.1, .int .i64 x.2.2.2.2.1.2.1, .int .i64 x.2.2.2.2.1.2.2, .int .i64 x.2.2.2.2.2.1, .int .i64 x.2.2.2.2.2.2] 36)).alloc (.cells #[.string y.1, J g1, J g2, .bool y.2.2.2.1, .int .i64 y.2.2.2.2.1.1, .int .i64 y.2.2.2.2.1.2.1, .int .i64 y.2.2.2.2.1.2.2, .int .i64 y.2.2.2.2.2.1, .int .i64 y.2.2.2.2.2.2] 36)) w.heap.size [.string x.1, J h1, J h2, .bool x.2.2.2.1, .int .i64 x.2.2.2.2.1.1, .int .i64 x.2.2.2.2.1.2.1, .int .i64 x.2.2.2.2.1.2.2, .int .i64 x.2.2.2.2.2.1, .int .i64 x.2.2.2.2.2.2] := (BoxL.new w 36 [.string x.1, J h1, J h2, .bool x.2.2.2.1, .int .i64 x.2.2.2.2.1.1, .int .i64 x.2.2.2.2.1.2.1, .int .i64 x.2.2.2.2.1.2.2, .int .i64 x.2.2.2.2.2.1, .int .i64 x.2.2.2.2.2.2]).on ((Below.refl _ _).alloc (Nat.le_refl _) (.cells #[.string y.1, J g1, J g2, .bool y.2.2.2.1, .int .i64 y.2.2.2.2.1.1, .int .i64 y.2.2.2.2.1.2.1, .int .i64 y.2.2.2.2.1.2.2, .int .i64 y.2.2.2.2.2.1, .int .i64 y.2.2.2.2.2.2] 36))
 have hB2 : BoxL ((w.alloc (.cells #[.string x.1, J h1, J h2, .bool x.2.2.2.1, .int .i64 x.2.2.2.2.1.1, .int .i64 x.2.2.2.2.1.2.1, .int .i64 x.2.2.2.2.1.2.2, .int .i64 x.2.2.2.2.2.1, .int .i64 x.2.2.2.2.2.2] 36)).alloc (.cells #[.string y.1, J g1, J g2, .bool y.2.2.2.1, .int .i64 y.2.2.2.2.1.1, .int .i64 y.2.2.2.2.1.2.1, .int .i64 y.2.2.2.2.1.2.2, .int .i64 y.2.2.2.2.2.1, .int .i64 y.2.2.2.2.2.2] 36)) (w.heap.size + 1) [.string y.1, J g1, J g2, .bool y.2.2.2.1, .int .i64 y.2.2.2.2.1.1, .int .i64 y.2.2.2.2.1.2.1, .int .i64 y.2.2.2.2.1.2.2, .int .i64 y.2.2.2.2.2.1, .int .i64 y.2.2.2.2.2.2] := by
  have := BoxL.new (w.alloc (.cells #[.string x.1, J h1, J h2, .bool x.2.2.2.1, .int .i64 x.2.2.2.2.1.1, .int .i64 x.2.2.2.2.1.2.1, .int .i64 x.2.2.2.2.1.2.2, .int .i64 x.2.2.2.2.2.1, .int .i64 x.2.2.2.2.2.2] 36)) 36 [.string y.1, J g1, J g2, .bool y.2.2.2.1, .int .i64 y.2.2.2.2.1.1, .int .i64 y.2.2.2.2.1.2.1, .int .i64 y.2.2.2.2.1.2.2, .int .i64 y.2.2.2.2.2.1, .int .i64 y.2.2.2.2.2.2]
  simpa using this
 clear h h' hX hY hX2 hY2
 obtain ⟨r, hr⟩ : ∃ r, decide (x.2.1 = y.2.1) = r := ⟨_, rfl⟩
 rw [hr] at HC0
 have HR : Hid (r = true ↔ x.2.1 = y.2.1) := by rw [Hid, ← hr]; exact decide_eq_true_iff
 clear hr
 have hgr := guardR
 have hgt := guardTn
 obtain ⟨xo, hxo⟩ : ∃ b, x.2.2.2.1 = b := ⟨_, rfl⟩
 obtain ⟨yo, hyo⟩ : ∃ b, y.2.2.2.1 = b := ⟨_, rfl⟩
 have Nq1 : Hid (x = y → xo = yo) := fun e => by rw [← hxo, ← hyo, e]
 have Mq1 : Hid (xo = yo → x.2.2.2.1 = y.2.2.2.1) := fun e => by rw [hxo, hyo, e]
 simp only [hxo, hyo] at hb0 HC0 HX HY hB1 hB2 ⊢
 clear hxo hyo
 obtain ⟨q0, hq0⟩ : ∃ q0 : Bool, (x.1.toList == y.1.toList) = q0 := ⟨_, rfl⟩
 have Nq0 : Hid (x = y → q0 = true) := fun e => by subst e; rw [← hq0]; exact beq_self_eq_true _
 have Mq0 : Hid (q0 = true → x.1 = y.1) := fun e => (sEq_iff _ _).1 (hq0.trans e)
 have kq0 : (!(x.1.toList == y.1.toList)) = !q0 := by rw [← hq0]; first | done | rfl
 clear hq0
 obtain ⟨q2, hq2⟩ : ∃ q2 : Bool, ((x.2.2.2.2.1.1 == y.2.2.2.2.1.1) && ((x.2.2.2.2.1.2.1 == y.2.2.2.2.1.2.1) && (x.2.2.2.2.1.2.2 == y.2.2.2.2.1.2.2))) = q2 := ⟨_, rfl⟩
 have nR := neqR x.2.2.2.2.1 y.2.2.2.2.1
 rw [hq2] at nR
 have Nq2 : Hid (x = y → q2 = true) := fun e => by subst e; rw [← hq2]; simp
 have Mq2 : Hid (q2 = true → x.2.2.2.2.1 = y.2.2.2.2.1) := fun e => (res_iff _ _).1 (hq2.trans e)
 clear hq2
 obtain ⟨q3, hq3⟩ : ∃ q3 : Bool, (x.2.2.2.2.2.1 == y.2.2.2.2.2.1) = q3 := ⟨_, rfl⟩
 have Nq3 : Hid (x = y → q3 = true) := fun e => by subst e; rw [← hq3]; exact beq_self_eq_true _
 have Mq3 : Hid (q3 = true → x.2.2.2.2.2.1 = y.2.2.2.2.2.1) := fun e => beq_iff_eq.1 (hq3.trans e)
 have kq3 : (x.2.2.2.2.2.1 != y.2.2.2.2.2.1) = !q3 := by rw [← hq3]; first | done | rfl
 clear hq3
 obtain ⟨q4, hq4⟩ : ∃ q4 : Bool, (x.2.2.2.2.2.2 == y.2.2.2.2.2.2) = q4 := ⟨_, rfl⟩
 have Nq4 : Hid (x = y → q4 = true) := fun e => by subst e; rw [← hq4]; exact beq_self_eq_true _
 have Mq4 : Hid (q4 = true → x.2.2.2.2.2.2 = y.2.2.2.2.2.2) := fun e => beq_iff_eq.1 (hq4.trans e)
 have kq4 : (x.2.2.2.2.2.2 != y.2.2.2.2.2.2) = !q4 := by rw [← hq4]; first | done | rfl
 clear hq4
 cases q0
 ·
  have HN : Hid ((false = true) ↔ x = y) := ⟨(fun h => by cases h), fun e => absurd (Nq0.out e) (by decide)⟩
  simp only [Bool.not_false] at kq0
  go_enter func42, ntmps42
  go_wp2_with fail
  go_ret
  exact ⟨tells HN.out, hb0⟩
 ·
  simp only [Bool.not_true] at kq0
  have HNo : Hid (xo ≠ yo → ((false = true) ↔ x = y)) := fun hn => ⟨(fun h => by cases h), fun e => absurd (Nq1.out e) hn⟩
  cases xo <;> cases yo
  case false.true | true.false =>
   have HN := HNo.out (by decide)
   have HN2 : Hid ((false = true) ↔ x = y) := HN
   clear HN HNo
   go_enter func42, ntmps42
   go_wp2_with fail
   go_ret
   exact ⟨tells HN2.out, hb0⟩
  all_goals
   cases q2
   ·
    have HN : Hid ((false = true) ↔ x = y) := ⟨(fun h => by cases h), fun e => absurd (Nq2.out e) (by decide)⟩
    simp only [Bool.not_false] at nR
    go_enter func42, ntmps42
    go_wp2_with fail
    go_ret
    exact ⟨tells HN.out, hb0⟩
   ·
    simp only [Bool.not_true] at nR
    cases q3
    ·
     have HN : Hid ((false = true) ↔ x = y) := ⟨(fun h => by cases h), fun e => absurd (Nq3.out e) (by decide)⟩
     simp only [Bool.not_false] at kq3
     go_enter func42, ntmps42
     go_wp2_with fail
     go_ret
     exact ⟨tells HN.out, hb0⟩
    ·
     simp only [Bool.not_true] at kq3
     cases q4
     ·
      have HN : Hid ((false = true) ↔ x = y) := ⟨(fun h => by cases h), fun e => absurd (Nq4.out e) (by decide)⟩
      simp only [Bool.not_false] at kq4
      go_enter func42, ntmps42
      go_wp2_with fail
      go_ret
      exact ⟨tells HN.out, hb0⟩
     ·
      simp only [Bool.not_true] at kq4
      go_enter func42, ntmps42
      go_wp2_with fail
      refine HC0.mono ?_
      rintro e w1 ⟨rfl, q, hq⟩
      clear HC0
      have hb1 : Below w.heap.size w w1 := by rw [hq]; exact below_drewN hb0 _
      have k1 := BoxL.on (u' := w1) hB1 (by rw [hq]; exact below_drewN (Below.refl _ _) _)
      have k2 := BoxL.on (u' := w1) hB2 (by rw [hq]; exact below_drewN (Below.refl _ _) _)
      have HX1 : Hid (SlAt RTaint 3 40 A w1 h2.1 h2.2.1 h2.2.2 x.2.2.1) := SlAt.on RTaint.firm HX.out (by rw [hq]; exact below_drewN (Below.refl _ _) _)
      have HY1 : Hid (SlAt RTaint 3 40 A' w1 g2.1 g2.2.1 g2.2.2 y.2.2.1) := SlAt.on RTaint.firm HY.out (by rw [hq]; exact below_drewN (Below.refl _ _) _)
      clear HX HY hB1 hB2 hb0 hq
      have K1 : Hid (BoxL w1 w.heap.size _) := k1
      have K2 : Hid (BoxL w1 (w.heap.size + 1) _) := k2
      obtain ⟨e2, _⟩ := k1.2 2 _ rfl
      obtain ⟨f2, _⟩ := k2.2 2 _ rfl
      clear k1 k2
      cases r
      ·
       have HN : Hid ((false = true) ↔ x = y) := ⟨(fun h => by cases h), fun e => absurd (HR.out.2 (by rw [e])) (by decide)⟩
       go_wp2_with fail
       go_ret
       exact ⟨tells HN.out, hb1⟩
      ·
       have hlx := HX1.out.1
       have hly := HY1.out.1
       have hlen := HX1.out.len (by decide)
       have HLX : Hid (x.2.2.1.length = h2.2.1) := hlx
       have HLY : Hid (y.2.2.1.length = g2.2.1) := hly
       clear hlx hly
       by_cases hnm : h2.2.1 = g2.2.1
       ·
        have hne : ((h2.2.1 : Int) != (g2.2.1 : Int)) = false := by rw [hnm]; simp
        go_wp2_with fail
        go_loopw [5] (fun i wr => ∃ k : Nat, k ≤ h2.2.1 ∧ i = .int .i64 k ∧ Below w1.heap.size w1 wr ∧ Hid (∀ j, j < k → x.2.2.1.getD j default = y.2.2.1.getD j default)) (fun i _ => h2.2.1 - (intOf i).toNat)
        case atStart => exact ⟨0, Nat.zero_le _, rfl, Below.refl _ _, fun j hj => absurd hj (Nat.not_lt_zero _)⟩
        case round =>
         obtain ⟨k, hk, rfl, hbel, hall⟩ := hrel
         obtain ⟨l2, _⟩ := (K1.out.on hbel).2 2 _ rfl
         obtain ⟨m2, _⟩ := (K2.out.on hbel).2 2 _ rfl
         by_cases hlt : k < h2.2.1
         ·
          have hltz : (k : Int) < (h2.2.1 : Int) := by omega
          have hltz2 : (k : Int) < (g2.2.1 : Int) := by omega
          obtain ⟨B, off, eB, hBl, _, cs, hra, hva⟩ := (HX1.out.on RTaint.firm hbel).get hlt
          obtain ⟨B', off', eB', hBl', _, cs', hrb, hvb⟩ := (HY1.out.on RTaint.firm hbel).get (show k < g2.2.1 by omega)
          obtain ⟨rfl, _⟩ := hra.out
          obtain ⟨rfl, _⟩ := hrb.out
          have d0 := hva 0 _ rfl
          have d1 := hva 1 _ rfl
          have d2 := hva 2 _ rfl
          have b0 := hvb 0 _ rfl
          have b1 := hvb 1 _ rfl
          have b2 := hvb 2 _ rfl
          rw [Nat.add_zero] at d0 b0
          change _ = some (Value.slice h2.1 _ _) at l2
          rw [eB] at l2
          change _ = some (Value.slice g2.1 _ _) at m2
          rw [eB'] at m2
          have HG : Hid (x.2.2.1.getD k default = y.2.2.1.getD k default → ∀ j, j < k + 1 → x.2.2.1.getD j default = y.2.2.1.getD j default) := fun h j hj => by
           rcases Nat.lt_succ_iff_lt_or_eq.1 hj with h' | rfl
           ·
            exact hall.out j h'
           ·
            exact h
          have HF : Hid (x = y → x.2.2.1.getD k default = y.2.2.1.getD k default) := fun e => by rw [e]
          have nT := neqTn (x.2.2.1.getD k default) (y.2.2.1.getD k default)
          have tI := tEq_iff (x.2.2.1.getD k default) (y.2.2.1.getD k default)
          clear hall hva hvb hra hrb e2 f2
          generalize x.2.2.1.getD k default = tx at d0 d1 d2 HG HF nT tI
          generalize y.2.2.1.getD k default = ty at b0 b1 b2 HG HF nT tI
          cases hte : tEq tx ty
          ·
           have HN : Hid ((false = true) ↔ x = y) := ⟨(fun h => by cases h), fun e => absurd (tI.2 (HF.out e)) (by rw [hte]; decide)⟩
           rw [hte] at nT
           simp only [Bool.not_false] at nT
           clear HG HF tI hte
           go_wp2_with fail
           go_quiet (fail)
           go_wp2_with fail
           go_ret
           exact ⟨tells HN.out, on2 hb1 (on2 hbel (below_drewN (Below.refl _ _) _))⟩
          ·
           have HG2 : Hid (∀ j, j < k + 1 → x.2.2.1.getD j default = y.2.2.1.getD j default) := HG.out (tI.1 hte)
           rw [hte] at nT
           simp only [Bool.not_true] at nT
           clear HG HF tI hte
           go_wp2_with fail
           go_quiet (fail)
           go_wp2_with fail
           go_roundw
           case rel => exact ⟨k + 1, by omega, by go_num, on2 hbel (below_drewN (Below.refl _ _) _), HG2⟩
           case measure => simp [intOf]; omega
         ·
          have HN : Hid (x = y) := Prod.ext (Mq0.out (by trivial)) (Prod.ext (HR.out.1 (by trivial)) (Prod.ext (list_same (by rw [HLX.out, HLY.out]; exact hnm) (fun j hj => hall.out j (by rw [HLX.out] at hj; omega))) (Prod.ext (Mq1.out (by trivial)) (Prod.ext (Mq2.out (by trivial)) (Prod.ext (Mq3.out (by trivial)) (Mq4.out (by trivial)))))))
          clear hall
          go_wp2_with fail
          go_ret
          exact ⟨tells ⟨fun _ => HN.out, fun _ => rfl⟩, on2 hb1 hbel⟩
       ·
        have hne : ((h2.2.1 : Int) != (g2.2.1 : Int)) = true := by rw [bne_iff_ne]; omega
        have HN : Hid ((false = true) ↔ x = y) := ⟨(fun h => by cases h), fun e => absurd (by rw [← HLX.out, ← HLY.out, e]) hnm⟩
        go_wp2_with fail
        go_ret
        exact ⟨tells HN.out, hb1⟩
def emptyL {α : Type} (L : List α) : Bool := decide (L.length = 0)
def resZ (r : ResD) : Bool := (r.1 == 0) && ((r.2.1 == 0) && (r.2.2 == 0))
def blankBudget (x : BudgetD) : Bool := sNil x.1 && emptyL x.2.1 && (x.2.2 == 0)
def blankVolume (x : VolumeD) : Bool := sNil x.1 && (x.2.1 == 0) && sNil x.2.2.1 && emptyL x.2.2.2.1 && sNil x.2.2.2.2
def blankClaim (x : ClaimD) : Bool := sNil x.1 && ((x.2.1 == 0) && (sNil x.2.2.1 && sNil x.2.2.2))
def blankClass (x : ClassD) : Bool := sNil x.1 && !x.2
def blankNode (x : NodeD) : Bool := (emptyL x.2.1 && emptyL x.2.2.1) && sNil x.1 && !x.2.2.2.1 && resZ x.2.2.2.2.1 && (x.2.2.2.2.2.1 == 0) && (x.2.2.2.2.2.2 == 0)
def blankPod (x : PodD) : Bool := (emptyL x.2.2.1 && emptyL x.2.2.2.2.1 && emptyL x.2.2.2.2.2.1 && emptyL x.2.2.2.2.2.2.1 && emptyL x.2.2.2.2.2.2.2.1 && emptyL x.2.2.2.2.2.2.2.2.1 && emptyL x.2.2.2.2.2.2.2.2.2.1 && emptyL x.2.2.2.2.2.2.2.2.2.2.1 && emptyL x.2.2.2.2.2.2.2.2.2.2.2.1) && sNil x.1 && (x.2.1 == 0) && resZ x.2.2.2.1 && sNil x.2.2.2.2.2.2.2.2.2.2.2.2.1 && sNil x.2.2.2.2.2.2.2.2.2.2.2.2.2
theorem sNil_eq (s : ByteArray) : sEq s ⟨#[]⟩ = sNil s := by
 unfold sEq sNil
 rw [show (ByteArray.mk #[]).toList = [] from by simp [ByteArray.toList, ByteArray.toList.loop, ByteArray.size]]
 cases s.toList <;> rfl
theorem eqR0 (x : ResD) (w : World) : Sem.run prog (binOp .eql 24 (.agg #[.int .i64 x.1, .int .i64 x.2.1, .int .i64 x.2.2]) (.agg #[.int .i64 0, .int .i64 0, .int .i64 0])) w = .ok (.bool (resZ x)) w := by
 have u3 := underlying3
 have a3 := Tryz.isAgg3
 have z3 := Tryz.sizeOf3
 have hS : prog.underlying 24 = some (.struct (prog.fieldsOf 24)) := by kernel_rfl
 have hp : prog.stoodInHeld 24 = false := by kernel_rfl
 rw [run_eql_struct, show (10000 : Nat) = 9999 + 1 from rfl, run_equalIn_agg w 9999 24 _ _ hS hp]
 simp only [Program.fieldsOf, underlying24]
 go_simp
 simp only [resZ]
 by_cases h1 : x.1 = 0 <;> by_cases h2 : x.2.1 = 0 <;> by_cases h3 : x.2.2 = 0 <;> simp [h1, h2, h3]
theorem guardC : prog.eqGuardType prog.depth 42 = false := by kernel_rfl
theorem guardM : prog.eqGuardType prog.depth 40 = false := by kernel_rfl
theorem eqC0 (x : ClassD) (w : World) : Sem.run prog (binOp .eql 42 (.agg #[.string x.1, .bool x.2]) (.agg #[.string ⟨#[]⟩, .bool false])) w = .ok (.bool (blankClass x)) w := by
 have u4 := underlying4
 have a4 := Tryz.isAgg4
 have z4 := Tryz.sizeOf4
 have u9 := underlying9
 have a9 := Tryz.isAgg9
 have z9 := Tryz.sizeOf9
 have hS : prog.underlying 42 = some (.struct (prog.fieldsOf 42)) := by kernel_rfl
 have hp : prog.stoodInHeld 42 = false := by kernel_rfl
 rw [run_eql_struct, show (10000 : Nat) = 9999 + 1 from rfl, run_equalIn_agg w 9999 42 _ _ hS hp]
 simp only [Program.fieldsOf, underlying42]
 go_simp
 obtain ⟨s, b⟩ := x
 simp only [blankClass, sNil]
 cases b <;> by_cases h : s.toList = [] <;> simp [h]
theorem eqM0 (x : ClaimD) (w : World) : Sem.run prog (binOp .eql 40 (.agg #[.string x.1, .int .i64 x.2.1, .string x.2.2.1, .string x.2.2.2]) (.agg #[.string ⟨#[]⟩, .int .i64 0, .string ⟨#[]⟩, .string ⟨#[]⟩])) w = .ok (.bool (blankClaim x)) w := by
 have u3 := underlying3
 have a3 := Tryz.isAgg3
 have z3 := Tryz.sizeOf3
 have u9 := underlying9
 have a9 := Tryz.isAgg9
 have z9 := Tryz.sizeOf9
 have hS : prog.underlying 40 = some (.struct (prog.fieldsOf 40)) := by kernel_rfl
 have hp : prog.stoodInHeld 40 = false := by kernel_rfl
 rw [run_eql_struct, show (10000 : Nat) = 9999 + 1 from rfl, run_equalIn_agg w 9999 40 _ _ hS hp]
 simp only [Program.fieldsOf, underlying40]
 go_simp
 simp only [blankClaim, sNil]
 by_cases h1 : x.1.toList = [] <;> by_cases h2 : x.2.1 = 0 <;> by_cases h3 : x.2.2.1.toList = [] <;> by_cases h4 : x.2.2.2.toList = [] <;> simp [h1, h2, h3, h4]
theorem Class_blank (c : List Value) (A : Where) (x : ClassD) (w : World) (h : Hid (RClass A w c x)) : Calls prog 275 #[.agg #[], .agg c.toArray] w fun e w' => e = .returned (.bool (blankClass x)) ∧ Below w.heap.size w w' := by
 obtain ⟨rfl, _⟩ := h.out.out
 have hE := eqC0 x
 have hG := guardC
 generalize blankClass x = r at hE ⊢
 go_enter func275, ntmps275
 go_wp2_with fail
 go_ret
 exact ⟨rfl, by go_grown⟩
theorem Claim_blank (c : List Value) (A : Where) (x : ClaimD) (w : World) (h : Hid (RClaim A w c x)) : Calls prog 244 #[.agg #[], .agg c.toArray] w fun e w' => e = .returned (.bool (blankClaim x)) ∧ Below w.heap.size w w' := by
 obtain ⟨rfl, _⟩ := h.out.out
 have hE := eqM0 x
 have hG := guardM
 generalize blankClaim x = r at hE ⊢
 go_enter func244, ntmps244
 go_wp2_with fail
 go_ret
 exact ⟨rfl, by go_grown⟩
theorem Budget_blank (c : List Value) (A : Where) (x : BudgetD) (w : World) (h : Hid (RBudget A w c x)) : Calls prog 306 #[.agg #[], .agg c.toArray] w fun e w' => e = .returned (.bool (blankBudget x)) ∧ Below w.heap.size w w' := by
 obtain ⟨h1, rfl, _, hs⟩ := h.out.out
 have HS : Hid (SlAt RReq 3 48 A w h1.1 h1.2.1 h1.2.2 x.2.1) := hs
 clear h hs
 have HB : Hid (Below w.heap.size w ((w.alloc (.cells #[] 157)).alloc (.cells #[.string x.1, J h1, .int .i64 x.2.2] 44))) := by unfold Hid; go_grown
 obtain ⟨b0, e0⟩ : ∃ b : Bool, sNil x.1 = b := ⟨_, rfl⟩
 obtain ⟨b1, e1⟩ : ∃ b : Bool, emptyL x.2.1 = b := ⟨_, rfl⟩
 obtain ⟨b2, e2⟩ : ∃ b : Bool, (x.2.2 == 0) = b := ⟨_, rfl⟩
 have HF : Hid (blankBudget x = (b0 && b1 && b2)) := by rw [Hid, ← e0, ← e1, ← e2]; rfl
 have t0 : x.1.toList.isEmpty = b0 := by exact e0
 clear e0
 have t1 : ((h1.2.1 : Int) == 0) = b1 := by rw [← e1]; rw [emptyL, HS.out.1, Bool.eq_iff_iff]; simp
 clear e1
 have t2 : (x.2.2 == 0) = b2 := by exact e2
 clear e2
 cases b0
 ·
  go_enter func306, ntmps306
  go_wp2_with fail
  go_ret
  exact ⟨retb (by rw [HF.out] <;> simp), HB.out⟩
 cases b1
 ·
  go_enter func306, ntmps306
  go_wp2_with fail
  go_ret
  exact ⟨retb (by rw [HF.out] <;> simp), HB.out⟩
 cases b2
 ·
  go_enter func306, ntmps306
  go_wp2_with fail
  go_ret
  exact ⟨retb (by rw [HF.out] <;> simp), HB.out⟩
 go_enter func306, ntmps306
 go_wp2_with fail
 go_ret
 exact ⟨retb (by rw [HF.out] <;> simp), HB.out⟩
theorem Volume_blank (c : List Value) (A : Where) (x : VolumeD) (w : World) (h : Hid (RVolume A w c x)) : Calls prog 213 #[.agg #[], .agg c.toArray] w fun e w' => e = .returned (.bool (blankVolume x)) ∧ Below w.heap.size w w' := by
 obtain ⟨h3, rfl, _, _, hs, _⟩ := h.out.out
 have HS : Hid (SlAt RReq 3 48 A w h3.1 h3.2.1 h3.2.2 x.2.2.2.1) := hs
 clear h hs
 have HB : Hid (Below w.heap.size w ((w.alloc (.cells #[] 142)).alloc (.cells #[.string x.1, .int .i64 x.2.1, .string x.2.2.1, J h3, .string x.2.2.2.2] 38))) := by unfold Hid; go_grown
 obtain ⟨b0, e0⟩ : ∃ b : Bool, sNil x.1 = b := ⟨_, rfl⟩
 obtain ⟨b1, e1⟩ : ∃ b : Bool, (x.2.1 == 0) = b := ⟨_, rfl⟩
 obtain ⟨b2, e2⟩ : ∃ b : Bool, sNil x.2.2.1 = b := ⟨_, rfl⟩
 obtain ⟨b3, e3⟩ : ∃ b : Bool, emptyL x.2.2.2.1 = b := ⟨_, rfl⟩
 obtain ⟨b4, e4⟩ : ∃ b : Bool, sNil x.2.2.2.2 = b := ⟨_, rfl⟩
 have HF : Hid (blankVolume x = (b0 && b1 && b2 && b3 && b4)) := by rw [Hid, ← e0, ← e1, ← e2, ← e3, ← e4]; rfl
 have t0 : x.1.toList.isEmpty = b0 := by exact e0
 clear e0
 have t1 : (x.2.1 == 0) = b1 := by exact e1
 clear e1
 have t2 : x.2.2.1.toList.isEmpty = b2 := by exact e2
 clear e2
 have t3 : ((h3.2.1 : Int) == 0) = b3 := by rw [← e3]; rw [emptyL, HS.out.1, Bool.eq_iff_iff]; simp
 clear e3
 have t4 : x.2.2.2.2.toList.isEmpty = b4 := by exact e4
 clear e4
 cases b0
 ·
  go_enter func213, ntmps213
  go_wp2_with fail
  go_ret
  exact ⟨retb (by rw [HF.out] <;> simp), HB.out⟩
 cases b1
 ·
  go_enter func213, ntmps213
  go_wp2_with fail
  go_ret
  exact ⟨retb (by rw [HF.out] <;> simp), HB.out⟩
 cases b2
 ·
  go_enter func213, ntmps213
  go_wp2_with fail
  go_ret
  exact ⟨retb (by rw [HF.out] <;> simp), HB.out⟩
 cases b3
 ·
  go_enter func213, ntmps213
  go_wp2_with fail
  go_ret
  exact ⟨retb (by rw [HF.out] <;> simp), HB.out⟩
 cases b4
 ·
  go_enter func213, ntmps213
  go_wp2_with fail
  go_ret
  exact ⟨retb (by rw [HF.out] <;> simp), HB.out⟩
 go_enter func213, ntmps213
 go_wp2_with fail
 go_ret
 exact ⟨retb (by rw [HF.out] <;> simp), HB.out⟩
end Go.Proofs.YtfbnnfpnjjjfcaaGreat

