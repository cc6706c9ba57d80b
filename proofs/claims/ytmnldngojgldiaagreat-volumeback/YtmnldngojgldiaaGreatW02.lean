/- base.SameVolume, SameBudget tell whether two structs hold the same, and change nothing that was there. Condition: the arguments lie as is said of them. base.SameNode tells whether two nodes hold the same, and changes nothing that was there. Condition: the arguments lie as is said of them. -/
import Derived.Test.YtmnldngojgldiaaGreatW01
namespace Go.Proofs.YtmnldngojgldiaaGreat
open Go.RowKit
set_option linter.unusedSimpArgs false

/-- A call's end tells whether the two are one. -/
def TellsEq {α : Type} (e : Ending) (x y : α) : Prop := ∃ r, e = .returned (.bool r) ∧ (r = true ↔ x = y)
theorem tells {α : Type} {x y : α} {r : Bool} (h : r = true ↔ x = y) : TellsEq (.returned (.bool r)) x y := ⟨r, rfl, h⟩

set_option maxHeartbeats 2000000 in
theorem SameVolume_calls (cs ds : List Value) (A A' : Where) (x y : VolumeD) (w : World) (h : Hid (RVolume A w cs x)) (h' : Hid (RVolume A' w ds y)) : Calls Tryz.prog 20 #[.agg cs.toArray, .agg ds.toArray] w fun e w' => TellsEq e x y ∧ Below w.heap.size w w' := by
  obtain ⟨h3, rfl, _, _, hX, _⟩ := h.out.out
  obtain ⟨g3, rfl, _, _, hY, _⟩ := h'.out.out
  have hb0 : Below w.heap.size w ((w.alloc (.cells #[.string x.1, .int .i64 x.2.1, .string x.2.2.1, .slice h3.1 h3.2.1 h3.2.2, .string x.2.2.2.2] 49)).alloc (.cells #[.string y.1, .int .i64 y.2.1, .string y.2.2.1, .slice g3.1 g3.2.1 g3.2.2, .string y.2.2.2.2] 49)) := by go_grown
  have HC0 := SameReqs_calls h3.1 h3.2.1 h3.2.2 A x.2.2.2.1 g3.1 g3.2.1 g3.2.2 A' y.2.2.2.1 ((w.alloc (.cells #[.string x.1, .int .i64 x.2.1, .string x.2.2.1, .slice h3.1 h3.2.1 h3.2.2, .string x.2.2.2.2] 49)).alloc (.cells #[.string y.1, .int .i64 y.2.1, .string y.2.2.1, .slice g3.1 g3.2.1 g3.2.2, .string y.2.2.2.2] 49)) (SlAt.on RReq.firm hX hb0) (SlAt.on RReq.firm hY hb0)
  clear h h' hX hY
  obtain ⟨r, hr⟩ : ∃ r, decide (x.2.2.2.1 = y.2.2.2.1) = r := ⟨_, rfl⟩
  rw [hr] at HC0
  have HR : Hid (r = true ↔ x.2.2.2.1 = y.2.2.2.1) := by rw [Hid, ← hr]; exact decide_eq_true_iff
  clear hr
  obtain ⟨q0, hq0⟩ : ∃ q0 : Bool, (x.1.toList == y.1.toList) = q0 := ⟨_, rfl⟩
  have Nq0 : Hid (x = y → q0 = true) := fun e => by subst e; rw [← hq0]; exact beq_self_eq_true _
  have Mq0 : Hid (q0 = true → x.1 = y.1) := fun e => (sEq_iff _ _).1 (hq0.trans e)
  obtain ⟨q1, hq1⟩ : ∃ q1 : Bool, (x.2.1 == y.2.1) = q1 := ⟨_, rfl⟩
  have Nq1 : Hid (x = y → q1 = true) := fun e => by subst e; rw [← hq1]; exact beq_self_eq_true _
  have Mq1 : Hid (q1 = true → x.2.1 = y.2.1) := fun e => beq_iff_eq.1 (hq1.trans e)
  obtain ⟨q2, hq2⟩ : ∃ q2 : Bool, (x.2.2.1.toList == y.2.2.1.toList) = q2 := ⟨_, rfl⟩
  have Nq2 : Hid (x = y → q2 = true) := fun e => by subst e; rw [← hq2]; exact beq_self_eq_true _
  have Mq2 : Hid (q2 = true → x.2.2.1 = y.2.2.1) := fun e => (sEq_iff _ _).1 (hq2.trans e)
  obtain ⟨q3, hq3⟩ : ∃ q3 : Bool, (x.2.2.2.2.toList == y.2.2.2.2.toList) = q3 := ⟨_, rfl⟩
  have Nq3 : Hid (x = y → q3 = true) := fun e => by subst e; rw [← hq3]; exact beq_self_eq_true _
  have Mq3 : Hid (q3 = true → x.2.2.2.2 = y.2.2.2.2) := fun e => (sEq_iff _ _).1 (hq3.trans e)
  cases q0
  · have HN : Hid ((false = true) ↔ x = y) := ⟨(fun h => by cases h), fun e => absurd (Nq0.out e) (by decide)⟩
    go_enter Tryz.func20, Tryz.ntmps20
    go_wp2_with fail
    go_ret
    exact ⟨tells HN.out, hb0⟩
  · skip
    cases q1
    · have HN : Hid ((false = true) ↔ x = y) := ⟨(fun h => by cases h), fun e => absurd (Nq1.out e) (by decide)⟩
      go_enter Tryz.func20, Tryz.ntmps20
      go_wp2_with fail
      go_ret
      exact ⟨tells HN.out, hb0⟩
    · skip
      cases q2
      · have HN : Hid ((false = true) ↔ x = y) := ⟨(fun h => by cases h), fun e => absurd (Nq2.out e) (by decide)⟩
        go_enter Tryz.func20, Tryz.ntmps20
        go_wp2_with fail
        go_ret
        exact ⟨tells HN.out, hb0⟩
      · skip
        cases q3
        · have HN : Hid ((false = true) ↔ x = y) := ⟨(fun h => by cases h), fun e => absurd (Nq3.out e) (by decide)⟩
          go_enter Tryz.func20, Tryz.ntmps20
          go_wp2_with fail
          go_ret
          exact ⟨tells HN.out, hb0⟩
        · skip
          have HN : Hid (r = true ↔ x = y) := ⟨fun e => Prod.ext (Mq0.out rfl) (Prod.ext (Mq1.out rfl) (Prod.ext (Mq2.out rfl) (Prod.ext (HR.out.1 e) ((Mq3.out rfl))))), fun e => HR.out.2 (by rw [e])⟩
          go_enter Tryz.func20, Tryz.ntmps20
          go_wp2_with fail
          refine HC0.mono ?_
          rintro e w1 ⟨rfl, q, rfl⟩
          go_wp2_with fail
          go_ret
          exact ⟨tells HN.out, below_drewN hb0 _⟩

set_option maxHeartbeats 2000000 in
theorem SameBudget_calls (cs ds : List Value) (A A' : Where) (x y : BudgetD) (w : World) (h : Hid (RBudget A w cs x)) (h' : Hid (RBudget A' w ds y)) : Calls Tryz.prog 21 #[.agg cs.toArray, .agg ds.toArray] w fun e w' => TellsEq e x y ∧ Below w.heap.size w w' := by
  obtain ⟨h1, rfl, _, hX⟩ := h.out.out
  obtain ⟨g1, rfl, _, hY⟩ := h'.out.out
  have hb0 : Below w.heap.size w ((w.alloc (.cells #[.string x.1, .slice h1.1 h1.2.1 h1.2.2, .int .i64 x.2.2] 79)).alloc (.cells #[.string y.1, .slice g1.1 g1.2.1 g1.2.2, .int .i64 y.2.2] 79)) := by go_grown
  have HC0 := SameReqs_calls h1.1 h1.2.1 h1.2.2 A x.2.1 g1.1 g1.2.1 g1.2.2 A' y.2.1 ((w.alloc (.cells #[.string x.1, .slice h1.1 h1.2.1 h1.2.2, .int .i64 x.2.2] 79)).alloc (.cells #[.string y.1, .slice g1.1 g1.2.1 g1.2.2, .int .i64 y.2.2] 79)) (SlAt.on RReq.firm hX hb0) (SlAt.on RReq.firm hY hb0)
  clear h h' hX hY
  obtain ⟨r, hr⟩ : ∃ r, decide (x.2.1 = y.2.1) = r := ⟨_, rfl⟩
  rw [hr] at HC0
  have HR : Hid (r = true ↔ x.2.1 = y.2.1) := by rw [Hid, ← hr]; exact decide_eq_true_iff
  clear hr
  obtain ⟨q0, hq0⟩ : ∃ q0 : Bool, (x.1.toList == y.1.toList) = q0 := ⟨_, rfl⟩
  have Nq0 : Hid (x = y → q0 = true) := fun e => by subst e; rw [← hq0]; exact beq_self_eq_true _
  have Mq0 : Hid (q0 = true → x.1 = y.1) := fun e => (sEq_iff _ _).1 (hq0.trans e)
  obtain ⟨q1, hq1⟩ : ∃ q1 : Bool, (x.2.2 == y.2.2) = q1 := ⟨_, rfl⟩
  have Nq1 : Hid (x = y → q1 = true) := fun e => by subst e; rw [← hq1]; exact beq_self_eq_true _
  have Mq1 : Hid (q1 = true → x.2.2 = y.2.2) := fun e => beq_iff_eq.1 (hq1.trans e)
  cases q0
  · have HN : Hid ((false = true) ↔ x = y) := ⟨(fun h => by cases h), fun e => absurd (Nq0.out e) (by decide)⟩
    go_enter Tryz.func21, Tryz.ntmps21
    go_wp2_with fail
    go_ret
    exact ⟨tells HN.out, hb0⟩
  · skip
    cases q1
    · have HN : Hid ((false = true) ↔ x = y) := ⟨(fun h => by cases h), fun e => absurd (Nq1.out e) (by decide)⟩
      go_enter Tryz.func21, Tryz.ntmps21
      go_wp2_with fail
      go_ret
      exact ⟨tells HN.out, hb0⟩
    · skip
      have HN : Hid (r = true ↔ x = y) := ⟨fun e => Prod.ext (Mq0.out rfl) (Prod.ext (HR.out.1 e) ((Mq1.out rfl))), fun e => HR.out.2 (by rw [e])⟩
      go_enter Tryz.func21, Tryz.ntmps21
      go_wp2_with fail
      refine HC0.mono ?_
      rintro e w1 ⟨rfl, q, rfl⟩
      go_wp2_with fail
      go_ret
      exact ⟨tells HN.out, below_drewN hb0 _⟩
end Go.Proofs.YtmnldngojgldiaaGreat
namespace Go.Proofs.YtmnldngojgldiaaGreat
open Go.RowKit
set_option linter.unusedSimpArgs false

theorem guardR : Tryz.prog.eqGuardType Tryz.prog.depth 54 = false := by kernel_rfl
theorem guardTn : Tryz.prog.eqGuardType Tryz.prog.depth 120 = false := by kernel_rfl
theorem neqR (x y : ResD) (w : World) : Sem.run Tryz.prog (binOp .neq 54 (.agg #[.int .i64 x.1, .int .i64 x.2.1, .int .i64 x.2.2]) (.agg #[.int .i64 y.1, .int .i64 y.2.1, .int .i64 y.2.2])) w = .ok (.bool (!((x.1 == y.1) && ((x.2.1 == y.2.1) && (x.2.2 == y.2.2))))) w := by
  have u3 := Tryz.underlying3
  have a3 := Tryz.isAgg3
  have z3 := Tryz.sizeOf3
  have hS : Tryz.prog.underlying 54 = some (.struct (Tryz.prog.fieldsOf 54)) := by kernel_rfl
  have hp : Tryz.prog.stoodInHeld 54 = false := by kernel_rfl
  rw [run_neq_struct, show (10000 : Nat) = 9999 + 1 from rfl, run_equalIn_agg w 9999 54 _ _ hS hp]
  simp only [Program.fieldsOf, Tryz.underlying54]
  go_simp
  by_cases h1 : x.1 = y.1 <;> by_cases h2 : x.2.1 = y.2.1 <;> by_cases h3 : x.2.2 = y.2.2 <;> simp [h1, h2, h3]
theorem neqTn (x y : Tnt) (w : World) : Sem.run Tryz.prog (binOp .neq 120 (.agg #[.string x.1, .string x.2.1, .int .i64 x.2.2]) (.agg #[.string y.1, .string y.2.1, .int .i64 y.2.2])) w = .ok (.bool (!tEq x y)) w := by
  have u3 := Tryz.underlying3
  have a3 := Tryz.isAgg3
  have z3 := Tryz.sizeOf3
  have u9 := Tryz.underlying9
  have a9 := Tryz.isAgg9
  have z9 := Tryz.sizeOf9
  have hS : Tryz.prog.underlying 120 = some (.struct (Tryz.prog.fieldsOf 120)) := by kernel_rfl
  have hp : Tryz.prog.stoodInHeld 120 = false := by kernel_rfl
  rw [run_neq_struct, show (10000 : Nat) = 9999 + 1 from rfl, run_equalIn_agg w 9999 120 _ _ hS hp]
  simp only [Program.fieldsOf, Tryz.underlying120]
  go_simp
  simp only [tEq, sEq]
  by_cases h1 : x.1.toList = y.1.toList <;> by_cases h2 : x.2.1.toList = y.2.1.toList <;> by_cases h3 : x.2.2 = y.2.2 <;> simp [h1, h2, h3]
theorem tEq_iff (x y : Tnt) : tEq x y = true ↔ x = y := by
  simp only [tEq, Bool.and_eq_true, sEq_iff, beq_iff_eq, Prod.ext_iff]
theorem res_iff (x y : ResD) : ((x.1 == y.1) && ((x.2.1 == y.2.1) && (x.2.2 == y.2.2))) = true ↔ x = y := by
  simp only [Bool.and_eq_true, beq_iff_eq, Prod.ext_iff]
theorem list_same {α : Type} [Inhabited α] {L M : List α} (hl : L.length = M.length) (h : ∀ j, j < L.length → L.getD j default = M.getD j default) : L = M := by
  apply List.ext_getElem hl
  intro i h1 h2
  have := h i h1
  rwa [getE _ _ h1, getE _ _ h2] at this

set_option maxRecDepth 100000 in
set_option maxHeartbeats 4000000 in
theorem SameNode_calls (cs ds : List Value) (A A' : Where) (x y : NodeD) (w : World) (h : Hid (RNode A w cs x)) (h' : Hid (RNode A' w ds y)) : Calls Tryz.prog 19 #[.agg cs.toArray, .agg ds.toArray] w fun e w' => TellsEq e x y ∧ Below w.heap.size w w' := by
  obtain ⟨h1, h2, rfl, _, hX, hX2⟩ := h.out.out
  obtain ⟨g1, g2, rfl, _, hY, hY2⟩ := h'.out.out
  have hb0 : Below w.heap.size w ((w.alloc (.cells #[.string x.1, .slice h1.1 h1.2.1 h1.2.2, .slice h2.1 h2.2.1 h2.2.2, .bool x.2.2.2.1, .int .i64 x.2.2.2.2.1.1, .int .i64 x.2.2.2.2.1.2.1, .int .i64 x.2.2.2.2.1.2.2, .int .i64 x.2.2.2.2.2.1, .int .i64 x.2.2.2.2.2.2] 64)).alloc (.cells #[.string y.1, .slice g1.1 g1.2.1 g1.2.2, .slice g2.1 g2.2.1 g2.2.2, .bool y.2.2.2.1, .int .i64 y.2.2.2.2.1.1, .int .i64 y.2.2.2.2.1.2.1, .int .i64 y.2.2.2.2.1.2.2, .int .i64 y.2.2.2.2.2.1, .int .i64 y.2.2.2.2.2.2] 64)) := by go_grown
  have HC0 := SameLabels_calls h1.1 h1.2.1 h1.2.2 A x.2.1 g1.1 g1.2.1 g1.2.2 A' y.2.1 ((w.alloc (.cells #[.string x.1, .slice h1.1 h1.2.1 h1.2.2, .slice h2.1 h2.2.1 h2.2.2, .bool x.2.2.2.1, .int .i64 x.2.2.2.2.1.1, .int .i64 x.2.2.2.2.1.2.1, .int .i64 x.2.2.2.2.1.2.2, .int .i64 x.2.2.2.2.2.1, .int .i64 x.2.2.2.2.2.2] 64)).alloc (.cells #[.string y.1, .slice g1.1 g1.2.1 g1.2.2, .slice g2.1 g2.2.1 g2.2.2, .bool y.2.2.2.1, .int .i64 y.2.2.2.2.1.1, .int .i64 y.2.2.2.2.1.2.1, .int .i64 y.2.2.2.2.1.2.2, .int .i64 y.2.2.2.2.2.1, .int .i64 y.2.2.2.2.2.2] 64)) (SlAt.on RLabel.firm hX hb0) (SlAt.on RLabel.firm hY hb0)
  have HX : Hid (SlAt RTaint 3 40 A ((w.alloc (.cells #[.string x.1, .slice h1.1 h1.2.1 h1.2.2, .slice h2.1 h2.2.1 h2.2.2, .bool x.2.2.2.1, .int .i64 x.2.2.2.2.1.1, .int .i64 x.2.2.2.2.1.2.1, .int .i64 x.2.2.2.2.1.2.2, .int .i64 x.2.2.2.2.2.1, .int .i64 x.2.2.2.2.2.2] 64)).alloc (.cells #[.string y.1, .slice g1.1 g1.2.1 g1.2.2, .slice g2.1 g2.2.1 g2.2.2, .bool y.2.2.2.1, .int .i64 y.2.2.2.2.1.1, .int .i64 y.2.2.2.2.1.2.1, .int .i64 y.2.2.2.2.1.2.2, .int .i64 y.2.2.2.2.2.1, .int .i64 y.2.2.2.2.2.2] 64)) h2.1 h2.2.1 h2.2.2 x.2.2.1) := SlAt.on RTaint.firm hX2 hb0
  have HY : Hid (SlAt RTaint 3 40 A' ((w.alloc (.cells #[.string x.1, .slice h1.1 h1.2.1 h1.2.2, .slice h2.1 h2.2.1 h2.2.2, .bool x.2.2.2.1, .int .i64 x.2.2.2.2.1.1, .int .i64 x.2.2.2.2.1.2.1, .int .i64 x.2.2.2.2.1.2.2, .int .i64 x.2.2.2.2.2.1, .int .i64 x.2.2.2.2.2.2] 64)).alloc (.cells #[.string y.1, .slice g1.1 g1.2.1 g1.2.2, .slice g2.1 g2.2.1 g2.2.2, .bool y.2.2.2.1, .int .i64 y.2.2.2.2.1.1, .int .i64 y.2.2.2.2.1.2.1, .int .i64 y.2.2.2.2.1.2.2, .int .i64 y.2.2.2.2.2.1, .int .i64 y.2.2.2.2.2.2] 64)) g2.1 g2.2.1 g2.2.2 y.2.2.1) := SlAt.on RTaint.firm hY2 hb0
  have hB1 : BoxL ((w.alloc (.cells #[.string x.1, .slice h1.1 h1.2.1 h1.2.2, .slice h2.1 h2.2.1 h2.2.2, .bool x.2.2.2.1, .int .i64 x.2.2.2.2.1.1, .int .i64 x.2.2.2.2.1.2.1, .int .i64 x.2.2.2.2.1.2.2, .int .i64 x.2.2.2.2.2.1, .int .i64 x.2.2.2.2.2.2] 64)).alloc (.cells #[.string y.1, .slice g1.1 g1.2.1 g1.2.2, .slice g2.1 g2.2.1 g2.2.2, .bool y.2.2.2.1, .int .i64 y.2.2.2.2.1.1, .int .i64 y.2.2.2.2.1.2.1, .int .i64 y.2.2.2.2.1.2.2, .int .i64 y.2.2.2.2.2.1, .int .i64 y.2.2.2.2.2.2] 64)) w.heap.size [.string x.1, .slice h1.1 h1.2.1 h1.2.2, .slice h2.1 h2.2.1 h2.2.2, .bool x.2.2.2.1, .int .i64 x.2.2.2.2.1.1, .int .i64 x.2.2.2.2.1.2.1, .int .i64 x.2.2.2.2.1.2.2, .int .i64 x.2.2.2.2.2.1, .int .i64 x.2.2.2.2.2.2] := (BoxL.new w 64 [.string x.1, .slice h1.1 h1.2.1 h1.2.2, .slice h2.1 h2.2.1 h2.2.2, .bool x.2.2.2.1, .int .i64 x.2.2.2.2.1.1, .int .i64 x.2.2.2.2.1.2.1, .int .i64 x.2.2.2.2.1.2.2, .int .i64 x.2.2.2.2.2.1, .int .i64 x.2.2.2.2.2.2]).on ((Below.refl _ _).alloc (Nat.le_refl _) (.cells #[.string y.1, .slice g1.1 g1.2.1 g1.2.2, .slice g2.1 g2.2.1 g2.2.2, .bool y.2.2.2.1, .int .i64 y.2.2.2.2.1.1, .int .i64 y.2.2.2.2.1.2.1, .int .i64 y.2.2.2.2.1.2.2, .int .i64 y.2.2.2.2.2.1, .int .i64 y.2.2.2.2.2.2] 64))
  have hB2 : BoxL ((w.alloc (.cells #[.string x.1, .slice h1.1 h1.2.1 h1.2.2, .slice h2.1 h2.2.1 h2.2.2, .bool x.2.2.2.1, .int .i64 x.2.2.2.2.1.1, .int .i64 x.2.2.2.2.1.2.1, .int .i64 x.2.2.2.2.1.2.2, .int .i64 x.2.2.2.2.2.1, .int .i64 x.2.2.2.2.2.2] 64)).alloc (.cells #[.string y.1, .slice g1.1 g1.2.1 g1.2.2, .slice g2.1 g2.2.1 g2.2.2, .bool y.2.2.2.1, .int .i64 y.2.2.2.2.1.1, .int .i64 y.2.2.2.2.1.2.1, .int .i64 y.2.2.2.2.1.2.2, .int .i64 y.2.2.2.2.2.1, .int .i64 y.2.2.2.2.2.2] 64)) (w.heap.size + 1) [.string y.1, .slice g1.1 g1.2.1 g1.2.2, .slice g2.1 g2.2.1 g2.2.2, .bool y.2.2.2.1, .int .i64 y.2.2.2.2.1.1, .int .i64 y.2.2.2.2.1.2.1, .int .i64 y.2.2.2.2.1.2.2, .int .i64 y.2.2.2.2.2.1, .int .i64 y.2.2.2.2.2.2] := by
    have := BoxL.new (w.alloc (.cells #[.string x.1, .slice h1.1 h1.2.1 h1.2.2, .slice h2.1 h2.2.1 h2.2.2, .bool x.2.2.2.1, .int .i64 x.2.2.2.2.1.1, .int .i64 x.2.2.2.2.1.2.1, .int .i64 x.2.2.2.2.1.2.2, .int .i64 x.2.2.2.2.2.1, .int .i64 x.2.2.2.2.2.2] 64)) 64 [.string y.1, .slice g1.1 g1.2.1 g1.2.2, .slice g2.1 g2.2.1 g2.2.2, .bool y.2.2.2.1, .int .i64 y.2.2.2.2.1.1, .int .i64 y.2.2.2.2.1.2.1, .int .i64 y.2.2.2.2.1.2.2, .int .i64 y.2.2.2.2.2.1, .int .i64 y.2.2.2.2.2.2]
    simpa using this
  clear h h' hX hY hX2 hY2
  obtain ⟨r, hr⟩ : ∃ r, decide (x.2.1 = y.2.1) = r := ⟨_, rfl⟩
  rw [hr] at HC0
  have HR : Hid (r = true ↔ x.2.1 = y.2.1) := by rw [Hid, ← hr]; exact decide_eq_true_iff
  clear hr
  have hgr := guardR
  have hgt := guardTn
  obtain ⟨xo, hxo⟩ : ∃ b, x.2.2.2.1 = b := ⟨_, rfl⟩
  obtain ⟨yo, hyo⟩ : ∃ b, y.2.2.2.1 = b := ⟨_, rfl⟩
  have Nq1 : Hid (x = y → xo = yo) := fun e => by rw [← hxo, ← hyo, e]
  have Mq1 : Hid (xo = yo → x.2.2.2.1 = y.2.2.2.1) := fun e => by rw [hxo, hyo, e]
  simp only [hxo, hyo] at hb0 HC0 HX HY hB1 hB2 ⊢
  clear hxo hyo
  obtain ⟨q0, hq0⟩ : ∃ q0 : Bool, (x.1.toList == y.1.toList) = q0 := ⟨_, rfl⟩
  have Nq0 : Hid (x = y → q0 = true) := fun e => by subst e; rw [← hq0]; exact beq_self_eq_true _
  have Mq0 : Hid (q0 = true → x.1 = y.1) := fun e => (sEq_iff _ _).1 (hq0.trans e)
  have kq0 : (!(x.1.toList == y.1.toList)) = !q0 := by rw [← hq0]; first | done | rfl
  clear hq0
  obtain ⟨q2, hq2⟩ : ∃ q2 : Bool, ((x.2.2.2.2.1.1 == y.2.2.2.2.1.1) && ((x.2.2.2.2.1.2.1 == y.2.2.2.2.1.2.1) && (x.2.2.2.2.1.2.2 == y.2.2.2.2.1.2.2))) = q2 := ⟨_, rfl⟩
  have nR := neqR x.2.2.2.2.1 y.2.2.2.2.1
  rw [hq2] at nR
  have Nq2 : Hid (x = y → q2 = true) := fun e => by subst e; rw [← hq2]; simp
  have Mq2 : Hid (q2 = true → x.2.2.2.2.1 = y.2.2.2.2.1) := fun e => (res_iff _ _).1 (hq2.trans e)
  clear hq2
  obtain ⟨q3, hq3⟩ : ∃ q3 : Bool, (x.2.2.2.2.2.1 == y.2.2.2.2.2.1) = q3 := ⟨_, rfl⟩
  have Nq3 : Hid (x = y → q3 = true) := fun e => by subst e; rw [← hq3]; exact beq_self_eq_true _
  have Mq3 : Hid (q3 = true → x.2.2.2.2.2.1 = y.2.2.2.2.2.1) := fun e => beq_iff_eq.1 (hq3.trans e)
  have kq3 : (x.2.2.2.2.2.1 != y.2.2.2.2.2.1) = !q3 := by rw [← hq3]; first | done | rfl
  clear hq3
  obtain ⟨q4, hq4⟩ : ∃ q4 : Bool, (x.2.2.2.2.2.2 == y.2.2.2.2.2.2) = q4 := ⟨_, rfl⟩
  have Nq4 : Hid (x = y → q4 = true) := fun e => by subst e; rw [← hq4]; exact beq_self_eq_true _
  have Mq4 : Hid (q4 = true → x.2.2.2.2.2.2 = y.2.2.2.2.2.2) := fun e => beq_iff_eq.1 (hq4.trans e)
  have kq4 : (x.2.2.2.2.2.2 != y.2.2.2.2.2.2) = !q4 := by rw [← hq4]; first | done | rfl
  clear hq4
  cases q0
  · have HN : Hid ((false = true) ↔ x = y) := ⟨(fun h => by cases h), fun e => absurd (Nq0.out e) (by decide)⟩
    simp only [Bool.not_false] at kq0
    go_enter Tryz.func19, Tryz.ntmps19
    go_wp2_with fail
    go_ret
    exact ⟨tells HN.out, hb0⟩
  · simp only [Bool.not_true] at kq0
    have HNo : Hid (xo ≠ yo → ((false = true) ↔ x = y)) := fun hn => ⟨(fun h => by cases h), fun e => absurd (Nq1.out e) hn⟩
    cases xo <;> cases yo
    case false.true | true.false =>
      have HN := HNo.out (by decide)
      have HN2 : Hid ((false = true) ↔ x = y) := HN
      clear HN HNo
      go_enter Tryz.func19, Tryz.ntmps19
      go_wp2_with fail
      go_ret
      exact ⟨tells HN2.out, hb0⟩
    all_goals
      cases q2
      · have HN : Hid ((false = true) ↔ x = y) := ⟨(fun h => by cases h), fun e => absurd (Nq2.out e) (by decide)⟩
        simp only [Bool.not_false] at nR
        go_enter Tryz.func19, Tryz.ntmps19
        go_wp2_with fail
        go_ret
        exact ⟨tells HN.out, hb0⟩
      · simp only [Bool.not_true] at nR
        cases q3
        · have HN : Hid ((false = true) ↔ x = y) := ⟨(fun h => by cases h), fun e => absurd (Nq3.out e) (by decide)⟩
          simp only [Bool.not_false] at kq3
          go_enter Tryz.func19, Tryz.ntmps19
          go_wp2_with fail
          go_ret
          exact ⟨tells HN.out, hb0⟩
        · simp only [Bool.not_true] at kq3
          cases q4
          · have HN : Hid ((false = true) ↔ x = y) := ⟨(fun h => by cases h), fun e => absurd (Nq4.out e) (by decide)⟩
            simp only [Bool.not_false] at kq4
            go_enter Tryz.func19, Tryz.ntmps19
            go_wp2_with fail
            go_ret
            exact ⟨tells HN.out, hb0⟩
          · simp only [Bool.not_true] at kq4
            go_enter Tryz.func19, Tryz.ntmps19
            go_wp2_with fail
            refine HC0.mono ?_
            rintro e w1 ⟨rfl, q, hq⟩
            clear HC0
            have hb1 : Below w.heap.size w w1 := by rw [hq]; exact below_drewN hb0 _
            have k1 := BoxL.on (u' := w1) hB1 (by rw [hq]; exact below_drewN (Below.refl _ _) _)
            have k2 := BoxL.on (u' := w1) hB2 (by rw [hq]; exact below_drewN (Below.refl _ _) _)
            have HX1 : Hid (SlAt RTaint 3 40 A w1 h2.1 h2.2.1 h2.2.2 x.2.2.1) := SlAt.on RTaint.firm HX.out (by rw [hq]; exact below_drewN (Below.refl _ _) _)
            have HY1 : Hid (SlAt RTaint 3 40 A' w1 g2.1 g2.2.1 g2.2.2 y.2.2.1) := SlAt.on RTaint.firm HY.out (by rw [hq]; exact below_drewN (Below.refl _ _) _)
            clear HX HY hB1 hB2 hb0 hq
            have K1 : Hid (BoxL w1 w.heap.size _) := k1
            have K2 : Hid (BoxL w1 (w.heap.size + 1) _) := k2
            obtain ⟨e2, _⟩ := k1.2 2 _ rfl
            obtain ⟨f2, _⟩ := k2.2 2 _ rfl
            clear k1 k2
            cases r
            · have HN : Hid ((false = true) ↔ x = y) := ⟨(fun h => by cases h), fun e => absurd (HR.out.2 (by rw [e])) (by decide)⟩
              go_wp2_with fail
              go_ret
              exact ⟨tells HN.out, hb1⟩
            · have hlx := HX1.out.1
              have hly := HY1.out.1
              have hlen := HX1.out.len (by decide)
              have HLX : Hid (x.2.2.1.length = h2.2.1) := hlx
              have HLY : Hid (y.2.2.1.length = g2.2.1) := hly
              clear hlx hly
              by_cases hnm : h2.2.1 = g2.2.1
              · have hne : ((h2.2.1 : Int) != (g2.2.1 : Int)) = false := by rw [hnm]; simp
                go_wp2_with fail
                go_loopw [5] (fun i wr => ∃ k : Nat, k ≤ h2.2.1 ∧ i = .int .i64 k ∧ Below w1.heap.size w1 wr ∧ Hid (∀ j, j < k → x.2.2.1.getD j default = y.2.2.1.getD j default)) (fun i _ => h2.2.1 - (intOf i).toNat)
                case atStart => exact ⟨0, Nat.zero_le _, rfl, Below.refl _ _, fun j hj => absurd hj (Nat.not_lt_zero _)⟩
                case round =>
                  obtain ⟨k, hk, rfl, hbel, hall⟩ := hrel
                  obtain ⟨l2, _⟩ := (K1.out.on hbel).2 2 _ rfl
                  obtain ⟨m2, _⟩ := (K2.out.on hbel).2 2 _ rfl
                  by_cases hlt : k < h2.2.1
                  · have hltz : (k : Int) < (h2.2.1 : Int) := by omega
                    have hltz2 : (k : Int) < (g2.2.1 : Int) := by omega
                    obtain ⟨B, off, eB, hBl, _, cs, hra, hva⟩ := (HX1.out.on RTaint.firm hbel).get hlt
                    obtain ⟨B', off', eB', hBl', _, cs', hrb, hvb⟩ := (HY1.out.on RTaint.firm hbel).get (show k < g2.2.1 by omega)
                    obtain ⟨rfl, _⟩ := hra.out
                    obtain ⟨rfl, _⟩ := hrb.out
                    have d0 := hva 0 _ rfl
                    have d1 := hva 1 _ rfl
                    have d2 := hva 2 _ rfl
                    have b0 := hvb 0 _ rfl
                    have b1 := hvb 1 _ rfl
                    have b2 := hvb 2 _ rfl
                    rw [Nat.add_zero] at d0 b0
                    change _ = some (Value.slice h2.1 _ _) at l2
                    rw [eB] at l2
                    change _ = some (Value.slice g2.1 _ _) at m2
                    rw [eB'] at m2
                    have HG : Hid (x.2.2.1.getD k default = y.2.2.1.getD k default → ∀ j, j < k + 1 → x.2.2.1.getD j default = y.2.2.1.getD j default) := fun h j hj => by
                      rcases Nat.lt_succ_iff_lt_or_eq.1 hj with h' | rfl
                      · exact hall.out j h'
                      · exact h
                    have HF : Hid (x = y → x.2.2.1.getD k default = y.2.2.1.getD k default) := fun e => by rw [e]
                    have nT := neqTn (x.2.2.1.getD k default) (y.2.2.1.getD k default)
                    have tI := tEq_iff (x.2.2.1.getD k default) (y.2.2.1.getD k default)
                    clear hall hva hvb hra hrb e2 f2
                    generalize x.2.2.1.getD k default = tx at d0 d1 d2 HG HF nT tI
                    generalize y.2.2.1.getD k default = ty at b0 b1 b2 HG HF nT tI
                    cases hte : tEq tx ty
                    · have HN : Hid ((false = true) ↔ x = y) := ⟨(fun h => by cases h), fun e => absurd (tI.2 (HF.out e)) (by rw [hte]; decide)⟩
                      rw [hte] at nT
                      simp only [Bool.not_false] at nT
                      clear HG HF tI hte
                      go_wp2_with fail
                      go_quiet (fail)
                      go_wp2_with fail
                      go_ret
                      exact ⟨tells HN.out, on2 hb1 (on2 hbel (below_drewN (Below.refl _ _) _))⟩
                    · have HG2 : Hid (∀ j, j < k + 1 → x.2.2.1.getD j default = y.2.2.1.getD j default) := HG.out (tI.1 hte)
                      rw [hte] at nT
                      simp only [Bool.not_true] at nT
                      clear HG HF tI hte
                      go_wp2_with fail
                      go_quiet (fail)
                      go_wp2_with fail
                      go_roundw
                      case rel => exact ⟨k + 1, by omega, by go_num, on2 hbel (below_drewN (Below.refl _ _) _), HG2⟩
                      case measure => simp [intOf]; omega
                  · have HN : Hid (x = y) := Prod.ext (Mq0.out (by trivial)) (Prod.ext (HR.out.1 (by trivial)) (Prod.ext (list_same (by rw [HLX.out, HLY.out]; exact hnm) (fun j hj => hall.out j (by rw [HLX.out] at hj; omega))) (Prod.ext (Mq1.out (by trivial)) (Prod.ext (Mq2.out (by trivial)) (Prod.ext (Mq3.out (by trivial)) (Mq4.out (by trivial)))))))
                    clear hall
                    go_wp2_with fail
                    go_ret
                    exact ⟨tells ⟨fun _ => HN.out, fun _ => rfl⟩, on2 hb1 hbel⟩
              · have hne : ((h2.2.1 : Int) != (g2.2.1 : Int)) = true := by rw [bne_iff_ne]; omega
                have HN : Hid ((false = true) ↔ x = y) := ⟨(fun h => by cases h), fun e => absurd (by rw [← HLX.out, ← HLY.out, e]) hnm⟩
                go_wp2_with fail
                go_ret
                exact ⟨tells HN.out, hb1⟩
end Go.Proofs.YtmnldngojgldiaaGreat
