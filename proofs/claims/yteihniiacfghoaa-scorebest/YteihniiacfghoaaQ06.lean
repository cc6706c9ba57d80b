/- base.SamePod says yes of two pods that hold the same, and changes nothing that was there. Condition: the arguments lie as is said of them. How an info lies: its node in one place, its lists in another; base.SameInfo says yes of two that hold the same. Condition: the arguments lie as is said of them. Nothing of its own: what quant's texts stand on. quant's arithmetic over numbers: Clamp, Add, Sub of the program return what plain integers say, and change nothing; so do the document's own. No condition. quant's split and join of an amount of several things, and the two methods over members: what they return, and that they change nothing that was there. No condition. The document's own Plus, Minus and Fits of amounts of several things: what they return, and that they change nothing that was there. No condition. The document's Free and Clash. Condition: the arguments lie as is said of them. Steps of a region that draws its order and whose last operation (number n) waits for all others: what holds up to that one need not hold behind it. Plain facts on the model's walks. No condition. quant.Times and quant.Share, and the document's own, return what plain integers say, and change nothing. No condition. Structs that lie in memory, whatever their cells: read and written whole; results that are structs; what stays. Plain laws of the model's worlds. No condition. -/
import Derived.Test.YteihniiacfghoaaQ05
import Derived.Test.YteihniiacfghoaaQ04
import Derived.Test.YteihniiacfghoaaQ01
import Derived.Lib.ItoaNum
import Derived.WalkLawsBesides
import Derived.Deep.QuietTactic
import Derived.BigQuiet
import Derived.BigRegion
import Derived.Deep.RegionHeld3
import Derived.Deep.DeepCutAuto
import Derived.Outline
import Derived.Handy
import Derived.StillTail
import Derived.Test.YteihniiacfghoaaQ03
import Derived.Deep.MidRow
namespace Go.Proofs.Yteihniiacfghoaa
open Go.RowKit
set_option linter.unusedSimpArgs false
set_option maxRecDepth 100000

theorem guardBe : Try.prog.eqGuardType Try.prog.depth 90 = false := by kernel_rfl
theorem neqR_same (a b c : Int) (w : World) : Sem.run Try.prog (binOp .neq 24 (.agg #[.int .i64 a, .int .i64 b, .int .i64 c]) (.agg #[.int .i64 a, .int .i64 b, .int .i64 c])) w = .ok (.bool false) w := by
  have := neqR (a, b, c) (a, b, c) w
  simpa using this
theorem neqBe_same (a b : ByteArray) (c : Bool) (d : Int) (w : World) : Sem.run Try.prog (binOp .neq 90 (.agg #[.string a, .string b, .bool c, .int .i64 d]) (.agg #[.string a, .string b, .bool c, .int .i64 d])) w = .ok (.bool false) w := by
  have u3 := Try.underlying3
  have a3 := Try.isAgg3
  have z3 := Try.sizeOf3
  have u9 := Try.underlying9
  have a9 := Try.isAgg9
  have z9 := Try.sizeOf9
  have u4 := Try.underlying4
  have a4 := Try.isAgg4
  have z4 := Try.sizeOf4
  have hS : Try.prog.underlying 90 = some (.struct (Try.prog.fieldsOf 90)) := by kernel_rfl
  have hp : Try.prog.stoodInHeld 90 = false := by kernel_rfl
  rw [run_neq_struct, show (10000 : Nat) = 9999 + 1 from rfl, run_equalIn_agg w 9999 90 _ _ hS hp]
  simp only [Program.fieldsOf, Try.underlying90]
  go_simp
/-- The blocks of the two parameters. -/
structure PB2 (w u : World) (P Y : List Value) : Prop where
  p : BoxL u w.heap.size P
  y : BoxL u (w.heap.size + 1) Y
  b : Below w.heap.size w u
theorem PB2.on {w u u' : World} {P Y : List Value} (h : PB2 w u P Y) (hb : Below u.heap.size u u') : PB2 w u' P Y := ⟨h.p.on hb, h.y.on hb, on2 h.b hb⟩

end Go.Proofs.Yteihniiacfghoaa
namespace Go.Proofs.Yteihniiacfghoaa
open Go.RowKit
set_option linter.unusedSimpArgs false
set_option maxRecDepth 100000

/-- An info: its node's lists lie where A says, its own where F says. -/
def InfoAt (A F : Where) (w : World) (cs : List Value) (x : InfoD) : Prop :=
  ∃ c d, cs = c ++ d ∧ RNode A w c x.1 ∧ RPair (RSl RStr 1 16) (RPair RRes (RPair (RSl RInt 1 8) (RSl RStr 1 16))) F w d x.2
theorem InfoAt.info {A F : Where} {w : World} {cs : List Value} {x : InfoD} (h : InfoAt A F w cs x) : RInfo (fun b => A b ∨ F b) w cs x := by
  obtain ⟨c, d, e, h1, h2⟩ := h
  exact ⟨c, d, e, RNode.firm.weak h1 (fun _ _ h => .inl h), (Firm.pair (RSl.firm RStr.firm) (Firm.pair RRes.firm (Firm.pair (RSl.firm RInt.firm) (RSl.firm RStr.firm)))).weak h2 (fun _ _ h => .inr h)⟩
theorem InfoAt.kept {A F : Where} {w w' : World} {cs : List Value} {x : InfoD} (h : InfoAt A F w cs x) (hA : Kept A w w') (hF : Kept F w w') : InfoAt A F w' cs x := by
  obtain ⟨c, d, e, h1, h2⟩ := h
  exact ⟨c, d, e, RNode.firm.kept h1 hA, (Firm.pair (RSl.firm RStr.firm) (Firm.pair RRes.firm (Firm.pair (RSl.firm RInt.firm) (RSl.firm RStr.firm)))).kept h2 hF⟩
theorem InfoAt.weak {A A' F F' : Where} {w : World} {cs : List Value} {x : InfoD} (h : InfoAt A F w cs x) (hA : ∀ b, b < w.heap.size → A b → A' b) (hF : ∀ b, b < w.heap.size → F b → F' b) : InfoAt A' F' w cs x := by
  obtain ⟨c, d, e, h1, h2⟩ := h
  exact ⟨c, d, e, RNode.firm.weak h1 hA, (Firm.pair (RSl.firm RStr.firm) (Firm.pair RRes.firm (Firm.pair (RSl.firm RInt.firm) (RSl.firm RStr.firm)))).weak h2 hF⟩
theorem InfoAt.on {A F : Where} {w w' : World} {cs : List Value} {x : InfoD} (h : InfoAt A F w cs x) (hb : Below w.heap.size w w') : InfoAt A F w' cs x := h.kept (Kept.below hb) (Kept.below hb)
theorem InfoAt.len {A F : Where} {w : World} {cs : List Value} {x : InfoD} (h : InfoAt A F w cs x) : cs.length = 15 := RInfo.firm.len h.info
theorem InfoAt.one {A F : Where} {w : World} {cs : List Value} {x : InfoD} (h : InfoAt A F w cs x) : ∀ u ∈ cs, u.oneCell' = true := RInfo.firm.one h.info
theorem eqR_same (a b c : Int) (w : World) : Sem.run Try.prog (binOp .eql 24 (.agg #[.int .i64 a, .int .i64 b, .int .i64 c]) (.agg #[.int .i64 a, .int .i64 b, .int .i64 c])) w = .ok (.bool true) w := by
  have u3 := Try.underlying3
  have a3 := Try.isAgg3
  have z3 := Try.sizeOf3
  have hS : Try.prog.underlying 24 = some (.struct (Try.prog.fieldsOf 24)) := by kernel_rfl
  have hp : Try.prog.stoodInHeld 24 = false := by kernel_rfl
  rw [run_eql_struct, show (10000 : Nat) = 9999 + 1 from rfl, run_equalIn_agg w 9999 24 _ _ hS hp]
  simp only [Program.fieldsOf, Try.underlying24]
  go_simp
theorem tells_yes {α : Type} {e : Ending} {x : α} (h : TellsEq e x x) : e = .returned (.bool true) := by
  obtain ⟨r, rfl, h⟩ := h
  rw [h.2 rfl]
end Go.Proofs.Yteihniiacfghoaa
namespace Go.Proofs.Yteihniiacfghoaa
end Go.Proofs.Yteihniiacfghoaa
namespace Go.Proofs.Yteihniiacfghoaa
open Go.RowKit

theorem ret_int {k : IntKind} {a b : Int} (h : a = b) : Ending.returned (.int k a) = .returned (.int k b) := by rw [h]

set_option maxHeartbeats 400000 in
theorem clamp_calls (a : Int) (w : World) : Calls Try.prog 55 #[.int .i64 a] w fun e w' => e = .returned (.int .i64 (clampI a)) ∧ w' = w := by
  go_enter Try.func55, Try.ntmps55
  go_wp2
  all_goals (go_ret; exact ⟨ret_int (by unfold clampI; omega), rfl⟩)
set_option maxHeartbeats 400000 in
theorem rclamp_calls (a : Int) (w : World) : Calls Try.prog 48 #[.int .i64 a] w fun e w' => e = .returned (.int .i64 (clampI a)) ∧ w' = w := by
  go_enter Try.func48, Try.ntmps48
  go_wp2
  all_goals (go_ret; exact ⟨ret_int (by unfold clampI; omega), rfl⟩)

set_option maxHeartbeats 400000 in
theorem add_calls (a b : Int) (w : World) : Calls Try.prog 58 #[.int .i64 a, .int .i64 b] w fun e w' => e = .returned (.int .i64 (addI a b)) ∧ w' = w := by
  have h1 := clampI_ge a; have h2 := clampI_ge b; have h3 := clampI_le a; have h4 := clampI_le b
  go_enter Try.func58, Try.ntmps58
  go_wp2_with (go_at_call 55; refine (clamp_calls _ _).mono ?_; rintro e w' ⟨rfl, rfl⟩)
  go_ret
  exact ⟨rfl, rfl⟩
set_option maxHeartbeats 400000 in
theorem sub_calls (a b : Int) (w : World) : Calls Try.prog 59 #[.int .i64 a, .int .i64 b] w fun e w' => e = .returned (.int .i64 (subI a b)) ∧ w' = w := by
  have h1 := clampI_ge a; have h2 := clampI_ge b; have h3 := clampI_le a; have h4 := clampI_le b
  go_enter Try.func59, Try.ntmps59
  go_wp2_with (go_at_call 55; refine (clamp_calls _ _).mono ?_; rintro e w' ⟨rfl, rfl⟩)
  go_ret
  exact ⟨rfl, rfl⟩
set_option maxHeartbeats 400000 in
theorem radd_calls (a b : Int) (w : World) : Calls Try.prog 49 #[.int .i64 a, .int .i64 b] w fun e w' => e = .returned (.int .i64 (addI a b)) ∧ w' = w := by
  have h1 := clampI_ge a; have h2 := clampI_ge b; have h3 := clampI_le a; have h4 := clampI_le b
  go_enter Try.func49, Try.ntmps49
  go_wp2_with (go_at_call 48; refine (rclamp_calls _ _).mono ?_; rintro e w' ⟨rfl, rfl⟩)
  all_goals (go_ret; exact ⟨ret_int (by rw [addI_def]; omega), rfl⟩)
set_option maxHeartbeats 400000 in
theorem rsub_calls (a b : Int) (w : World) : Calls Try.prog 47 #[.int .i64 a, .int .i64 b] w fun e w' => e = .returned (.int .i64 (subI a b)) ∧ w' = w := by
  have h1 := clampI_ge a; have h2 := clampI_ge b; have h3 := clampI_le a; have h4 := clampI_le b
  go_enter Try.func47, Try.ntmps47
  go_wp2_with (go_at_call 48; refine (rclamp_calls _ _).mono ?_; rintro e w' ⟨rfl, rfl⟩)
  all_goals (go_ret; exact ⟨ret_int (by rw [subI_def]; omega), rfl⟩)
end Go.Proofs.Yteihniiacfghoaa
namespace Go.Proofs.Yteihniiacfghoaa
open Go.RowKit

abbrev res (a b c : Int) : Value := .agg #[.int .i64 a, .int .i64 b, .int .i64 c]

set_option maxHeartbeats 1000000 in
theorem split_calls (a b c : Int) (w : World) : Calls Try.prog 56 #[.agg #[.int .i64 a, .int .i64 b, .int .i64 c]] w fun e w' => e = .returned (.agg #[.int .i64 a, .int .i64 b, .int .i64 c]) ∧ w' = ((w.alloc (.cells #[.int .i64 a, .int .i64 b, .int .i64 c] 24)).alloc (.cells #[.int .i64 a, .int .i64 b, .int .i64 c] 83)) := by
  go_enter Try.func56, Try.ntmps56
  go_wp2
  exact bodyPost_ret (v := .agg #[.int .i64 a, .int .i64 b, .int .i64 c]) (by simp [results, Try.results56, go_sem]) rfl ⟨rfl, rfl⟩
set_option maxHeartbeats 1000000 in
theorem join_calls (a b c : Int) (w : World) : Calls Try.prog 57 #[.agg #[.int .i64 a, .int .i64 b, .int .i64 c]] w fun e w' => e = .returned (.agg #[.int .i64 a, .int .i64 b, .int .i64 c]) ∧ w' = ((w.alloc (.cells #[.int .i64 a, .int .i64 b, .int .i64 c] 83)).alloc (.cells #[.int .i64 a, .int .i64 b, .int .i64 c] 24)) := by
  go_enter Try.func57, Try.ntmps57
  go_wp2
  exact bodyPost_ret (v := .agg #[.int .i64 a, .int .i64 b, .int .i64 c]) (by simp [results, Try.results57, go_sem]) rfl ⟨rfl, rfl⟩

theorem join_below (a b c : Int) (w : World) : Calls Try.prog 57 #[.agg #[.int .i64 a, .int .i64 b, .int .i64 c]] w fun e w' => e = .returned (.agg #[.int .i64 a, .int .i64 b, .int .i64 c]) ∧ Below w.heap.size w w' :=
  (join_calls a b c w).mono fun e w' ⟨he, hw⟩ => ⟨he, by rw [hw]; exact ((Below.refl _ _).alloc (Nat.le_refl _) _).alloc (by simp) _⟩

set_option maxHeartbeats 400000 in
theorem plus_calls (a b : Int) (w : World) : Calls Try.prog 45 #[.int .i64 a, .int .i64 b] w fun e w' => e = .returned (.int .i64 (addI a b)) ∧ w' = w := by
  go_enter Try.func45, Try.ntmps45
  go_wp2_with (go_at_call 58; refine (add_calls _ _ _).mono ?_; rintro e w' ⟨rfl, rfl⟩)
  go_ret
  exact ⟨rfl, rfl⟩
set_option maxHeartbeats 400000 in
theorem minus_calls (a b : Int) (w : World) : Calls Try.prog 46 #[.int .i64 a, .int .i64 b] w fun e w' => e = .returned (.int .i64 (subI a b)) ∧ w' = w := by
  go_enter Try.func46, Try.ntmps46
  go_wp2_with (go_at_call 59; refine (sub_calls _ _ _).mono ?_; rintro e w' ⟨rfl, rfl⟩)
  go_ret
  exact ⟨rfl, rfl⟩

/-- block B of the world holds just these three numbers -/
def Holds3 (w : World) (B : Nat) (a b c : Int) : Prop := w.cell? ⟨B, 0, none⟩ = some (.int .i64 a) ∧ w.cell? ⟨B, 1, none⟩ = some (.int .i64 b) ∧ w.cell? ⟨B, 2, none⟩ = some (.int .i64 c)

end Go.Proofs.Yteihniiacfghoaa
namespace Go.Proofs.Yteihniiacfghoaa
open Go.RowKit
set_option maxRecDepth 100000

set_option maxHeartbeats 4000000 in
theorem rplus_calls (a b c x y z : Int) (w : World) : Calls Try.prog 35 #[.agg #[.int .i64 a, .int .i64 b, .int .i64 c], .agg #[.int .i64 x, .int .i64 y, .int .i64 z]] w fun e w' => e = .returned (.agg #[.int .i64 (addI a x), .int .i64 (addI b y), .int .i64 (addI c z)]) ∧ Below w.heap.size w w' := by
  go_enter Try.func35, Try.ntmps35
  go_wp2_with fail
  go_region_held3 (fun w' => w'.cell? ⟨w.heap.size, 0, none⟩ = some (.int .i64 a) ∧ w'.cell? ⟨w.heap.size, 1, none⟩ = some (.int .i64 b) ∧ w'.cell? ⟨w.heap.size, 2, none⟩ = some (.int .i64 c) ∧ w'.cell? ⟨w.heap.size + 1, 0, none⟩ = some (.int .i64 x) ∧ w'.cell? ⟨w.heap.size + 1, 1, none⟩ = some (.int .i64 y) ∧ w'.cell? ⟨w.heap.size + 1, 2, none⟩ = some (.int .i64 z)) ((refine ⟨?_, ?_, ?_, ?_, ?_, ?_⟩) <;> (simp [go_sem]; done))
    (first | (go_at_call 49; refine (radd_calls _ _ _).mono ?_; rintro e w' ⟨rfl, rfl⟩))
  go_wp2_with fail
  exact bodyPost_ret (v := .agg #[.int .i64 (addI a x), .int .i64 (addI b y), .int .i64 (addI c z)]) (by simp [results, Try.results35, go_sem]) rfl ⟨rfl, by go_grown⟩
set_option maxHeartbeats 4000000 in
theorem rminus_calls (a b c x y z : Int) (w : World) : Calls Try.prog 33 #[.agg #[.int .i64 a, .int .i64 b, .int .i64 c], .agg #[.int .i64 x, .int .i64 y, .int .i64 z]] w fun e w' => e = .returned (.agg #[.int .i64 (subI a x), .int .i64 (subI b y), .int .i64 (subI c z)]) ∧ Below w.heap.size w w' := by
  go_enter Try.func33, Try.ntmps33
  go_wp2_with fail
  go_region_held3 (fun w' => w'.cell? ⟨w.heap.size, 0, none⟩ = some (.int .i64 a) ∧ w'.cell? ⟨w.heap.size, 1, none⟩ = some (.int .i64 b) ∧ w'.cell? ⟨w.heap.size, 2, none⟩ = some (.int .i64 c) ∧ w'.cell? ⟨w.heap.size + 1, 0, none⟩ = some (.int .i64 x) ∧ w'.cell? ⟨w.heap.size + 1, 1, none⟩ = some (.int .i64 y) ∧ w'.cell? ⟨w.heap.size + 1, 2, none⟩ = some (.int .i64 z)) ((refine ⟨?_, ?_, ?_, ?_, ?_, ?_⟩) <;> (simp [go_sem]; done))
    (first | (go_at_call 47; refine (rsub_calls _ _ _).mono ?_; rintro e w' ⟨rfl, rfl⟩))
  go_wp2_with fail
  exact bodyPost_ret (v := .agg #[.int .i64 (subI a x), .int .i64 (subI b y), .int .i64 (subI c z)]) (by simp [results, Try.results33, go_sem]) rfl ⟨rfl, by go_grown⟩

theorem ret_b {a b : Bool} (h : a = b) : Ending.returned (.bool a) = .returned (.bool b) := by rw [h]
/-- no member of the first is above the second's -/
def fitsB (a b c x y z : Int) : Bool := decide (clampI a ≤ clampI x) && decide (clampI b ≤ clampI y) && decide (clampI c ≤ clampI z)

end Go.Proofs.Yteihniiacfghoaa
namespace Go.Proofs.Yteihniiacfghoaa
open Go.RowKit
set_option linter.unusedSimpArgs false
set_option maxRecDepth 100000

theorem clash_succ (V : List Int) (L : List Int) {k : Nat} (hk : k < L.length) : (L.take (k + 1)).any (fun q => hasB iEq V q) = ((L.take k).any (fun q => hasB iEq V q) || hasB iEq V (L.getD k default)) := by
  rw [← take_at hk]; simp
end Go.Proofs.Yteihniiacfghoaa
namespace Go.Proofs.Yteihniiacfghoaa
open Go.RowKit
set_option linter.unusedSimpArgs false

section
variable {P : Program} {md : Region.Mode} {ops : Array Oper} {Q : Exit → Act → World → Prop} {S : World → Prop} {oi : Oper} {d n fuel : Nat} {listed : Array Bool} {a : Act} {w : World}
/-- Whatever order is picked; S holds behind every operation before the n-th. -/
def wpAnyN (P : Program) (md : Region.Mode) (ops : Array Oper) (Q : Exit → Act → World → Prop) (S : World → Prop) (n : Nat) : Nat → Array Bool → Act → World → Prop
  | 0, listed, a, w => Region.ready md ops listed = [] ∧ Q .normal a w
  | fuel + 1, listed, a, w =>
    (Region.ready md ops listed = [] → Q .normal a w) ∧
    ∀ i ∈ Region.ready md ops listed, wpOp P ops Q i (fun a' w' => (i < n → S w') ∧ wpAnyN P md ops Q S n fuel (listed.setIfInBounds i true) a' w') a w
theorem wpAny_of_N : ∀ (fuel : Nat) (listed : Array Bool) (a : Act) (w : World), wpAnyN P md ops Q S n fuel listed a w → wpAny P md ops Q fuel listed a w
  | 0, _, _, _, h => h
  | fuel + 1, _, _, _, h => ⟨h.1, fun i hi => wpOp_mono (fun a' w' h' => wpAny_of_N fuel _ a' w' h'.2) (h.2 i hi)⟩
theorem wpAnyN_first {i : Nat} {v : Value} (hi : ops[i]? = some oi) (hsel : ∀ (j : Nat) (o : Oper) cs b, ops[j]? = some o → o.op ≠ .select cs b)
    (hQ : ∀ c a w, Q (.panic c) (a.put oi.dst v) w → Q (.panic c) a w)
    (hs : Region.sinkB md ops n = true) (hc : Region.chainB md ops n = true) (hn : n < ops.size) (hin : i < n) :
    ∀ (fuel : Nat) (listed : Array Bool) (a : Act) (w : World), HeadInv md ops n listed →
      (∀ j oj, ops[j]? = some oj → j ≠ i → listed.getD j true = false → (∀ e ∈ oj.after, Region.binds md e = true → e.on ≠ i) → oi.apart ops oj = true) →
      i ∈ Region.ready md ops listed → YieldsIf P ops S oi v a → S w →
      wpAnyN P md ops Q S n fuel (listed.setIfInBounds i true) (a.put oi.dst v) w → wpAnyN P md ops Q S n (fuel + 1) listed a w := by
  intro fuel
  induction fuel with
  | zero =>
    intro listed a w _ _ hr hy hS H
    refine ⟨fun h => (by rw [h] at hr; cases hr), fun j hj => ?_⟩
    by_cases hji : j = i
    · subst hji; exact hy.wpOp hi hS ⟨fun _ => hS, H⟩
    · have := ready_mono hj hji
      rw [H.1] at this
      cases this
  | succ fuel ih =>
    intro listed a w inv hfree hr hy hS H
    have hun := (mem_ready.1 hr).1
    refine ⟨fun h => (by rw [h] at hr; cases hr), fun j hj => ?_⟩
    have hjn : j < n := by
      rcases Nat.lt_or_ge j n with h | h
      · exact h
      · exact absurd hj (tail_waits hs hc hn inv _ i rfl hin hun j h)
    by_cases hji : j = i
    · subst hji; exact hy.wpOp hi hS ⟨fun _ => hS, H⟩
    · have h1 := H.2 j (ready_mono hj hji)
      obtain ⟨hjun, oj, hoj, hall⟩ := mem_ready.1 hj
      have hnot : ∀ e ∈ oj.after, Region.binds md e = true → e.on ≠ i := fun e he hb heq => by
        have h1 := hall e he hb
        rw [heq, getD_both hun] at h1
        cases h1
      have h2 := wpOp_putIf hoj (hfree j oj hoj hji hjun hnot) (fun cs b => hsel i oi cs b hi) (fun cs b => hsel j oj cs b hoj) hQ hy h1
      have hfree' : ∀ k ok, ops[k]? = some ok → k ≠ i → (listed.setIfInBounds j true).getD k true = false →
          (∀ e ∈ ok.after, Region.binds md e = true → e.on ≠ i) → oi.apart ops ok = true := fun k ok hk hki hun hno => by
        refine hfree k ok hk hki ?_ hno
        by_cases hjk : j = k
        · subst hjk; exact hjun
        · rw [getD_set_ne true hjk] at hun; exact hun
      refine wpOp_mono (fun a' w' h3 => ⟨h3.2.1, ih (listed.setIfInBounds j true) a' w' (inv.set hj hjn) hfree' (ready_mono hr (Ne.symm hji)) h3.1 (h3.2.1 hjn) ?_⟩) h2
      rw [Array.setIfInBounds_comm _ _ hji]
      exact h3.2.2
/-- The walk, with what is known of those that have come up. -/
def wN (P : Program) (md : Region.Mode) (ops : Array Oper) (Q : Exit → Act → World → Prop) (S : World → Prop) (n fuel : Nat) (listed : Array Bool) (a : Act) (w : World) : Prop :=
  Region.sinkB md ops n = true → Region.chainB md ops n = true → n < ops.size → HeadInv md ops n listed → wpAnyN P md ops Q S n fuel listed a w
theorem uq (i : Nat) (v : Value) (hy : YieldsIf P ops S oi v a) (h : wN P md ops (NoPanic Q) S n fuel (listed.setIfInBounds i true) (a.put (some d) v) w)
    (hi : ops[i]? = some oi := by rfl) (hd : oi.dst = some d := by rfl) (hb : (decide (i < n) && (Region.noSelect ops && (Region.free md ops listed i && (Region.ready md ops listed).contains i))) = true := by kernel_rfl) (hS : S w := by assumption) : wN P md ops (NoPanic Q) S n (fuel + 1) listed a w := by
  intro hs hc hn inv
  simp only [Bool.and_eq_true, decide_eq_true_eq] at hb
  obtain ⟨b1, b2, b3, b4⟩ := hb
  have hr : i ∈ Region.ready md ops listed := by simpa using b4
  exact wpAnyN_first hi (Region.noSelect_spec b2) (fun _ _ _ h => h) hs hc hn b1 fuel listed a w inv (Region.free_spec hi b3) hr hy hS (hd ▸ h hs hc hn (inv.set hr b1))
theorem uk (i : Nat) {v : Value} (hy : ∀ u, S u → (execOp a.eval oi).run P u = .ok (.value v) u) (h : wN P md ops (NoPanic Q) S n fuel (listed.setIfInBounds i true) (a.put (some d) v) w)
    (hi : ops[i]? = some oi := by rfl) (hd : oi.dst = some d := by rfl) (hb : (decide (i < n) && (Region.noSelect ops && (Region.free md ops listed i && (Region.ready md ops listed).contains i))) = true := by kernel_rfl) (hw : Region.wanted oi (yielded ops a.tmps) = true := by rfl) (hS : S w := by assumption) : wN P md ops (NoPanic Q) S n (fuel + 1) listed a w :=
  uq i v (.inl ⟨hw, hy⟩) h hi hd hb hS
theorem un (i : Nat) (h : wN P md ops (NoPanic Q) S n fuel (listed.setIfInBounds i true) (a.put (some d) undef) w)
    (hi : ops[i]? = some oi := by rfl) (hd : oi.dst = some d := by rfl) (hb : (decide (i < n) && (Region.noSelect ops && (Region.free md ops listed i && (Region.ready md ops listed).contains i))) = true := by kernel_rfl) (hw : Region.wanted oi (yielded ops a.tmps) = false := by rfl) (hS : S w := by assumption) : wN P md ops (NoPanic Q) S n (fuel + 1) listed a w :=
  uq i undef (.inr ⟨hw, rfl⟩) h hi hd hb hS
/-- Operation i alone may come up; it writes slot d. -/
theorem ur (i : Nat) (h : ∀ K' : Act → World → Prop, Shut (∀ v w, S w → (S w → wN P md ops Q S n fuel (listed.setIfInBounds i true) (a.put (some d) v) w) → K' (a.put oi.dst v) w) → if Region.wanted oi (yielded ops a.tmps) = true then Oper.wp P oi a w K' Q else K' (a.put oi.dst undef) w)
    (hi : ops[i]? = some oi := by rfl) (hd : oi.dst = some d := by rfl) (hr : Region.ready md ops listed = [i] := by kernel_rfl) (hin : i < n := by decide) : wN P md ops Q S n (fuel + 1) listed a w := by
  intro hs hc hn inv
  have hir : i ∈ Region.ready md ops listed := by rw [hr]; simp
  refine ⟨fun h0 => (by rw [hr] at h0; cases h0), fun j hj => ?_⟩
  obtain rfl : j = i := by rw [hr] at hj; simpa using hj
  exact wpOp_step hi (fun K' hK => h K' (fun v w h1 h2 => hK _ w ⟨fun _ => h1, hd ▸ h2 h1 hs hc hn (inv.set hir hin)⟩))
/-- Either of two may come up. -/
theorem ub (i j : Nat) {oj : Oper} {e : Nat} (h : ∀ K' : Act → World → Prop, Shut (∀ v w, S w → (S w → wN P md ops Q S n fuel (listed.setIfInBounds i true) (a.put (some d) v) w) → K' (a.put oi.dst v) w) → if Region.wanted oi (yielded ops a.tmps) = true then Oper.wp P oi a w K' Q else K' (a.put oi.dst undef) w)
    (h' : ∀ K' : Act → World → Prop, Shut (∀ v w, S w → (S w → wN P md ops Q S n fuel (listed.setIfInBounds j true) (a.put (some e) v) w) → K' (a.put oj.dst v) w) → if Region.wanted oj (yielded ops a.tmps) = true then Oper.wp P oj a w K' Q else K' (a.put oj.dst undef) w)
    (hi : ops[i]? = some oi := by rfl) (hd : oi.dst = some d := by rfl) (hj : ops[j]? = some oj := by rfl) (he : oj.dst = some e := by rfl) (hr : Region.ready md ops listed = [i, j] := by kernel_rfl) (hin : i < n ∧ j < n := by decide) : wN P md ops Q S n (fuel + 1) listed a w := by
  intro hs hc hn inv
  have hir : i ∈ Region.ready md ops listed := by rw [hr]; simp
  have hjr : j ∈ Region.ready md ops listed := by rw [hr]; simp
  refine ⟨fun h0 => (by rw [hr] at h0; cases h0), fun k hk => ?_⟩
  have hk' : k = i ∨ k = j := by rw [hr] at hk; simpa using hk
  rcases hk' with rfl | rfl
  · exact wpOp_step hi (fun K' hK => h K' (fun v w h1 h2 => hK _ w ⟨fun _ => h1, hd ▸ h2 h1 hs hc hn (inv.set hir hin.1)⟩))
  · exact wpOp_step hj (fun K' hK => h' K' (fun v w h1 h2 => hK _ w ⟨fun _ => h1, he ▸ h2 h1 hs hc hn (inv.set hjr hin.2)⟩))
/-- The last operation. -/
theorem uz (i : Nat) (h : ∀ K' : Act → World → Prop, Shut (∀ w, Q .normal a w → K' a w) → if Region.wanted oi (yielded ops a.tmps) = true then Oper.wp P oi a w K' Q else K' (a.put oi.dst undef) w)
    (hi : ops[i]? = some oi := by rfl) (hr : Region.ready md ops listed = [i] := by kernel_rfl) (hr' : Region.ready md ops (listed.setIfInBounds i true) = [] := by kernel_rfl) (hin : n ≤ i := by decide) : wN P md ops Q S n (fuel + 1) listed a w := by
  intro _ _ _ _
  refine ⟨fun h0 => (by rw [hr] at h0; cases h0), fun j hj => ?_⟩
  obtain rfl : j = i := by rw [hr] at hj; simpa using hj
  refine wpOp_step hi (fun K' hK => h K' (fun w h1 => hK _ w ⟨fun h2 => absurd h2 (by omega), ?_⟩))
  cases fuel with
  | zero => exact ⟨hr', h1⟩
  | succ f => exact ⟨fun _ => h1, by rw [hr']; simp⟩
/-- Either of two may come up (S holds to the end). -/
theorem tb (i j : Nat) {oj : Oper} {e : Nat} (h : ∀ K' : Act → World → Prop, Shut (∀ v w, S w → (S w → wpAnyH P md ops Q S fuel (listed.setIfInBounds i true) (a.put (some d) v) w) → K' (a.put oi.dst v) w) → if Region.wanted oi (yielded ops a.tmps) = true then Oper.wp P oi a w K' Q else K' (a.put oi.dst undef) w)
    (h' : ∀ K' : Act → World → Prop, Shut (∀ v w, S w → (S w → wpAnyH P md ops Q S fuel (listed.setIfInBounds j true) (a.put (some e) v) w) → K' (a.put oj.dst v) w) → if Region.wanted oj (yielded ops a.tmps) = true then Oper.wp P oj a w K' Q else K' (a.put oj.dst undef) w)
    (hi : ops[i]? = some oi := by rfl) (hd : oi.dst = some d := by rfl) (hj : ops[j]? = some oj := by rfl) (he : oj.dst = some e := by rfl) (hr : Region.ready md ops listed = [i, j] := by kernel_rfl) : wpAnyH P md ops Q S (fuel + 1) listed a w :=
  wpAnyH_ready hr (by simp) (AllReadyH.cons hi (fun K' hK => h K' (fun v w h1 h2 => hK.out _ w h1 (fun h3 => hd ▸ h2 h3))) (AllReadyH.cons hj (fun K' hK => h' K' (fun v w h1 h2 => hK.out _ w h1 (fun h3 => he ▸ h2 h3))) AllReadyH.nil))
/-- The beginning. -/
theorem u0 (n : Nat) (S : World → Prop) {id : Nat} (hS : S w.drew) (h : S w.drew → wN P .any ops (NoPanic Q) S n ops.size (Array.replicate ops.size false) a w.drew)
    (hm : P.follows .mixedOrders = true := by kernel_rfl) (hb : (Region.sinkB .any ops n && (Region.chainB .any ops n && decide (n < ops.size))) = true := by kernel_rfl) : (Code.region id ops true).wp P Q a w := by
  simp only [Bool.and_eq_true, decide_eq_true_eq] at hb
  refine wp_region_noPanic (wp_region_any hm (wpAny_of_N (S := S) (n := n) _ _ _ _ (h hS hb.1 hb.2.1 hb.2.2 ⟨by simp, fun j oj _ hl => ?_, fun t _ ht => by simp [ht]⟩)))
  rw [getD_replicate_false] at hl
  cases hl
end
end Go.Proofs.Yteihniiacfghoaa
namespace Go.Proofs.Yteihniiacfghoaa
open Go.RowKit

theorem mul_le_most {a n : Int} (ha : 0 ≤ a) (hn : 0 < n) (h : a ≤ 1125899906842624 / n) : 0 ≤ a * n ∧ a * n ≤ 1125899906842624 :=
  ⟨Int.mul_nonneg ha (by omega), (Int.le_ediv_iff_mul_le hn).1 h⟩
theorem most_lt_mul {a n : Int} (hn : 0 < n) (h : 1125899906842624 / n < a) : 1125899906842624 < a * n := (Int.ediv_lt_iff_lt_mul hn).1 h

theorem mul_bd {a s : Int} (h1 : 0 ≤ a) (h2 : a ≤ 1125899906842624) (h3 : 0 ≤ s) (h4 : s ≤ 1000) : 0 ≤ a * s ∧ a * s ≤ 1125899906842624000 :=
  ⟨Int.mul_nonneg h1 h3, Int.le_trans (Int.mul_le_mul h2 h4 h3 (by omega)) (by omega)⟩
theorem div_bd {m b : Int} (h1 : 0 ≤ m) (h2 : m ≤ 1125899906842624000) (hb : 0 < b) : 0 ≤ m / b ∧ m / b ≤ 1125899906842624000 :=
  ⟨Int.ediv_nonneg h1 (by omega), Int.le_trans (Int.ediv_le_self _ h1) h2⟩

theorem share_zero {a b c : Int} (h : clampI b = 0) : shareI a b c = 0 := by unfold shareI; rw [if_pos h]
theorem share_some {a b c s : Int} (h : clampI b ≠ 0) (hs : scaleI c = s) : shareI a b c = if s < clampI a * s / clampI b then s else clampI a * s / clampI b := by unfold shareI; rw [if_neg h, hs]

set_option maxHeartbeats 1000000 in
theorem share_calls (a b c : Int) (w : World) : Calls Try.prog 42 #[.int .i64 a, .int .i64 b, .int .i64 c] w fun e w' => e = .returned (.int .i64 (shareI a b c)) ∧ w' = w := by
  have h1 := clampI_ge a; have h2 := clampI_le a; have h3 := clampI_ge b; have h4 := clampI_le b
  by_cases h0 : clampI b = 0
  · have hz : (clampI b == 0) = true := by simpa using h0
    have HP : Hid (shareI a b c = 0) := share_zero h0
    clear h0
    go_enter Try.func42, Try.ntmps42
    go_wp2_with (go_at_call 55; refine (clamp_calls _ _).mono ?_; rintro e w' ⟨rfl, rfl⟩)
    all_goals (go_ret; exact ⟨ret_int HP.out.symm, rfl⟩)
  · have hz : (clampI b == 0) = false := by simpa using h0
    have hp : 0 < clampI b := by omega
    by_cases hc0 : c < 0
    · obtain ⟨m1, m2⟩ := mul_bd h1 h2 (show (0 : Int) ≤ 0 by omega) (show (0 : Int) ≤ 1000 by omega)
      have HP : Hid _ := share_some (a := a) h0 (show scaleI c = 0 by unfold scaleI; omega)
      go_enter Try.func42, Try.ntmps42
      go_wp2_with (go_at_call 55; refine (clamp_calls _ _).mono ?_; rintro e w' ⟨rfl, rfl⟩)
      all_goals (go_ret; exact ⟨ret_int (by rw [HP.out]; simp), rfl⟩)
    · by_cases hc1 : 1000 < c
      · obtain ⟨m1, m2⟩ := mul_bd h1 h2 (show (0 : Int) ≤ 1000 by omega) (show (1000 : Int) ≤ 1000 by omega)
        obtain ⟨m3, m4⟩ := div_bd m1 m2 hp
        have HP : Hid _ := share_some (a := a) h0 (show scaleI c = 1000 by unfold scaleI; omega)
        go_enter Try.func42, Try.ntmps42
        go_wp2_with (go_at_call 55; refine (clamp_calls _ _).mono ?_; rintro e w' ⟨rfl, rfl⟩)
        all_goals (go_ret; exact ⟨ret_int (by rw [HP.out]; omega), rfl⟩)
      · obtain ⟨m1, m2⟩ := mul_bd (s := c) h1 h2 (by omega) (by omega)
        obtain ⟨m3, m4⟩ := div_bd m1 m2 hp
        have HP : Hid _ := share_some (a := a) h0 (show scaleI c = c by unfold scaleI; omega)
        go_enter Try.func42, Try.ntmps42
        go_wp2_with (go_at_call 55; refine (clamp_calls _ _).mono ?_; rintro e w' ⟨rfl, rfl⟩)
        all_goals (go_ret; exact ⟨ret_int (by rw [HP.out]; omega), rfl⟩)
set_option maxHeartbeats 1000000 in
theorem rshare_calls (a b c : Int) (w : World) : Calls Try.prog 34 #[.int .i64 a, .int .i64 b, .int .i64 c] w fun e w' => e = .returned (.int .i64 (shareI a b c)) ∧ w' = w := by
  have h1 := clampI_ge a; have h2 := clampI_le a; have h3 := clampI_ge b; have h4 := clampI_le b
  by_cases h0 : clampI b = 0
  · have hz : (clampI b == 0) = true := by simpa using h0
    have HP : Hid (shareI a b c = 0) := share_zero h0
    clear h0
    go_enter Try.func34, Try.ntmps34
    go_wp2_with (go_at_call 48; refine (rclamp_calls _ _).mono ?_; rintro e w' ⟨rfl, rfl⟩)
    all_goals (go_ret; exact ⟨ret_int HP.out.symm, rfl⟩)
  · have hz : (clampI b == 0) = false := by simpa using h0
    have hp : 0 < clampI b := by omega
    by_cases hc0 : c ≤ 0
    · obtain ⟨m1, m2⟩ := mul_bd h1 h2 (show (0 : Int) ≤ 0 by omega) (show (0 : Int) ≤ 1000 by omega)
      have HP : Hid _ := share_some (a := a) h0 (show scaleI c = 0 by unfold scaleI; omega)
      go_enter Try.func34, Try.ntmps34
      go_wp2_with (go_at_call 48; refine (rclamp_calls _ _).mono ?_; rintro e w' ⟨rfl, rfl⟩)
      all_goals (go_ret; exact ⟨ret_int (by rw [HP.out]; simp), rfl⟩)
    · by_cases hc1 : 1000 < c
      · obtain ⟨m1, m2⟩ := mul_bd h1 h2 (show (0 : Int) ≤ 1000 by omega) (show (1000 : Int) ≤ 1000 by omega)
        obtain ⟨m3, m4⟩ := div_bd m1 m2 hp
        have HP : Hid _ := share_some (a := a) h0 (show scaleI c = 1000 by unfold scaleI; omega)
        go_enter Try.func34, Try.ntmps34
        go_wp2_with (go_at_call 48; refine (rclamp_calls _ _).mono ?_; rintro e w' ⟨rfl, rfl⟩)
        all_goals (go_ret; exact ⟨ret_int (by rw [HP.out]; omega), rfl⟩)
      · obtain ⟨m1, m2⟩ := mul_bd (s := c) h1 h2 (by omega) (by omega)
        obtain ⟨m3, m4⟩ := div_bd m1 m2 hp
        have HP : Hid _ := share_some (a := a) h0 (show scaleI c = c by unfold scaleI; omega)
        go_enter Try.func34, Try.ntmps34
        go_wp2_with (go_at_call 48; refine (rclamp_calls _ _).mono ?_; rintro e w' ⟨rfl, rfl⟩)
        all_goals (go_ret; exact ⟨ret_int (by rw [HP.out]; omega), rfl⟩)
end Go.Proofs.Yteihniiacfghoaa
namespace Go.Proofs.Yteihniiacfghoaa
open Go.RowKit
set_option linter.unusedSimpArgs false

theorem range_new {u : World} {T : TypeId} {b o : Nat} {p c q : List Value} (hb : u.heap.size = b) (ho : p.length = o) : (u.alloc (.cells (p ++ (c ++ q)).toArray T)).rangeAt b o c := by
  subst hb ho
  intro j v hj
  have : (u.alloc (.cells (p ++ (c ++ q)).toArray T)).heap[u.heap.size]? = some (.cells (p ++ (c ++ q)).toArray T) := heap_new u _ _ rfl
  generalize u.alloc (.cells (p ++ (c ++ q)).toArray T) = u' at this ⊢
  have hl : j < c.length := (List.getElem?_eq_some_iff.1 hj).1
  simp only [World.cell?, this]
  rw [List.getElem?_toArray, List.getElem?_append_right (by omega), show p.length + j - p.length = j by omega, List.getElem?_append_left hl]
  exact hj
theorem range_all {u : World} {T : TypeId} {b : Nat} {c : List Value} (hb : u.heap.size = b) : (u.alloc (.cells c.toArray T)).rangeAt b 0 c := by
  have := range_new (u := u) (T := T) (p := []) (c := c) (q := []) hb rfl
  simpa using this
theorem there_new {u : World} {T : TypeId} {b n : Nat} {c : Array Value} (hb : u.heap.size = b) (hn : c.size = n) : (u.alloc (.cells c T)).there b 0 n := by
  subst hb hn
  intro j hj
  have : (u.alloc (.cells c T)).heap[u.heap.size]? = some (.cells c T) := heap_new u _ _ rfl
  generalize u.alloc (.cells c T) = u' at this ⊢
  simp [World.cell?, World.frozen?, this, hj]
theorem range_on {w w' : World} {B b o : Nat} {c : List Value} (h : w.rangeAt b o c) (hb : Below B w w') (hB : b < B) : w'.rangeAt b o c := fun j v hj => (hb.cell (p := ⟨b, o + j, none⟩) hB).trans (h j v hj)
theorem there_on {w w' : World} {B b o n : Nat} (h : w.there b o n) (hb : Below B w w') (hB : b < B) : w'.there b o n := fun j hj => by
  rw [hb.cell (p := ⟨b, o + j, none⟩) hB, hb.frozen (p := ⟨b, o + j, none⟩) hB]; exact h j hj
theorem below_setCells {B b : Nat} {a : World} : ∀ {vs : List Value} {o : Nat} {u : World}, Below B a u → B ≤ b → Below B a (u.setCells b o vs)
  | [], _, _, h, _ => h
  | v :: r, o, u, h, hb => by
    rw [World.setCells]
    exact below_setCells (h.setCell (p := ⟨b, o, none⟩) hb v) hb
theorem size_setCells {b : Nat} : ∀ {vs : List Value} {o : Nat} {u : World}, (u.setCells b o vs).heap.size = u.heap.size
  | [], _, _ => rfl
  | v :: r, o, u => by rw [World.setCells, size_setCells]; simp
theorem kept_setCells {A : Where} {b : Nat} (h : ¬ A b) : ∀ {vs : List Value} {o : Nat} {u : World}, Kept A u (u.setCells b o vs)
  | [], _, u => Kept.refl A u
  | v :: r, o, u => by
    rw [World.setCells]
    exact (Kept.set (p := ⟨b, o, none⟩) h v).trans (kept_setCells h)

/-- One result, a struct that lies in memory. -/
theorem res_cell {P : Program} {fn : Func} {p : Tmp} {ty : TypeId} (h : fn.results = #[.cell p ty]) (tmps : Array Value) (w : World) (b : Nat) (cs : List Value) (d : TypeDesc)
    (hp : tmps.getD p undef = .pointer (some ⟨b, 0, none⟩)) (hr : w.rangeAt b 0 cs) (hu : P.underlying ty = some d) (hd : d.isRow = true) (hi : (P.info? ty).map (·.size) = some cs.length) :
    (results fn tmps).run P w = .ok (.agg cs.toArray) w := by
  have hp' : tmps[p]?.getD undef = .pointer (some ⟨b, 0, none⟩) := by simpa using hp
  simp [results, h, hp', asAddr, run_loadVar_mid w b 0 ty cs d hr hu hd hi]
/-- Two results, the first a struct that lies in memory. -/
theorem res_cell2 {P : Program} {fn : Func} {p q : Tmp} {ty : TypeId} (h : fn.results = #[.cell p ty, .tmp q]) (tmps : Array Value) (w : World) (b : Nat) (cs : List Value) (d : TypeDesc) (y : Value)
    (hp : tmps.getD p undef = .pointer (some ⟨b, 0, none⟩)) (hq : tmps.getD q undef = y) (hr : w.rangeAt b 0 cs) (hu : P.underlying ty = some d) (hd : d.isRow = true) (hi : (P.info? ty).map (·.size) = some cs.length) :
    (results fn tmps).run P w = .ok (.tuple #[.agg cs.toArray, y]) w := by
  have hp' : tmps[p]?.getD undef = .pointer (some ⟨b, 0, none⟩) := by simpa using hp
  have hq' : tmps[q]?.getD undef = y := by simpa using hq
  simp [results, h, hp', hq', asAddr, run_loadVar_mid w b 0 ty cs d hr hu hd hi]
/-- Three results, the first a struct that lies in memory. -/
theorem res_cell3 {P : Program} {fn : Func} {p q r : Tmp} {ty : TypeId} (h : fn.results = #[.cell p ty, .tmp q, .tmp r]) (tmps : Array Value) (w : World) (b : Nat) (cs : List Value) (d : TypeDesc) (y z : Value)
    (hp : tmps.getD p undef = .pointer (some ⟨b, 0, none⟩)) (hq : tmps.getD q undef = y) (hz : tmps.getD r undef = z) (hr : w.rangeAt b 0 cs) (hu : P.underlying ty = some d) (hd : d.isRow = true) (hi : (P.info? ty).map (·.size) = some cs.length) :
    (results fn tmps).run P w = .ok (.tuple #[.agg cs.toArray, y, z]) w := by
  have hp' : tmps[p]?.getD undef = .pointer (some ⟨b, 0, none⟩) := by simpa using hp
  have hq' : tmps[q]?.getD undef = y := by simpa using hq
  have hz' : tmps[r]?.getD undef = z := by simpa using hz
  simp [results, h, hp', hq', hz', asAddr, run_loadVar_mid w b 0 ty cs d hr hu hd hi]
end Go.Proofs.Yteihniiacfghoaa
