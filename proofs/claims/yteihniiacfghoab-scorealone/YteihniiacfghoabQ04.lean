/- base.SameTexts, SameInts, SameLabels, SameReqs, sameTerms tell whether two slices hold the same; they change nothing but the count of draws. Condition: the slices hold what is said of them. base.Has and base.HasInt tell whether it is in a list, and change nothing. Condition: the slice lies as is said of it. Insertion into a rising list, each once. Plain mathematics. No condition. Further structs of the program as plain data, and how each lies in cells. No program. No condition. Amounts as plain integers: what a number counts as, sums, differences, multiples and shares, and the laws of order and grouping. Plain mathematics, no program. No condition. What the document makes of pods: names each once, sums, ports, claims. Plain. No condition. How well a pod stands on a node, as plain functions. No program. No condition. What follows of how well a pod stands on a node: bounds, order, what more is used. Plain mathematics. No condition. -/
import Derived.Test.YteihniiacfghoabQ03
import Derived.Laws.StructEq
import Derived.Test.YteihniiacfghoabQ02
namespace Go.Proofs.Yteihniiacfghoab
open Go.RowKit
set_option linter.unusedSimpArgs false

theorem retB {a b : Bool} (h : a = b) : Ending.returned (.bool a) = .returned (.bool b) := by rw [h]
theorem same_len {α : Type} [DecidableEq α] {L M : List α} (h : L.length ≠ M.length) : decide (L = M) = false := by
  rw [decide_eq_false_iff_not]; intro e; exact h (by rw [e])
section
variable {α : Type} [Inhabited α] [DecidableEq α] {L M : List α}
theorem same_no {k : Nat} (h : L.getD k default ≠ M.getD k default) : decide (L = M) = false := by
  rw [decide_eq_false_iff_not]; intro e; exact h (by rw [e])
theorem same_yes (hl : L.length = M.length) (h : ∀ j, j < L.length → L.getD j default = M.getD j default) : decide (L = M) = true := by
  rw [decide_eq_true_iff]
  apply List.ext_getElem hl
  intro i h1 h2
  have := h i h1
  rwa [getE _ _ h1, getE _ _ h2] at this
end
theorem bne_of (a b : Int) : (a != b) = !(a == b) := rfl
theorem guardL : Try.prog.eqGuardType Try.prog.depth 95 = false := by kernel_rfl
theorem neqL (x y : Lab) (w : World) : Sem.run Try.prog (binOp .neq 95 (.agg #[.string x.1, .string x.2]) (.agg #[.string y.1, .string y.2])) w = .ok (.bool (!(sEq x.1 y.1 && sEq x.2 y.2))) w := by
  have u9 := Try.underlying9
  have a9 := Try.isAgg9
  have z9 := Try.sizeOf9
  have hS : Try.prog.underlying 95 = some (.struct (Try.prog.fieldsOf 95)) := by kernel_rfl
  have hp : Try.prog.stoodInHeld 95 = false := by kernel_rfl
  rw [run_neq_struct, show (10000 : Nat) = 9999 + 1 from rfl, run_equalIn_agg w 9999 95 _ _ hS hp]
  simp only [Program.fieldsOf, Try.underlying95]
  go_simp
  simp only [sEq]
  by_cases h1 : x.1.toList = y.1.toList <;> by_cases h2 : x.2.toList = y.2.toList <;> simp [h1, h2]
theorem lab_eq (x y : Lab) : (sEq x.1 y.1 && sEq x.2 y.2) = decide (x = y) := by
  rw [Bool.eq_iff_iff, Bool.and_eq_true, sEq_iff, sEq_iff, decide_eq_true_iff, Prod.ext_iff]
theorem ask_eq (x y : Ask) : decide (x = y) = (sEq x.1 y.1 && ((x.2.1 == y.2.1) && decide (x.2.2 = y.2.2))) := by
  rw [Bool.eq_iff_iff, Bool.and_eq_true, Bool.and_eq_true, sEq_iff, decide_eq_true_iff, decide_eq_true_iff, beq_iff_eq, Prod.ext_iff, Prod.ext_iff]
theorem term_eq (x y : TermD) : decide (x = y) = (sEq x.2 y.2 && decide (x.1 = y.1)) := by
  rw [Bool.eq_iff_iff, Bool.and_eq_true, sEq_iff, decide_eq_true_iff, decide_eq_true_iff, Prod.ext_iff, And.comm]

set_option maxHeartbeats 4000000 in
theorem SameInts_calls (a : Option Addr) (n cap : Nat) (A : Where) (L : List (Int)) (b : Option Addr) (m capb : Nat) (A' : Where) (M : List (Int)) (w : World) (hA : Hid (SlAt RInt 1 8 A w a n cap L)) (hB : Hid (SlAt RInt 1 8 A' w b m capb M)) : Calls Try.prog 7 #[.slice a n cap, .slice b m capb] w fun e w' => e = .returned (.bool (decide (L = M))) ∧ ∃ q, w' = w.drewN q := by
  have hn : Hid (L.length = n) := hA.out.1
  have hm : Hid (M.length = m) := hB.out.1
  have hlen := hA.out.len (by decide)
  by_cases hnm : n = m
  case neg =>
    have HF : Hid (decide (L = M) = false) := same_len (by rw [hn.out, hm.out]; exact hnm)
    have hne : ((n : Int) != (m : Int)) = true := by rw [bne_iff_ne]; omega
    go_enter Try.func7, Try.ntmps7
    go_wp2
    go_ret
    exact ⟨retB HF.out.symm, 0, rfl⟩
  subst hnm
  have hne : ((n : Int) != (n : Int)) = false := by simp
  go_enter Try.func7, Try.ntmps7
  go_wp2
  go_loopw [5] (fun i wr => ∃ k : Nat, k ≤ n ∧ i = .int .i64 k ∧ Hid (∃ q, wr = w.drewN q) ∧ Hid (∀ j, j < k → L.getD j default = M.getD j default)) (fun i _ => n - (intOf i).toNat)
  case atStart => exact ⟨0, Nat.zero_le _, rfl, ⟨0, rfl⟩, fun j hj => absurd hj (Nat.not_lt_zero _)⟩
  case round =>
    obtain ⟨k, hk, rfl, hwr, hall⟩ := hrel
    have hbel : Below w.heap.size w wr := by obtain ⟨q, rfl⟩ := hwr.out; exact below_drewN (Below.refl _ _) _
    have hback : Hid (∀ q, ∃ q', wr.drewN q = w.drewN q') := by obtain ⟨q0, rfl⟩ := hwr.out; exact fun q => ⟨_, World.drewN_drewN _ _ _⟩
    by_cases hlt : k < n
    · have hltz : (k : Int) < (n : Int) := by omega
      obtain ⟨B, off, rfl, hBl, _, cs, hra, hva⟩ := (hA.out.on RInt.firm hbel).get hlt
      obtain ⟨B', off', rfl, hBl', _, cs', hrb, hvb⟩ := (hB.out.on RInt.firm hbel).get hlt
      obtain rfl := hra
      obtain rfl := hrb
      have d0 := hva 0 _ rfl
      have g0 := hvb 0 _ rfl
      rw [Nat.add_zero] at d0 g0
      rw [Nat.mul_one] at d0 g0
      have HG : Hid (decide (L.getD k default = M.getD k default) = true → ∀ j, j < k + 1 → L.getD j default = M.getD j default) := fun h j hj => by
        rcases Nat.lt_succ_iff_lt_or_eq.1 hj with h' | rfl
        · exact hall.out j h'
        · exact of_decide_eq_true h
      have HF : Hid (decide (L.getD k default = M.getD k default) = false → decide (L = M) = false) := fun h => same_no (of_decide_eq_false h)
      clear hall hva hvb
      have HE : (L.getD k default != M.getD k default) = !decide (L.getD k default = M.getD k default) := by rw [bne_of, show (L.getD k default == M.getD k default) = decide (L.getD k default = M.getD k default) by rw [Bool.eq_iff_iff, decide_eq_true_iff, beq_iff_eq]]
      generalize L.getD k default = x at d0 HE HG HF
      generalize M.getD k default = y at g0 HE HG HF
      cases hd : decide (x = y)
      · have HF2 : Hid (decide (L = M) = false) := HF.out hd
        rw [hd] at HE
        clear HG HF hd
        go_wp2_with fail
        go_quiet (fail)
        go_wp2_with fail
        go_ret
        exact ⟨retB HF2.out.symm, hback.out _⟩
      · have HG2 : Hid (∀ j, j < k + 1 → L.getD j default = M.getD j default) := HG.out hd
        rw [hd] at HE
        clear HG HF hd
        go_wp2_with fail
        go_quiet (fail)
        go_wp2_with fail
        go_roundw
        case rel => exact ⟨k + 1, by omega, by go_num, hback.out _, HG2⟩
        case measure => simp [intOf]; omega
    · have HT : Hid (decide (L = M) = true) := same_yes (by rw [hn.out, hm.out]) (fun j hj => hall.out j (by rw [hn.out] at hj; omega))
      clear hall
      go_wp2
      go_ret
      exact ⟨retB HT.out.symm, hwr.out⟩

end Go.Proofs.Yteihniiacfghoab
namespace Go.Proofs.Yteihniiacfghoab
open Go.RowKit
set_option linter.unusedSimpArgs false
set_option maxRecDepth 100000

def hasB {α : Type} (eq : α → α → Bool) (V : List α) (s : α) : Bool := V.any fun v => eq v s
theorem hasB_succ {α : Type} [Inhabited α] (eq : α → α → Bool) (L : List α) (s : α) {k : Nat} (hk : k < L.length) : hasB eq (L.take (k + 1)) s = (hasB eq (L.take k) s || eq (L.getD k default) s) := by
  rw [← take_at hk]; simp [hasB]
theorem hasB_found {α : Type} [Inhabited α] (eq : α → α → Bool) (L : List α) (s : α) {k : Nat} (hk : k < L.length) (h : eq (L.getD k default) s = true) : hasB eq L s = true := by
  simp only [hasB, List.any_eq_true]
  exact ⟨L.getD k default, by rw [getE _ _ hk]; exact List.getElem_mem hk, h⟩
def iEq (a b : Int) : Bool := a == b

end Go.Proofs.Yteihniiacfghoab
namespace Go.Proofs.Yteihniiacfghoab
open Go.RowKit
set_option linter.unusedSimpArgs false

def insB {α : Type} (lt eq : α → α → Bool) : List α → α → List α
  | [], s => [s]
  | x :: xs, s => if lt x s = true then x :: insB lt eq xs s else if eq x s = true then x :: xs else s :: x :: xs
def sortB {α : Type} (lt eq : α → α → Bool) (L : List α) : List α := L.foldl (insB lt eq) []
def iLt (a b : Int) : Bool := decide (a < b)
theorem insB_len {α : Type} (lt eq : α → α → Bool) (s : α) : ∀ L : List α, (insB lt eq L s).length ≤ L.length + 1
  | [] => by simp [insB]
  | x :: xs => by
    have := insB_len lt eq s xs
    unfold insB
    split
    · simp; omega
    · split <;> simp
section
variable {α : Type} [Inhabited α] (lt eq : α → α → Bool)
theorem insB_at (s : α) : ∀ (L : List α) (k : Nat), k ≤ L.length → (∀ j, j < k → lt (L.getD j default) s = true) → (k < L.length → lt (L.getD k default) s = false) →
    insB lt eq L s = if k < L.length ∧ eq (L.getD k default) s = true then L else L.take k ++ ([s] ++ L.drop k)
  | [], k, hk, _, _ => by
    obtain rfl : k = 0 := by simpa using hk
    simp [insB]
  | x :: xs, 0, _, _, h2 => by
    have h := h2 (by simp)
    simp only [List.getD_cons_zero] at h
    simp [insB, h]
  | x :: xs, k + 1, hk, h1, h2 => by
    have h := h1 0 (by omega)
    simp only [List.getD_cons_zero] at h
    have ih := insB_at s xs k (by simpa using hk) (fun j hj => by simpa using h1 (j + 1) (by omega)) (fun hl => by simpa using h2 (by simpa using hl))
    have e : (x :: xs).getD (k + 1) default = xs.getD k default := by simp
    have l : k + 1 < (x :: xs).length ↔ k < xs.length := by simp
    rw [e]
    simp only [insB, h, if_true, ih]
    by_cases c : k < xs.length ∧ eq (xs.getD k default) s = true
    · rw [if_pos c, if_pos ⟨l.2 c.1, c.2⟩]
    · rw [if_neg c, if_neg (fun h => c ⟨l.1 h.1, h.2⟩)]; simp
theorem sortB_succ (L : List α) {k : Nat} (hk : k < L.length) : sortB lt eq (L.take (k + 1)) = insB lt eq (sortB lt eq (L.take k)) (L.getD k default) := by
  rw [← take_at hk]; simp [sortB]
theorem sortB_len : ∀ (L : List α), (sortB lt eq L).length ≤ L.length := by
  intro L
  suffices H : ∀ k, k ≤ L.length → (sortB lt eq (L.take k)).length ≤ k by
    have := H L.length (Nat.le_refl _)
    rwa [List.take_of_length_le (Nat.le_refl _)] at this
  intro k
  induction k with
  | zero => intro _; simp [sortB]
  | succ k ih =>
    intro hk
    rw [sortB_succ lt eq L (by omega)]
    have := insB_len lt eq (L.getD k default) (sortB lt eq (L.take k))
    have := ih (by omega)
    omega
end
/-- The first k, and what lies behind them. -/
theorem SlAt.take {α : Type} [Inhabited α] {R : Rep α} {k bytes : Nat} {A : Where} {w : World} {a : Option Addr} {n cap : Nat} {L : List α} (h : SlAt R k bytes A w a n cap L) {t : Nat} (ht : t ≤ n) : SlAt R k bytes A w a t cap (L.take t) := by
  obtain ⟨h1, h2, h3, h4, h5⟩ := h
  refine ⟨by rw [List.length_take]; omega, by omega, h3, Nat.le_trans (Nat.mul_le_mul_right bytes ht) h4, fun h0 => ?_⟩
  obtain ⟨B, off, e, hB, hA, hc⟩ := h5 (by omega)
  refine ⟨B, off, e, hB, hA, fun i hi => ?_⟩
  obtain ⟨cs, h6, h7⟩ := hc i (by omega)
  have : (L.take t).getD i default = L.getD i default := by
    rw [getE _ _ (show i < (L.take t).length by rw [List.length_take]; omega), getE _ _ (show i < L.length by omega), List.getElem_take]
  rw [this]
  exact ⟨cs, h6, h7⟩
theorem SlAt.drop {α : Type} [Inhabited α] {R : Rep α} {k bytes : Nat} {A : Where} {w : World} {B off n cap : Nat} {L : List α} (h : SlAt R k bytes A w (some ⟨B, off, none⟩) n cap L) {t : Nat} (ht : t ≤ n) : SlAt R k bytes A w (some ⟨B, off + t * k, none⟩) (n - t) (cap - t) (L.drop t) := by
  obtain ⟨h1, h2, h3, h4, h5⟩ := h
  refine ⟨by rw [List.length_drop]; omega, by omega, (fun h => by cases h), Nat.le_trans (Nat.mul_le_mul_right bytes (Nat.sub_le _ _)) h4, fun h0 => ?_⟩
  obtain ⟨B', off', e, hB, hA, hc⟩ := h5 (by omega)
  injection e with e
  injection e with e1 e2
  subst e1 e2
  refine ⟨B, _, rfl, hB, hA, fun i hi => ?_⟩
  obtain ⟨cs, h6, h7⟩ := hc (t + i) (by omega)
  have : (L.drop t).getD i default = L.getD (t + i) default := by
    rw [getE _ _ (show i < (L.drop t).length by rw [List.length_drop]; omega), getE _ _ (show t + i < L.length by omega), List.getElem_drop]
  rw [this]
  refine ⟨cs, h6, fun j v hj => ?_⟩
  have := h7 j v hj
  rwa [Nat.add_mul, ← Nat.add_assoc] at this
end Go.Proofs.Yteihniiacfghoab
namespace Go.Proofs.Yteihniiacfghoab
open Go.RowKit
set_option linter.unusedSimpArgs false


abbrev InfoD := NodeD × List ByteArray × ResD × List Int × List ByteArray
def RInfo : Rep InfoD := RPair RNode (RPair (RSl RStr 1 16) (RPair RRes (RPair (RSl RInt 1 8) (RSl RStr 1 16))))
theorem RInfo.firm : Firm RInfo 15 := Firm.pair RNode.firm (Firm.pair (RSl.firm RStr.firm) (Firm.pair RRes.firm (Firm.pair (RSl.firm RInt.firm) ((RSl.firm RStr.firm)))))
theorem RInfo.out {A : Where} {w : World} {cs : List Value} {x : InfoD} (h : RInfo A w cs x) : ∃ h1 h2 h9 h13 h14 : Hd, cs = [.string x.1.1, .slice h1.1 h1.2.1 h1.2.2, .slice h2.1 h2.2.1 h2.2.2, .bool x.1.2.2.2.1, .int .i64 x.1.2.2.2.2.1.1, .int .i64 x.1.2.2.2.2.1.2.1, .int .i64 x.1.2.2.2.2.1.2.2, .int .i64 x.1.2.2.2.2.2.1, .int .i64 x.1.2.2.2.2.2.2, .slice h9.1 h9.2.1 h9.2.2, .int .i64 x.2.2.1.1, .int .i64 x.2.2.1.2.1, .int .i64 x.2.2.1.2.2, .slice h13.1 h13.2.1 h13.2.2, .slice h14.1 h14.2.1 h14.2.2] ∧ x.1.1.size ≤ 140737488355328 ∧ SlAt RLabel 2 32 A w h1.1 h1.2.1 h1.2.2 x.1.2.1 ∧ SlAt RTaint 3 40 A w h2.1 h2.2.1 h2.2.2 x.1.2.2.1 ∧ SlAt RStr 1 16 A w h9.1 h9.2.1 h9.2.2 x.2.1 ∧ SlAt RInt 1 8 A w h13.1 h13.2.1 h13.2.2 x.2.2.2.1 ∧ SlAt RStr 1 16 A w h14.1 h14.2.1 h14.2.2 x.2.2.2.2 := by
  obtain ⟨l_0, r_0, q_0, f_0, g_0⟩ := h
  obtain ⟨l_0_0, r_0_0, q_0_0, f_0_0, g_0_0⟩ := f_0
  obtain ⟨e_0_0, s_0_0⟩ := f_0_0
  obtain ⟨l_0_1, r_0_1, q_0_1, f_0_1, g_0_1⟩ := g_0_0
  obtain ⟨a_0_1, n_0_1, c_0_1, e_0_1, s_0_1⟩ := f_0_1
  obtain ⟨l_0_2, r_0_2, q_0_2, f_0_2, g_0_2⟩ := g_0_1
  obtain ⟨a_0_2, n_0_2, c_0_2, e_0_2, s_0_2⟩ := f_0_2
  obtain ⟨l_0_3, r_0_3, q_0_3, f_0_3, g_0_3⟩ := g_0_2
  have e_0_3 := f_0_3
  obtain ⟨l_0_4, r_0_4, q_0_4, f_0_4, g_0_4⟩ := g_0_3
  obtain ⟨l_0_4_0, r_0_4_0, q_0_4_0, f_0_4_0, g_0_4_0⟩ := f_0_4
  have e_0_4_0 := f_0_4_0
  obtain ⟨l_0_4_1, r_0_4_1, q_0_4_1, f_0_4_1, g_0_4_1⟩ := g_0_4_0
  have e_0_4_1 := f_0_4_1
  have e_0_4_2 := g_0_4_1
  obtain ⟨l_0_5, r_0_5, q_0_5, f_0_5, g_0_5⟩ := g_0_4
  have e_0_5 := f_0_5
  have e_0_6 := g_0_5
  obtain ⟨l_1, r_1, q_1, f_1, g_1⟩ := g_0
  obtain ⟨a_1, n_1, c_1, e_1, s_1⟩ := f_1
  obtain ⟨l_2, r_2, q_2, f_2, g_2⟩ := g_1
  obtain ⟨l_2_0, r_2_0, q_2_0, f_2_0, g_2_0⟩ := f_2
  have e_2_0 := f_2_0
  obtain ⟨l_2_1, r_2_1, q_2_1, f_2_1, g_2_1⟩ := g_2_0
  have e_2_1 := f_2_1
  have e_2_2 := g_2_1
  obtain ⟨l_3, r_3, q_3, f_3, g_3⟩ := g_2
  obtain ⟨a_3, n_3, c_3, e_3, s_3⟩ := f_3
  obtain ⟨a_4, n_4, c_4, e_4, s_4⟩ := g_3
  exact ⟨(a_0_1, n_0_1, c_0_1), (a_0_2, n_0_2, c_0_2), (a_1, n_1, c_1), (a_3, n_3, c_3), (a_4, n_4, c_4), by rw [q_0, q_0_0, e_0_0, q_0_1, e_0_1, q_0_2, e_0_2, q_0_3, e_0_3, q_0_4, q_0_4_0, e_0_4_0, q_0_4_1, e_0_4_1, e_0_4_2, q_0_5, e_0_5, e_0_6, q_1, e_1, q_2, q_2_0, e_2_0, q_2_1, e_2_1, e_2_2, q_3, e_3, e_4]; rfl, s_0_0, s_0_1, s_0_2, s_1, s_3, s_4⟩
theorem RInfo.mk {A : Where} {w : World} {x : InfoD} {h1 h2 h9 h13 h14 : Hd} (p0 : x.1.1.size ≤ 140737488355328) (p1 : SlAt RLabel 2 32 A w h1.1 h1.2.1 h1.2.2 x.1.2.1) (p2 : SlAt RTaint 3 40 A w h2.1 h2.2.1 h2.2.2 x.1.2.2.1) (p3 : SlAt RStr 1 16 A w h9.1 h9.2.1 h9.2.2 x.2.1) (p4 : SlAt RInt 1 8 A w h13.1 h13.2.1 h13.2.2 x.2.2.2.1) (p5 : SlAt RStr 1 16 A w h14.1 h14.2.1 h14.2.2 x.2.2.2.2) : RInfo A w [.string x.1.1, .slice h1.1 h1.2.1 h1.2.2, .slice h2.1 h2.2.1 h2.2.2, .bool x.1.2.2.2.1, .int .i64 x.1.2.2.2.2.1.1, .int .i64 x.1.2.2.2.2.1.2.1, .int .i64 x.1.2.2.2.2.1.2.2, .int .i64 x.1.2.2.2.2.2.1, .int .i64 x.1.2.2.2.2.2.2, .slice h9.1 h9.2.1 h9.2.2, .int .i64 x.2.2.1.1, .int .i64 x.2.2.1.2.1, .int .i64 x.2.2.1.2.2, .slice h13.1 h13.2.1 h13.2.2, .slice h14.1 h14.2.1 h14.2.2] x :=
  ⟨_, _, rfl, ⟨_, _, rfl, ⟨rfl, p0⟩, ⟨_, _, rfl, ⟨h1.1, h1.2.1, h1.2.2, rfl, p1⟩, ⟨_, _, rfl, ⟨h2.1, h2.2.1, h2.2.2, rfl, p2⟩, ⟨_, _, rfl, rfl, ⟨_, _, rfl, ⟨_, _, rfl, rfl, ⟨_, _, rfl, rfl, rfl⟩⟩, ⟨_, _, rfl, rfl, rfl⟩⟩⟩⟩⟩⟩, ⟨_, _, rfl, ⟨h9.1, h9.2.1, h9.2.2, rfl, p3⟩, ⟨_, _, rfl, ⟨_, _, rfl, rfl, ⟨_, _, rfl, rfl, rfl⟩⟩, ⟨_, _, rfl, ⟨h13.1, h13.2.1, h13.2.2, rfl, p4⟩, ⟨h14.1, h14.2.1, h14.2.2, rfl, p5⟩⟩⟩⟩⟩
end Go.Proofs.Yteihniiacfghoab
namespace Go.Proofs.Yteihniiacfghoab

/-- What a number counts as. -/
def clampI (a : Int) : Int := if a < 0 then 0 else if 1125899906842624 < a then 1125899906842624 else a
theorem clampI_ge (a : Int) : 0 ≤ clampI a := by unfold clampI; split <;> (try split) <;> omega
theorem clampI_le (a : Int) : clampI a ≤ 1125899906842624 := by unfold clampI; split <;> (try split) <;> omega
theorem clampI_id {a : Int} (h0 : 0 ≤ a) (h1 : a ≤ 1125899906842624) : clampI a = a := by unfold clampI; rw [if_neg (by omega), if_neg (by omega)]
theorem clampI_neg {a : Int} (h : a < 0) : clampI a = 0 := by unfold clampI; rw [if_pos h]
theorem clampI_big {a : Int} (h : 1125899906842624 < a) : clampI a = 1125899906842624 := by unfold clampI; rw [if_neg (by omega), if_pos h]

def addI (a b : Int) : Int := clampI (clampI a + clampI b)
def subI (a b : Int) : Int := clampI (clampI a - clampI b)
theorem addI_ge (a b : Int) : 0 ≤ addI a b := clampI_ge _
theorem addI_le (a b : Int) : addI a b ≤ 1125899906842624 := clampI_le _
theorem subI_ge (a b : Int) : 0 ≤ subI a b := clampI_ge _
theorem subI_le (a b : Int) : subI a b ≤ 1125899906842624 := clampI_le _
theorem clampI_addI (a b : Int) : clampI (addI a b) = addI a b := clampI_id (addI_ge a b) (addI_le a b)
theorem clampI_subI (a b : Int) : clampI (subI a b) = subI a b := clampI_id (subI_ge a b) (subI_le a b)
theorem clampI_clampI (a : Int) : clampI (clampI a) = clampI a := clampI_id (clampI_ge a) (clampI_le a)
theorem addI_def (a b : Int) : addI a b = if 1125899906842624 < clampI a + clampI b then 1125899906842624 else clampI a + clampI b := by
  have h1 := clampI_ge a; have h2 := clampI_ge b
  unfold addI
  rw [clampI, if_neg (by omega)]
theorem subI_def (a b : Int) : subI a b = if clampI a < clampI b then 0 else clampI a - clampI b := by
  have h1 := clampI_ge a; have h2 := clampI_ge b; have h3 := clampI_le a; have h4 := clampI_le b
  unfold subI
  rw [clampI]
  split <;> rename_i h
  · rw [if_pos (by omega)]
  · rw [if_neg (by omega), if_neg (by omega)]
theorem addI_comm (a b : Int) : addI a b = addI b a := by unfold addI; rw [Int.add_comm]
theorem addI_assoc (a b c : Int) : addI (addI a b) c = addI a (addI b c) := by
  have h1 := clampI_ge a; have h2 := clampI_ge b; have h3 := clampI_ge c
  have h4 := clampI_le a; have h5 := clampI_le b; have h6 := clampI_le c
  rw [addI_def (addI a b) c, addI_def a (addI b c), clampI_addI, clampI_addI, addI_def a b, addI_def b c]
  split <;> split <;> split <;> (try split) <;> omega
theorem subI_addI (a b : Int) (h : addI a b ≠ 1125899906842624) : subI (addI a b) b = clampI a := by
  have h1 := clampI_ge a; have h2 := clampI_ge b; have h4 := clampI_le a
  rw [subI_def, clampI_addI]
  rw [addI_def] at h ⊢
  split at h
  · omega
  · rename_i h0
    rw [if_neg h0, if_neg (by omega)]
    omega

/-- A number, times a number, at most MaxAmount. -/
def timesI (a n : Int) : Int := if 1125899906842624 < clampI a * clampI n then 1125899906842624 else clampI a * clampI n
/-- A share. -/
def scaleI (c : Int) : Int := if c < 0 then 0 else if 1000 < c then 1000 else c
theorem scaleI_ge (a : Int) : 0 ≤ scaleI a := by unfold scaleI; split <;> (try split) <;> omega
theorem scaleI_le (a : Int) : scaleI a ≤ 1000 := by unfold scaleI; split <;> (try split) <;> omega
def shareI (a b c : Int) : Int := if clampI b = 0 then 0 else if scaleI c < clampI a * scaleI c / clampI b then scaleI c else clampI a * scaleI c / clampI b
end Go.Proofs.Yteihniiacfghoab
namespace Go.Proofs.Yteihniiacfghoab
open Go.RowKit
set_option linter.unusedSimpArgs false

def plusR (a b : ResD) : ResD := (addI a.1 b.1, addI a.2.1 b.2.1, addI a.2.2 b.2.2)
def minusR (a b : ResD) : ResD := (subI a.1 b.1, subI a.2.1 b.2.1, subI a.2.2 b.2.2)
def pWant (p : PodD) : ResD := p.2.2.2.1
def pPorts (p : PodD) : List Int := p.2.2.2.2.2.2.2.1
def pClaims (p : PodD) : List ByteArray := p.2.2.2.2.2.2.2.2.2.2.2.1
def pNode (p : PodD) : ByteArray := p.2.2.2.2.2.2.2.2.2.2.2.2.1
abbrev AccD := List ByteArray × ResD × List Int × List ByteArray
def ofStep (s : AccD) (p : PodD) : AccD := if hasB sEq s.1 p.1 = true then s else (s.1 ++ [p.1], plusR s.2.1 (pWant p), s.2.2.1 ++ pPorts p, s.2.2.2 ++ pClaims p)
def ofAcc (L : List PodD) : AccD := L.foldl ofStep ([], (0, 0, 0), [], [])
def accInfo (n : NodeD) (s : AccD) : InfoD := (n, sortB sLt sEq s.1, s.2.1, sortB iLt iEq s.2.2.1, sortB sLt sEq s.2.2.2)
def ofP (n : NodeD) (L : List PodD) : InfoD := accInfo n (ofAcc L)
def addP (i : InfoD) (p : PodD) : InfoD := (i.1, sortB sLt sEq (i.2.1 ++ [p.1]), plusR i.2.2.1 (pWant p), sortB iLt iEq (i.2.2.2.1 ++ pPorts p), sortB sLt sEq (i.2.2.2.2 ++ pClaims p))
def restP (i : InfoD) (p : PodD) (rest : List PodD) : List PodD := rest.filter fun q => !sEq q.1 p.1 && hasB sEq i.2.1 q.1
def freeP (i : InfoD) : ResD := minusR i.1.2.2.2.2.1 i.2.2.1
def clashP (i : InfoD) (p : PodD) : Bool := (pPorts p).any fun q => hasB iEq i.2.2.2.1 q
def sumBy {α : Type} (f : α → Nat) (L : List α) : Nat := (L.map f).sum
/-- What the pods' ports and claims take together is within what an append may ask. -/
def FitsP (L : List PodD) : Prop := sumBy (fun p => (pPorts p).length) L * 8 ≤ 140737488351232 ∧ sumBy (fun p => (pClaims p).length) L * 16 ≤ 140737488351232
theorem acc_succ (L : List PodD) {k : Nat} (hk : k < L.length) : ofAcc (L.take (k + 1)) = ofStep (ofAcc (L.take k)) (L.getD k default) := by
  rw [← take_at hk]; simp [ofAcc]
theorem sumBy_append {α : Type} (f : α → Nat) (L M : List α) : sumBy f (L ++ M) = sumBy f L + sumBy f M := by simp [sumBy]
theorem sumBy_take {α : Type} (f : α → Nat) (L : List α) (k : Nat) : sumBy f (L.take k) ≤ sumBy f L := by
  have := sumBy_append f (L.take k) (L.drop k)
  rw [List.take_append_drop] at this
  omega
theorem acc_len (L : List PodD) : ∀ k, k ≤ L.length → (ofAcc (L.take k)).1.length ≤ k ∧ (ofAcc (L.take k)).2.2.1.length ≤ sumBy (fun p => (pPorts p).length) (L.take k) ∧ (ofAcc (L.take k)).2.2.2.length ≤ sumBy (fun p => (pClaims p).length) (L.take k) := by
  intro k
  induction k with
  | zero => intro _; simp [ofAcc, sumBy]
  | succ k ih =>
    intro hk
    obtain ⟨h1, h2, h3⟩ := ih (by omega)
    rw [acc_succ L (by omega), ← take_at (show k < L.length by omega), sumBy_append, sumBy_append]
    unfold ofStep
    split
    · exact ⟨by omega, by omega, by omega⟩
    · simp only [List.length_append, List.length_singleton]
      simp only [sumBy, List.map_cons, List.map_nil, List.sum_cons, List.sum_nil] at h2 h3 ⊢
      exact ⟨by omega, by omega, by omega⟩
theorem acc_fits {L : List PodD} (h : FitsP L) {k : Nat} (hk : k < L.length) : ((ofAcc (L.take k)).2.2.1.length + (pPorts (L.getD k default)).length) * 8 ≤ 140737488351232 ∧ ((ofAcc (L.take k)).2.2.2.length + (pClaims (L.getD k default)).length) * 16 ≤ 140737488351232 := by
  obtain ⟨_, h2, h3⟩ := acc_len L k (by omega)
  have e1 := sumBy_take (fun p => (pPorts p).length) L (k + 1)
  have e2 := sumBy_take (fun p => (pClaims p).length) L (k + 1)
  rw [← take_at hk, sumBy_append] at e1 e2
  simp only [sumBy, List.map_cons, List.map_nil, List.sum_cons, List.sum_nil] at e1 e2 h2 h3 h
  obtain ⟨h4, h5⟩ := h
  simp only [sumBy] at h4 h5
  exact ⟨by omega, by omega⟩
theorem acc_fits' {L : List PodD} (h : FitsP L) : (ofAcc L).2.2.1.length * 8 ≤ 140737488351232 ∧ (ofAcc L).2.2.2.length * 16 ≤ 140737488351232 := by
  obtain ⟨_, h2, h3⟩ := acc_len L L.length (Nat.le_refl _)
  rw [List.take_of_length_le (Nat.le_refl _)] at h2 h3
  obtain ⟨h4, h5⟩ := h
  exact ⟨by omega, by omega⟩
end Go.Proofs.Yteihniiacfghoab
namespace Go.Proofs.Yteihniiacfghoab
open Go.RowKit
set_option linter.unusedSimpArgs false

def iGive (i : InfoD) : ResD := i.1.2.2.2.2.1
def iUsed (i : InfoD) : ResD := i.2.2.1
def pBears (p : PodD) : List Bear := p.2.2.2.2.1
def pPrefs (p : PodD) : List PreferD := p.2.2.2.2.2.2.1
def least1 (g u w : Int) : Int := shareI (subI (subI g u) w) g 100
def leastP (p : PodD) (i : InfoD) : Int := (least1 (iGive i).1 (iUsed i).1 (pWant p).1 + least1 (iGive i).2.1 (iUsed i).2.1 (pWant p).2.1) / 2
def even1 (g u w : Int) : Int := shareI (addI u w) g 100
def maxZ (a b : Int) : Int := if a < b then b else a
def evenP (p : PodD) (i : InfoD) : Int :=
  100 - maxZ (even1 (iGive i).1 (iUsed i).1 (pWant p).1 - even1 (iGive i).2.1 (iUsed i).2.1 (pWant p).2.1) (even1 (iGive i).2.1 (iUsed i).2.1 (pWant p).2.1 - even1 (iGive i).1 (iUsed i).1 (pWant p).1)
/-- A number, from 0 to m. -/
def clipZ (m x : Int) : Int := if x < 0 then 0 else if m < x then m else x
theorem clipZ_ge {m : Int} (hm : 0 ≤ m) (x : Int) : 0 ≤ clipZ m x := by unfold clipZ; split <;> (try split) <;> omega
theorem clipZ_le {m : Int} (hm : 0 ≤ m) (x : Int) : clipZ m x ≤ m := by unfold clipZ; split <;> (try split) <;> omega
abbrev c40 (x : Int) : Int := clipZ 1099511627776 x
def topP (l : List Int) : Int := l.foldl (fun m x => maxZ m (c40 x)) 0
def norm1 (m : Int) (rev : Bool) (x : Int) : Int := if rev = true then 100 - (if 0 < m then c40 x * 100 / m else 0) else (if 0 < m then c40 x * 100 / m else 0)
def normP (l : List Int) (rev : Bool) : List Int := l.map (norm1 (topP l) rev)
theorem norm_len (l : List Int) (rev : Bool) : (normP l rev).length = l.length := List.length_map ..
def shyI (p : PodD) (i : InfoD) : Int := (shyN i.1.2.2.1 (pBears p) : Nat)
def calmP (p : PodD) (l : List InfoD) : List Int := normP (l.map (shyI p)) true
def like1 (L : List Lab) (x : PreferD) : Int := if matchL L x.1 = true then clipZ 1073741824 x.2 else 0
def likeS (L : List Lab) (P : List PreferD) : Int := P.foldl (fun n x => IntKind.i64.wrap (n + like1 L x)) 0
def likeI (p : PodD) (i : InfoD) : Int := likeS i.1.2.1 (pPrefs p)
def likedP (p : PodD) (l : List InfoD) : List Int := normP (l.map (likeI p)) false
abbrev W4 := Int × Int × Int × Int
def cw (x : Int) : Int := clipZ 100 x
def total1 (a b c d : Int) (w : W4) : Int := a * cw w.1 + b * cw w.2.1 + c * cw w.2.2.1 + d * cw w.2.2.2
def totalAt (p : PodD) (l : List InfoD) (w : W4) (k : Nat) : Int := total1 (leastP p (l.getD k default)) (evenP p (l.getD k default)) ((calmP p l).getD k default) ((likedP p l).getD k default) w
def totalP (p : PodD) (l : List InfoD) (w : W4) : List Int := (List.range l.length).map (totalAt p l w)
def bestStep (s : List Int) (may : List Bool) (out : List Nat) (i : Nat) : List Nat :=
  if may.getD i default = true then
    (if out = [] ∨ s.getD (out.getD 0 default) default < s.getD i default then [i] else if s.getD i default = s.getD (out.getD 0 default) default then out ++ [i] else out)
  else out
def bestTo (s : List Int) (may : List Bool) : Nat → List Nat
  | 0 => []
  | i + 1 => bestStep s may (bestTo s may i) i
def bestP (s : List Int) (may : List Bool) : List Nat := bestTo s may (min s.length may.length)
/-- A number as one of 64 bits without a sign. -/
def unsI (d : Int) : Int := d % 18446744073709551616
def pickP (s : List Int) (may : List Bool) (d : Int) : Int := if bestP s may = [] then -1 else ((bestP s may).getD (unsI d % ((bestP s may).length : Int)).toNat default : Nat)
end Go.Proofs.Yteihniiacfghoab
namespace Go.Proofs.Yteihniiacfghoab
open Go.RowKit
set_option linter.unusedSimpArgs false

theorem share_ge (a b : Int) : 0 ≤ shareI a b 100 := by
  have h1 := clampI_ge a; have h2 := clampI_ge b
  unfold shareI
  split
  · omega
  · split
    · decide
    · exact Int.ediv_nonneg (Int.mul_nonneg h1 (by decide)) h2
theorem share_le (a b : Int) : shareI a b 100 ≤ 100 := by
  unfold shareI
  split
  · omega
  · split
    · decide
    · rename_i h
      have : scaleI 100 = 100 := rfl
      omega
theorem share_mono {a a' : Int} (h : clampI a ≤ clampI a') (b : Int) : shareI a b 100 ≤ shareI a' b 100 := by
  have h2 := clampI_ge b
  have e : scaleI 100 = 100 := rfl
  unfold shareI
  rw [e]
  by_cases hb : clampI b = 0
  · rw [if_pos hb, if_pos hb]; exact Int.le_refl _
  · rw [if_neg hb, if_neg hb]
    have h3 : clampI a * 100 / clampI b ≤ clampI a' * 100 / clampI b := Int.ediv_le_ediv (by omega) (by omega)
    split <;> split <;> omega
theorem sub_mono_r (a : Int) {b b' : Int} (h : clampI b ≤ clampI b') : subI a b' ≤ subI a b := by
  have h1 := clampI_ge a; have h2 := clampI_ge b; have h3 := clampI_le a; have h4 := clampI_ge b'
  rw [subI_def, subI_def]
  split <;> split <;> omega
theorem sub_mono_l {a a' : Int} (h : clampI a ≤ clampI a') (b : Int) : subI a b ≤ subI a' b := by
  have h1 := clampI_ge a; have h2 := clampI_ge b
  rw [subI_def, subI_def]
  split <;> split <;> omega
theorem add_more (a b : Int) : clampI a ≤ clampI (addI a b) := by
  have h1 := clampI_ge a; have h2 := clampI_ge b; have h3 := clampI_le a
  rw [clampI_addI, addI_def]
  split <;> omega
theorem least1_used (g u w x : Int) : least1 g (addI u x) w ≤ least1 g u w := by
  unfold least1
  refine share_mono ?_ _
  rw [clampI_subI, clampI_subI]
  refine sub_mono_l ?_ _
  rw [clampI_subI, clampI_subI]
  exact sub_mono_r _ (add_more _ _)
theorem least1_want (g u w x : Int) : least1 g u (addI w x) ≤ least1 g u w := by
  unfold least1
  refine share_mono ?_ _
  rw [clampI_subI, clampI_subI]
  exact sub_mono_r _ (add_more _ _)
theorem half_mono {a b c d : Int} (h1 : a ≤ c) (h2 : b ≤ d) : (a + b) / 2 ≤ (c + d) / 2 := Int.ediv_le_ediv (by decide) (by omega)
theorem least_ge (p : PodD) (i : InfoD) : 0 ≤ leastP p i := Int.ediv_nonneg (Int.add_nonneg (share_ge _ _) (share_ge _ _)) (by decide)
theorem least_le (p : PodD) (i : InfoD) : leastP p i ≤ 100 := by
  have h1 := share_le (subI (subI (iGive i).1 (iUsed i).1) (pWant p).1) (iGive i).1
  have h2 := share_le (subI (subI (iGive i).2.1 (iUsed i).2.1) (pWant p).2.1) (iGive i).2.1
  unfold leastP least1
  omega
theorem even_ge (p : PodD) (i : InfoD) : 0 ≤ evenP p i := by
  have h1 := share_le (addI (iUsed i).1 (pWant p).1) (iGive i).1
  have h2 := share_le (addI (iUsed i).2.1 (pWant p).2.1) (iGive i).2.1
  have h3 := share_ge (addI (iUsed i).1 (pWant p).1) (iGive i).1
  have h4 := share_ge (addI (iUsed i).2.1 (pWant p).2.1) (iGive i).2.1
  unfold evenP even1 maxZ
  split <;> omega
theorem even_le (p : PodD) (i : InfoD) : evenP p i ≤ 100 := by
  unfold evenP even1 maxZ
  split <;> omega
theorem top_ge : ∀ (l : List Int) (m : Int), m ≤ l.foldl (fun m x => maxZ m (c40 x)) m
  | [], _ => Int.le_refl _
  | x :: l, m => by
    refine Int.le_trans ?_ (top_ge l (maxZ m (c40 x)))
    unfold maxZ; split <;> omega
theorem top_mem : ∀ (l : List Int) (m : Int) (x : Int), x ∈ l → c40 x ≤ l.foldl (fun m x => maxZ m (c40 x)) m
  | [], _, _, h => by cases h
  | y :: l, m, x, h => by
    rcases List.mem_cons.1 h with rfl | h
    · refine Int.le_trans ?_ (top_ge l (maxZ m (c40 x)))
      unfold maxZ; split <;> omega
    · exact top_mem l _ x h
theorem top_le : ∀ (l : List Int) (m b : Int), m ≤ b → (∀ x ∈ l, c40 x ≤ b) → l.foldl (fun m x => maxZ m (c40 x)) m ≤ b
  | [], _, _, h, _ => h
  | y :: l, m, b, h, k => by
    refine top_le l _ b ?_ (fun x hx => k x (List.mem_cons_of_mem _ hx))
    have := k y List.mem_cons_self
    show maxZ m (c40 y) ≤ b
    unfold maxZ; split <;> omega
theorem topP_le (l : List Int) : topP l ≤ 1099511627776 := top_le l 0 _ (by decide) (fun x _ => clipZ_le (by decide) x)
theorem topP_ge (l : List Int) : 0 ≤ topP l := top_ge l 0
theorem top_mem_iff {l m : List Int} (h : ∀ x, x ∈ l ↔ x ∈ m) : topP l = topP m := by
  refine Int.le_antisymm (top_le l 0 _ (top_ge m 0) (fun x hx => top_mem m 0 x ((h x).1 hx))) (top_le m 0 _ (top_ge l 0) (fun x hx => top_mem l 0 x ((h x).2 hx)))
theorem norm1_in {m : Int} (rev : Bool) {x : Int} (h : c40 x ≤ m) : 0 ≤ norm1 m rev x ∧ norm1 m rev x ≤ 100 := by
  have h0 : 0 ≤ c40 x := clipZ_ge (by decide) x
  have hq : 0 < m → 0 ≤ c40 x * 100 / m ∧ c40 x * 100 / m ≤ 100 := fun hm => by
    refine ⟨Int.ediv_nonneg (Int.mul_nonneg h0 (by decide)) (by omega), ?_⟩
    have : c40 x * 100 / m ≤ m * 100 / m := Int.ediv_le_ediv hm (by omega)
    rwa [Int.mul_comm m 100, Int.mul_ediv_cancel _ (by omega)] at this
  unfold norm1
  split
  · split
    · have := hq (by assumption); omega
    · omega
  · split
    · exact hq (by assumption)
    · omega
theorem norm_in (l : List Int) (rev : Bool) : ∀ y ∈ normP l rev, 0 ≤ y ∧ y ≤ 100 := fun y hy => by
  obtain ⟨x, hx, rfl⟩ := List.mem_map.1 hy
  exact norm1_in rev (top_mem l 0 x hx)
theorem norm_turn (l m : List Int) (rev : Bool) : normP (m ++ l) rev = (normP (l ++ m) rev).drop l.length ++ (normP (l ++ m) rev).take l.length := by
  unfold normP
  rw [top_mem_iff (l := m ++ l) (m := l ++ m) (fun x => by simp [or_comm]), List.map_append, List.map_append]
  have h : (l.map (norm1 (topP (l ++ m)) rev)).length = l.length := List.length_map ..
  rw [← h, List.drop_left, List.take_left]
theorem norm_zero (l : List Int) (rev : Bool) (h : ∀ x ∈ l, x = 0) : ∀ y ∈ normP l rev, y = if rev = true then 100 else 0 := fun y hy => by
  have ht : topP l ≤ 0 := top_le l 0 0 (Int.le_refl _) (fun x hx => by rw [h x hx]; decide)
  obtain ⟨x, hx, rfl⟩ := List.mem_map.1 hy
  unfold norm1
  rw [if_neg (by omega : ¬ 0 < topP l)]
  cases rev <;> rfl
theorem cw_ge (x : Int) : 0 ≤ cw x := clipZ_ge (by decide) x
theorem cw_le (x : Int) : cw x ≤ 100 := clipZ_le (by decide) x
theorem mul_in {a c : Int} (ha : 0 ≤ a ∧ a ≤ 100) (x : Int) (hc : c = cw x) : 0 ≤ a * c ∧ a * c ≤ 100 * c := by
  have := cw_ge x
  subst hc
  exact ⟨Int.mul_nonneg ha.1 this, Int.mul_le_mul_of_nonneg_right ha.2 this⟩
def mostP (w : W4) : Int := 100 * cw w.1 + 100 * cw w.2.1 + 100 * cw w.2.2.1 + 100 * cw w.2.2.2
theorem total1_in {a b c d : Int} (ha : 0 ≤ a ∧ a ≤ 100) (hb : 0 ≤ b ∧ b ≤ 100) (hc : 0 ≤ c ∧ c ≤ 100) (hd : 0 ≤ d ∧ d ≤ 100) (w : W4) : 0 ≤ total1 a b c d w ∧ total1 a b c d w ≤ mostP w := by
  have h1 := mul_in ha w.1 rfl; have h2 := mul_in hb w.2.1 rfl; have h3 := mul_in hc w.2.2.1 rfl; have h4 := mul_in hd w.2.2.2 rfl
  unfold total1 mostP
  omega
theorem getD_in {l : List Int} (h : ∀ y ∈ l, 0 ≤ y ∧ y ≤ 100) (k : Nat) : 0 ≤ l.getD k default ∧ l.getD k default ≤ 100 := by
  by_cases hk : k < l.length
  · rw [List.getD_eq_getElem?_getD, List.getElem?_eq_getElem hk]; exact h _ (List.getElem_mem hk)
  · rw [List.getD_eq_getElem?_getD, List.getElem?_eq_none (by omega)]; exact ⟨by decide, by decide⟩
theorem totalAt_in (p : PodD) (l : List InfoD) (w : W4) (k : Nat) : 0 ≤ totalAt p l w k ∧ totalAt p l w k ≤ mostP w :=
  total1_in ⟨least_ge _ _, least_le _ _⟩ ⟨even_ge _ _, even_le _ _⟩ (getD_in (norm_in _ _) k) (getD_in (norm_in _ _) k) w
theorem total_len (p : PodD) (l : List InfoD) (w : W4) : (totalP p l w).length = l.length := by unfold totalP; rw [List.length_map, List.length_range]
/-- The infos turned around: so are the totals. -/
theorem total_turn (p : PodD) (l m : List InfoD) (w : W4) : totalP p (m ++ l) w = (totalP p (l ++ m) w).drop l.length ++ (totalP p (l ++ m) w).take l.length := by
  have hc : calmP p (m ++ l) = (calmP p (l ++ m)).drop l.length ++ (calmP p (l ++ m)).take l.length := by
    unfold calmP; rw [List.map_append, List.map_append]
    have := norm_turn (l.map (shyI p)) (m.map (shyI p)) true
    rwa [List.length_map] at this
  have hl : likedP p (m ++ l) = (likedP p (l ++ m)).drop l.length ++ (likedP p (l ++ m)).take l.length := by
    unfold likedP; rw [List.map_append, List.map_append]
    have := norm_turn (l.map (likeI p)) (m.map (likeI p)) false
    rwa [List.length_map] at this
  have ec : (calmP p (l ++ m)).length = l.length + m.length := by unfold calmP; rw [norm_len, List.length_map, List.length_append]
  have el : (likedP p (l ++ m)).length = l.length + m.length := by unfold likedP; rw [norm_len, List.length_map, List.length_append]
  have et : (totalP p (l ++ m) w).length = l.length + m.length := by rw [total_len, List.length_append]
  refine List.ext_getElem (by rw [total_len, List.length_append, List.length_append, List.length_drop, List.length_take, et]; omega) (fun k h1 h2 => ?_)
  have hk : k < m.length + l.length := by rw [total_len, List.length_append] at h1; exact h1
  have e1 : (totalP p (m ++ l) w)[k] = totalAt p (m ++ l) w k := by simp only [totalP, List.getElem_map, List.getElem_range]
  have e2 : ∀ j (hj : j < l.length + m.length), (totalP p (l ++ m) w)[j]'(by rw [et]; exact hj) = totalAt p (l ++ m) w j := fun j hj => by simp only [totalP, List.getElem_map, List.getElem_range]
  have gd : ∀ (α : Type) [Inhabited α] (L : List α) (n : Nat) (hn : n < L.length), L.getD n default = L[n] := fun α _ L n hn => by rw [List.getD_eq_getElem?_getD, List.getElem?_eq_getElem hn]; rfl
  rw [e1]
  by_cases hm : k < m.length
  · rw [List.getElem_append_left (by rw [List.length_drop, et]; omega), List.getElem_drop, e2 (l.length + k) (by omega)]
    unfold totalAt
    rw [hc, hl, gd _ _ k (by rw [List.length_append]; omega), gd _ (l ++ m) (l.length + k) (by rw [List.length_append]; omega), List.getElem_append_left hm, List.getElem_append_right (by omega)]
    rw [gd _ _ k (by rw [List.length_append, List.length_drop, List.length_take, ec]; omega), gd _ (calmP p (l ++ m)) (l.length + k) (by omega), List.getElem_append_left (by rw [List.length_drop, ec]; omega), List.getElem_drop]
    rw [gd _ _ k (by rw [List.length_append, List.length_drop, List.length_take, el]; omega), gd _ (likedP p (l ++ m)) (l.length + k) (by omega), List.getElem_append_left (by rw [List.length_drop, el]; omega), List.getElem_drop]
    simp
  · have hd : ((totalP p (l ++ m) w).drop l.length).length = m.length := by rw [List.length_drop, et]; omega
    rw [List.getElem_append_right (by rw [hd]; omega), List.getElem_take]
    simp only [hd]
    rw [e2 (k - m.length) (by omega)]
    unfold totalAt
    rw [hc, hl, gd _ _ k (by rw [List.length_append]; omega), gd _ (l ++ m) (k - m.length) (by rw [List.length_append]; omega), List.getElem_append_right (by omega), List.getElem_append_left (by omega)]
    have dc : ((calmP p (l ++ m)).drop l.length).length = m.length := by rw [List.length_drop, ec]; omega
    have dl : ((likedP p (l ++ m)).drop l.length).length = m.length := by rw [List.length_drop, el]; omega
    rw [gd _ _ k (by rw [List.length_append, dc, List.length_take, ec]; omega), gd _ (calmP p (l ++ m)) (k - m.length) (by omega), List.getElem_append_right (by rw [dc]; omega), List.getElem_take]
    rw [gd _ _ k (by rw [List.length_append, dl, List.length_take, el]; omega), gd _ (likedP p (l ++ m)) (k - m.length) (by omega), List.getElem_append_right (by rw [dl]; omega), List.getElem_take]
    simp only [dc, dl]
end Go.Proofs.Yteihniiacfghoab
