/- base.Reqs gives a slice of its own, its values' texts copied too, that holds the same. Condition: the slice holds what is said of it. base.SameTexts, SameInts, SameLabels, SameReqs, sameTerms tell whether two slices hold the same; they change nothing but the count of draws. Condition: the slices hold what is said of them. base.Has and base.HasInt tell whether it is in a list, and change nothing. Condition: the slice lies as is said of it. Insertion into a rising list, each once. Plain mathematics. No condition. Further structs of the program as plain data, and how each lies in cells. No program. No condition. Amounts as plain integers: what a number counts as, sums, differences, multiples and shares, and the laws of order and grouping. Plain mathematics, no program. No condition. What the document makes of pods: names each once, sums, ports, claims. Plain. No condition. A row of one's own, and the blocks of struct variables beside it; an append of a whole slice, empty or not; facts that stay while a variable's block is written. Plain facts on worlds. No condition. Steps of a region that draws its order, in short. Plain facts on the model's walks. No condition. Steps of a region that draws its order and whose last operation (number n) waits for all others: what holds up to that one need not hold behind it. Plain facts on the model's walks. No condition. base.Sorted and the document's ints: rising, each once. Condition: the slice lies as is said of it. Several rows of one's own side by side: an append to one leaves the others. Plain facts on worlds. No condition. -/
import Derived.Test.YtbcclfiopebmpaaGreatQ02
import Derived.Laws.StructEq
import Derived.Deep.MidRow
import Derived.Test.YtbcclfiopebmpaaGreatQ01
import Derived.Maps.RangeWalk
import Derived.StillTail
import Derived.Deep.CutBlock
namespace Go.Proofs.YtbcclfiopebmpaaGreat
open Go.RowKit
set_option linter.unusedSimpArgs false

theorem infoReq : (Tryz.prog.info? 105).map (fun i => (i.zero, i.size, i.bytes)) = some (some (.agg #[.string ⟨#[]⟩, .int .i64 0, .slice none 0 0]), 3, 48) := by kernel_rfl
/-- What has come since a later world is no part of the row. -/
theorem Row.apart {α : Type} [Inhabited α] {R : Rep α} {k : Nat} {A : Where} {w0 u u' : World} {e : TypeId} {v : Value} {L : List α} (h : Row R k A w0 u e v L) (hs : u.heap.size ≤ u'.heap.size) : ∀ b, Fresh u' b → Fresh w0 b ∧ v.ownBlock ≠ some b := by
  obtain ⟨xs, h1, _⟩ := h
  intro b hb
  have hb' : u'.heap.size ≤ b := hb
  have := h1.1.size
  refine ⟨show w0.heap.size ≤ b by omega, fun e => ?_⟩
  have := (h1.2.lt b e).2
  omega
theorem take_at {α : Type} [Inhabited α] {L : List α} {k : Nat} (hk : k < L.length) : L.take k ++ [L.getD k default] = L.take (k + 1) := (take_succ hk).symm
theorem bytes_le {n k bytes : Nat} (h : n * bytes ≤ 140737488351232) (hk : k < n) : (k + 1) * bytes ≤ 140737488355328 := by
  have : (k + 1) * bytes ≤ n * bytes := Nat.mul_le_mul_right _ hk
  omega

end Go.Proofs.YtbcclfiopebmpaaGreat
namespace Go.Proofs.YtbcclfiopebmpaaGreat
open Go.RowKit
set_option linter.unusedSimpArgs false

theorem retB {a b : Bool} (h : a = b) : Ending.returned (.bool a) = .returned (.bool b) := by rw [h]
theorem same_len {α : Type} [DecidableEq α] {L M : List α} (h : L.length ≠ M.length) : decide (L = M) = false := by
  rw [decide_eq_false_iff_not]; intro e; exact h (by rw [e])
section
variable {α : Type} [Inhabited α] [DecidableEq α] {L M : List α}
theorem same_no {k : Nat} (h : L.getD k default ≠ M.getD k default) : decide (L = M) = false := by
  rw [decide_eq_false_iff_not]; intro e; exact h (by rw [e])
theorem same_yes (hl : L.length = M.length) (h : ∀ j, j < L.length → L.getD j default = M.getD j default) : decide (L = M) = true := by
  rw [decide_eq_true_iff]
  apply List.ext_getElem hl
  intro i h1 h2
  have := h i h1
  rwa [getE _ _ h1, getE _ _ h2] at this
end
theorem bne_of (a b : Int) : (a != b) = !(a == b) := rfl
theorem guardL : Tryz.prog.eqGuardType Tryz.prog.depth 152 = false := by kernel_rfl
theorem neqL (x y : Lab) (w : World) : Sem.run Tryz.prog (binOp .neq 152 (.agg #[.string x.1, .string x.2]) (.agg #[.string y.1, .string y.2])) w = .ok (.bool (!(sEq x.1 y.1 && sEq x.2 y.2))) w := by
  have u9 := Tryz.underlying9
  have a9 := Tryz.isAgg9
  have z9 := Tryz.sizeOf9
  have hS : Tryz.prog.underlying 152 = some (.struct (Tryz.prog.fieldsOf 152)) := by kernel_rfl
  have hp : Tryz.prog.stoodInHeld 152 = false := by kernel_rfl
  rw [run_neq_struct, show (10000 : Nat) = 9999 + 1 from rfl, run_equalIn_agg w 9999 152 _ _ hS hp]
  simp only [Program.fieldsOf, Tryz.underlying152]
  go_simp
  simp only [sEq]
  by_cases h1 : x.1.toList = y.1.toList <;> by_cases h2 : x.2.toList = y.2.toList <;> simp [h1, h2]
theorem lab_eq (x y : Lab) : (sEq x.1 y.1 && sEq x.2 y.2) = decide (x = y) := by
  rw [Bool.eq_iff_iff, Bool.and_eq_true, sEq_iff, sEq_iff, decide_eq_true_iff, Prod.ext_iff]
theorem ask_eq (x y : Ask) : decide (x = y) = (sEq x.1 y.1 && ((x.2.1 == y.2.1) && decide (x.2.2 = y.2.2))) := by
  rw [Bool.eq_iff_iff, Bool.and_eq_true, Bool.and_eq_true, sEq_iff, decide_eq_true_iff, decide_eq_true_iff, beq_iff_eq, Prod.ext_iff, Prod.ext_iff]
theorem term_eq (x y : TermD) : decide (x = y) = (sEq x.2 y.2 && decide (x.1 = y.1)) := by
  rw [Bool.eq_iff_iff, Bool.and_eq_true, sEq_iff, decide_eq_true_iff, decide_eq_true_iff, Prod.ext_iff, And.comm]

set_option maxHeartbeats 4000000 in
theorem SameInts_calls (a : Option Addr) (n cap : Nat) (A : Where) (L : List (Int)) (b : Option Addr) (m capb : Nat) (A' : Where) (M : List (Int)) (w : World) (hA : Hid (SlAt RInt 1 8 A w a n cap L)) (hB : Hid (SlAt RInt 1 8 A' w b m capb M)) : Calls Tryz.prog 8 #[.slice a n cap, .slice b m capb] w fun e w' => e = .returned (.bool (decide (L = M))) ∧ ∃ q, w' = w.drewN q := by
  have hn : Hid (L.length = n) := hA.out.1
  have hm : Hid (M.length = m) := hB.out.1
  have hlen := hA.out.len (by decide)
  by_cases hnm : n = m
  case neg =>
    have HF : Hid (decide (L = M) = false) := same_len (by rw [hn.out, hm.out]; exact hnm)
    have hne : ((n : Int) != (m : Int)) = true := by rw [bne_iff_ne]; omega
    go_enter Tryz.func8, Tryz.ntmps8
    go_wp2
    go_ret
    exact ⟨retB HF.out.symm, 0, rfl⟩
  subst hnm
  have hne : ((n : Int) != (n : Int)) = false := by simp
  go_enter Tryz.func8, Tryz.ntmps8
  go_wp2
  go_loopw [5] (fun i wr => ∃ k : Nat, k ≤ n ∧ i = .int .i64 k ∧ Hid (∃ q, wr = w.drewN q) ∧ Hid (∀ j, j < k → L.getD j default = M.getD j default)) (fun i _ => n - (intOf i).toNat)
  case atStart => exact ⟨0, Nat.zero_le _, rfl, ⟨0, rfl⟩, fun j hj => absurd hj (Nat.not_lt_zero _)⟩
  case round =>
    obtain ⟨k, hk, rfl, hwr, hall⟩ := hrel
    have hbel : Below w.heap.size w wr := by obtain ⟨q, rfl⟩ := hwr.out; exact below_drewN (Below.refl _ _) _
    have hback : Hid (∀ q, ∃ q', wr.drewN q = w.drewN q') := by obtain ⟨q0, rfl⟩ := hwr.out; exact fun q => ⟨_, World.drewN_drewN _ _ _⟩
    by_cases hlt : k < n
    · have hltz : (k : Int) < (n : Int) := by omega
      obtain ⟨B, off, rfl, hBl, _, cs, hra, hva⟩ := (hA.out.on RInt.firm hbel).get hlt
      obtain ⟨B', off', rfl, hBl', _, cs', hrb, hvb⟩ := (hB.out.on RInt.firm hbel).get hlt
      obtain rfl := hra
      obtain rfl := hrb
      have d0 := hva 0 _ rfl
      have g0 := hvb 0 _ rfl
      rw [Nat.add_zero] at d0 g0
      rw [Nat.mul_one] at d0 g0
      have HG : Hid (decide (L.getD k default = M.getD k default) = true → ∀ j, j < k + 1 → L.getD j default = M.getD j default) := fun h j hj => by
        rcases Nat.lt_succ_iff_lt_or_eq.1 hj with h' | rfl
        · exact hall.out j h'
        · exact of_decide_eq_true h
      have HF : Hid (decide (L.getD k default = M.getD k default) = false → decide (L = M) = false) := fun h => same_no (of_decide_eq_false h)
      clear hall hva hvb
      have HE : (L.getD k default != M.getD k default) = !decide (L.getD k default = M.getD k default) := by rw [bne_of, show (L.getD k default == M.getD k default) = decide (L.getD k default = M.getD k default) by rw [Bool.eq_iff_iff, decide_eq_true_iff, beq_iff_eq]]
      generalize L.getD k default = x at d0 HE HG HF
      generalize M.getD k default = y at g0 HE HG HF
      cases hd : decide (x = y)
      · have HF2 : Hid (decide (L = M) = false) := HF.out hd
        rw [hd] at HE
        clear HG HF hd
        go_wp2_with fail
        go_quiet (fail)
        go_wp2_with fail
        go_ret
        exact ⟨retB HF2.out.symm, hback.out _⟩
      · have HG2 : Hid (∀ j, j < k + 1 → L.getD j default = M.getD j default) := HG.out hd
        rw [hd] at HE
        clear HG HF hd
        go_wp2_with fail
        go_quiet (fail)
        go_wp2_with fail
        go_roundw
        case rel => exact ⟨k + 1, by omega, by go_num, hback.out _, HG2⟩
        case measure => simp [intOf]; omega
    · have HT : Hid (decide (L = M) = true) := same_yes (by rw [hn.out, hm.out]) (fun j hj => hall.out j (by rw [hn.out] at hj; omega))
      clear hall
      go_wp2
      go_ret
      exact ⟨retB HT.out.symm, hwr.out⟩

end Go.Proofs.YtbcclfiopebmpaaGreat
namespace Go.Proofs.YtbcclfiopebmpaaGreat
open Go.RowKit
set_option linter.unusedSimpArgs false
set_option maxRecDepth 100000

def hasB {α : Type} (eq : α → α → Bool) (V : List α) (s : α) : Bool := V.any fun v => eq v s
theorem hasB_succ {α : Type} [Inhabited α] (eq : α → α → Bool) (L : List α) (s : α) {k : Nat} (hk : k < L.length) : hasB eq (L.take (k + 1)) s = (hasB eq (L.take k) s || eq (L.getD k default) s) := by
  rw [← take_at hk]; simp [hasB]
theorem hasB_found {α : Type} [Inhabited α] (eq : α → α → Bool) (L : List α) (s : α) {k : Nat} (hk : k < L.length) (h : eq (L.getD k default) s = true) : hasB eq L s = true := by
  simp only [hasB, List.any_eq_true]
  exact ⟨L.getD k default, by rw [getE _ _ hk]; exact List.getElem_mem hk, h⟩
def iEq (a b : Int) : Bool := a == b

set_option maxHeartbeats 1000000 in
theorem Has_calls (a : Option Addr) (n cap : Nat) (A : Where) (L : List ByteArray) (s : ByteArray) (w : World) (hL : Hid (SlAt RStr 1 16 A w a n cap L)) : Calls Tryz.prog 6 #[.slice a n cap, .string s] w fun e w' => e = .returned (.bool (hasB sEq L s)) ∧ w' = w := by
  have hn : Hid (L.length = n) := hL.out.1
  have hlen := hL.out.len (by decide)
  go_enter Tryz.func6, Tryz.ntmps6
  go_wp2_with fail
  go_loop [5] (fun i => ∃ k : Nat, k ≤ n ∧ i = .int .i64 k ∧ Hid (hasB sEq (L.take k) s = false)) (fun i => n - (intOf i).toNat)
  case atStart => exact ⟨0, Nat.zero_le _, rfl, rfl⟩
  case round =>
    obtain ⟨k, hk, rfl, hno⟩ := hrel
    by_cases hlt : k < n
    · have hltz : (k : Int) < (n : Int) := by omega
      have hkl : k < L.length := by rw [hn.out]; exact hlt
      have HN : Hid (hasB sEq (L.take (k + 1)) s = (hasB sEq (L.take k) s || sEq (L.getD k default) s)) := hasB_succ _ _ _ hkl
      have HF : Hid (sEq (L.getD k default) s = true → hasB sEq L s = true) := hasB_found _ _ _ hkl
      obtain ⟨B, off, rfl, hB, _, cs, hr, hv⟩ := hL.out.get hlt
      obtain ⟨rfl, _⟩ := hr
      have d0 := hv 0 _ rfl
      simp only [Nat.mul_one, Nat.add_zero] at d0
      clear hv
      generalize L.getD k default = x at d0 HN HF
      cases he : sEq x s
      · have he' : (x.toList == s.toList) = false := he
        have HN2 : Hid (hasB sEq (L.take (k + 1)) s = false) := by rw [Hid, HN.out, hno.out, he]; rfl
        clear HN HF he
        go_wp2_with fail
        go_round
        case rel => exact ⟨k + 1, by omega, by go_num, HN2⟩
        case measure => simp [intOf]; omega
      · have he' : (x.toList == s.toList) = true := he
        have HT : Hid (hasB sEq L s = true) := HF.out he
        clear HN HF he
        go_wp2_with fail
        go_ret
        exact ⟨retB HT.out.symm, rfl⟩
    · have hk' : L.take k = L := List.take_of_length_le (by rw [hn.out]; omega)
      rw [hk'] at hno
      go_wp2_with fail
      go_ret
      exact ⟨retB hno.out.symm, rfl⟩
end Go.Proofs.YtbcclfiopebmpaaGreat
namespace Go.Proofs.YtbcclfiopebmpaaGreat
open Go.RowKit
set_option linter.unusedSimpArgs false

def insB {α : Type} (lt eq : α → α → Bool) : List α → α → List α
  | [], s => [s]
  | x :: xs, s => if lt x s = true then x :: insB lt eq xs s else if eq x s = true then x :: xs else s :: x :: xs
def sortB {α : Type} (lt eq : α → α → Bool) (L : List α) : List α := L.foldl (insB lt eq) []
def iLt (a b : Int) : Bool := decide (a < b)
theorem insB_len {α : Type} (lt eq : α → α → Bool) (s : α) : ∀ L : List α, (insB lt eq L s).length ≤ L.length + 1
  | [] => by simp [insB]
  | x :: xs => by
    have := insB_len lt eq s xs
    unfold insB
    split
    · simp; omega
    · split <;> simp
section
variable {α : Type} [Inhabited α] (lt eq : α → α → Bool)
theorem insB_at (s : α) : ∀ (L : List α) (k : Nat), k ≤ L.length → (∀ j, j < k → lt (L.getD j default) s = true) → (k < L.length → lt (L.getD k default) s = false) →
    insB lt eq L s = if k < L.length ∧ eq (L.getD k default) s = true then L else L.take k ++ ([s] ++ L.drop k)
  | [], k, hk, _, _ => by
    obtain rfl : k = 0 := by simpa using hk
    simp [insB]
  | x :: xs, 0, _, _, h2 => by
    have h := h2 (by simp)
    simp only [List.getD_cons_zero] at h
    simp [insB, h]
  | x :: xs, k + 1, hk, h1, h2 => by
    have h := h1 0 (by omega)
    simp only [List.getD_cons_zero] at h
    have ih := insB_at s xs k (by simpa using hk) (fun j hj => by simpa using h1 (j + 1) (by omega)) (fun hl => by simpa using h2 (by simpa using hl))
    have e : (x :: xs).getD (k + 1) default = xs.getD k default := by simp
    have l : k + 1 < (x :: xs).length ↔ k < xs.length := by simp
    rw [e]
    simp only [insB, h, if_true, ih]
    by_cases c : k < xs.length ∧ eq (xs.getD k default) s = true
    · rw [if_pos c, if_pos ⟨l.2 c.1, c.2⟩]
    · rw [if_neg c, if_neg (fun h => c ⟨l.1 h.1, h.2⟩)]; simp
theorem sortB_succ (L : List α) {k : Nat} (hk : k < L.length) : sortB lt eq (L.take (k + 1)) = insB lt eq (sortB lt eq (L.take k)) (L.getD k default) := by
  rw [← take_at hk]; simp [sortB]
theorem sortB_len : ∀ (L : List α), (sortB lt eq L).length ≤ L.length := by
  intro L
  suffices H : ∀ k, k ≤ L.length → (sortB lt eq (L.take k)).length ≤ k by
    have := H L.length (Nat.le_refl _)
    rwa [List.take_of_length_le (Nat.le_refl _)] at this
  intro k
  induction k with
  | zero => intro _; simp [sortB]
  | succ k ih =>
    intro hk
    rw [sortB_succ lt eq L (by omega)]
    have := insB_len lt eq (L.getD k default) (sortB lt eq (L.take k))
    have := ih (by omega)
    omega
end
/-- The first k, and what lies behind them. -/
theorem SlAt.take {α : Type} [Inhabited α] {R : Rep α} {k bytes : Nat} {A : Where} {w : World} {a : Option Addr} {n cap : Nat} {L : List α} (h : SlAt R k bytes A w a n cap L) {t : Nat} (ht : t ≤ n) : SlAt R k bytes A w a t cap (L.take t) := by
  obtain ⟨h1, h2, h3, h4, h5⟩ := h
  refine ⟨by rw [List.length_take]; omega, by omega, h3, Nat.le_trans (Nat.mul_le_mul_right bytes ht) h4, fun h0 => ?_⟩
  obtain ⟨B, off, e, hB, hA, hc⟩ := h5 (by omega)
  refine ⟨B, off, e, hB, hA, fun i hi => ?_⟩
  obtain ⟨cs, h6, h7⟩ := hc i (by omega)
  have : (L.take t).getD i default = L.getD i default := by
    rw [getE _ _ (show i < (L.take t).length by rw [List.length_take]; omega), getE _ _ (show i < L.length by omega), List.getElem_take]
  rw [this]
  exact ⟨cs, h6, h7⟩
theorem SlAt.drop {α : Type} [Inhabited α] {R : Rep α} {k bytes : Nat} {A : Where} {w : World} {B off n cap : Nat} {L : List α} (h : SlAt R k bytes A w (some ⟨B, off, none⟩) n cap L) {t : Nat} (ht : t ≤ n) : SlAt R k bytes A w (some ⟨B, off + t * k, none⟩) (n - t) (cap - t) (L.drop t) := by
  obtain ⟨h1, h2, h3, h4, h5⟩ := h
  refine ⟨by rw [List.length_drop]; omega, by omega, (fun h => by cases h), Nat.le_trans (Nat.mul_le_mul_right bytes (Nat.sub_le _ _)) h4, fun h0 => ?_⟩
  obtain ⟨B', off', e, hB, hA, hc⟩ := h5 (by omega)
  injection e with e
  injection e with e1 e2
  subst e1 e2
  refine ⟨B, _, rfl, hB, hA, fun i hi => ?_⟩
  obtain ⟨cs, h6, h7⟩ := hc (t + i) (by omega)
  have : (L.drop t).getD i default = L.getD (t + i) default := by
    rw [getE _ _ (show i < (L.drop t).length by rw [List.length_drop]; omega), getE _ _ (show t + i < L.length by omega), List.getElem_drop]
  rw [this]
  refine ⟨cs, h6, fun j v hj => ?_⟩
  have := h7 j v hj
  rwa [Nat.add_mul, ← Nat.add_assoc] at this
end Go.Proofs.YtbcclfiopebmpaaGreat
namespace Go.Proofs.YtbcclfiopebmpaaGreat
open Go.RowKit
set_option linter.unusedSimpArgs false


abbrev InfoD := NodeD × List ByteArray × ResD × List Int × List ByteArray
def RInfo : Rep InfoD := RPair RNode (RPair (RSl RStr 1 16) (RPair RRes (RPair (RSl RInt 1 8) (RSl RStr 1 16))))
theorem RInfo.firm : Firm RInfo 15 := Firm.pair RNode.firm (Firm.pair (RSl.firm RStr.firm) (Firm.pair RRes.firm (Firm.pair (RSl.firm RInt.firm) ((RSl.firm RStr.firm)))))
theorem RInfo.out {A : Where} {w : World} {cs : List Value} {x : InfoD} (h : RInfo A w cs x) : ∃ h1 h2 h9 h13 h14 : Hd, cs = [.string x.1.1, .slice h1.1 h1.2.1 h1.2.2, .slice h2.1 h2.2.1 h2.2.2, .bool x.1.2.2.2.1, .int .i64 x.1.2.2.2.2.1.1, .int .i64 x.1.2.2.2.2.1.2.1, .int .i64 x.1.2.2.2.2.1.2.2, .int .i64 x.1.2.2.2.2.2.1, .int .i64 x.1.2.2.2.2.2.2, .slice h9.1 h9.2.1 h9.2.2, .int .i64 x.2.2.1.1, .int .i64 x.2.2.1.2.1, .int .i64 x.2.2.1.2.2, .slice h13.1 h13.2.1 h13.2.2, .slice h14.1 h14.2.1 h14.2.2] ∧ x.1.1.size ≤ 140737488355328 ∧ SlAt RLabel 2 32 A w h1.1 h1.2.1 h1.2.2 x.1.2.1 ∧ SlAt RTaint 3 40 A w h2.1 h2.2.1 h2.2.2 x.1.2.2.1 ∧ SlAt RStr 1 16 A w h9.1 h9.2.1 h9.2.2 x.2.1 ∧ SlAt RInt 1 8 A w h13.1 h13.2.1 h13.2.2 x.2.2.2.1 ∧ SlAt RStr 1 16 A w h14.1 h14.2.1 h14.2.2 x.2.2.2.2 := by
  obtain ⟨l_0, r_0, q_0, f_0, g_0⟩ := h
  obtain ⟨l_0_0, r_0_0, q_0_0, f_0_0, g_0_0⟩ := f_0
  obtain ⟨e_0_0, s_0_0⟩ := f_0_0
  obtain ⟨l_0_1, r_0_1, q_0_1, f_0_1, g_0_1⟩ := g_0_0
  obtain ⟨a_0_1, n_0_1, c_0_1, e_0_1, s_0_1⟩ := f_0_1
  obtain ⟨l_0_2, r_0_2, q_0_2, f_0_2, g_0_2⟩ := g_0_1
  obtain ⟨a_0_2, n_0_2, c_0_2, e_0_2, s_0_2⟩ := f_0_2
  obtain ⟨l_0_3, r_0_3, q_0_3, f_0_3, g_0_3⟩ := g_0_2
  have e_0_3 := f_0_3
  obtain ⟨l_0_4, r_0_4, q_0_4, f_0_4, g_0_4⟩ := g_0_3
  obtain ⟨l_0_4_0, r_0_4_0, q_0_4_0, f_0_4_0, g_0_4_0⟩ := f_0_4
  have e_0_4_0 := f_0_4_0
  obtain ⟨l_0_4_1, r_0_4_1, q_0_4_1, f_0_4_1, g_0_4_1⟩ := g_0_4_0
  have e_0_4_1 := f_0_4_1
  have e_0_4_2 := g_0_4_1
  obtain ⟨l_0_5, r_0_5, q_0_5, f_0_5, g_0_5⟩ := g_0_4
  have e_0_5 := f_0_5
  have e_0_6 := g_0_5
  obtain ⟨l_1, r_1, q_1, f_1, g_1⟩ := g_0
  obtain ⟨a_1, n_1, c_1, e_1, s_1⟩ := f_1
  obtain ⟨l_2, r_2, q_2, f_2, g_2⟩ := g_1
  obtain ⟨l_2_0, r_2_0, q_2_0, f_2_0, g_2_0⟩ := f_2
  have e_2_0 := f_2_0
  obtain ⟨l_2_1, r_2_1, q_2_1, f_2_1, g_2_1⟩ := g_2_0
  have e_2_1 := f_2_1
  have e_2_2 := g_2_1
  obtain ⟨l_3, r_3, q_3, f_3, g_3⟩ := g_2
  obtain ⟨a_3, n_3, c_3, e_3, s_3⟩ := f_3
  obtain ⟨a_4, n_4, c_4, e_4, s_4⟩ := g_3
  exact ⟨(a_0_1, n_0_1, c_0_1), (a_0_2, n_0_2, c_0_2), (a_1, n_1, c_1), (a_3, n_3, c_3), (a_4, n_4, c_4), by rw [q_0, q_0_0, e_0_0, q_0_1, e_0_1, q_0_2, e_0_2, q_0_3, e_0_3, q_0_4, q_0_4_0, e_0_4_0, q_0_4_1, e_0_4_1, e_0_4_2, q_0_5, e_0_5, e_0_6, q_1, e_1, q_2, q_2_0, e_2_0, q_2_1, e_2_1, e_2_2, q_3, e_3, e_4]; rfl, s_0_0, s_0_1, s_0_2, s_1, s_3, s_4⟩
theorem RInfo.mk {A : Where} {w : World} {x : InfoD} {h1 h2 h9 h13 h14 : Hd} (p0 : x.1.1.size ≤ 140737488355328) (p1 : SlAt RLabel 2 32 A w h1.1 h1.2.1 h1.2.2 x.1.2.1) (p2 : SlAt RTaint 3 40 A w h2.1 h2.2.1 h2.2.2 x.1.2.2.1) (p3 : SlAt RStr 1 16 A w h9.1 h9.2.1 h9.2.2 x.2.1) (p4 : SlAt RInt 1 8 A w h13.1 h13.2.1 h13.2.2 x.2.2.2.1) (p5 : SlAt RStr 1 16 A w h14.1 h14.2.1 h14.2.2 x.2.2.2.2) : RInfo A w [.string x.1.1, .slice h1.1 h1.2.1 h1.2.2, .slice h2.1 h2.2.1 h2.2.2, .bool x.1.2.2.2.1, .int .i64 x.1.2.2.2.2.1.1, .int .i64 x.1.2.2.2.2.1.2.1, .int .i64 x.1.2.2.2.2.1.2.2, .int .i64 x.1.2.2.2.2.2.1, .int .i64 x.1.2.2.2.2.2.2, .slice h9.1 h9.2.1 h9.2.2, .int .i64 x.2.2.1.1, .int .i64 x.2.2.1.2.1, .int .i64 x.2.2.1.2.2, .slice h13.1 h13.2.1 h13.2.2, .slice h14.1 h14.2.1 h14.2.2] x :=
  ⟨_, _, rfl, ⟨_, _, rfl, ⟨rfl, p0⟩, ⟨_, _, rfl, ⟨h1.1, h1.2.1, h1.2.2, rfl, p1⟩, ⟨_, _, rfl, ⟨h2.1, h2.2.1, h2.2.2, rfl, p2⟩, ⟨_, _, rfl, rfl, ⟨_, _, rfl, ⟨_, _, rfl, rfl, ⟨_, _, rfl, rfl, rfl⟩⟩, ⟨_, _, rfl, rfl, rfl⟩⟩⟩⟩⟩⟩, ⟨_, _, rfl, ⟨h9.1, h9.2.1, h9.2.2, rfl, p3⟩, ⟨_, _, rfl, ⟨_, _, rfl, rfl, ⟨_, _, rfl, rfl, rfl⟩⟩, ⟨_, _, rfl, ⟨h13.1, h13.2.1, h13.2.2, rfl, p4⟩, ⟨h14.1, h14.2.1, h14.2.2, rfl, p5⟩⟩⟩⟩⟩
end Go.Proofs.YtbcclfiopebmpaaGreat
namespace Go.Proofs.YtbcclfiopebmpaaGreat

/-- What a number counts as. -/
def clampI (a : Int) : Int := if a < 0 then 0 else if 1125899906842624 < a then 1125899906842624 else a
theorem clampI_ge (a : Int) : 0 ≤ clampI a := by unfold clampI; split <;> (try split) <;> omega
theorem clampI_le (a : Int) : clampI a ≤ 1125899906842624 := by unfold clampI; split <;> (try split) <;> omega
theorem clampI_id {a : Int} (h0 : 0 ≤ a) (h1 : a ≤ 1125899906842624) : clampI a = a := by unfold clampI; rw [if_neg (by omega), if_neg (by omega)]
theorem clampI_neg {a : Int} (h : a < 0) : clampI a = 0 := by unfold clampI; rw [if_pos h]
theorem clampI_big {a : Int} (h : 1125899906842624 < a) : clampI a = 1125899906842624 := by unfold clampI; rw [if_neg (by omega), if_pos h]

def addI (a b : Int) : Int := clampI (clampI a + clampI b)
def subI (a b : Int) : Int := clampI (clampI a - clampI b)
theorem addI_ge (a b : Int) : 0 ≤ addI a b := clampI_ge _
theorem addI_le (a b : Int) : addI a b ≤ 1125899906842624 := clampI_le _
theorem subI_ge (a b : Int) : 0 ≤ subI a b := clampI_ge _
theorem subI_le (a b : Int) : subI a b ≤ 1125899906842624 := clampI_le _
theorem clampI_addI (a b : Int) : clampI (addI a b) = addI a b := clampI_id (addI_ge a b) (addI_le a b)
theorem clampI_subI (a b : Int) : clampI (subI a b) = subI a b := clampI_id (subI_ge a b) (subI_le a b)
theorem clampI_clampI (a : Int) : clampI (clampI a) = clampI a := clampI_id (clampI_ge a) (clampI_le a)
theorem addI_def (a b : Int) : addI a b = if 1125899906842624 < clampI a + clampI b then 1125899906842624 else clampI a + clampI b := by
  have h1 := clampI_ge a; have h2 := clampI_ge b
  unfold addI
  rw [clampI, if_neg (by omega)]
theorem subI_def (a b : Int) : subI a b = if clampI a < clampI b then 0 else clampI a - clampI b := by
  have h1 := clampI_ge a; have h2 := clampI_ge b; have h3 := clampI_le a; have h4 := clampI_le b
  unfold subI
  rw [clampI]
  split <;> rename_i h
  · rw [if_pos (by omega)]
  · rw [if_neg (by omega), if_neg (by omega)]
theorem addI_comm (a b : Int) : addI a b = addI b a := by unfold addI; rw [Int.add_comm]
theorem addI_assoc (a b c : Int) : addI (addI a b) c = addI a (addI b c) := by
  have h1 := clampI_ge a; have h2 := clampI_ge b; have h3 := clampI_ge c
  have h4 := clampI_le a; have h5 := clampI_le b; have h6 := clampI_le c
  rw [addI_def (addI a b) c, addI_def a (addI b c), clampI_addI, clampI_addI, addI_def a b, addI_def b c]
  split <;> split <;> split <;> (try split) <;> omega
theorem subI_addI (a b : Int) (h : addI a b ≠ 1125899906842624) : subI (addI a b) b = clampI a := by
  have h1 := clampI_ge a; have h2 := clampI_ge b; have h4 := clampI_le a
  rw [subI_def, clampI_addI]
  rw [addI_def] at h ⊢
  split at h
  · omega
  · rename_i h0
    rw [if_neg h0, if_neg (by omega)]
    omega

/-- A number, times a number, at most MaxAmount. -/
def timesI (a n : Int) : Int := if 1125899906842624 < clampI a * clampI n then 1125899906842624 else clampI a * clampI n
/-- A share. -/
def scaleI (c : Int) : Int := if c < 0 then 0 else if 1000 < c then 1000 else c
theorem scaleI_ge (a : Int) : 0 ≤ scaleI a := by unfold scaleI; split <;> (try split) <;> omega
theorem scaleI_le (a : Int) : scaleI a ≤ 1000 := by unfold scaleI; split <;> (try split) <;> omega
def shareI (a b c : Int) : Int := if clampI b = 0 then 0 else if scaleI c < clampI a * scaleI c / clampI b then scaleI c else clampI a * scaleI c / clampI b
end Go.Proofs.YtbcclfiopebmpaaGreat
namespace Go.Proofs.YtbcclfiopebmpaaGreat
open Go.RowKit
set_option linter.unusedSimpArgs false

def plusR (a b : ResD) : ResD := (addI a.1 b.1, addI a.2.1 b.2.1, addI a.2.2 b.2.2)
def minusR (a b : ResD) : ResD := (subI a.1 b.1, subI a.2.1 b.2.1, subI a.2.2 b.2.2)
def pWant (p : PodD) : ResD := p.2.2.2.1
def pPorts (p : PodD) : List Int := p.2.2.2.2.2.2.2.1
def pClaims (p : PodD) : List ByteArray := p.2.2.2.2.2.2.2.2.2.2.2.1
def pNode (p : PodD) : ByteArray := p.2.2.2.2.2.2.2.2.2.2.2.2.1
abbrev AccD := List ByteArray × ResD × List Int × List ByteArray
def ofStep (s : AccD) (p : PodD) : AccD := if hasB sEq s.1 p.1 = true then s else (s.1 ++ [p.1], plusR s.2.1 (pWant p), s.2.2.1 ++ pPorts p, s.2.2.2 ++ pClaims p)
def ofAcc (L : List PodD) : AccD := L.foldl ofStep ([], (0, 0, 0), [], [])
def accInfo (n : NodeD) (s : AccD) : InfoD := (n, sortB sLt sEq s.1, s.2.1, sortB iLt iEq s.2.2.1, sortB sLt sEq s.2.2.2)
def ofP (n : NodeD) (L : List PodD) : InfoD := accInfo n (ofAcc L)
def addP (i : InfoD) (p : PodD) : InfoD := (i.1, sortB sLt sEq (i.2.1 ++ [p.1]), plusR i.2.2.1 (pWant p), sortB iLt iEq (i.2.2.2.1 ++ pPorts p), sortB sLt sEq (i.2.2.2.2 ++ pClaims p))
def restP (i : InfoD) (p : PodD) (rest : List PodD) : List PodD := rest.filter fun q => !sEq q.1 p.1 && hasB sEq i.2.1 q.1
def freeP (i : InfoD) : ResD := minusR i.1.2.2.2.2.1 i.2.2.1
def clashP (i : InfoD) (p : PodD) : Bool := (pPorts p).any fun q => hasB iEq i.2.2.2.1 q
def sumBy {α : Type} (f : α → Nat) (L : List α) : Nat := (L.map f).sum
/-- What the pods' ports and claims take together is within what an append may ask. -/
def FitsP (L : List PodD) : Prop := sumBy (fun p => (pPorts p).length) L * 8 ≤ 140737488351232 ∧ sumBy (fun p => (pClaims p).length) L * 16 ≤ 140737488351232
theorem acc_succ (L : List PodD) {k : Nat} (hk : k < L.length) : ofAcc (L.take (k + 1)) = ofStep (ofAcc (L.take k)) (L.getD k default) := by
  rw [← take_at hk]; simp [ofAcc]
theorem sumBy_append {α : Type} (f : α → Nat) (L M : List α) : sumBy f (L ++ M) = sumBy f L + sumBy f M := by simp [sumBy]
theorem sumBy_take {α : Type} (f : α → Nat) (L : List α) (k : Nat) : sumBy f (L.take k) ≤ sumBy f L := by
  have := sumBy_append f (L.take k) (L.drop k)
  rw [List.take_append_drop] at this
  omega
theorem acc_len (L : List PodD) : ∀ k, k ≤ L.length → (ofAcc (L.take k)).1.length ≤ k ∧ (ofAcc (L.take k)).2.2.1.length ≤ sumBy (fun p => (pPorts p).length) (L.take k) ∧ (ofAcc (L.take k)).2.2.2.length ≤ sumBy (fun p => (pClaims p).length) (L.take k) := by
  intro k
  induction k with
  | zero => intro _; simp [ofAcc, sumBy]
  | succ k ih =>
    intro hk
    obtain ⟨h1, h2, h3⟩ := ih (by omega)
    rw [acc_succ L (by omega), ← take_at (show k < L.length by omega), sumBy_append, sumBy_append]
    unfold ofStep
    split
    · exact ⟨by omega, by omega, by omega⟩
    · simp only [List.length_append, List.length_singleton]
      simp only [sumBy, List.map_cons, List.map_nil, List.sum_cons, List.sum_nil] at h2 h3 ⊢
      exact ⟨by omega, by omega, by omega⟩
theorem acc_fits {L : List PodD} (h : FitsP L) {k : Nat} (hk : k < L.length) : ((ofAcc (L.take k)).2.2.1.length + (pPorts (L.getD k default)).length) * 8 ≤ 140737488351232 ∧ ((ofAcc (L.take k)).2.2.2.length + (pClaims (L.getD k default)).length) * 16 ≤ 140737488351232 := by
  obtain ⟨_, h2, h3⟩ := acc_len L k (by omega)
  have e1 := sumBy_take (fun p => (pPorts p).length) L (k + 1)
  have e2 := sumBy_take (fun p => (pClaims p).length) L (k + 1)
  rw [← take_at hk, sumBy_append] at e1 e2
  simp only [sumBy, List.map_cons, List.map_nil, List.sum_cons, List.sum_nil] at e1 e2 h2 h3 h
  obtain ⟨h4, h5⟩ := h
  simp only [sumBy] at h4 h5
  exact ⟨by omega, by omega⟩
theorem acc_fits' {L : List PodD} (h : FitsP L) : (ofAcc L).2.2.1.length * 8 ≤ 140737488351232 ∧ (ofAcc L).2.2.2.length * 16 ≤ 140737488351232 := by
  obtain ⟨_, h2, h3⟩ := acc_len L L.length (Nat.le_refl _)
  rw [List.take_of_length_le (Nat.le_refl _)] at h2 h3
  obtain ⟨h4, h5⟩ := h
  exact ⟨by omega, by omega⟩
end Go.Proofs.YtbcclfiopebmpaaGreat
namespace Go.Proofs.YtbcclfiopebmpaaGreat
open Go.RowKit
set_option linter.unusedSimpArgs false

/-- The same store in both worlds, below. -/
theorem below_both {w u : World} (h : Below w.heap.size w u) {p : Addr} (hp : p.block < w.heap.size) (x : Value) : Below (w.setCell p x).heap.size (w.setCell p x) (u.setCell p x) := by
  refine ⟨h.os, h.tape, h.output, by simpa using h.size, fun k hk => ?_⟩
  have hk' : k < w.heap.size := by simpa using hk
  by_cases e : k = p.block
  · subst e
    have := h.block p.block hp
    simp only [World.setCell, Array.getElem?_modify, if_true]
    rw [this]
  · rw [Below.heap_setCell _ _ _ _ e, Below.heap_setCell _ _ _ _ e]
    exact h.block k hk'
section
variable {α : Type} [Inhabited α] {R : Rep α} {k : Nat}
theorem Row.both (hR : Firm R k) {A : Where} {w u : World} {e : TypeId} {v : Value} {L : List α} (h : Row R k A w u e v L) {p : Addr} (hp : p.block < w.heap.size) (hA : ¬ A p.block) (x : Value) : Row R k A (w.setCell p x) (u.setCell p x) e v L := by
  obtain ⟨xs, h1, h2⟩ := h
  refine ⟨xs, ⟨below_both h1.1 hp x, ?_⟩, h2.kept hR (Kept.set (fun h => hA h.1) _)⟩
  have := ownsRow_setCell_below h1.2 hp x
  simpa using this
theorem Fresh.setCell (w : World) (p : Addr) (x : Value) : Fresh (w.setCell p x) = Fresh w := by funext b; simp [Fresh]
theorem Row.bothF (hR : Firm R k) {w u : World} {e : TypeId} {v : Value} {L : List α} (h : Row R k (Fresh w) w u e v L) {p : Addr} (hp : p.block < w.heap.size) (x : Value) : Row R k (Fresh (w.setCell p x)) (w.setCell p x) (u.setCell p x) e v L := by
  rw [Fresh.setCell]; exact h.both hR hp (Fresh.not hp) x
/-- What lies in a slice, or in none, ready to be appended. -/
def Src (R : Rep α) (k : Nat) (A : Where) (u : World) (a : Option Addr) (m : Nat) (N : List α) : Prop :=
  N.length = m ∧ ((a = none ∧ N = []) ∨ ∃ ad xs, a = some ad ∧ Chunks R k A u xs N ∧ (∀ j y, xs[j]? = some y → u.cell? (ad.add j) = some y) ∧ ∀ y ∈ xs, y.oneCell' = true)
theorem SlAt.src (hR : Firm R k) {bytes : Nat} {A : Where} {u : World} {a : Option Addr} {m c : Nat} {N : List α} (h : SlAt R k bytes A u a m c N) : Src R k A u a m N := by
  cases a with
  | none => obtain ⟨_, _, h3⟩ := sl_none h; exact ⟨h.1, .inl ⟨rfl, h3⟩⟩
  | some ad => obtain ⟨xs, h1, h2, h3⟩ := h.chunks hR; exact ⟨h.1, .inr ⟨ad, xs, rfl, h1, h2, h3⟩⟩
theorem Src.flat (hF : Flat R) {A A' : Where} {u : World} {a : Option Addr} {m : Nat} {N : List α} (h : Src R k A u a m N) : Src R k A' u a m N := by
  obtain ⟨h1, h2⟩ := h
  refine ⟨h1, ?_⟩
  rcases h2 with h2 | ⟨ad, xs, e, h3, h4, h5⟩
  · exact .inl h2
  · exact .inr ⟨ad, xs, e, h3.flat hF, h4, h5⟩
theorem Src.weak (hR : Firm R k) {A A' : Where} {u : World} {a : Option Addr} {m : Nat} {N : List α} (h : Src R k A u a m N) (hA : ∀ b, b < u.heap.size → A b → A' b) : Src R k A' u a m N := by
  obtain ⟨h1, h2⟩ := h
  refine ⟨h1, ?_⟩
  rcases h2 with h2 | ⟨ad, xs, e, h3, h4, h5⟩
  · exact .inl h2
  · exact .inr ⟨ad, xs, e, h3.weak hR hA, h4, h5⟩
/-- An append of what lies in a slice, or in none, to one's own row, whatever the region. -/
theorem row_appendS_wp (hR : Firm R k) {o : Oper} {a : Act} {K : Act → World → Prop} {Q : Exit → Act → World → Prop} {A : Where} {w0 u : World} (s x : Operand) (t e : TypeId)
    (ho : o.op = .call { callee := .builtin .append, args := #[s, x], argTypes := #[t, t] }) (z : Value) (bytes : Nat) (hinfo : (Tryz.prog.info? e).map (fun i => (i.zero, i.size, i.bytes)) = some (some z, k, bytes)) (ht : Tryz.prog.underlying t = some (.slice e)) (hzs : z.cells.size = k) (hk0 : 0 < k) (hby : 1 ≤ bytes)
    (v : Value) (L : List α) (hs : a.eval s = v) (hrow : Row R k A w0 u e v L)
    (ad : Option Addr) (m c : Nat) (N : List α) (hx : a.eval x = .slice ad m c) (hN : Src R k (fun b => A b ∧ v.ownBlock ≠ some b) u ad m N) (hb : (L.length + N.length) * bytes ≤ 140737488355328)
    (h : ∀ v' u', Row R k A w0 u' e v' (L ++ N) → u.grownBy u' v.ownBlock → K (a.put o.dst v') u') : o.wp Tryz.prog a u K Q := by
  obtain ⟨hm, hN⟩ := hN
  rcases hN with ⟨rfl, rfl⟩ | ⟨ad, xs, rfl, h1, h2, h3⟩
  · obtain rfl : m = 0 := by simpa using hm.symm
    obtain ⟨i0, hi, hz0, hz1, hz2⟩ := info_parts hinfo
    have hr : ∀ ty, (Builtin.append_ #[t, t] ty #[v, .slice none 0 c]).run Tryz.prog u = .ok v u := by
      intro ty
      obtain ⟨xs, hown, _⟩ := hrow
      rcases hown.2.2 with ⟨rfl, _⟩ | ⟨g, cap, cur, rfl, _, hg, hnc, _⟩
      · simp [Builtin.append_, run_underlying ht, sizeOf, typeInfo, hi, Builtin.lenOf, Builtin.firstCells, loadCells, loadCellsFrom]
      · simp [Builtin.append_, run_underlying ht, sizeOf, typeInfo, hi, Builtin.lenOf, Builtin.firstCells, loadCells, loadCellsFrom, hnc, storeCells]
    unfold Oper.wp execOp
    simp only [ho, resolve, invoke, builtin, Sem.run_bind, Sem.run_pure, Result.andThen_ok, List.map_toArray, List.map_cons, List.map_nil, hs, hx, hr]
    exact h v u (by simpa using hrow) ⟨rfl, rfl, rfl, Nat.le_refl _, fun _ _ _ => rfl⟩
  · exact row_append_wp hR s x t e ho z bytes hinfo ht hzs hk0 hby v L hs hrow ad m c xs N hm hx h1 h2 h3 hb h
theorem row_appendS (hR : Firm R k) {ops : Array Oper} {rest : List Oper} {o : Oper} {a : Act} {Q : Exit → Act → World → Prop} {A : Where} {w0 u : World} (hgd : Region.wanted o (yielded ops a.tmps) = true) (s x : Operand) (t e : TypeId)
    (ho : o.op = .call { callee := .builtin .append, args := #[s, x], argTypes := #[t, t] }) (z : Value) (bytes : Nat) (hinfo : (Tryz.prog.info? e).map (fun i => (i.zero, i.size, i.bytes)) = some (some z, k, bytes)) (ht : Tryz.prog.underlying t = some (.slice e)) (hzs : z.cells.size = k) (hk0 : 0 < k) (hby : 1 ≤ bytes)
    (v : Value) (L : List α) (hs : a.eval s = v) (hrow : Row R k A w0 u e v L)
    (ad : Option Addr) (m c : Nat) (N : List α) (hx : a.eval x = .slice ad m c) (hN : Src R k (fun b => A b ∧ v.ownBlock ≠ some b) u ad m N) (hb : (L.length + N.length) * bytes ≤ 140737488355328)
    (h : ∀ v' u', Row R k A w0 u' e v' (L ++ N) → u.grownBy u' v.ownBlock → wpList Tryz.prog ops Q rest (a.put o.dst v') u') : wpList Tryz.prog ops Q (o :: rest) a u :=
  BigFrame.wpList_want hgd (fun _ hK => row_appendS_wp hR s x t e ho z bytes hinfo ht hzs hk0 hby v L hs hrow ad m c N hx hN hb (fun v' u' h2 h3 => hK _ _ (h v' u' h2 h3)))
end
theorem BoxL.range {u : World} {D : Nat} {cs : List Value} (h : BoxL u D cs) : u.rangeAt D 0 cs := fun j v hj => by rw [Nat.zero_add]; exact (h.2 j v hj).1
theorem BoxL.there {u : World} {D : Nat} {cs : List Value} (h : BoxL u D cs) : u.there D 0 cs.length := fun j hj => by
  have := h.2 j cs[j] (List.getElem?_eq_getElem hj)
  rw [Nat.zero_add, this.1, this.2]
  exact ⟨rfl, rfl⟩
/-- What stays true while nothing that has come since W is turned. -/
def Stays (W : World) (G : World → Prop) : Prop := ∀ u u', G u → Kept (Fresh W) u u' → G u'
theorem Stays.none (W : World) : Stays W (fun _ => True) := fun _ _ _ _ => trivial
theorem Stays.add {α : Type} [Inhabited α] {R : Rep α} {k bytes : Nat} {W u : World} {G : World → Prop} (hG : Stays W G) (hg : G u) (hR : Firm R k) {a : Option Addr} {n c : Nat} {L : List α} (hs : SlAt R k bytes (Fresh W) u a n c L) :
    ∃ G', Stays W G' ∧ G' u ∧ (∀ v, G' v → G v) ∧ ∀ v, G' v → SlAt R k bytes (Fresh W) v a n c L :=
  ⟨fun v => G v ∧ SlAt R k bytes (Fresh W) v a n c L, fun _ _ h k => ⟨hG _ _ h.1 k, h.2.kept hR k⟩, ⟨hg, hs⟩, fun _ h => h.1, fun _ h => h.2⟩
end Go.Proofs.YtbcclfiopebmpaaGreat
namespace Go.Proofs.YtbcclfiopebmpaaGreat
open Go.RowKit
set_option linter.unusedSimpArgs false

section
variable {P : Program} {md : Region.Mode} {ops : Array Oper} {Q : Exit → Act → World → Prop} {S : World → Prop} {oi : Oper} {d fuel : Nat} {listed : Array Bool} {a : Act} {w : World}
/-- Operation i is taken first; whether it runs is said by hy. -/
theorem tq (i : Nat) (v : Value) (hy : YieldsIf P ops S oi v a) (h : wpAnyH P md ops (NoPanic Q) S fuel (listed.setIfInBounds i true) (a.put (some d) v) w)
    (hi : ops[i]? = some oi := by rfl) (hd : oi.dst = some d := by rfl) (hb : (Region.noSelect ops && (Region.free md ops listed i && (Region.ready md ops listed).contains i)) = true := by kernel_rfl) (hS : S w := by assumption) : wpAnyH P md ops (NoPanic Q) S (fuel + 1) listed a w :=
  wpAnyH_take hi (Bool.and_eq_true _ _ ▸ hb).1 (Bool.and_eq_true _ _ ▸ (Bool.and_eq_true _ _ ▸ hb).2).1 (Bool.and_eq_true _ _ ▸ (Bool.and_eq_true _ _ ▸ hb).2).2 (fun _ _ _ h => h) hy hS (hd ▸ h)
/-- Operation i is taken first; it runs. -/
theorem tk (i : Nat) {v : Value} (hy : ∀ u, S u → (execOp a.eval oi).run P u = .ok (.value v) u) (h : wpAnyH P md ops (NoPanic Q) S fuel (listed.setIfInBounds i true) (a.put (some d) v) w)
    (hi : ops[i]? = some oi := by rfl) (hd : oi.dst = some d := by rfl) (hb : (Region.noSelect ops && (Region.free md ops listed i && (Region.ready md ops listed).contains i)) = true := by kernel_rfl) (hw : Region.wanted oi (yielded ops a.tmps) = true := by rfl) (hS : S w := by assumption) : wpAnyH P md ops (NoPanic Q) S (fuel + 1) listed a w :=
  tq i v (.inl ⟨hw, hy⟩) h hi hd hb hS
/-- Operation i is taken first; its guard says no. -/
theorem tn (i : Nat) (h : wpAnyH P md ops (NoPanic Q) S fuel (listed.setIfInBounds i true) (a.put (some d) undef) w)
    (hi : ops[i]? = some oi := by rfl) (hd : oi.dst = some d := by rfl) (hb : (Region.noSelect ops && (Region.free md ops listed i && (Region.ready md ops listed).contains i)) = true := by kernel_rfl) (hw : Region.wanted oi (yielded ops a.tmps) = false := by rfl) (hS : S w := by assumption) : wpAnyH P md ops (NoPanic Q) S (fuel + 1) listed a w :=
  tq i undef (.inr ⟨hw, rfl⟩) h hi hd hb hS
/-- Operation i is taken first; it runs, whatever the world. -/
theorem tp (i : Nat) {v : Value} (h : wpAnyH P md ops (NoPanic Q) S fuel (listed.setIfInBounds i true) (a.put (some d) v) w)
    (hi : ops[i]? = some oi := by rfl) (hd : oi.dst = some d := by rfl) (hb : (Region.noSelect ops && (Region.free md ops listed i && (Region.ready md ops listed).contains i)) = true := by kernel_rfl) (hw : Region.wanted oi (yielded ops a.tmps) = true := by rfl)
    (hy : ∀ u, (execOp a.eval oi).run P u = .ok (.value v) u := by intro u; go_simp; try with_reducible rfl) (hS : S w := by assumption) : wpAnyH P md ops (NoPanic Q) S (fuel + 1) listed a w :=
  tk i (fun u _ => hy u) h hi hd hb hw hS
/-- Operation i alone may come up; it writes slot d. -/
theorem tr (i : Nat) (h : ∀ K' : Act → World → Prop, Shut (∀ v w, S w → (S w → wpAnyH P md ops Q S fuel (listed.setIfInBounds i true) (a.put (some d) v) w) → K' (a.put oi.dst v) w) → if Region.wanted oi (yielded ops a.tmps) = true then Oper.wp P oi a w K' Q else K' (a.put oi.dst undef) w)
    (hi : ops[i]? = some oi := by rfl) (hd : oi.dst = some d := by rfl) (hr : Region.ready md ops listed = [i] := by kernel_rfl) : wpAnyH P md ops Q S (fuel + 1) listed a w :=
  wpAnyH_ready hr (by simp) (AllReadyH.cons hi (fun K' hK => h K' (fun v w h1 h2 => hK.out _ w h1 (fun h3 => hd ▸ h2 h3))) AllReadyH.nil)
/-- Operation i alone may come up; it writes no slot. -/
theorem ts (i : Nat) (h : ∀ K' : Act → World → Prop, Shut (∀ v w, S w → (S w → wpAnyH P md ops Q S fuel (listed.setIfInBounds i true) a w) → K' (a.put oi.dst v) w) → if Region.wanted oi (yielded ops a.tmps) = true then Oper.wp P oi a w K' Q else K' (a.put oi.dst undef) w)
    (hi : ops[i]? = some oi := by rfl) (hd : oi.dst = none := by rfl) (hr : Region.ready md ops listed = [i] := by kernel_rfl) : wpAnyH P md ops Q S (fuel + 1) listed a w :=
  wpAnyH_ready hr (by simp) (AllReadyH.cons hi (fun K' hK => h K' (fun v w h1 h2 => hK.out _ w h1 (fun h3 => by rw [hd]; exact h2 h3))) AllReadyH.nil)
end
end Go.Proofs.YtbcclfiopebmpaaGreat
namespace Go.Proofs.YtbcclfiopebmpaaGreat
open Go.RowKit
set_option linter.unusedSimpArgs false

section
variable {P : Program} {md : Region.Mode} {ops : Array Oper} {Q : Exit → Act → World → Prop} {S : World → Prop} {oi : Oper} {d n fuel : Nat} {listed : Array Bool} {a : Act} {w : World}
/-- Whatever order is picked; S holds behind every operation before the n-th. -/
def wpAnyN (P : Program) (md : Region.Mode) (ops : Array Oper) (Q : Exit → Act → World → Prop) (S : World → Prop) (n : Nat) : Nat → Array Bool → Act → World → Prop
  | 0, listed, a, w => Region.ready md ops listed = [] ∧ Q .normal a w
  | fuel + 1, listed, a, w =>
    (Region.ready md ops listed = [] → Q .normal a w) ∧
    ∀ i ∈ Region.ready md ops listed, wpOp P ops Q i (fun a' w' => (i < n → S w') ∧ wpAnyN P md ops Q S n fuel (listed.setIfInBounds i true) a' w') a w
theorem wpAny_of_N : ∀ (fuel : Nat) (listed : Array Bool) (a : Act) (w : World), wpAnyN P md ops Q S n fuel listed a w → wpAny P md ops Q fuel listed a w
  | 0, _, _, _, h => h
  | fuel + 1, _, _, _, h => ⟨h.1, fun i hi => wpOp_mono (fun a' w' h' => wpAny_of_N fuel _ a' w' h'.2) (h.2 i hi)⟩
theorem wpAnyN_first {i : Nat} {v : Value} (hi : ops[i]? = some oi) (hsel : ∀ (j : Nat) (o : Oper) cs b, ops[j]? = some o → o.op ≠ .select cs b)
    (hQ : ∀ c a w, Q (.panic c) (a.put oi.dst v) w → Q (.panic c) a w)
    (hs : Region.sinkB md ops n = true) (hc : Region.chainB md ops n = true) (hn : n < ops.size) (hin : i < n) :
    ∀ (fuel : Nat) (listed : Array Bool) (a : Act) (w : World), HeadInv md ops n listed →
      (∀ j oj, ops[j]? = some oj → j ≠ i → listed.getD j true = false → (∀ e ∈ oj.after, Region.binds md e = true → e.on ≠ i) → oi.apart ops oj = true) →
      i ∈ Region.ready md ops listed → YieldsIf P ops S oi v a → S w →
      wpAnyN P md ops Q S n fuel (listed.setIfInBounds i true) (a.put oi.dst v) w → wpAnyN P md ops Q S n (fuel + 1) listed a w := by
  intro fuel
  induction fuel with
  | zero =>
    intro listed a w _ _ hr hy hS H
    refine ⟨fun h => (by rw [h] at hr; cases hr), fun j hj => ?_⟩
    by_cases hji : j = i
    · subst hji; exact hy.wpOp hi hS ⟨fun _ => hS, H⟩
    · have := ready_mono hj hji
      rw [H.1] at this
      cases this
  | succ fuel ih =>
    intro listed a w inv hfree hr hy hS H
    have hun := (mem_ready.1 hr).1
    refine ⟨fun h => (by rw [h] at hr; cases hr), fun j hj => ?_⟩
    have hjn : j < n := by
      rcases Nat.lt_or_ge j n with h | h
      · exact h
      · exact absurd hj (tail_waits hs hc hn inv _ i rfl hin hun j h)
    by_cases hji : j = i
    · subst hji; exact hy.wpOp hi hS ⟨fun _ => hS, H⟩
    · have h1 := H.2 j (ready_mono hj hji)
      obtain ⟨hjun, oj, hoj, hall⟩ := mem_ready.1 hj
      have hnot : ∀ e ∈ oj.after, Region.binds md e = true → e.on ≠ i := fun e he hb heq => by
        have h1 := hall e he hb
        rw [heq, getD_both hun] at h1
        cases h1
      have h2 := wpOp_putIf hoj (hfree j oj hoj hji hjun hnot) (fun cs b => hsel i oi cs b hi) (fun cs b => hsel j oj cs b hoj) hQ hy h1
      have hfree' : ∀ k ok, ops[k]? = some ok → k ≠ i → (listed.setIfInBounds j true).getD k true = false →
          (∀ e ∈ ok.after, Region.binds md e = true → e.on ≠ i) → oi.apart ops ok = true := fun k ok hk hki hun hno => by
        refine hfree k ok hk hki ?_ hno
        by_cases hjk : j = k
        · subst hjk; exact hjun
        · rw [getD_set_ne true hjk] at hun; exact hun
      refine wpOp_mono (fun a' w' h3 => ⟨h3.2.1, ih (listed.setIfInBounds j true) a' w' (inv.set hj hjn) hfree' (ready_mono hr (Ne.symm hji)) h3.1 (h3.2.1 hjn) ?_⟩) h2
      rw [Array.setIfInBounds_comm _ _ hji]
      exact h3.2.2
/-- The walk, with what is known of those that have come up. -/
def wN (P : Program) (md : Region.Mode) (ops : Array Oper) (Q : Exit → Act → World → Prop) (S : World → Prop) (n fuel : Nat) (listed : Array Bool) (a : Act) (w : World) : Prop :=
  Region.sinkB md ops n = true → Region.chainB md ops n = true → n < ops.size → HeadInv md ops n listed → wpAnyN P md ops Q S n fuel listed a w
theorem uq (i : Nat) (v : Value) (hy : YieldsIf P ops S oi v a) (h : wN P md ops (NoPanic Q) S n fuel (listed.setIfInBounds i true) (a.put (some d) v) w)
    (hi : ops[i]? = some oi := by rfl) (hd : oi.dst = some d := by rfl) (hb : (decide (i < n) && (Region.noSelect ops && (Region.free md ops listed i && (Region.ready md ops listed).contains i))) = true := by kernel_rfl) (hS : S w := by assumption) : wN P md ops (NoPanic Q) S n (fuel + 1) listed a w := by
  intro hs hc hn inv
  simp only [Bool.and_eq_true, decide_eq_true_eq] at hb
  obtain ⟨b1, b2, b3, b4⟩ := hb
  have hr : i ∈ Region.ready md ops listed := by simpa using b4
  exact wpAnyN_first hi (Region.noSelect_spec b2) (fun _ _ _ h => h) hs hc hn b1 fuel listed a w inv (Region.free_spec hi b3) hr hy hS (hd ▸ h hs hc hn (inv.set hr b1))
theorem uk (i : Nat) {v : Value} (hy : ∀ u, S u → (execOp a.eval oi).run P u = .ok (.value v) u) (h : wN P md ops (NoPanic Q) S n fuel (listed.setIfInBounds i true) (a.put (some d) v) w)
    (hi : ops[i]? = some oi := by rfl) (hd : oi.dst = some d := by rfl) (hb : (decide (i < n) && (Region.noSelect ops && (Region.free md ops listed i && (Region.ready md ops listed).contains i))) = true := by kernel_rfl) (hw : Region.wanted oi (yielded ops a.tmps) = true := by rfl) (hS : S w := by assumption) : wN P md ops (NoPanic Q) S n (fuel + 1) listed a w :=
  uq i v (.inl ⟨hw, hy⟩) h hi hd hb hS
theorem un (i : Nat) (h : wN P md ops (NoPanic Q) S n fuel (listed.setIfInBounds i true) (a.put (some d) undef) w)
    (hi : ops[i]? = some oi := by rfl) (hd : oi.dst = some d := by rfl) (hb : (decide (i < n) && (Region.noSelect ops && (Region.free md ops listed i && (Region.ready md ops listed).contains i))) = true := by kernel_rfl) (hw : Region.wanted oi (yielded ops a.tmps) = false := by rfl) (hS : S w := by assumption) : wN P md ops (NoPanic Q) S n (fuel + 1) listed a w :=
  uq i undef (.inr ⟨hw, rfl⟩) h hi hd hb hS
/-- Operation i alone may come up; it writes slot d. -/
theorem ur (i : Nat) (h : ∀ K' : Act → World → Prop, Shut (∀ v w, S w → (S w → wN P md ops Q S n fuel (listed.setIfInBounds i true) (a.put (some d) v) w) → K' (a.put oi.dst v) w) → if Region.wanted oi (yielded ops a.tmps) = true then Oper.wp P oi a w K' Q else K' (a.put oi.dst undef) w)
    (hi : ops[i]? = some oi := by rfl) (hd : oi.dst = some d := by rfl) (hr : Region.ready md ops listed = [i] := by kernel_rfl) (hin : i < n := by decide) : wN P md ops Q S n (fuel + 1) listed a w := by
  intro hs hc hn inv
  have hir : i ∈ Region.ready md ops listed := by rw [hr]; simp
  refine ⟨fun h0 => (by rw [hr] at h0; cases h0), fun j hj => ?_⟩
  obtain rfl : j = i := by rw [hr] at hj; simpa using hj
  exact wpOp_step hi (fun K' hK => h K' (fun v w h1 h2 => hK _ w ⟨fun _ => h1, hd ▸ h2 h1 hs hc hn (inv.set hir hin)⟩))
/-- Either of two may come up. -/
theorem ub (i j : Nat) {oj : Oper} {e : Nat} (h : ∀ K' : Act → World → Prop, Shut (∀ v w, S w → (S w → wN P md ops Q S n fuel (listed.setIfInBounds i true) (a.put (some d) v) w) → K' (a.put oi.dst v) w) → if Region.wanted oi (yielded ops a.tmps) = true then Oper.wp P oi a w K' Q else K' (a.put oi.dst undef) w)
    (h' : ∀ K' : Act → World → Prop, Shut (∀ v w, S w → (S w → wN P md ops Q S n fuel (listed.setIfInBounds j true) (a.put (some e) v) w) → K' (a.put oj.dst v) w) → if Region.wanted oj (yielded ops a.tmps) = true then Oper.wp P oj a w K' Q else K' (a.put oj.dst undef) w)
    (hi : ops[i]? = some oi := by rfl) (hd : oi.dst = some d := by rfl) (hj : ops[j]? = some oj := by rfl) (he : oj.dst = some e := by rfl) (hr : Region.ready md ops listed = [i, j] := by kernel_rfl) (hin : i < n ∧ j < n := by decide) : wN P md ops Q S n (fuel + 1) listed a w := by
  intro hs hc hn inv
  have hir : i ∈ Region.ready md ops listed := by rw [hr]; simp
  have hjr : j ∈ Region.ready md ops listed := by rw [hr]; simp
  refine ⟨fun h0 => (by rw [hr] at h0; cases h0), fun k hk => ?_⟩
  have hk' : k = i ∨ k = j := by rw [hr] at hk; simpa using hk
  rcases hk' with rfl | rfl
  · exact wpOp_step hi (fun K' hK => h K' (fun v w h1 h2 => hK _ w ⟨fun _ => h1, hd ▸ h2 h1 hs hc hn (inv.set hir hin.1)⟩))
  · exact wpOp_step hj (fun K' hK => h' K' (fun v w h1 h2 => hK _ w ⟨fun _ => h1, he ▸ h2 h1 hs hc hn (inv.set hjr hin.2)⟩))
/-- The last operation. -/
theorem uz (i : Nat) (h : ∀ K' : Act → World → Prop, Shut (∀ w, Q .normal a w → K' a w) → if Region.wanted oi (yielded ops a.tmps) = true then Oper.wp P oi a w K' Q else K' (a.put oi.dst undef) w)
    (hi : ops[i]? = some oi := by rfl) (hr : Region.ready md ops listed = [i] := by kernel_rfl) (hr' : Region.ready md ops (listed.setIfInBounds i true) = [] := by kernel_rfl) (hin : n ≤ i := by decide) : wN P md ops Q S n (fuel + 1) listed a w := by
  intro _ _ _ _
  refine ⟨fun h0 => (by rw [hr] at h0; cases h0), fun j hj => ?_⟩
  obtain rfl : j = i := by rw [hr] at hj; simpa using hj
  refine wpOp_step hi (fun K' hK => h K' (fun w h1 => hK _ w ⟨fun h2 => absurd h2 (by omega), ?_⟩))
  cases fuel with
  | zero => exact ⟨hr', h1⟩
  | succ f => exact ⟨fun _ => h1, by rw [hr']; simp⟩
/-- Either of two may come up (S holds to the end). -/
theorem tb (i j : Nat) {oj : Oper} {e : Nat} (h : ∀ K' : Act → World → Prop, Shut (∀ v w, S w → (S w → wpAnyH P md ops Q S fuel (listed.setIfInBounds i true) (a.put (some d) v) w) → K' (a.put oi.dst v) w) → if Region.wanted oi (yielded ops a.tmps) = true then Oper.wp P oi a w K' Q else K' (a.put oi.dst undef) w)
    (h' : ∀ K' : Act → World → Prop, Shut (∀ v w, S w → (S w → wpAnyH P md ops Q S fuel (listed.setIfInBounds j true) (a.put (some e) v) w) → K' (a.put oj.dst v) w) → if Region.wanted oj (yielded ops a.tmps) = true then Oper.wp P oj a w K' Q else K' (a.put oj.dst undef) w)
    (hi : ops[i]? = some oi := by rfl) (hd : oi.dst = some d := by rfl) (hj : ops[j]? = some oj := by rfl) (he : oj.dst = some e := by rfl) (hr : Region.ready md ops listed = [i, j] := by kernel_rfl) : wpAnyH P md ops Q S (fuel + 1) listed a w :=
  wpAnyH_ready hr (by simp) (AllReadyH.cons hi (fun K' hK => h K' (fun v w h1 h2 => hK.out _ w h1 (fun h3 => hd ▸ h2 h3))) (AllReadyH.cons hj (fun K' hK => h' K' (fun v w h1 h2 => hK.out _ w h1 (fun h3 => he ▸ h2 h3))) AllReadyH.nil))
/-- The beginning. -/
theorem u0 (n : Nat) (S : World → Prop) {id : Nat} (hS : S w.drew) (h : S w.drew → wN P .any ops (NoPanic Q) S n ops.size (Array.replicate ops.size false) a w.drew)
    (hm : P.follows .mixedOrders = true := by kernel_rfl) (hb : (Region.sinkB .any ops n && (Region.chainB .any ops n && decide (n < ops.size))) = true := by kernel_rfl) : (Code.region id ops true).wp P Q a w := by
  simp only [Bool.and_eq_true, decide_eq_true_eq] at hb
  refine wp_region_noPanic (wp_region_any hm (wpAny_of_N (S := S) (n := n) _ _ _ _ (h hS hb.1 hb.2.1 hb.2.2 ⟨by simp, fun j oj _ hl => ?_, fun t _ ht => by simp [ht]⟩)))
  rw [getD_replicate_false] at hl
  cases hl
end
end Go.Proofs.YtbcclfiopebmpaaGreat
namespace Go.Proofs.YtbcclfiopebmpaaGreat
open Go.RowKit
set_option linter.unusedSimpArgs false
set_option maxRecDepth 100000

end Go.Proofs.YtbcclfiopebmpaaGreat
namespace Go.Proofs.YtbcclfiopebmpaaGreat
open Go.RowKit
set_option linter.unusedSimpArgs false

section
variable {α : Type} [Inhabited α] {R : Rep α} {k : Nat}
theorem Row.lt {A : Where} {w0 u : World} {e : TypeId} {v : Value} {L : List α} (h : Row R k A w0 u e v L) {b : Nat} (hb : v.ownBlock = some b) : w0.heap.size ≤ b ∧ b < u.heap.size := by
  obtain ⟨xs, h1, _⟩ := h
  exact h1.2.lt b hb
theorem Row.grown (hR : Firm R k) {A : Where} {w0 u u' : World} {row : Option Nat} {e : TypeId} {v : Value} {L : List α} (h : Row R k A w0 u e v L) (hg : u.grownBy u' row) (hn : ∀ b, row = some b → w0.heap.size ≤ b ∧ v.ownBlock ≠ some b ∧ ¬ A b) : Row R k A w0 u' e v L := by
  obtain ⟨xs, ⟨h1, h0, h2⟩, h3⟩ := h
  refine ⟨xs, ⟨?_, h0, ?_⟩, h3.kept hR (Kept.grown hg (fun b hb h => (hn b hb).2.2 h.1))⟩
  · exact Below.grown h1 hg h1.size (fun b hb => (hn b hb).1)
  · rcases h2 with h2 | ⟨g, cap, cur, hv, hg0, hh, r⟩
    · exact .inl h2
    · refine .inr ⟨g, cap, cur, hv, hg0, ?_, r⟩
      rw [hg.block g ?_ ?_]
      · exact hh
      · rcases Nat.lt_or_ge g u.heap.size with h | h
        · exact h
        · rw [Array.getElem?_eq_none h] at hh; cases hh
      · intro e1
        have := (hn g e1.symm).2.1
        rw [hv] at this
        exact this rfl
/-- An append of what lies in a slice, or in none, with the place of the new row. -/
theorem row_appendP_wp (hR : Firm R k) {o : Oper} {a : Act} {K : Act → World → Prop} {Q : Exit → Act → World → Prop} {A : Where} {w0 u : World} (s x : Operand) (t e : TypeId)
    (ho : o.op = .call { callee := .builtin .append, args := #[s, x], argTypes := #[t, t] }) (z : Value) (bytes : Nat) (hinfo : (Tryz.prog.info? e).map (fun i => (i.zero, i.size, i.bytes)) = some (some z, k, bytes)) (ht : Tryz.prog.underlying t = some (.slice e)) (hzs : z.cells.size = k) (hk0 : 0 < k) (hby : 1 ≤ bytes)
    (v : Value) (L : List α) (hs : a.eval s = v) (hrow : Row R k A w0 u e v L)
    (ad : Option Addr) (m c : Nat) (N : List α) (hx : a.eval x = .slice ad m c) (hN : Src R k (fun b => A b ∧ v.ownBlock ≠ some b) u ad m N) (hb : (L.length + N.length) * bytes ≤ 140737488355328)
    (h : ∀ v' u', Row R k A w0 u' e v' (L ++ N) → u.grownBy u' v.ownBlock → (v'.ownBlock = v.ownBlock ∨ v'.ownBlock = some u.heap.size) → K (a.put o.dst v') u') : o.wp Tryz.prog a u K Q := by
  obtain ⟨hm, hN⟩ := hN
  rcases hN with ⟨rfl, rfl⟩ | ⟨ad, news, rfl, hN, hcells, h1⟩
  · obtain rfl : m = 0 := by simpa using hm.symm
    obtain ⟨i0, hi, hz0, hz1, hz2⟩ := info_parts hinfo
    have hr : ∀ ty, (Builtin.append_ #[t, t] ty #[v, .slice none 0 c]).run Tryz.prog u = .ok v u := by
      intro ty
      obtain ⟨xs, hown, _⟩ := hrow
      rcases hown.2.2 with ⟨rfl, _⟩ | ⟨g, cap, cur, rfl, _, hg, hnc, _⟩
      · simp [Builtin.append_, run_underlying ht, sizeOf, typeInfo, hi, Builtin.lenOf, Builtin.firstCells, loadCells, loadCellsFrom]
      · simp [Builtin.append_, run_underlying ht, sizeOf, typeInfo, hi, Builtin.lenOf, Builtin.firstCells, loadCells, loadCellsFrom, hnc, storeCells]
    unfold Oper.wp execOp
    simp only [ho, resolve, invoke, builtin, Sem.run_bind, Sem.run_pure, Result.andThen_ok, List.map_toArray, List.map_cons, List.map_nil, hs, hx, hr]
    exact h v u (by simpa using hrow) ⟨rfl, rfl, rfl, Nat.le_refl _, fun _ _ _ => rfl⟩ (.inl rfl)
  · subst hm
    obtain ⟨i0, hi, hz0, hz1, hz2⟩ := info_parts hinfo
    obtain ⟨xs, hown, hch⟩ := hrow
    have hmul : (L.length + N.length) * 1 ≤ (L.length + N.length) * bytes := Nat.mul_le_mul_left _ hby
    obtain ⟨v', u', hr, h2, h3, h4, h5⟩ := run_append_own_at (P := Tryz.prog) u w0.heap.size t o.type e i0 z k bytes ht hi hz0 hz1 hz2 hzs hk0 v L.length xs hown.2 ad N.length c news hN.1 hcells h1 (by unfold maxLen; omega) hb hown.1.size
    unfold Oper.wp execOp
    simp only [ho, resolve, invoke, builtin, Sem.run_bind, Sem.run_pure, Result.andThen_ok, List.map_toArray, List.map_cons, List.map_nil, hs, hx, hr]
    refine (h v' u' ⟨xs ++ news, ⟨hown.row h3, by rw [List.length_append]; exact h2⟩, ?_⟩ h3 h5)
    have put : ∀ {ys : List Value} {M : List α}, Chunks R k (fun b => A b ∧ v.ownBlock ≠ some b) u ys M → Chunks R k (fun b => A b ∧ v'.ownBlock ≠ some b) u' ys M := fun {ys M} hc => by
      have c1 := hc.weak hR (A' := fun b => (A b ∧ v.ownBlock ≠ some b) ∧ b < u.heap.size) (fun b hb h => ⟨h, hb⟩)
      have c2 := c1.kept hR (Kept.grown h3 (fun b e => fun h => h.1.2 e))
      refine c2.weak hR (fun b _ h => ⟨h.1.1, fun e => ?_⟩)
      rcases h5 with h5 | h5
      · rw [h5] at e; exact h.1.2 e
      · rw [h5] at e
        have : u.heap.size = b := by simpa using e
        exact absurd h.2 (by omega)
    obtain ⟨l1, c1⟩ := put hch
    obtain ⟨l2, c2⟩ := put hN
    refine ⟨by rw [List.length_append, List.length_append, l1, l2, Nat.add_mul], fun i hi => ?_⟩
    rcases Nat.lt_or_ge i L.length with h' | h'
    · obtain ⟨cs, q1, q2⟩ := c1 i h'
      have e : (L ++ N).getD i default = L.getD i default := by rw [getE _ _ hi, getE _ _ h', List.getElem_append_left h']
      refine ⟨cs, by rw [e]; exact q1, fun j hj => ?_⟩
      rw [List.getElem?_append_left (by have : (i + 1) * k ≤ L.length * k := Nat.mul_le_mul_right k h'; rw [Nat.add_mul] at this; omega)]
      exact q2 j hj
    · have h'' : i - L.length < N.length := by simp at hi; omega
      obtain ⟨cs, q1, q2⟩ := c2 (i - L.length) h''
      have e : (L ++ N).getD i default = N.getD (i - L.length) default := by rw [getE _ _ hi, getE _ _ h'', List.getElem_append_right h']
      refine ⟨cs, by rw [e]; exact q1, fun j hj => ?_⟩
      have hle : L.length * k ≤ i * k := Nat.mul_le_mul_right k h'
      rw [List.getElem?_append_right (by omega), l1, idx_part i L.length k j h', ← q2 j hj]
/-- At a plain region's list of operations. -/
theorem row_appendP (hR : Firm R k) {ops : Array Oper} {rest : List Oper} {o : Oper} {a : Act} {Q : Exit → Act → World → Prop} {A : Where} {w0 u : World} (hgd : Region.wanted o (yielded ops a.tmps) = true) (s x : Operand) (t e : TypeId)
    (ho : o.op = .call { callee := .builtin .append, args := #[s, x], argTypes := #[t, t] }) (z : Value) (bytes : Nat) (hinfo : (Tryz.prog.info? e).map (fun i => (i.zero, i.size, i.bytes)) = some (some z, k, bytes)) (ht : Tryz.prog.underlying t = some (.slice e)) (hzs : z.cells.size = k) (hk0 : 0 < k) (hby : 1 ≤ bytes)
    (v : Value) (L : List α) (hs : a.eval s = v) (hrow : Row R k A w0 u e v L)
    (ad : Option Addr) (m c : Nat) (N : List α) (hx : a.eval x = .slice ad m c) (hN : Src R k (fun b => A b ∧ v.ownBlock ≠ some b) u ad m N) (hb : (L.length + N.length) * bytes ≤ 140737488355328)
    (h : ∀ v' u', Row R k A w0 u' e v' (L ++ N) → u.grownBy u' v.ownBlock → (v'.ownBlock = v.ownBlock ∨ v'.ownBlock = some u.heap.size) → wpList Tryz.prog ops Q rest (a.put o.dst v') u') : wpList Tryz.prog ops Q (o :: rest) a u :=
  BigFrame.wpList_want hgd (fun _ hK => row_appendP_wp hR s x t e ho z bytes hinfo ht hzs hk0 hby v L hs hrow ad m c N hx hN hb (fun v' u' h2 h3 h4 => hK _ _ (h v' u' h2 h3 h4)))
end
end Go.Proofs.YtbcclfiopebmpaaGreat
