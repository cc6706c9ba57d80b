/- base.SameTexts, SameInts, SameLabels, SameReqs, sameTerms tell whether two slices hold the same; they change nothing but the count of draws. Condition: the slices hold what is said of them. base.Has and base.HasInt tell whether it is in a list, and change nothing. Condition: the slice lies as is said of it. Plugins, and how they are run, as plain functions. No program. No condition. What the laws of layer 17 want of a run. Plain. No condition. Which blocks a call turns. Plain facts on worlds. No condition. A row of one's own, and the blocks of struct variables beside it; an append of a whole slice, empty or not; facts that stay while a variable's block is written. Plain facts on worlds. No condition. -/
import Derived.Test.YtoacbobchngooaaDoorQ03
import Derived.Laws.StructEq
import Derived.Test.YtoacbobchngooaaDoorQ01
import Derived.Test.YtoacbobchngooaaDoorQ02
import Derived.Lib.ItoaLen
import Derived.Maps.OwnOps
import Derived.Maps.OwnSet
import Derived.Deep.MidRow
namespace Go.Proofs.YtoacbobchngooaaDoor
open Go.RowKit
set_option linter.unusedSimpArgs false

theorem retB {a b : Bool} (h : a = b) : Ending.returned (.bool a) = .returned (.bool b) := by rw [h]
theorem same_len {α : Type} [DecidableEq α] {L M : List α} (h : L.length ≠ M.length) : decide (L = M) = false := by
  rw [decide_eq_false_iff_not]; intro e; exact h (by rw [e])
section
variable {α : Type} [Inhabited α] [DecidableEq α] {L M : List α}
theorem same_no {k : Nat} (h : L.getD k default ≠ M.getD k default) : decide (L = M) = false := by
  rw [decide_eq_false_iff_not]; intro e; exact h (by rw [e])
theorem same_yes (hl : L.length = M.length) (h : ∀ j, j < L.length → L.getD j default = M.getD j default) : decide (L = M) = true := by
  rw [decide_eq_true_iff]
  apply List.ext_getElem hl
  intro i h1 h2
  have := h i h1
  rwa [getE _ _ h1, getE _ _ h2] at this
end
theorem bne_of (a b : Int) : (a != b) = !(a == b) := rfl
theorem lab_eq (x y : Lab) : (sEq x.1 y.1 && sEq x.2 y.2) = decide (x = y) := by
  rw [Bool.eq_iff_iff, Bool.and_eq_true, sEq_iff, sEq_iff, decide_eq_true_iff, Prod.ext_iff]
theorem ask_eq (x y : Ask) : decide (x = y) = (sEq x.1 y.1 && ((x.2.1 == y.2.1) && decide (x.2.2 = y.2.2))) := by
  rw [Bool.eq_iff_iff, Bool.and_eq_true, Bool.and_eq_true, sEq_iff, decide_eq_true_iff, decide_eq_true_iff, beq_iff_eq, Prod.ext_iff, Prod.ext_iff]
theorem term_eq (x y : TermD) : decide (x = y) = (sEq x.2 y.2 && decide (x.1 = y.1)) := by
  rw [Bool.eq_iff_iff, Bool.and_eq_true, sEq_iff, decide_eq_true_iff, decide_eq_true_iff, Prod.ext_iff, And.comm]

set_option maxHeartbeats 4000000 in
theorem SameTexts_calls (a : Option Addr) (n cap : Nat) (A : Where) (L : List (ByteArray)) (b : Option Addr) (m capb : Nat) (A' : Where) (M : List (ByteArray)) (w : World) (hA : Hid (SlAt RStr 1 16 A w a n cap L)) (hB : Hid (SlAt RStr 1 16 A' w b m capb M)) : Calls Tryd.prog 17 #[.slice a n cap, .slice b m capb] w fun e w' => e = .returned (.bool (decide (L = M))) ∧ ∃ q, w' = w.drewN q := by
  have hn : Hid (L.length = n) := hA.out.1
  have hm : Hid (M.length = m) := hB.out.1
  have hlen := hA.out.len (by decide)
  by_cases hnm : n = m
  case neg =>
    have HF : Hid (decide (L = M) = false) := same_len (by rw [hn.out, hm.out]; exact hnm)
    have hne : ((n : Int) != (m : Int)) = true := by rw [bne_iff_ne]; omega
    go_enter Tryd.func17, Tryd.ntmps17
    go_wp2
    go_ret
    exact ⟨retB HF.out.symm, 0, rfl⟩
  subst hnm
  have hne : ((n : Int) != (n : Int)) = false := by simp
  go_enter Tryd.func17, Tryd.ntmps17
  go_wp2
  go_loopw [5] (fun i wr => ∃ k : Nat, k ≤ n ∧ i = .int .i64 k ∧ Hid (∃ q, wr = w.drewN q) ∧ Hid (∀ j, j < k → L.getD j default = M.getD j default)) (fun i _ => n - (intOf i).toNat)
  case atStart => exact ⟨0, Nat.zero_le _, rfl, ⟨0, rfl⟩, fun j hj => absurd hj (Nat.not_lt_zero _)⟩
  case round =>
    obtain ⟨k, hk, rfl, hwr, hall⟩ := hrel
    have hbel : Below w.heap.size w wr := by obtain ⟨q, rfl⟩ := hwr.out; exact below_drewN (Below.refl _ _) _
    have hback : Hid (∀ q, ∃ q', wr.drewN q = w.drewN q') := by obtain ⟨q0, rfl⟩ := hwr.out; exact fun q => ⟨_, World.drewN_drewN _ _ _⟩
    by_cases hlt : k < n
    · have hltz : (k : Int) < (n : Int) := by omega
      obtain ⟨B, off, rfl, hBl, _, cs, hra, hva⟩ := (hA.out.on RStr.firm hbel).get hlt
      obtain ⟨B', off', rfl, hBl', _, cs', hrb, hvb⟩ := (hB.out.on RStr.firm hbel).get hlt
      obtain ⟨rfl, sa⟩ := hra
      obtain ⟨rfl, sb⟩ := hrb
      have d0 := hva 0 _ rfl
      have g0 := hvb 0 _ rfl
      rw [Nat.add_zero] at d0 g0
      rw [Nat.mul_one] at d0 g0
      have HG : Hid (decide (L.getD k default = M.getD k default) = true → ∀ j, j < k + 1 → L.getD j default = M.getD j default) := fun h j hj => by
        rcases Nat.lt_succ_iff_lt_or_eq.1 hj with h' | rfl
        · exact hall.out j h'
        · exact of_decide_eq_true h
      have HF : Hid (decide (L.getD k default = M.getD k default) = false → decide (L = M) = false) := fun h => same_no (of_decide_eq_false h)
      clear hall hva hvb
      have HE : (!((L.getD k default).toList == (M.getD k default).toList)) = !decide (L.getD k default = M.getD k default) := by rw [show ((L.getD k default).toList == (M.getD k default).toList) = decide (L.getD k default = M.getD k default) by rw [Bool.eq_iff_iff, decide_eq_true_iff]; exact sEq_iff _ _]
      generalize L.getD k default = x at d0 sa HE HG HF
      generalize M.getD k default = y at g0 sb HE HG HF
      cases hd : decide (x = y)
      · have HF2 : Hid (decide (L = M) = false) := HF.out hd
        rw [hd] at HE
        clear HG HF hd
        go_wp2_with fail
        go_quiet (fail)
        go_wp2_with fail
        go_ret
        exact ⟨retB HF2.out.symm, hback.out _⟩
      · have HG2 : Hid (∀ j, j < k + 1 → L.getD j default = M.getD j default) := HG.out hd
        rw [hd] at HE
        clear HG HF hd
        go_wp2_with fail
        go_quiet (fail)
        go_wp2_with fail
        go_roundw
        case rel => exact ⟨k + 1, by omega, by go_num, hback.out _, HG2⟩
        case measure => simp [intOf]; omega
    · have HT : Hid (decide (L = M) = true) := same_yes (by rw [hn.out, hm.out]) (fun j hj => hall.out j (by rw [hn.out] at hj; omega))
      clear hall
      go_wp2
      go_ret
      exact ⟨retB HT.out.symm, hwr.out⟩

set_option maxHeartbeats 4000000 in
theorem SameInts_calls (a : Option Addr) (n cap : Nat) (A : Where) (L : List (Int)) (b : Option Addr) (m capb : Nat) (A' : Where) (M : List (Int)) (w : World) (hA : Hid (SlAt RInt 1 8 A w a n cap L)) (hB : Hid (SlAt RInt 1 8 A' w b m capb M)) : Calls Tryd.prog 18 #[.slice a n cap, .slice b m capb] w fun e w' => e = .returned (.bool (decide (L = M))) ∧ ∃ q, w' = w.drewN q := by
  have hn : Hid (L.length = n) := hA.out.1
  have hm : Hid (M.length = m) := hB.out.1
  have hlen := hA.out.len (by decide)
  by_cases hnm : n = m
  case neg =>
    have HF : Hid (decide (L = M) = false) := same_len (by rw [hn.out, hm.out]; exact hnm)
    have hne : ((n : Int) != (m : Int)) = true := by rw [bne_iff_ne]; omega
    go_enter Tryd.func18, Tryd.ntmps18
    go_wp2
    go_ret
    exact ⟨retB HF.out.symm, 0, rfl⟩
  subst hnm
  have hne : ((n : Int) != (n : Int)) = false := by simp
  go_enter Tryd.func18, Tryd.ntmps18
  go_wp2
  go_loopw [5] (fun i wr => ∃ k : Nat, k ≤ n ∧ i = .int .i64 k ∧ Hid (∃ q, wr = w.drewN q) ∧ Hid (∀ j, j < k → L.getD j default = M.getD j default)) (fun i _ => n - (intOf i).toNat)
  case atStart => exact ⟨0, Nat.zero_le _, rfl, ⟨0, rfl⟩, fun j hj => absurd hj (Nat.not_lt_zero _)⟩
  case round =>
    obtain ⟨k, hk, rfl, hwr, hall⟩ := hrel
    have hbel : Below w.heap.size w wr := by obtain ⟨q, rfl⟩ := hwr.out; exact below_drewN (Below.refl _ _) _
    have hback : Hid (∀ q, ∃ q', wr.drewN q = w.drewN q') := by obtain ⟨q0, rfl⟩ := hwr.out; exact fun q => ⟨_, World.drewN_drewN _ _ _⟩
    by_cases hlt : k < n
    · have hltz : (k : Int) < (n : Int) := by omega
      obtain ⟨B, off, rfl, hBl, _, cs, hra, hva⟩ := (hA.out.on RInt.firm hbel).get hlt
      obtain ⟨B', off', rfl, hBl', _, cs', hrb, hvb⟩ := (hB.out.on RInt.firm hbel).get hlt
      obtain rfl := hra
      obtain rfl := hrb
      have d0 := hva 0 _ rfl
      have g0 := hvb 0 _ rfl
      rw [Nat.add_zero] at d0 g0
      rw [Nat.mul_one] at d0 g0
      have HG : Hid (decide (L.getD k default = M.getD k default) = true → ∀ j, j < k + 1 → L.getD j default = M.getD j default) := fun h j hj => by
        rcases Nat.lt_succ_iff_lt_or_eq.1 hj with h' | rfl
        · exact hall.out j h'
        · exact of_decide_eq_true h
      have HF : Hid (decide (L.getD k default = M.getD k default) = false → decide (L = M) = false) := fun h => same_no (of_decide_eq_false h)
      clear hall hva hvb
      have HE : (L.getD k default != M.getD k default) = !decide (L.getD k default = M.getD k default) := by rw [bne_of, show (L.getD k default == M.getD k default) = decide (L.getD k default = M.getD k default) by rw [Bool.eq_iff_iff, decide_eq_true_iff, beq_iff_eq]]
      generalize L.getD k default = x at d0 HE HG HF
      generalize M.getD k default = y at g0 HE HG HF
      cases hd : decide (x = y)
      · have HF2 : Hid (decide (L = M) = false) := HF.out hd
        rw [hd] at HE
        clear HG HF hd
        go_wp2_with fail
        go_quiet (fail)
        go_wp2_with fail
        go_ret
        exact ⟨retB HF2.out.symm, hback.out _⟩
      · have HG2 : Hid (∀ j, j < k + 1 → L.getD j default = M.getD j default) := HG.out hd
        rw [hd] at HE
        clear HG HF hd
        go_wp2_with fail
        go_quiet (fail)
        go_wp2_with fail
        go_roundw
        case rel => exact ⟨k + 1, by omega, by go_num, hback.out _, HG2⟩
        case measure => simp [intOf]; omega
    · have HT : Hid (decide (L = M) = true) := same_yes (by rw [hn.out, hm.out]) (fun j hj => hall.out j (by rw [hn.out] at hj; omega))
      clear hall
      go_wp2
      go_ret
      exact ⟨retB HT.out.symm, hwr.out⟩

end Go.Proofs.YtoacbobchngooaaDoor
namespace Go.Proofs.YtoacbobchngooaaDoor
open Go.RowKit
set_option linter.unusedSimpArgs false
set_option maxRecDepth 100000

def hasB {α : Type} (eq : α → α → Bool) (V : List α) (s : α) : Bool := V.any fun v => eq v s
theorem hasB_succ {α : Type} [Inhabited α] (eq : α → α → Bool) (L : List α) (s : α) {k : Nat} (hk : k < L.length) : hasB eq (L.take (k + 1)) s = (hasB eq (L.take k) s || eq (L.getD k default) s) := by
  rw [← take_at hk]; simp [hasB]
theorem hasB_found {α : Type} [Inhabited α] (eq : α → α → Bool) (L : List α) (s : α) {k : Nat} (hk : k < L.length) (h : eq (L.getD k default) s = true) : hasB eq L s = true := by
  simp only [hasB, List.any_eq_true]
  exact ⟨L.getD k default, by rw [getE _ _ hk]; exact List.getElem_mem hk, h⟩
def iEq (a b : Int) : Bool := a == b

set_option maxHeartbeats 1000000 in
theorem Has_calls (a : Option Addr) (n cap : Nat) (A : Where) (L : List ByteArray) (s : ByteArray) (w : World) (hL : Hid (SlAt RStr 1 16 A w a n cap L)) : Calls Tryd.prog 28 #[.slice a n cap, .string s] w fun e w' => e = .returned (.bool (hasB sEq L s)) ∧ w' = w := by
  have hn : Hid (L.length = n) := hL.out.1
  have hlen := hL.out.len (by decide)
  go_enter Tryd.func28, Tryd.ntmps28
  go_wp2_with fail
  go_loop [5] (fun i => ∃ k : Nat, k ≤ n ∧ i = .int .i64 k ∧ Hid (hasB sEq (L.take k) s = false)) (fun i => n - (intOf i).toNat)
  case atStart => exact ⟨0, Nat.zero_le _, rfl, rfl⟩
  case round =>
    obtain ⟨k, hk, rfl, hno⟩ := hrel
    by_cases hlt : k < n
    · have hltz : (k : Int) < (n : Int) := by omega
      have hkl : k < L.length := by rw [hn.out]; exact hlt
      have HN : Hid (hasB sEq (L.take (k + 1)) s = (hasB sEq (L.take k) s || sEq (L.getD k default) s)) := hasB_succ _ _ _ hkl
      have HF : Hid (sEq (L.getD k default) s = true → hasB sEq L s = true) := hasB_found _ _ _ hkl
      obtain ⟨B, off, rfl, hB, _, cs, hr, hv⟩ := hL.out.get hlt
      obtain ⟨rfl, _⟩ := hr
      have d0 := hv 0 _ rfl
      simp only [Nat.mul_one, Nat.add_zero] at d0
      clear hv
      generalize L.getD k default = x at d0 HN HF
      cases he : sEq x s
      · have he' : (x.toList == s.toList) = false := he
        have HN2 : Hid (hasB sEq (L.take (k + 1)) s = false) := by rw [Hid, HN.out, hno.out, he]; rfl
        clear HN HF he
        go_wp2_with fail
        go_round
        case rel => exact ⟨k + 1, by omega, by go_num, HN2⟩
        case measure => simp [intOf]; omega
      · have he' : (x.toList == s.toList) = true := he
        have HT : Hid (hasB sEq L s = true) := HF.out he
        clear HN HF he
        go_wp2_with fail
        go_ret
        exact ⟨retB HT.out.symm, rfl⟩
    · have hk' : L.take k = L := List.take_of_length_le (by rw [hn.out]; omega)
      rw [hk'] at hno
      go_wp2_with fail
      go_ret
      exact ⟨retB hno.out.symm, rfl⟩
end Go.Proofs.YtoacbobchngooaaDoor
namespace Go.Proofs.YtoacbobchngooaaDoor
open Go.RowKit
set_option linter.unusedSimpArgs false

abbrev PlugD := ByteArray × Int × Int × Int × Int × Int × List Int
abbrev FrD := List PlugD × List Bool × List ByteArray
def colS : ByteArray := ⟨#[58]⟩
def digS (pt : Int) : ByteArray := ⟨(Lib.decDigits pt.toNat).toArray⟩
def callS (s : ByteArray) (pt : Int) : ByteArray := s ++ colS ++ digS pt
def codeAt (x : PlugD) (pt : Int) : Int := if pt = 1 then x.2.1 else if pt = 2 then x.2.2.1 else if pt = 3 then x.2.2.2.1 else x.2.2.2.2.1
def plW (x : PlugD) : Int := x.2.2.2.2.2.1
def plS (x : PlugD) : List Int := x.2.2.2.2.2.2
def codeB (c : Int) : Bool := decide (0 ≤ c) && decide (c ≤ 4)
def hundB (c : Int) : Bool := decide (0 ≤ c) && decide (c ≤ 100)
/-- Plugin i of a list is right, beside those ahead of it. -/
def okPl (l : List PlugD) (i : Nat) : Bool :=
  !sNil (l.getD i default).1 && (!hasB sEq ((l.take i).map Prod.fst) (l.getD i default).1 && (codeB (l.getD i default).2.1 && (codeB (l.getD i default).2.2.1 && (codeB (l.getD i default).2.2.2.1 && (codeB (l.getD i default).2.2.2.2.1 && (hundB (plW (l.getD i default)) && (decide ((plS (l.getD i default)).length = (plS (l.getD 0 default)).length) && (plS (l.getD i default)).all hundB)))))))
def newB (l : List PlugD) : Bool := decide (l.length ≤ 64) && (List.range l.length).all (okPl l)
/-- The first n, in the reverse order. -/
def unresP (L : List PlugD) (n : Nat) : List ByteArray := (L.take n).reverse.map fun x => callS x.1 5
/-- A run over the plugins that are left: who skips, the calls, whether one waits; then the same, and the code. -/
def runL (L : List PlugD) (pt : Int) : List PlugD → Nat → List Bool → List ByteArray → Bool → List Bool × List ByteArray × Int
  | [], _, sk, cs, wt => (sk, cs, if wt = true then 3 else 0)
  | x :: r, i, sk, cs, wt =>
    if pt = 2 ∧ sk.getD i default = true then runL L pt r (i + 1) sk cs wt
    else if codeAt x pt = 0 ∨ codeAt x pt = 4 then runL L pt r (i + 1) (if codeAt x pt = 4 ∧ pt = 1 then sk.set i true else sk) (cs ++ [callS x.1 pt]) wt
    else if codeAt x pt = 3 ∧ pt = 4 then runL L pt r (i + 1) sk (cs ++ [callS x.1 pt]) true
    else (sk, cs ++ [callS x.1 pt] ++ (if pt = 3 then unresP L (i + 1) else []), if codeAt x pt = 3 then 2 else codeAt x pt)
def runE (pt : Int) : Int := if pt < 1 ∨ 5 < pt then 2 else 0
/-- What a run leaves, and its code. -/
def runP (f : FrD) (pt : Int) : FrD × Int :=
  if pt < 1 ∨ 5 < pt then (f, 0)
  else if pt = 5 then ((f.1, f.2.1, f.2.2 ++ unresP f.1 f.1.length), 0)
  else ((f.1, (runL f.1 pt f.1 0 f.2.1 f.2.2 false).1, (runL f.1 pt f.1 0 f.2.1 f.2.2 false).2.1), (runL f.1 pt f.1 0 f.2.1 f.2.2 false).2.2)
def resetP (f : FrD) : FrD := (f.1, f.2.1.map fun _ => false, [])
def scoreAt (L : List PlugD) (k : Nat) : Int := L.foldl (fun n x => n + (plS x).getD k default * plW x) 0
def scoresP (L : List PlugD) : List Int := (List.range (plS (L.getD 0 default)).length).map (scoreAt L)
def newP (l : List PlugD) : FrD := (l, l.map fun _ => false, [])
/-- The names that calls of a point have. -/
def nameB (p s : ByteArray) : Bool := decide (2 < s.size) && sEq (s.extract (s.size - 2) s.size) (colS ++ p)
def namesP (C : List ByteArray) (p : ByteArray) : List ByteArray := (C.filter (nameB p)).map fun s => s.extract 0 (s.size - 2)

/-! ### What the laws want of them -/
theorem dig1 : digS 1 = ⟨#[49]⟩ := by decide +kernel
theorem dig2 : digS 2 = ⟨#[50]⟩ := by decide +kernel
theorem dig3 : digS 3 = ⟨#[51]⟩ := by decide +kernel
theorem dig4 : digS 4 = ⟨#[52]⟩ := by decide +kernel
theorem dig5 : digS 5 = ⟨#[53]⟩ := by decide +kernel
theorem five {pt : Int} (h : 1 ≤ pt ∧ pt ≤ 5) : pt = 1 ∨ pt = 2 ∨ pt = 3 ∨ pt = 4 ∨ pt = 5 := by omega
theorem dig_size {pt : Int} (h : 1 ≤ pt ∧ pt ≤ 5) : (digS pt).size = 1 := by
  rcases five h with rfl | rfl | rfl | rfl | rfl
  · rw [dig1]; rfl
  · rw [dig2]; rfl
  · rw [dig3]; rfl
  · rw [dig4]; rfl
  · rw [dig5]; rfl
theorem dig_inj {pt q : Int} (h : 1 ≤ pt ∧ pt ≤ 5) (h' : 1 ≤ q ∧ q ≤ 5) (e : digS pt = digS q) : pt = q := by
  rcases five h with rfl | rfl | rfl | rfl | rfl <;> rcases five h' with rfl | rfl | rfl | rfl | rfl <;> first | rfl | (simp only [dig1, dig2, dig3, dig4, dig5] at e; exact absurd e (by decide))
theorem ba_ext {a b : ByteArray} (h : a.data.toList = b.data.toList) : a = b := by
  cases a with | mk x => cases b with | mk y => exact congrArg ByteArray.mk (Array.toList_inj.1 h)
theorem call_size (s : ByteArray) {pt : Int} (h : 1 ≤ pt ∧ pt ≤ 5) : (callS s pt).size = s.size + 2 := by
  unfold callS
  rw [ByteArray.size_append, ByteArray.size_append, dig_size h]; rfl
theorem call_tail (s : ByteArray) {pt : Int} (h : 1 ≤ pt ∧ pt ≤ 5) : (callS s pt).extract ((callS s pt).size - 2) (callS s pt).size = colS ++ digS pt := by
  rw [call_size s h, Nat.add_sub_cancel]
  apply ba_ext
  have e : (callS s pt).data.toList = s.data.toList ++ (colS ++ digS pt).data.toList := by
    unfold callS; simp [ByteArray.data_append]
  have hs : s.data.toList.length = s.size := rfl
  have h2 : (colS ++ digS pt).data.toList.length = 2 := by
    have : (colS ++ digS pt).size = 2 := by rw [ByteArray.size_append, dig_size h]; rfl
    exact this
  rw [ByteArray.data_extract, Array.toList_extract, List.extract_eq_take_drop, e, ← hs, List.drop_left, List.take_of_length_le (by rw [h2]; omega)]
theorem call_head (s : ByteArray) {pt : Int} (h : 1 ≤ pt ∧ pt ≤ 5) : (callS s pt).extract 0 ((callS s pt).size - 2) = s := by
  rw [call_size s h, Nat.add_sub_cancel]
  apply ba_ext
  have e : (callS s pt).data.toList = s.data.toList ++ (colS ++ digS pt).data.toList := by
    unfold callS; simp [ByteArray.data_append]
  have hs : s.data.toList.length = s.size := rfl
  rw [ByteArray.data_extract, Array.toList_extract, List.extract_eq_take_drop, e, List.drop_zero, Nat.sub_zero, ← hs, List.take_left]
theorem name_call (s : ByteArray) {pt q : Int} (h : 1 ≤ pt ∧ pt ≤ 5) (h' : 1 ≤ q ∧ q ≤ 5) (hs : 0 < s.size) : nameB (digS q) (callS s pt) = decide (pt = q) := by
  unfold nameB
  rw [call_tail s h, call_size s h]
  have h2 : decide (2 < s.size + 2) = true := by simpa using hs
  rw [h2, Bool.true_and]
  by_cases e : pt = q
  · subst e; rw [sEq_self]; simp
  · have : ¬ (colS ++ digS pt = colS ++ digS q) := fun x => e (dig_inj h h' (by
      have := congrArg (fun b : ByteArray => b.data.toList) x
      simp only [ByteArray.data_append, Array.toList_append] at this
      exact ba_ext (List.append_cancel_left this)))
    have e1 : sEq (colS ++ digS pt) (colS ++ digS q) = false := by
      cases hq : sEq (colS ++ digS pt) (colS ++ digS q) with
      | false => rfl
      | true => exact absurd ((sEq_iff _ _).1 hq) this
    rw [e1]; simp [e]
theorem names_calls (N : List ByteArray) {pt : Int} (h : 1 ≤ pt ∧ pt ≤ 5) (hs : ∀ s ∈ N, 0 < s.size) : ∀ q, 1 ≤ q ∧ q ≤ 5 → namesP (N.map fun s => callS s pt) (digS q) = if pt = q then N else [] := fun q hq => by
  induction N with
  | nil => unfold namesP; simp
  | cons s r ih =>
    have h1 := name_call s h hq (hs s List.mem_cons_self)
    have ih := ih (fun x hx => hs x (List.mem_cons_of_mem _ hx))
    unfold namesP at ih ⊢
    rw [List.map_cons, List.filter_cons, h1]
    by_cases e : pt = q
    · subst e
      rw [if_pos (by simp), List.map_cons, call_head s h]
      rw [if_pos rfl] at ih ⊢
      rw [ih]
    · rw [if_neg (by simpa using e)]
      rw [if_neg e] at ih ⊢
      exact ih
theorem names_app (A B : List ByteArray) (p : ByteArray) : namesP (A ++ B) p = namesP A p ++ namesP B p := by
  unfold namesP; rw [List.filter_append, List.map_append]
end Go.Proofs.YtoacbobchngooaaDoor
namespace Go.Proofs.YtoacbobchngooaaDoor
open Go.RowKit
set_option linter.unusedSimpArgs false

def stopC (pt c : Int) : Prop := ¬ (c = 0 ∨ c = 4) ∧ ¬ (c = 3 ∧ pt = 4)
def endC (c : Int) : Int := if c = 3 then 2 else c
theorem run_shape (L : List PlugD) {pt : Int} : ∀ (r : List PlugD) (i : Nat) (sk : List Bool) (cs : List ByteArray) (wt : Bool), (pt = 2 → ∀ k, sk.getD k default = false) →
    ((runL L pt r i sk cs wt).2.1 = cs ++ r.map (fun x => callS x.1 pt) ∧ ((runL L pt r i sk cs wt).2.2 = 0 ∨ ((runL L pt r i sk cs wt).2.2 = 3 ∧ (wt = true ∨ pt = 4)))) ∨
    ∃ j, j < r.length ∧ stopC pt (codeAt (r.getD j default) pt) ∧ (runL L pt r i sk cs wt).2.1 = cs ++ (r.take (j + 1)).map (fun x => callS x.1 pt) ++ (if pt = 3 then unresP L (i + j + 1) else []) ∧ (runL L pt r i sk cs wt).2.2 = endC (codeAt (r.getD j default) pt)
  | [], i, sk, cs, wt, _ => by
    left
    unfold runL
    cases wt <;> simp
  | x :: r, i, sk, cs, wt, hs => by
    unfold runL
    have h2 : ¬ (pt = 2 ∧ sk.getD i default = true) := fun h => by rw [hs h.1 i] at h; exact absurd h.2 (by decide)
    rw [if_neg h2]
    have shift : ∀ (sk' : List Bool) (wt' : Bool), (pt = 2 → ∀ k, sk'.getD k default = false) → (wt' = true → wt = true ∨ pt = 4) → ((runL L pt r (i + 1) sk' (cs ++ [callS x.1 pt]) wt').2.1 = cs ++ (x :: r).map (fun x => callS x.1 pt) ∧ ((runL L pt r (i + 1) sk' (cs ++ [callS x.1 pt]) wt').2.2 = 0 ∨ ((runL L pt r (i + 1) sk' (cs ++ [callS x.1 pt]) wt').2.2 = 3 ∧ (wt = true ∨ pt = 4)))) ∨
        ∃ j, j < (x :: r).length ∧ stopC pt (codeAt ((x :: r).getD j default) pt) ∧ (runL L pt r (i + 1) sk' (cs ++ [callS x.1 pt]) wt').2.1 = cs ++ ((x :: r).take (j + 1)).map (fun x => callS x.1 pt) ++ (if pt = 3 then unresP L (i + j + 1) else []) ∧ (runL L pt r (i + 1) sk' (cs ++ [callS x.1 pt]) wt').2.2 = endC (codeAt ((x :: r).getD j default) pt) := fun sk' wt' h1 hw => by
      rcases run_shape L r (i + 1) sk' (cs ++ [callS x.1 pt]) wt' h1 with ⟨e1, e2⟩ | ⟨j, hj, hst, e1, e2⟩
      · left
        refine ⟨by rw [e1, List.append_assoc]; rfl, ?_⟩
        rcases e2 with e2 | ⟨e2, e3 | e3⟩
        · exact .inl e2
        · exact .inr ⟨e2, hw e3⟩
        · exact .inr ⟨e2, .inr e3⟩
      · right
        refine ⟨j + 1, by simpa using hj, by simpa using hst, ?_, by simpa using e2⟩
        rw [e1, List.append_assoc cs, show i + 1 + j + 1 = i + (j + 1) + 1 by omega]; rfl
    by_cases h0 : codeAt x pt = 0 ∨ codeAt x pt = 4
    · rw [if_pos h0]
      exact shift _ wt (fun h => by
        rw [if_neg (fun q => by have := q.2; omega)]
        exact hs h) (fun h => .inl h)
    · rw [if_neg h0]
      by_cases h3 : codeAt x pt = 3 ∧ pt = 4
      · rw [if_pos h3]
        exact shift sk true hs (fun _ => .inr h3.2)
      · rw [if_neg h3]
        right
        exact ⟨0, by simp, ⟨h0, h3⟩, rfl, rfl⟩
/-- All skip: who is asked ahead. -/
theorem run_before (L : List PlugD) : ∀ (r : List PlugD) (i : Nat) (sk : List Bool) (cs : List ByteArray), (∀ x ∈ r, x.2.1 = 4) → i + r.length = sk.length → (∀ k, k < i → sk.getD k default = true) →
    (∀ k, k < sk.length → (runL L 1 r i sk cs false).1.getD k default = true) ∧ (runL L 1 r i sk cs false).1.length = sk.length ∧ (runL L 1 r i sk cs false).2.1 = cs ++ r.map (fun x => callS x.1 1) ∧ (runL L 1 r i sk cs false).2.2 = 0
  | [], i, sk, cs, _, hl, hk => by
    unfold runL
    exact ⟨fun k h => hk k (by rw [List.length_nil] at hl; omega), rfl, by simp, rfl⟩
  | x :: r, i, sk, cs, hx, hl, hk => by
    have hc : codeAt x 1 = 4 := by have := hx x List.mem_cons_self; simpa [codeAt] using this
    have e : runL L 1 (x :: r) i sk cs false = runL L 1 r (i + 1) (sk.set i true) (cs ++ [callS x.1 1]) false := by
      conv => lhs; unfold runL
      rw [if_neg (fun h => by have := h.1; omega), if_pos (.inr hc), if_pos ⟨hc, rfl⟩]
    rw [List.length_cons] at hl
    have ih := run_before L r (i + 1) (sk.set i true) (cs ++ [callS x.1 1]) (fun y hy => hx y (List.mem_cons_of_mem _ hy)) (by rw [List.length_set]; omega) (fun k h => by
      rw [List.getD_eq_getElem?_getD, List.getElem?_set]
      by_cases hki : i = k
      · rw [if_pos hki, if_pos (by omega)]; rfl
      · rw [if_neg hki, ← List.getD_eq_getElem?_getD]; exact hk k (by omega))
    rw [List.length_set] at ih
    rw [e]
    refine ⟨ih.1, ih.2.1, ?_, ih.2.2.2⟩
    rw [ih.2.2.1, List.append_assoc]; rfl
/-- Who skips is not asked. -/
theorem run_filter (L : List PlugD) : ∀ (r : List PlugD) (i : Nat) (sk : List Bool) (cs : List ByteArray), (∀ k, k < i + r.length → sk.getD k default = true) → runL L 2 r i sk cs false = (sk, cs, 0)
  | [], i, sk, cs, _ => by unfold runL; simp
  | x :: r, i, sk, cs, h => by
    conv => lhs; unfold runL
    rw [if_pos ⟨rfl, h i (by rw [List.length_cons]; omega)⟩]
    exact run_filter L r (i + 1) sk cs (fun k hk => h k (by rw [List.length_cons]; omega))
theorem all_names {l : List PlugD} (h : newB l = true) : ∀ x ∈ l, 0 < x.1.size := fun x hx => by
  unfold newB at h
  rw [Bool.and_eq_true, List.all_eq_true] at h
  obtain ⟨i, hi, rfl⟩ := List.mem_iff_getElem.1 hx
  have h1 := h.2 i (List.mem_range.2 hi)
  unfold okPl at h1
  rw [Bool.and_eq_true] at h1
  have h2 := h1.1
  rw [List.getD_eq_getElem?_getD, List.getElem?_eq_getElem hi] at h2
  have h3 : sNil l[i].1 = false := by simpa using h2
  unfold sNil at h3
  rcases Nat.eq_zero_or_pos l[i].1.size with h0 | h0
  · have : l[i].1.toList = [] := by
      have hd : l[i].1.data.toList = [] := List.length_eq_zero_iff.1 h0
      have : l[i].1 = ⟨#[]⟩ := ba_ext hd
      rw [this]; decide +kernel
    rw [this] at h3; exact absurd h3 (by decide)
  · exact h0
theorem all_codes {l : List PlugD} (h : newB l = true) {i : Nat} (hi : i < l.length) : codeB (l.getD i default).2.1 = true ∧ codeB (l.getD i default).2.2.1 = true ∧ codeB (l.getD i default).2.2.2.1 = true ∧ codeB (l.getD i default).2.2.2.2.1 = true := by
  unfold newB at h
  rw [Bool.and_eq_true, List.all_eq_true] at h
  have h1 := h.2 i (List.mem_range.2 hi)
  unfold okPl at h1
  simp only [Bool.and_eq_true] at h1
  exact ⟨h1.2.2.1, h1.2.2.2.1, h1.2.2.2.2.1, h1.2.2.2.2.2.1⟩
theorem codeB_in {c : Int} (h : codeB c = true) : 0 ≤ c ∧ c ≤ 4 := by
  unfold codeB at h; simpa using h
theorem code_in {l : List PlugD} (h : newB l = true) {i : Nat} (hi : i < l.length) (pt : Int) : 0 ≤ codeAt (l.getD i default) pt ∧ codeAt (l.getD i default) pt ≤ 4 := by
  obtain ⟨h1, h2, h3, h4⟩ := all_codes h hi
  unfold codeAt
  split
  · exact codeB_in h1
  · split
    · exact codeB_in h2
    · split
      · exact codeB_in h3
      · exact codeB_in h4
/-- A run of a fresh frame: the names called, their number, the code. -/
theorem run_fresh {l : List PlugD} (h : newB l = true) {pt : Int} (hp : 1 ≤ pt ∧ pt ≤ 4) :
    ∃ j, j ≤ l.length ∧ (runL l pt l 0 (l.map fun _ => false) [] false).2.1 = (l.take j).map (fun x => callS x.1 pt) ++ (if pt = 3 ∧ (runL l pt l 0 (l.map fun _ => false) [] false).2.2 ≠ 0 then unresP l j else []) ∧
      (((runL l pt l 0 (l.map fun _ => false) [] false).2.2 = 0 ∨ (runL l pt l 0 (l.map fun _ => false) [] false).2.2 = 3) → j = l.length) ∧
      ((runL l pt l 0 (l.map fun _ => false) [] false).2.2 = 3 → pt = 4) ∧
      ((runL l pt l 0 (l.map fun _ => false) [] false).2.2 ≠ 0 ∧ (runL l pt l 0 (l.map fun _ => false) [] false).2.2 ≠ 3 → 0 < j ∧ codeAt (l.getD (j - 1) default) pt ≠ 0 ∧ codeAt (l.getD (j - 1) default) pt ≠ 4 ∧ (runL l pt l 0 (l.map fun _ => false) [] false).2.2 = endC (codeAt (l.getD (j - 1) default) pt)) := by
  have hs : pt = 2 → ∀ k, (l.map fun _ => false).getD k default = false := fun _ k => by
    rw [List.getD_eq_getElem?_getD, List.getElem?_map]
    cases l[k]? <;> rfl
  generalize hR : runL l pt l 0 (l.map fun _ => false) [] false = R
  rcases run_shape l l 0 (l.map fun _ => false) [] false hs with ⟨e1, e2⟩ | ⟨j, hj, hst, e1, e2⟩
  · rw [hR] at e1 e2
    refine ⟨l.length, Nat.le_refl _, ?_, fun _ => rfl, fun h3 => ?_, fun q => ?_⟩
    · rw [e1, List.take_length, if_neg, List.append_nil, List.nil_append]
      rintro ⟨h3, h0⟩
      rcases e2 with e2 | ⟨e2, e3 | e3⟩
      · exact h0 e2
      · cases e3
      · omega
    · rcases e2 with e2 | ⟨_, e3 | e3⟩
      · omega
      · cases e3
      · exact e3
    · rcases e2 with e2 | ⟨e2, _⟩
      · exact absurd e2 q.1
      · exact absurd e2 q.2
  · rw [hR] at e1 e2
    have hc := code_in h hj pt
    obtain ⟨hs1, hs2⟩ := hst
    have he : R.2.2 ≠ 0 := by rw [e2]; unfold endC; split <;> omega
    have he3 : R.2.2 ≠ 3 := by rw [e2]; unfold endC; split <;> omega
    refine ⟨j + 1, hj, ?_, fun q => by rcases q with q | q; exact absurd q he; exact absurd q he3, fun q => absurd q he3, fun _ => ⟨by omega, ?_, ?_, ?_⟩⟩
    · rw [e1, List.nil_append, Nat.zero_add]
      by_cases h3 : pt = 3
      · rw [if_pos h3, if_pos ⟨h3, he⟩]
      · rw [if_neg h3, if_neg (fun q => h3 q.1)]
    · rw [Nat.add_sub_cancel]; omega
    · rw [Nat.add_sub_cancel]; omega
    · rw [Nat.add_sub_cancel]; exact e2
end Go.Proofs.YtoacbobchngooaaDoor
namespace Go.Proofs.YtoacbobchngooaaDoor
open Go.RowKit Go.Maps
set_option linter.unusedSimpArgs false

/-- What a call turns: blocks that are meant, and none is gone. -/
structure Turns (F : Where) (w w' : World) : Prop where
  os : w'.os = w.os
  tape : w'.tape = w.tape
  output : w'.output = w.output
  size : w.heap.size ≤ w'.heap.size
  block : ∀ b, b < w.heap.size → ¬ F b → w'.heap[b]? = w.heap[b]?
theorem Turns.refl (F : Where) (w : World) : Turns F w w := ⟨rfl, rfl, rfl, Nat.le_refl _, fun _ _ _ => rfl⟩
theorem Turns.trans {F : Where} {u v w : World} (h : Turns F u v) (k : Turns F v w) : Turns F u w :=
  ⟨k.os.trans h.os, k.tape.trans h.tape, k.output.trans h.output, Nat.le_trans h.size k.size, fun b hb hf => (k.block b (Nat.lt_of_lt_of_le hb h.size) hf).trans (h.block b hb hf)⟩
theorem Turns.below {F : Where} {w w' : World} (h : Below w.heap.size w w') : Turns F w w' := ⟨h.os, h.tape, h.output, h.size, fun b hb _ => h.block b hb⟩
theorem Turns.alloc (F : Where) (w : World) (o : Obj) : Turns F w (w.alloc o) := Turns.below ((Below.refl _ w).alloc (Nat.le_refl _) o)
theorem Turns.drew (F : Where) (w : World) : Turns F w w.drew := Turns.below (Below.refl _ w).drew
theorem Turns.grown {F : Where} {w w' : World} {row : Option Nat} (hg : w.grownBy w' row) (h : ∀ b, row = some b → F b) : Turns F w w' :=
  ⟨hg.os, hg.tape, hg.output, hg.size, fun b hb hf => hg.block b hb (fun e => hf (h b e.symm))⟩
theorem Turns.set {F : Where} {w : World} {p : Addr} (h : F p.block) (v : Value) : Turns F w (w.setCell p v) := by
  have := (Below.refl 0 w).setCell (p := p) (Nat.zero_le _) v
  exact ⟨this.os, this.tape, this.output, this.size, fun b _ hf => Below.heap_setCell w p v b (fun e => hf (e ▸ h))⟩
theorem Turns.map {F : Where} {w w' : World} {b : Nat} (h : w.mapTurned w' b) (hb : F b) : Turns F w w' := Turns.grown h.grown (fun k e => by cases e; exact hb)
theorem Turns.behind {w0 w w' : World} (h : Below w0.heap.size w0 w) (k : Turns (Fresh w0) w w') : Below w0.heap.size w0 w' :=
  ⟨k.os.trans h.os, k.tape.trans h.tape, k.output.trans h.output, Nat.le_trans h.size k.size, fun b hb => (k.block b (Nat.lt_of_lt_of_le hb h.size) (Fresh.not hb)).trans (h.block b hb)⟩
theorem Turns.weak {F G : Where} {w w' : World} (h : Turns F w w') (k : ∀ b, b < w.heap.size → F b → G b) : Turns G w w' :=
  ⟨h.os, h.tape, h.output, h.size, fun b hb hg => h.block b hb (fun hf => hg (k b hb hf))⟩
theorem Turns.kept {F A : Where} {w w' : World} (h : Turns F w w') (k : ∀ b, A b → b < w.heap.size → ¬ F b) : Kept A w w' := ⟨h.size, fun b ha hb => h.block b hb (k b ha hb)⟩
end Go.Proofs.YtoacbobchngooaaDoor
namespace Go.Proofs.YtoacbobchngooaaDoor
open Go.RowKit
set_option linter.unusedSimpArgs false

/-- The same store in both worlds, below. -/
theorem below_both {w u : World} (h : Below w.heap.size w u) {p : Addr} (hp : p.block < w.heap.size) (x : Value) : Below (w.setCell p x).heap.size (w.setCell p x) (u.setCell p x) := by
  refine ⟨h.os, h.tape, h.output, by simpa using h.size, fun k hk => ?_⟩
  have hk' : k < w.heap.size := by simpa using hk
  by_cases e : k = p.block
  · subst e
    have := h.block p.block hp
    simp only [World.setCell, Array.getElem?_modify, if_true]
    rw [this]
  · rw [Below.heap_setCell _ _ _ _ e, Below.heap_setCell _ _ _ _ e]
    exact h.block k hk'
section
variable {α : Type} [Inhabited α] {R : Rep α} {k : Nat}
theorem Row.both (hR : Firm R k) {A : Where} {w u : World} {e : TypeId} {v : Value} {L : List α} (h : Row R k A w u e v L) {p : Addr} (hp : p.block < w.heap.size) (hA : ¬ A p.block) (x : Value) : Row R k A (w.setCell p x) (u.setCell p x) e v L := by
  obtain ⟨xs, h1, h2⟩ := h
  refine ⟨xs, ⟨below_both h1.1 hp x, ?_⟩, h2.kept hR (Kept.set (fun h => hA h.1) _)⟩
  have := ownsRow_setCell_below h1.2 hp x
  simpa using this
theorem Fresh.setCell (w : World) (p : Addr) (x : Value) : Fresh (w.setCell p x) = Fresh w := by funext b; simp [Fresh]
theorem Row.bothF (hR : Firm R k) {w u : World} {e : TypeId} {v : Value} {L : List α} (h : Row R k (Fresh w) w u e v L) {p : Addr} (hp : p.block < w.heap.size) (x : Value) : Row R k (Fresh (w.setCell p x)) (w.setCell p x) (u.setCell p x) e v L := by
  rw [Fresh.setCell]; exact h.both hR hp (Fresh.not hp) x
/-- What lies in a slice, or in none, ready to be appended. -/
def Src (R : Rep α) (k : Nat) (A : Where) (u : World) (a : Option Addr) (m : Nat) (N : List α) : Prop :=
  N.length = m ∧ ((a = none ∧ N = []) ∨ ∃ ad xs, a = some ad ∧ Chunks R k A u xs N ∧ (∀ j y, xs[j]? = some y → u.cell? (ad.add j) = some y) ∧ ∀ y ∈ xs, y.oneCell' = true)
theorem SlAt.src (hR : Firm R k) {bytes : Nat} {A : Where} {u : World} {a : Option Addr} {m c : Nat} {N : List α} (h : SlAt R k bytes A u a m c N) : Src R k A u a m N := by
  cases a with
  | none => obtain ⟨_, _, h3⟩ := sl_none h; exact ⟨h.1, .inl ⟨rfl, h3⟩⟩
  | some ad => obtain ⟨xs, h1, h2, h3⟩ := h.chunks hR; exact ⟨h.1, .inr ⟨ad, xs, rfl, h1, h2, h3⟩⟩
theorem Src.flat (hF : Flat R) {A A' : Where} {u : World} {a : Option Addr} {m : Nat} {N : List α} (h : Src R k A u a m N) : Src R k A' u a m N := by
  obtain ⟨h1, h2⟩ := h
  refine ⟨h1, ?_⟩
  rcases h2 with h2 | ⟨ad, xs, e, h3, h4, h5⟩
  · exact .inl h2
  · exact .inr ⟨ad, xs, e, h3.flat hF, h4, h5⟩
theorem Src.weak (hR : Firm R k) {A A' : Where} {u : World} {a : Option Addr} {m : Nat} {N : List α} (h : Src R k A u a m N) (hA : ∀ b, b < u.heap.size → A b → A' b) : Src R k A' u a m N := by
  obtain ⟨h1, h2⟩ := h
  refine ⟨h1, ?_⟩
  rcases h2 with h2 | ⟨ad, xs, e, h3, h4, h5⟩
  · exact .inl h2
  · exact .inr ⟨ad, xs, e, h3.weak hR hA, h4, h5⟩
/-- An append of what lies in a slice, or in none, to one's own row, whatever the region. -/
theorem row_appendS_wp (hR : Firm R k) {o : Oper} {a : Act} {K : Act → World → Prop} {Q : Exit → Act → World → Prop} {A : Where} {w0 u : World} (s x : Operand) (t e : TypeId)
    (ho : o.op = .call { callee := .builtin .append, args := #[s, x], argTypes := #[t, t] }) (z : Value) (bytes : Nat) (hinfo : (Tryd.prog.info? e).map (fun i => (i.zero, i.size, i.bytes)) = some (some z, k, bytes)) (ht : Tryd.prog.underlying t = some (.slice e)) (hzs : z.cells.size = k) (hk0 : 0 < k) (hby : 1 ≤ bytes)
    (v : Value) (L : List α) (hs : a.eval s = v) (hrow : Row R k A w0 u e v L)
    (ad : Option Addr) (m c : Nat) (N : List α) (hx : a.eval x = .slice ad m c) (hN : Src R k (fun b => A b ∧ v.ownBlock ≠ some b) u ad m N) (hb : (L.length + N.length) * bytes ≤ 140737488355328)
    (h : ∀ v' u', Row R k A w0 u' e v' (L ++ N) → u.grownBy u' v.ownBlock → K (a.put o.dst v') u') : o.wp Tryd.prog a u K Q := by
  obtain ⟨hm, hN⟩ := hN
  rcases hN with ⟨rfl, rfl⟩ | ⟨ad, xs, rfl, h1, h2, h3⟩
  · obtain rfl : m = 0 := by simpa using hm.symm
    obtain ⟨i0, hi, hz0, hz1, hz2⟩ := info_parts hinfo
    have hr : ∀ ty, (Builtin.append_ #[t, t] ty #[v, .slice none 0 c]).run Tryd.prog u = .ok v u := by
      intro ty
      obtain ⟨xs, hown, _⟩ := hrow
      rcases hown.2.2 with ⟨rfl, _⟩ | ⟨g, cap, cur, rfl, _, hg, hnc, _⟩
      · simp [Builtin.append_, run_underlying ht, sizeOf, typeInfo, hi, Builtin.lenOf, Builtin.firstCells, loadCells, loadCellsFrom]
      · simp [Builtin.append_, run_underlying ht, sizeOf, typeInfo, hi, Builtin.lenOf, Builtin.firstCells, loadCells, loadCellsFrom, hnc, storeCells]
    unfold Oper.wp execOp
    simp only [ho, resolve, invoke, builtin, Sem.run_bind, Sem.run_pure, Result.andThen_ok, List.map_toArray, List.map_cons, List.map_nil, hs, hx, hr]
    exact h v u (by simpa using hrow) ⟨rfl, rfl, rfl, Nat.le_refl _, fun _ _ _ => rfl⟩
  · exact row_append_wp hR s x t e ho z bytes hinfo ht hzs hk0 hby v L hs hrow ad m c xs N hm hx h1 h2 h3 hb h
theorem row_appendS (hR : Firm R k) {ops : Array Oper} {rest : List Oper} {o : Oper} {a : Act} {Q : Exit → Act → World → Prop} {A : Where} {w0 u : World} (hgd : Region.wanted o (yielded ops a.tmps) = true) (s x : Operand) (t e : TypeId)
    (ho : o.op = .call { callee := .builtin .append, args := #[s, x], argTypes := #[t, t] }) (z : Value) (bytes : Nat) (hinfo : (Tryd.prog.info? e).map (fun i => (i.zero, i.size, i.bytes)) = some (some z, k, bytes)) (ht : Tryd.prog.underlying t = some (.slice e)) (hzs : z.cells.size = k) (hk0 : 0 < k) (hby : 1 ≤ bytes)
    (v : Value) (L : List α) (hs : a.eval s = v) (hrow : Row R k A w0 u e v L)
    (ad : Option Addr) (m c : Nat) (N : List α) (hx : a.eval x = .slice ad m c) (hN : Src R k (fun b => A b ∧ v.ownBlock ≠ some b) u ad m N) (hb : (L.length + N.length) * bytes ≤ 140737488355328)
    (h : ∀ v' u', Row R k A w0 u' e v' (L ++ N) → u.grownBy u' v.ownBlock → wpList Tryd.prog ops Q rest (a.put o.dst v') u') : wpList Tryd.prog ops Q (o :: rest) a u :=
  BigFrame.wpList_want hgd (fun _ hK => row_appendS_wp hR s x t e ho z bytes hinfo ht hzs hk0 hby v L hs hrow ad m c N hx hN hb (fun v' u' h2 h3 => hK _ _ (h v' u' h2 h3)))
end
theorem BoxL.range {u : World} {D : Nat} {cs : List Value} (h : BoxL u D cs) : u.rangeAt D 0 cs := fun j v hj => by rw [Nat.zero_add]; exact (h.2 j v hj).1
theorem BoxL.there {u : World} {D : Nat} {cs : List Value} (h : BoxL u D cs) : u.there D 0 cs.length := fun j hj => by
  have := h.2 j cs[j] (List.getElem?_eq_getElem hj)
  rw [Nat.zero_add, this.1, this.2]
  exact ⟨rfl, rfl⟩
/-- What stays true while nothing that has come since W is turned. -/
def Stays (W : World) (G : World → Prop) : Prop := ∀ u u', G u → Kept (Fresh W) u u' → G u'
theorem Stays.none (W : World) : Stays W (fun _ => True) := fun _ _ _ _ => trivial
theorem Stays.add {α : Type} [Inhabited α] {R : Rep α} {k bytes : Nat} {W u : World} {G : World → Prop} (hG : Stays W G) (hg : G u) (hR : Firm R k) {a : Option Addr} {n c : Nat} {L : List α} (hs : SlAt R k bytes (Fresh W) u a n c L) :
    ∃ G', Stays W G' ∧ G' u ∧ (∀ v, G' v → G v) ∧ ∀ v, G' v → SlAt R k bytes (Fresh W) v a n c L :=
  ⟨fun v => G v ∧ SlAt R k bytes (Fresh W) v a n c L, fun _ _ h k => ⟨hG _ _ h.1 k, h.2.kept hR k⟩, ⟨hg, hs⟩, fun _ h => h.1, fun _ h => h.2⟩
end Go.Proofs.YtoacbobchngooaaDoor
