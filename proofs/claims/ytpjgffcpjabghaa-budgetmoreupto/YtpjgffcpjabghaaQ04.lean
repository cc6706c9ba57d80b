/- base.Reqs gives a slice of its own, its values' texts copied too, that holds the same. Condition: the slice holds what is said of it. base.SameTexts, SameInts, SameLabels, SameReqs, sameTerms tell whether two slices hold the same; they change nothing but the count of draws. Condition: the slices hold what is said of them. base.Has and base.HasInt tell whether it is in a list, and change nothing. Condition: the slice lies as is said of it. Whom a budget is about, what it allows, which victims are broken, in which order they stand, as plain functions; and what follows. No program. No condition. With one budget, and each pod of a name of its own: which victims are broken. No program. No condition. The order of texts. Plain mathematics. No condition. An order of pods' names: sorted, each once. No program. No condition. -/
import Derived.Test.YtpjgffcpjabghaaQ03
import Derived.Laws.StructEq
import Derived.Test.YtpjgffcpjabghaaQ02
import Derived.Lib.OwnBridge
import Derived.Lib.AppendIntMem
namespace Go.Proofs.Ytpjgffcpjabghaa
open Go.RowKit
set_option linter.unusedSimpArgs false

theorem infoReq : (Try.prog.info? 80).map (fun i => (i.zero, i.size, i.bytes)) = some (some (.agg #[.string ⟨#[]⟩, .int .i64 0, .slice none 0 0]), 3, 48) := by kernel_rfl
/-- What has come since a later world is no part of the row. -/
theorem Row.apart {α : Type} [Inhabited α] {R : Rep α} {k : Nat} {A : Where} {w0 u u' : World} {e : TypeId} {v : Value} {L : List α} (h : Row R k A w0 u e v L) (hs : u.heap.size ≤ u'.heap.size) : ∀ b, Fresh u' b → Fresh w0 b ∧ v.ownBlock ≠ some b := by
  obtain ⟨xs, h1, _⟩ := h
  intro b hb
  have hb' : u'.heap.size ≤ b := hb
  have := h1.1.size
  refine ⟨show w0.heap.size ≤ b by omega, fun e => ?_⟩
  have := (h1.2.lt b e).2
  omega
theorem take_at {α : Type} [Inhabited α] {L : List α} {k : Nat} (hk : k < L.length) : L.take k ++ [L.getD k default] = L.take (k + 1) := (take_succ hk).symm
theorem bytes_le {n k bytes : Nat} (h : n * bytes ≤ 140737488351232) (hk : k < n) : (k + 1) * bytes ≤ 140737488355328 := by
  have : (k + 1) * bytes ≤ n * bytes := Nat.mul_le_mul_right _ hk
  omega

set_option maxHeartbeats 2000000 in
theorem Reqs_copy (a : Option Addr) (n cap : Nat) (A : Where) (L : List Ask) (w : World) (hL : Hid (SlAt RReq 3 48 A w a n cap L)) : Calls Try.prog 38 #[.slice a n cap] w fun e w' => ∃ a' cap', e = .returned (.slice a' n cap') ∧ SlAt RReq 3 48 (Fresh w) w' a' n cap' L ∧ Below w.heap.size w w' := by
  have hlen := hL.out.len (by decide)
  have hn : Hid (L.length = n) := hL.out.1
  have hbb : Hid (n * 48 ≤ 140737488351232) := hL.out.2.2.2.1
  have HR0 : Hid (Row RReq 3 (Fresh w) w (w.alloc (.cells #[] 80)) 80 (.slice (some ⟨w.heap.size, 0, none⟩) 0 0) (L.take 0)) := Row.start _ w w _ (Below.refl _ _)
  go_enter Try.func38, Try.ntmps38
  go_wp2_with fail
  go_loopw [3, 4] (fun s i wr => ∃ k : Nat, k ≤ n ∧ i = .int .i64 k ∧ Hid (Row RReq 3 (Fresh w) w wr 80 s (L.take k))) (fun _ i _ => n - (intOf i).toNat)
  case atStart => exact ⟨0, Nat.zero_le _, rfl, HR0⟩
  case round =>
    obtain ⟨k, hk, rfl, hrow⟩ := hrel
    by_cases hlt : k < n
    · have hltz : (k : Int) < (n : Int) := by omega
      have hkl : Hid (k < L.length) := by rw [Hid, hn.out]; exact hlt
      obtain ⟨B, off, rfl, hB, hAB, cs, hr, hv⟩ := (hL.out.on RReq.firm hrow.out.below).get hlt
      obtain ⟨h2, rfl, hs, hT⟩ := hr.out
      have d0 := hv 0 _ rfl
      have d1 := hv 1 _ rfl
      have d2 := hv 2 _ rfl
      rw [Nat.add_zero] at d0
      have HT : Hid (L.take k ++ [L.getD k default] = L.take (k + 1)) := take_at hkl.out
      have hbw : Below wr.heap.size wr (wr.alloc (.cells #[.string (L.getD k default).1, .int .i64 (L.getD k default).2.1, .slice h2.1 h2.2.1 h2.2.2] 80)) := by go_grown
      have hTx := Texts_copy h2.1 h2.2.1 h2.2.2 A (L.getD k default).2.2 (wr.alloc (.cells #[.string (L.getD k default).1, .int .i64 (L.getD k default).2.1, .slice h2.1 h2.2.1 h2.2.2] 80)) (hT.on RStr.firm hbw)
      clear hr hT hv hAB
      generalize L.getD k default = x at d0 d1 d2 hs HT hbw hTx
      go_wp2_with fail
      refine hTx.mono ?_
      rintro e w2 ⟨a2, c2, rfl, hS2, hb2⟩
      clear hTx
      have hD : wr.heap.size < (wr.alloc (.cells #[.string x.1, .int .i64 x.2.1, .slice h2.1 h2.2.1 h2.2.2] 80)).heap.size := by simp
      have q0 : w2.cell? ⟨wr.heap.size, 0, none⟩ = some (.string x.1) := (hb2.cell hD).trans (by simp [go_sem])
      have q1 : w2.cell? ⟨wr.heap.size, 1, none⟩ = some (.int .i64 x.2.1) := (hb2.cell hD).trans (by simp [go_sem])
      have q2 : w2.cell? ⟨wr.heap.size, 2, none⟩ = some (.slice h2.1 h2.2.1 h2.2.2) := (hb2.cell hD).trans (by simp [go_sem])
      have f2 : w2.frozen? ⟨wr.heap.size, 2, none⟩ = false := (hb2.frozen hD).trans (by simp [go_sem])
      have hb3 : Below wr.heap.size wr ((w2.setCell ⟨wr.heap.size, 2, none⟩ (.slice a2 h2.2.1 c2)).alloc (.cells #[.string x.1, .int .i64 x.2.1, .slice a2 h2.2.1 c2] 80)) := (((hbw.trans (hb2.mono (by simp))).setCell (Nat.le_refl _) _).alloc (by have := hb2.size; simp at this ⊢; omega) _)
      have HR3 := hrow.out.on RReq.firm hb3
      have HE : RReq (fun b => Fresh w b ∧ Value.ownBlock u3 ≠ some b) ((w2.setCell ⟨wr.heap.size, 2, none⟩ (.slice a2 h2.2.1 c2)).alloc (.cells #[.string x.1, .int .i64 x.2.1, .slice a2 h2.2.1 c2] 80)) [.string x.1, .int .i64 x.2.1, .slice a2 h2.2.1 c2] x := by
        refine RReq.mk (h2 := (a2, h2.2.1, c2)) hs (((hS2.kept RStr.firm (Kept.set (Fresh.not hD) _)).kept RStr.firm (Kept.alloc _ _ _)).weak RStr.firm (fun b _ hb => hrow.out.apart (u' := wr.alloc (.cells #[.string x.1, .int .i64 x.2.1, .slice h2.1 h2.2.1 h2.2.2] 80)) (by simp) b hb))
      have HC : Hid (Chunks RReq 3 (fun b => Fresh w b ∧ Value.ownBlock u3 ≠ some b) ((w2.setCell ⟨wr.heap.size, 2, none⟩ (.slice a2 h2.2.1 c2)).alloc (.cells #[.string x.1, .int .i64 x.2.1, .slice a2 h2.2.1 c2] 80)) [.string x.1, .int .i64 x.2.1, .slice a2 h2.2.1 c2] [x]) := chunk_one RReq.firm HE
      have HX : Hid (∀ j y, [Value.string x.1, .int .i64 x.2.1, .slice a2 h2.2.1 c2][j]? = some y → ((w2.setCell ⟨wr.heap.size, 2, none⟩ (.slice a2 h2.2.1 c2)).alloc (.cells #[.string x.1, .int .i64 x.2.1, .slice a2 h2.2.1 c2] 80)).cell? ((⟨w2.heap.size, 0, none⟩ : Addr).add j) = some y) := by
        have := one_cells (w2.setCell ⟨wr.heap.size, 2, none⟩ (.slice a2 h2.2.1 c2)) [.string x.1, .int .i64 x.2.1, .slice a2 h2.2.1 c2] 80
        unfold Hid
        simpa using this
      have HR3' : Hid (Row RReq 3 (Fresh w) w ((w2.setCell ⟨wr.heap.size, 2, none⟩ (.slice a2 h2.2.1 c2)).alloc (.cells #[.string x.1, .int .i64 x.2.1, .slice a2 h2.2.1 c2] 80)) 80 u3 (L.take k)) := HR3
      have HLb : Hid (((L.take k).length + [x].length) * 48 ≤ 140737488355328) := by
        have := bytes_le hbb.out hlt
        rw [Hid, List.length_take, hn.out, List.length_singleton, Nat.min_eq_left (by omega)]
        exact this
      clear HR3 HE hbw hb3 hS2 hrow
      go_wp2_with (at_builtin; go_must (refine row_append RReq.firm (A := Fresh w) (w0 := w) rfl _ _ 35 80 rfl _ 48 infoReq Try.underlying35 rfl (by decide) (by decide) u3 (L.take k) rfl HR3'.out ⟨w2.heap.size, 0, none⟩ 1 1 _ [x] rfl rfl HC.out HX.out (by simp [Value.oneCell']) HLb.out ?_); intro v4 w4 hrow4 hg4)
      rw [HT.out] at hrow4
      go_roundw
      case rel => exact ⟨k + 1, by omega, by go_num, hrow4⟩
      case measure => simp [intOf]; omega
    · have hk' : L.take k = L := List.take_of_length_le (by rw [hn.out]; omega)
      obtain ⟨a', cap', e1, h2⟩ := hrow.out.slF (bytes := 48) RReq.firm (by rw [hk', hn.out]; exact hbb.out)
      rw [hk', hn.out] at e1 h2
      have hb9 := hrow.out.below
      have h2' : Hid (SlAt RReq 3 48 (Fresh w) wr a' n cap' L) := h2
      clear h2 hrow
      subst e1
      go_wp2_with fail
      go_ret
      exact ⟨a', cap', rfl, h2'.out, hb9⟩
end Go.Proofs.Ytpjgffcpjabghaa
namespace Go.Proofs.Ytpjgffcpjabghaa
open Go.RowKit
set_option linter.unusedSimpArgs false

theorem retB {a b : Bool} (h : a = b) : Ending.returned (.bool a) = .returned (.bool b) := by rw [h]
theorem same_len {α : Type} [DecidableEq α] {L M : List α} (h : L.length ≠ M.length) : decide (L = M) = false := by
  rw [decide_eq_false_iff_not]; intro e; exact h (by rw [e])
section
variable {α : Type} [Inhabited α] [DecidableEq α] {L M : List α}
theorem same_no {k : Nat} (h : L.getD k default ≠ M.getD k default) : decide (L = M) = false := by
  rw [decide_eq_false_iff_not]; intro e; exact h (by rw [e])
theorem same_yes (hl : L.length = M.length) (h : ∀ j, j < L.length → L.getD j default = M.getD j default) : decide (L = M) = true := by
  rw [decide_eq_true_iff]
  apply List.ext_getElem hl
  intro i h1 h2
  have := h i h1
  rwa [getE _ _ h1, getE _ _ h2] at this
end
theorem bne_of (a b : Int) : (a != b) = !(a == b) := rfl
theorem guardL : Try.prog.eqGuardType Try.prog.depth 82 = false := by kernel_rfl
theorem neqL (x y : Lab) (w : World) : Sem.run Try.prog (binOp .neq 82 (.agg #[.string x.1, .string x.2]) (.agg #[.string y.1, .string y.2])) w = .ok (.bool (!(sEq x.1 y.1 && sEq x.2 y.2))) w := by
  have u9 := Try.underlying9
  have a9 := Try.isAgg9
  have z9 := Try.sizeOf9
  have hS : Try.prog.underlying 82 = some (.struct (Try.prog.fieldsOf 82)) := by kernel_rfl
  have hp : Try.prog.stoodInHeld 82 = false := by kernel_rfl
  rw [run_neq_struct, show (10000 : Nat) = 9999 + 1 from rfl, run_equalIn_agg w 9999 82 _ _ hS hp]
  simp only [Program.fieldsOf, Try.underlying82]
  go_simp
  simp only [sEq]
  by_cases h1 : x.1.toList = y.1.toList <;> by_cases h2 : x.2.toList = y.2.toList <;> simp [h1, h2]
theorem lab_eq (x y : Lab) : (sEq x.1 y.1 && sEq x.2 y.2) = decide (x = y) := by
  rw [Bool.eq_iff_iff, Bool.and_eq_true, sEq_iff, sEq_iff, decide_eq_true_iff, Prod.ext_iff]
theorem ask_eq (x y : Ask) : decide (x = y) = (sEq x.1 y.1 && ((x.2.1 == y.2.1) && decide (x.2.2 = y.2.2))) := by
  rw [Bool.eq_iff_iff, Bool.and_eq_true, Bool.and_eq_true, sEq_iff, decide_eq_true_iff, decide_eq_true_iff, beq_iff_eq, Prod.ext_iff, Prod.ext_iff]
theorem term_eq (x y : TermD) : decide (x = y) = (sEq x.2 y.2 && decide (x.1 = y.1)) := by
  rw [Bool.eq_iff_iff, Bool.and_eq_true, sEq_iff, decide_eq_true_iff, decide_eq_true_iff, Prod.ext_iff, And.comm]

set_option maxHeartbeats 4000000 in
theorem SameTexts_calls (a : Option Addr) (n cap : Nat) (A : Where) (L : List (ByteArray)) (b : Option Addr) (m capb : Nat) (A' : Where) (M : List (ByteArray)) (w : World) (hA : Hid (SlAt RStr 1 16 A w a n cap L)) (hB : Hid (SlAt RStr 1 16 A' w b m capb M)) : Calls Try.prog 12 #[.slice a n cap, .slice b m capb] w fun e w' => e = .returned (.bool (decide (L = M))) ∧ ∃ q, w' = w.drewN q := by
  have hn : Hid (L.length = n) := hA.out.1
  have hm : Hid (M.length = m) := hB.out.1
  have hlen := hA.out.len (by decide)
  by_cases hnm : n = m
  case neg =>
    have HF : Hid (decide (L = M) = false) := same_len (by rw [hn.out, hm.out]; exact hnm)
    have hne : ((n : Int) != (m : Int)) = true := by rw [bne_iff_ne]; omega
    go_enter Try.func12, Try.ntmps12
    go_wp2
    go_ret
    exact ⟨retB HF.out.symm, 0, rfl⟩
  subst hnm
  have hne : ((n : Int) != (n : Int)) = false := by simp
  go_enter Try.func12, Try.ntmps12
  go_wp2
  go_loopw [5] (fun i wr => ∃ k : Nat, k ≤ n ∧ i = .int .i64 k ∧ Hid (∃ q, wr = w.drewN q) ∧ Hid (∀ j, j < k → L.getD j default = M.getD j default)) (fun i _ => n - (intOf i).toNat)
  case atStart => exact ⟨0, Nat.zero_le _, rfl, ⟨0, rfl⟩, fun j hj => absurd hj (Nat.not_lt_zero _)⟩
  case round =>
    obtain ⟨k, hk, rfl, hwr, hall⟩ := hrel
    have hbel : Below w.heap.size w wr := by obtain ⟨q, rfl⟩ := hwr.out; exact below_drewN (Below.refl _ _) _
    have hback : Hid (∀ q, ∃ q', wr.drewN q = w.drewN q') := by obtain ⟨q0, rfl⟩ := hwr.out; exact fun q => ⟨_, World.drewN_drewN _ _ _⟩
    by_cases hlt : k < n
    · have hltz : (k : Int) < (n : Int) := by omega
      obtain ⟨B, off, rfl, hBl, _, cs, hra, hva⟩ := (hA.out.on RStr.firm hbel).get hlt
      obtain ⟨B', off', rfl, hBl', _, cs', hrb, hvb⟩ := (hB.out.on RStr.firm hbel).get hlt
      obtain ⟨rfl, sa⟩ := hra
      obtain ⟨rfl, sb⟩ := hrb
      have d0 := hva 0 _ rfl
      have g0 := hvb 0 _ rfl
      rw [Nat.add_zero] at d0 g0
      rw [Nat.mul_one] at d0 g0
      have HG : Hid (decide (L.getD k default = M.getD k default) = true → ∀ j, j < k + 1 → L.getD j default = M.getD j default) := fun h j hj => by
        rcases Nat.lt_succ_iff_lt_or_eq.1 hj with h' | rfl
        · exact hall.out j h'
        · exact of_decide_eq_true h
      have HF : Hid (decide (L.getD k default = M.getD k default) = false → decide (L = M) = false) := fun h => same_no (of_decide_eq_false h)
      clear hall hva hvb
      have HE : (!((L.getD k default).toList == (M.getD k default).toList)) = !decide (L.getD k default = M.getD k default) := by rw [show ((L.getD k default).toList == (M.getD k default).toList) = decide (L.getD k default = M.getD k default) by rw [Bool.eq_iff_iff, decide_eq_true_iff]; exact sEq_iff _ _]
      generalize L.getD k default = x at d0 sa HE HG HF
      generalize M.getD k default = y at g0 sb HE HG HF
      cases hd : decide (x = y)
      · have HF2 : Hid (decide (L = M) = false) := HF.out hd
        rw [hd] at HE
        clear HG HF hd
        go_wp2_with fail
        go_quiet (fail)
        go_wp2_with fail
        go_ret
        exact ⟨retB HF2.out.symm, hback.out _⟩
      · have HG2 : Hid (∀ j, j < k + 1 → L.getD j default = M.getD j default) := HG.out hd
        rw [hd] at HE
        clear HG HF hd
        go_wp2_with fail
        go_quiet (fail)
        go_wp2_with fail
        go_roundw
        case rel => exact ⟨k + 1, by omega, by go_num, hback.out _, HG2⟩
        case measure => simp [intOf]; omega
    · have HT : Hid (decide (L = M) = true) := same_yes (by rw [hn.out, hm.out]) (fun j hj => hall.out j (by rw [hn.out] at hj; omega))
      clear hall
      go_wp2
      go_ret
      exact ⟨retB HT.out.symm, hwr.out⟩

end Go.Proofs.Ytpjgffcpjabghaa
namespace Go.Proofs.Ytpjgffcpjabghaa
open Go.RowKit
set_option linter.unusedSimpArgs false
set_option maxRecDepth 100000

def hasB {α : Type} (eq : α → α → Bool) (V : List α) (s : α) : Bool := V.any fun v => eq v s
theorem hasB_succ {α : Type} [Inhabited α] (eq : α → α → Bool) (L : List α) (s : α) {k : Nat} (hk : k < L.length) : hasB eq (L.take (k + 1)) s = (hasB eq (L.take k) s || eq (L.getD k default) s) := by
  rw [← take_at hk]; simp [hasB]
theorem hasB_found {α : Type} [Inhabited α] (eq : α → α → Bool) (L : List α) (s : α) {k : Nat} (hk : k < L.length) (h : eq (L.getD k default) s = true) : hasB eq L s = true := by
  simp only [hasB, List.any_eq_true]
  exact ⟨L.getD k default, by rw [getE _ _ hk]; exact List.getElem_mem hk, h⟩
def iEq (a b : Int) : Bool := a == b

set_option maxHeartbeats 1000000 in
theorem Has_calls (a : Option Addr) (n cap : Nat) (A : Where) (L : List ByteArray) (s : ByteArray) (w : World) (hL : Hid (SlAt RStr 1 16 A w a n cap L)) : Calls Try.prog 11 #[.slice a n cap, .string s] w fun e w' => e = .returned (.bool (hasB sEq L s)) ∧ w' = w := by
  have hn : Hid (L.length = n) := hL.out.1
  have hlen := hL.out.len (by decide)
  go_enter Try.func11, Try.ntmps11
  go_wp2_with fail
  go_loop [5] (fun i => ∃ k : Nat, k ≤ n ∧ i = .int .i64 k ∧ Hid (hasB sEq (L.take k) s = false)) (fun i => n - (intOf i).toNat)
  case atStart => exact ⟨0, Nat.zero_le _, rfl, rfl⟩
  case round =>
    obtain ⟨k, hk, rfl, hno⟩ := hrel
    by_cases hlt : k < n
    · have hltz : (k : Int) < (n : Int) := by omega
      have hkl : k < L.length := by rw [hn.out]; exact hlt
      have HN : Hid (hasB sEq (L.take (k + 1)) s = (hasB sEq (L.take k) s || sEq (L.getD k default) s)) := hasB_succ _ _ _ hkl
      have HF : Hid (sEq (L.getD k default) s = true → hasB sEq L s = true) := hasB_found _ _ _ hkl
      obtain ⟨B, off, rfl, hB, _, cs, hr, hv⟩ := hL.out.get hlt
      obtain ⟨rfl, _⟩ := hr
      have d0 := hv 0 _ rfl
      simp only [Nat.mul_one, Nat.add_zero] at d0
      clear hv
      generalize L.getD k default = x at d0 HN HF
      cases he : sEq x s
      · have he' : (x.toList == s.toList) = false := he
        have HN2 : Hid (hasB sEq (L.take (k + 1)) s = false) := by rw [Hid, HN.out, hno.out, he]; rfl
        clear HN HF he
        go_wp2_with fail
        go_round
        case rel => exact ⟨k + 1, by omega, by go_num, HN2⟩
        case measure => simp [intOf]; omega
      · have he' : (x.toList == s.toList) = true := he
        have HT : Hid (hasB sEq L s = true) := HF.out he
        clear HN HF he
        go_wp2_with fail
        go_ret
        exact ⟨retB HT.out.symm, rfl⟩
    · have hk' : L.take k = L := List.take_of_length_le (by rw [hn.out]; omega)
      rw [hk'] at hno
      go_wp2_with fail
      go_ret
      exact ⟨retB hno.out.symm, rfl⟩
end Go.Proofs.Ytpjgffcpjabghaa
namespace Go.Proofs.Ytpjgffcpjabghaa
open Go.RowKit
set_option linter.unusedSimpArgs false

/-- Where a pod is bound. -/
def bNode (p : PodD) : ByteArray := p.2.2.2.2.2.2.2.2.2.2.2.2.1
def aboutB (b : BudgetD) (p : PodD) : Bool := !sNil (bNode p) && matchL p.2.2.1 b.2.1
def aboutP (P : List PodD) (b : BudgetD) : List ByteArray := (P.filter (aboutB b)).map Prod.fst
def allowsP (P : List PodD) (b : BudgetD) : Int := if b.2.2 < 0 then ((aboutP P b).length : Int) else max 0 (((aboutP P b).length : Int) - b.2.2)
/-- The first pod of a name. -/
def podOf (P : List PodD) (s : ByteArray) : Option PodD := P.find? fun p => sEq p.1 s
/-- Is a pod broken, with so much left? -/
def hitB (B : List BudgetD) (left : List Int) (p : PodD) : Bool := (List.range B.length).any fun j => aboutB (B.getD j default) p && (left.getD j default == 0)
def lessB (B : List BudgetD) (left : List Int) (p : PodD) : List Int := (List.range B.length).map fun j => if aboutB (B.getD j default) p = true then max 0 (left.getD j default - 1) else left.getD j default
/-- Does a victim count? -/
def countsB (P : List PodD) (seen : List ByteArray) (v : ByteArray) : Bool := match podOf P v with
  | none => false
  | some p => !sNil (bNode p) && !hasB sEq seen v
def podB (P : List PodD) (v : ByteArray) : PodD := (podOf P v).getD default
def brokenL (P : List PodD) (B : List BudgetD) : List ByteArray → List Int → List ByteArray → List ByteArray
  | [], _, _ => []
  | v :: r, left, seen => if countsB P seen v = true then (if hitB B left (podB P v) = true then [v] else []) ++ brokenL P B r (lessB B left (podB P v)) (seen ++ [v]) else brokenL P B r left seen
def leftP (P : List PodD) (B : List BudgetD) : List Int := B.map (allowsP P)
def brokenP (P : List PodD) (B : List BudgetD) (V : List ByteArray) : List ByteArray := brokenL P B V (leftP P B) []
/-- A victim more, behind the others, changes nothing of those ahead (18.5). -/
theorem broken_more (P : List PodD) (B : List BudgetD) : ∀ (V M : List ByteArray) (left : List Int) (seen : List ByteArray), ∃ T, brokenL P B (V ++ M) left seen = brokenL P B V left seen ++ T
  | [], M, left, seen => ⟨brokenL P B M left seen, rfl⟩
  | v :: r, M, left, seen => by
    rw [List.cons_append]
    unfold brokenL
    by_cases h : countsB P seen v = true
    · obtain ⟨T, hT⟩ := broken_more P B r M (lessB B left (podB P v)) (seen ++ [v])
      rw [if_pos h, if_pos h, hT, ← List.append_assoc]; exact ⟨T, rfl⟩
    · rw [if_neg h, if_neg h]; exact broken_more P B r M left seen
theorem brokenP_more (P : List PodD) (B : List BudgetD) (V M : List ByteArray) : (brokenP P B V).length ≤ (brokenP P B (V ++ M)).length ∧ (brokenP P B (V ++ M)).take (brokenP P B V).length = brokenP P B V := by
  obtain ⟨T, hT⟩ := broken_more P B V M (leftP P B) []
  unfold brokenP; rw [hT]
  exact ⟨by rw [List.length_append]; omega, List.take_left⟩
/-- With no budgets nothing is broken (18.3). -/
theorem broken_none (P : List PodD) : ∀ (V : List ByteArray) (left : List Int) (seen : List ByteArray), brokenL P [] V left seen = []
  | [], _, _ => rfl
  | v :: r, left, seen => by
    unfold brokenL
    split
    · rw [if_neg (by unfold hitB; simp), broken_none P r]; rfl
    · exact broken_none P r left seen
/-- Ahead in an order. -/
def aheadB (q p : PodD) : Bool := decide (p.2.1 < q.2.1) || ((q.2.1 == p.2.1) && sLt q.1 p.1)
/-- Behind the last of the first j that is ahead. -/
def placeB (P : List PodD) (p : PodD) (L : List ByteArray) : Nat → Nat
  | 0 => 0
  | j + 1 => if aheadB (podB P (L.getD j default)) p = true then j + 1 else placeB P p L j
theorem placeB_le (P : List PodD) (p : PodD) (L : List ByteArray) : ∀ j, placeB P p L j ≤ j
  | 0 => Nat.le_refl _
  | j + 1 => by
    unfold placeB
    split
    · exact Nat.le_refl _
    · have := placeB_le P p L j; omega
def insQ (P : List PodD) (v : ByteArray) (L : List ByteArray) : List ByteArray := L.take (placeB P (podB P v) L L.length) ++ v :: L.drop (placeB P (podB P v) L L.length)
def orderStep (P : List PodD) (out : List ByteArray) (v : ByteArray) : List ByteArray := if (podOf P v).isSome = true ∧ hasB sEq out v = false then insQ P v out else out
def orderP (P : List PodD) (N : List ByteArray) : List ByteArray := N.foldl (orderStep P) []
theorem insQ_mem (P : List PodD) (v : ByteArray) (L : List ByteArray) (x : ByteArray) : x ∈ insQ P v L ↔ x = v ∨ x ∈ L := by
  unfold insQ
  rw [List.mem_append, List.mem_cons]
  have h := List.take_append_drop (placeB P (podB P v) L L.length) L
  constructor
  · rintro (h1 | h1 | h1)
    · exact .inr (List.mem_of_mem_take h1)
    · exact .inl h1
    · exact .inr (List.mem_of_mem_drop h1)
  · rintro (h1 | h1)
    · exact .inr (.inl h1)
    · rw [← h, List.mem_append] at h1
      exact h1.elim .inl fun h1 => .inr (.inr h1)
/-- An order has names that were handed in, of pods that are there (18.2). -/
theorem order_mem (P : List PodD) : ∀ (N out : List ByteArray) (x : ByteArray), x ∈ N.foldl (orderStep P) out → x ∈ out ∨ (x ∈ N ∧ (podOf P x).isSome = true)
  | [], out, x, h => .inl h
  | v :: r, out, x, h => by
    rw [List.foldl_cons] at h
    rcases order_mem P r _ x h with h1 | h1
    · unfold orderStep at h1
      split at h1
      · rename_i hc
        rcases (insQ_mem P v out x).1 h1 with rfl | h2
        · exact .inr ⟨List.mem_cons_self, hc.1⟩
        · exact .inl h2
      · exact .inl h1
    · exact .inr ⟨List.mem_cons_of_mem _ h1.1, h1.2⟩
end Go.Proofs.Ytpjgffcpjabghaa
namespace Go.Proofs.Ytpjgffcpjabghaa
open Go.RowKit
set_option linter.unusedSimpArgs false

theorem has_mem (L : List ByteArray) (s : ByteArray) : hasB sEq L s = true ↔ s ∈ L := by
  unfold hasB; rw [List.any_eq_true]
  constructor
  · rintro ⟨x, h1, h2⟩; rw [← (sEq_iff _ _).1 h2]; exact h1
  · exact fun h => ⟨s, h, (sEq_iff _ _).2 rfl⟩
theorem has_no (L : List ByteArray) (s : ByteArray) : hasB sEq L s = false ↔ s ∉ L := by
  rw [← Bool.not_eq_true, has_mem]
theorem podOf_some {P : List PodD} {v : ByteArray} {p : PodD} (h : podOf P v = some p) : p ∈ P ∧ p.1 = v :=
  ⟨List.mem_of_find?_eq_some h, (sEq_iff _ _).1 (List.find?_some (p := fun p : PodD => sEq p.1 v) h)⟩
theorem podOf_none {P : List PodD} {v : ByteArray} (h : podOf P v = none) : ∀ p ∈ P, p.1 ≠ v := fun p hp e => by
  have := List.find?_eq_none.1 h p hp
  exact this ((sEq_iff _ _).2 e)
theorem nodup_fst {P : List PodD} (h : (P.map Prod.fst).Nodup) {p q : PodD} (hp : p ∈ P) (hq : q ∈ P) (e : p.1 = q.1) : p = q := by
  induction P with
  | nil => cases hp
  | cons x r ih =>
    rw [List.map_cons, List.nodup_cons] at h
    rcases List.mem_cons.1 hp with h1 | h1
    · rcases List.mem_cons.1 hq with h2 | h2
      · rw [h1, h2]
      · exact absurd (List.mem_map.2 ⟨q, h2, by rw [← e, h1]⟩) h.1
    · rcases List.mem_cons.1 hq with h2 | h2
      · exact absurd (List.mem_map.2 ⟨p, h1, by rw [e, h2]⟩) h.1
      · exact ih h.2 h1 h2
theorem about_iff {P : List PodD} (h : (P.map Prod.fst).Nodup) (b : BudgetD) (v : ByteArray) : v ∈ aboutP P b ↔ ∃ p, podOf P v = some p ∧ aboutB b p = true := by
  unfold aboutP
  rw [List.mem_map]
  constructor
  · rintro ⟨q, hq, rfl⟩
    rw [List.mem_filter] at hq
    cases e : podOf P q.1 with
    | none => exact absurd rfl (podOf_none e q hq.1)
    | some p =>
      have hp := podOf_some e
      rw [nodup_fst h hp.1 hq.1 hp.2]; exact ⟨q, rfl, hq.2⟩
  · rintro ⟨p, hp, ha⟩
    exact ⟨p, List.mem_filter.2 ⟨(podOf_some hp).1, ha⟩, (podOf_some hp).2⟩
/-- The victims that a list tells, each once. -/
def hitsL (ab : List ByteArray) : List ByteArray → List ByteArray → List ByteArray
  | [], hit => hit
  | v :: r, hit => hitsL ab r (if hasB sEq ab v = true ∧ hasB sEq hit v = false then hit ++ [v] else hit)
theorem drop_hit (hit : List ByteArray) (v : ByteArray) {a : Nat} : (hit ++ [v]).drop (min (hit.length + 1) a) = hit.drop (min hit.length a) ++ (if a ≤ hit.length then [v] else []) := by
  by_cases h : a ≤ hit.length
  · rw [if_pos h, Nat.min_eq_right (by omega), Nat.min_eq_right h, List.drop_append_of_le_length h]
  · rw [if_neg h, Nat.min_eq_left (by omega), Nat.min_eq_left (by omega), List.drop_length, List.append_nil, List.drop_of_length_le (by rw [List.length_append, List.length_singleton]; omega)]
theorem one_left (b : BudgetD) (n : Int) (p : PodD) : hitB [b] [n] p = (aboutB b p && (n == 0)) ∧ lessB [b] [n] p = [if aboutB b p = true then max 0 (n - 1) else n] := by
  constructor
  · unfold hitB; simp [List.range_succ]
  · unfold lessB; simp [List.range_succ]
theorem broken_one {P : List PodD} (h : (P.map Prod.fst).Nodup) (b : BudgetD) (a : Nat) : ∀ (V : List ByteArray) (seen hit : List ByteArray), (∀ x ∈ hit, x ∈ seen) → (∀ x ∈ seen, x ∈ aboutP P b → x ∈ hit) → hit.drop (min hit.length a) ++ brokenL P [b] V [max 0 ((a : Int) - hit.length)] seen = (hitsL (aboutP P b) V hit).drop (min (hitsL (aboutP P b) V hit).length a)
  | [], seen, hit, _, _ => by unfold brokenL hitsL; rw [List.append_nil]
  | v :: r, seen, hit, h1, h2 => by
    unfold brokenL hitsL
    by_cases hc : countsB P seen v = true
    · rw [if_pos hc]
      unfold countsB at hc
      cases e : podOf P v with
      | none => rw [e] at hc; cases hc
      | some p =>
        rw [e] at hc
        simp only [Bool.and_eq_true, Bool.not_eq_true'] at hc
        have hpb : podB P v = p := by unfold podB; rw [e]; rfl
        have hns := (has_no _ _).1 hc.2
        have hnh : v ∉ hit := fun x => hns (h1 v x)
        have hol := one_left b (max 0 ((a : Int) - hit.length)) p
        rw [hpb, hol.1, hol.2]
        by_cases ha : aboutB b p = true
        · have hab : v ∈ aboutP P b := (about_iff h b v).2 ⟨p, e, ha⟩
          have ih := broken_one h b a r (seen ++ [v]) (hit ++ [v]) (fun x hx => by
            rcases List.mem_append.1 hx with hx | hx
            · exact List.mem_append.2 (.inl (h1 x hx))
            · exact List.mem_append.2 (.inr hx)) (fun x hx hxa => by
            rcases List.mem_append.1 hx with hx | hx
            · exact List.mem_append.2 (.inl (h2 x hx hxa))
            · exact List.mem_append.2 (.inr hx))
          have s1 : (if hasB sEq (aboutP P b) v = true ∧ hasB sEq hit v = false then hit ++ [v] else hit) = hit ++ [v] := if_pos ⟨(has_mem _ _).2 hab, (has_no _ _).2 hnh⟩
          rw [s1, ha, Bool.true_and, ← ih, if_pos rfl]
          have hl : (hit ++ [v]).length = hit.length + 1 := by rw [List.length_append, List.length_singleton]
          rw [hl, drop_hit, List.append_assoc]
          have e1 : max 0 (max 0 ((a : Int) - hit.length) - 1) = max 0 ((a : Int) - ((hit.length + 1 : Nat) : Int)) := by omega
          rw [e1]
          by_cases hle : a ≤ hit.length
          · rw [if_pos hle, if_pos (by rw [beq_iff_eq]; omega)]
          · rw [if_neg hle, if_neg (by rw [beq_iff_eq]; omega)]
        · have hna : v ∉ aboutP P b := fun x => by
            obtain ⟨q, e2, hq⟩ := (about_iff h b v).1 x
            rw [e] at e2; injection e2 with e2; rw [← e2] at hq; exact ha hq
          have ih := broken_one h b a r (seen ++ [v]) hit (fun x hx => List.mem_append.2 (.inl (h1 x hx))) (fun x hx hxa => by
            rcases List.mem_append.1 hx with hx | hx
            · exact h2 x hx hxa
            · rw [List.mem_singleton.1 hx] at hxa; exact absurd hxa hna)
          have s1 : (if hasB sEq (aboutP P b) v = true ∧ hasB sEq hit v = false then hit ++ [v] else hit) = hit := if_neg (fun x => hna ((has_mem _ _).1 x.1))
          rw [s1, (by simpa using ha : aboutB b p = false), Bool.false_and, if_neg (by decide : ¬ false = true), if_neg (by decide : ¬ false = true), List.nil_append]
          exact ih
    · rw [if_neg hc]
      have ih := broken_one h b a r seen hit h1 h2
      rw [if_neg ?_]
      · exact ih
      · rintro ⟨x1, x2⟩
        have x1 := (has_mem _ _).1 x1
        have x2 := (has_no _ _).1 x2
        obtain ⟨p, e, ha⟩ := (about_iff h b v).1 x1
        apply hc
        unfold countsB
        rw [e]
        have hb : sNil (bNode p) = false := by
          unfold aboutB at ha; rw [Bool.and_eq_true] at ha; simpa using ha.1
        show (!sNil (bNode p) && !hasB sEq seen v) = true
        rw [hb, (has_no _ _).2 (fun hs => x2 (h2 v hs x1))]; rfl
/-- 18.4. -/
theorem brokenP_one {P : List PodD} (h : (P.map Prod.fst).Nodup) (b : BudgetD) (V : List ByteArray) {a : Nat} (ha : allowsP P b = (a : Int)) : brokenP P [b] V = (hitsL (aboutP P b) V []).drop (min (hitsL (aboutP P b) V []).length a) := by
  have hh := broken_one h b a V [] [] (fun _ hx => hx) (fun _ hx _ => hx)
  unfold brokenP leftP
  rw [← hh, List.map_cons, List.map_nil, ha]
  rw [show max 0 ((a : Int) - (([] : List ByteArray).length : Int)) = (a : Int) by simp]
  rfl
end Go.Proofs.Ytpjgffcpjabghaa
namespace Go.Proofs.Ytpjgffcpjabghaa
set_option linter.unusedSimpArgs false

theorem cb_cons (a b : UInt8) (xs ys : List UInt8) : (a.toNat < b.toNat ∧ Lib.compareBytes (a :: xs) (b :: ys) = -1) ∨ (b.toNat < a.toNat ∧ Lib.compareBytes (a :: xs) (b :: ys) = 1) ∨ (a.toNat = b.toNat ∧ Lib.compareBytes (a :: xs) (b :: ys) = Lib.compareBytes xs ys) := by
  simp only [Lib.compareBytes]
  by_cases h1 : a < b
  · exact .inl ⟨h1, by rw [if_pos h1]⟩
  · by_cases h2 : b < a
    · exact .inr (.inl ⟨h2, by rw [if_neg h1, if_pos h2]⟩)
    · have h1' : ¬ a.toNat < b.toNat := h1
      have h2' : ¬ b.toNat < a.toNat := h2
      exact .inr (.inr ⟨by omega, by rw [if_neg h1, if_neg h2]⟩)
theorem cb_less : ∀ (a b : List UInt8), (Lib.compareBytes a b < 0) ↔ Op.bytesLess a b = true
  | [], [] => by simp [Lib.compareBytes, Op.bytesLess]
  | [], _ :: _ => by simp [Lib.compareBytes, Op.bytesLess]
  | _ :: _, [] => by simp [Lib.compareBytes, Op.bytesLess]
  | a :: xs, b :: ys => by
    have ih := cb_less xs ys
    rcases cb_cons a b xs ys with ⟨h, e⟩ | ⟨h, e⟩ | ⟨h, e⟩ <;> rw [e] <;> simp only [Op.bytesLess, Bool.or_eq_true, Bool.and_eq_true, decide_eq_true_eq, beq_iff_eq]
    · have : a < b := h
      simp [this]
    · have h1 : ¬ a < b := fun x => by have : a.toNat < b.toNat := x; omega
      have h2 : ¬ a = b := fun x => by rw [x] at h; omega
      simp [h1, h2]
    · have h1 : ¬ a < b := fun x => by have : a.toNat < b.toNat := x; omega
      have h2 : a = b := UInt8.toNat_inj.1 h
      simp [h1, h2, ih]
theorem cb_self : ∀ a : List UInt8, Lib.compareBytes a a = 0
  | [] => rfl
  | a :: xs => by rcases cb_cons a a xs xs with ⟨h, _⟩ | ⟨h, _⟩ | ⟨_, e⟩; omega; omega; rw [e]; exact cb_self xs
theorem cb_trans : ∀ (a b c : List UInt8), Lib.compareBytes a b < 0 → Lib.compareBytes b c < 0 → Lib.compareBytes a c < 0
  | [], [], _, h, _ => by simp [Lib.compareBytes] at h
  | _ :: _, [], _, h, _ => by simp [Lib.compareBytes] at h
  | _, _ :: _, [], _, h => by simp [Lib.compareBytes] at h
  | [], _ :: _, _ :: _, _, _ => by simp [Lib.compareBytes]
  | a :: xs, b :: ys, c :: zs, h1, h2 => by
    rcases cb_cons a b xs ys with ⟨p, e⟩ | ⟨p, e⟩ | ⟨p, e⟩ <;> rw [e] at h1 <;> rcases cb_cons b c ys zs with ⟨q, f⟩ | ⟨q, f⟩ | ⟨q, f⟩ <;> rw [f] at h2 <;> rcases cb_cons a c xs zs with ⟨r, g⟩ | ⟨r, g⟩ | ⟨r, g⟩ <;> rw [g] <;> first | omega | exact cb_trans xs ys zs h1 h2
theorem cb_ntrans : ∀ (a b c : List UInt8), ¬ Lib.compareBytes a b < 0 → ¬ Lib.compareBytes b c < 0 → ¬ Lib.compareBytes a c < 0
  | [], [], _, _, h => h
  | [], _ :: _, _, h, _ => by simp [Lib.compareBytes] at h
  | _ :: _, _, [], _, _ => by simp [Lib.compareBytes]
  | _ :: _, [], _ :: _, _, h => by simp [Lib.compareBytes] at h
  | a :: xs, b :: ys, c :: zs, h1, h2 => by
    rcases cb_cons a b xs ys with ⟨p, e⟩ | ⟨p, e⟩ | ⟨p, e⟩ <;> rw [e] at h1 <;> rcases cb_cons b c ys zs with ⟨q, f⟩ | ⟨q, f⟩ | ⟨q, f⟩ <;> rw [f] at h2 <;> rcases cb_cons a c xs zs with ⟨r, g⟩ | ⟨r, g⟩ | ⟨r, g⟩ <;> rw [g] <;> first | omega | exact cb_ntrans xs ys zs h1 h2

/-- How labels are held against each other: by their keys. -/
def cfL (x y : Lab) : Int := Lib.compareBytes x.1.data.toList y.1.data.toList
theorem sLt_iff (a b : ByteArray) : sLt a b = true ↔ Lib.compareBytes a.data.toList b.data.toList < 0 := by
  unfold sLt
  rw [ByteArray.toList_eq, ByteArray.toList_eq]
  exact (cb_less _ _).symm
theorem sLt_false (a b : ByteArray) : sLt a b = false ↔ ¬ Lib.compareBytes a.data.toList b.data.toList < 0 := by
  rw [← sLt_iff]; simp
theorem sLt_trans {a b c : ByteArray} (h1 : sLt a b = true) (h2 : sLt b c = true) : sLt a c = true := by
  rw [sLt_iff] at *; exact cb_trans _ _ _ h1 h2
theorem cb_tri : ∀ a b : List UInt8, (Lib.compareBytes a b < 0 ∧ 0 < Lib.compareBytes b a) ∨ (Lib.compareBytes a b = 0 ∧ a = b) ∨ (0 < Lib.compareBytes a b ∧ Lib.compareBytes b a < 0)
  | [], [] => .inr (.inl ⟨rfl, rfl⟩)
  | [], _ :: _ => .inl ⟨by simp [Lib.compareBytes], by simp [Lib.compareBytes]⟩
  | _ :: _, [] => .inr (.inr ⟨by simp [Lib.compareBytes], by simp [Lib.compareBytes]⟩)
  | a :: xs, b :: ys => by
    have ih := cb_tri xs ys
    rcases cb_cons a b xs ys with ⟨h, e⟩ | ⟨h, e⟩ | ⟨h, e⟩ <;> rcases cb_cons b a ys xs with ⟨h', e'⟩ | ⟨h', e'⟩ | ⟨h', e'⟩ <;> rw [e, e'] <;> first | omega | skip
    have : a = b := UInt8.toNat_inj.1 h
    subst this
    rcases ih with h | ⟨h1, h2⟩ | h
    · exact .inl h
    · exact .inr (.inl ⟨h1, by rw [h2]⟩)
    · exact .inr (.inr h)
/-- '>' of texts. -/
theorem gt_iff (a b : ByteArray) : (!(Op.bytesLess a.toList b.toList || a.toList == b.toList)) = sLt b a := by
  have h1 : Op.bytesLess a.toList b.toList = sLt a b := rfl
  have h2 : (a.toList == b.toList) = sEq a b := rfl
  rw [h1, h2]
  rcases cb_tri a.data.toList b.data.toList with ⟨h, h'⟩ | ⟨h, h'⟩ | ⟨h, h'⟩
  · rw [(sLt_iff a b).2 h, (sLt_false b a).2 (by omega)]; rfl
  · obtain rfl : a = b := by obtain ⟨⟨a⟩⟩ := a; obtain ⟨⟨b⟩⟩ := b; simp_all
    rw [sEq_self, (sLt_false a a).2 (by rw [cb_self]; omega)]; simp
  · rw [(sLt_false a b).2 (by omega), (sLt_iff b a).2 h', sEq_false (fun e => by rw [e] at h'; rw [cb_self] at h'; omega)]; rfl
theorem sLt_asymm {a b : ByteArray} (h : sLt a b = true) : sLt b a = false := by
  rw [sLt_false]; rw [sLt_iff] at h
  rcases cb_tri a.data.toList b.data.toList with ⟨_, h'⟩ | ⟨h', _⟩ | ⟨h', _⟩ <;> omega
theorem sLt_ntrans {a b c : ByteArray} (h1 : sLt a b = false) (h2 : sLt b c = false) : sLt a c = false := by
  rw [sLt_false] at *; exact cb_ntrans _ _ _ h1 h2

end Go.Proofs.Ytpjgffcpjabghaa
namespace Go.Proofs.Ytpjgffcpjabghaa
open Go.RowKit
set_option linter.unusedSimpArgs false

theorem ahead_iff (q p : PodD) : aheadB q p = true ↔ p.2.1 < q.2.1 ∨ (q.2.1 = p.2.1 ∧ sLt q.1 p.1 = true) := by
  unfold aheadB; rw [Bool.or_eq_true, decide_eq_true_iff, Bool.and_eq_true, beq_iff_eq]
theorem ahead_trans {a b c : PodD} (h1 : aheadB a b = true) (h2 : aheadB b c = true) : aheadB a c = true := by
  rw [ahead_iff] at *
  rcases h1 with h1 | ⟨h1, k1⟩ <;> rcases h2 with h2 | ⟨h2, k2⟩
  · exact .inl (by omega)
  · exact .inl (by omega)
  · exact .inl (by omega)
  · exact .inr ⟨by omega, sLt_trans k1 k2⟩
theorem ahead_asymm {a b : PodD} (h : aheadB a b = true) : aheadB b a = false := by
  rw [← Bool.not_eq_true, ahead_iff]; rw [ahead_iff] at h
  rintro (h2 | ⟨h2, k2⟩) <;> rcases h with h | ⟨h, k⟩
  · omega
  · omega
  · omega
  · have := sLt_asymm k; rw [k2] at this; cases this
theorem ba_ext18 {a b : ByteArray} (h : a.data.toList = b.data.toList) : a = b := by
  cases a with | mk x => cases b with | mk y => exact congrArg ByteArray.mk (Array.toList_inj.1 h)
theorem ahead_tot {a b : PodD} (hn : a.1 ≠ b.1) (h : aheadB a b = false) : aheadB b a = true := by
  rw [← Bool.not_eq_true, ahead_iff] at h; rw [ahead_iff]
  by_cases e : a.2.1 = b.2.1
  · refine .inr ⟨e.symm, ?_⟩
    rcases cb_tri a.1.data.toList b.1.data.toList with ⟨h1, _⟩ | ⟨_, h1⟩ | ⟨_, h1⟩
    · exact absurd (.inr ⟨e, (sLt_iff _ _).2 h1⟩) h
    · exact absurd (ba_ext18 h1) hn
    · exact (sLt_iff _ _).2 h1
  · exact .inl (by have : ¬ b.2.1 < a.2.1 := fun x => h (.inl x); omega)
theorem place_spec (P : List PodD) (p : PodD) (L : List ByteArray) : ∀ j, (0 < placeB P p L j → aheadB (podB P (L.getD (placeB P p L j - 1) default)) p = true) ∧ ∀ i, placeB P p L j ≤ i → i < j → aheadB (podB P (L.getD i default)) p = false
  | 0 => ⟨fun h => absurd h (by unfold placeB; omega), fun i _ h => absurd h (Nat.not_lt_zero _)⟩
  | j + 1 => by
    unfold placeB
    by_cases h : aheadB (podB P (L.getD j default)) p = true
    · rw [if_pos h]; exact ⟨fun _ => h, fun i h1 h2 => by omega⟩
    · rw [if_neg h]
      have ih := place_spec P p L j
      refine ⟨ih.1, fun i h1 h2 => ?_⟩
      by_cases e : i = j
      · rw [e]; simpa using h
      · exact ih.2 i h1 (by omega)
/-- What an order is while it is made. -/
def OrdB (P : List PodD) (L : List ByteArray) : Prop := (∀ x ∈ L, (podOf P x).isSome = true) ∧ L.Pairwise fun x y => aheadB (podB P x) (podB P y) = true
theorem pod_name {P : List PodD} {x : ByteArray} (h : (podOf P x).isSome = true) : (podB P x).1 = x := by
  cases e : podOf P x with
  | none => rw [e] at h; cases h
  | some p => unfold podB; rw [e]; exact (podOf_some e).2
theorem ins_ord {P : List PodD} {L : List ByteArray} {v : ByteArray} (h : OrdB P L) (hv : (podOf P v).isSome = true) (hn : v ∉ L) : OrdB P (insQ P v L) := by
  obtain ⟨h1, h2⟩ := h
  have hsp := place_spec P (podB P v) L L.length
  have hle := placeB_le P (podB P v) L L.length
  refine ⟨fun x hx => ?_, ?_⟩
  · rcases (insQ_mem P v L x).1 hx with rfl | hx
    · exact hv
    · exact h1 x hx
  unfold insQ
  generalize placeB P (podB P v) L L.length = k at hsp hle
  have hg : ∀ i (hi : i < L.length), L.getD i default = L[i] := fun i hi => by rw [List.getD_eq_getElem?_getD, List.getElem?_eq_getElem hi]; rfl
  have hpw := List.pairwise_iff_getElem.1 h2
  have hdr : ∀ y ∈ L.drop k, aheadB (podB P v) (podB P y) = true := fun y hy => by
    obtain ⟨i, hi, rfl⟩ := List.mem_iff_getElem.1 hy
    rw [List.length_drop] at hi
    rw [List.getElem_drop]
    have h3 := hsp.2 (k + i) (by omega) (by omega)
    rw [hg (k + i) (by omega)] at h3
    have hm : L[k + i] ∈ L := List.getElem_mem _
    refine ahead_tot (fun e => hn ?_) h3
    rw [pod_name (h1 _ hm), pod_name hv] at e
    rw [← e]; exact hm
  have htk : ∀ x ∈ L.take k, aheadB (podB P x) (podB P v) = true := fun x hx => by
    obtain ⟨i, hi, rfl⟩ := List.mem_iff_getElem.1 hx
    rw [List.length_take] at hi
    rw [List.getElem_take]
    have h3 := hsp.1 (by omega)
    rw [hg (k - 1) (by omega)] at h3
    by_cases e : i = k - 1
    · subst e; exact h3
    · exact ahead_trans (hpw i (k - 1) (by omega) (by omega) (by omega)) h3
  have hall : (L.take k ++ L.drop k).Pairwise fun x y => aheadB (podB P x) (podB P y) = true := by rw [List.take_append_drop]; exact h2
  rw [List.pairwise_append] at hall ⊢
  refine ⟨hall.1, List.pairwise_cons.2 ⟨hdr, hall.2.1⟩, fun x hx y hy => ?_⟩
  rcases List.mem_cons.1 hy with rfl | hy
  · exact htk x hx
  · exact hall.2.2 x hx y hy
theorem order_ord (P : List PodD) : ∀ (N out : List ByteArray), OrdB P out → OrdB P (N.foldl (orderStep P) out)
  | [], _, h => h
  | v :: r, out, h => by
    rw [List.foldl_cons]
    refine order_ord P r _ ?_
    unfold orderStep
    split
    · rename_i hc
      exact ins_ord h hc.1 ((has_no _ _).1 hc.2)
    · exact h
/-- All names of pods that are there stand in it. -/
theorem order_all (P : List PodD) : ∀ (N out : List ByteArray) (x : ByteArray), x ∈ out ∨ (x ∈ N ∧ (podOf P x).isSome = true) → x ∈ N.foldl (orderStep P) out
  | [], out, x, h => h.elim id (fun h => by cases h.1)
  | v :: r, out, x, h => by
    rw [List.foldl_cons]
    refine order_all P r _ x ?_
    unfold orderStep
    rcases h with h | ⟨h, hx⟩
    · left
      split
      · exact (insQ_mem P v out x).2 (.inr h)
      · exact h
    · rcases List.mem_cons.1 h with rfl | h
      · left
        split
        · exact (insQ_mem P x out x).2 (.inl rfl)
        · rename_i hc
          rw [← has_mem]
          cases e : hasB sEq out x with
          | true => rfl
          | false => exact absurd ⟨hx, e⟩ hc
      · exact .inr ⟨h, hx⟩
end Go.Proofs.Ytpjgffcpjabghaa
