/- Steps of a region that draws its order and whose last operation (number n) waits for all others: what holds up to that one need not hold behind it. Plain facts on the model's walks. No condition. base.Sorted and the document's ints: rising, each once. Condition: the slice lies as is said of it. Slices of taints and of what is borne, told in the words of layer 3. Plain facts on worlds. No condition. label.isDigit, inWord, Word, isValue, isNumber and the document's own Word, Whole return what the plain functions say, and change nothing. Condition: the text is no longer than a Go string can be. label.isValue, isNumber and the document's own Word, Whole return what the plain functions say, and change nothing. Condition: the text is no longer than a Go string can be. The document's own Whole at 15 digits returns what the plain functions say, and changes nothing. No condition. How texts, labels and what is asked lie in memory. Plain facts on worlds. No condition. label.allValues, oneNumber, rightValues, and the document's Has, SameTexts, over slices of texts. Condition: the slice holds what is said of it. -/
import Derived.Test.YtmnldngojgldiaaGreatQ08
import Derived.StillTail
import Derived.Test.YtmnldngojgldiaaGreatQ05
import Derived.Test.YtmnldngojgldiaaGreatQ07
import Derived.Deep.CutBlock
import Derived.Test.YtmnldngojgldiaaGreatQ04
import Derived.Test.YtmnldngojgldiaaGreatQ02
import Derived.Test.YtmnldngojgldiaaGreatQ01
namespace Go.Proofs.YtmnldngojgldiaaGreat
open Go.RowKit
set_option linter.unusedSimpArgs false

section
variable {P : Program} {md : Region.Mode} {ops : Array Oper} {Q : Exit → Act → World → Prop} {S : World → Prop} {oi : Oper} {d n fuel : Nat} {listed : Array Bool} {a : Act} {w : World}
/-- Whatever order is picked; S holds behind every operation before the n-th. -/
def wpAnyN (P : Program) (md : Region.Mode) (ops : Array Oper) (Q : Exit → Act → World → Prop) (S : World → Prop) (n : Nat) : Nat → Array Bool → Act → World → Prop
  | 0, listed, a, w => Region.ready md ops listed = [] ∧ Q .normal a w
  | fuel + 1, listed, a, w =>
    (Region.ready md ops listed = [] → Q .normal a w) ∧
    ∀ i ∈ Region.ready md ops listed, wpOp P ops Q i (fun a' w' => (i < n → S w') ∧ wpAnyN P md ops Q S n fuel (listed.setIfInBounds i true) a' w') a w
theorem wpAny_of_N : ∀ (fuel : Nat) (listed : Array Bool) (a : Act) (w : World), wpAnyN P md ops Q S n fuel listed a w → wpAny P md ops Q fuel listed a w
  | 0, _, _, _, h => h
  | fuel + 1, _, _, _, h => ⟨h.1, fun i hi => wpOp_mono (fun a' w' h' => wpAny_of_N fuel _ a' w' h'.2) (h.2 i hi)⟩
theorem wpAnyN_first {i : Nat} {v : Value} (hi : ops[i]? = some oi) (hsel : ∀ (j : Nat) (o : Oper) cs b, ops[j]? = some o → o.op ≠ .select cs b)
    (hQ : ∀ c a w, Q (.panic c) (a.put oi.dst v) w → Q (.panic c) a w)
    (hs : Region.sinkB md ops n = true) (hc : Region.chainB md ops n = true) (hn : n < ops.size) (hin : i < n) :
    ∀ (fuel : Nat) (listed : Array Bool) (a : Act) (w : World), HeadInv md ops n listed →
      (∀ j oj, ops[j]? = some oj → j ≠ i → listed.getD j true = false → (∀ e ∈ oj.after, Region.binds md e = true → e.on ≠ i) → oi.apart ops oj = true) →
      i ∈ Region.ready md ops listed → YieldsIf P ops S oi v a → S w →
      wpAnyN P md ops Q S n fuel (listed.setIfInBounds i true) (a.put oi.dst v) w → wpAnyN P md ops Q S n (fuel + 1) listed a w := by
  intro fuel
  induction fuel with
  | zero =>
    intro listed a w _ _ hr hy hS H
    refine ⟨fun h => (by rw [h] at hr; cases hr), fun j hj => ?_⟩
    by_cases hji : j = i
    · subst hji; exact hy.wpOp hi hS ⟨fun _ => hS, H⟩
    · have := ready_mono hj hji
      rw [H.1] at this
      cases this
  | succ fuel ih =>
    intro listed a w inv hfree hr hy hS H
    have hun := (mem_ready.1 hr).1
    refine ⟨fun h => (by rw [h] at hr; cases hr), fun j hj => ?_⟩
    have hjn : j < n := by
      rcases Nat.lt_or_ge j n with h | h
      · exact h
      · exact absurd hj (tail_waits hs hc hn inv _ i rfl hin hun j h)
    by_cases hji : j = i
    · subst hji; exact hy.wpOp hi hS ⟨fun _ => hS, H⟩
    · have h1 := H.2 j (ready_mono hj hji)
      obtain ⟨hjun, oj, hoj, hall⟩ := mem_ready.1 hj
      have hnot : ∀ e ∈ oj.after, Region.binds md e = true → e.on ≠ i := fun e he hb heq => by
        have h1 := hall e he hb
        rw [heq, getD_both hun] at h1
        cases h1
      have h2 := wpOp_putIf hoj (hfree j oj hoj hji hjun hnot) (fun cs b => hsel i oi cs b hi) (fun cs b => hsel j oj cs b hoj) hQ hy h1
      have hfree' : ∀ k ok, ops[k]? = some ok → k ≠ i → (listed.setIfInBounds j true).getD k true = false →
          (∀ e ∈ ok.after, Region.binds md e = true → e.on ≠ i) → oi.apart ops ok = true := fun k ok hk hki hun hno => by
        refine hfree k ok hk hki ?_ hno
        by_cases hjk : j = k
        · subst hjk; exact hjun
        · rw [getD_set_ne true hjk] at hun; exact hun
      refine wpOp_mono (fun a' w' h3 => ⟨h3.2.1, ih (listed.setIfInBounds j true) a' w' (inv.set hj hjn) hfree' (ready_mono hr (Ne.symm hji)) h3.1 (h3.2.1 hjn) ?_⟩) h2
      rw [Array.setIfInBounds_comm _ _ hji]
      exact h3.2.2
/-- The walk, with what is known of those that have come up. -/
def wN (P : Program) (md : Region.Mode) (ops : Array Oper) (Q : Exit → Act → World → Prop) (S : World → Prop) (n fuel : Nat) (listed : Array Bool) (a : Act) (w : World) : Prop :=
  Region.sinkB md ops n = true → Region.chainB md ops n = true → n < ops.size → HeadInv md ops n listed → wpAnyN P md ops Q S n fuel listed a w
theorem uq (i : Nat) (v : Value) (hy : YieldsIf P ops S oi v a) (h : wN P md ops (NoPanic Q) S n fuel (listed.setIfInBounds i true) (a.put (some d) v) w)
    (hi : ops[i]? = some oi := by rfl) (hd : oi.dst = some d := by rfl) (hb : (decide (i < n) && (Region.noSelect ops && (Region.free md ops listed i && (Region.ready md ops listed).contains i))) = true := by kernel_rfl) (hS : S w := by assumption) : wN P md ops (NoPanic Q) S n (fuel + 1) listed a w := by
  intro hs hc hn inv
  simp only [Bool.and_eq_true, decide_eq_true_eq] at hb
  obtain ⟨b1, b2, b3, b4⟩ := hb
  have hr : i ∈ Region.ready md ops listed := by simpa using b4
  exact wpAnyN_first hi (Region.noSelect_spec b2) (fun _ _ _ h => h) hs hc hn b1 fuel listed a w inv (Region.free_spec hi b3) hr hy hS (hd ▸ h hs hc hn (inv.set hr b1))
theorem uk (i : Nat) {v : Value} (hy : ∀ u, S u → (execOp a.eval oi).run P u = .ok (.value v) u) (h : wN P md ops (NoPanic Q) S n fuel (listed.setIfInBounds i true) (a.put (some d) v) w)
    (hi : ops[i]? = some oi := by rfl) (hd : oi.dst = some d := by rfl) (hb : (decide (i < n) && (Region.noSelect ops && (Region.free md ops listed i && (Region.ready md ops listed).contains i))) = true := by kernel_rfl) (hw : Region.wanted oi (yielded ops a.tmps) = true := by rfl) (hS : S w := by assumption) : wN P md ops (NoPanic Q) S n (fuel + 1) listed a w :=
  uq i v (.inl ⟨hw, hy⟩) h hi hd hb hS
theorem un (i : Nat) (h : wN P md ops (NoPanic Q) S n fuel (listed.setIfInBounds i true) (a.put (some d) undef) w)
    (hi : ops[i]? = some oi := by rfl) (hd : oi.dst = some d := by rfl) (hb : (decide (i < n) && (Region.noSelect ops && (Region.free md ops listed i && (Region.ready md ops listed).contains i))) = true := by kernel_rfl) (hw : Region.wanted oi (yielded ops a.tmps) = false := by rfl) (hS : S w := by assumption) : wN P md ops (NoPanic Q) S n (fuel + 1) listed a w :=
  uq i undef (.inr ⟨hw, rfl⟩) h hi hd hb hS
/-- Operation i alone may come up; it writes slot d. -/
theorem ur (i : Nat) (h : ∀ K' : Act → World → Prop, Shut (∀ v w, S w → (S w → wN P md ops Q S n fuel (listed.setIfInBounds i true) (a.put (some d) v) w) → K' (a.put oi.dst v) w) → if Region.wanted oi (yielded ops a.tmps) = true then Oper.wp P oi a w K' Q else K' (a.put oi.dst undef) w)
    (hi : ops[i]? = some oi := by rfl) (hd : oi.dst = some d := by rfl) (hr : Region.ready md ops listed = [i] := by kernel_rfl) (hin : i < n := by decide) : wN P md ops Q S n (fuel + 1) listed a w := by
  intro hs hc hn inv
  have hir : i ∈ Region.ready md ops listed := by rw [hr]; simp
  refine ⟨fun h0 => (by rw [hr] at h0; cases h0), fun j hj => ?_⟩
  obtain rfl : j = i := by rw [hr] at hj; simpa using hj
  exact wpOp_step hi (fun K' hK => h K' (fun v w h1 h2 => hK _ w ⟨fun _ => h1, hd ▸ h2 h1 hs hc hn (inv.set hir hin)⟩))
/-- Either of two may come up. -/
theorem ub (i j : Nat) {oj : Oper} {e : Nat} (h : ∀ K' : Act → World → Prop, Shut (∀ v w, S w → (S w → wN P md ops Q S n fuel (listed.setIfInBounds i true) (a.put (some d) v) w) → K' (a.put oi.dst v) w) → if Region.wanted oi (yielded ops a.tmps) = true then Oper.wp P oi a w K' Q else K' (a.put oi.dst undef) w)
    (h' : ∀ K' : Act → World → Prop, Shut (∀ v w, S w → (S w → wN P md ops Q S n fuel (listed.setIfInBounds j true) (a.put (some e) v) w) → K' (a.put oj.dst v) w) → if Region.wanted oj (yielded ops a.tmps) = true then Oper.wp P oj a w K' Q else K' (a.put oj.dst undef) w)
    (hi : ops[i]? = some oi := by rfl) (hd : oi.dst = some d := by rfl) (hj : ops[j]? = some oj := by rfl) (he : oj.dst = some e := by rfl) (hr : Region.ready md ops listed = [i, j] := by kernel_rfl) (hin : i < n ∧ j < n := by decide) : wN P md ops Q S n (fuel + 1) listed a w := by
  intro hs hc hn inv
  have hir : i ∈ Region.ready md ops listed := by rw [hr]; simp
  have hjr : j ∈ Region.ready md ops listed := by rw [hr]; simp
  refine ⟨fun h0 => (by rw [hr] at h0; cases h0), fun k hk => ?_⟩
  have hk' : k = i ∨ k = j := by rw [hr] at hk; simpa using hk
  rcases hk' with rfl | rfl
  · exact wpOp_step hi (fun K' hK => h K' (fun v w h1 h2 => hK _ w ⟨fun _ => h1, hd ▸ h2 h1 hs hc hn (inv.set hir hin.1)⟩))
  · exact wpOp_step hj (fun K' hK => h' K' (fun v w h1 h2 => hK _ w ⟨fun _ => h1, he ▸ h2 h1 hs hc hn (inv.set hjr hin.2)⟩))
/-- The last operation. -/
theorem uz (i : Nat) (h : ∀ K' : Act → World → Prop, Shut (∀ w, Q .normal a w → K' a w) → if Region.wanted oi (yielded ops a.tmps) = true then Oper.wp P oi a w K' Q else K' (a.put oi.dst undef) w)
    (hi : ops[i]? = some oi := by rfl) (hr : Region.ready md ops listed = [i] := by kernel_rfl) (hr' : Region.ready md ops (listed.setIfInBounds i true) = [] := by kernel_rfl) (hin : n ≤ i := by decide) : wN P md ops Q S n (fuel + 1) listed a w := by
  intro _ _ _ _
  refine ⟨fun h0 => (by rw [hr] at h0; cases h0), fun j hj => ?_⟩
  obtain rfl : j = i := by rw [hr] at hj; simpa using hj
  refine wpOp_step hi (fun K' hK => h K' (fun w h1 => hK _ w ⟨fun h2 => absurd h2 (by omega), ?_⟩))
  cases fuel with
  | zero => exact ⟨hr', h1⟩
  | succ f => exact ⟨fun _ => h1, by rw [hr']; simp⟩
/-- Either of two may come up (S holds to the end). -/
theorem tb (i j : Nat) {oj : Oper} {e : Nat} (h : ∀ K' : Act → World → Prop, Shut (∀ v w, S w → (S w → wpAnyH P md ops Q S fuel (listed.setIfInBounds i true) (a.put (some d) v) w) → K' (a.put oi.dst v) w) → if Region.wanted oi (yielded ops a.tmps) = true then Oper.wp P oi a w K' Q else K' (a.put oi.dst undef) w)
    (h' : ∀ K' : Act → World → Prop, Shut (∀ v w, S w → (S w → wpAnyH P md ops Q S fuel (listed.setIfInBounds j true) (a.put (some e) v) w) → K' (a.put oj.dst v) w) → if Region.wanted oj (yielded ops a.tmps) = true then Oper.wp P oj a w K' Q else K' (a.put oj.dst undef) w)
    (hi : ops[i]? = some oi := by rfl) (hd : oi.dst = some d := by rfl) (hj : ops[j]? = some oj := by rfl) (he : oj.dst = some e := by rfl) (hr : Region.ready md ops listed = [i, j] := by kernel_rfl) : wpAnyH P md ops Q S (fuel + 1) listed a w :=
  wpAnyH_ready hr (by simp) (AllReadyH.cons hi (fun K' hK => h K' (fun v w h1 h2 => hK.out _ w h1 (fun h3 => hd ▸ h2 h3))) (AllReadyH.cons hj (fun K' hK => h' K' (fun v w h1 h2 => hK.out _ w h1 (fun h3 => he ▸ h2 h3))) AllReadyH.nil))
/-- The beginning. -/
theorem u0 (n : Nat) (S : World → Prop) {id : Nat} (hS : S w.drew) (h : S w.drew → wN P .any ops (NoPanic Q) S n ops.size (Array.replicate ops.size false) a w.drew)
    (hm : P.follows .mixedOrders = true := by kernel_rfl) (hb : (Region.sinkB .any ops n && (Region.chainB .any ops n && decide (n < ops.size))) = true := by kernel_rfl) : (Code.region id ops true).wp P Q a w := by
  simp only [Bool.and_eq_true, decide_eq_true_eq] at hb
  refine wp_region_noPanic (wp_region_any hm (wpAny_of_N (S := S) (n := n) _ _ _ _ (h hS hb.1 hb.2.1 hb.2.2 ⟨by simp, fun j oj _ hl => ?_, fun t _ ht => by simp [ht]⟩)))
  rw [getD_replicate_false] at hl
  cases hl
end
end Go.Proofs.YtmnldngojgldiaaGreat
namespace Go.Proofs.YtmnldngojgldiaaGreat
open Go.RowKit
set_option linter.unusedSimpArgs false
set_option maxRecDepth 100000

end Go.Proofs.YtmnldngojgldiaaGreat
namespace Go.Proofs.YtmnldngojgldiaaGreat
open Go.RowKit

theorem row_of_sl {α : Type} [Inhabited α] {R : Rep α} {enc : α → List Value} {k bytes : Nat} {ok : α → Prop} (hR : ∀ {A w cs x}, R A w cs x → cs = enc x ∧ ok x) (hb : 1 ≤ bytes) {A : Where} {w : World} {a : Option Addr} {n cap : Nat} {L : List α} (h : SlAt R k bytes A w a n cap L) : RowAt enc k ok w a L := by
  have hl := h.len hb
  obtain ⟨hn, h2, h3, h4, h5⟩ := h
  have each : ∀ i, i < n → ok (L.getD i default) := fun i hi => by
    obtain ⟨B, off, _, _, _, hc⟩ := h5 (by omega)
    obtain ⟨cs, hr, _⟩ := hc i hi
    exact (hR hr).2
  refine ⟨by omega, fun x hx => ?_, fun hne => ?_⟩
  · obtain ⟨i, hi, rfl⟩ := List.mem_iff_getElem.1 hx
    have := each i (by omega)
    rwa [getE _ _ hi] at this
  · have hpos : 0 < n := by
      rcases Nat.eq_zero_or_pos n with h0 | h0
      · exact absurd (List.length_eq_zero_iff.1 (by omega)) hne
      · exact h0
    obtain ⟨B, off, e, hB, _, hc⟩ := h5 hpos
    refine ⟨B, off, e, hB, fun i hi j v hj => ?_⟩
    obtain ⟨cs, hr, hv⟩ := hc i (by omega)
    rw [← (hR hr).1] at hj
    exact hv j v hj
theorem tnts_of {A : Where} {w : World} {a : Option Addr} {n cap : Nat} {L : List Tnt} (h : SlAt RTaint 3 40 A w a n cap L) : TntsAt w a L :=
  row_of_sl (fun hr => by obtain ⟨rfl, h1, h2⟩ := RTaint.out hr; exact ⟨rfl, h1, h2⟩) (by decide) h
theorem bears_of {A : Where} {w : World} {a : Option Addr} {n cap : Nat} {L : List Bear} (h : SlAt RBear 4 48 A w a n cap L) : BearsAt w a L :=
  row_of_sl (fun hr => by obtain ⟨rfl, h1, h2⟩ := RBear.out hr; exact ⟨rfl, h1, h2⟩) (by decide) h
end Go.Proofs.YtmnldngojgldiaaGreat
namespace Go.Proofs.YtmnldngojgldiaaGreat
open Go.RowKit
set_option linter.unusedSimpArgs false

theorem retb {a b : Bool} (h : a = b) : Ending.returned (.bool a) = .returned (.bool b) := by rw [h]
theorem isDig_iff (c : UInt8) : isDig c = true ↔ 48 ≤ c.toNat ∧ c.toNat ≤ 57 := by simp [isDig]
theorem isDig_no {c : UInt8} (h : ¬(48 ≤ c.toNat ∧ c.toNat ≤ 57)) : isDig c = false := by
  cases e : isDig c
  · rfl
  · exact absurd ((isDig_iff c).1 e) h

theorem isDigit_calls (c : UInt8) (w : World) : Calls Tryz.prog 116 #[.int .u8 (c.toNat : Int)] w fun e w' => e = .returned (.bool (isDig c)) ∧ w' = w := by
  by_cases h1 : (48 : Int) ≤ (c.toNat : Int)
  · by_cases h2 : (c.toNat : Int) ≤ 57
    · have HF : Hid (isDig c = true) := (isDig_iff c).2 ⟨by omega, by omega⟩
      go_enter Tryz.func116, Tryz.ntmps116
      go_wp2
      go_ret
      exact ⟨retb HF.out.symm, rfl⟩
    · have HF : Hid (isDig c = false) := isDig_no (by omega)
      go_enter Tryz.func116, Tryz.ntmps116
      go_wp2
      go_ret
      exact ⟨retb HF.out.symm, rfl⟩
  · have HF : Hid (isDig c = false) := isDig_no (by omega)
    go_enter Tryz.func116, Tryz.ntmps116
    go_wp2
    go_ret
    exact ⟨retb HF.out.symm, rfl⟩

theorem wChar_low {c : UInt8} (h : (97 : Int) ≤ c.toNat) (h2 : (c.toNat : Int) ≤ 122) : wChar c = true := by
  have : decide (97 ≤ c.toNat) = true := by simp; omega
  have h3 : decide (c.toNat ≤ 122) = true := by simp; omega
  simp [wChar, this, h3]
theorem wChar_else {c : UInt8} (h : ¬((97 : Int) ≤ c.toNat ∧ (c.toNat : Int) ≤ 122)) : wChar c = (isDig c || decide (c.toNat = 45) || decide (c.toNat = 46) || decide (c.toNat = 47)) := by
  have : (decide (97 ≤ c.toNat) && decide (c.toNat ≤ 122)) = false := by simp; omega
  simp [wChar, this]

theorem wordB_no {s : ByteArray} (h : ¬(1 ≤ s.size ∧ s.size ≤ 32)) : wordB s = false := by
  have : (decide (1 ≤ s.size) && decide (s.size ≤ 32)) = false := by simp; omega
  simp [wordB, this]
theorem wordB_rest {s : ByteArray} (h1 : 1 ≤ s.size) (h2 : s.size ≤ 32) : wordB s = allTo s.size fun i => wChar (byteAt s i) := by
  simp [wordB, h1, h2]

end Go.Proofs.YtmnldngojgldiaaGreat
namespace Go.Proofs.YtmnldngojgldiaaGreat
open Go.RowKit
set_option linter.unusedSimpArgs false

theorem empty_of {s : ByteArray} (h : s.size = 0) : s.toList.isEmpty = true := by
  rw [ByteArray.toList_eq, List.isEmpty_iff_length_eq_zero]
  simpa using h
theorem not_empty_of {s : ByteArray} (h : 1 ≤ s.size) : s.toList.isEmpty = false := by
  cases e : s.toList.isEmpty
  · rfl
  · rw [ByteArray.toList_eq, List.isEmpty_iff_length_eq_zero] at e
    have e' : s.size = 0 := by simpa using e
    omega

theorem numB_no {s : ByteArray} (h : ¬(1 ≤ s.size ∧ s.size ≤ 15)) : numB s = false := by
  have : (decide (1 ≤ s.size) && decide (s.size ≤ 15)) = false := by simp; omega
  simp [numB, this]
theorem numB_zero {s : ByteArray} (h : 1 < s.size) (h0 : (byteAt s 0).toNat = 48) : numB s = false := by
  simp [numB, h, h0]
theorem numB_rest {s : ByteArray} (h1 : 1 ≤ s.size) (h2 : s.size ≤ 15) (h3 : ¬(1 < s.size ∧ (byteAt s 0).toNat = 48)) : numB s = allTo s.size fun i => isDig (byteAt s i) := by
  have : (decide (1 < s.size) && decide ((byteAt s 0).toNat = 48)) = false := by simp; omega
  simp [numB, h1, h2, this]

set_option maxHeartbeats 1000000 in
theorem isNumber_calls (s : ByteArray) (w : World) : Calls Tryz.prog 114 #[.string s] w fun e w' => e = .returned (.bool (numB s)) ∧ w' = w := by
  by_cases h0 : (s.size : Int) = 0
  · have HF : Hid (numB s = false) := numB_no (by omega)
    have h0' : ((s.size : Int) == 0) = true := beq_iff_eq.2 h0
    go_enter Tryz.func114, Tryz.ntmps114
    go_wp2
    go_ret
    exact ⟨retb HF.out.symm, rfl⟩
  have h0' : ((s.size : Int) == 0) = false := beq_eq_false_iff_ne.2 h0
  by_cases h1 : (15 : Int) < (s.size : Int)
  · have HF : Hid (numB s = false) := numB_no (by omega)
    go_enter Tryz.func114, Tryz.ntmps114
    go_wp2
    go_ret
    exact ⟨retb HF.out.symm, rfl⟩
  have hp : 0 < s.size := by omega
  have HB : ∃ b c : Bool, ((s[0].toNat : Int) == 48) = b ∧ decide ((1 : Int) < (s.size : Int)) = c ∧ Hid ((b && c) = true → numB s = false) ∧ Hid ((b && c) = false → numB s = allTo s.size fun i => isDig (byteAt s i)) := by
    refine ⟨_, _, rfl, rfl, ?_, ?_⟩
    · intro h
      simp only [Bool.and_eq_true, beq_iff_eq, decide_eq_true_eq] at h
      exact numB_zero (by omega) (by rw [byteAt_get s 0 hp]; omega)
    · intro h
      refine numB_rest (by omega) (by omega) ?_
      rintro ⟨x, y⟩
      rw [byteAt_get s 0 hp] at y
      rw [beq_iff_eq.2 (show (s[0].toNat : Int) = 48 by omega), decide_eq_true (show (1 : Int) < s.size by omega)] at h
      cases h
  obtain ⟨b, c, hb, hc, HT, HN⟩ := HB
  cases b <;> cases c
  case true.true =>
    have HF : Hid (numB s = false) := HT.out rfl
    clear HT HN
    go_enter Tryz.func114, Tryz.ntmps114
    go_wp2
    go_ret
    exact ⟨retb HF.out.symm, rfl⟩
  all_goals
    have HM : Hid (numB s = allTo s.size fun i => isDig (byteAt s i)) := HN.out rfl
    clear HT HN
    go_enter Tryz.func114, Tryz.ntmps114
    go_wp2
    go_loop [22] (fun i => ∃ k : Nat, k ≤ s.size ∧ i = .int .i64 k ∧ Hid (∀ j, j < k → isDig (byteAt s j) = true)) (fun i => s.size - (intOf i).toNat)
    case atStart => exact ⟨0, Nat.zero_le _, rfl, fun j hj => absurd hj (Nat.not_lt_zero _)⟩
    case round =>
      obtain ⟨k, hk, rfl, hall⟩ := hrel
      by_cases hlt : k < s.size
      · have hin := isDigit_calls s[k]
        cases hc : isDig s[k]
        · rw [hc] at hin
          have HF : Hid (numB s = false) := HM.out.trans (allTo_false hlt (by rw [byteAt_get s k hlt]; exact hc))
          clear hc
          go_wp2_with (go_at_call 116; refine (hin _).mono ?_; rintro e w' ⟨rfl, rfl⟩)
          go_ret
          exact ⟨retb HF.out.symm, rfl⟩
        · rw [hc] at hin
          have HS : Hid (isDig (byteAt s k) = true) := by rw [Hid, byteAt_get s k hlt]; exact hc
          clear hc
          go_wp2_with (go_at_call 116; refine (hin _).mono ?_; rintro e w' ⟨rfl, rfl⟩)
          go_round
          case rel => exact ⟨k + 1, by omega, by go_num, fun j hj => by rcases Nat.lt_succ_iff_lt_or_eq.1 hj with h | rfl; exact hall.out j h; exact HS.out⟩
          case measure => simp [intOf]; omega
      · have HF : Hid (numB s = true) := HM.out.trans (allTo_true (fun j hj => hall.out j (by omega)))
        go_wp2
        go_ret
        exact ⟨retb HF.out.symm, rfl⟩

theorem wChar_no {c : UInt8} (h1 : ¬((97 : Int) ≤ c.toNat ∧ (c.toNat : Int) ≤ 122)) (h2 : ¬((48 : Int) ≤ c.toNat ∧ (c.toNat : Int) ≤ 57)) (h3 : (c.toNat : Int) ≠ 45) (h4 : (c.toNat : Int) ≠ 46) (h5 : (c.toNat : Int) ≠ 47) : wChar c = false := by
  rw [wChar_else h1, isDig_no (by omega)]
  simp; omega
theorem wChar_dig {c : UInt8} (h : (48 : Int) ≤ c.toNat ∧ (c.toNat : Int) ≤ 57) : wChar c = true := by
  have := (isDig_iff c).2 (by omega); simp [wChar, this]
theorem wChar_sign {c : UInt8} (h : (c.toNat : Int) = 45 ∨ (c.toNat : Int) = 46 ∨ (c.toNat : Int) = 47) : wChar c = true := by
  have : c.toNat = 45 ∨ c.toNat = 46 ∨ c.toNat = 47 := by omega
  rcases this with h | h | h <;> simp [wChar, h]

/-- The paths through the document's test of one byte. -/
theorem wChar_paths (c : UInt8) : (¬ (c.toNat : Int) < 97 ∧ ¬ (122 : Int) < c.toNat ∧ Hid (wChar c = true)) ∨
    (((c.toNat : Int) < 97 ∨ (¬ (c.toNat : Int) < 97 ∧ (122 : Int) < c.toNat)) ∧
      ((¬ (c.toNat : Int) < 48 ∧ ¬ (57 : Int) < c.toNat ∧ Hid (wChar c = true)) ∨
       (((c.toNat : Int) < 48 ∨ (¬ (c.toNat : Int) < 48 ∧ (57 : Int) < c.toNat)) ∧
        ((((c.toNat : Int) != 45) = false ∧ Hid (wChar c = true)) ∨ (((c.toNat : Int) != 45) = true ∧
         ((((c.toNat : Int) != 46) = false ∧ Hid (wChar c = true)) ∨ (((c.toNat : Int) != 46) = true ∧
          ((((c.toNat : Int) != 47) = false ∧ Hid (wChar c = true)) ∨ (((c.toNat : Int) != 47) = true ∧ Hid (wChar c = false)))))))))) := by
  by_cases h1 : (c.toNat : Int) < 97 ∨ (122 : Int) < c.toNat
  · refine .inr ⟨by omega, ?_⟩
    by_cases h2 : (c.toNat : Int) < 48 ∨ (57 : Int) < c.toNat
    · refine .inr ⟨by omega, ?_⟩
      by_cases h3 : (c.toNat : Int) = 45
      · exact .inl ⟨by rw [h3]; rfl, wChar_sign (.inl h3)⟩
      refine .inr ⟨bne_iff_ne.2 h3, ?_⟩
      by_cases h4 : (c.toNat : Int) = 46
      · exact .inl ⟨by rw [h4]; rfl, wChar_sign (.inr (.inl h4))⟩
      refine .inr ⟨bne_iff_ne.2 h4, ?_⟩
      by_cases h5 : (c.toNat : Int) = 47
      · exact .inl ⟨by rw [h5]; rfl, wChar_sign (.inr (.inr h5))⟩
      exact .inr ⟨bne_iff_ne.2 h5, wChar_no (by omega) (by omega) h3 h4 h5⟩
    · exact .inl ⟨by omega, by omega, wChar_dig (by omega)⟩
  · exact .inl ⟨by omega, by omega, wChar_low (by omega) (by omega)⟩

theorem wordB_bad {s : ByteArray} {k : Nat} (h : k < s.size) (hc : wChar s[k] = false) : wordB s = false := by
  have : allTo s.size (fun i => wChar (byteAt s i)) = false := allTo_false h (by rw [byteAt_get s k h]; exact hc)
  simp [wordB, this]
theorem wordB_good {s : ByteArray} (h : ∀ j, j < s.size → wChar (byteAt s j) = true) : wordB s = (decide (1 ≤ s.size) && decide (s.size ≤ 32)) := by
  have : allTo s.size (fun i => wChar (byteAt s i)) = true := allTo_true h
  simp [wordB, this]

end Go.Proofs.YtmnldngojgldiaaGreat
namespace Go.Proofs.YtmnldngojgldiaaGreat
open Go.RowKit
set_option linter.unusedSimpArgs false

theorem ret_ib {k : IntKind} {a c : Int} {b d : Bool} (h : a = c ∧ b = d) : Ending.returned (.tuple #[.int k a, .bool b]) = .returned (.tuple #[.int k c, .bool d]) := by rw [h.1, h.2]
def wholeN (s : ByteArray) : Nat := if numB s then numN s else 0
theorem numTo_le (s : ByteArray) : ∀ k, k ≤ s.size → (∀ j, j < k → isDig (byteAt s j) = true) → numTo s k < 10 ^ k
  | 0, _, _ => by simp [numTo]
  | k + 1, hk, h => by
    have ih := numTo_le s k (by omega) (fun j hj => h j (by omega))
    have hd := (isDig_iff _).1 (h k (by omega))
    simp only [numTo, Nat.pow_succ]
    omega
theorem pow15 {k : Nat} (h : k ≤ 15) : 10 ^ k ≤ 1000000000000000 := by
  have := Nat.pow_le_pow_right (n := 10) (by omega) h
  simpa using this

end Go.Proofs.YtmnldngojgldiaaGreat
namespace Go.Proofs.YtmnldngojgldiaaGreat
open Go.RowKit

def big : Nat := 140737488355328
/-- A slice of texts: its address, and what it holds. -/
def StrsAt (w : World) (a : Option Addr) (V : List ByteArray) : Prop :=
  V.length ≤ 140737488355328 ∧ (∀ s ∈ V, s.size ≤ 140737488355328) ∧ (V ≠ [] → ∃ B off, a = some ⟨B, off, none⟩ ∧ B < w.heap.size ∧ ∀ i, i < V.length → w.cell? ⟨B, off + i, none⟩ = some (.string (V.getD i default)))
def LabsAt (w : World) (a : Option Addr) (L : List Lab) : Prop :=
  L.length ≤ 140737488355328 ∧ (∀ x ∈ L, x.1.size ≤ 140737488355328 ∧ x.2.size ≤ 140737488355328) ∧ (L ≠ [] → ∃ B off, a = some ⟨B, off, none⟩ ∧ B < w.heap.size ∧ ∀ i, i < L.length → w.cell? ⟨B, off + i * 2, none⟩ = some (.string (L.getD i default).1) ∧ w.cell? ⟨B, off + i * 2 + 1, none⟩ = some (.string (L.getD i default).2))
def AsksAt (w : World) (a : Option Addr) (R : List Ask) : Prop :=
  R.length ≤ 140737488355328 ∧ (∀ x ∈ R, x.key.size ≤ 140737488355328) ∧ (R ≠ [] → ∃ B off, a = some ⟨B, off, none⟩ ∧ B < w.heap.size ∧ ∀ i, i < R.length → w.cell? ⟨B, off + i * 3, none⟩ = some (.string (R.getD i default).key) ∧ w.cell? ⟨B, off + i * 3 + 1, none⟩ = some (.int .i64 (R.getD i default).op) ∧
    ∃ a' cap', w.cell? ⟨B, off + i * 3 + 2, none⟩ = some (.slice a' (R.getD i default).vals.length cap') ∧ StrsAt w a' (R.getD i default).vals)

/-- What comes behind. -/

theorem StrsAt.on {w w' : World} {a : Option Addr} {V : List ByteArray} (h : StrsAt w a V) (hb : Below w.heap.size w w') : StrsAt w' a V := by
  obtain ⟨h1, h2, h3⟩ := h
  refine ⟨h1, h2, fun hn => ?_⟩
  obtain ⟨B, off, rfl, hB, hc⟩ := h3 hn
  exact ⟨B, off, rfl, Nat.lt_of_lt_of_le hB hb.size, fun i hi => (hb.cell hB).trans (hc i hi)⟩
theorem LabsAt.on {w w' : World} {a : Option Addr} {L : List Lab} (h : LabsAt w a L) (hb : Below w.heap.size w w') : LabsAt w' a L := by
  obtain ⟨h1, h2, h3⟩ := h
  refine ⟨h1, h2, fun hn => ?_⟩
  obtain ⟨B, off, rfl, hB, hc⟩ := h3 hn
  exact ⟨B, off, rfl, Nat.lt_of_lt_of_le hB hb.size, fun i hi => ⟨(hb.cell hB).trans (hc i hi).1, (hb.cell hB).trans (hc i hi).2⟩⟩
theorem AsksAt.on {w w' : World} {a : Option Addr} {R : List Ask} (h : AsksAt w a R) (hb : Below w.heap.size w w') : AsksAt w' a R := by
  obtain ⟨h1, h2, h3⟩ := h
  refine ⟨h1, h2, fun hn => ?_⟩
  obtain ⟨B, off, rfl, hB, hc⟩ := h3 hn
  refine ⟨B, off, rfl, Nat.lt_of_lt_of_le hB hb.size, fun i hi => ?_⟩
  obtain ⟨c0, c1, a', cap', c2, hs⟩ := hc i hi
  exact ⟨(hb.cell hB).trans c0, (hb.cell hB).trans c1, a', cap', (hb.cell hB).trans c2, hs.on hb⟩
theorem StrsAt.nil (w : World) (a : Option Addr) : StrsAt w a [] := ⟨by simp, by simp, fun h => absurd rfl h⟩
theorem LabsAt.nil (w : World) (a : Option Addr) : LabsAt w a [] := ⟨by simp, by simp, fun h => absurd rfl h⟩
theorem AsksAt.nil (w : World) (a : Option Addr) : AsksAt w a [] := ⟨by simp, by simp, fun h => absurd rfl h⟩
theorem StrsAt.get {w : World} {a : Option Addr} {V : List ByteArray} (h : StrsAt w a V) {k : Nat} (hk : k < V.length) : ∃ B off, a = some ⟨B, off, none⟩ ∧ B < w.heap.size ∧ w.cell? ⟨B, off + k, none⟩ = some (.string (V.getD k default)) ∧ (V.getD k default).size ≤ 140737488355328 := by
  obtain ⟨h1, h2, h3⟩ := h
  obtain ⟨B, off, rfl, hB, hc⟩ := h3 (by intro e; rw [e] at hk; simp at hk)
  refine ⟨B, off, rfl, hB, hc k hk, h2 _ ?_⟩
  rw [List.getD_eq_getElem?_getD, List.getElem?_eq_getElem hk]
  exact List.getElem_mem hk
theorem LabsAt.get {w : World} {a : Option Addr} {L : List Lab} (h : LabsAt w a L) {k : Nat} (hk : k < L.length) : ∃ B off, a = some ⟨B, off, none⟩ ∧ B < w.heap.size ∧ w.cell? ⟨B, off + k * 2, none⟩ = some (.string (L.getD k default).1) ∧ w.cell? ⟨B, off + k * 2 + 1, none⟩ = some (.string (L.getD k default).2) ∧ (L.getD k default).1.size ≤ 140737488355328 ∧ (L.getD k default).2.size ≤ 140737488355328 := by
  obtain ⟨h1, h2, h3⟩ := h
  obtain ⟨B, off, rfl, hB, hc⟩ := h3 (by intro e; rw [e] at hk; simp at hk)
  refine ⟨B, off, rfl, hB, (hc k hk).1, (hc k hk).2, h2 _ ?_⟩
  rw [List.getD_eq_getElem?_getD, List.getElem?_eq_getElem hk]
  exact List.getElem_mem hk
theorem AsksAt.get {w : World} {a : Option Addr} {R : List Ask} (h : AsksAt w a R) {k : Nat} (hk : k < R.length) : ∃ B off, a = some ⟨B, off, none⟩ ∧ B < w.heap.size ∧ w.cell? ⟨B, off + k * 3, none⟩ = some (.string (R.getD k default).key) ∧ w.cell? ⟨B, off + k * 3 + 1, none⟩ = some (.int .i64 (R.getD k default).op) ∧
    (∃ a' cap', w.cell? ⟨B, off + k * 3 + 2, none⟩ = some (.slice a' (R.getD k default).vals.length cap') ∧ StrsAt w a' (R.getD k default).vals) ∧ (R.getD k default).key.size ≤ 140737488355328 := by
  obtain ⟨h1, h2, h3⟩ := h
  obtain ⟨B, off, rfl, hB, hc⟩ := h3 (by intro e; rw [e] at hk; simp at hk)
  refine ⟨B, off, rfl, hB, (hc k hk).1, (hc k hk).2.1, (hc k hk).2.2, h2 _ ?_⟩
  rw [List.getD_eq_getElem?_getD, List.getElem?_eq_getElem hk]
  exact List.getElem_mem hk
end Go.Proofs.YtmnldngojgldiaaGreat
namespace Go.Proofs.YtmnldngojgldiaaGreat
open Go.RowKit
set_option linter.unusedSimpArgs false

theorem oneNumber_calls (a : Option Addr) (cap : Nat) (V : List ByteArray) (w : World) (hV : Hid (StrsAt w a V)) : Calls Tryz.prog 115 #[.slice a V.length cap] w fun e w' => e = .returned (.bool (decide (V.length = 1) && numB (V.getD 0 default))) ∧ w' = w := by
  by_cases h1 : (V.length : Int) = 1
  · have h1' : ((V.length : Int) == 1) = true := beq_iff_eq.2 h1
    obtain ⟨B, off, rfl, hB, hc, hs⟩ := hV.out.get (k := 0) (by omega)
    have hin := isNumber_calls (V.getD 0 default)
    have HF : Hid ((decide (V.length = 1) && numB (V.getD 0 default)) = numB (V.getD 0 default)) := by simp [Hid, show V.length = 1 by omega]
    rw [Nat.add_zero] at hc
    generalize V.getD 0 default = s at hin hc hs HF
    generalize numB s = b at hin HF
    go_enter Tryz.func115, Tryz.ntmps115
    go_wp2_with (go_at_call 114; refine (hin _).mono ?_; rintro e w' ⟨rfl, rfl⟩)
    go_ret
    exact ⟨retb HF.out.symm, rfl⟩
  · have h1' : ((V.length : Int) == 1) = false := beq_eq_false_iff_ne.2 h1
    have HF : Hid ((decide (V.length = 1) && numB (V.getD 0 default)) = false) := by simp [Hid]; omega
    go_enter Tryz.func115, Tryz.ntmps115
    go_wp2
    go_ret
    exact ⟨retb HF.out.symm, rfl⟩

theorem hasL_iff (V : List ByteArray) (s : ByteArray) : hasL V s = true ↔ ∃ j, j < V.length ∧ sEq (V.getD j default) s = true := by
  simp only [hasL, List.any_eq_true]
  constructor
  · rintro ⟨v, hv, h⟩
    obtain ⟨j, hj, rfl⟩ := List.mem_iff_getElem.1 hv
    exact ⟨j, hj, by rw [List.getD_eq_getElem?_getD, List.getElem?_eq_getElem hj]; exact h⟩
  · rintro ⟨j, hj, h⟩
    rw [List.getD_eq_getElem?_getD, List.getElem?_eq_getElem hj] at h
    exact ⟨_, List.getElem_mem hj, h⟩
theorem hasL_no {V : List ByteArray} {s : ByteArray} (h : ∀ j, j < V.length → sEq (V.getD j default) s = false) : hasL V s = false := by
  cases e : hasL V s
  · rfl
  · obtain ⟨j, hj, h'⟩ := (hasL_iff V s).1 e
    rw [h j hj] at h'; cases h'

set_option maxHeartbeats 1000000 in
theorem LHas_calls (a : Option Addr) (cap : Nat) (V : List ByteArray) (s : ByteArray) (w : World) (hV : Hid (StrsAt w a V)) : Calls Tryz.prog 14 #[.slice a V.length cap, .string s] w fun e w' => e = .returned (.bool (hasL V s)) ∧ w' = w := by
  have hlen := hV.out.1
  go_enter Tryz.func14, Tryz.ntmps14
  go_wp2
  go_loop [5] (fun i => ∃ k : Nat, k ≤ V.length ∧ i = .int .i64 k ∧ Hid (∀ j, j < k → sEq (V.getD j default) s = false)) (fun i => V.length - (intOf i).toNat)
  case atStart => exact ⟨0, Nat.zero_le _, rfl, fun j hj => absurd hj (Nat.not_lt_zero _)⟩
  case round =>
    obtain ⟨k, hk, rfl, hall⟩ := hrel
    by_cases hlt : k < V.length
    · obtain ⟨B, off, rfl, hB, hc, hs⟩ := hV.out.get hlt
      cases hv : sEq (V.getD k default) s
      · have HG : Hid (∀ j, j < k + 1 → sEq (V.getD j default) s = false) := fun j hj => by
          rcases Nat.lt_succ_iff_lt_or_eq.1 hj with h | rfl
          · exact hall.out j h
          · exact hv
        unfold sEq at hv
        clear hall
        generalize V.getD k default = x at hv hc hs
        go_wp2
        go_round
        case rel => exact ⟨k + 1, by omega, by go_num, HG⟩
        case measure => simp [intOf]; omega
      · have HF : Hid (hasL V s = true) := (hasL_iff V s).2 ⟨k, hlt, hv⟩
        unfold sEq at hv
        clear hall
        generalize V.getD k default = x at hv hc hs
        go_wp2
        go_ret
        exact ⟨retb HF.out.symm, rfl⟩
    · have HF : Hid (hasL V s = false) := hasL_no (fun j hj => hall.out j (by omega))
      go_wp2
      go_ret
      exact ⟨retb HF.out.symm, rfl⟩
end Go.Proofs.YtmnldngojgldiaaGreat
