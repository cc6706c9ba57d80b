/- How texts, labels and what is asked lie in memory. Plain facts on worlds. No condition. label.allValues, oneNumber, rightValues, and the document's Has, SameTexts, over slices of texts. Condition: the slice holds what is said of it. label.Get and the document's own Get return the first label of a key; label.Same and the document's own. They change nothing that was there. Condition: the slice holds what is said of it. Digits without a 0 ahead: the longer ones tell the greater number, and among those of one length the order of their bytes is the numbers'. Plain mathematics. No condition. What an Op asks: the methods in, notIn, exists, lacks, never, inNumbers of label.ask, and compareNumbers, return what the plain functions say; they change nothing that was there. Condition: the values' slice holds what is said of it. -/
import Derived.Test.YtpjgffcpjabghaaQ05
import Derived.Test.YtpjgffcpjabghaaQ01
import Derived.Lib.Small
import Derived.Test.YtpjgffcpjabghaaShelf
namespace Go.Proofs.Ytpjgffcpjabghaa
open Go.RowKit

def big : Nat := 140737488355328
/-- A slice of texts: its address, and what it holds. -/
def StrsAt (w : World) (a : Option Addr) (V : List ByteArray) : Prop :=
  V.length ≤ 140737488355328 ∧ (∀ s ∈ V, s.size ≤ 140737488355328) ∧ (V ≠ [] → ∃ B off, a = some ⟨B, off, none⟩ ∧ B < w.heap.size ∧ ∀ i, i < V.length → w.cell? ⟨B, off + i, none⟩ = some (.string (V.getD i default)))
def LabsAt (w : World) (a : Option Addr) (L : List Lab) : Prop :=
  L.length ≤ 140737488355328 ∧ (∀ x ∈ L, x.1.size ≤ 140737488355328 ∧ x.2.size ≤ 140737488355328) ∧ (L ≠ [] → ∃ B off, a = some ⟨B, off, none⟩ ∧ B < w.heap.size ∧ ∀ i, i < L.length → w.cell? ⟨B, off + i * 2, none⟩ = some (.string (L.getD i default).1) ∧ w.cell? ⟨B, off + i * 2 + 1, none⟩ = some (.string (L.getD i default).2))
def AsksAt (w : World) (a : Option Addr) (R : List Ask) : Prop :=
  R.length ≤ 140737488355328 ∧ (∀ x ∈ R, x.key.size ≤ 140737488355328) ∧ (R ≠ [] → ∃ B off, a = some ⟨B, off, none⟩ ∧ B < w.heap.size ∧ ∀ i, i < R.length → w.cell? ⟨B, off + i * 3, none⟩ = some (.string (R.getD i default).key) ∧ w.cell? ⟨B, off + i * 3 + 1, none⟩ = some (.int .i64 (R.getD i default).op) ∧
    ∃ a' cap', w.cell? ⟨B, off + i * 3 + 2, none⟩ = some (.slice a' (R.getD i default).vals.length cap') ∧ StrsAt w a' (R.getD i default).vals)

/-- What comes behind. -/

theorem StrsAt.on {w w' : World} {a : Option Addr} {V : List ByteArray} (h : StrsAt w a V) (hb : Below w.heap.size w w') : StrsAt w' a V := by
  obtain ⟨h1, h2, h3⟩ := h
  refine ⟨h1, h2, fun hn => ?_⟩
  obtain ⟨B, off, rfl, hB, hc⟩ := h3 hn
  exact ⟨B, off, rfl, Nat.lt_of_lt_of_le hB hb.size, fun i hi => (hb.cell hB).trans (hc i hi)⟩
theorem LabsAt.on {w w' : World} {a : Option Addr} {L : List Lab} (h : LabsAt w a L) (hb : Below w.heap.size w w') : LabsAt w' a L := by
  obtain ⟨h1, h2, h3⟩ := h
  refine ⟨h1, h2, fun hn => ?_⟩
  obtain ⟨B, off, rfl, hB, hc⟩ := h3 hn
  exact ⟨B, off, rfl, Nat.lt_of_lt_of_le hB hb.size, fun i hi => ⟨(hb.cell hB).trans (hc i hi).1, (hb.cell hB).trans (hc i hi).2⟩⟩
theorem AsksAt.on {w w' : World} {a : Option Addr} {R : List Ask} (h : AsksAt w a R) (hb : Below w.heap.size w w') : AsksAt w' a R := by
  obtain ⟨h1, h2, h3⟩ := h
  refine ⟨h1, h2, fun hn => ?_⟩
  obtain ⟨B, off, rfl, hB, hc⟩ := h3 hn
  refine ⟨B, off, rfl, Nat.lt_of_lt_of_le hB hb.size, fun i hi => ?_⟩
  obtain ⟨c0, c1, a', cap', c2, hs⟩ := hc i hi
  exact ⟨(hb.cell hB).trans c0, (hb.cell hB).trans c1, a', cap', (hb.cell hB).trans c2, hs.on hb⟩
theorem StrsAt.nil (w : World) (a : Option Addr) : StrsAt w a [] := ⟨by simp, by simp, fun h => absurd rfl h⟩
theorem LabsAt.nil (w : World) (a : Option Addr) : LabsAt w a [] := ⟨by simp, by simp, fun h => absurd rfl h⟩
theorem AsksAt.nil (w : World) (a : Option Addr) : AsksAt w a [] := ⟨by simp, by simp, fun h => absurd rfl h⟩
theorem StrsAt.get {w : World} {a : Option Addr} {V : List ByteArray} (h : StrsAt w a V) {k : Nat} (hk : k < V.length) : ∃ B off, a = some ⟨B, off, none⟩ ∧ B < w.heap.size ∧ w.cell? ⟨B, off + k, none⟩ = some (.string (V.getD k default)) ∧ (V.getD k default).size ≤ 140737488355328 := by
  obtain ⟨h1, h2, h3⟩ := h
  obtain ⟨B, off, rfl, hB, hc⟩ := h3 (by intro e; rw [e] at hk; simp at hk)
  refine ⟨B, off, rfl, hB, hc k hk, h2 _ ?_⟩
  rw [List.getD_eq_getElem?_getD, List.getElem?_eq_getElem hk]
  exact List.getElem_mem hk
theorem LabsAt.get {w : World} {a : Option Addr} {L : List Lab} (h : LabsAt w a L) {k : Nat} (hk : k < L.length) : ∃ B off, a = some ⟨B, off, none⟩ ∧ B < w.heap.size ∧ w.cell? ⟨B, off + k * 2, none⟩ = some (.string (L.getD k default).1) ∧ w.cell? ⟨B, off + k * 2 + 1, none⟩ = some (.string (L.getD k default).2) ∧ (L.getD k default).1.size ≤ 140737488355328 ∧ (L.getD k default).2.size ≤ 140737488355328 := by
  obtain ⟨h1, h2, h3⟩ := h
  obtain ⟨B, off, rfl, hB, hc⟩ := h3 (by intro e; rw [e] at hk; simp at hk)
  refine ⟨B, off, rfl, hB, (hc k hk).1, (hc k hk).2, h2 _ ?_⟩
  rw [List.getD_eq_getElem?_getD, List.getElem?_eq_getElem hk]
  exact List.getElem_mem hk
theorem AsksAt.get {w : World} {a : Option Addr} {R : List Ask} (h : AsksAt w a R) {k : Nat} (hk : k < R.length) : ∃ B off, a = some ⟨B, off, none⟩ ∧ B < w.heap.size ∧ w.cell? ⟨B, off + k * 3, none⟩ = some (.string (R.getD k default).key) ∧ w.cell? ⟨B, off + k * 3 + 1, none⟩ = some (.int .i64 (R.getD k default).op) ∧
    (∃ a' cap', w.cell? ⟨B, off + k * 3 + 2, none⟩ = some (.slice a' (R.getD k default).vals.length cap') ∧ StrsAt w a' (R.getD k default).vals) ∧ (R.getD k default).key.size ≤ 140737488355328 := by
  obtain ⟨h1, h2, h3⟩ := h
  obtain ⟨B, off, rfl, hB, hc⟩ := h3 (by intro e; rw [e] at hk; simp at hk)
  refine ⟨B, off, rfl, hB, (hc k hk).1, (hc k hk).2.1, (hc k hk).2.2, h2 _ ?_⟩
  rw [List.getD_eq_getElem?_getD, List.getElem?_eq_getElem hk]
  exact List.getElem_mem hk
end Go.Proofs.Ytpjgffcpjabghaa
namespace Go.Proofs.Ytpjgffcpjabghaa
open Go.RowKit
set_option linter.unusedSimpArgs false

theorem oneNumber_calls (a : Option Addr) (cap : Nat) (V : List ByteArray) (w : World) (hV : Hid (StrsAt w a V)) : Calls Try.prog 77 #[.slice a V.length cap] w fun e w' => e = .returned (.bool (decide (V.length = 1) && numB (V.getD 0 default))) ∧ w' = w := by
  by_cases h1 : (V.length : Int) = 1
  · have h1' : ((V.length : Int) == 1) = true := beq_iff_eq.2 h1
    obtain ⟨B, off, rfl, hB, hc, hs⟩ := hV.out.get (k := 0) (by omega)
    have hin := isNumber_calls (V.getD 0 default)
    have HF : Hid ((decide (V.length = 1) && numB (V.getD 0 default)) = numB (V.getD 0 default)) := by simp [Hid, show V.length = 1 by omega]
    rw [Nat.add_zero] at hc
    generalize V.getD 0 default = s at hin hc hs HF
    generalize numB s = b at hin HF
    go_enter Try.func77, Try.ntmps77
    go_wp2_with (go_at_call 76; refine (hin _).mono ?_; rintro e w' ⟨rfl, rfl⟩)
    go_ret
    exact ⟨retb HF.out.symm, rfl⟩
  · have h1' : ((V.length : Int) == 1) = false := beq_eq_false_iff_ne.2 h1
    have HF : Hid ((decide (V.length = 1) && numB (V.getD 0 default)) = false) := by simp [Hid]; omega
    go_enter Try.func77, Try.ntmps77
    go_wp2
    go_ret
    exact ⟨retb HF.out.symm, rfl⟩

theorem hasL_iff (V : List ByteArray) (s : ByteArray) : hasL V s = true ↔ ∃ j, j < V.length ∧ sEq (V.getD j default) s = true := by
  simp only [hasL, List.any_eq_true]
  constructor
  · rintro ⟨v, hv, h⟩
    obtain ⟨j, hj, rfl⟩ := List.mem_iff_getElem.1 hv
    exact ⟨j, hj, by rw [List.getD_eq_getElem?_getD, List.getElem?_eq_getElem hj]; exact h⟩
  · rintro ⟨j, hj, h⟩
    rw [List.getD_eq_getElem?_getD, List.getElem?_eq_getElem hj] at h
    exact ⟨_, List.getElem_mem hj, h⟩
theorem hasL_no {V : List ByteArray} {s : ByteArray} (h : ∀ j, j < V.length → sEq (V.getD j default) s = false) : hasL V s = false := by
  cases e : hasL V s
  · rfl
  · obtain ⟨j, hj, h'⟩ := (hasL_iff V s).1 e
    rw [h j hj] at h'; cases h'

set_option maxHeartbeats 1000000 in
theorem LHas_calls (a : Option Addr) (cap : Nat) (V : List ByteArray) (s : ByteArray) (w : World) (hV : Hid (StrsAt w a V)) : Calls Try.prog 11 #[.slice a V.length cap, .string s] w fun e w' => e = .returned (.bool (hasL V s)) ∧ w' = w := by
  have hlen := hV.out.1
  go_enter Try.func11, Try.ntmps11
  go_wp2
  go_loop [5] (fun i => ∃ k : Nat, k ≤ V.length ∧ i = .int .i64 k ∧ Hid (∀ j, j < k → sEq (V.getD j default) s = false)) (fun i => V.length - (intOf i).toNat)
  case atStart => exact ⟨0, Nat.zero_le _, rfl, fun j hj => absurd hj (Nat.not_lt_zero _)⟩
  case round =>
    obtain ⟨k, hk, rfl, hall⟩ := hrel
    by_cases hlt : k < V.length
    · obtain ⟨B, off, rfl, hB, hc, hs⟩ := hV.out.get hlt
      cases hv : sEq (V.getD k default) s
      · have HG : Hid (∀ j, j < k + 1 → sEq (V.getD j default) s = false) := fun j hj => by
          rcases Nat.lt_succ_iff_lt_or_eq.1 hj with h | rfl
          · exact hall.out j h
          · exact hv
        unfold sEq at hv
        clear hall
        generalize V.getD k default = x at hv hc hs
        go_wp2
        go_round
        case rel => exact ⟨k + 1, by omega, by go_num, HG⟩
        case measure => simp [intOf]; omega
      · have HF : Hid (hasL V s = true) := (hasL_iff V s).2 ⟨k, hlt, hv⟩
        unfold sEq at hv
        clear hall
        generalize V.getD k default = x at hv hc hs
        go_wp2
        go_ret
        exact ⟨retb HF.out.symm, rfl⟩
    · have HF : Hid (hasL V s = false) := hasL_no (fun j hj => hall.out j (by omega))
      go_wp2
      go_ret
      exact ⟨retb HF.out.symm, rfl⟩
end Go.Proofs.Ytpjgffcpjabghaa
namespace Go.Proofs.Ytpjgffcpjabghaa
open Go.RowKit
set_option linter.unusedSimpArgs false

theorem ret_sb {a c : ByteArray} {b d : Bool} (h : a = c ∧ b = d) : Ending.returned (.tuple #[.string a, .bool b]) = .returned (.tuple #[.string c, .bool d]) := by rw [h.1, h.2]
theorem getL_no {L : List Lab} {key : ByteArray} (h : ∀ j, j < L.length → sEq (L.getD j default).1 key = false) : getL L key = (default, false) := by
  have : L.find? (fun x => sEq x.1 key) = none := by
    rw [List.find?_eq_none]
    intro x hx
    obtain ⟨j, hj, rfl⟩ := List.mem_iff_getElem.1 hx
    have := h j hj
    rw [List.getD_eq_getElem?_getD, List.getElem?_eq_getElem hj] at this
    simpa using this
  simp only [getL, this]
theorem getL_yes {L : List Lab} {key : ByteArray} {k : Nat} (hk : k < L.length) (h : ∀ j, j < k → sEq (L.getD j default).1 key = false) (hy : sEq (L.getD k default).1 key = true) : getL L key = ((L.getD k default).2, true) := by
  have : L.find? (fun x => sEq x.1 key) = some (L.getD k default) := by
    rw [List.getD_eq_getElem?_getD, List.getElem?_eq_getElem hk] at hy ⊢
    rw [List.find?_eq_some_iff_getElem]
    refine ⟨hy, k, hk, rfl, fun j hj => ?_⟩
    have := h j hj
    rw [List.getD_eq_getElem?_getD, List.getElem?_eq_getElem (by omega)] at this
    simpa using this
  simp only [getL, this]

set_option maxHeartbeats 1000000 in
theorem Get_calls (a : Option Addr) (cap : Nat) (L : List Lab) (key : ByteArray) (w : World) (hL : Hid (LabsAt w a L)) : Calls Try.prog 57 #[.slice a L.length cap, .string key] w fun e w' => e = .returned (.tuple #[.string (getL L key).1, .bool (getL L key).2]) ∧ Below w.heap.size w w' := by
  have hlen := hL.out.1
  go_enter Try.func57, Try.ntmps57
  go_wp2
  go_loopw [10] (fun i wr => ∃ k : Nat, k ≤ L.length ∧ i = .int .i64 k ∧ Below w.heap.size w wr ∧ Hid (∀ j, j < k → sEq (L.getD j default).1 key = false)) (fun i _ => L.length - (intOf i).toNat)
  case atStart => exact ⟨0, Nat.zero_le _, rfl, Below.refl _ _, fun j hj => absurd hj (Nat.not_lt_zero _)⟩
  case round =>
    obtain ⟨k, hk, rfl, hbel, hall⟩ := hrel
    by_cases hlt : k < L.length
    · obtain ⟨B, off, rfl, hB, c0, c1, s0, s1⟩ := hL.out.get hlt
      have d0 := (hbel.cell (p := ⟨B, off + k * 2, none⟩) hB).trans c0
      have d1 := (hbel.cell (p := ⟨B, off + k * 2 + 1, none⟩) hB).trans c1
      clear c0 c1
      cases hv : sEq (L.getD k default).1 key
      · have HG : Hid (∀ j, j < k + 1 → sEq (L.getD j default).1 key = false) := fun j hj => by
          rcases Nat.lt_succ_iff_lt_or_eq.1 hj with h | rfl
          · exact hall.out j h
          · exact hv
        unfold sEq at hv
        clear hall
        generalize L.getD k default = x at hv d0 d1 s0 s1
        go_wp2
        go_roundw
        case rel => exact ⟨k + 1, by omega, by go_num, on2 hbel (by go_grown), HG⟩
        case measure => simp [intOf]; omega
      · have HF : Hid (getL L key = ((L.getD k default).2, true)) := getL_yes hlt hall.out hv
        unfold sEq at hv
        clear hall
        generalize L.getD k default = x at hv d0 d1 s0 s1 HF
        go_wp2
        go_ret2
        exact ⟨ret_sb (by rw [HF.out]; exact ⟨rfl, rfl⟩), on2 hbel (by go_grown)⟩
    · have HF : Hid (getL L key = (default, false)) := getL_no (fun j hj => hall.out j (by omega))
      go_wp2
      go_ret2
      exact ⟨ret_sb (by rw [HF.out]; exact ⟨rfl, rfl⟩), hbel⟩

end Go.Proofs.Ytpjgffcpjabghaa
namespace Go.Proofs.Ytpjgffcpjabghaa

def valL : List UInt8 → Nat
  | [] => 0
  | c :: cs => (c.toNat - 48) * 10 ^ cs.length + valL cs
theorem valL_snoc : ∀ (l : List UInt8) (c : UInt8), valL (l ++ [c]) = 10 * valL l + (c.toNat - 48)
  | [], c => by simp [valL]
  | x :: l, c => by
    simp only [List.cons_append, valL, valL_snoc l c, List.length_append, List.length_singleton, Nat.pow_succ]
    rw [Nat.mul_add, ← Nat.mul_assoc, Nat.mul_comm _ 10]
    omega
theorem numTo_valL (s : ByteArray) : ∀ k, k ≤ s.size → numTo s k = valL (s.data.toList.take k)
  | 0, _ => by simp [numTo, valL]
  | k + 1, h => by
    have hk : k < s.data.toList.length := by simp; omega
    rw [numTo, numTo_valL s k (by omega), List.take_add_one, List.getElem?_eq_getElem hk, Option.toList_some, valL_snoc]
    congr 2
    unfold byteAt
    rw [List.getD_eq_getElem?_getD, List.getElem?_eq_getElem hk]
    rfl
theorem numN_valL (s : ByteArray) : numN s = valL s.data.toList := by
  rw [numN, numTo_valL s s.size (Nat.le_refl _), List.take_of_length_le (by simp)]
theorem valL_lt : ∀ (l : List UInt8), (∀ c ∈ l, isDig c = true) → valL l < 10 ^ l.length
  | [], _ => by simp [valL]
  | c :: l, h => by
    have ih := valL_lt l (fun x hx => h x (by simp [hx]))
    have hd := (isDig_iff c).1 (h c (by simp))
    simp only [valL, List.length_cons, Nat.pow_succ]
    have : (c.toNat - 48) * 10 ^ l.length ≤ 9 * 10 ^ l.length := Nat.mul_le_mul_right _ (by omega)
    omega
theorem cmp_valL : ∀ (l m : List UInt8), l.length = m.length → (∀ c ∈ l, isDig c = true) → (∀ c ∈ m, isDig c = true) →
    (Lib.compareBytes l m = -1 ∧ valL l < valL m) ∨ (Lib.compareBytes l m = 0 ∧ valL l = valL m) ∨ (Lib.compareBytes l m = 1 ∧ valL m < valL l)
  | [], [], _, _, _ => .inr (.inl ⟨rfl, rfl⟩)
  | [], _ :: _, h, _, _ => by simp at h
  | _ :: _, [], h, _, _ => by simp at h
  | a :: l, b :: m, h, hl, hm => by
    have hlen : l.length = m.length := by simpa using h
    have ih := cmp_valL l m hlen (fun x hx => hl x (by simp [hx])) (fun x hx => hm x (by simp [hx]))
    have b1 := valL_lt l (fun x hx => hl x (by simp [hx]))
    have b2 := valL_lt m (fun x hx => hm x (by simp [hx]))
    have ha := (isDig_iff a).1 (hl a (by simp))
    have hb := (isDig_iff b).1 (hm b (by simp))
    simp only [Lib.compareBytes, valL]
    rw [hlen] at b1 ⊢
    have key : ∀ x y : Nat, x < y → x * 10 ^ m.length + 10 ^ m.length ≤ y * 10 ^ m.length := fun x y hxy => by
      have := Nat.mul_le_mul_right (10 ^ m.length) (show x + 1 ≤ y from hxy)
      rw [Nat.add_mul, Nat.one_mul] at this
      exact this
    by_cases h1 : a < b
    · have h1' : a.toNat < b.toNat := h1
      have := key (a.toNat - 48) (b.toNat - 48) (by omega)
      rw [if_pos h1]
      exact .inl ⟨rfl, by omega⟩
    · rw [if_neg h1]
      by_cases h2 : b < a
      · have h2' : b.toNat < a.toNat := h2
        have := key (b.toNat - 48) (a.toNat - 48) (by omega)
        rw [if_pos h2]
        exact .inr (.inr ⟨rfl, by omega⟩)
      · rw [if_neg h2]
        have h1' : ¬ a.toNat < b.toNat := h1
        have h2' : ¬ b.toNat < a.toNat := h2
        have : a.toNat = b.toNat := by omega
        rw [this]
        rcases ih with ⟨e, hh⟩ | ⟨e, hh⟩ | ⟨e, hh⟩
        · exact .inl ⟨e, by omega⟩
        · exact .inr (.inl ⟨e, by omega⟩)
        · exact .inr (.inr ⟨e, by omega⟩)
theorem numB_parts {s : ByteArray} (h : numB s = true) : 1 ≤ s.size ∧ s.size ≤ 15 ∧ ¬(1 < s.size ∧ (byteAt s 0).toNat = 48) ∧ ∀ c ∈ s.data.toList, isDig c = true := by
  simp only [numB, Bool.and_eq_true, decide_eq_true_eq, Bool.not_eq_true', Bool.and_eq_false_iff, decide_eq_false_iff_not] at h
  obtain ⟨⟨⟨h1, h2⟩, h3⟩, h4⟩ := h
  refine ⟨h1, h2, by omega, fun c hc => ?_⟩
  obtain ⟨j, hj, rfl⟩ := List.mem_iff_getElem.1 hc
  have := allTo_iff.1 h4 j (by simpa using hj)
  unfold byteAt at this
  rwa [List.getD_eq_getElem?_getD, List.getElem?_eq_getElem hj] at this
theorem long_valL {s : ByteArray} (h : numB s = true) (h1 : 1 < s.size) : 10 ^ (s.size - 1) ≤ numN s := by
  obtain ⟨_, _, h3, h4⟩ := numB_parts h
  have h0 : (byteAt s 0).toNat ≠ 48 := fun e => h3 ⟨h1, e⟩
  rw [numN_valL]
  have hl : s.data.toList.length = s.size := by simp
  unfold byteAt at h0
  generalize s.data.toList = l at *
  match l, hl with
  | [], hl => simp at hl; omega
  | c :: cs, hl =>
    have hd := (isDig_iff c).1 (h4 c (by simp))
    simp only [List.getD_cons_zero] at h0
    have e : s.size - 1 = cs.length := by simp at hl; omega
    rw [e, valL]
    have := Nat.mul_le_mul_right (10 ^ cs.length) (show 1 ≤ c.toNat - 48 by omega)
    omega
/-- What compareNumbers answers. -/
def cmpN (a b : ByteArray) : Int := if Lib.compareInt a.size b.size ≠ 0 then Lib.compareInt a.size b.size else Lib.compareBytes a.data.toList b.data.toList
theorem cmpN_order {a b : ByteArray} (ha : numB a = true) (hb : numB b = true) : (cmpN a b < 0 ∧ numN a < numN b) ∨ (cmpN a b = 0 ∧ numN a = numN b) ∨ (0 < cmpN a b ∧ numN b < numN a) := by
  obtain ⟨a1, a2, a3, a4⟩ := numB_parts ha
  obtain ⟨b1, b2, b3, b4⟩ := numB_parts hb
  have la : a.data.toList.length = a.size := by simp
  have lb : b.data.toList.length = b.size := by simp
  have va := valL_lt _ a4
  have vb := valL_lt _ b4
  rw [← numN_valL, la] at va
  rw [← numN_valL, lb] at vb
  unfold cmpN Lib.compareInt
  by_cases h1 : (a.size : Int) < b.size
  · have := long_valL hb (by omega)
    have h2 := Nat.pow_le_pow_right (n := 10) (by omega) (show a.size ≤ b.size - 1 by omega)
    simp only [h1, if_true]
    exact .inl ⟨by simp, by omega⟩
  · by_cases h2 : (a.size : Int) > b.size
    · have := long_valL ha (by omega)
      have h3 := Nat.pow_le_pow_right (n := 10) (by omega) (show b.size ≤ a.size - 1 by omega)
      simp only [h1, if_false, h2, if_true]
      exact .inr (.inr ⟨by simp, by omega⟩)
    · simp only [h1, h2, if_false, ne_eq, not_true]
      rw [numN_valL, numN_valL]
      rcases cmp_valL _ _ (by omega) a4 b4 with ⟨e, h⟩ | ⟨e, h⟩ | ⟨e, h⟩ <;> rw [e] <;> simp [h]
theorem cmpN_above {a b : ByteArray} (ha : numB a = true) (hb : numB b = true) : decide (0 < cmpN a b) = decide (numN b < numN a) := by
  rcases cmpN_order ha hb with h | h | h <;> (rw [Bool.eq_iff_iff]; simp; omega)
theorem cmpN_below {a b : ByteArray} (ha : numB a = true) (hb : numB b = true) : decide (cmpN a b < 0) = decide (numN a < numN b) := by
  rcases cmpN_order ha hb with h | h | h <;> (rw [Bool.eq_iff_iff]; simp; omega)
end Go.Proofs.Ytpjgffcpjabghaa
namespace Go.Proofs.Ytpjgffcpjabghaa
open Go.RowKit
set_option linter.unusedSimpArgs false

theorem contains_hasL (V : List ByteArray) (s : ByteArray) : Lib.containsS V s = hasL V s := by
  rw [Bool.eq_iff_iff, Lib.containsS_iff, hasL, List.any_eq_true]
  constructor
  · intro h; exact ⟨s, h, sEq_self s⟩
  · rintro ⟨v, hv, h⟩; rw [← (sEq_iff v s).1 h]; exact hv
theorem Contains_calls (a : Option Addr) (cap : Nat) (V : List ByteArray) (s : ByteArray) (w : World) (hV : Hid (StrsAt w a V)) : Calls Try.prog 72 #[.slice a V.length cap, .string s] w fun e w' => e = .returned (.bool (hasL V s)) ∧ w' = w := by
  by_cases h : V = []
  · subst h
    exact Try.slices_Contains_string_empty a cap s w
  · obtain ⟨h1, h2, h3⟩ := hV.out
    obtain ⟨B, off, rfl, hB, hc⟩ := h3 h
    have := Try.slices_Contains_string B off V.length cap V s w (Nat.le_refl _) (by omega) hc
    rw [List.take_length, contains_hasL] at this
    exact this

abbrev askV (v : ByteArray) (t : Bool) (a : Option Addr) (n cap : Nat) : Value := .agg #[.string v, .bool t, .slice a n cap]

set_option maxHeartbeats 1000000 in
theorem in_calls (v : ByteArray) (t : Bool) (a : Option Addr) (cap : Nat) (V : List ByteArray) (w : World) (hV : Hid (StrsAt w a V)) : Calls Try.prog 64 #[.agg #[.string v, .bool t, .slice a V.length cap]] w fun e w' => e = .returned (.bool (t && hasL V v)) ∧ Below w.heap.size w w' := by
  have hb0 : Below w.heap.size w (w.alloc (.cells #[.string v, .bool t, .slice a V.length cap] 115)) := (Below.refl _ _).alloc (Nat.le_refl _) _
  have hc := Contains_calls a cap V v _ (show Hid (StrsAt (w.alloc (.cells #[.string v, .bool t, .slice a V.length cap] 115)) a V) from hV.out.on hb0)
  generalize hasL V v = b at hc
  clear hV
  cases t
  · go_enter Try.func64, Try.ntmps64
    go_wp2
    go_ret
    exact ⟨rfl, hb0⟩
  · go_enter Try.func64, Try.ntmps64
    go_wp2_with (go_at_call 72; refine hc.mono ?_; rintro e w' ⟨rfl, rfl⟩)
    go_ret
    exact ⟨by simp, hb0⟩

theorem exists_calls (v : ByteArray) (t : Bool) (a : Option Addr) (n cap : Nat) (w : World) : Calls Try.prog 66 #[.agg #[.string v, .bool t, .slice a n cap]] w fun e w' => e = .returned (.bool t) ∧ Below w.heap.size w w' := by
  go_enter Try.func66, Try.ntmps66
  go_wp2
  go_ret
  exact ⟨rfl, by go_grown⟩
theorem lacks_calls (v : ByteArray) (t : Bool) (a : Option Addr) (n cap : Nat) (w : World) : Calls Try.prog 67 #[.agg #[.string v, .bool t, .slice a n cap]] w fun e w' => e = .returned (.bool (!t)) ∧ Below w.heap.size w w' := by
  go_enter Try.func67, Try.ntmps67
  go_wp2
  go_ret
  exact ⟨rfl, by go_grown⟩
theorem never_calls (v : ByteArray) (t : Bool) (a : Option Addr) (n cap : Nat) (w : World) : Calls Try.prog 70 #[.agg #[.string v, .bool t, .slice a n cap]] w fun e w' => e = .returned (.bool false) ∧ Below w.heap.size w w' := by
  go_enter Try.func70, Try.ntmps70
  go_wp2
  go_ret
  exact ⟨rfl, by go_grown⟩

set_option maxHeartbeats 1000000 in
theorem notIn_calls (v : ByteArray) (t : Bool) (a : Option Addr) (cap : Nat) (V : List ByteArray) (w : World) (hV : Hid (StrsAt w a V)) : Calls Try.prog 65 #[.agg #[.string v, .bool t, .slice a V.length cap]] w fun e w' => e = .returned (.bool (!(t && hasL V v))) ∧ Below w.heap.size w w' := by
  have hb0 : Below w.heap.size w (w.alloc (.cells #[.string v, .bool t, .slice a V.length cap] 115)) := (Below.refl _ _).alloc (Nat.le_refl _) _
  have hc := in_calls v t a cap V _ (show Hid (StrsAt (w.alloc (.cells #[.string v, .bool t, .slice a V.length cap] 115)) a V) from hV.out.on hb0)
  generalize (t && hasL V v) = b at hc
  clear hV
  go_enter Try.func65, Try.ntmps65
  go_wp2_with (go_at_call 64; refine hc.mono ?_; rintro e w' ⟨rfl, hb⟩)
  go_ret
  exact ⟨rfl, on2 hb0 hb⟩

set_option maxHeartbeats 1000000 in
theorem inNumbers_calls (v : ByteArray) (t : Bool) (a : Option Addr) (cap : Nat) (V : List ByteArray) (w : World) (hV : Hid (StrsAt w a V)) : Calls Try.prog 73 #[.agg #[.string v, .bool t, .slice a V.length cap]] w fun e w' => e = .returned (.bool (t && numB v && (decide (V.length = 1) && numB (V.getD 0 default)))) ∧ Below w.heap.size w w' := by
  have hb0 : Below w.heap.size w (w.alloc (.cells #[.string v, .bool t, .slice a V.length cap] 115)) := (Below.refl _ _).alloc (Nat.le_refl _) _
  have h1 := isNumber_calls v
  have h2 := oneNumber_calls a cap V _ (show Hid (StrsAt (w.alloc (.cells #[.string v, .bool t, .slice a V.length cap] 115)) a V) from hV.out.on hb0)
  generalize (decide (V.length = 1) && numB (V.getD 0 default)) = c at h2
  generalize numB v = b at h1
  clear hV
  cases t
  · go_enter Try.func73, Try.ntmps73
    go_wp2
    go_ret
    exact ⟨rfl, hb0⟩
  · cases b
    · go_enter Try.func73, Try.ntmps73
      go_wp2_with (go_at_call 76; refine (h1 _).mono ?_; rintro e w' ⟨rfl, rfl⟩)
      go_ret
      exact ⟨rfl, hb0⟩
    · go_enter Try.func73, Try.ntmps73
      go_wp2_with (first | (go_at_call 76; refine (h1 _).mono ?_; rintro e w' ⟨rfl, rfl⟩) | (go_at_call 77; refine h2.mono ?_; rintro e w' ⟨rfl, rfl⟩))
      go_ret
      exact ⟨by simp, hb0⟩

def orI (x y : Int) : Int := if x ≠ 0 then x else y
set_option maxHeartbeats 1000000 in
theorem Or_calls (B : Nat) (cap : Nat) (x y : Int) (w : World) (c0 : w.cell? ⟨B, 0, none⟩ = some (.int .i64 x)) (c1 : w.cell? ⟨B, 0 + 1, none⟩ = some (.int .i64 y)) : Calls Try.prog 32 #[.slice (some ⟨B, 0, none⟩) 2 cap] w fun e w' => e = .returned (.int .i64 (orI x y)) ∧ w' = w := by
  go_enter Try.func32, Try.ntmps32
  go_wp2
  go_loop [8] (fun i => ∃ k : Nat, k ≤ 2 ∧ i = .int .i64 k ∧ Hid (1 ≤ k → x = 0) ∧ Hid (2 ≤ k → y = 0)) (fun i => 2 - (intOf i).toNat)
  case atStart => exact ⟨0, by omega, rfl, fun h => absurd h (by omega), fun h => absurd h (by omega)⟩
  case round =>
    obtain ⟨k, hk, rfl, hx, hy⟩ := hrel
    match k, hk with
    | 0, _ =>
      by_cases h : x = 0
      · subst h
        go_wp2
        go_round
        case rel => exact ⟨1, by omega, by go_num, by unfold Hid; simp, fun h => absurd h (by omega)⟩
        case measure => simp [intOf]
      · have h' : (x != 0) = true := bne_iff_ne.2 h
        have HF : Hid (orI x y = x) := if_pos h
        go_wp2
        go_ret
        exact ⟨by rw [HF.out]; rfl, rfl⟩
    | 1, _ =>
      have hx0 := hx.out (by omega)
      subst hx0
      by_cases h : y = 0
      · subst h
        go_wp2
        go_round
        case rel => exact ⟨2, by omega, by go_num, by unfold Hid; simp, by unfold Hid; simp⟩
        case measure => simp [intOf]
      · have h' : (y != 0) = true := bne_iff_ne.2 h
        have HF : Hid (orI 0 y = y) := if_neg (by simp)
        go_wp2
        go_ret
        exact ⟨by rw [HF.out]; rfl, rfl⟩
    | 2, _ =>
      have hx0 := hx.out (by omega)
      have hy0 := hy.out (by omega)
      subst hx0 hy0
      go_wp2
      go_ret
      exact ⟨rfl, rfl⟩

set_option maxHeartbeats 1000000 in
theorem compareNumbers_calls (a b : ByteArray) (w : World) : Calls Try.prog 74 #[.string a, .string b] w fun e w' => e = .returned (.int .i64 (cmpN a b)) ∧ Below w.heap.size w w' := by
  have h1 := Try.cmp_Compare_int a.size b.size
  have h2 := Try.strings_Compare a b
  have HF : Hid (cmpN a b = orI (Lib.compareInt a.size b.size) (Lib.compareBytes a.data.toList b.data.toList)) := rfl
  generalize Lib.compareInt a.size b.size = x at h1 HF
  generalize Lib.compareBytes a.data.toList b.data.toList = y at h2 HF
  have h3 := Or_calls w.heap.size 2 x y (w.alloc (.cells #[.int .i64 x, .int .i64 y] 3)) (by simp [go_sem]) (by simp [go_sem])
  generalize orI x y = r at h3 HF
  go_enter Try.func74, Try.ntmps74
  go_wp2_with (first | (go_at_call 33; refine (h1 _).mono ?_; rintro e w' ⟨rfl, rfl⟩) | (go_at_call 34; refine (h2 _).mono ?_; rintro e w' ⟨rfl, rfl⟩) | (go_at_call 32; refine h3.mono ?_; rintro e w' ⟨rfl, rfl⟩))
  go_ret
  exact ⟨by rw [HF.out]; rfl, by go_grown⟩
end Go.Proofs.Ytpjgffcpjabghaa
