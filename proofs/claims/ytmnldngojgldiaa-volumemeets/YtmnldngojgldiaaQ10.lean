/- label.isValue, isNumber and the document's own Word, Whole return what the plain functions say, and change nothing. Condition: the text is no longer than a Go string can be. The document's own Whole at 15 digits returns what the plain functions say, and changes nothing. No condition. How texts, labels and what is asked lie in memory. Plain facts on worlds. No condition. label.allValues, oneNumber, rightValues, and the document's Has, SameTexts, over slices of texts. Condition: the slice holds what is said of it. label.Get and the document's own Get return the first label of a key; label.Same and the document's own. They change nothing that was there. Condition: the slice holds what is said of it. Digits without a 0 ahead: the longer ones tell the greater number, and among those of one length the order of their bytes is the numbers'. Plain mathematics. No condition. -/
import Derived.Test.YtmnldngojgldiaaQ09
import Derived.Test.YtmnldngojgldiaaQ01
import Derived.Lib.Small
namespace Go.Proofs.Ytmnldngojgldiaa
open Go.RowKit
set_option linter.unusedSimpArgs false

theorem empty_of {s : ByteArray} (h : s.size = 0) : s.toList.isEmpty = true := by
  rw [ByteArray.toList_eq, List.isEmpty_iff_length_eq_zero]
  simpa using h
theorem not_empty_of {s : ByteArray} (h : 1 ≤ s.size) : s.toList.isEmpty = false := by
  cases e : s.toList.isEmpty
  · rfl
  · rw [ByteArray.toList_eq, List.isEmpty_iff_length_eq_zero] at e
    have e' : s.size = 0 := by simpa using e
    omega

theorem numB_no {s : ByteArray} (h : ¬(1 ≤ s.size ∧ s.size ≤ 15)) : numB s = false := by
  have : (decide (1 ≤ s.size) && decide (s.size ≤ 15)) = false := by simp; omega
  simp [numB, this]
theorem numB_zero {s : ByteArray} (h : 1 < s.size) (h0 : (byteAt s 0).toNat = 48) : numB s = false := by
  simp [numB, h, h0]
theorem numB_rest {s : ByteArray} (h1 : 1 ≤ s.size) (h2 : s.size ≤ 15) (h3 : ¬(1 < s.size ∧ (byteAt s 0).toNat = 48)) : numB s = allTo s.size fun i => isDig (byteAt s i) := by
  have : (decide (1 < s.size) && decide ((byteAt s 0).toNat = 48)) = false := by simp; omega
  simp [numB, h1, h2, this]

set_option maxHeartbeats 1000000 in
theorem isNumber_calls (s : ByteArray) (w : World) : Calls Try.prog 79 #[.string s] w fun e w' => e = .returned (.bool (numB s)) ∧ w' = w := by
  by_cases h0 : (s.size : Int) = 0
  · have HF : Hid (numB s = false) := numB_no (by omega)
    have h0' : ((s.size : Int) == 0) = true := beq_iff_eq.2 h0
    go_enter Try.func79, Try.ntmps79
    go_wp2
    go_ret
    exact ⟨retb HF.out.symm, rfl⟩
  have h0' : ((s.size : Int) == 0) = false := beq_eq_false_iff_ne.2 h0
  by_cases h1 : (15 : Int) < (s.size : Int)
  · have HF : Hid (numB s = false) := numB_no (by omega)
    go_enter Try.func79, Try.ntmps79
    go_wp2
    go_ret
    exact ⟨retb HF.out.symm, rfl⟩
  have hp : 0 < s.size := by omega
  have HB : ∃ b c : Bool, ((s[0].toNat : Int) == 48) = b ∧ decide ((1 : Int) < (s.size : Int)) = c ∧ Hid ((b && c) = true → numB s = false) ∧ Hid ((b && c) = false → numB s = allTo s.size fun i => isDig (byteAt s i)) := by
    refine ⟨_, _, rfl, rfl, ?_, ?_⟩
    · intro h
      simp only [Bool.and_eq_true, beq_iff_eq, decide_eq_true_eq] at h
      exact numB_zero (by omega) (by rw [byteAt_get s 0 hp]; omega)
    · intro h
      refine numB_rest (by omega) (by omega) ?_
      rintro ⟨x, y⟩
      rw [byteAt_get s 0 hp] at y
      rw [beq_iff_eq.2 (show (s[0].toNat : Int) = 48 by omega), decide_eq_true (show (1 : Int) < s.size by omega)] at h
      cases h
  obtain ⟨b, c, hb, hc, HT, HN⟩ := HB
  cases b <;> cases c
  case true.true =>
    have HF : Hid (numB s = false) := HT.out rfl
    clear HT HN
    go_enter Try.func79, Try.ntmps79
    go_wp2
    go_ret
    exact ⟨retb HF.out.symm, rfl⟩
  all_goals
    have HM : Hid (numB s = allTo s.size fun i => isDig (byteAt s i)) := HN.out rfl
    clear HT HN
    go_enter Try.func79, Try.ntmps79
    go_wp2
    go_loop [22] (fun i => ∃ k : Nat, k ≤ s.size ∧ i = .int .i64 k ∧ Hid (∀ j, j < k → isDig (byteAt s j) = true)) (fun i => s.size - (intOf i).toNat)
    case atStart => exact ⟨0, Nat.zero_le _, rfl, fun j hj => absurd hj (Nat.not_lt_zero _)⟩
    case round =>
      obtain ⟨k, hk, rfl, hall⟩ := hrel
      by_cases hlt : k < s.size
      · have hin := isDigit_calls s[k]
        cases hc : isDig s[k]
        · rw [hc] at hin
          have HF : Hid (numB s = false) := HM.out.trans (allTo_false hlt (by rw [byteAt_get s k hlt]; exact hc))
          clear hc
          go_wp2_with (go_at_call 93; refine (hin _).mono ?_; rintro e w' ⟨rfl, rfl⟩)
          go_ret
          exact ⟨retb HF.out.symm, rfl⟩
        · rw [hc] at hin
          have HS : Hid (isDig (byteAt s k) = true) := by rw [Hid, byteAt_get s k hlt]; exact hc
          clear hc
          go_wp2_with (go_at_call 93; refine (hin _).mono ?_; rintro e w' ⟨rfl, rfl⟩)
          go_round
          case rel => exact ⟨k + 1, by omega, by go_num, fun j hj => by rcases Nat.lt_succ_iff_lt_or_eq.1 hj with h | rfl; exact hall.out j h; exact HS.out⟩
          case measure => simp [intOf]; omega
      · have HF : Hid (numB s = true) := HM.out.trans (allTo_true (fun j hj => hall.out j (by omega)))
        go_wp2
        go_ret
        exact ⟨retb HF.out.symm, rfl⟩

theorem wChar_no {c : UInt8} (h1 : ¬((97 : Int) ≤ c.toNat ∧ (c.toNat : Int) ≤ 122)) (h2 : ¬((48 : Int) ≤ c.toNat ∧ (c.toNat : Int) ≤ 57)) (h3 : (c.toNat : Int) ≠ 45) (h4 : (c.toNat : Int) ≠ 46) (h5 : (c.toNat : Int) ≠ 47) : wChar c = false := by
  rw [wChar_else h1, isDig_no (by omega)]
  simp; omega
theorem wChar_dig {c : UInt8} (h : (48 : Int) ≤ c.toNat ∧ (c.toNat : Int) ≤ 57) : wChar c = true := by
  have := (isDig_iff c).2 (by omega); simp [wChar, this]
theorem wChar_sign {c : UInt8} (h : (c.toNat : Int) = 45 ∨ (c.toNat : Int) = 46 ∨ (c.toNat : Int) = 47) : wChar c = true := by
  have : c.toNat = 45 ∨ c.toNat = 46 ∨ c.toNat = 47 := by omega
  rcases this with h | h | h <;> simp [wChar, h]

/-- The paths through the document's test of one byte. -/
theorem wChar_paths (c : UInt8) : (¬ (c.toNat : Int) < 97 ∧ ¬ (122 : Int) < c.toNat ∧ Hid (wChar c = true)) ∨
    (((c.toNat : Int) < 97 ∨ (¬ (c.toNat : Int) < 97 ∧ (122 : Int) < c.toNat)) ∧
      ((¬ (c.toNat : Int) < 48 ∧ ¬ (57 : Int) < c.toNat ∧ Hid (wChar c = true)) ∨
       (((c.toNat : Int) < 48 ∨ (¬ (c.toNat : Int) < 48 ∧ (57 : Int) < c.toNat)) ∧
        ((((c.toNat : Int) != 45) = false ∧ Hid (wChar c = true)) ∨ (((c.toNat : Int) != 45) = true ∧
         ((((c.toNat : Int) != 46) = false ∧ Hid (wChar c = true)) ∨ (((c.toNat : Int) != 46) = true ∧
          ((((c.toNat : Int) != 47) = false ∧ Hid (wChar c = true)) ∨ (((c.toNat : Int) != 47) = true ∧ Hid (wChar c = false)))))))))) := by
  by_cases h1 : (c.toNat : Int) < 97 ∨ (122 : Int) < c.toNat
  · refine .inr ⟨by omega, ?_⟩
    by_cases h2 : (c.toNat : Int) < 48 ∨ (57 : Int) < c.toNat
    · refine .inr ⟨by omega, ?_⟩
      by_cases h3 : (c.toNat : Int) = 45
      · exact .inl ⟨by rw [h3]; rfl, wChar_sign (.inl h3)⟩
      refine .inr ⟨bne_iff_ne.2 h3, ?_⟩
      by_cases h4 : (c.toNat : Int) = 46
      · exact .inl ⟨by rw [h4]; rfl, wChar_sign (.inr (.inl h4))⟩
      refine .inr ⟨bne_iff_ne.2 h4, ?_⟩
      by_cases h5 : (c.toNat : Int) = 47
      · exact .inl ⟨by rw [h5]; rfl, wChar_sign (.inr (.inr h5))⟩
      exact .inr ⟨bne_iff_ne.2 h5, wChar_no (by omega) (by omega) h3 h4 h5⟩
    · exact .inl ⟨by omega, by omega, wChar_dig (by omega)⟩
  · exact .inl ⟨by omega, by omega, wChar_low (by omega) (by omega)⟩

theorem wordB_bad {s : ByteArray} {k : Nat} (h : k < s.size) (hc : wChar s[k] = false) : wordB s = false := by
  have : allTo s.size (fun i => wChar (byteAt s i)) = false := allTo_false h (by rw [byteAt_get s k h]; exact hc)
  simp [wordB, this]
theorem wordB_good {s : ByteArray} (h : ∀ j, j < s.size → wChar (byteAt s j) = true) : wordB s = (decide (1 ≤ s.size) && decide (s.size ≤ 32)) := by
  have : allTo s.size (fun i => wChar (byteAt s i)) = true := allTo_true h
  simp [wordB, this]

end Go.Proofs.Ytmnldngojgldiaa
namespace Go.Proofs.Ytmnldngojgldiaa
open Go.RowKit
set_option linter.unusedSimpArgs false

theorem ret_ib {k : IntKind} {a c : Int} {b d : Bool} (h : a = c ∧ b = d) : Ending.returned (.tuple #[.int k a, .bool b]) = .returned (.tuple #[.int k c, .bool d]) := by rw [h.1, h.2]
def wholeN (s : ByteArray) : Nat := if numB s then numN s else 0
theorem numTo_le (s : ByteArray) : ∀ k, k ≤ s.size → (∀ j, j < k → isDig (byteAt s j) = true) → numTo s k < 10 ^ k
  | 0, _, _ => by simp [numTo]
  | k + 1, hk, h => by
    have ih := numTo_le s k (by omega) (fun j hj => h j (by omega))
    have hd := (isDig_iff _).1 (h k (by omega))
    simp only [numTo, Nat.pow_succ]
    omega
theorem pow15 {k : Nat} (h : k ≤ 15) : 10 ^ k ≤ 1000000000000000 := by
  have := Nat.pow_le_pow_right (n := 10) (by omega) h
  simpa using this

end Go.Proofs.Ytmnldngojgldiaa
namespace Go.Proofs.Ytmnldngojgldiaa
open Go.RowKit

def big : Nat := 140737488355328
/-- A slice of texts: its address, and what it holds. -/
def StrsAt (w : World) (a : Option Addr) (V : List ByteArray) : Prop :=
  V.length ≤ 140737488355328 ∧ (∀ s ∈ V, s.size ≤ 140737488355328) ∧ (V ≠ [] → ∃ B off, a = some ⟨B, off, none⟩ ∧ B < w.heap.size ∧ ∀ i, i < V.length → w.cell? ⟨B, off + i, none⟩ = some (.string (V.getD i default)))
def LabsAt (w : World) (a : Option Addr) (L : List Lab) : Prop :=
  L.length ≤ 140737488355328 ∧ (∀ x ∈ L, x.1.size ≤ 140737488355328 ∧ x.2.size ≤ 140737488355328) ∧ (L ≠ [] → ∃ B off, a = some ⟨B, off, none⟩ ∧ B < w.heap.size ∧ ∀ i, i < L.length → w.cell? ⟨B, off + i * 2, none⟩ = some (.string (L.getD i default).1) ∧ w.cell? ⟨B, off + i * 2 + 1, none⟩ = some (.string (L.getD i default).2))
def AsksAt (w : World) (a : Option Addr) (R : List Ask) : Prop :=
  R.length ≤ 140737488355328 ∧ (∀ x ∈ R, x.key.size ≤ 140737488355328) ∧ (R ≠ [] → ∃ B off, a = some ⟨B, off, none⟩ ∧ B < w.heap.size ∧ ∀ i, i < R.length → w.cell? ⟨B, off + i * 3, none⟩ = some (.string (R.getD i default).key) ∧ w.cell? ⟨B, off + i * 3 + 1, none⟩ = some (.int .i64 (R.getD i default).op) ∧
    ∃ a' cap', w.cell? ⟨B, off + i * 3 + 2, none⟩ = some (.slice a' (R.getD i default).vals.length cap') ∧ StrsAt w a' (R.getD i default).vals)

/-- What comes behind. -/

theorem StrsAt.on {w w' : World} {a : Option Addr} {V : List ByteArray} (h : StrsAt w a V) (hb : Below w.heap.size w w') : StrsAt w' a V := by
  obtain ⟨h1, h2, h3⟩ := h
  refine ⟨h1, h2, fun hn => ?_⟩
  obtain ⟨B, off, rfl, hB, hc⟩ := h3 hn
  exact ⟨B, off, rfl, Nat.lt_of_lt_of_le hB hb.size, fun i hi => (hb.cell hB).trans (hc i hi)⟩
theorem LabsAt.on {w w' : World} {a : Option Addr} {L : List Lab} (h : LabsAt w a L) (hb : Below w.heap.size w w') : LabsAt w' a L := by
  obtain ⟨h1, h2, h3⟩ := h
  refine ⟨h1, h2, fun hn => ?_⟩
  obtain ⟨B, off, rfl, hB, hc⟩ := h3 hn
  exact ⟨B, off, rfl, Nat.lt_of_lt_of_le hB hb.size, fun i hi => ⟨(hb.cell hB).trans (hc i hi).1, (hb.cell hB).trans (hc i hi).2⟩⟩
theorem AsksAt.on {w w' : World} {a : Option Addr} {R : List Ask} (h : AsksAt w a R) (hb : Below w.heap.size w w') : AsksAt w' a R := by
  obtain ⟨h1, h2, h3⟩ := h
  refine ⟨h1, h2, fun hn => ?_⟩
  obtain ⟨B, off, rfl, hB, hc⟩ := h3 hn
  refine ⟨B, off, rfl, Nat.lt_of_lt_of_le hB hb.size, fun i hi => ?_⟩
  obtain ⟨c0, c1, a', cap', c2, hs⟩ := hc i hi
  exact ⟨(hb.cell hB).trans c0, (hb.cell hB).trans c1, a', cap', (hb.cell hB).trans c2, hs.on hb⟩
theorem StrsAt.nil (w : World) (a : Option Addr) : StrsAt w a [] := ⟨by simp, by simp, fun h => absurd rfl h⟩
theorem LabsAt.nil (w : World) (a : Option Addr) : LabsAt w a [] := ⟨by simp, by simp, fun h => absurd rfl h⟩
theorem AsksAt.nil (w : World) (a : Option Addr) : AsksAt w a [] := ⟨by simp, by simp, fun h => absurd rfl h⟩
theorem StrsAt.get {w : World} {a : Option Addr} {V : List ByteArray} (h : StrsAt w a V) {k : Nat} (hk : k < V.length) : ∃ B off, a = some ⟨B, off, none⟩ ∧ B < w.heap.size ∧ w.cell? ⟨B, off + k, none⟩ = some (.string (V.getD k default)) ∧ (V.getD k default).size ≤ 140737488355328 := by
  obtain ⟨h1, h2, h3⟩ := h
  obtain ⟨B, off, rfl, hB, hc⟩ := h3 (by intro e; rw [e] at hk; simp at hk)
  refine ⟨B, off, rfl, hB, hc k hk, h2 _ ?_⟩
  rw [List.getD_eq_getElem?_getD, List.getElem?_eq_getElem hk]
  exact List.getElem_mem hk
theorem LabsAt.get {w : World} {a : Option Addr} {L : List Lab} (h : LabsAt w a L) {k : Nat} (hk : k < L.length) : ∃ B off, a = some ⟨B, off, none⟩ ∧ B < w.heap.size ∧ w.cell? ⟨B, off + k * 2, none⟩ = some (.string (L.getD k default).1) ∧ w.cell? ⟨B, off + k * 2 + 1, none⟩ = some (.string (L.getD k default).2) ∧ (L.getD k default).1.size ≤ 140737488355328 ∧ (L.getD k default).2.size ≤ 140737488355328 := by
  obtain ⟨h1, h2, h3⟩ := h
  obtain ⟨B, off, rfl, hB, hc⟩ := h3 (by intro e; rw [e] at hk; simp at hk)
  refine ⟨B, off, rfl, hB, (hc k hk).1, (hc k hk).2, h2 _ ?_⟩
  rw [List.getD_eq_getElem?_getD, List.getElem?_eq_getElem hk]
  exact List.getElem_mem hk
theorem AsksAt.get {w : World} {a : Option Addr} {R : List Ask} (h : AsksAt w a R) {k : Nat} (hk : k < R.length) : ∃ B off, a = some ⟨B, off, none⟩ ∧ B < w.heap.size ∧ w.cell? ⟨B, off + k * 3, none⟩ = some (.string (R.getD k default).key) ∧ w.cell? ⟨B, off + k * 3 + 1, none⟩ = some (.int .i64 (R.getD k default).op) ∧
    (∃ a' cap', w.cell? ⟨B, off + k * 3 + 2, none⟩ = some (.slice a' (R.getD k default).vals.length cap') ∧ StrsAt w a' (R.getD k default).vals) ∧ (R.getD k default).key.size ≤ 140737488355328 := by
  obtain ⟨h1, h2, h3⟩ := h
  obtain ⟨B, off, rfl, hB, hc⟩ := h3 (by intro e; rw [e] at hk; simp at hk)
  refine ⟨B, off, rfl, hB, (hc k hk).1, (hc k hk).2.1, (hc k hk).2.2, h2 _ ?_⟩
  rw [List.getD_eq_getElem?_getD, List.getElem?_eq_getElem hk]
  exact List.getElem_mem hk
end Go.Proofs.Ytmnldngojgldiaa
namespace Go.Proofs.Ytmnldngojgldiaa
open Go.RowKit
set_option linter.unusedSimpArgs false

theorem oneNumber_calls (a : Option Addr) (cap : Nat) (V : List ByteArray) (w : World) (hV : Hid (StrsAt w a V)) : Calls Try.prog 80 #[.slice a V.length cap] w fun e w' => e = .returned (.bool (decide (V.length = 1) && numB (V.getD 0 default))) ∧ w' = w := by
  by_cases h1 : (V.length : Int) = 1
  · have h1' : ((V.length : Int) == 1) = true := beq_iff_eq.2 h1
    obtain ⟨B, off, rfl, hB, hc, hs⟩ := hV.out.get (k := 0) (by omega)
    have hin := isNumber_calls (V.getD 0 default)
    have HF : Hid ((decide (V.length = 1) && numB (V.getD 0 default)) = numB (V.getD 0 default)) := by simp [Hid, show V.length = 1 by omega]
    rw [Nat.add_zero] at hc
    generalize V.getD 0 default = s at hin hc hs HF
    generalize numB s = b at hin HF
    go_enter Try.func80, Try.ntmps80
    go_wp2_with (go_at_call 79; refine (hin _).mono ?_; rintro e w' ⟨rfl, rfl⟩)
    go_ret
    exact ⟨retb HF.out.symm, rfl⟩
  · have h1' : ((V.length : Int) == 1) = false := beq_eq_false_iff_ne.2 h1
    have HF : Hid ((decide (V.length = 1) && numB (V.getD 0 default)) = false) := by simp [Hid]; omega
    go_enter Try.func80, Try.ntmps80
    go_wp2
    go_ret
    exact ⟨retb HF.out.symm, rfl⟩

theorem hasL_iff (V : List ByteArray) (s : ByteArray) : hasL V s = true ↔ ∃ j, j < V.length ∧ sEq (V.getD j default) s = true := by
  simp only [hasL, List.any_eq_true]
  constructor
  · rintro ⟨v, hv, h⟩
    obtain ⟨j, hj, rfl⟩ := List.mem_iff_getElem.1 hv
    exact ⟨j, hj, by rw [List.getD_eq_getElem?_getD, List.getElem?_eq_getElem hj]; exact h⟩
  · rintro ⟨j, hj, h⟩
    rw [List.getD_eq_getElem?_getD, List.getElem?_eq_getElem hj] at h
    exact ⟨_, List.getElem_mem hj, h⟩
theorem hasL_no {V : List ByteArray} {s : ByteArray} (h : ∀ j, j < V.length → sEq (V.getD j default) s = false) : hasL V s = false := by
  cases e : hasL V s
  · rfl
  · obtain ⟨j, hj, h'⟩ := (hasL_iff V s).1 e
    rw [h j hj] at h'; cases h'

set_option maxHeartbeats 1000000 in
theorem LHas_calls (a : Option Addr) (cap : Nat) (V : List ByteArray) (s : ByteArray) (w : World) (hV : Hid (StrsAt w a V)) : Calls Try.prog 11 #[.slice a V.length cap, .string s] w fun e w' => e = .returned (.bool (hasL V s)) ∧ w' = w := by
  have hlen := hV.out.1
  go_enter Try.func11, Try.ntmps11
  go_wp2
  go_loop [5] (fun i => ∃ k : Nat, k ≤ V.length ∧ i = .int .i64 k ∧ Hid (∀ j, j < k → sEq (V.getD j default) s = false)) (fun i => V.length - (intOf i).toNat)
  case atStart => exact ⟨0, Nat.zero_le _, rfl, fun j hj => absurd hj (Nat.not_lt_zero _)⟩
  case round =>
    obtain ⟨k, hk, rfl, hall⟩ := hrel
    by_cases hlt : k < V.length
    · obtain ⟨B, off, rfl, hB, hc, hs⟩ := hV.out.get hlt
      cases hv : sEq (V.getD k default) s
      · have HG : Hid (∀ j, j < k + 1 → sEq (V.getD j default) s = false) := fun j hj => by
          rcases Nat.lt_succ_iff_lt_or_eq.1 hj with h | rfl
          · exact hall.out j h
          · exact hv
        unfold sEq at hv
        clear hall
        generalize V.getD k default = x at hv hc hs
        go_wp2
        go_round
        case rel => exact ⟨k + 1, by omega, by go_num, HG⟩
        case measure => simp [intOf]; omega
      · have HF : Hid (hasL V s = true) := (hasL_iff V s).2 ⟨k, hlt, hv⟩
        unfold sEq at hv
        clear hall
        generalize V.getD k default = x at hv hc hs
        go_wp2
        go_ret
        exact ⟨retb HF.out.symm, rfl⟩
    · have HF : Hid (hasL V s = false) := hasL_no (fun j hj => hall.out j (by omega))
      go_wp2
      go_ret
      exact ⟨retb HF.out.symm, rfl⟩
end Go.Proofs.Ytmnldngojgldiaa
namespace Go.Proofs.Ytmnldngojgldiaa
open Go.RowKit
set_option linter.unusedSimpArgs false

theorem ret_sb {a c : ByteArray} {b d : Bool} (h : a = c ∧ b = d) : Ending.returned (.tuple #[.string a, .bool b]) = .returned (.tuple #[.string c, .bool d]) := by rw [h.1, h.2]
theorem getL_no {L : List Lab} {key : ByteArray} (h : ∀ j, j < L.length → sEq (L.getD j default).1 key = false) : getL L key = (default, false) := by
  have : L.find? (fun x => sEq x.1 key) = none := by
    rw [List.find?_eq_none]
    intro x hx
    obtain ⟨j, hj, rfl⟩ := List.mem_iff_getElem.1 hx
    have := h j hj
    rw [List.getD_eq_getElem?_getD, List.getElem?_eq_getElem hj] at this
    simpa using this
  simp only [getL, this]
theorem getL_yes {L : List Lab} {key : ByteArray} {k : Nat} (hk : k < L.length) (h : ∀ j, j < k → sEq (L.getD j default).1 key = false) (hy : sEq (L.getD k default).1 key = true) : getL L key = ((L.getD k default).2, true) := by
  have : L.find? (fun x => sEq x.1 key) = some (L.getD k default) := by
    rw [List.getD_eq_getElem?_getD, List.getElem?_eq_getElem hk] at hy ⊢
    rw [List.find?_eq_some_iff_getElem]
    refine ⟨hy, k, hk, rfl, fun j hj => ?_⟩
    have := h j hj
    rw [List.getD_eq_getElem?_getD, List.getElem?_eq_getElem (by omega)] at this
    simpa using this
  simp only [getL, this]

set_option maxHeartbeats 1000000 in
theorem Get_calls (a : Option Addr) (cap : Nat) (L : List Lab) (key : ByteArray) (w : World) (hL : Hid (LabsAt w a L)) : Calls Try.prog 40 #[.slice a L.length cap, .string key] w fun e w' => e = .returned (.tuple #[.string (getL L key).1, .bool (getL L key).2]) ∧ Below w.heap.size w w' := by
  have hlen := hL.out.1
  go_enter Try.func40, Try.ntmps40
  go_wp2
  go_loopw [10] (fun i wr => ∃ k : Nat, k ≤ L.length ∧ i = .int .i64 k ∧ Below w.heap.size w wr ∧ Hid (∀ j, j < k → sEq (L.getD j default).1 key = false)) (fun i _ => L.length - (intOf i).toNat)
  case atStart => exact ⟨0, Nat.zero_le _, rfl, Below.refl _ _, fun j hj => absurd hj (Nat.not_lt_zero _)⟩
  case round =>
    obtain ⟨k, hk, rfl, hbel, hall⟩ := hrel
    by_cases hlt : k < L.length
    · obtain ⟨B, off, rfl, hB, c0, c1, s0, s1⟩ := hL.out.get hlt
      have d0 := (hbel.cell (p := ⟨B, off + k * 2, none⟩) hB).trans c0
      have d1 := (hbel.cell (p := ⟨B, off + k * 2 + 1, none⟩) hB).trans c1
      clear c0 c1
      cases hv : sEq (L.getD k default).1 key
      · have HG : Hid (∀ j, j < k + 1 → sEq (L.getD j default).1 key = false) := fun j hj => by
          rcases Nat.lt_succ_iff_lt_or_eq.1 hj with h | rfl
          · exact hall.out j h
          · exact hv
        unfold sEq at hv
        clear hall
        generalize L.getD k default = x at hv d0 d1 s0 s1
        go_wp2
        go_roundw
        case rel => exact ⟨k + 1, by omega, by go_num, on2 hbel (by go_grown), HG⟩
        case measure => simp [intOf]; omega
      · have HF : Hid (getL L key = ((L.getD k default).2, true)) := getL_yes hlt hall.out hv
        unfold sEq at hv
        clear hall
        generalize L.getD k default = x at hv d0 d1 s0 s1 HF
        go_wp2
        go_ret2
        exact ⟨ret_sb (by rw [HF.out]; exact ⟨rfl, rfl⟩), on2 hbel (by go_grown)⟩
    · have HF : Hid (getL L key = (default, false)) := getL_no (fun j hj => hall.out j (by omega))
      go_wp2
      go_ret2
      exact ⟨ret_sb (by rw [HF.out]; exact ⟨rfl, rfl⟩), hbel⟩

end Go.Proofs.Ytmnldngojgldiaa
namespace Go.Proofs.Ytmnldngojgldiaa

def valL : List UInt8 → Nat
  | [] => 0
  | c :: cs => (c.toNat - 48) * 10 ^ cs.length + valL cs
theorem valL_snoc : ∀ (l : List UInt8) (c : UInt8), valL (l ++ [c]) = 10 * valL l + (c.toNat - 48)
  | [], c => by simp [valL]
  | x :: l, c => by
    simp only [List.cons_append, valL, valL_snoc l c, List.length_append, List.length_singleton, Nat.pow_succ]
    rw [Nat.mul_add, ← Nat.mul_assoc, Nat.mul_comm _ 10]
    omega
theorem numTo_valL (s : ByteArray) : ∀ k, k ≤ s.size → numTo s k = valL (s.data.toList.take k)
  | 0, _ => by simp [numTo, valL]
  | k + 1, h => by
    have hk : k < s.data.toList.length := by simp; omega
    rw [numTo, numTo_valL s k (by omega), List.take_add_one, List.getElem?_eq_getElem hk, Option.toList_some, valL_snoc]
    congr 2
    unfold byteAt
    rw [List.getD_eq_getElem?_getD, List.getElem?_eq_getElem hk]
    rfl
theorem numN_valL (s : ByteArray) : numN s = valL s.data.toList := by
  rw [numN, numTo_valL s s.size (Nat.le_refl _), List.take_of_length_le (by simp)]
theorem valL_lt : ∀ (l : List UInt8), (∀ c ∈ l, isDig c = true) → valL l < 10 ^ l.length
  | [], _ => by simp [valL]
  | c :: l, h => by
    have ih := valL_lt l (fun x hx => h x (by simp [hx]))
    have hd := (isDig_iff c).1 (h c (by simp))
    simp only [valL, List.length_cons, Nat.pow_succ]
    have : (c.toNat - 48) * 10 ^ l.length ≤ 9 * 10 ^ l.length := Nat.mul_le_mul_right _ (by omega)
    omega
theorem cmp_valL : ∀ (l m : List UInt8), l.length = m.length → (∀ c ∈ l, isDig c = true) → (∀ c ∈ m, isDig c = true) →
    (Lib.compareBytes l m = -1 ∧ valL l < valL m) ∨ (Lib.compareBytes l m = 0 ∧ valL l = valL m) ∨ (Lib.compareBytes l m = 1 ∧ valL m < valL l)
  | [], [], _, _, _ => .inr (.inl ⟨rfl, rfl⟩)
  | [], _ :: _, h, _, _ => by simp at h
  | _ :: _, [], h, _, _ => by simp at h
  | a :: l, b :: m, h, hl, hm => by
    have hlen : l.length = m.length := by simpa using h
    have ih := cmp_valL l m hlen (fun x hx => hl x (by simp [hx])) (fun x hx => hm x (by simp [hx]))
    have b1 := valL_lt l (fun x hx => hl x (by simp [hx]))
    have b2 := valL_lt m (fun x hx => hm x (by simp [hx]))
    have ha := (isDig_iff a).1 (hl a (by simp))
    have hb := (isDig_iff b).1 (hm b (by simp))
    simp only [Lib.compareBytes, valL]
    rw [hlen] at b1 ⊢
    have key : ∀ x y : Nat, x < y → x * 10 ^ m.length + 10 ^ m.length ≤ y * 10 ^ m.length := fun x y hxy => by
      have := Nat.mul_le_mul_right (10 ^ m.length) (show x + 1 ≤ y from hxy)
      rw [Nat.add_mul, Nat.one_mul] at this
      exact this
    by_cases h1 : a < b
    · have h1' : a.toNat < b.toNat := h1
      have := key (a.toNat - 48) (b.toNat - 48) (by omega)
      rw [if_pos h1]
      exact .inl ⟨rfl, by omega⟩
    · rw [if_neg h1]
      by_cases h2 : b < a
      · have h2' : b.toNat < a.toNat := h2
        have := key (b.toNat - 48) (a.toNat - 48) (by omega)
        rw [if_pos h2]
        exact .inr (.inr ⟨rfl, by omega⟩)
      · rw [if_neg h2]
        have h1' : ¬ a.toNat < b.toNat := h1
        have h2' : ¬ b.toNat < a.toNat := h2
        have : a.toNat = b.toNat := by omega
        rw [this]
        rcases ih with ⟨e, hh⟩ | ⟨e, hh⟩ | ⟨e, hh⟩
        · exact .inl ⟨e, by omega⟩
        · exact .inr (.inl ⟨e, by omega⟩)
        · exact .inr (.inr ⟨e, by omega⟩)
theorem numB_parts {s : ByteArray} (h : numB s = true) : 1 ≤ s.size ∧ s.size ≤ 15 ∧ ¬(1 < s.size ∧ (byteAt s 0).toNat = 48) ∧ ∀ c ∈ s.data.toList, isDig c = true := by
  simp only [numB, Bool.and_eq_true, decide_eq_true_eq, Bool.not_eq_true', Bool.and_eq_false_iff, decide_eq_false_iff_not] at h
  obtain ⟨⟨⟨h1, h2⟩, h3⟩, h4⟩ := h
  refine ⟨h1, h2, by omega, fun c hc => ?_⟩
  obtain ⟨j, hj, rfl⟩ := List.mem_iff_getElem.1 hc
  have := allTo_iff.1 h4 j (by simpa using hj)
  unfold byteAt at this
  rwa [List.getD_eq_getElem?_getD, List.getElem?_eq_getElem hj] at this
theorem long_valL {s : ByteArray} (h : numB s = true) (h1 : 1 < s.size) : 10 ^ (s.size - 1) ≤ numN s := by
  obtain ⟨_, _, h3, h4⟩ := numB_parts h
  have h0 : (byteAt s 0).toNat ≠ 48 := fun e => h3 ⟨h1, e⟩
  rw [numN_valL]
  have hl : s.data.toList.length = s.size := by simp
  unfold byteAt at h0
  generalize s.data.toList = l at *
  match l, hl with
  | [], hl => simp at hl; omega
  | c :: cs, hl =>
    have hd := (isDig_iff c).1 (h4 c (by simp))
    simp only [List.getD_cons_zero] at h0
    have e : s.size - 1 = cs.length := by simp at hl; omega
    rw [e, valL]
    have := Nat.mul_le_mul_right (10 ^ cs.length) (show 1 ≤ c.toNat - 48 by omega)
    omega
/-- What compareNumbers answers. -/
def cmpN (a b : ByteArray) : Int := if Lib.compareInt a.size b.size ≠ 0 then Lib.compareInt a.size b.size else Lib.compareBytes a.data.toList b.data.toList
theorem cmpN_order {a b : ByteArray} (ha : numB a = true) (hb : numB b = true) : (cmpN a b < 0 ∧ numN a < numN b) ∨ (cmpN a b = 0 ∧ numN a = numN b) ∨ (0 < cmpN a b ∧ numN b < numN a) := by
  obtain ⟨a1, a2, a3, a4⟩ := numB_parts ha
  obtain ⟨b1, b2, b3, b4⟩ := numB_parts hb
  have la : a.data.toList.length = a.size := by simp
  have lb : b.data.toList.length = b.size := by simp
  have va := valL_lt _ a4
  have vb := valL_lt _ b4
  rw [← numN_valL, la] at va
  rw [← numN_valL, lb] at vb
  unfold cmpN Lib.compareInt
  by_cases h1 : (a.size : Int) < b.size
  · have := long_valL hb (by omega)
    have h2 := Nat.pow_le_pow_right (n := 10) (by omega) (show a.size ≤ b.size - 1 by omega)
    simp only [h1, if_true]
    exact .inl ⟨by simp, by omega⟩
  · by_cases h2 : (a.size : Int) > b.size
    · have := long_valL ha (by omega)
      have h3 := Nat.pow_le_pow_right (n := 10) (by omega) (show b.size ≤ a.size - 1 by omega)
      simp only [h1, if_false, h2, if_true]
      exact .inr (.inr ⟨by simp, by omega⟩)
    · simp only [h1, h2, if_false, ne_eq, not_true]
      rw [numN_valL, numN_valL]
      rcases cmp_valL _ _ (by omega) a4 b4 with ⟨e, h⟩ | ⟨e, h⟩ | ⟨e, h⟩ <;> rw [e] <;> simp [h]
theorem cmpN_above {a b : ByteArray} (ha : numB a = true) (hb : numB b = true) : decide (0 < cmpN a b) = decide (numN b < numN a) := by
  rcases cmpN_order ha hb with h | h | h <;> (rw [Bool.eq_iff_iff]; simp; omega)
theorem cmpN_below {a b : ByteArray} (ha : numB a = true) (hb : numB b = true) : decide (cmpN a b < 0) = decide (numN a < numN b) := by
  rcases cmpN_order ha hb with h | h | h <;> (rw [Bool.eq_iff_iff]; simp; omega)
end Go.Proofs.Ytmnldngojgldiaa
