/- label.isValue, isNumber and the document's own Word, Whole return what the plain functions say, and change nothing, and its like. No condition beyond what each says. -/
import Derived.Laws.Cover1
import Derived.Test.YtfbnnfpnjjjfcaaGreatS04
namespace Go.Proofs.YtfbnnfpnjjjfcaaGreat
open Go.RowKit
set_option linter.unusedSimpArgs false
theorem empty_of {s : ByteArray} (h : s.size = 0) : s.toList.isEmpty = true := by
  rw [ByteArray.toList_eq, List.isEmpty_iff_length_eq_zero]
  simpa using h
theorem not_empty_of {s : ByteArray} (h : 1 ≤ s.size) : s.toList.isEmpty = false := by
  cases e : s.toList.isEmpty
  · rfl
  · rw [ByteArray.toList_eq, List.isEmpty_iff_length_eq_zero] at e
    have e' : s.size = 0 := by simpa using e
    omega
theorem isValue_calls (s : ByteArray) (w : World) : Calls Tryz.prog 116 #[.string s] w fun e w' => e = .returned (.bool (valB s)) ∧ w' = w := by
  have hw := Word_calls s
  by_cases h0 : s.size = 0
  · have HF : Hid (valB s = true) := by simp [Hid, valB, h0]
    have he := empty_of h0
    go_enter Tryz.func116, Tryz.ntmps116
    go_wp2
    go_ret
    exact ⟨retb HF.out.symm, rfl⟩
  · have HF : Hid (valB s = wordB s) := by simp [Hid, valB, h0]
    have he := not_empty_of (s := s) (by omega)
    generalize wordB s = b at hw HF
    go_enter Tryz.func116, Tryz.ntmps116
    go_wp2_with (go_at_call 97; refine (hw _).mono ?_; rintro e w' ⟨rfl, rfl⟩)
    go_ret
    exact ⟨retb HF.out.symm, rfl⟩
theorem numB_no {s : ByteArray} (h : ¬(1 ≤ s.size ∧ s.size ≤ 15)) : numB s = false := by
  have : (decide (1 ≤ s.size) && decide (s.size ≤ 15)) = false := by simp; omega
  simp [numB, this]
theorem numB_zero {s : ByteArray} (h : 1 < s.size) (h0 : (byteAt s 0).toNat = 48) : numB s = false := by
  simp [numB, h, h0]
theorem numB_rest {s : ByteArray} (h1 : 1 ≤ s.size) (h2 : s.size ≤ 15) (h3 : ¬(1 < s.size ∧ (byteAt s 0).toNat = 48)) : numB s = allTo s.size fun i => isDig (byteAt s i) := by
  have : (decide (1 < s.size) && decide ((byteAt s 0).toNat = 48)) = false := by simp; omega
  simp [numB, h1, h2, this]
set_option maxHeartbeats 1000000 in
theorem isNumber_calls (s : ByteArray) (w : World) : Calls Tryz.prog 151 #[.string s] w fun e w' => e = .returned (.bool (numB s)) ∧ w' = w := by
  by_cases h0 : (s.size : Int) = 0
  · have HF : Hid (numB s = false) := numB_no (by omega)
    have h0' : ((s.size : Int) == 0) = true := beq_iff_eq.2 h0
    go_enter Tryz.func151, Tryz.ntmps151
    go_wp2
    go_ret
    exact ⟨retb HF.out.symm, rfl⟩
  have h0' : ((s.size : Int) == 0) = false := beq_eq_false_iff_ne.2 h0
  by_cases h1 : (15 : Int) < (s.size : Int)
  · have HF : Hid (numB s = false) := numB_no (by omega)
    go_enter Tryz.func151, Tryz.ntmps151
    go_wp2
    go_ret
    exact ⟨retb HF.out.symm, rfl⟩
  have hp : 0 < s.size := by omega
  have HB : ∃ b c : Bool, ((s[0].toNat : Int) == 48) = b ∧ decide ((1 : Int) < (s.size : Int)) = c ∧ Hid ((b && c) = true → numB s = false) ∧ Hid ((b && c) = false → numB s = allTo s.size fun i => isDig (byteAt s i)) := by
    refine ⟨_, _, rfl, rfl, ?_, ?_⟩
    · intro h
      simp only [Bool.and_eq_true, beq_iff_eq, decide_eq_true_eq] at h
      exact numB_zero (by omega) (by rw [byteAt_get s 0 hp]; omega)
    · intro h
      refine numB_rest (by omega) (by omega) ?_
      rintro ⟨x, y⟩
      rw [byteAt_get s 0 hp] at y
      rw [beq_iff_eq.2 (show (s[0].toNat : Int) = 48 by omega), decide_eq_true (show (1 : Int) < s.size by omega)] at h
      cases h
  obtain ⟨b, c, hb, hc, HT, HN⟩ := HB
  cases b <;> cases c
  case true.true =>
    have HF : Hid (numB s = false) := HT.out rfl
    clear HT HN
    go_enter Tryz.func151, Tryz.ntmps151
    go_wp2
    go_ret
    exact ⟨retb HF.out.symm, rfl⟩
  all_goals
    have HM : Hid (numB s = allTo s.size fun i => isDig (byteAt s i)) := HN.out rfl
    clear HT HN
    go_enter Tryz.func151, Tryz.ntmps151
    go_wp2
    go_loop [22] (fun i => ∃ k : Nat, k ≤ s.size ∧ i = .int .i64 k ∧ Hid (∀ j, j < k → isDig (byteAt s j) = true)) (fun i => s.size - (intOf i).toNat)
    case atStart => exact ⟨0, Nat.zero_le _, rfl, fun j hj => absurd hj (Nat.not_lt_zero _)⟩
    case round =>
      obtain ⟨k, hk, rfl, hall⟩ := hrel
      by_cases hlt : k < s.size
      · have hin := isDigit_calls s[k]
        cases hc : isDig s[k]
        · rw [hc] at hin
          have HF : Hid (numB s = false) := HM.out.trans (allTo_false hlt (by rw [byteAt_get s k hlt]; exact hc))
          clear hc
          go_wp2_with (go_at_call 129; refine (hin _).mono ?_; rintro e w' ⟨rfl, rfl⟩)
          go_ret
          exact ⟨retb HF.out.symm, rfl⟩
        · rw [hc] at hin
          have HS : Hid (isDig (byteAt s k) = true) := by rw [Hid, byteAt_get s k hlt]; exact hc
          clear hc
          go_wp2_with (go_at_call 129; refine (hin _).mono ?_; rintro e w' ⟨rfl, rfl⟩)
          go_round
          case rel => exact ⟨k + 1, by omega, by go_num, fun j hj => by rcases Nat.lt_succ_iff_lt_or_eq.1 hj with h | rfl; exact hall.out j h; exact HS.out⟩
          case measure => simp [intOf]; omega
      · have HF : Hid (numB s = true) := HM.out.trans (allTo_true (fun j hj => hall.out j (by omega)))
        go_wp2
        go_ret
        exact ⟨retb HF.out.symm, rfl⟩
theorem wChar_no {c : UInt8} (h1 : ¬((97 : Int) ≤ c.toNat ∧ (c.toNat : Int) ≤ 122)) (h2 : ¬((48 : Int) ≤ c.toNat ∧ (c.toNat : Int) ≤ 57)) (h3 : (c.toNat : Int) ≠ 45) (h4 : (c.toNat : Int) ≠ 46) (h5 : (c.toNat : Int) ≠ 47) : wChar c = false := by
  rw [wChar_else h1, isDig_no (by omega)]
  simp; omega
theorem wChar_dig {c : UInt8} (h : (48 : Int) ≤ c.toNat ∧ (c.toNat : Int) ≤ 57) : wChar c = true := by
  have := (isDig_iff c).2 (by omega); simp [wChar, this]
theorem wChar_sign {c : UInt8} (h : (c.toNat : Int) = 45 ∨ (c.toNat : Int) = 46 ∨ (c.toNat : Int) = 47) : wChar c = true := by
  have : c.toNat = 45 ∨ c.toNat = 46 ∨ c.toNat = 47 := by omega
  rcases this with h | h | h <;> simp [wChar, h]
/-- The paths through the document's test of one byte. -/
theorem wChar_paths (c : UInt8) : (¬ (c.toNat : Int) < 97 ∧ ¬ (122 : Int) < c.toNat ∧ Hid (wChar c = true)) ∨
    (((c.toNat : Int) < 97 ∨ (¬ (c.toNat : Int) < 97 ∧ (122 : Int) < c.toNat)) ∧
      ((¬ (c.toNat : Int) < 48 ∧ ¬ (57 : Int) < c.toNat ∧ Hid (wChar c = true)) ∨
       (((c.toNat : Int) < 48 ∨ (¬ (c.toNat : Int) < 48 ∧ (57 : Int) < c.toNat)) ∧
        ((((c.toNat : Int) != 45) = false ∧ Hid (wChar c = true)) ∨ (((c.toNat : Int) != 45) = true ∧
         ((((c.toNat : Int) != 46) = false ∧ Hid (wChar c = true)) ∨ (((c.toNat : Int) != 46) = true ∧
          ((((c.toNat : Int) != 47) = false ∧ Hid (wChar c = true)) ∨ (((c.toNat : Int) != 47) = true ∧ Hid (wChar c = false)))))))))) := by
  by_cases h1 : (c.toNat : Int) < 97 ∨ (122 : Int) < c.toNat
  · refine .inr ⟨by omega, ?_⟩
    by_cases h2 : (c.toNat : Int) < 48 ∨ (57 : Int) < c.toNat
    · refine .inr ⟨by omega, ?_⟩
      by_cases h3 : (c.toNat : Int) = 45
      · exact .inl ⟨by rw [h3]; rfl, wChar_sign (.inl h3)⟩
      refine .inr ⟨bne_iff_ne.2 h3, ?_⟩
      by_cases h4 : (c.toNat : Int) = 46
      · exact .inl ⟨by rw [h4]; rfl, wChar_sign (.inr (.inl h4))⟩
      refine .inr ⟨bne_iff_ne.2 h4, ?_⟩
      by_cases h5 : (c.toNat : Int) = 47
      · exact .inl ⟨by rw [h5]; rfl, wChar_sign (.inr (.inr h5))⟩
      exact .inr ⟨bne_iff_ne.2 h5, wChar_no (by omega) (by omega) h3 h4 h5⟩
    · exact .inl ⟨by omega, by omega, wChar_dig (by omega)⟩
  · exact .inl ⟨by omega, by omega, wChar_low (by omega) (by omega)⟩
theorem wordB_bad {s : ByteArray} {k : Nat} (h : k < s.size) (hc : wChar s[k] = false) : wordB s = false := by
  have : allTo s.size (fun i => wChar (byteAt s i)) = false := allTo_false h (by rw [byteAt_get s k h]; exact hc)
  simp [wordB, this]
theorem wordB_good {s : ByteArray} (h : ∀ j, j < s.size → wChar (byteAt s j) = true) : wordB s = (decide (1 ≤ s.size) && decide (s.size ≤ 32)) := by
  have : allTo s.size (fun i => wChar (byteAt s i)) = true := allTo_true h
  simp [wordB, this]
set_option maxHeartbeats 2000000 in
theorem rWord_calls (s : ByteArray) (hs : s.size ≤ 140737488355328) (w : World) : Calls Tryz.prog 39 #[.string s] w fun e w' => e = .returned (.bool (wordB s)) ∧ w' = w := by
  go_enter Tryz.func39, Tryz.ntmps39
  go_wp2
  go_loop [3] (fun i => ∃ k : Nat, k ≤ s.size ∧ i = .int .i64 k ∧ Hid (∀ j, j < k → wChar (byteAt s j) = true)) (fun i => s.size - (intOf i).toNat)
  case atStart => exact ⟨0, Nat.zero_le _, rfl, fun j hj => absurd hj (Nat.not_lt_zero _)⟩
  case round =>
    obtain ⟨k, hk, rfl, hall⟩ := hrel
    by_cases hlt : k < s.size
    · have hgo : Hid (wChar s[k] = true → ∀ j, j < k + 1 → wChar (byteAt s j) = true) := by
        intro hc j hj
        rcases Nat.lt_succ_iff_lt_or_eq.1 hj with h | rfl
        · exact hall.out j h
        · rw [byteAt_get s j hlt]; exact hc
      have hbad : Hid (wChar s[k] = false → wordB s = false) := fun hc => wordB_bad hlt hc
      clear hall
      rcases wChar_paths s[k] with ⟨p1, p2, hy⟩ | ⟨p1 | ⟨p1, p2⟩, ⟨q1, q2, hy⟩ | ⟨q1 | ⟨q1, q2⟩, ⟨r1, hy⟩ | ⟨r1, ⟨r2, hy⟩ | ⟨r2, ⟨r3, hy⟩ | ⟨r3, hn⟩⟩⟩⟩⟩
      all_goals first
        | (exfalso; omega)
        | (exfalso; simp only [bne_eq_false_iff_eq] at r1; omega)
        | (exfalso; simp only [bne_eq_false_iff_eq] at r2; omega)
        | (exfalso; simp only [bne_eq_false_iff_eq] at r3; omega)
        | (have HG : Hid (∀ j, j < k + 1 → wChar (byteAt s j) = true) := hgo.out hy.out
           clear hgo hbad hy
           go_wp2
           go_round
           case rel => exact ⟨k + 1, by omega, by go_num, HG⟩
           case measure => simp [intOf]; omega)
        | (have HF : Hid (wordB s = false) := hbad.out hn.out
           clear hgo hbad hn
           go_wp2
           go_ret
           exact ⟨retb HF.out.symm, rfl⟩)
    · obtain rfl : k = s.size := by omega
      have HG : Hid (wordB s = (decide (1 ≤ s.size) && decide (s.size ≤ 32))) := wordB_good hall.out
      clear hall
      by_cases h0 : s.size = 0
      · have he := empty_of h0
        have HF : Hid (wordB s = false) := HG.out.trans (by simp; omega)
        go_wp2
        go_ret
        exact ⟨retb HF.out.symm, rfl⟩
      · have he := not_empty_of (s := s) (by omega)
        by_cases h1 : (s.size : Int) ≤ 32
        · have HF : Hid (wordB s = true) := HG.out.trans (by simp; omega)
          go_wp2
          go_ret
          exact ⟨retb HF.out.symm, rfl⟩
        · have HF : Hid (wordB s = false) := HG.out.trans (by simp; omega)
          go_wp2
          go_ret
          exact ⟨retb HF.out.symm, rfl⟩
end Go.Proofs.YtfbnnfpnjjjfcaaGreat

namespace Go.Proofs.YtfbnnfpnjjjfcaaGreat
set_option maxHeartbeats 16000000
set_option maxRecDepth 100000
open Tryz Go.RowKit
set_option linter.unusedSimpArgs false
theorem ret_ib {k : IntKind} {a c : Int} {b d : Bool} (h : a = c ∧ b = d) : Ending.returned (.tuple #[.int k a, .bool b]) = .returned (.tuple #[.int k c, .bool d]) := by rw [h.1, h.2]
def wholeN (s : ByteArray) : Nat := if numB s then numN s else 0
theorem numTo_le (s : ByteArray) : ∀ k, k ≤ s.size → (∀ j, j < k → isDig (byteAt s j) = true) → numTo s k < 10 ^ k
 | 0, _, _ => by simp [numTo]
 | k + 1, hk, h => by
  have ih := numTo_le s k (by omega) (fun j hj => h j (by omega))
  have hd := (isDig_iff _).1 (h k (by omega))
  simp only [numTo, Nat.pow_succ]
  omega
theorem pow15 {k : Nat} (h : k ≤ 15) : 10 ^ k ≤ 1000000000000000 := by
 have := Nat.pow_le_pow_right (n := 10) (by omega) h
 simpa using this
theorem Whole_calls (s : ByteArray) (w : World) : Calls prog 77 #[.string s, .int .i64 15] w fun e w' => e = .returned (.tuple #[.int .i64 (wholeN s : Nat), .bool (numB s)]) ∧ w' = w := by
 by_cases h0 : s.size = 0
 ·
  have HF : Hid (numB s = false) := numB_no (by omega)
  have HG : Hid (wholeN s = 0) := by simp [Hid, wholeN, HF.out]
  have he := empty_of h0
  go_enter func77, ntmps77
  go_wp2
  go_ret2
  exact ⟨ret_ib ⟨by rw [HG.out]; rfl, HF.out.symm⟩, rfl⟩
 have he := not_empty_of (s := s) (by omega)
 by_cases h1 : (15 : Int) < (s.size : Int)
 ·
  have HF : Hid (numB s = false) := numB_no (by omega)
  have HG : Hid (wholeN s = 0) := by simp [Hid, wholeN, HF.out]
  go_enter func77, ntmps77
  go_wp2
  go_ret2
  exact ⟨ret_ib ⟨by rw [HG.out]; rfl, HF.out.symm⟩, rfl⟩
 have hp : 0 < s.size := by omega
 have HB : ∃ b c : Bool, ((s[0].toNat : Int) == 48) = b ∧ decide ((1 : Int) < (s.size : Int)) = c ∧ Hid ((b && c) = true → numB s = false) ∧ Hid ((b && c) = false → numB s = allTo s.size fun i => isDig (byteAt s i)) := by
  refine ⟨_, _, rfl, rfl, ?_, ?_⟩
  ·
   intro h
   simp only [Bool.and_eq_true, beq_iff_eq, decide_eq_true_eq] at h
   exact numB_zero (by omega) (by rw [byteAt_get s 0 hp]; omega)
  ·
   intro h
   refine numB_rest (by omega) (by omega) ?_
   rintro ⟨x, y⟩
   rw [byteAt_get s 0 hp] at y
   rw [beq_iff_eq.2 (show (s[0].toNat : Int) = 48 by omega), decide_eq_true (show (1 : Int) < s.size by omega)] at h
   cases h
 obtain ⟨b, c, hb, hc, HT, HN⟩ := HB
 cases b <;> cases c
 case true.true =>
  have HF : Hid (numB s = false) := HT.out rfl
  have HG : Hid (wholeN s = 0) := by simp [Hid, wholeN, HF.out]
  clear HT HN
  go_enter func77, ntmps77
  go_wp2
  go_ret2
  exact ⟨ret_ib ⟨by rw [HG.out]; rfl, HF.out.symm⟩, rfl⟩
 all_goals
  have HM : Hid (numB s = allTo s.size fun i => isDig (byteAt s i)) := HN.out rfl
  clear HT HN
  go_enter func77, ntmps77
  go_wp2
  go_loop [6, 7] (fun n i => ∃ k : Nat, k ≤ s.size ∧ i = .int .i64 k ∧ n = .int .i64 (numTo s k : Nat) ∧ Hid (∀ j, j < k → isDig (byteAt s j) = true)) (fun _ i => s.size - (intOf i).toNat)
  case atStart => exact ⟨0, Nat.zero_le _, rfl, rfl, fun j hj => absurd hj (Nat.not_lt_zero _)⟩
  case round =>
   obtain ⟨k, hk, rfl, rfl, hall⟩ := hrel
   by_cases hlt : k < s.size
   ·
    by_cases ha : (s[k].toNat : Int) < 48
    ·
     have HF : Hid (numB s = false) := HM.out.trans (allTo_false hlt (by rw [byteAt_get s k hlt]; exact isDig_no (by omega)))
     have HG : Hid (wholeN s = 0) := by simp [Hid, wholeN, HF.out]
     go_wp2
     go_ret2
     exact ⟨ret_ib ⟨by rw [HG.out]; rfl, HF.out.symm⟩, rfl⟩
    ·
     by_cases hb : (57 : Int) < (s[k].toNat : Int)
     ·
      have HF : Hid (numB s = false) := HM.out.trans (allTo_false hlt (by rw [byteAt_get s k hlt]; exact isDig_no (by omega)))
      have HG : Hid (wholeN s = 0) := by simp [Hid, wholeN, HF.out]
      go_wp2
      go_ret2
      exact ⟨ret_ib ⟨by rw [HG.out]; rfl, HF.out.symm⟩, rfl⟩
     ·
      have hnb := Nat.lt_of_lt_of_le (numTo_le s k hk hall.out) (pow15 (by omega))
      have HS : Hid (numTo s (k + 1) = 10 * numTo s k + (s[k].toNat - 48)) := by simp only [Hid, numTo, byteAt_get s k hlt]
      have HD : Hid (∀ j, j < k + 1 → isDig (byteAt s j) = true) := fun j hj => by
       rcases Nat.lt_succ_iff_lt_or_eq.1 hj with h | rfl
       ·
        exact hall.out j h
       ·
        rw [byteAt_get s j hlt]; exact (isDig_iff _).2 (by omega)
      have ha' : (48 : Int) ≤ (s[k].toNat : Int) := by omega
      have hb' : (s[k].toNat : Int) ≤ 57 := by omega
      clear hall
      go_wp2
      go_round
      case rel => exact ⟨k + 1, by omega, by go_num, by rw [HS.out]; go_num, HD⟩
      case measure => simp [intOf]; omega
   ·
    have HF : Hid (numB s = true) := HM.out.trans (allTo_true (fun j hj => hall.out j (by omega)))
    have HG : Hid (wholeN s = numTo s k) := by
     obtain rfl : k = s.size := by omega
     simp [Hid, wholeN, HF.out, numN]
    go_wp2
    go_ret2
    exact ⟨ret_ib ⟨by rw [HG.out], HF.out.symm⟩, rfl⟩
end Go.Proofs.YtfbnnfpnjjjfcaaGreat

namespace Go.Proofs.YtfbnnfpnjjjfcaaGreat
set_option maxHeartbeats 16000000
set_option maxRecDepth 100000
open Tryz Go.RowKit
def StrsAt (w : World) (a : Option Addr) (V : List ByteArray) : Prop :=
 V.length ≤ 140737488355328 ∧ (∀ s ∈ V, s.size ≤ 140737488355328) ∧ (V ≠ [] → ∃ B off, a = some ⟨B, off, none⟩ ∧ B < w.heap.size ∧ ∀ i, i < V.length → w.cell? ⟨B, off + i, none⟩ = some (.string (V.getD i default)))
def LabsAt (w : World) (a : Option Addr) (L : List Lab) : Prop :=
 L.length ≤ 140737488355328 ∧ (∀ x ∈ L, x.1.size ≤ 140737488355328 ∧ x.2.size ≤ 140737488355328) ∧ (L ≠ [] → ∃ B off, a = some ⟨B, off, none⟩ ∧ B < w.heap.size ∧ ∀ i, i < L.length → w.cell? ⟨B, off + i * 2, none⟩ = some (.string (L.getD i default).1) ∧ w.cell? ⟨B, off + i * 2 + 1, none⟩ = some (.string (L.getD i default).2))
def AsksAt (w : World) (a : Option Addr) (R : List Ask) : Prop :=
 R.length ≤ 140737488355328 ∧ (∀ x ∈ R, x.key.size ≤ 140737488355328) ∧ (R ≠ [] → ∃ B off, a = some ⟨B, off, none⟩ ∧ B < w.heap.size ∧ ∀ i, i < R.length → w.cell? ⟨B, off + i * 3, none⟩ = some (.string (R.getD i default).key) ∧ w.cell? ⟨B, off + i * 3 + 1, none⟩ = some (.int .i64 (R.getD i default).op) ∧
  ∃ a' cap', w.cell? ⟨B, off + i * 3 + 2, none⟩ = some (.slice a' (R.getD i default).vals.length cap') ∧ StrsAt w a' (R.getD i default).vals)
theorem StrsAt.on {w w' : World} {a : Option Addr} {V : List ByteArray} (h : StrsAt w a V) (hb : Below w.heap.size w w') : StrsAt w' a V := by
 obtain ⟨h1, h2, h3⟩ := h
 refine ⟨h1, h2, fun hn => ?_⟩
 obtain ⟨B, off, rfl, hB, hc⟩ := h3 hn
 exact ⟨B, off, rfl, Nat.lt_of_lt_of_le hB hb.size, fun i hi => (hb.cell hB).trans (hc i hi)⟩
theorem LabsAt.on {w w' : World} {a : Option Addr} {L : List Lab} (h : LabsAt w a L) (hb : Below w.heap.size w w') : LabsAt w' a L := by
 obtain ⟨h1, h2, h3⟩ := h
 refine ⟨h1, h2, fun hn => ?_⟩
 obtain ⟨B, off, rfl, hB, hc⟩ := h3 hn
 exact ⟨B, off, rfl, Nat.lt_of_lt_of_le hB hb.size, fun i hi => ⟨(hb.cell hB).trans (hc i hi).1, (hb.cell hB).trans (hc i hi).2⟩⟩
theorem AsksAt.on {w w' : World} {a : Option Addr} {R : List Ask} (h : AsksAt w a R) (hb : Below w.heap.size w w') : AsksAt w' a R := by
 obtain ⟨h1, h2, h3⟩ := h
 refine ⟨h1, h2, fun hn => ?_⟩
 obtain ⟨B, off, rfl, hB, hc⟩ := h3 hn
 refine ⟨B, off, rfl, Nat.lt_of_lt_of_le hB hb.size, fun i hi => ?_⟩
 obtain ⟨c0, c1, a', cap', c2, hs⟩ := hc i hi
 exact ⟨(hb.cell hB).trans c0, (hb.cell hB).trans c1, a', cap', (hb.cell hB).trans c2, hs.on hb⟩
theorem StrsAt.nil (w : World) (a : Option Addr) : StrsAt w a [] := ⟨by simp, by simp, fun h => absurd rfl h⟩
theorem LabsAt.nil (w : World) (a : Option Addr) : LabsAt w a [] := ⟨by simp, by simp, fun h => absurd rfl h⟩
theorem AsksAt.nil (w : World) (a : Option Addr) : AsksAt w a [] := ⟨by simp, by simp, fun h => absurd rfl h⟩
theorem StrsAt.get {w : World} {a : Option Addr} {V : List ByteArray} (h : StrsAt w a V) {k : Nat} (hk : k < V.length) : ∃ B off, a = some ⟨B, off, none⟩ ∧ B < w.heap.size ∧ w.cell? ⟨B, off + k, none⟩ = some (.string (V.getD k default)) ∧ (V.getD k default).size ≤ 140737488355328 := by
 obtain ⟨h1, h2, h3⟩ := h
 obtain ⟨B, off, rfl, hB, hc⟩ := h3 (by intro e; rw [e] at hk; simp at hk)
 refine ⟨B, off, rfl, hB, hc k hk, h2 _ ?_⟩
 rw [List.getD_eq_getElem?_getD, List.getElem?_eq_getElem hk]
 exact List.getElem_mem hk
theorem LabsAt.get {w : World} {a : Option Addr} {L : List Lab} (h : LabsAt w a L) {k : Nat} (hk : k < L.length) : ∃ B off, a = some ⟨B, off, none⟩ ∧ B < w.heap.size ∧ w.cell? ⟨B, off + k * 2, none⟩ = some (.string (L.getD k default).1) ∧ w.cell? ⟨B, off + k * 2 + 1, none⟩ = some (.string (L.getD k default).2) ∧ (L.getD k default).1.size ≤ 140737488355328 ∧ (L.getD k default).2.size ≤ 140737488355328 := by
 obtain ⟨h1, h2, h3⟩ := h
 obtain ⟨B, off, rfl, hB, hc⟩ := h3 (by intro e; rw [e] at hk; simp at hk)
 refine ⟨B, off, rfl, hB, (hc k hk).1, (hc k hk).2, h2 _ ?_⟩
 rw [List.getD_eq_getElem?_getD, List.getElem?_eq_getElem hk]
 exact List.getElem_mem hk
theorem AsksAt.get {w : World} {a : Option Addr} {R : List Ask} (h : AsksAt w a R) {k : Nat} (hk : k < R.length) : ∃ B off, a = some ⟨B, off, none⟩ ∧ B < w.heap.size ∧ w.cell? ⟨B, off + k * 3, none⟩ = some (.string (R.getD k default).key) ∧ w.cell? ⟨B, off + k * 3 + 1, none⟩ = some (.int .i64 (R.getD k default).op) ∧
  (∃ a' cap', w.cell? ⟨B, off + k * 3 + 2, none⟩ = some (.slice a' (R.getD k default).vals.length cap') ∧ StrsAt w a' (R.getD k default).vals) ∧ (R.getD k default).key.size ≤ 140737488355328 := by
 obtain ⟨h1, h2, h3⟩ := h
 obtain ⟨B, off, rfl, hB, hc⟩ := h3 (by intro e; rw [e] at hk; simp at hk)
 refine ⟨B, off, rfl, hB, (hc k hk).1, (hc k hk).2.1, (hc k hk).2.2, h2 _ ?_⟩
 rw [List.getD_eq_getElem?_getD, List.getElem?_eq_getElem hk]
 exact List.getElem_mem hk
end Go.Proofs.YtfbnnfpnjjjfcaaGreat

namespace Go.Proofs.YtfbnnfpnjjjfcaaGreat
set_option maxHeartbeats 16000000
set_option maxRecDepth 100000
open Tryz Go.RowKit
set_option linter.unusedSimpArgs false
theorem allValues_calls (a : Option Addr) (cap : Nat) (V : List ByteArray) (w : World) (hV : Hid (StrsAt w a V)) : Calls prog 144 #[.slice a V.length cap] w fun e w' => e = .returned (.bool (allTo V.length fun i => valB (V.getD i default))) ∧ w' = w := by
 have hlen := hV.out.1
 go_enter func144, ntmps144
 go_wp2
 go_loop [7] (fun i => ∃ k : Nat, k ≤ V.length ∧ i = .int .i64 k ∧ Hid (∀ j, j < k → valB (V.getD j default) = true)) (fun i => V.length - (intOf i).toNat)
 case atStart => exact ⟨0, Nat.zero_le _, rfl, fun j hj => absurd hj (Nat.not_lt_zero _)⟩
 case round =>
  obtain ⟨k, hk, rfl, hall⟩ := hrel
  by_cases hlt : k < V.length
  ·
   obtain ⟨B, off, rfl, hB, hc, hs⟩ := hV.out.get hlt
   have hin := isValue_calls (V.getD k default)
   cases hv : valB (V.getD k default)
   ·
    rw [hv] at hin
    have HF : Hid (allTo V.length (fun i => valB (V.getD i default)) = false) := allTo_false hlt hv
    clear hv
    generalize V.getD k default = s at hin hc hs
    go_wp2_with (go_at_call 116; refine (hin _).mono ?_; rintro e w' ⟨rfl, rfl⟩)
    go_ret
    exact ⟨retb HF.out.symm, rfl⟩
   ·
    rw [hv] at hin
    have HG : Hid (∀ j, j < k + 1 → valB (V.getD j default) = true) := fun j hj => by
     rcases Nat.lt_succ_iff_lt_or_eq.1 hj with h | rfl
     ·
      exact hall.out j h
     ·
      exact hv
    clear hv
    generalize V.getD k default = s at hin hc hs
    go_wp2_with (go_at_call 116; refine (hin _).mono ?_; rintro e w' ⟨rfl, rfl⟩)
    go_round
    case rel => exact ⟨k + 1, by omega, by go_num, HG⟩
    case measure => simp [intOf]; omega
  ·
   have HF : Hid (allTo V.length (fun i => valB (V.getD i default)) = true) := allTo_true (fun j hj => hall.out j (by omega))
   go_wp2
   go_ret
   exact ⟨retb HF.out.symm, rfl⟩
theorem oneNumber_calls (a : Option Addr) (cap : Nat) (V : List ByteArray) (w : World) (hV : Hid (StrsAt w a V)) : Calls prog 145 #[.slice a V.length cap] w fun e w' => e = .returned (.bool (decide (V.length = 1) && numB (V.getD 0 default))) ∧ w' = w := by
 by_cases h1 : (V.length : Int) = 1
 ·
  have h1' : ((V.length : Int) == 1) = true := beq_iff_eq.2 h1
  obtain ⟨B, off, rfl, hB, hc, hs⟩ := hV.out.get (k := 0) (by omega)
  have hin := isNumber_calls (V.getD 0 default)
  have HF : Hid ((decide (V.length = 1) && numB (V.getD 0 default)) = numB (V.getD 0 default)) := by simp [Hid, show V.length = 1 by omega]
  rw [Nat.add_zero] at hc
  generalize V.getD 0 default = s at hin hc hs HF
  generalize numB s = b at hin HF
  go_enter func145, ntmps145
  go_wp2_with (go_at_call 151; refine (hin _).mono ?_; rintro e w' ⟨rfl, rfl⟩)
  go_ret
  exact ⟨retb HF.out.symm, rfl⟩
 ·
  have h1' : ((V.length : Int) == 1) = false := beq_eq_false_iff_ne.2 h1
  have HF : Hid ((decide (V.length = 1) && numB (V.getD 0 default)) = false) := by simp [Hid]; omega
  go_enter func145, ntmps145
  go_wp2
  go_ret
  exact ⟨retb HF.out.symm, rfl⟩
theorem reti {a b : Int} (h : a = b) : Ending.returned (.int .i64 a) = .returned (.int .i64 b) := by rw [h]
theorem checkI_long {L : List Lab} (h : 64 < L.length) : checkI L = 3 := if_pos h
theorem checkI_bad {L : List Lab} {k : Nat} (h : ¬ 64 < L.length) (hk : k < L.length) (hb : labOk L k = false) : checkI L = 20 := by
 unfold checkI; rw [if_neg h, allTo_false hk hb]; rfl
theorem checkI_ok {L : List Lab} (h : ¬ 64 < L.length) (hall : ∀ j, j < L.length → labOk L j = true) : checkI L = 0 := by
 unfold checkI; rw [if_neg h, allTo_true hall]; rfl
theorem LCheck_calls (a : Option Addr) (cap : Nat) (L : List Lab) (w : World) (hL : Hid (LabsAt w a L)) : Calls prog 99 #[.slice a L.length cap] w fun e w' => e = .returned (.int .i64 (checkI L)) ∧ Below w.heap.size w w' := by
 by_cases h64 : (64 : Int) < (L.length : Int)
 ·
  have HF : Hid (checkI L = 3) := checkI_long (by omega)
  go_enter func99, ntmps99
  go_wp2
  go_ret
  exact ⟨reti HF.out.symm, Below.refl _ _⟩
 go_enter func99, ntmps99
 go_wp2
 go_loopw [10] (fun i wr => ∃ k : Nat, k ≤ L.length ∧ i = .int .i64 k ∧ Below w.heap.size w wr ∧ Hid (∀ j, j < k → labOk L j = true)) (fun i _ => L.length - (intOf i).toNat)
 case atStart => exact ⟨0, Nat.zero_le _, rfl, Below.refl _ _, fun j hj => absurd hj (Nat.not_lt_zero _)⟩
 case round =>
  obtain ⟨k, hk, rfl, hbel, hall⟩ := hrel
  by_cases hlt : k < L.length
  ·
   obtain ⟨B, off, rfl, hB, c0, c1, s0, s1⟩ := hL.out.get hlt
   have d0 := (hbel.cell (p := ⟨B, off + k * 2, none⟩) hB).trans c0
   have d1 := (hbel.cell (p := ⟨B, off + k * 2 + 1, none⟩) hB).trans c1
   clear c0 c1
   have hW := Word_calls (L.getD k default).1
   have hI := isValue_calls (L.getD k default).2
   have hbad : Hid (labOk L k = false → checkI L = 20) := fun h => checkI_bad (by omega) hlt h
   have hgo : Hid (labOk L k = true → ∀ j, j < k + 1 → labOk L j = true) := fun h j hj => by
    rcases Nat.lt_succ_iff_lt_or_eq.1 hj with h' | rfl
    ·
     exact hall.out j h'
    ·
     exact h
   have hok : Hid (labOk L k = (wordB (L.getD k default).1 && valB (L.getD k default).2 && (decide (k = 0) || sLt (L.getD (k - 1) default).1 (L.getD k default).1))) := rfl
   clear hall
   cases hw : wordB (L.getD k default).1
   ·
    have HF : Hid (checkI L = 20) := hbad.out (by rw [hok.out, hw]; rfl)
    rw [hw] at hW
    clear hw hbad hgo hok hI
    generalize L.getD k default = x at d0 d1 s0 s1 hW
    go_wp2_with (go_at_call 97; refine (hW _).mono ?_; rintro e w' ⟨rfl, rfl⟩)
    go_ret
    exact ⟨reti HF.out.symm, on2 hbel (by go_grown)⟩
   ·
    rw [hw] at hW
    cases hv : valB (L.getD k default).2
    ·
     have HF : Hid (checkI L = 20) := hbad.out (by rw [hok.out, hw, hv]; rfl)
     rw [hv] at hI
     clear hw hv hbad hgo hok
     generalize L.getD k default = x at d0 d1 s0 s1 hW hI
     go_wp2_with (first | (go_at_call 97; refine (hW _).mono ?_; rintro e w' ⟨rfl, rfl⟩) | (go_at_call 116; refine (hI _).mono ?_; rintro e w' ⟨rfl, rfl⟩))
     go_ret
     exact ⟨reti HF.out.symm, on2 hbel (by go_grown)⟩
    ·
     rw [hv] at hI
     rcases Nat.eq_zero_or_pos k with h0 | h0
     ·
      have b0 : decide (0 < k) = false := by simp; omega
      have HG : Hid (∀ j, j < k + 1 → labOk L j = true) := hgo.out (by rw [hok.out, hw, hv, h0]; rfl)
      clear hw hv hbad hgo hok h0
      generalize L.getD k default = x at d0 d1 s0 s1 hW hI
      go_wp2_with (first | (go_at_call 97; refine (hW _).mono ?_; rintro e w' ⟨rfl, rfl⟩) | (go_at_call 116; refine (hI _).mono ?_; rintro e w' ⟨rfl, rfl⟩))
      go_quiet (fail)
      go_wp2_with fail
      go_roundw
      case rel => exact ⟨k + 1, by omega, by go_num, on2 hbel (below_drewN (by go_grown) _), HG⟩
      case measure => simp [intOf]; omega
     ·
      have b0 : (0 : Int) < (k : Int) := by omega
      obtain ⟨m, hm⟩ : ∃ m, Hid (k = m + 1) := ⟨k - 1, by unfold Hid; omega⟩
      have hme := hm.out
      have hmw : IntKind.i64.wrap ((k : Int) - 1) = (m : Int) := by rw [hme]; simp only [Int.natCast_add, Int.cast_ofNat_Int, Int.add_sub_cancel]; simp [IntKind.wrap, IntKind.bits, IntKind.signed]; omega
      have hkm : k - 1 = m := by omega
      have hml : m < L.length := by omega
      obtain ⟨B', off', e', hB', c0, c1, s0', s1'⟩ := hL.out.get (k := m) hml
      obtain ⟨rfl, rfl⟩ : B = B' ∧ off = off' := by simpa using e'
      have hBw : B < wr.heap.size := Nat.lt_of_lt_of_le hB hbel.size
      have p0 := (hbel.cell (p := ⟨B, off + m * 2, none⟩) hB).trans c0
      clear c0 c1 s0' s1' e' hB'
      rw [hkm] at hok
      clear hme hkm
      have hk0 : Hid (decide (k = 0) = false) := by simp [Hid]; omega
      cases hs : sLt (L.getD m default).1 (L.getD k default).1
      ·
       have HF : Hid (checkI L = 20) := hbad.out (by rw [hok.out, hw, hv, hs, hk0.out]; rfl)
       unfold sLt at hs
       clear hw hv hbad hgo hok
       generalize L.getD k default = x at d0 d1 s0 s1 hW hI hs
       generalize L.getD m default = y at p0 hs
       go_wp2_with (first | (go_at_call 97; refine (hW _).mono ?_; rintro e w' ⟨rfl, rfl⟩) | (go_at_call 116; refine (hI _).mono ?_; rintro e w' ⟨rfl, rfl⟩))
       go_quiet (fail)
       go_wp2_with fail
       go_ret
       exact ⟨reti HF.out.symm, on2 hbel (below_drewN (by go_grown) _)⟩
      ·
       have HG : Hid (∀ j, j < k + 1 → labOk L j = true) := hgo.out (by rw [hok.out, hw, hv, hs, hk0.out]; rfl)
       unfold sLt at hs
       clear hw hv hbad hgo hok
       generalize L.getD k default = x at d0 d1 s0 s1 hW hI hs
       generalize L.getD m default = y at p0 hs
       go_wp2_with (first | (go_at_call 97; refine (hW _).mono ?_; rintro e w' ⟨rfl, rfl⟩) | (go_at_call 116; refine (hI _).mono ?_; rintro e w' ⟨rfl, rfl⟩))
       go_quiet (fail)
       go_wp2_with fail
       go_roundw
       case rel => exact ⟨k + 1, by omega, by go_num, on2 hbel (below_drewN (by go_grown) _), HG⟩
       case measure => simp [intOf]; omega
  ·
   have HF : Hid (checkI L = 0) := checkI_ok (by omega) (fun j hj => hall.out j (by omega))
   go_wp2
   go_ret
   exact ⟨reti HF.out.symm, hbel⟩
end Go.Proofs.YtfbnnfpnjjjfcaaGreat

