/- label.isDigit, inWord, Word, isValue, isNumber and the document's own Word, Whole return what the plain functions say, and change nothing. Condition: the text is no longer than a Go string can be. -/
import Derived.Test.YtgffnkfiecieeaaLPlain
namespace Go.Proofs.Ytgffnkfiecieeaa
open Go.RowKit
set_option linter.unusedSimpArgs false

theorem retb {a b : Bool} (h : a = b) : Ending.returned (.bool a) = .returned (.bool b) := by rw [h]
theorem isDig_iff (c : UInt8) : isDig c = true ↔ 48 ≤ c.toNat ∧ c.toNat ≤ 57 := by simp [isDig]
theorem isDig_no {c : UInt8} (h : ¬(48 ≤ c.toNat ∧ c.toNat ≤ 57)) : isDig c = false := by
  cases e : isDig c
  · rfl
  · exact absurd ((isDig_iff c).1 e) h

theorem isDigit_calls (c : UInt8) (w : World) : Calls Try.prog 42 #[.int .u8 (c.toNat : Int)] w fun e w' => e = .returned (.bool (isDig c)) ∧ w' = w := by
  by_cases h1 : (48 : Int) ≤ (c.toNat : Int)
  · by_cases h2 : (c.toNat : Int) ≤ 57
    · have HF : Hid (isDig c = true) := (isDig_iff c).2 ⟨by omega, by omega⟩
      go_enter Try.func42, Try.ntmps42
      go_wp2
      go_ret
      exact ⟨retb HF.out.symm, rfl⟩
    · have HF : Hid (isDig c = false) := isDig_no (by omega)
      go_enter Try.func42, Try.ntmps42
      go_wp2
      go_ret
      exact ⟨retb HF.out.symm, rfl⟩
  · have HF : Hid (isDig c = false) := isDig_no (by omega)
    go_enter Try.func42, Try.ntmps42
    go_wp2
    go_ret
    exact ⟨retb HF.out.symm, rfl⟩

theorem wChar_low {c : UInt8} (h : (97 : Int) ≤ c.toNat) (h2 : (c.toNat : Int) ≤ 122) : wChar c = true := by
  have : decide (97 ≤ c.toNat) = true := by simp; omega
  have h3 : decide (c.toNat ≤ 122) = true := by simp; omega
  simp [wChar, this, h3]
theorem wChar_else {c : UInt8} (h : ¬((97 : Int) ≤ c.toNat ∧ (c.toNat : Int) ≤ 122)) : wChar c = (isDig c || decide (c.toNat = 45) || decide (c.toNat = 46) || decide (c.toNat = 47)) := by
  have : (decide (97 ≤ c.toNat) && decide (c.toNat ≤ 122)) = false := by simp; omega
  simp [wChar, this]

set_option maxHeartbeats 1000000 in
theorem inWord_calls (c : UInt8) (w : World) : Calls Try.prog 39 #[.int .u8 (c.toNat : Int)] w fun e w' => e = .returned (.bool (wChar c)) ∧ w' = w := by
  have H : ((97 : Int) ≤ c.toNat ∧ (c.toNat : Int) ≤ 122 ∧ Hid (wChar c = true)) ∨ ((¬ (97 : Int) ≤ c.toNat ∨ ((97 : Int) ≤ c.toNat ∧ ¬ (c.toNat : Int) ≤ 122)) ∧ Hid (wChar c = (isDig c || decide (c.toNat = 45) || decide (c.toNat = 46) || decide (c.toNat = 47)))) := by
    by_cases h1 : (97 : Int) ≤ (c.toNat : Int)
    · by_cases h2 : (c.toNat : Int) ≤ 122
      · exact .inl ⟨h1, h2, wChar_low h1 h2⟩
      · exact .inr ⟨.inr ⟨h1, h2⟩, wChar_else (by omega)⟩
    · exact .inr ⟨.inl h1, wChar_else (by omega)⟩
  rcases H with ⟨h1, h2, HF⟩ | ⟨H, HF⟩
  · go_enter Try.func39, Try.ntmps39
    go_wp2
    go_ret
    exact ⟨retb HF.out.symm, rfl⟩
  · have hdig := isDigit_calls c
    have HG : ∃ d e f g : Bool, isDig c = d ∧ ((c.toNat : Int) == 45) = e ∧ ((c.toNat : Int) == 46) = f ∧ ((c.toNat : Int) == 47) = g ∧ Hid (wChar c = (d || e || f || g)) := by
      refine ⟨_, _, _, _, rfl, rfl, rfl, rfl, ?_⟩
      refine HF.out.trans ?_
      have e1 : decide (c.toNat = 45) = ((c.toNat : Int) == 45) := by rw [Bool.eq_iff_iff]; simp; omega
      have e2 : decide (c.toNat = 46) = ((c.toNat : Int) == 46) := by rw [Bool.eq_iff_iff]; simp; omega
      have e3 : decide (c.toNat = 47) = ((c.toNat : Int) == 47) := by rw [Bool.eq_iff_iff]; simp; omega
      rw [e1, e2, e3]
    obtain ⟨d, e, f, g, hd, he, hf, hg, HV⟩ := HG
    clear HF
    rw [hd] at hdig
    clear hd
    rcases H with h1 | ⟨h1, h2⟩ <;> cases d <;> cases e <;> cases f <;> cases g <;>
    · go_enter Try.func39, Try.ntmps39
      go_wp2_with (go_at_call 42; refine (hdig _).mono ?_; rintro e w' ⟨rfl, rfl⟩)
      go_ret
      exact ⟨retb HV.out.symm, rfl⟩

theorem wordB_no {s : ByteArray} (h : ¬(1 ≤ s.size ∧ s.size ≤ 32)) : wordB s = false := by
  have : (decide (1 ≤ s.size) && decide (s.size ≤ 32)) = false := by simp; omega
  simp [wordB, this]
theorem wordB_rest {s : ByteArray} (h1 : 1 ≤ s.size) (h2 : s.size ≤ 32) : wordB s = allTo s.size fun i => wChar (byteAt s i) := by
  simp [wordB, h1, h2]

set_option maxHeartbeats 1000000 in
theorem Word_calls (s : ByteArray) (w : World) : Calls Try.prog 32 #[.string s] w fun e w' => e = .returned (.bool (wordB s)) ∧ w' = w := by
  by_cases h0 : (s.size : Int) = 0
  · have HF : Hid (wordB s = false) := wordB_no (by omega)
    have h0' : ((s.size : Int) == 0) = true := beq_iff_eq.2 h0
    go_enter Try.func32, Try.ntmps32
    go_wp2
    go_ret
    exact ⟨retb HF.out.symm, rfl⟩
  · have h0' : ((s.size : Int) == 0) = false := beq_eq_false_iff_ne.2 h0
    by_cases h1 : (32 : Int) < (s.size : Int)
    · have HF : Hid (wordB s = false) := wordB_no (by omega)
      go_enter Try.func32, Try.ntmps32
      go_wp2
      go_ret
      exact ⟨retb HF.out.symm, rfl⟩
    · have HN : Hid (wordB s = allTo s.size fun i => wChar (byteAt s i)) := wordB_rest (by omega) (by omega)
      go_enter Try.func32, Try.ntmps32
      go_wp2
      go_loop [14] (fun i => ∃ k : Nat, k ≤ s.size ∧ i = .int .i64 k ∧ Hid (∀ j, j < k → wChar (byteAt s j) = true)) (fun i => s.size - (intOf i).toNat)
      case atStart => exact ⟨0, Nat.zero_le _, rfl, fun j hj => absurd hj (Nat.not_lt_zero _)⟩
      case round =>
        obtain ⟨k, hk, rfl, hall⟩ := hrel
        by_cases hlt : k < s.size
        · have hin := inWord_calls s[k]
          cases hc : wChar s[k]
          · rw [hc] at hin
            have HF : Hid (wordB s = false) := HN.out.trans (allTo_false hlt (by rw [byteAt_get s k hlt]; exact hc))
            clear hc
            go_wp2_with (go_at_call 39; refine (hin _).mono ?_; rintro e w' ⟨rfl, rfl⟩)
            go_ret
            exact ⟨retb HF.out.symm, rfl⟩
          · rw [hc] at hin
            have HS : Hid (wChar (byteAt s k) = true) := by rw [Hid, byteAt_get s k hlt]; exact hc
            clear hc
            go_wp2_with (go_at_call 39; refine (hin _).mono ?_; rintro e w' ⟨rfl, rfl⟩)
            go_round
            case rel => exact ⟨k + 1, by omega, by go_num, fun j hj => by rcases Nat.lt_succ_iff_lt_or_eq.1 hj with h | rfl; exact hall.out j h; exact HS.out⟩
            case measure => simp [intOf]; omega
        · have HF : Hid (wordB s = true) := HN.out.trans (allTo_true (fun j hj => hall.out j (by omega)))
          go_wp2
          go_ret
          exact ⟨retb HF.out.symm, rfl⟩
end Go.Proofs.Ytgffnkfiecieeaa
