/- The document's own Word returns what the plain function says, and changes nothing. Condition: the text is no longer than a Go string can be. -/
import Derived.Test.YtgffnkfiecieeaaLLeaf
namespace Go.Proofs.Ytgffnkfiecieeaa
open Go.RowKit
set_option linter.unusedSimpArgs false

theorem empty_of {s : ByteArray} (h : s.size = 0) : s.toList.isEmpty = true := by
  rw [ByteArray.toList_eq, List.isEmpty_iff_length_eq_zero]
  simpa using h
theorem not_empty_of {s : ByteArray} (h : 1 ≤ s.size) : s.toList.isEmpty = false := by
  cases e : s.toList.isEmpty
  · rfl
  · rw [ByteArray.toList_eq, List.isEmpty_iff_length_eq_zero] at e
    have e' : s.size = 0 := by simpa using e
    omega

theorem wChar_no {c : UInt8} (h1 : ¬((97 : Int) ≤ c.toNat ∧ (c.toNat : Int) ≤ 122)) (h2 : ¬((48 : Int) ≤ c.toNat ∧ (c.toNat : Int) ≤ 57)) (h3 : (c.toNat : Int) ≠ 45) (h4 : (c.toNat : Int) ≠ 46) (h5 : (c.toNat : Int) ≠ 47) : wChar c = false := by
  rw [wChar_else h1, isDig_no (by omega)]
  simp; omega
theorem wChar_dig {c : UInt8} (h : (48 : Int) ≤ c.toNat ∧ (c.toNat : Int) ≤ 57) : wChar c = true := by
  have := (isDig_iff c).2 (by omega); simp [wChar, this]
theorem wChar_sign {c : UInt8} (h : (c.toNat : Int) = 45 ∨ (c.toNat : Int) = 46 ∨ (c.toNat : Int) = 47) : wChar c = true := by
  have : c.toNat = 45 ∨ c.toNat = 46 ∨ c.toNat = 47 := by omega
  rcases this with h | h | h <;> simp [wChar, h]

/-- The paths through the document's test of one byte. -/
theorem wChar_paths (c : UInt8) : (¬ (c.toNat : Int) < 97 ∧ ¬ (122 : Int) < c.toNat ∧ Hid (wChar c = true)) ∨
    (((c.toNat : Int) < 97 ∨ (¬ (c.toNat : Int) < 97 ∧ (122 : Int) < c.toNat)) ∧
      ((¬ (c.toNat : Int) < 48 ∧ ¬ (57 : Int) < c.toNat ∧ Hid (wChar c = true)) ∨
       (((c.toNat : Int) < 48 ∨ (¬ (c.toNat : Int) < 48 ∧ (57 : Int) < c.toNat)) ∧
        ((((c.toNat : Int) != 45) = false ∧ Hid (wChar c = true)) ∨ (((c.toNat : Int) != 45) = true ∧
         ((((c.toNat : Int) != 46) = false ∧ Hid (wChar c = true)) ∨ (((c.toNat : Int) != 46) = true ∧
          ((((c.toNat : Int) != 47) = false ∧ Hid (wChar c = true)) ∨ (((c.toNat : Int) != 47) = true ∧ Hid (wChar c = false)))))))))) := by
  by_cases h1 : (c.toNat : Int) < 97 ∨ (122 : Int) < c.toNat
  · refine .inr ⟨by omega, ?_⟩
    by_cases h2 : (c.toNat : Int) < 48 ∨ (57 : Int) < c.toNat
    · refine .inr ⟨by omega, ?_⟩
      by_cases h3 : (c.toNat : Int) = 45
      · exact .inl ⟨by rw [h3]; rfl, wChar_sign (.inl h3)⟩
      refine .inr ⟨bne_iff_ne.2 h3, ?_⟩
      by_cases h4 : (c.toNat : Int) = 46
      · exact .inl ⟨by rw [h4]; rfl, wChar_sign (.inr (.inl h4))⟩
      refine .inr ⟨bne_iff_ne.2 h4, ?_⟩
      by_cases h5 : (c.toNat : Int) = 47
      · exact .inl ⟨by rw [h5]; rfl, wChar_sign (.inr (.inr h5))⟩
      exact .inr ⟨bne_iff_ne.2 h5, wChar_no (by omega) (by omega) h3 h4 h5⟩
    · exact .inl ⟨by omega, by omega, wChar_dig (by omega)⟩
  · exact .inl ⟨by omega, by omega, wChar_low (by omega) (by omega)⟩

theorem wordB_bad {s : ByteArray} {k : Nat} (h : k < s.size) (hc : wChar s[k] = false) : wordB s = false := by
  have : allTo s.size (fun i => wChar (byteAt s i)) = false := allTo_false h (by rw [byteAt_get s k h]; exact hc)
  simp [wordB, this]
theorem wordB_good {s : ByteArray} (h : ∀ j, j < s.size → wChar (byteAt s j) = true) : wordB s = (decide (1 ≤ s.size) && decide (s.size ≤ 32)) := by
  have : allTo s.size (fun i => wChar (byteAt s i)) = true := allTo_true h
  simp [wordB, this]

set_option maxHeartbeats 2000000 in
theorem rWord_calls (s : ByteArray) (hs : s.size ≤ 140737488355328) (w : World) : Calls Try.prog 24 #[.string s] w fun e w' => e = .returned (.bool (wordB s)) ∧ w' = w := by
  go_enter Try.func24, Try.ntmps24
  go_wp2
  go_loop [3] (fun i => ∃ k : Nat, k ≤ s.size ∧ i = .int .i64 k ∧ Hid (∀ j, j < k → wChar (byteAt s j) = true)) (fun i => s.size - (intOf i).toNat)
  case atStart => exact ⟨0, Nat.zero_le _, rfl, fun j hj => absurd hj (Nat.not_lt_zero _)⟩
  case round =>
    obtain ⟨k, hk, rfl, hall⟩ := hrel
    by_cases hlt : k < s.size
    · have hgo : Hid (wChar s[k] = true → ∀ j, j < k + 1 → wChar (byteAt s j) = true) := by
        intro hc j hj
        rcases Nat.lt_succ_iff_lt_or_eq.1 hj with h | rfl
        · exact hall.out j h
        · rw [byteAt_get s j hlt]; exact hc
      have hbad : Hid (wChar s[k] = false → wordB s = false) := fun hc => wordB_bad hlt hc
      clear hall
      rcases wChar_paths s[k] with ⟨p1, p2, hy⟩ | ⟨p1 | ⟨p1, p2⟩, ⟨q1, q2, hy⟩ | ⟨q1 | ⟨q1, q2⟩, ⟨r1, hy⟩ | ⟨r1, ⟨r2, hy⟩ | ⟨r2, ⟨r3, hy⟩ | ⟨r3, hn⟩⟩⟩⟩⟩
      all_goals first
        | (exfalso; omega)
        | (exfalso; simp only [bne_eq_false_iff_eq] at r1; omega)
        | (exfalso; simp only [bne_eq_false_iff_eq] at r2; omega)
        | (exfalso; simp only [bne_eq_false_iff_eq] at r3; omega)
        | (have HG : Hid (∀ j, j < k + 1 → wChar (byteAt s j) = true) := hgo.out hy.out
           clear hgo hbad hy
           go_wp2
           go_round
           case rel => exact ⟨k + 1, by omega, by go_num, HG⟩
           case measure => simp [intOf]; omega)
        | (have HF : Hid (wordB s = false) := hbad.out hn.out
           clear hgo hbad hn
           go_wp2
           go_ret
           exact ⟨retb HF.out.symm, rfl⟩)
    · obtain rfl : k = s.size := by omega
      have HG : Hid (wordB s = (decide (1 ≤ s.size) && decide (s.size ≤ 32))) := wordB_good hall.out
      clear hall
      by_cases h0 : s.size = 0
      · have he := empty_of h0
        have HF : Hid (wordB s = false) := HG.out.trans (by simp; omega)
        go_wp2
        go_ret
        exact ⟨retb HF.out.symm, rfl⟩
      · have he := not_empty_of (s := s) (by omega)
        by_cases h1 : (s.size : Int) ≤ 32
        · have HF : Hid (wordB s = true) := HG.out.trans (by simp; omega)
          go_wp2
          go_ret
          exact ⟨retb HF.out.symm, rfl⟩
        · have HF : Hid (wordB s = false) := HG.out.trans (by simp; omega)
          go_wp2
          go_ret
          exact ⟨retb HF.out.symm, rfl⟩
end Go.Proofs.Ytgffnkfiecieeaa
