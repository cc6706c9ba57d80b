/- label.Check and the document's own return what the plain function says; they change nothing that was there. Condition: the slice holds what is said of it. -/
import Derived.Test.YtpehmobedcflnaaLStr
import Derived.Laws.Cover1
namespace Go.Proofs.Ytpehmobedcflnaa
open Go.RowKit
set_option linter.unusedSimpArgs false

theorem reti {a b : Int} (h : a = b) : Ending.returned (.int .i64 a) = .returned (.int .i64 b) := by rw [h]
theorem checkI_long {L : List Lab} (h : 64 < L.length) : checkI L = 3 := if_pos h
theorem checkI_bad {L : List Lab} {k : Nat} (h : ¬ 64 < L.length) (hk : k < L.length) (hb : labOk L k = false) : checkI L = 20 := by
  unfold checkI; rw [if_neg h, allTo_false hk hb]; rfl
theorem checkI_ok {L : List Lab} (h : ¬ 64 < L.length) (hall : ∀ j, j < L.length → labOk L j = true) : checkI L = 0 := by
  unfold checkI; rw [if_neg h, allTo_true hall]; rfl

set_option maxHeartbeats 2000000 in
theorem Check_calls (a : Option Addr) (cap : Nat) (L : List Lab) (w : World) (hL : Hid (LabsAt w a L)) : Calls Try.prog 13 #[.slice a L.length cap] w fun e w' => e = .returned (.int .i64 (checkI L)) ∧ Below w.heap.size w w' := by
  by_cases h64 : (64 : Int) < (L.length : Int)
  · have HF : Hid (checkI L = 3) := checkI_long (by omega)
    go_enter Try.func13, Try.ntmps13
    go_wp2
    go_ret
    exact ⟨reti HF.out.symm, Below.refl _ _⟩
  go_enter Try.func13, Try.ntmps13
  go_wp2
  go_loopw [10] (fun i wr => ∃ k : Nat, k ≤ L.length ∧ i = .int .i64 k ∧ Below w.heap.size w wr ∧ Hid (∀ j, j < k → labOk L j = true)) (fun i _ => L.length - (intOf i).toNat)
  case atStart => exact ⟨0, Nat.zero_le _, rfl, Below.refl _ _, fun j hj => absurd hj (Nat.not_lt_zero _)⟩
  case round =>
    obtain ⟨k, hk, rfl, hbel, hall⟩ := hrel
    by_cases hlt : k < L.length
    · obtain ⟨B, off, rfl, hB, c0, c1, s0, s1⟩ := hL.out.get hlt
      have d0 := (hbel.cell (p := ⟨B, off + k * 2, none⟩) hB).trans c0
      have d1 := (hbel.cell (p := ⟨B, off + k * 2 + 1, none⟩) hB).trans c1
      clear c0 c1
      have hW := Word_calls (L.getD k default).1
      have hI := isValue_calls (L.getD k default).2
      have hbad : Hid (labOk L k = false → checkI L = 20) := fun h => checkI_bad (by omega) hlt h
      have hgo : Hid (labOk L k = true → ∀ j, j < k + 1 → labOk L j = true) := fun h j hj => by
        rcases Nat.lt_succ_iff_lt_or_eq.1 hj with h' | rfl
        · exact hall.out j h'
        · exact h
      have hok : Hid (labOk L k = (wordB (L.getD k default).1 && valB (L.getD k default).2 && (decide (k = 0) || sLt (L.getD (k - 1) default).1 (L.getD k default).1))) := rfl
      clear hall
      cases hw : wordB (L.getD k default).1
      · have HF : Hid (checkI L = 20) := hbad.out (by rw [hok.out, hw]; rfl)
        rw [hw] at hW
        clear hw hbad hgo hok hI
        generalize L.getD k default = x at d0 d1 s0 s1 hW
        go_wp2_with (go_at_call 11; refine (hW _).mono ?_; rintro e w' ⟨rfl, rfl⟩)
        go_ret
        exact ⟨reti HF.out.symm, on2 hbel (by go_grown)⟩
      · rw [hw] at hW
        cases hv : valB (L.getD k default).2
        · have HF : Hid (checkI L = 20) := hbad.out (by rw [hok.out, hw, hv]; rfl)
          rw [hv] at hI
          clear hw hv hbad hgo hok
          generalize L.getD k default = x at d0 d1 s0 s1 hW hI
          go_wp2_with (first | (go_at_call 11; refine (hW _).mono ?_; rintro e w' ⟨rfl, rfl⟩) | (go_at_call 34; refine (hI _).mono ?_; rintro e w' ⟨rfl, rfl⟩))
          go_ret
          exact ⟨reti HF.out.symm, on2 hbel (by go_grown)⟩
        · rw [hv] at hI
          rcases Nat.eq_zero_or_pos k with h0 | h0
          · have b0 : decide (0 < k) = false := by simp; omega
            have HG : Hid (∀ j, j < k + 1 → labOk L j = true) := hgo.out (by rw [hok.out, hw, hv, h0]; rfl)
            clear hw hv hbad hgo hok h0
            generalize L.getD k default = x at d0 d1 s0 s1 hW hI
            go_wp2_with (first | (go_at_call 11; refine (hW _).mono ?_; rintro e w' ⟨rfl, rfl⟩) | (go_at_call 34; refine (hI _).mono ?_; rintro e w' ⟨rfl, rfl⟩))
            go_quiet (fail)
            go_wp2_with fail
            go_roundw
            case rel => exact ⟨k + 1, by omega, by go_num, on2 hbel (below_drewN (by go_grown) _), HG⟩
            case measure => simp [intOf]; omega
          · have b0 : (0 : Int) < (k : Int) := by omega
            obtain ⟨m, hm⟩ : ∃ m, Hid (k = m + 1) := ⟨k - 1, by unfold Hid; omega⟩
            have hme := hm.out
            have hmw : IntKind.i64.wrap ((k : Int) - 1) = (m : Int) := by rw [hme]; simp only [Int.natCast_add, Int.cast_ofNat_Int, Int.add_sub_cancel]; simp [IntKind.wrap, IntKind.bits, IntKind.signed]; omega
            have hkm : k - 1 = m := by omega
            have hml : m < L.length := by omega
            obtain ⟨B', off', e', hB', c0, c1, s0', s1'⟩ := hL.out.get (k := m) hml
            obtain ⟨rfl, rfl⟩ : B = B' ∧ off = off' := by simpa using e'
            have hBw : B < wr.heap.size := Nat.lt_of_lt_of_le hB hbel.size
            have p0 := (hbel.cell (p := ⟨B, off + m * 2, none⟩) hB).trans c0
            clear c0 c1 s0' s1' e' hB'
            rw [hkm] at hok
            clear hme hkm
            have hk0 : Hid (decide (k = 0) = false) := by simp [Hid]; omega
            cases hs : sLt (L.getD m default).1 (L.getD k default).1
            · have HF : Hid (checkI L = 20) := hbad.out (by rw [hok.out, hw, hv, hs, hk0.out]; rfl)
              unfold sLt at hs
              clear hw hv hbad hgo hok
              generalize L.getD k default = x at d0 d1 s0 s1 hW hI hs
              generalize L.getD m default = y at p0 hs
              go_wp2_with (first | (go_at_call 11; refine (hW _).mono ?_; rintro e w' ⟨rfl, rfl⟩) | (go_at_call 34; refine (hI _).mono ?_; rintro e w' ⟨rfl, rfl⟩))
              go_quiet (fail)
              go_wp2_with fail
              go_ret
              exact ⟨reti HF.out.symm, on2 hbel (below_drewN (by go_grown) _)⟩
            · have HG : Hid (∀ j, j < k + 1 → labOk L j = true) := hgo.out (by rw [hok.out, hw, hv, hs, hk0.out]; rfl)
              unfold sLt at hs
              clear hw hv hbad hgo hok
              generalize L.getD k default = x at d0 d1 s0 s1 hW hI hs
              generalize L.getD m default = y at p0 hs
              go_wp2_with (first | (go_at_call 11; refine (hW _).mono ?_; rintro e w' ⟨rfl, rfl⟩) | (go_at_call 34; refine (hI _).mono ?_; rintro e w' ⟨rfl, rfl⟩))
              go_quiet (fail)
              go_wp2_with fail
              go_roundw
              case rel => exact ⟨k + 1, by omega, by go_num, on2 hbel (below_drewN (by go_grown) _), HG⟩
              case measure => simp [intOf]; omega
    · have HF : Hid (checkI L = 0) := checkI_ok (by omega) (fun j hj => hall.out j (by omega))
      go_wp2
      go_ret
      exact ⟨reti HF.out.symm, hbel⟩
end Go.Proofs.Ytpehmobedcflnaa
