/- The document's own Check returns what the plain function says, and changes nothing but the count of draws. Condition: the slice holds what is said of it. -/
import Derived.Test.YtpehmobedcflnaaLVal
namespace Go.Proofs.Ytpehmobedcflnaa
open Go.RowKit
set_option linter.unusedSimpArgs false

theorem rWord_as (s : ByteArray) (b : Bool) (h : wordB s = b) (hs : s.size ≤ 140737488355328) (w : World) : Calls Try.prog 12 #[.string s] w fun e w' => e = .returned (.bool b) ∧ w' = w := h ▸ rWord_calls s hs w

set_option maxHeartbeats 4000000 in
theorem rCheck_calls (a : Option Addr) (cap : Nat) (L : List Lab) (w : World) (hL : Hid (LabsAt w a L)) : Calls Try.prog 14 #[.slice a L.length cap] w fun e w' => e = .returned (.int .i64 (checkI L)) ∧ Below w.heap.size w w' := by
  by_cases h64 : (64 : Int) < (L.length : Int)
  · have HF : Hid (checkI L = 3) := checkI_long (by omega)
    go_enter Try.func14, Try.ntmps14
    go_wp2
    go_ret
    exact ⟨reti HF.out.symm, Below.refl _ _⟩
  go_enter Try.func14, Try.ntmps14
  go_wp2
  go_loopw [3] (fun i wr => ∃ k : Nat, k ≤ L.length ∧ i = .int .i64 k ∧ Below w.heap.size w wr ∧ Hid (∀ j, j < k → labOk L j = true)) (fun i _ => L.length - (intOf i).toNat)
  case atStart => exact ⟨0, Nat.zero_le _, rfl, Below.refl _ _, fun j hj => absurd hj (Nat.not_lt_zero _)⟩
  case round =>
    obtain ⟨k, hk, rfl, hbel, hall⟩ := hrel
    by_cases hlt : k < L.length
    · obtain ⟨B, off, rfl, hB, c0, c1, s0, s1⟩ := hL.out.get hlt
      have d0 := (hbel.cell (p := ⟨B, off + k * 2, none⟩) hB).trans c0
      have d1 := (hbel.cell (p := ⟨B, off + k * 2 + 1, none⟩) hB).trans c1
      clear c0 c1
      have hbad : Hid (labOk L k = false → checkI L = 20) := fun h => checkI_bad (by omega) hlt h
      have hgo : Hid (labOk L k = true → ∀ j, j < k + 1 → labOk L j = true) := fun h j hj => by
        rcases Nat.lt_succ_iff_lt_or_eq.1 hj with h' | rfl
        · exact hall.out j h'
        · exact h
      have hok : Hid (labOk L k = (wordB (L.getD k default).1 && valB (L.getD k default).2 && (decide (k = 0) || sLt (L.getD (k - 1) default).1 (L.getD k default).1))) := rfl
      clear hall
      cases hw : wordB (L.getD k default).1
      · have HF : Hid (checkI L = 20) := hbad.out (by rw [hok.out, hw]; rfl)
        clear hbad hgo hok
        generalize L.getD k default = x at d0 d1 s0 s1 hw
        go_wp2_with fail
        go_big_quiet ((go_at_call 12; exact Calls.quiet_of_same (rWord_as _ _ (by assumption) (by assumption) _)))
        go_wp2_with fail
        go_ret
        exact ⟨reti HF.out.symm, on2 hbel (below_drewN (Below.refl _ _) _)⟩
      · have HV := val_split (L.getD k default).2
        have HK : (Hid (k = 0) ∧ decide (0 < k) = false) ∨ (Hid (0 < k) ∧ decide (0 < k) = true ∧ ∃ m : Nat, Hid (k = m + 1) ∧ IntKind.i64.wrap ((k : Int) - 1) = (m : Int) ∧ m < L.length) := by
          rcases Nat.eq_zero_or_pos k with h0 | h0
          · exact .inl ⟨h0, by simp; omega⟩
          · refine .inr ⟨h0, by simp; omega, k - 1, by unfold Hid; omega, ?_, by omega⟩
            obtain ⟨m, rfl⟩ : ∃ m, k = m + 1 := ⟨k - 1, by omega⟩
            simp only [Int.natCast_add, Int.cast_ofNat_Int, Int.add_sub_cancel, Nat.add_sub_cancel]
            simp [IntKind.wrap, IntKind.bits, IntKind.signed]; omega
        rcases HV with ⟨he, hv⟩ | ⟨he, hv⟩
        · rcases HK with ⟨h0, b0⟩ | ⟨h0, b0, m, hm, hmw, hml⟩
          · have HG : Hid (∀ j, j < k + 1 → labOk L j = true) := hgo.out (by rw [hok.out, hw, hv.out, h0.out]; rfl)
            clear hv hbad hgo hok h0
            generalize L.getD k default = x at d0 d1 s0 s1 hw he
            go_wp2_with fail
            go_big_quiet ((go_at_call 12; exact Calls.quiet_of_same (rWord_as _ _ (by assumption) (by assumption) _)))
            go_wp2_with fail
            go_roundw
            case rel => exact ⟨k + 1, by omega, by go_num, on2 hbel (below_drewN (Below.refl _ _) _), HG⟩
            case measure => simp [intOf]; omega
          · obtain ⟨B', off', e', hB', c0, c1, s0', s1'⟩ := hL.out.get hml
            obtain ⟨rfl, rfl⟩ : B = B' ∧ off = off' := by simpa using e'
            have hBw : B < wr.heap.size := Nat.lt_of_lt_of_le hB hbel.size
            have p0 := (hbel.cell (p := ⟨B, off + m * 2, none⟩) hB).trans c0
            have hkm : k - 1 = m := by have := hm.out; omega
            have hk0 : Hid (decide (k = 0) = false) := by have := h0.out; simp [Hid]; omega
            rw [hkm] at hok
            clear c0 c1 s0' s1' e' hB' hkm h0
            cases hs : sLt (L.getD m default).1 (L.getD k default).1
            · have HF : Hid (checkI L = 20) := hbad.out (by rw [hok.out, hw, hv.out, hs, hk0.out]; rfl)
              unfold sLt at hs
              clear hv hbad hgo hok hk0
              generalize L.getD k default = x at d0 d1 s0 s1 hw he hs
              generalize L.getD m default = y at p0 hs
              go_wp2_with fail
              go_big_quiet ((go_at_call 12; exact Calls.quiet_of_same (rWord_as _ _ (by assumption) (by assumption) _)))
              go_wp2_with fail
              go_ret
              exact ⟨reti HF.out.symm, on2 hbel (below_drewN (Below.refl _ _) _)⟩
            · have HG : Hid (∀ j, j < k + 1 → labOk L j = true) := hgo.out (by rw [hok.out, hw, hv.out, hs, hk0.out]; rfl)
              unfold sLt at hs
              clear hv hbad hgo hok hk0
              generalize L.getD k default = x at d0 d1 s0 s1 hw he hs
              generalize L.getD m default = y at p0 hs
              go_wp2_with fail
              go_big_quiet ((go_at_call 12; exact Calls.quiet_of_same (rWord_as _ _ (by assumption) (by assumption) _)))
              go_wp2_with fail
              go_roundw
              case rel => exact ⟨k + 1, by omega, by go_num, on2 hbel (below_drewN (Below.refl _ _) _), HG⟩
              case measure => simp [intOf]; omega
        · cases hv2 : wordB (L.getD k default).2
          · rw [hv2] at hv
            have HF : Hid (checkI L = 20) := hbad.out (by rw [hok.out, hw, hv.out]; rfl)
            clear hv hbad hgo hok HK
            generalize L.getD k default = x at d0 d1 s0 s1 hw hv2 he
            go_wp2_with fail
            go_big_quiet ((go_at_call 12; exact Calls.quiet_of_same (rWord_as _ _ (by assumption) (by assumption) _)))
            go_wp2_with fail
            go_ret
            exact ⟨reti HF.out.symm, on2 hbel (below_drewN (Below.refl _ _) _)⟩
          · rw [hv2] at hv
            rcases HK with ⟨h0, b0⟩ | ⟨h0, b0, m, hm, hmw, hml⟩
            · have HG : Hid (∀ j, j < k + 1 → labOk L j = true) := hgo.out (by rw [hok.out, hw, hv.out, h0.out]; rfl)
              clear hv hbad hgo hok h0
              generalize L.getD k default = x at d0 d1 s0 s1 hw hv2 he
              go_wp2_with fail
              go_big_quiet ((go_at_call 12; exact Calls.quiet_of_same (rWord_as _ _ (by assumption) (by assumption) _)))
              go_wp2_with fail
              go_roundw
              case rel => exact ⟨k + 1, by omega, by go_num, on2 hbel (below_drewN (Below.refl _ _) _), HG⟩
              case measure => simp [intOf]; omega
            · obtain ⟨B', off', e', hB', c0, c1, s0', s1'⟩ := hL.out.get hml
              obtain ⟨rfl, rfl⟩ : B = B' ∧ off = off' := by simpa using e'
              have hBw : B < wr.heap.size := Nat.lt_of_lt_of_le hB hbel.size
              have p0 := (hbel.cell (p := ⟨B, off + m * 2, none⟩) hB).trans c0
              have hkm : k - 1 = m := by have := hm.out; omega
              have hk0 : Hid (decide (k = 0) = false) := by have := h0.out; simp [Hid]; omega
              rw [hkm] at hok
              clear c0 c1 s0' s1' e' hB' hkm h0
              cases hs : sLt (L.getD m default).1 (L.getD k default).1
              · have HF : Hid (checkI L = 20) := hbad.out (by rw [hok.out, hw, hv.out, hs, hk0.out]; rfl)
                unfold sLt at hs
                clear hv hbad hgo hok hk0
                generalize L.getD k default = x at d0 d1 s0 s1 hw hv2 he hs
                generalize L.getD m default = y at p0 hs
                go_wp2_with fail
                go_big_quiet ((go_at_call 12; exact Calls.quiet_of_same (rWord_as _ _ (by assumption) (by assumption) _)))
                go_wp2_with fail
                go_ret
                exact ⟨reti HF.out.symm, on2 hbel (below_drewN (Below.refl _ _) _)⟩
              · have HG : Hid (∀ j, j < k + 1 → labOk L j = true) := hgo.out (by rw [hok.out, hw, hv.out, hs, hk0.out]; rfl)
                unfold sLt at hs
                clear hv hbad hgo hok hk0
                generalize L.getD k default = x at d0 d1 s0 s1 hw hv2 he hs
                generalize L.getD m default = y at p0 hs
                go_wp2_with fail
                go_big_quiet ((go_at_call 12; exact Calls.quiet_of_same (rWord_as _ _ (by assumption) (by assumption) _)))
                go_wp2_with fail
                go_roundw
                case rel => exact ⟨k + 1, by omega, by go_num, on2 hbel (below_drewN (Below.refl _ _) _), HG⟩
                case measure => simp [intOf]; omega
    · have HF : Hid (checkI L = 0) := checkI_ok (by omega) (fun j hj => hall.out j (by omega))
      go_wp2
      go_ret
      exact ⟨reti HF.out.symm, hbel⟩
end Go.Proofs.Ytpehmobedcflnaa
