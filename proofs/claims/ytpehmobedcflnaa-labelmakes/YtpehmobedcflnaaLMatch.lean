/- label.Meets, Match and the document's own return what the plain functions say, at every Op; they change nothing that was there. Condition: the slices hold what is said of them. -/
import Derived.Test.YtpehmobedcflnaaLMeetsR
namespace Go.Proofs.Ytpehmobedcflnaa
open Go.RowKit
set_option linter.unusedSimpArgs false

theorem Meets_calls (a : Option Addr) (cap : Nat) (L : List Lab) (key : ByteArray) (op : Int) (b : Option Addr) (cap' : Nat) (V : List ByteArray) (w : World) (hL : Hid (LabsAt w a L)) (hV : Hid (StrsAt w b V)) : Calls Try.prog 26 #[.slice a L.length cap, .agg #[.string key, .int .i64 op, .slice b V.length cap']] w fun e w' => e = .returned (.bool (meetsL L ⟨key, op, V⟩)) ∧ Below w.heap.size w w' := by
  rcases op_paths op with rfl | rfl | rfl | rfl | rfl | rfl | ⟨h1, h2, h3, h4, h5, h6⟩
  · exact Meets_in a cap L key b cap' V w hL hV
  · exact Meets_notIn a cap L key b cap' V w hL hV
  · exact Meets_exists a cap L key b cap' V w hL hV
  · exact Meets_lacks a cap L key b cap' V w hL hV
  · exact Meets_above a cap L key b cap' V w hL hV
  · exact Meets_below a cap L key b cap' V w hL hV
  · exact Meets_never a cap L key op b cap' V w hL hV h1 h2 h3 h4 h5 h6

theorem rMeets_calls (a : Option Addr) (cap : Nat) (L : List Lab) (key : ByteArray) (op : Int) (b : Option Addr) (cap' : Nat) (V : List ByteArray) (w : World) (hL : Hid (LabsAt w a L)) (hV : Hid (StrsAt w b V)) : Calls Try.prog 27 #[.slice a L.length cap, .agg #[.string key, .int .i64 op, .slice b V.length cap']] w fun e w' => e = .returned (.bool (meetsL L ⟨key, op, V⟩)) ∧ Below w.heap.size w w' := by
  rcases op_paths op with rfl | rfl | rfl | rfl | rfl | rfl | ⟨h1, h2, h3, h4, h5, h6⟩
  · exact rMeets_in a cap L key b cap' V w hL hV
  · exact rMeets_notIn a cap L key b cap' V w hL hV
  · exact rMeets_exists a cap L key b cap' V w hL hV
  · exact rMeets_lacks a cap L key b cap' V w hL hV
  · exact rMeets_above a cap L key b cap' V w hL hV
  · exact rMeets_below a cap L key b cap' V w hL hV
  · exact rMeets_never a cap L key op b cap' V w hL hV h1 h2 h3 h4 h5 h6

set_option maxHeartbeats 1000000 in
theorem Match_calls (a : Option Addr) (cap : Nat) (L : List Lab) (b : Option Addr) (cap' : Nat) (R : List Ask) (w : World) (hL : Hid (LabsAt w a L)) (hR : Hid (AsksAt w b R)) : Calls Try.prog 22 #[.slice a L.length cap, .slice b R.length cap'] w fun e w' => e = .returned (.bool (matchL L R)) ∧ Below w.heap.size w w' := by
  have hlen := hR.out.1
  go_enter Try.func22, Try.ntmps22
  go_wp2
  go_loopw [9] (fun i wr => ∃ k : Nat, k ≤ R.length ∧ i = .int .i64 k ∧ Below w.heap.size w wr ∧ Hid (∀ j, j < k → meetsL L (R.getD j default) = true)) (fun i _ => R.length - (intOf i).toNat)
  case atStart => exact ⟨0, Nat.zero_le _, rfl, Below.refl _ _, fun j hj => absurd hj (Nat.not_lt_zero _)⟩
  case round =>
    obtain ⟨k, hk, rfl, hbel, hall⟩ := hrel
    by_cases hlt : k < R.length
    · obtain ⟨B, off, rfl, hB, c0, c1, ⟨a', capv, c2, hv⟩, s0⟩ := hR.out.get hlt
      have d0 := (hbel.cell (p := ⟨B, off + k * 3, none⟩) hB).trans c0
      have d1 := (hbel.cell (p := ⟨B, off + k * 3 + 1, none⟩) hB).trans c1
      have d2 := (hbel.cell (p := ⟨B, off + k * 3 + 2, none⟩) hB).trans c2
      have HM : Hid (∀ u, Below wr.heap.size wr u → Calls Try.prog 26 #[.slice a L.length cap, .agg #[.string (R.getD k default).key, .int .i64 (R.getD k default).op, .slice a' (R.getD k default).vals.length capv]] u fun e w' => e = .returned (.bool (meetsL L (R.getD k default))) ∧ Below u.heap.size u w') :=
        fun u hu => Meets_calls a cap L _ _ a' capv _ u (hL.out.on (on2 hbel hu)) (hv.on (on2 hbel hu))
      clear c0 c1 c2 hv
      cases hm : meetsL L (R.getD k default)
      · have HF : Hid (matchL L R = false) := allTo_false hlt hm
        rw [hm] at HM
        clear hm hall
        generalize R.getD k default = r at d0 d1 d2 s0 HM
        go_wp2_with fail
        refine (HM.out _ (by go_grown)).mono ?_
        rintro e w1 ⟨rfl, hb⟩
        have hb' := on2 hbel (on2 (by go_grown) hb)
        clear HM d0 d1 d2
        go_wp2_with fail
        go_ret
        exact ⟨retb HF.out.symm, hb'⟩
      · have HG : Hid (∀ j, j < k + 1 → meetsL L (R.getD j default) = true) := fun j hj => by
          rcases Nat.lt_succ_iff_lt_or_eq.1 hj with h | rfl
          · exact hall.out j h
          · exact hm
        rw [hm] at HM
        clear hm hall
        generalize R.getD k default = r at d0 d1 d2 s0 HM
        go_wp2_with fail
        refine (HM.out _ (by go_grown)).mono ?_
        rintro e w1 ⟨rfl, hb⟩
        have hb' := on2 hbel (on2 (by go_grown) hb)
        clear HM d0 d1 d2
        go_wp2_with fail
        go_roundw
        case rel => exact ⟨k + 1, by omega, by go_num, hb', HG⟩
        case measure => simp [intOf]; omega
    · have HF : Hid (matchL L R = true) := allTo_true (fun j hj => hall.out j (by omega))
      go_wp2
      go_ret
      exact ⟨retb HF.out.symm, hbel⟩

set_option maxHeartbeats 1000000 in
theorem rMatch_calls (a : Option Addr) (cap : Nat) (L : List Lab) (b : Option Addr) (cap' : Nat) (R : List Ask) (w : World) (hL : Hid (LabsAt w a L)) (hR : Hid (AsksAt w b R)) : Calls Try.prog 23 #[.slice a L.length cap, .slice b R.length cap'] w fun e w' => e = .returned (.bool (matchL L R)) ∧ Below w.heap.size w w' := by
  have hlen := hR.out.1
  go_enter Try.func23, Try.ntmps23
  go_wp2
  go_loopw [5] (fun i wr => ∃ k : Nat, k ≤ R.length ∧ i = .int .i64 k ∧ Below w.heap.size w wr ∧ Hid (∀ j, j < k → meetsL L (R.getD j default) = true)) (fun i _ => R.length - (intOf i).toNat)
  case atStart => exact ⟨0, Nat.zero_le _, rfl, Below.refl _ _, fun j hj => absurd hj (Nat.not_lt_zero _)⟩
  case round =>
    obtain ⟨k, hk, rfl, hbel, hall⟩ := hrel
    by_cases hlt : k < R.length
    · obtain ⟨B, off, rfl, hB, c0, c1, ⟨a', capv, c2, hv⟩, s0⟩ := hR.out.get hlt
      have d0 := (hbel.cell (p := ⟨B, off + k * 3, none⟩) hB).trans c0
      have d1 := (hbel.cell (p := ⟨B, off + k * 3 + 1, none⟩) hB).trans c1
      have d2 := (hbel.cell (p := ⟨B, off + k * 3 + 2, none⟩) hB).trans c2
      have HM : Hid (∀ u, Below wr.heap.size wr u → Calls Try.prog 27 #[.slice a L.length cap, .agg #[.string (R.getD k default).key, .int .i64 (R.getD k default).op, .slice a' (R.getD k default).vals.length capv]] u fun e w' => e = .returned (.bool (meetsL L (R.getD k default))) ∧ Below u.heap.size u w') :=
        fun u hu => rMeets_calls a cap L _ _ a' capv _ u (hL.out.on (on2 hbel hu)) (hv.on (on2 hbel hu))
      clear c0 c1 c2 hv
      cases hm : meetsL L (R.getD k default)
      · have HF : Hid (matchL L R = false) := allTo_false hlt hm
        rw [hm] at HM
        clear hm hall
        generalize R.getD k default = r at d0 d1 d2 s0 HM
        go_wp2_with fail
        refine (HM.out _ (by go_grown)).mono ?_
        rintro e w1 ⟨rfl, hb⟩
        have hb' := on2 hbel (on2 (by go_grown) hb)
        clear HM d0 d1 d2
        go_wp2_with fail
        go_ret
        exact ⟨retb HF.out.symm, hb'⟩
      · have HG : Hid (∀ j, j < k + 1 → meetsL L (R.getD j default) = true) := fun j hj => by
          rcases Nat.lt_succ_iff_lt_or_eq.1 hj with h | rfl
          · exact hall.out j h
          · exact hm
        rw [hm] at HM
        clear hm hall
        generalize R.getD k default = r at d0 d1 d2 s0 HM
        go_wp2_with fail
        refine (HM.out _ (by go_grown)).mono ?_
        rintro e w1 ⟨rfl, hb⟩
        have hb' := on2 hbel (on2 (by go_grown) hb)
        clear HM d0 d1 d2
        go_wp2_with fail
        go_roundw
        case rel => exact ⟨k + 1, by omega, by go_num, hb', HG⟩
        case measure => simp [intOf]; omega
    · have HF : Hid (matchL L R = true) := allTo_true (fun j hj => hall.out j (by omega))
      go_wp2
      go_ret
      exact ⟨retb HF.out.symm, hbel⟩
end Go.Proofs.Ytpehmobedcflnaa
