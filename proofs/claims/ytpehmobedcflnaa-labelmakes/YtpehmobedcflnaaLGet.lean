/- label.Get and the document's own Get return the first label of a key; label.Same and the document's own. They change nothing that was there. Condition: the slice holds what is said of it. -/
import Derived.Test.YtpehmobedcflnaaLStr
namespace Go.Proofs.Ytpehmobedcflnaa
open Go.RowKit
set_option linter.unusedSimpArgs false

theorem ret_sb {a c : ByteArray} {b d : Bool} (h : a = c ∧ b = d) : Ending.returned (.tuple #[.string a, .bool b]) = .returned (.tuple #[.string c, .bool d]) := by rw [h.1, h.2]
theorem getL_no {L : List Lab} {key : ByteArray} (h : ∀ j, j < L.length → sEq (L.getD j default).1 key = false) : getL L key = (default, false) := by
  have : L.find? (fun x => sEq x.1 key) = none := by
    rw [List.find?_eq_none]
    intro x hx
    obtain ⟨j, hj, rfl⟩ := List.mem_iff_getElem.1 hx
    have := h j hj
    rw [List.getD_eq_getElem?_getD, List.getElem?_eq_getElem hj] at this
    simpa using this
  simp only [getL, this]
theorem getL_yes {L : List Lab} {key : ByteArray} {k : Nat} (hk : k < L.length) (h : ∀ j, j < k → sEq (L.getD j default).1 key = false) (hy : sEq (L.getD k default).1 key = true) : getL L key = ((L.getD k default).2, true) := by
  have : L.find? (fun x => sEq x.1 key) = some (L.getD k default) := by
    rw [List.getD_eq_getElem?_getD, List.getElem?_eq_getElem hk] at hy ⊢
    rw [List.find?_eq_some_iff_getElem]
    refine ⟨hy, k, hk, rfl, fun j hj => ?_⟩
    have := h j hj
    rw [List.getD_eq_getElem?_getD, List.getElem?_eq_getElem (by omega)] at this
    simpa using this
  simp only [getL, this]

set_option maxHeartbeats 1000000 in
theorem Get_calls (a : Option Addr) (cap : Nat) (L : List Lab) (key : ByteArray) (w : World) (hL : Hid (LabsAt w a L)) : Calls Try.prog 20 #[.slice a L.length cap, .string key] w fun e w' => e = .returned (.tuple #[.string (getL L key).1, .bool (getL L key).2]) ∧ Below w.heap.size w w' := by
  have hlen := hL.out.1
  go_enter Try.func20, Try.ntmps20
  go_wp2
  go_loopw [10] (fun i wr => ∃ k : Nat, k ≤ L.length ∧ i = .int .i64 k ∧ Below w.heap.size w wr ∧ Hid (∀ j, j < k → sEq (L.getD j default).1 key = false)) (fun i _ => L.length - (intOf i).toNat)
  case atStart => exact ⟨0, Nat.zero_le _, rfl, Below.refl _ _, fun j hj => absurd hj (Nat.not_lt_zero _)⟩
  case round =>
    obtain ⟨k, hk, rfl, hbel, hall⟩ := hrel
    by_cases hlt : k < L.length
    · obtain ⟨B, off, rfl, hB, c0, c1, s0, s1⟩ := hL.out.get hlt
      have d0 := (hbel.cell (p := ⟨B, off + k * 2, none⟩) hB).trans c0
      have d1 := (hbel.cell (p := ⟨B, off + k * 2 + 1, none⟩) hB).trans c1
      clear c0 c1
      cases hv : sEq (L.getD k default).1 key
      · have HG : Hid (∀ j, j < k + 1 → sEq (L.getD j default).1 key = false) := fun j hj => by
          rcases Nat.lt_succ_iff_lt_or_eq.1 hj with h | rfl
          · exact hall.out j h
          · exact hv
        unfold sEq at hv
        clear hall
        generalize L.getD k default = x at hv d0 d1 s0 s1
        go_wp2
        go_roundw
        case rel => exact ⟨k + 1, by omega, by go_num, on2 hbel (by go_grown), HG⟩
        case measure => simp [intOf]; omega
      · have HF : Hid (getL L key = ((L.getD k default).2, true)) := getL_yes hlt hall.out hv
        unfold sEq at hv
        clear hall
        generalize L.getD k default = x at hv d0 d1 s0 s1 HF
        go_wp2
        go_ret2
        exact ⟨ret_sb (by rw [HF.out]; exact ⟨rfl, rfl⟩), on2 hbel (by go_grown)⟩
    · have HF : Hid (getL L key = (default, false)) := getL_no (fun j hj => hall.out j (by omega))
      go_wp2
      go_ret2
      exact ⟨ret_sb (by rw [HF.out]; exact ⟨rfl, rfl⟩), hbel⟩

set_option maxHeartbeats 1000000 in
theorem rGet_calls (a : Option Addr) (cap : Nat) (L : List Lab) (key : ByteArray) (w : World) (hL : Hid (LabsAt w a L)) : Calls Try.prog 21 #[.slice a L.length cap, .string key] w fun e w' => e = .returned (.tuple #[.string (getL L key).1, .bool (getL L key).2]) ∧ w' = w := by
  have hlen := hL.out.1
  go_enter Try.func21, Try.ntmps21
  go_wp2
  go_loop [6] (fun i => ∃ k : Nat, k ≤ L.length ∧ i = .int .i64 k ∧ Hid (∀ j, j < k → sEq (L.getD j default).1 key = false)) (fun i => L.length - (intOf i).toNat)
  case atStart => exact ⟨0, Nat.zero_le _, rfl, fun j hj => absurd hj (Nat.not_lt_zero _)⟩
  case round =>
    obtain ⟨k, hk, rfl, hall⟩ := hrel
    by_cases hlt : k < L.length
    · obtain ⟨B, off, rfl, hB, d0, d1, s0, s1⟩ := hL.out.get hlt
      cases hv : sEq (L.getD k default).1 key
      · have HG : Hid (∀ j, j < k + 1 → sEq (L.getD j default).1 key = false) := fun j hj => by
          rcases Nat.lt_succ_iff_lt_or_eq.1 hj with h | rfl
          · exact hall.out j h
          · exact hv
        unfold sEq at hv
        clear hall
        generalize L.getD k default = x at hv d0 d1 s0 s1
        go_wp2
        go_round
        case rel => exact ⟨k + 1, by omega, by go_num, HG⟩
        case measure => simp [intOf]; omega
      · have HF : Hid (getL L key = ((L.getD k default).2, true)) := getL_yes hlt hall.out hv
        unfold sEq at hv
        clear hall
        generalize L.getD k default = x at hv d0 d1 s0 s1 HF
        go_wp2
        go_ret2
        exact ⟨ret_sb (by rw [HF.out]; exact ⟨rfl, rfl⟩), rfl⟩
    · have HF : Hid (getL L key = (default, false)) := getL_no (fun j hj => hall.out j (by omega))
      go_wp2
      go_ret2
      exact ⟨ret_sb (by rw [HF.out]; exact ⟨rfl, rfl⟩), rfl⟩

set_option maxHeartbeats 1000000 in
theorem Same_calls (a : Option Addr) (cap : Nat) (A : List Lab) (b : Option Addr) (cap' : Nat) (B : List Lab) (key : ByteArray) (w : World) (hA : Hid (LabsAt w a A)) (hB : Hid (LabsAt w b B)) : Calls Try.prog 24 #[.slice a A.length cap, .slice b B.length cap', .string key] w fun e w' => e = .returned (.bool (sameL A B key)) ∧ Below w.heap.size w w' := by
  have HF : Hid (sameL A B key = ((getL A key).2 && (getL B key).2 && sEq (getL A key).1 (getL B key).1)) := rfl
  have h1 := fun w h => Get_calls a cap A key w h
  have h2 := fun w h => Get_calls b cap' B key w h
  generalize getL A key = x at h1 HF
  generalize getL B key = y at h2 HF
  obtain ⟨x, p⟩ := x
  obtain ⟨y, q⟩ := y
  have HE : Hid (sEq x y = (x.toList == y.toList)) := rfl
  go_enter Try.func24, Try.ntmps24
  go_wp2_with fail
  refine (h1 _ hA).mono ?_
  rintro e w1 ⟨rfl, hb1⟩
  have hB1 : Hid (LabsAt w1 b B) := hB.out.on hb1
  go_wp2_with fail
  refine (h2 _ hB1).mono ?_
  rintro e w2 ⟨rfl, hb2⟩
  have hb : Below w.heap.size w w2 := hb1.trans (hb2.mono hb1.size)
  clear h1 h2 hA hB hB1
  cases p <;> cases q <;> (go_wp2_with fail; go_ret; exact ⟨retb (by rw [HF.out, HE.out]; simp), hb⟩)

set_option maxHeartbeats 1000000 in
theorem rSame_calls (a : Option Addr) (cap : Nat) (A : List Lab) (b : Option Addr) (cap' : Nat) (B : List Lab) (key : ByteArray) (w : World) (hA : Hid (LabsAt w a A)) (hB : Hid (LabsAt w b B)) : Calls Try.prog 25 #[.slice a A.length cap, .slice b B.length cap', .string key] w fun e w' => e = .returned (.bool (sameL A B key)) ∧ w' = w := by
  have HF : Hid (sameL A B key = ((getL A key).2 && (getL B key).2 && sEq (getL A key).1 (getL B key).1)) := rfl
  have h1 := rGet_calls a cap A key w hA
  have h2 := rGet_calls b cap' B key w hB
  generalize getL A key = x at h1 HF
  generalize getL B key = y at h2 HF
  obtain ⟨x, p⟩ := x
  obtain ⟨y, q⟩ := y
  have HE : Hid (sEq x y = (x.toList == y.toList)) := rfl
  go_enter Try.func25, Try.ntmps25
  go_wp2_with fail
  refine h1.mono ?_
  rintro e w1 ⟨rfl, rfl⟩
  go_wp2_with fail
  refine h2.mono ?_
  rintro e w2 ⟨rfl, rfl⟩
  clear h1 h2 hA hB
  cases p <;> cases q <;> (go_wp2_with fail; go_ret; exact ⟨retb (by rw [HF.out, HE.out]; simp), rfl⟩)
end Go.Proofs.Ytpehmobedcflnaa
