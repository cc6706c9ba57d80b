/- The document's own Meets returns what the plain functions say, an Op at a time; it changes nothing that was there. Condition: the slices hold what is said of them. -/
import Derived.Test.YtpehmobedcflnaaLMeets
namespace Go.Proofs.Ytpehmobedcflnaa
open Go.RowKit
set_option linter.unusedSimpArgs false

set_option maxHeartbeats 2000000 in
theorem rMeets_in (a : Option Addr) (cap : Nat) (L : List Lab) (key : ByteArray) (b : Option Addr) (cap' : Nat) (V : List ByteArray) (w : World) (hL : Hid (LabsAt w a L)) (hV : Hid (StrsAt w b V))  : Calls Try.prog 27 #[.slice a L.length cap, .agg #[.string key, .int .i64 1, .slice b V.length cap']] w fun e w' => e = .returned (.bool (meetsV (getL L key).1 (getL L key).2 1 V)) ∧ Below w.heap.size w w' := by
  have hb0 : Below w.heap.size w (w.alloc (.cells #[.string key, .int .i64 1, .slice b V.length cap'] 41)) := (Below.refl _ _).alloc (Nat.le_refl _) _
  have hg := rGet_calls a cap L key _ (show Hid (LabsAt (w.alloc (.cells #[.string key, .int .i64 1, .slice b V.length cap'] 41)) a L) from hL.out.on hb0)
  have hh := fun s => Has_calls b cap' V s _ (show Hid (StrsAt (w.alloc (.cells #[.string key, .int .i64 1, .slice b V.length cap'] 41)) b V) from hV.out.on hb0)
  generalize getL L key = x at hg
  obtain ⟨x, t⟩ := x
  have HF : Hid (meetsV x t 1 V = (t && hasL V x)) := by simp [Hid, meetsV]
  clear hL hV
  have hh' := hh x
  generalize hasL V x = c at hh' HF
  cases t <;> (
    go_enter Try.func27, Try.ntmps27
    go_wp2_with (first | (go_at_call 21; refine hg.mono ?_; rintro e w' ⟨rfl, rfl⟩) | (go_at_call 38; refine hh'.mono ?_; rintro e w' ⟨rfl, rfl⟩))
    go_ret
    exact ⟨retb (by rw [HF.out]; try rfl), hb0⟩)

set_option maxHeartbeats 2000000 in
theorem rMeets_notIn (a : Option Addr) (cap : Nat) (L : List Lab) (key : ByteArray) (b : Option Addr) (cap' : Nat) (V : List ByteArray) (w : World) (hL : Hid (LabsAt w a L)) (hV : Hid (StrsAt w b V))  : Calls Try.prog 27 #[.slice a L.length cap, .agg #[.string key, .int .i64 2, .slice b V.length cap']] w fun e w' => e = .returned (.bool (meetsV (getL L key).1 (getL L key).2 2 V)) ∧ Below w.heap.size w w' := by
  have hb0 : Below w.heap.size w (w.alloc (.cells #[.string key, .int .i64 2, .slice b V.length cap'] 41)) := (Below.refl _ _).alloc (Nat.le_refl _) _
  have hg := rGet_calls a cap L key _ (show Hid (LabsAt (w.alloc (.cells #[.string key, .int .i64 2, .slice b V.length cap'] 41)) a L) from hL.out.on hb0)
  have hh := fun s => Has_calls b cap' V s _ (show Hid (StrsAt (w.alloc (.cells #[.string key, .int .i64 2, .slice b V.length cap'] 41)) b V) from hV.out.on hb0)
  generalize getL L key = x at hg
  obtain ⟨x, t⟩ := x
  have HF : Hid (meetsV x t 2 V = (!t || !hasL V x)) := by simp [Hid, meetsV]
  clear hL hV
  have hh' := hh x
  generalize hasL V x = c at hh' HF
  cases t <;> (
    go_enter Try.func27, Try.ntmps27
    go_wp2_with (first | (go_at_call 21; refine hg.mono ?_; rintro e w' ⟨rfl, rfl⟩) | (go_at_call 38; refine hh'.mono ?_; rintro e w' ⟨rfl, rfl⟩))
    go_ret
    exact ⟨retb (by rw [HF.out]; try rfl), hb0⟩)

set_option maxHeartbeats 2000000 in
theorem rMeets_exists (a : Option Addr) (cap : Nat) (L : List Lab) (key : ByteArray) (b : Option Addr) (cap' : Nat) (V : List ByteArray) (w : World) (hL : Hid (LabsAt w a L)) (hV : Hid (StrsAt w b V))  : Calls Try.prog 27 #[.slice a L.length cap, .agg #[.string key, .int .i64 3, .slice b V.length cap']] w fun e w' => e = .returned (.bool (meetsV (getL L key).1 (getL L key).2 3 V)) ∧ Below w.heap.size w w' := by
  have hb0 : Below w.heap.size w (w.alloc (.cells #[.string key, .int .i64 3, .slice b V.length cap'] 41)) := (Below.refl _ _).alloc (Nat.le_refl _) _
  have hg := rGet_calls a cap L key _ (show Hid (LabsAt (w.alloc (.cells #[.string key, .int .i64 3, .slice b V.length cap'] 41)) a L) from hL.out.on hb0)
  have hh := fun s => Has_calls b cap' V s _ (show Hid (StrsAt (w.alloc (.cells #[.string key, .int .i64 3, .slice b V.length cap'] 41)) b V) from hV.out.on hb0)
  generalize getL L key = x at hg
  obtain ⟨x, t⟩ := x
  have HF : Hid (meetsV x t 3 V = t) := by simp [Hid, meetsV]
  clear hL hV
  have hh' := hh x
  generalize hasL V x = c at hh' HF
  cases t <;> (
    go_enter Try.func27, Try.ntmps27
    go_wp2_with (first | (go_at_call 21; refine hg.mono ?_; rintro e w' ⟨rfl, rfl⟩) | (go_at_call 38; refine hh'.mono ?_; rintro e w' ⟨rfl, rfl⟩))
    go_ret
    exact ⟨retb (by rw [HF.out]; try rfl), hb0⟩)

set_option maxHeartbeats 2000000 in
theorem rMeets_lacks (a : Option Addr) (cap : Nat) (L : List Lab) (key : ByteArray) (b : Option Addr) (cap' : Nat) (V : List ByteArray) (w : World) (hL : Hid (LabsAt w a L)) (hV : Hid (StrsAt w b V))  : Calls Try.prog 27 #[.slice a L.length cap, .agg #[.string key, .int .i64 4, .slice b V.length cap']] w fun e w' => e = .returned (.bool (meetsV (getL L key).1 (getL L key).2 4 V)) ∧ Below w.heap.size w w' := by
  have hb0 : Below w.heap.size w (w.alloc (.cells #[.string key, .int .i64 4, .slice b V.length cap'] 41)) := (Below.refl _ _).alloc (Nat.le_refl _) _
  have hg := rGet_calls a cap L key _ (show Hid (LabsAt (w.alloc (.cells #[.string key, .int .i64 4, .slice b V.length cap'] 41)) a L) from hL.out.on hb0)
  have hh := fun s => Has_calls b cap' V s _ (show Hid (StrsAt (w.alloc (.cells #[.string key, .int .i64 4, .slice b V.length cap'] 41)) b V) from hV.out.on hb0)
  generalize getL L key = x at hg
  obtain ⟨x, t⟩ := x
  have HF : Hid (meetsV x t 4 V = !t) := by simp [Hid, meetsV]
  clear hL hV
  have hh' := hh x
  generalize hasL V x = c at hh' HF
  cases t <;> (
    go_enter Try.func27, Try.ntmps27
    go_wp2_with (first | (go_at_call 21; refine hg.mono ?_; rintro e w' ⟨rfl, rfl⟩) | (go_at_call 38; refine hh'.mono ?_; rintro e w' ⟨rfl, rfl⟩))
    go_ret
    exact ⟨retb (by rw [HF.out]; try rfl), hb0⟩)

theorem meetsV_above (x : ByteArray) (t : Bool) (V : List ByteArray) : meetsV x t 5 V = (t && numB x && (decide (V.length = 1) && numB (V.getD 0 default)) && decide (numN (V.getD 0 default) < numN x)) := by simp [meetsV]
set_option maxHeartbeats 2000000 in
theorem rMeets_above (a : Option Addr) (cap : Nat) (L : List Lab) (key : ByteArray) (b : Option Addr) (cap' : Nat) (V : List ByteArray) (w : World) (hL : Hid (LabsAt w a L)) (hV : Hid (StrsAt w b V)) : Calls Try.prog 27 #[.slice a L.length cap, .agg #[.string key, .int .i64 5, .slice b V.length cap']] w fun e w' => e = .returned (.bool (meetsV (getL L key).1 (getL L key).2 5 V)) ∧ Below w.heap.size w w' := by
  have hb0 : Below w.heap.size w (w.alloc (.cells #[.string key, .int .i64 5, .slice b V.length cap'] 41)) := (Below.refl _ _).alloc (Nat.le_refl _) _
  have hg := rGet_calls a cap L key _ (show Hid (LabsAt (w.alloc (.cells #[.string key, .int .i64 5, .slice b V.length cap'] 41)) a L) from hL.out.on hb0)
  generalize getL L key = x at hg
  obtain ⟨x, t⟩ := x
  clear hL
  by_cases h1 : (V.length : Int) = 1
  · have hV' := hV.out.on hb0
    obtain ⟨y, rfl⟩ := List.length_eq_one_iff.1 (show V.length = 1 by omega)
    obtain ⟨B, off, rfl, hB, hc, _⟩ := hV'.get (k := 0) (by simp)
    rw [Nat.add_zero] at hc
    clear hV'
    simp only [List.getD_cons_zero, List.length_cons, List.length_nil, Nat.zero_add] at hc hg hb0 ⊢
    have HW : Hid (meetsV x t 5 [y] = (t && numB x && numB y && decide (numN y < numN x))) := by simp [Hid, meetsV_above]
    have hx := Whole_calls x
    have hy := Whole_calls y
    have HX : Hid (numB x = true → wholeN x = numN x) := fun h => by simp [wholeN, h]
    have HY : Hid (numB y = true → wholeN y = numN y) := fun h => by simp [wholeN, h]
    generalize hp : numB x = p at hx HW HX
    generalize hq : numB y = q at hy HW HY
    generalize wholeN x = m at hx HX
    generalize wholeN y = n at hy HY
    clear hV h1 hp hq
    go_enter Try.func27, Try.ntmps27
    go_wp2_with fail
    refine hg.mono ?_
    rintro e w1 ⟨rfl, rfl⟩
    go_wp2_with fail
    refine (hx _).mono ?_
    rintro e w2 ⟨rfl, rfl⟩
    go_wp2_with fail
    refine (hy _).mono ?_
    rintro e w3 ⟨rfl, rfl⟩
    clear hg hx hy
    cases t <;> cases p <;> cases q <;> (
      go_wp2_with fail
      go_ret
      exact ⟨retb (by rw [HW.out]; first | rfl | (have e1 := HX.out (by trivial); have e2 := HY.out (by trivial); rw [e1, e2]; simp)), hb0⟩)
  · have h1' : ((V.length : Int) != 1) = true := bne_iff_ne.2 h1
    have HF : Hid (meetsV x t 5 V = false) := by
      have : decide (V.length = 1) = false := by simp; omega
      simp [Hid, meetsV_above, this]
    clear hV h1
    go_enter Try.func27, Try.ntmps27
    go_wp2_with (go_at_call 21; refine hg.mono ?_; rintro e w' ⟨rfl, rfl⟩)
    go_ret
    exact ⟨retb HF.out.symm, hb0⟩

theorem meetsV_below (x : ByteArray) (t : Bool) (V : List ByteArray) : meetsV x t 6 V = (t && numB x && (decide (V.length = 1) && numB (V.getD 0 default)) && decide (numN x < numN (V.getD 0 default))) := by simp [meetsV]
set_option maxHeartbeats 2000000 in
theorem rMeets_below (a : Option Addr) (cap : Nat) (L : List Lab) (key : ByteArray) (b : Option Addr) (cap' : Nat) (V : List ByteArray) (w : World) (hL : Hid (LabsAt w a L)) (hV : Hid (StrsAt w b V)) : Calls Try.prog 27 #[.slice a L.length cap, .agg #[.string key, .int .i64 6, .slice b V.length cap']] w fun e w' => e = .returned (.bool (meetsV (getL L key).1 (getL L key).2 6 V)) ∧ Below w.heap.size w w' := by
  have hb0 : Below w.heap.size w (w.alloc (.cells #[.string key, .int .i64 6, .slice b V.length cap'] 41)) := (Below.refl _ _).alloc (Nat.le_refl _) _
  have hg := rGet_calls a cap L key _ (show Hid (LabsAt (w.alloc (.cells #[.string key, .int .i64 6, .slice b V.length cap'] 41)) a L) from hL.out.on hb0)
  generalize getL L key = x at hg
  obtain ⟨x, t⟩ := x
  clear hL
  by_cases h1 : (V.length : Int) = 1
  · have hV' := hV.out.on hb0
    obtain ⟨y, rfl⟩ := List.length_eq_one_iff.1 (show V.length = 1 by omega)
    obtain ⟨B, off, rfl, hB, hc, _⟩ := hV'.get (k := 0) (by simp)
    rw [Nat.add_zero] at hc
    clear hV'
    simp only [List.getD_cons_zero, List.length_cons, List.length_nil, Nat.zero_add] at hc hg hb0 ⊢
    have HW : Hid (meetsV x t 6 [y] = (t && numB x && numB y && decide (numN x < numN y))) := by simp [Hid, meetsV_below]
    have hx := Whole_calls x
    have hy := Whole_calls y
    have HX : Hid (numB x = true → wholeN x = numN x) := fun h => by simp [wholeN, h]
    have HY : Hid (numB y = true → wholeN y = numN y) := fun h => by simp [wholeN, h]
    generalize hp : numB x = p at hx HW HX
    generalize hq : numB y = q at hy HW HY
    generalize wholeN x = m at hx HX
    generalize wholeN y = n at hy HY
    clear hV h1 hp hq
    go_enter Try.func27, Try.ntmps27
    go_wp2_with fail
    refine hg.mono ?_
    rintro e w1 ⟨rfl, rfl⟩
    go_wp2_with fail
    refine (hx _).mono ?_
    rintro e w2 ⟨rfl, rfl⟩
    go_wp2_with fail
    refine (hy _).mono ?_
    rintro e w3 ⟨rfl, rfl⟩
    clear hg hx hy
    cases t <;> cases p <;> cases q <;> (
      go_wp2_with fail
      go_ret
      exact ⟨retb (by rw [HW.out]; first | rfl | (have e1 := HX.out (by trivial); have e2 := HY.out (by trivial); rw [e1, e2]; simp)), hb0⟩)
  · have h1' : ((V.length : Int) != 1) = true := bne_iff_ne.2 h1
    have HF : Hid (meetsV x t 6 V = false) := by
      have : decide (V.length = 1) = false := by simp; omega
      simp [Hid, meetsV_below, this]
    clear hV h1
    go_enter Try.func27, Try.ntmps27
    go_wp2_with (go_at_call 21; refine hg.mono ?_; rintro e w' ⟨rfl, rfl⟩)
    go_ret
    exact ⟨retb HF.out.symm, hb0⟩

set_option maxHeartbeats 2000000 in
theorem rMeets_never (a : Option Addr) (cap : Nat) (L : List Lab) (key : ByteArray) (op : Int) (b : Option Addr) (cap' : Nat) (V : List ByteArray) (w : World) (hL : Hid (LabsAt w a L)) (hV : Hid (StrsAt w b V)) (h1 : (op == 1) = false) (h2 : (op == 2) = false) (h3 : (op == 3) = false) (h4 : (op == 4) = false) (h5 : (op == 5) = false) (h6 : (op == 6) = false) : Calls Try.prog 27 #[.slice a L.length cap, .agg #[.string key, .int .i64 op, .slice b V.length cap']] w fun e w' => e = .returned (.bool (meetsV (getL L key).1 (getL L key).2 op V)) ∧ Below w.heap.size w w' := by
  have hb0 : Below w.heap.size w (w.alloc (.cells #[.string key, .int .i64 op, .slice b V.length cap'] 41)) := (Below.refl _ _).alloc (Nat.le_refl _) _
  have hg := rGet_calls a cap L key _ (show Hid (LabsAt (w.alloc (.cells #[.string key, .int .i64 op, .slice b V.length cap'] 41)) a L) from hL.out.on hb0)
  have hh := fun s => Has_calls b cap' V s _ (show Hid (StrsAt (w.alloc (.cells #[.string key, .int .i64 op, .slice b V.length cap'] 41)) b V) from hV.out.on hb0)
  generalize getL L key = x at hg
  obtain ⟨x, t⟩ := x
  have HF : Hid (meetsV x t op V = false) := meetsV_else h1 h2 h3 h4 h5 h6
  clear hL hV
  have hh' := hh x
  generalize hasL V x = c at hh' HF
  cases t <;> (
    go_enter Try.func27, Try.ntmps27
    go_wp2_with (first | (go_at_call 21; refine hg.mono ?_; rintro e w' ⟨rfl, rfl⟩) | (go_at_call 38; refine hh'.mono ?_; rintro e w' ⟨rfl, rfl⟩))
    go_ret
    exact ⟨retb (by rw [HF.out]; try rfl), hb0⟩)

end Go.Proofs.Ytpehmobedcflnaa
