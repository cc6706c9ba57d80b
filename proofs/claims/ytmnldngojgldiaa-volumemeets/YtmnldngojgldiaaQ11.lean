/- What an Op asks: the methods in, notIn, exists, lacks, never, inNumbers of label.ask, and compareNumbers, return what the plain functions say; they change nothing that was there. Condition: the values' slice holds what is said of it. -/
import Derived.Test.YtmnldngojgldiaaQ10
import Derived.Test.YtmnldngojgldiaaShelf
namespace Go.Proofs.Ytmnldngojgldiaa
open Go.RowKit
set_option linter.unusedSimpArgs false

theorem contains_hasL (V : List ByteArray) (s : ByteArray) : Lib.containsS V s = hasL V s := by
  rw [Bool.eq_iff_iff, Lib.containsS_iff, hasL, List.any_eq_true]
  constructor
  · intro h; exact ⟨s, h, sEq_self s⟩
  · rintro ⟨v, hv, h⟩; rw [← (sEq_iff v s).1 h]; exact hv
theorem Contains_calls (a : Option Addr) (cap : Nat) (V : List ByteArray) (s : ByteArray) (w : World) (hV : Hid (StrsAt w a V)) : Calls Try.prog 70 #[.slice a V.length cap, .string s] w fun e w' => e = .returned (.bool (hasL V s)) ∧ w' = w := by
  by_cases h : V = []
  · subst h
    exact Try.slices_Contains_string_empty a cap s w
  · obtain ⟨h1, h2, h3⟩ := hV.out
    obtain ⟨B, off, rfl, hB, hc⟩ := h3 h
    have := Try.slices_Contains_string B off V.length cap V s w (Nat.le_refl _) (by omega) hc
    rw [List.take_length, contains_hasL] at this
    exact this

abbrev askV (v : ByteArray) (t : Bool) (a : Option Addr) (n cap : Nat) : Value := .agg #[.string v, .bool t, .slice a n cap]

set_option maxHeartbeats 1000000 in
theorem in_calls (v : ByteArray) (t : Bool) (a : Option Addr) (cap : Nat) (V : List ByteArray) (w : World) (hV : Hid (StrsAt w a V)) : Calls Try.prog 56 #[.agg #[.string v, .bool t, .slice a V.length cap]] w fun e w' => e = .returned (.bool (t && hasL V v)) ∧ Below w.heap.size w w' := by
  have hb0 : Below w.heap.size w (w.alloc (.cells #[.string v, .bool t, .slice a V.length cap] 116)) := (Below.refl _ _).alloc (Nat.le_refl _) _
  have hc := Contains_calls a cap V v _ (show Hid (StrsAt (w.alloc (.cells #[.string v, .bool t, .slice a V.length cap] 116)) a V) from hV.out.on hb0)
  generalize hasL V v = b at hc
  clear hV
  cases t
  · go_enter Try.func56, Try.ntmps56
    go_wp2
    go_ret
    exact ⟨rfl, hb0⟩
  · go_enter Try.func56, Try.ntmps56
    go_wp2_with (go_at_call 70; refine hc.mono ?_; rintro e w' ⟨rfl, rfl⟩)
    go_ret
    exact ⟨by simp, hb0⟩

theorem exists_calls (v : ByteArray) (t : Bool) (a : Option Addr) (n cap : Nat) (w : World) : Calls Try.prog 58 #[.agg #[.string v, .bool t, .slice a n cap]] w fun e w' => e = .returned (.bool t) ∧ Below w.heap.size w w' := by
  go_enter Try.func58, Try.ntmps58
  go_wp2
  go_ret
  exact ⟨rfl, by go_grown⟩
theorem lacks_calls (v : ByteArray) (t : Bool) (a : Option Addr) (n cap : Nat) (w : World) : Calls Try.prog 59 #[.agg #[.string v, .bool t, .slice a n cap]] w fun e w' => e = .returned (.bool (!t)) ∧ Below w.heap.size w w' := by
  go_enter Try.func59, Try.ntmps59
  go_wp2
  go_ret
  exact ⟨rfl, by go_grown⟩
theorem never_calls (v : ByteArray) (t : Bool) (a : Option Addr) (n cap : Nat) (w : World) : Calls Try.prog 62 #[.agg #[.string v, .bool t, .slice a n cap]] w fun e w' => e = .returned (.bool false) ∧ Below w.heap.size w w' := by
  go_enter Try.func62, Try.ntmps62
  go_wp2
  go_ret
  exact ⟨rfl, by go_grown⟩

set_option maxHeartbeats 1000000 in
theorem notIn_calls (v : ByteArray) (t : Bool) (a : Option Addr) (cap : Nat) (V : List ByteArray) (w : World) (hV : Hid (StrsAt w a V)) : Calls Try.prog 57 #[.agg #[.string v, .bool t, .slice a V.length cap]] w fun e w' => e = .returned (.bool (!(t && hasL V v))) ∧ Below w.heap.size w w' := by
  have hb0 : Below w.heap.size w (w.alloc (.cells #[.string v, .bool t, .slice a V.length cap] 116)) := (Below.refl _ _).alloc (Nat.le_refl _) _
  have hc := in_calls v t a cap V _ (show Hid (StrsAt (w.alloc (.cells #[.string v, .bool t, .slice a V.length cap] 116)) a V) from hV.out.on hb0)
  generalize (t && hasL V v) = b at hc
  clear hV
  go_enter Try.func57, Try.ntmps57
  go_wp2_with (go_at_call 56; refine hc.mono ?_; rintro e w' ⟨rfl, hb⟩)
  go_ret
  exact ⟨rfl, on2 hb0 hb⟩

set_option maxHeartbeats 1000000 in
theorem inNumbers_calls (v : ByteArray) (t : Bool) (a : Option Addr) (cap : Nat) (V : List ByteArray) (w : World) (hV : Hid (StrsAt w a V)) : Calls Try.prog 71 #[.agg #[.string v, .bool t, .slice a V.length cap]] w fun e w' => e = .returned (.bool (t && numB v && (decide (V.length = 1) && numB (V.getD 0 default)))) ∧ Below w.heap.size w w' := by
  have hb0 : Below w.heap.size w (w.alloc (.cells #[.string v, .bool t, .slice a V.length cap] 116)) := (Below.refl _ _).alloc (Nat.le_refl _) _
  have h1 := isNumber_calls v
  have h2 := oneNumber_calls a cap V _ (show Hid (StrsAt (w.alloc (.cells #[.string v, .bool t, .slice a V.length cap] 116)) a V) from hV.out.on hb0)
  generalize (decide (V.length = 1) && numB (V.getD 0 default)) = c at h2
  generalize numB v = b at h1
  clear hV
  cases t
  · go_enter Try.func71, Try.ntmps71
    go_wp2
    go_ret
    exact ⟨rfl, hb0⟩
  · cases b
    · go_enter Try.func71, Try.ntmps71
      go_wp2_with (go_at_call 79; refine (h1 _).mono ?_; rintro e w' ⟨rfl, rfl⟩)
      go_ret
      exact ⟨rfl, hb0⟩
    · go_enter Try.func71, Try.ntmps71
      go_wp2_with (first | (go_at_call 79; refine (h1 _).mono ?_; rintro e w' ⟨rfl, rfl⟩) | (go_at_call 80; refine h2.mono ?_; rintro e w' ⟨rfl, rfl⟩))
      go_ret
      exact ⟨by simp, hb0⟩

def orI (x y : Int) : Int := if x ≠ 0 then x else y
set_option maxHeartbeats 1000000 in
theorem Or_calls (B : Nat) (cap : Nat) (x y : Int) (w : World) (c0 : w.cell? ⟨B, 0, none⟩ = some (.int .i64 x)) (c1 : w.cell? ⟨B, 0 + 1, none⟩ = some (.int .i64 y)) : Calls Try.prog 67 #[.slice (some ⟨B, 0, none⟩) 2 cap] w fun e w' => e = .returned (.int .i64 (orI x y)) ∧ w' = w := by
  go_enter Try.func67, Try.ntmps67
  go_wp2
  go_loop [8] (fun i => ∃ k : Nat, k ≤ 2 ∧ i = .int .i64 k ∧ Hid (1 ≤ k → x = 0) ∧ Hid (2 ≤ k → y = 0)) (fun i => 2 - (intOf i).toNat)
  case atStart => exact ⟨0, by omega, rfl, fun h => absurd h (by omega), fun h => absurd h (by omega)⟩
  case round =>
    obtain ⟨k, hk, rfl, hx, hy⟩ := hrel
    match k, hk with
    | 0, _ =>
      by_cases h : x = 0
      · subst h
        go_wp2
        go_round
        case rel => exact ⟨1, by omega, by go_num, by unfold Hid; simp, fun h => absurd h (by omega)⟩
        case measure => simp [intOf]
      · have h' : (x != 0) = true := bne_iff_ne.2 h
        have HF : Hid (orI x y = x) := if_pos h
        go_wp2
        go_ret
        exact ⟨by rw [HF.out]; rfl, rfl⟩
    | 1, _ =>
      have hx0 := hx.out (by omega)
      subst hx0
      by_cases h : y = 0
      · subst h
        go_wp2
        go_round
        case rel => exact ⟨2, by omega, by go_num, by unfold Hid; simp, by unfold Hid; simp⟩
        case measure => simp [intOf]
      · have h' : (y != 0) = true := bne_iff_ne.2 h
        have HF : Hid (orI 0 y = y) := if_neg (by simp)
        go_wp2
        go_ret
        exact ⟨by rw [HF.out]; rfl, rfl⟩
    | 2, _ =>
      have hx0 := hx.out (by omega)
      have hy0 := hy.out (by omega)
      subst hx0 hy0
      go_wp2
      go_ret
      exact ⟨rfl, rfl⟩

set_option maxHeartbeats 1000000 in
theorem compareNumbers_calls (a b : ByteArray) (w : World) : Calls Try.prog 72 #[.string a, .string b] w fun e w' => e = .returned (.int .i64 (cmpN a b)) ∧ Below w.heap.size w w' := by
  have h1 := Try.cmp_Compare_int a.size b.size
  have h2 := Try.strings_Compare a b
  have HF : Hid (cmpN a b = orI (Lib.compareInt a.size b.size) (Lib.compareBytes a.data.toList b.data.toList)) := rfl
  generalize Lib.compareInt a.size b.size = x at h1 HF
  generalize Lib.compareBytes a.data.toList b.data.toList = y at h2 HF
  have h3 := Or_calls w.heap.size 2 x y (w.alloc (.cells #[.int .i64 x, .int .i64 y] 3)) (by simp [go_sem]) (by simp [go_sem])
  generalize orI x y = r at h3 HF
  go_enter Try.func72, Try.ntmps72
  go_wp2_with (first | (go_at_call 68; refine (h1 _).mono ?_; rintro e w' ⟨rfl, rfl⟩) | (go_at_call 69; refine (h2 _).mono ?_; rintro e w' ⟨rfl, rfl⟩) | (go_at_call 67; refine h3.mono ?_; rintro e w' ⟨rfl, rfl⟩))
  go_ret
  exact ⟨by rw [HF.out]; rfl, by go_grown⟩
end Go.Proofs.Ytmnldngojgldiaa
