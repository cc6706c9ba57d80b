/- Digits without a 0 ahead: the longer ones tell the greater number, and among those of one length the order of their bytes is the numbers'. Plain mathematics. No condition. What an Op asks: the methods in, notIn, exists, lacks, never, inNumbers of label.ask, and compareNumbers, return what the plain functions say; they change nothing that was there. Condition: the values' slice holds what is said of it. -/
import Derived.Test.YteihniiacfghoabQ07
import Derived.Lib.Small
import Derived.Test.YteihniiacfghoabShelf
namespace Go.Proofs.Yteihniiacfghoab

def valL : List UInt8 → Nat
  | [] => 0
  | c :: cs => (c.toNat - 48) * 10 ^ cs.length + valL cs
theorem valL_snoc : ∀ (l : List UInt8) (c : UInt8), valL (l ++ [c]) = 10 * valL l + (c.toNat - 48)
  | [], c => by simp [valL]
  | x :: l, c => by
    simp only [List.cons_append, valL, valL_snoc l c, List.length_append, List.length_singleton, Nat.pow_succ]
    rw [Nat.mul_add, ← Nat.mul_assoc, Nat.mul_comm _ 10]
    omega
theorem numTo_valL (s : ByteArray) : ∀ k, k ≤ s.size → numTo s k = valL (s.data.toList.take k)
  | 0, _ => by simp [numTo, valL]
  | k + 1, h => by
    have hk : k < s.data.toList.length := by simp; omega
    rw [numTo, numTo_valL s k (by omega), List.take_add_one, List.getElem?_eq_getElem hk, Option.toList_some, valL_snoc]
    congr 2
    unfold byteAt
    rw [List.getD_eq_getElem?_getD, List.getElem?_eq_getElem hk]
    rfl
theorem numN_valL (s : ByteArray) : numN s = valL s.data.toList := by
  rw [numN, numTo_valL s s.size (Nat.le_refl _), List.take_of_length_le (by simp)]
theorem valL_lt : ∀ (l : List UInt8), (∀ c ∈ l, isDig c = true) → valL l < 10 ^ l.length
  | [], _ => by simp [valL]
  | c :: l, h => by
    have ih := valL_lt l (fun x hx => h x (by simp [hx]))
    have hd := (isDig_iff c).1 (h c (by simp))
    simp only [valL, List.length_cons, Nat.pow_succ]
    have : (c.toNat - 48) * 10 ^ l.length ≤ 9 * 10 ^ l.length := Nat.mul_le_mul_right _ (by omega)
    omega
theorem cmp_valL : ∀ (l m : List UInt8), l.length = m.length → (∀ c ∈ l, isDig c = true) → (∀ c ∈ m, isDig c = true) →
    (Lib.compareBytes l m = -1 ∧ valL l < valL m) ∨ (Lib.compareBytes l m = 0 ∧ valL l = valL m) ∨ (Lib.compareBytes l m = 1 ∧ valL m < valL l)
  | [], [], _, _, _ => .inr (.inl ⟨rfl, rfl⟩)
  | [], _ :: _, h, _, _ => by simp at h
  | _ :: _, [], h, _, _ => by simp at h
  | a :: l, b :: m, h, hl, hm => by
    have hlen : l.length = m.length := by simpa using h
    have ih := cmp_valL l m hlen (fun x hx => hl x (by simp [hx])) (fun x hx => hm x (by simp [hx]))
    have b1 := valL_lt l (fun x hx => hl x (by simp [hx]))
    have b2 := valL_lt m (fun x hx => hm x (by simp [hx]))
    have ha := (isDig_iff a).1 (hl a (by simp))
    have hb := (isDig_iff b).1 (hm b (by simp))
    simp only [Lib.compareBytes, valL]
    rw [hlen] at b1 ⊢
    have key : ∀ x y : Nat, x < y → x * 10 ^ m.length + 10 ^ m.length ≤ y * 10 ^ m.length := fun x y hxy => by
      have := Nat.mul_le_mul_right (10 ^ m.length) (show x + 1 ≤ y from hxy)
      rw [Nat.add_mul, Nat.one_mul] at this
      exact this
    by_cases h1 : a < b
    · have h1' : a.toNat < b.toNat := h1
      have := key (a.toNat - 48) (b.toNat - 48) (by omega)
      rw [if_pos h1]
      exact .inl ⟨rfl, by omega⟩
    · rw [if_neg h1]
      by_cases h2 : b < a
      · have h2' : b.toNat < a.toNat := h2
        have := key (b.toNat - 48) (a.toNat - 48) (by omega)
        rw [if_pos h2]
        exact .inr (.inr ⟨rfl, by omega⟩)
      · rw [if_neg h2]
        have h1' : ¬ a.toNat < b.toNat := h1
        have h2' : ¬ b.toNat < a.toNat := h2
        have : a.toNat = b.toNat := by omega
        rw [this]
        rcases ih with ⟨e, hh⟩ | ⟨e, hh⟩ | ⟨e, hh⟩
        · exact .inl ⟨e, by omega⟩
        · exact .inr (.inl ⟨e, by omega⟩)
        · exact .inr (.inr ⟨e, by omega⟩)
theorem numB_parts {s : ByteArray} (h : numB s = true) : 1 ≤ s.size ∧ s.size ≤ 15 ∧ ¬(1 < s.size ∧ (byteAt s 0).toNat = 48) ∧ ∀ c ∈ s.data.toList, isDig c = true := by
  simp only [numB, Bool.and_eq_true, decide_eq_true_eq, Bool.not_eq_true', Bool.and_eq_false_iff, decide_eq_false_iff_not] at h
  obtain ⟨⟨⟨h1, h2⟩, h3⟩, h4⟩ := h
  refine ⟨h1, h2, by omega, fun c hc => ?_⟩
  obtain ⟨j, hj, rfl⟩ := List.mem_iff_getElem.1 hc
  have := allTo_iff.1 h4 j (by simpa using hj)
  unfold byteAt at this
  rwa [List.getD_eq_getElem?_getD, List.getElem?_eq_getElem hj] at this
theorem long_valL {s : ByteArray} (h : numB s = true) (h1 : 1 < s.size) : 10 ^ (s.size - 1) ≤ numN s := by
  obtain ⟨_, _, h3, h4⟩ := numB_parts h
  have h0 : (byteAt s 0).toNat ≠ 48 := fun e => h3 ⟨h1, e⟩
  rw [numN_valL]
  have hl : s.data.toList.length = s.size := by simp
  unfold byteAt at h0
  generalize s.data.toList = l at *
  match l, hl with
  | [], hl => simp at hl; omega
  | c :: cs, hl =>
    have hd := (isDig_iff c).1 (h4 c (by simp))
    simp only [List.getD_cons_zero] at h0
    have e : s.size - 1 = cs.length := by simp at hl; omega
    rw [e, valL]
    have := Nat.mul_le_mul_right (10 ^ cs.length) (show 1 ≤ c.toNat - 48 by omega)
    omega
/-- What compareNumbers answers. -/
def cmpN (a b : ByteArray) : Int := if Lib.compareInt a.size b.size ≠ 0 then Lib.compareInt a.size b.size else Lib.compareBytes a.data.toList b.data.toList
theorem cmpN_order {a b : ByteArray} (ha : numB a = true) (hb : numB b = true) : (cmpN a b < 0 ∧ numN a < numN b) ∨ (cmpN a b = 0 ∧ numN a = numN b) ∨ (0 < cmpN a b ∧ numN b < numN a) := by
  obtain ⟨a1, a2, a3, a4⟩ := numB_parts ha
  obtain ⟨b1, b2, b3, b4⟩ := numB_parts hb
  have la : a.data.toList.length = a.size := by simp
  have lb : b.data.toList.length = b.size := by simp
  have va := valL_lt _ a4
  have vb := valL_lt _ b4
  rw [← numN_valL, la] at va
  rw [← numN_valL, lb] at vb
  unfold cmpN Lib.compareInt
  by_cases h1 : (a.size : Int) < b.size
  · have := long_valL hb (by omega)
    have h2 := Nat.pow_le_pow_right (n := 10) (by omega) (show a.size ≤ b.size - 1 by omega)
    simp only [h1, if_true]
    exact .inl ⟨by simp, by omega⟩
  · by_cases h2 : (a.size : Int) > b.size
    · have := long_valL ha (by omega)
      have h3 := Nat.pow_le_pow_right (n := 10) (by omega) (show b.size ≤ a.size - 1 by omega)
      simp only [h1, if_false, h2, if_true]
      exact .inr (.inr ⟨by simp, by omega⟩)
    · simp only [h1, h2, if_false, ne_eq, not_true]
      rw [numN_valL, numN_valL]
      rcases cmp_valL _ _ (by omega) a4 b4 with ⟨e, h⟩ | ⟨e, h⟩ | ⟨e, h⟩ <;> rw [e] <;> simp [h]
theorem cmpN_above {a b : ByteArray} (ha : numB a = true) (hb : numB b = true) : decide (0 < cmpN a b) = decide (numN b < numN a) := by
  rcases cmpN_order ha hb with h | h | h <;> (rw [Bool.eq_iff_iff]; simp; omega)
theorem cmpN_below {a b : ByteArray} (ha : numB a = true) (hb : numB b = true) : decide (cmpN a b < 0) = decide (numN a < numN b) := by
  rcases cmpN_order ha hb with h | h | h <;> (rw [Bool.eq_iff_iff]; simp; omega)
end Go.Proofs.Yteihniiacfghoab
namespace Go.Proofs.Yteihniiacfghoab
open Go.RowKit
set_option linter.unusedSimpArgs false

theorem contains_hasL (V : List ByteArray) (s : ByteArray) : Lib.containsS V s = hasL V s := by
  rw [Bool.eq_iff_iff, Lib.containsS_iff, hasL, List.any_eq_true]
  constructor
  · intro h; exact ⟨s, h, sEq_self s⟩
  · rintro ⟨v, hv, h⟩; rw [← (sEq_iff v s).1 h]; exact hv
theorem Contains_calls (a : Option Addr) (cap : Nat) (V : List ByteArray) (s : ByteArray) (w : World) (hV : Hid (StrsAt w a V)) : Calls Try.prog 55 #[.slice a V.length cap, .string s] w fun e w' => e = .returned (.bool (hasL V s)) ∧ w' = w := by
  by_cases h : V = []
  · subst h
    exact Try.slices_Contains_string_empty a cap s w
  · obtain ⟨h1, h2, h3⟩ := hV.out
    obtain ⟨B, off, rfl, hB, hc⟩ := h3 h
    have := Try.slices_Contains_string B off V.length cap V s w (Nat.le_refl _) (by omega) hc
    rw [List.take_length, contains_hasL] at this
    exact this

abbrev askV (v : ByteArray) (t : Bool) (a : Option Addr) (n cap : Nat) : Value := .agg #[.string v, .bool t, .slice a n cap]

set_option maxHeartbeats 1000000 in
theorem in_calls (v : ByteArray) (t : Bool) (a : Option Addr) (cap : Nat) (V : List ByteArray) (w : World) (hV : Hid (StrsAt w a V)) : Calls Try.prog 46 #[.agg #[.string v, .bool t, .slice a V.length cap]] w fun e w' => e = .returned (.bool (t && hasL V v)) ∧ Below w.heap.size w w' := by
  have hb0 : Below w.heap.size w (w.alloc (.cells #[.string v, .bool t, .slice a V.length cap] 89)) := (Below.refl _ _).alloc (Nat.le_refl _) _
  have hc := Contains_calls a cap V v _ (show Hid (StrsAt (w.alloc (.cells #[.string v, .bool t, .slice a V.length cap] 89)) a V) from hV.out.on hb0)
  generalize hasL V v = b at hc
  clear hV
  cases t
  · go_enter Try.func46, Try.ntmps46
    go_wp2
    go_ret
    exact ⟨rfl, hb0⟩
  · go_enter Try.func46, Try.ntmps46
    go_wp2_with (go_at_call 55; refine hc.mono ?_; rintro e w' ⟨rfl, rfl⟩)
    go_ret
    exact ⟨by simp, hb0⟩

theorem exists_calls (v : ByteArray) (t : Bool) (a : Option Addr) (n cap : Nat) (w : World) : Calls Try.prog 48 #[.agg #[.string v, .bool t, .slice a n cap]] w fun e w' => e = .returned (.bool t) ∧ Below w.heap.size w w' := by
  go_enter Try.func48, Try.ntmps48
  go_wp2
  go_ret
  exact ⟨rfl, by go_grown⟩
theorem lacks_calls (v : ByteArray) (t : Bool) (a : Option Addr) (n cap : Nat) (w : World) : Calls Try.prog 49 #[.agg #[.string v, .bool t, .slice a n cap]] w fun e w' => e = .returned (.bool (!t)) ∧ Below w.heap.size w w' := by
  go_enter Try.func49, Try.ntmps49
  go_wp2
  go_ret
  exact ⟨rfl, by go_grown⟩
theorem never_calls (v : ByteArray) (t : Bool) (a : Option Addr) (n cap : Nat) (w : World) : Calls Try.prog 52 #[.agg #[.string v, .bool t, .slice a n cap]] w fun e w' => e = .returned (.bool false) ∧ Below w.heap.size w w' := by
  go_enter Try.func52, Try.ntmps52
  go_wp2
  go_ret
  exact ⟨rfl, by go_grown⟩

set_option maxHeartbeats 1000000 in
theorem notIn_calls (v : ByteArray) (t : Bool) (a : Option Addr) (cap : Nat) (V : List ByteArray) (w : World) (hV : Hid (StrsAt w a V)) : Calls Try.prog 47 #[.agg #[.string v, .bool t, .slice a V.length cap]] w fun e w' => e = .returned (.bool (!(t && hasL V v))) ∧ Below w.heap.size w w' := by
  have hb0 : Below w.heap.size w (w.alloc (.cells #[.string v, .bool t, .slice a V.length cap] 89)) := (Below.refl _ _).alloc (Nat.le_refl _) _
  have hc := in_calls v t a cap V _ (show Hid (StrsAt (w.alloc (.cells #[.string v, .bool t, .slice a V.length cap] 89)) a V) from hV.out.on hb0)
  generalize (t && hasL V v) = b at hc
  clear hV
  go_enter Try.func47, Try.ntmps47
  go_wp2_with (go_at_call 46; refine hc.mono ?_; rintro e w' ⟨rfl, hb⟩)
  go_ret
  exact ⟨rfl, on2 hb0 hb⟩

set_option maxHeartbeats 1000000 in
theorem inNumbers_calls (v : ByteArray) (t : Bool) (a : Option Addr) (cap : Nat) (V : List ByteArray) (w : World) (hV : Hid (StrsAt w a V)) : Calls Try.prog 56 #[.agg #[.string v, .bool t, .slice a V.length cap]] w fun e w' => e = .returned (.bool (t && numB v && (decide (V.length = 1) && numB (V.getD 0 default)))) ∧ Below w.heap.size w w' := by
  have hb0 : Below w.heap.size w (w.alloc (.cells #[.string v, .bool t, .slice a V.length cap] 89)) := (Below.refl _ _).alloc (Nat.le_refl _) _
  have h1 := isNumber_calls v
  have h2 := oneNumber_calls a cap V _ (show Hid (StrsAt (w.alloc (.cells #[.string v, .bool t, .slice a V.length cap] 89)) a V) from hV.out.on hb0)
  generalize (decide (V.length = 1) && numB (V.getD 0 default)) = c at h2
  generalize numB v = b at h1
  clear hV
  cases t
  · go_enter Try.func56, Try.ntmps56
    go_wp2
    go_ret
    exact ⟨rfl, hb0⟩
  · cases b
    · go_enter Try.func56, Try.ntmps56
      go_wp2_with (go_at_call 59; refine (h1 _).mono ?_; rintro e w' ⟨rfl, rfl⟩)
      go_ret
      exact ⟨rfl, hb0⟩
    · go_enter Try.func56, Try.ntmps56
      go_wp2_with (first | (go_at_call 59; refine (h1 _).mono ?_; rintro e w' ⟨rfl, rfl⟩) | (go_at_call 60; refine h2.mono ?_; rintro e w' ⟨rfl, rfl⟩))
      go_ret
      exact ⟨by simp, hb0⟩

def orI (x y : Int) : Int := if x ≠ 0 then x else y
set_option maxHeartbeats 1000000 in
theorem Or_calls (B : Nat) (cap : Nat) (x y : Int) (w : World) (c0 : w.cell? ⟨B, 0, none⟩ = some (.int .i64 x)) (c1 : w.cell? ⟨B, 0 + 1, none⟩ = some (.int .i64 y)) : Calls Try.prog 61 #[.slice (some ⟨B, 0, none⟩) 2 cap] w fun e w' => e = .returned (.int .i64 (orI x y)) ∧ w' = w := by
  go_enter Try.func61, Try.ntmps61
  go_wp2
  go_loop [8] (fun i => ∃ k : Nat, k ≤ 2 ∧ i = .int .i64 k ∧ Hid (1 ≤ k → x = 0) ∧ Hid (2 ≤ k → y = 0)) (fun i => 2 - (intOf i).toNat)
  case atStart => exact ⟨0, by omega, rfl, fun h => absurd h (by omega), fun h => absurd h (by omega)⟩
  case round =>
    obtain ⟨k, hk, rfl, hx, hy⟩ := hrel
    match k, hk with
    | 0, _ =>
      by_cases h : x = 0
      · subst h
        go_wp2
        go_round
        case rel => exact ⟨1, by omega, by go_num, by unfold Hid; simp, fun h => absurd h (by omega)⟩
        case measure => simp [intOf]
      · have h' : (x != 0) = true := bne_iff_ne.2 h
        have HF : Hid (orI x y = x) := if_pos h
        go_wp2
        go_ret
        exact ⟨by rw [HF.out]; rfl, rfl⟩
    | 1, _ =>
      have hx0 := hx.out (by omega)
      subst hx0
      by_cases h : y = 0
      · subst h
        go_wp2
        go_round
        case rel => exact ⟨2, by omega, by go_num, by unfold Hid; simp, by unfold Hid; simp⟩
        case measure => simp [intOf]
      · have h' : (y != 0) = true := bne_iff_ne.2 h
        have HF : Hid (orI 0 y = y) := if_neg (by simp)
        go_wp2
        go_ret
        exact ⟨by rw [HF.out]; rfl, rfl⟩
    | 2, _ =>
      have hx0 := hx.out (by omega)
      have hy0 := hy.out (by omega)
      subst hx0 hy0
      go_wp2
      go_ret
      exact ⟨rfl, rfl⟩

set_option maxHeartbeats 1000000 in
theorem compareNumbers_calls (a b : ByteArray) (w : World) : Calls Try.prog 57 #[.string a, .string b] w fun e w' => e = .returned (.int .i64 (cmpN a b)) ∧ Below w.heap.size w w' := by
  have h1 := Try.cmp_Compare_int a.size b.size
  have h2 := Try.strings_Compare a b
  have HF : Hid (cmpN a b = orI (Lib.compareInt a.size b.size) (Lib.compareBytes a.data.toList b.data.toList)) := rfl
  generalize Lib.compareInt a.size b.size = x at h1 HF
  generalize Lib.compareBytes a.data.toList b.data.toList = y at h2 HF
  have h3 := Or_calls w.heap.size 2 x y (w.alloc (.cells #[.int .i64 x, .int .i64 y] 3)) (by simp [go_sem]) (by simp [go_sem])
  generalize orI x y = r at h3 HF
  go_enter Try.func57, Try.ntmps57
  go_wp2_with (first | (go_at_call 62; refine (h1 _).mono ?_; rintro e w' ⟨rfl, rfl⟩) | (go_at_call 63; refine (h2 _).mono ?_; rintro e w' ⟨rfl, rfl⟩) | (go_at_call 61; refine h3.mono ?_; rintro e w' ⟨rfl, rfl⟩))
  go_ret
  exact ⟨by rw [HF.out]; rfl, by go_grown⟩
end Go.Proofs.Yteihniiacfghoab
