/- container/heap's Push, Remove and Fix over a keyed list: the plain functions. No condition. -/
import Derived.Test.YtgncpjplofacfaaHDown
namespace Go.Proofs.Ytgncpjplofacfaa
open Go.RowKit Go.Maps
set_option linter.unusedSimpArgs false

theorem upF_length : ∀ (f : Nat) (L : List It) (j : Nat), (upF f L j).length = L.length
  | 0, _, _ => rfl
  | f + 1, L, j => by
    unfold upF
    split
    · rfl
    · split
      · rw [upF_length, swapL_length]
      · rfl
theorem downF_length : ∀ (f n : Nat) (L : List It) (i : Nat), (downF f n L i).1.length = L.length
  | 0, _, _, _ => rfl
  | f + 1, n, L, i => by
    unfold downF
    split
    · rfl
    · split
      · rw [downF_length, swapL_length]
      · rfl
/-- The last entry. -/
def lastI (L : List It) : It := L.getLastD default
theorem snoc_of (L : List It) (h : 0 < L.length) : L = L.dropLast ++ [lastI L] := by
  cases L with
  | nil => simp at h
  | cons x L => simp [lastI, List.getLastD_eq_getLast?, List.getLast?_eq_some_getLast, List.dropLast_concat_getLast]
theorem kLenH {F : Where} {w : World} {kb : Nat} {L : List It} (h : HK F w kb L) : ∃ r, Sem.run Try.prog (method 202 50 (.pointer (some ⟨kb, 0, none⟩)) "Len") w = .ok (30, r) w ∧
    Hid (Calls Try.prog 30 #[r] w fun e w' => e = .returned (.int .i64 (L.length : Int)) ∧ Below w.heap.size w w') := kLen h
/-- What a new entry's laying makes of a list. -/
def pushL (L : List It) (y : It) : List It := upF (L.length + 1) (L ++ [y]) L.length
/-- An entry's place set right. -/
def fixL (n : Nat) (L : List It) (i : Nat) : List It := if i < (downF (n + 1) n L i).2 then (downF (n + 1) n L i).1 else upF (i + 1) (downF (n + 1) n L i).1 i
theorem fixL_length (n : Nat) (L : List It) (i : Nat) : (fixL n L i).length = L.length := by
  unfold fixL; split
  · rw [downF_length]
  · rw [upF_length, downF_length]
/-- The entry at place i is last. -/
def lastL (L : List It) (i : Nat) : List It := if L.length - 1 = i then L else fixL (L.length - 1) (swapL L i (L.length - 1)) i
theorem lastL_length (L : List It) (i : Nat) : (lastL L i).length = L.length := by
  unfold lastL; split
  · rfl
  · rw [fixL_length, swapL_length]
set_option maxHeartbeats 1000000 in
theorem hPush_calls {F : Where} {w : World} {kb : Nat} {L : List It} (h : HK F w kb L) (hF : ∀ b, w.heap.size ≤ b → F b) (hL : L.length < 1000000000000) (y : It) (hy : okI y) (hnew : ∀ x ∈ L, kl x ≠ kl y) :
    Calls Try.prog 37 #[.iface 50 (.pointer (some ⟨kb, 0, none⟩)), .iface 27 (vI y)] w fun e w' => e = .returned (.tuple #[]) ∧ HK F w' kb (pushL L y) ∧ Turns F w w' := by
  have H0 : Hid (HK F w kb L) := h
  clear h
  go_enter Try.func37, Try.ntmps37
  go_wp2_with (first
    | (go_at_call 68; refine (kPush H0.out hF (by omega) y hy hnew).mono ?_; rintro e w1 ⟨rfl, hk1, ht1⟩; have Hk1 : Hid (HK F w1 kb (L ++ [y])) := hk1; clear hk1; obtain ⟨r, mN, hN⟩ := kLenH Hk1.out)
    | (go_at_call 30; refine hN.out.mono ?_; rintro e w2 ⟨rfl, hb2⟩; have hll : (((L ++ [y]).length : Nat) : Int) - 1 = (L.length : Int) := (by simp))
    | (go_at_call 42; go_loud (refine (up_calls (Hk1.out.grow hb2) (by simp; omega) L.length (by simp)).mono ?_; rintro e w3 ⟨rfl, hk3, ht3⟩)))
  go_end0
  exact ⟨rfl, hk3, (ht1.trans (Turns.below hb2)).trans ht3⟩
/-- The last entry goes. -/
theorem kPop' {F : Where} {w : World} {kb : Nat} {L : List It} (h : HK F w kb L) (hL : L.length < 1099511627776) (h0 : 0 < L.length) :
    Calls Try.prog 67 #[.pointer (some ⟨kb, 0, none⟩)] w fun e w' => e = .returned (.iface 27 (vI (lastI L))) ∧ HK F w' kb L.dropLast ∧ Turns F w w' := by
  have e := snoc_of L h0
  rw [e] at h
  exact kPop h (by simp; omega)
set_option maxHeartbeats 2000000 in
theorem Remove_calls {F : Where} {w : World} {kb : Nat} {L : List It} (h : HK F w kb L) (hL : L.length < 1000000000000) (i : Nat) (hi : i < L.length) :
    Calls Try.prog 39 #[.iface 50 (.pointer (some ⟨kb, 0, none⟩)), .int .i64 (i : Int)] w fun e w' => e = .returned (.iface 27 (vI (lastI (lastL L i)))) ∧ HK F w' kb (lastL L i).dropLast ∧ Turns F w w' := by
  have H0 : Hid (HK F w kb L) := h
  clear h
  obtain ⟨r, mN, hN⟩ := kLenH H0.out
  obtain ⟨n, hn⟩ : ∃ n, n = L.length - 1 := ⟨_, rfl⟩
  have hne : (L.length : Int) - 1 = (n : Int) := by omega
  have HN : Hid (n = L.length - 1 ∧ n < L.length) := ⟨hn, by omega⟩
  clear hn
  by_cases hni : n = i
  · have HL : Hid (lastL L i = L) := by
      show lastL L i = L
      unfold lastL; rw [if_pos (by rw [← HN.out.1]; exact hni)]
    have hni' : (n : Int) = (i : Int) := by omega
    rw [HL.out]
    go_enter Try.func39, Try.ntmps39
    go_wp2_with (first
      | (go_at_call 30; refine hN.out.mono ?_; rintro e w1 ⟨rfl, hb1⟩)
      | (go_at_call 67; go_loud (refine (kPop' (H0.out.grow hb1) (by omega) (by omega)).mono ?_; rintro e w5 ⟨rfl, hk5, ht5⟩)))
    go_ret
    exact ⟨rfl, hk5, (Turns.below hb1).trans ht5⟩
  · have hni' : ¬ (n : Int) = (i : Int) := by omega
    have HL : Hid (lastL L i = fixL n (swapL L i n) i) := by
      show lastL L i = _
      unfold lastL; rw [← HN.out.1, if_neg hni]
    have hin : ¬ i = n := fun e => hni e.symm
    by_cases hd : i < (downF (n + 1) n (swapL L i n) i).2
    · have HX : Hid (lastL L i = (downF (n + 1) n (swapL L i n) i).1) := by
        show lastL L i = _
        rw [HL.out]; unfold fixL; rw [if_pos hd]
      have HD : Hid (∀ {u : World}, HK F u kb (swapL L i n) → Calls Try.prog 43 #[.iface 50 (.pointer (some ⟨kb, 0, none⟩)), .int .i64 (i : Int), .int .i64 (n : Int)] u fun e w' => e = .returned (.bool true) ∧ HK F w' kb (lastL L i) ∧ Turns F u w') := by
        intro u hu
        have := down_calls hu (by rw [swapL_length]; omega) i n (by omega) (by rw [swapL_length]; omega)
        rw [decide_eq_true hd, ← HX.out] at this
        exact this
      clear HX hd HL
      go_enter Try.func39, Try.ntmps39
      go_wp2_with (first
        | (go_at_call 30; refine hN.out.mono ?_; rintro e w1 ⟨rfl, hb1⟩)
        | (go_at_call 69; refine (kSwap' (H0.out.grow hb1) (by omega) hi HN.out.2 hin).mono ?_; rintro e w2 ⟨rfl, hk2, ht2⟩)
        | (go_at_call 43; refine (HD.out hk2).mono ?_; rintro e w3 ⟨rfl, hk3, ht3⟩)
        | (go_at_call 67; refine (kPop' hk3 (by rw [lastL_length]; omega) (by rw [lastL_length]; omega)).mono ?_; rintro e w5 ⟨rfl, hk5, ht5⟩))
      go_ret
      exact ⟨rfl, hk5, (((Turns.below hb1).trans ht2).trans ht3).trans ht5⟩
    · have HX : Hid (lastL L i = upF (i + 1) (downF (n + 1) n (swapL L i n) i).1 i) := by
        show lastL L i = _
        rw [HL.out]; unfold fixL; rw [if_neg hd]
      obtain ⟨M, hM⟩ : ∃ M, M = (downF (n + 1) n (swapL L i n) i).1 := ⟨_, rfl⟩
      have hMl : M.length = L.length := by rw [hM, downF_length, swapL_length]
      have HD : Hid (∀ {u : World}, HK F u kb (swapL L i n) → Calls Try.prog 43 #[.iface 50 (.pointer (some ⟨kb, 0, none⟩)), .int .i64 (i : Int), .int .i64 (n : Int)] u fun e w' => e = .returned (.bool false) ∧ HK F w' kb M ∧ Turns F u w') := by
        intro u hu
        have := down_calls hu (by rw [swapL_length]; omega) i n (by omega) (by rw [swapL_length]; omega)
        rw [decide_eq_false hd, ← hM] at this
        exact this
      have HU : Hid (∀ {u : World}, HK F u kb M → Calls Try.prog 42 #[.iface 50 (.pointer (some ⟨kb, 0, none⟩)), .int .i64 (i : Int)] u fun e w' => e = .returned (.tuple #[]) ∧ HK F w' kb (lastL L i) ∧ Turns F u w') := by
        intro u hu
        have := up_calls hu (by omega) i (by omega)
        rw [HX.out, ← hM]
        exact this
      clear HX hd HL hM
      go_enter Try.func39, Try.ntmps39
      go_wp2_with (first
        | (go_at_call 30; refine hN.out.mono ?_; rintro e w1 ⟨rfl, hb1⟩)
        | (go_at_call 69; refine (kSwap' (H0.out.grow hb1) (by omega) hi HN.out.2 hin).mono ?_; rintro e w2 ⟨rfl, hk2, ht2⟩)
        | (go_at_call 43; refine (HD.out hk2).mono ?_; rintro e w3 ⟨rfl, hk3, ht3⟩)
        | (go_at_call 42; refine (HU.out hk3).mono ?_; rintro e w4 ⟨rfl, hk4, ht4⟩)
        | (go_at_call 67; refine (kPop' hk4 (by rw [lastL_length]; omega) (by rw [lastL_length]; omega)).mono ?_; rintro e w5 ⟨rfl, hk5, ht5⟩))
      go_ret
      exact ⟨rfl, hk5, ((((Turns.below hb1).trans ht2).trans ht3).trans ht4).trans ht5⟩
set_option maxHeartbeats 2000000 in
theorem Fix_calls {F : Where} {w : World} {kb : Nat} {L : List It} (h : HK F w kb L) (hL : L.length < 1000000000000) (i : Nat) (hi : i < L.length) :
    Calls Try.prog 38 #[.iface 50 (.pointer (some ⟨kb, 0, none⟩)), .int .i64 (i : Int)] w fun e w' => e = .returned (.tuple #[]) ∧ HK F w' kb (fixL L.length L i) ∧ Turns F w w' := by
  have H0 : Hid (HK F w kb L) := h
  clear h
  obtain ⟨r, mN, hN⟩ := kLenH H0.out
  by_cases hd : i < (downF (L.length + 1) L.length L i).2
  · have HD : Hid (∀ {u : World}, Below w.heap.size w u → Calls Try.prog 43 #[.iface 50 (.pointer (some ⟨kb, 0, none⟩)), .int .i64 (i : Int), .int .i64 (L.length : Int)] u fun e w' => e = .returned (.bool true) ∧ HK F w' kb (fixL L.length L i) ∧ Turns F u w') := by
      intro u hu
      have := down_calls (H0.out.grow hu) (by omega) i L.length (by omega) (Nat.le_refl _)
      unfold fixL
      rw [decide_eq_true hd] at this
      rw [if_pos hd]
      exact this
    clear hd
    go_enter Try.func38, Try.ntmps38
    go_wp2_with (first
      | (go_at_call 30; refine hN.out.mono ?_; rintro e w1 ⟨rfl, hb1⟩)
      | (go_at_call 43; refine (HD.out hb1).mono ?_; rintro e w3 ⟨rfl, hk3, ht3⟩))
    go_end0
    exact ⟨rfl, hk3, (Turns.below hb1).trans ht3⟩
  · obtain ⟨M, hM⟩ : ∃ M, M = (downF (L.length + 1) L.length L i).1 := ⟨_, rfl⟩
    have hMl : M.length = L.length := by rw [hM, downF_length]
    have HD : Hid (∀ {u : World}, Below w.heap.size w u → Calls Try.prog 43 #[.iface 50 (.pointer (some ⟨kb, 0, none⟩)), .int .i64 (i : Int), .int .i64 (L.length : Int)] u fun e w' => e = .returned (.bool false) ∧ HK F w' kb M ∧ Turns F u w') := by
      intro u hu
      have := down_calls (H0.out.grow hu) (by omega) i L.length (by omega) (Nat.le_refl _)
      rw [decide_eq_false hd, ← hM] at this
      exact this
    have HU : Hid (∀ {u : World}, HK F u kb M → Calls Try.prog 42 #[.iface 50 (.pointer (some ⟨kb, 0, none⟩)), .int .i64 (i : Int)] u fun e w' => e = .returned (.tuple #[]) ∧ HK F w' kb (fixL L.length L i) ∧ Turns F u w') := by
      intro u hu
      have := up_calls hu (by omega) i (by omega)
      unfold fixL
      rw [if_neg hd, ← hM]
      exact this
    clear hd hM
    go_enter Try.func38, Try.ntmps38
    go_wp2_with (first
      | (go_at_call 30; refine hN.out.mono ?_; rintro e w1 ⟨rfl, hb1⟩)
      | (go_at_call 43; refine (HD.out hb1).mono ?_; rintro e w3 ⟨rfl, hk3, ht3⟩)
      | (go_at_call 42; refine (HU.out hk3).mono ?_; rintro e w4 ⟨rfl, hk4, ht4⟩))
    go_end0
    exact ⟨rfl, hk4, ((Turns.below hb1).trans ht3).trans ht4⟩
end Go.Proofs.Ytgncpjplofacfaa
