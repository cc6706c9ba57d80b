/- How a list of entries lies in memory; sort.insertionSort and sort.swapRange over it: the plain functions. No condition. -/
import Derived.Test.YtgncpjplofacfaaHMeth
namespace Go.Proofs.Ytgncpjplofacfaa
open Go.RowKit Go.Maps
set_option linter.unusedSimpArgs false

/-- A list of entries, in a row of its own. -/
structure LsAt (F : Where) (w : World) (g cap : Nat) (L : List It) : Prop where
  fg : F g
  row : w.ownsRow 0 27 3 (.slice (some ⟨g, 0, none⟩) L.length cap) L.length (flatE encI L)
  ok : ∀ x ∈ L, okI x
abbrev Lv (g n cap : Nat) : Value := .agg #[.slice (some ⟨g, 0, none⟩) n cap, .func (.func 36) #[] #[]]
section
variable {F : Where} {w w' : World} {g cap : Nat} {L : List It}
theorem LsAt.lt (h : LsAt F w g cap L) : g < w.heap.size := by
  obtain ⟨_, ⟨h0, _⟩ | ⟨g', cap', cur, hv, _, hg, _⟩⟩ := h.row
  · cases h0
  · obtain rfl : g = g' := by simp at hv; exact hv.1
    exact block_lt hg
theorem LsAt.cells (h : LsAt F w g cap L) (i : Nat) (hi : i < L.length) : (w.cell? ⟨g, i * 3, none⟩ = some (.string (at_ L i).1) ∧ w.cell? ⟨g, i * 3 + 1, none⟩ = some (.int .i64 (at_ L i).2.1) ∧ w.cell? ⟨g, i * 3 + 2, none⟩ = some (.int .i64 (at_ L i).2.2)) ∧
      w.frozen? ⟨g, i * 3, none⟩ = false ∧ w.frozen? ⟨g, i * 3 + 1, none⟩ = false ∧ w.frozen? ⟨g, i * 3 + 2, none⟩ = false := by
  rcases own_cells h.row with ⟨h0, _⟩ | ⟨g', cap', hv', _, _, _, hc⟩
  · cases h0
  · obtain ⟨rfl, rfl⟩ : g = g' ∧ cap = cap' := by simpa using hv'
    have e0 := hc (i * 3) (by omega)
    have e1 := hc (i * 3 + 1) (by omega)
    have e2 := hc (i * 3 + 2) (by omega)
    have q0 := flatE_at encI_len L i 0 hi (by omega)
    have q1 := flatE_at encI_len L i 1 hi (by omega)
    have q2 := flatE_at encI_len L i 2 hi (by omega)
    rw [Nat.add_zero] at q0
    exact ⟨⟨e0.1.trans q0, e1.1.trans q1, e2.1.trans q2⟩, e0.2, e1.2, e2.2⟩
theorem LsAt.grow (h : LsAt F w g cap L) (hb : Below w.heap.size w w') : LsAt F w' g cap L := ⟨h.fg, owns_on h.row hb, h.ok⟩
theorem LsAt.drew (h : LsAt F w g cap L) : LsAt F w.drew g cap L := ⟨h.fg, h.row, h.ok⟩
theorem LsAt.put (h : LsAt F w g cap L) {i : Nat} (hi : i < L.length) {x : It} (hx : okI x) : LsAt F (putI w g i x) g cap (L.set i x) ∧ Turns F w (putI w g i x) := by
  have hgr : w.grownBy (putI w g i x) (some g) := grown_setCells _ _
  refine ⟨⟨h.fg, ?_, ?_⟩, Turns.grown hgr (fun b e => by cases e; exact h.fg)⟩
  · obtain ⟨hl, ⟨h0, _⟩ | ⟨g', cap', cur, hv, hB, hg, hcp, hmx, hsz, htk⟩⟩ := h.row
    · cases h0
    · obtain ⟨rfl, rfl⟩ : g = g' ∧ cap = cap' := by simpa using hv
      have hbd : i * 3 + (encI x).length ≤ cur.size := by rw [hsz, encI_len]; omega
      obtain ⟨cur', k1, k2, k3⟩ := row_setCells g _ (encI x) (i * 3) w cur hg hbd
      refine ⟨by rw [flatE_length encI_len], .inr ⟨g, cap, cur', by rw [List.length_set], hB, k1, by rw [List.length_set]; exact hcp, hmx, by rw [k2, hsz], ?_⟩⟩
      have hcl : cur.toList.length = cap * 3 := by simp [hsz]
      rw [k3, flatE_set L i x hi, ← htk, List.length_set, encI_len, List.take_take, Nat.min_eq_left (by omega), List.drop_take, List.append_assoc, List.append_assoc, List.take_append, List.take_append]
      have e1 : (cur.toList.take (i * 3)).length = i * 3 := by rw [List.length_take]; omega
      have e0 : (cur.toList.take (i * 3)).take (L.length * 3) = cur.toList.take (i * 3) := List.take_of_length_le (by rw [e1]; omega)
      have e2 : (encI x).take (L.length * 3 - i * 3) = encI x := List.take_of_length_le (by rw [encI_len]; omega)
      rw [e0, e1, e2, encI_len, show L.length * 3 - i * 3 - 3 = L.length * 3 - (i * 3 + 3) by omega]
  · intro y hy
    rcases List.mem_or_eq_of_mem_set hy with h1 | rfl
    · exact h.ok y h1
    · exact hx
theorem ok_at (h : LsAt F w g cap L) {i : Nat} (hi : i < L.length) : okI (at_ L i) := by rw [at_get hi]; exact h.ok _ (List.getElem_mem hi)
/-- The list's Swap. -/
theorem sSwap (h : LsAt F w g cap L) {i j : Nat} (hi : i < L.length) (hj : j < L.length) (hij : ¬ i = j) :
    Calls Try.prog 70 #[Lv g L.length cap, .int .i64 (i : Int), .int .i64 (j : Int)] w fun e w' => e = .returned (.tuple #[]) ∧ LsAt F w' g cap (swapL L i j) ∧ Turns F w w' := by
  have ci := h.cells i hi
  have cj := h.cells j hj
  refine (lSwap_at g L.length cap i j _ (at_ L i) (at_ L j) w hij (by omega) (by omega) h.lt ci.1.1 ci.1.2.1 ci.1.2.2 cj.1.1 cj.1.2.1 cj.1.2.2 ci.2.1 ci.2.2.1 ci.2.2.2 cj.2.1 cj.2.2.1 cj.2.2.2).mono ?_
  rintro e w' ⟨rfl, W, hb, rfl⟩
  have k1 := (h.grow hb).put hi (ok_at h hj)
  have k2 := k1.1.put (i := j) (by simpa using hj) (ok_at h hi)
  exact ⟨rfl, k2.1.drew, ((Turns.below hb).trans (k1.2.trans k2.2)).trans (Turns.drew _ _)⟩
/-- The list's Less. -/
theorem sLess (h : LsAt F w g cap L) {i j : Nat} (hi : i < L.length) (hj : j < L.length) {b : Bool} (e : ahead (at_ L i) (at_ L j) = b) :
    Calls Try.prog 66 #[Lv g L.length cap, .int .i64 (i : Int), .int .i64 (j : Int)] w fun e w' => e = .returned (.bool b) ∧ Below w.heap.size w w' := by
  have ci := h.cells i hi
  have cj := h.cells j hj
  subst e
  exact Less_at g L.length cap i j _ _ w (by omega) (by omega) h.lt ci.1.1 ci.1.2.1 ci.1.2.2 cj.1.1 cj.1.2.1 cj.1.2.2
end
/-- Swaps of two stretches. -/
def swR : Nat → Nat → Nat → List It → List It
  | 0, _, _, L => L
  | n + 1, a, b, L => swR n (a + 1) (b + 1) (swapL L a b)
theorem swR_length : ∀ (n a b : Nat) (L : List It), (swR n a b L).length = L.length
  | 0, _, _, _ => rfl
  | n + 1, a, b, L => by rw [swR, swR_length, swapL_length]
set_option maxHeartbeats 4000000 in
theorem swapRange_calls {F : Where} {w : World} {g cap : Nat} {L : List It} (h : LsAt F w g cap L) (hL : L.length < 1099511627776) (a b n : Nat) (ha : a + n ≤ L.length) (hb : b + n ≤ L.length) (hab : ¬ a = b) :
    Calls Try.prog 48 #[.iface 58 (Lv g L.length cap), .int .i64 (a : Int), .int .i64 (b : Int), .int .i64 (n : Int)] w fun e w' => e = .returned (.tuple #[]) ∧ LsAt F w' g cap (swR n a b L) ∧ Turns F w w' := by
  have HH : Hid (LsAt F w g cap L) := h
  clear h
  go_enter Try.func48, Try.ntmps48
  go_wp2_with fail
  go_loopw [8] (fun vi wr => ∃ (i : Nat) (M : List It), vi = .int .i64 (i : Int) ∧ i ≤ n ∧ M.length = L.length ∧ LsAt F wr g cap M ∧ Turns F w wr ∧ swR (n - i) (a + i) (b + i) M = swR n a b L) (fun vi _ => n - (intOf vi).toNat)
  case atStart => exact ⟨0, L, rfl, Nat.zero_le _, rfl, HH.out, Turns.refl _ _, rfl⟩
  case round =>
    obtain ⟨i, M, rfl, hi, hM, h1, h2, h3⟩ := hrel
    have HR : Hid (LsAt F wr g cap M ∧ Turns F w wr ∧ swR (n - i) (a + i) (b + i) M = swR n a b L) := ⟨h1, h2, h3⟩
    clear h1 h2 h3 HH
    by_cases hin : i < n
    · have hin' : (i : Int) < (n : Int) := by omega
      have HS := sSwap HR.out.1 (i := a + i) (j := b + i) (by omega) (by omega) (by omega)
      rw [hM, Int.natCast_add, Int.natCast_add] at HS
      have HSw : Hid (Calls Try.prog 70 #[Lv g L.length cap, .int .i64 ((a : Int) + (i : Int)), .int .i64 ((b : Int) + (i : Int))] wr fun e w' => e = .returned (.tuple #[]) ∧ LsAt F w' g cap (swapL M (a + i) (b + i)) ∧ Turns F wr w') := HS
      clear HS
      go_wp2_with (go_at_call 70; refine HSw.out.mono ?_; rintro e w1 ⟨rfl, k1, u1⟩)
      go_roundw
      case rel => exact ⟨i + 1, swapL M (a + i) (b + i), by go_num, by omega, by rw [swapL_length]; exact hM, k1, HR.out.2.1.trans u1, by rw [← HR.out.2.2, show n - i = (n - (i + 1)) + 1 by omega, swR]; rfl⟩
      case measure => simp [intOf]; omega
    · have hin' : ¬ (i : Int) < (n : Int) := by omega
      go_wp2_with fail
      go_end0
      have := HR.out.2.2
      rw [show n - i = 0 by omega] at this
      exact ⟨rfl, this ▸ HR.out.1, HR.out.2.1⟩
end Go.Proofs.Ytgncpjplofacfaa
