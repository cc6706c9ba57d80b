/- The example of the document's chapter comes out as it says. No condition. -/
import Derived.Test.YtgncpjplofacfaaHCalls
namespace Go.Proofs.Ytgncpjplofacfaa
open Go.RowKit Go.Maps
set_option linter.unusedSimpArgs false

def iA : It := (⟨#[97]⟩, 1, 5)
def iB : It := (⟨#[98]⟩, 2, 9)
def iC : It := (⟨#[99]⟩, 1, 4)
theorem plain1 : pushL [] iA = [iA] := rfl
theorem plain2 : pushL [iA] iB = [iB, iA] := rfl
theorem plain3 : pushL [iB, iA] iC = [iB, iA, iC] := rfl
theorem plain4 : (lastL [iB, iA, iC] 0).dropLast = [iC, iA] := rfl
theorem plain5 : (lastL [iC, iA] 0).dropLast = [iA] := rfl
theorem plain6 : (lastL [iA] 0).dropLast = [] := rfl
theorem okA : okI iA := by unfold okI; decide
theorem okB : okI iB := by unfold okI; decide
theorem okC : okI iC := by unfold okI; decide
theorem HAt.nar {F : Where} {w u : World} {hb : Nat} {L : List It} (h : HAt F w hb L) (hw : Below w.heap.size w u) : HAt (Nar F w u) u hb L := (h.weak (fun _ h1 h2 => .inl ⟨h2, h1⟩)).grow hw
theorem neA : iA.1.toList.isEmpty = false := by kernel_rfl
theorem neB : iB.1.toList.isEmpty = false := by kernel_rfl
theorem neC : iC.1.toList.isEmpty = false := by kernel_rfl
theorem works_end {w : World} {hb : Nat} (w5 w6 w7 : World) (s5 : w.heap.size ≤ w5.heap.size) (u6 : Turns (Nar (Fresh w) w5 (w5.alloc (.cells #[.string ⟨#[98]⟩, .int .i64 2, .int .i64 9] 27))) (w5.alloc (.cells #[.string ⟨#[98]⟩, .int .i64 2, .int .i64 9] 27)) w6)
    (h7 : HAt (Nar (Nar (Fresh w) w5 (w5.alloc (.cells #[.string ⟨#[98]⟩, .int .i64 2, .int .i64 9] 27))) w6 (w6.alloc (.cells #[.string ⟨#[99]⟩, .int .i64 1, .int .i64 4] 27))) w7 hb []) (u7 : Turns (Nar (Nar (Fresh w) w5 (w5.alloc (.cells #[.string ⟨#[98]⟩, .int .i64 2, .int .i64 9] 27))) w6 (w6.alloc (.cells #[.string ⟨#[99]⟩, .int .i64 1, .int .i64 4] 27))) (w6.alloc (.cells #[.string ⟨#[99]⟩, .int .i64 1, .int .i64 4] 27)) w7) (b5 : Below w.heap.size w w5) :
    Hid (HAt (Nar (Nar (Fresh w) w5 (w5.alloc (.cells #[.string ⟨#[98]⟩, .int .i64 2, .int .i64 9] 27))) w6 (w6.alloc (.cells #[.string ⟨#[99]⟩, .int .i64 1, .int .i64 4] 27))) (w7.alloc (.cells #[.string ⟨#[97]⟩, .int .i64 1, .int .i64 5] 27)) hb []) ∧ (w7.alloc (.cells #[.string ⟨#[97]⟩, .int .i64 1, .int .i64 5] 27)).cell? ⟨w5.heap.size, 0, none⟩ = some (.string ⟨#[98]⟩) ∧ (w7.alloc (.cells #[.string ⟨#[97]⟩, .int .i64 1, .int .i64 5] 27)).cell? ⟨w6.heap.size, 0, none⟩ = some (.string ⟨#[99]⟩) ∧ Below w.heap.size w w7 := by
  have z1 : (w5.alloc (.cells #[.string ⟨#[98]⟩, .int .i64 2, .int .i64 9] 27)).heap.size = w5.heap.size + 1 := by simp
  have z2 : (w6.alloc (.cells #[.string ⟨#[99]⟩, .int .i64 1, .int .i64 4] 27)).heap.size = w6.heap.size + 1 := by simp
  have z6 := u6.size
  have z7 := u7.size
  have q5 : w6.heap[w5.heap.size]? = some (.cells #[.string ⟨#[98]⟩, .int .i64 2, .int .i64 9] 27 (0, 0)) := (u6.between (Nat.le_refl _) (by omega)).trans (heap_new _ _ _ rfl)
  have q5' : w7.heap[w5.heap.size]? = some (.cells #[.string ⟨#[98]⟩, .int .i64 2, .int .i64 9] 27 (0, 0)) :=
    (u7.block _ (by omega) (fun hn => hn.elim (fun k => k.1.elim (fun k => by omega) (fun k => by omega)) (fun k => by omega))).trans ((Below.heap_alloc _ _ _ (by omega)).trans q5)
  have q6 : w7.heap[w6.heap.size]? = some (.cells #[.string ⟨#[99]⟩, .int .i64 1, .int .i64 4] 27 (0, 0)) := (u7.between (Nat.le_refl _) (by omega)).trans (heap_new _ _ _ rfl)
  have hb7 : Below w7.heap.size w7 (w7.alloc (.cells #[.string ⟨#[97]⟩, .int .i64 1, .int .i64 5] 27)) := by go_grown
  refine ⟨h7.grow hb7, ?_, ?_, ?_⟩
  · rw [hb7.cell (by show w5.heap.size < _; omega)]; simp [World.cell?, q5']
  · rw [hb7.cell (by show w6.heap.size < _; omega)]; simp [World.cell?, q6]
  · have k6 := Turns.behind b5 (Turns.wide (fun b hb => Nat.le_trans s5 hb) (by go_grown) u6)
    have k7 := Turns.wide (F := Nar (Fresh w) w5 (w5.alloc (.cells #[.string ⟨#[98]⟩, .int .i64 2, .int .i64 9] 27))) (fun b hb => .inr (by omega)) (by go_grown) u7
    exact Turns.behind k6 (k7.weak (fun b _ hf => hf.elim (fun k => k.1) (fun k => (show w.heap.size ≤ b by omega))))
set_option maxHeartbeats 2000000 in
theorem works_calls (w : World) : Calls Try.prog 22 #[] w fun e w' => e = .returned (.bool true) ∧ Below w.heap.size w w' := by
  have HA : Hid (∀ {u : World} {hb : Nat}, HAt (Fresh w) u hb [] → w.heap.size ≤ u.heap.size → Calls Try.prog 10 #[.pointer (some ⟨hb, 0, none⟩), .agg #[.string ⟨#[97]⟩, .int .i64 1, .int .i64 5]] u fun e w' => e = .returned (.tuple #[.bool false, .int .i64 0]) ∧ HAt (Fresh w) w' hb [iA] ∧ Turns (Fresh w) u w') := by
    intro u hb h hs
    exact Push_new h (fun b hb => Nat.le_trans hs hb) (by simp) iA okA neA (by simp)
  have HB : Hid (∀ {u : World} {hb : Nat}, HAt (Fresh w) u hb [iA] → w.heap.size ≤ u.heap.size → Calls Try.prog 10 #[.pointer (some ⟨hb, 0, none⟩), .agg #[.string ⟨#[98]⟩, .int .i64 2, .int .i64 9]] u fun e w' => e = .returned (.tuple #[.bool false, .int .i64 0]) ∧ HAt (Fresh w) w' hb [iB, iA] ∧ Turns (Fresh w) u w') := by
    intro u hb h hs
    exact Push_new h (fun b hb => Nat.le_trans hs hb) (by simp) iB okB neB (by simp [kl, iA, iB])
  have HC : Hid (∀ {u : World} {hb : Nat}, HAt (Fresh w) u hb [iB, iA] → w.heap.size ≤ u.heap.size → Calls Try.prog 10 #[.pointer (some ⟨hb, 0, none⟩), .agg #[.string ⟨#[99]⟩, .int .i64 1, .int .i64 4]] u fun e w' => e = .returned (.tuple #[.bool false, .int .i64 0]) ∧ HAt (Fresh w) w' hb [iB, iA, iC] ∧ Turns (Fresh w) u w') := by
    intro u hb h hs
    exact Push_new h (fun b hb => Nat.le_trans hs hb) (by simp) iC okC neC (by simp [kl, iA, iB, iC])
  have HX : Hid (∀ {u : World} {hb : Nat}, HAt (Fresh w) u hb [iB, iA, iC] → w.heap.size ≤ u.heap.size → Calls Try.prog 13 #[.pointer (some ⟨hb, 0, none⟩)] u fun e w' => e = .returned (.tuple #[.agg #[.string ⟨#[98]⟩, .int .i64 2, .int .i64 9], .int .i64 0]) ∧ HAt (Fresh w) w' hb [iC, iA] ∧ Turns (Fresh w) u w') := by
    intro u hb h hs
    exact HPop_calls h (fun b hb => Nat.le_trans hs hb) (by simp) (by simp)
  have HY : Hid (∀ {F : Where} {u : World} {hb : Nat}, HAt F u hb [iC, iA] → (∀ b, u.heap.size ≤ b → F b) → Calls Try.prog 13 #[.pointer (some ⟨hb, 0, none⟩)] u fun e w' => e = .returned (.tuple #[.agg #[.string ⟨#[99]⟩, .int .i64 1, .int .i64 4], .int .i64 0]) ∧ HAt F w' hb [iA] ∧ Turns F u w') := by
    intro F u hb h hF
    exact HPop_calls h hF (by simp) (by simp)
  have HZ : Hid (∀ {F : Where} {u : World} {hb : Nat}, HAt F u hb [iA] → (∀ b, u.heap.size ≤ b → F b) → Calls Try.prog 13 #[.pointer (some ⟨hb, 0, none⟩)] u fun e w' => e = .returned (.tuple #[.agg #[.string ⟨#[97]⟩, .int .i64 1, .int .i64 5], .int .i64 0]) ∧ HAt F w' hb [] ∧ Turns F u w') := by
    intro F u hb h hF
    exact HPop_calls h hF (by simp) (by simp)
  have t1 : True := trivial
  have t2 : True := trivial
  have t3 : True := trivial
  have t4 : True := trivial
  have t5 : True := trivial
  go_enter Try.func22, Try.ntmps22
  go_wp2_with (first
    | (go_at_call 8; refine (New_calls _).mono ?_; rintro e w1 ⟨hb, rfl, h1, b1⟩; have H1 : Hid (HAt (Fresh w) w1 hb []) := h1; clear h1)
    | (go_at_call 10; have _t := t1; refine (HA.out H1.out b1.size).mono ?_; rintro e w2 ⟨rfl, h2, u2⟩; have H2 : Hid (HAt (Fresh w) w2 hb [iA]) := h2; have b2 := Turns.behind b1 u2; clear t1 h2 u2)
    | (go_at_call 10; have _t := t2; refine (HB.out H2.out b2.size).mono ?_; rintro e w3 ⟨rfl, h3, u3⟩; have H3 : Hid (HAt (Fresh w) w3 hb [iB, iA]) := h3; have b3 := Turns.behind b2 u3; clear t2 h3 u3)
    | (go_at_call 10; have _t := t3; refine (HC.out H3.out b3.size).mono ?_; rintro e w4 ⟨rfl, h4, u4⟩; have H4 : Hid (HAt (Fresh w) w4 hb [iB, iA, iC]) := h4; have b4 := Turns.behind b3 u4; clear t3 h4 u4)
    | (go_at_call 13; have _t := t4; refine (HX.out H4.out b4.size).mono ?_; rintro e w5 ⟨rfl, h5, u5⟩; have H5 : Hid (HAt (Fresh w) w5 hb [iC, iA]) := h5; have b5 := Turns.behind b4 u5; have s5 := b5.size; clear t4 h5 u5)
    | (go_at_call 13; have _t := t5; refine (HY.out (H5.out.nar (u := w5.alloc (.cells #[.string ⟨#[98]⟩, .int .i64 2, .int .i64 9] 27)) (by go_grown)) (fun b hb => .inr hb)).mono ?_; rintro e w6 ⟨rfl, h6, u6⟩; have H6 : Hid (HAt (Nar (Fresh w) w5 (w5.alloc (.cells #[.string ⟨#[98]⟩, .int .i64 2, .int .i64 9] 27))) w6 hb [iA] ∧ Turns (Nar (Fresh w) w5 (w5.alloc (.cells #[.string ⟨#[98]⟩, .int .i64 2, .int .i64 9] 27))) (w5.alloc (.cells #[.string ⟨#[98]⟩, .int .i64 2, .int .i64 9] 27)) w6) := ⟨h6, u6⟩; clear t5 h6 u6)
    | (go_at_call 13; refine (HZ.out (H6.out.1.nar (u := w6.alloc (.cells #[.string ⟨#[99]⟩, .int .i64 1, .int .i64 4] 27)) (by go_grown)) (fun b hb => .inr hb)).mono ?_; rintro e w7 ⟨rfl, h7, u7⟩; obtain ⟨H7, c5, c6, b7⟩ := works_end w5 w6 w7 s5 H6.out.2 h7 u7 b5)
    | (go_at_call 20; refine (HLen_calls H7.out).mono ?_; rintro e w8 ⟨rfl, hb8⟩))
  go_ret
  exact ⟨rfl, on2 (on2 b7 (by go_grown)) hb8⟩
end Go.Proofs.Ytgncpjplofacfaa
