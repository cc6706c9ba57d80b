/- The chapter's example: it works. No condition. -/
import Derived.Test.YtpombhiffpbedaaQ17
namespace Go.Proofs.Ytpombhiffpbedaa
open Go.RowKit Go.Maps
set_option linter.unusedSimpArgs false
set_option maxRecDepth 100000

def sA : ByteArray := ⟨#[97]⟩
def sB : ByteArray := ⟨#[98]⟩
def sC : ByteArray := ⟨#[99]⟩
def eA : EnD := ((sA, 1, 0, 0, 0), 1)
def eB : EnD := ((sB, 5, 1, 0, 0), 1)
def eC : EnD := ((sC, 1, 2, 0, 0), 1)
theorem pop_w1 {x : WtD} {er : Int} {S' : List EnD} (h : PopO [eA, eB, eC] x er S') : x = (sB, 5, 1, 1, 0) ∧ er = 0 ∧ S' = [eA, eC] := by
  rcases h with ⟨h0, _⟩ | ⟨e, he, hp, ha, rfl, rfl, rfl⟩
  · exact absurd (congrArg List.length h0) (by decide +kernel)
  · simp only [List.mem_cons, List.not_mem_nil, or_false] at he
    rcases he with rfl | rfl | rfl
    · exact absurd (ha eB (by simp) rfl (by decide +kernel)) (by decide +kernel)
    · exact ⟨rfl, rfl, by decide +kernel⟩
    · exact absurd (ha eB (by simp) rfl (by decide +kernel)) (by decide +kernel)
theorem pop_w2 {x : WtD} {er : Int} {S' : List EnD} (h : PopO [eA, eC] x er S') : x = (sA, 1, 0, 1, 0) ∧ er = 0 ∧ S' = [eC] := by
  rcases h with ⟨h0, _⟩ | ⟨e, he, hp, ha, rfl, rfl, rfl⟩
  · exact absurd (congrArg List.length h0) (by decide +kernel)
  · simp only [List.mem_cons, List.not_mem_nil, or_false] at he
    rcases he with rfl | rfl
    · exact ⟨rfl, rfl, by decide +kernel⟩
    · exact absurd (ha eA (by simp) rfl (by decide +kernel)) (by decide +kernel)
theorem okL (a b : Nat) (h : a < 10 ∧ b < 1000000000) : b < 1000000000 := h.2
set_option maxHeartbeats 16000000 in
theorem works14_calls (w : World) : Calls Try.prog 7 #[] w fun e w' => e = .returned (.bool true) ∧ Below w.heap.size w w' := by
  have hN := ynew_calls w
  go_enter Try.func7, Try.ntmps7
  go_wp2_with fail
  refine hN.mono ?_
  rintro e w1 ⟨p, rfl, h1, b1⟩
  clear hN
  have t1 : Turns (Fresh w) w w1 := Turns.below b1
  have hC := yadd_calls h1 (fun b hb => Nat.le_trans t1.size hb) sA (by show sA.size ≤ 140737488355328; decide +kernel) 1 (by decide) ⟨by decide, by decide⟩
  rw [show agY [] sA = 0 by decide +kernel, addL_0, show addN 0 0 = 1 by decide +kernel] at hC
  go_wp2_with fail
  --M1
  refine hC.mono ?_
  rintro e w2 ⟨rfl, h2, k2⟩
  have t2 := t1.trans k2
  clear hC h1 t1 k2 b1
  have hC := yadd_calls h2 (fun b hb => Nat.le_trans t2.size hb) sB (by show sB.size ≤ 140737488355328; decide +kernel) 5 (by decide) ⟨by decide, by decide⟩
  rw [show agY ([] ++ [((sA, 1, 0, 0, 0), 1)]) sB = 0 by decide +kernel, addL_0, show addN 1 0 = 2 by decide +kernel] at hC
  go_wp2_with fail
  refine hC.mono ?_
  rintro e w3 ⟨rfl, h3, k3⟩
  have t3 := t2.trans k3
  clear hC h2 t2 k3
  have hC := yadd_calls h3 (fun b hb => Nat.le_trans t3.size hb) sC (by show sC.size ≤ 140737488355328; decide +kernel) 1 (by decide) ⟨by decide, by decide⟩
  rw [show agY ([] ++ [((sA, 1, 0, 0, 0), 1)] ++ [((sB, 5, 1, 0, 0), 1)]) sC = 0 by decide +kernel, addL_0, show addN 2 0 = 3 by decide +kernel] at hC
  go_wp2_with fail
  refine hC.mono ?_
  rintro e w4 ⟨rfl, h4, k4⟩
  have t4 := t3.trans k4
  clear hC h3 t3 k4
  have h4 : QA (Fresh w) w4 p [eA, eB, eC] 3 [] := h4
  have hC := ypop_calls h4 (fun b hb => Nat.le_trans t4.size hb) (by decide) (by decide +kernel)
  go_wp2_with fail
  refine hC.mono ?_
  rintro e w5 ⟨x, er, S', rfl, ho, h5, k5⟩
  obtain ⟨rfl, rfl, rfl⟩ := pop_w1 ho
  have t5 := t4.trans k5
  clear hC h4 t4 k5 ho
  go_wp2_with fail
  obtain ⟨W6, hW6⟩ : ∃ Z, Z = w5.alloc (.cells #[.string sB, .int .i64 5, .int .i64 1, .int .i64 1, .int .i64 0] 28) := ⟨_, rfl⟩
  have a6 : Below w5.heap.size w5 W6 := by rw [hW6]; exact (Below.refl _ _).alloc (Nat.le_refl _) _
  have q6 : BoxL W6 w5.heap.size [.string sB, .int .i64 5, .int .i64 1, .int .i64 1, .int .i64 0] := by rw [hW6]; exact BoxL.new w5 28 _
  have h6 := (h5.weak (G := fun b => Fresh w b ∧ b ≠ w5.heap.size) (fun b hb hf => ⟨hf, by omega⟩)).on a6
  have t6 := t5.trans (Turns.below a6)
  have hF6 : ∀ b, W6.heap.size ≤ b → Fresh w b ∧ b ≠ w5.heap.size := fun b hb => ⟨Nat.le_trans t6.size hb, by have := q6.1; omega⟩
  have hC := ypop_calls h6 hF6 (by decide) (by decide +kernel)
  rw [← hW6]
  clear hW6 a6 h5 t5
  --M2
  refine hC.mono ?_
  rintro e w7 ⟨x, er, S', rfl, ho, h7, k7⟩
  obtain ⟨rfl, rfl, rfl⟩ := pop_w2 ho
  have t7 := t6.trans (k7.weak (fun b _ hf => hf.1))
  have q7 := k7.box q6 (fun hf => hf.2 rfl)
  clear hC h6 t6 k7 ho q6 hF6
  have hF7 : Hid (w5.heap.size < w7.heap.size) := q7.1
  have HX7 : Hid (BoxL w7 w5.heap.size [.string sB, .int .i64 5, .int .i64 1, .int .i64 1, .int .i64 0]) := q7
  have HT7 : Hid (Turns (Fresh w) w w7) := t7
  clear q7 t7
  go_upto_region 8 with fail
  obtain ⟨W8, hW8⟩ : ∃ Z, Z = w7.alloc (.cells #[.string sA, .int .i64 1, .int .i64 0, .int .i64 1, .int .i64 0] 28) := ⟨_, rfl⟩
  have a8 : Below w7.heap.size w7 W8 := by rw [hW8]; exact (Below.refl _ _).alloc (Nat.le_refl _) _
  have q8 : BoxL W8 w7.heap.size [.string sA, .int .i64 1, .int .i64 0, .int .i64 1, .int .i64 0] := by rw [hW8]; exact BoxL.new w7 28 _
  have h8 := (h7.weak (G := fun b => (Fresh w b ∧ b ≠ w5.heap.size) ∧ b ≠ w7.heap.size) (fun b hb hf => ⟨hf, by omega⟩)).on a8
  have t8 := HT7.out.trans (Turns.below a8)
  have hF8 : ∀ b, W8.heap.size ≤ b → (Fresh w b ∧ b ≠ w5.heap.size) ∧ b ≠ w7.heap.size := fun b hb => ⟨⟨Nat.le_trans t8.size hb, by have := q8.1; have := hF7.out; omega⟩, by have := q8.1; omega⟩
  have hC := yback_calls h8 hF8 (sA, 1, 0, 1, 0) (by show sA.size ≤ 140737488355328; decide +kernel) (by decide) 3 true (by decide)
  rw [show bkY [eC] (sA, 1, 0, 1, 0).1 3 = 0 by decide +kernel, addL_0, show backE (sA, 1, 0, 1, 0) 3 true = ((sA, 1, 0, 1, 4), 2) by decide +kernel] at hC
  rw [← hW8]
  have HX8 : Hid (W8.rangeAt w7.heap.size 0 [.string sA, .int .i64 1, .int .i64 0, .int .i64 1, .int .i64 0]) := q8.range
  have q8b := HX7.out.on a8
  clear hW8 a8 h7 HT7 HX7 hF7
  --M3
  go_wp2_with (first | (refine wpList_load_mid rfl 28 _ rfl w7.heap.size 0 rfl [.string sA, .int .i64 1, .int .i64 0, .int .i64 1, .int .i64 0] _ HX8.out Try.underlying28 rfl (by kernel_rfl) ?_) | fail)
  refine hC.mono ?_
  rintro e w9 ⟨rfl, h9, k9⟩
  have t9 := t8.trans (k9.weak (fun b _ hf => hf.1.1))
  have q9 := k9.box q8 (fun hf => hf.2 rfl)
  have q9b := k9.box q8b (fun hf => hf.1.2 rfl)
  have hF9 : ∀ b, w9.heap.size ≤ b → (Fresh w b ∧ b ≠ w5.heap.size) ∧ b ≠ w7.heap.size := fun b hb => hF8 b (Nat.le_trans k9.size hb)
  clear hC h8 t8 k9 q8 q8b hF8 HX8
  have hC := ytick_calls h9 hF9 3 (by decide)
  rw [show tkN ([eC] ++ [((sA, 1, 0, 1, 4), 2)]) 3 = 0 by decide +kernel, show tkL ([eC] ++ [((sA, 1, 0, 1, 4), 2)]) 3 = [eC, ((sA, 1, 0, 1, 4), 2)] by decide +kernel, show nowE 3 = 0 by decide +kernel] at hC
  have HQ9 : Hid (BoxL w9 w7.heap.size [.string sA, .int .i64 1, .int .i64 0, .int .i64 1, .int .i64 0] ∧ BoxL w9 w5.heap.size [.string sB, .int .i64 5, .int .i64 1, .int .i64 1, .int .i64 0] ∧ Turns (Fresh w) w w9 ∧ ∀ b, w9.heap.size ≤ b → (Fresh w b ∧ b ≠ w5.heap.size) ∧ b ≠ w7.heap.size) := ⟨q9, q9b, t9, hF9⟩
  clear h9 t9 q9 q9b hF9
  go_wp2_with fail
  refine hC.mono ?_
  rintro e w10 ⟨rfl, h10, k10⟩
  have hC := ytick_calls h10 (fun b hb => HQ9.out.2.2.2 b (Nat.le_trans k10.size hb)) 4 (by decide)
  rw [show tkN [eC, ((sA, 1, 0, 1, 4), 2)] 4 = 1 by decide +kernel, show nowE 4 = 0 by decide +kernel] at hC
  have HQ10 : Hid (BoxL w10 w7.heap.size [.string sA, .int .i64 1, .int .i64 0, .int .i64 1, .int .i64 0] ∧ BoxL w10 w5.heap.size [.string sB, .int .i64 5, .int .i64 1, .int .i64 1, .int .i64 0] ∧ Turns (Fresh w) w w10) := ⟨k10.box HQ9.out.1 (fun hf => hf.2 rfl), k10.box HQ9.out.2.1 (fun hf => hf.1.2 rfl), HQ9.out.2.2.1.trans (k10.weak (fun b _ hf => hf.1.1))⟩
  clear h10 k10 HQ9
  go_wp2_with fail
  refine hC.mono ?_
  rintro e w11 ⟨rfl, h11, k11⟩
  have q11 := k11.box HQ10.out.1 (fun hf => hf.2 rfl)
  have q11b := k11.box HQ10.out.2.1 (fun hf => hf.1.2 rfl)
  have HT11 : Hid (Turns (Fresh w) w w11) := HQ10.out.2.2.trans (k11.weak (fun b _ hf => hf.1.1))
  have d0 : w11.cell? ⟨w5.heap.size, 0, none⟩ = some (.string sB) := (q11b.2 0 _ rfl).1
  have d1 : w11.cell? ⟨w7.heap.size, 0, none⟩ = some (.string sA) := (q11.2 0 _ rfl).1
  have d2 : w11.cell? ⟨w7.heap.size, 3, none⟩ = some (.int .i64 1) := (q11.2 3 _ rfl).1
  have hD := ydelay_calls 3 (by decide) w11
  rw [show delayY 3 = 4 by decide +kernel] at hD
  have e1 : (sB.toList == [98]) = true := by decide +kernel
  have e2 : (sA.toList == [97]) = true := by decide +kernel
  clear hC h11 k11 HQ10 q11 q11b
  go_wp2_with fail
  --M4
  refine hD.mono ?_
  rintro e w12 ⟨rfl, hw12⟩
  obtain rfl := hw12.symm
  go_wp2_with fail
  go_ret
  exact ⟨rfl, Turns.behind (Below.refl _ _) HT11.out⟩
end Go.Proofs.Ytpombhiffpbedaa
