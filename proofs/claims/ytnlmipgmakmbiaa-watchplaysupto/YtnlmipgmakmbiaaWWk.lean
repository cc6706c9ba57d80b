/- The law's works of layer 13: the chapter's example. Condition: the program's calls are as the structure says. -/
import Derived.Test.YtnlmipgmakmbiaaWOk
namespace Go.Proofs.Ytnlmipgmakmbiaa
open Go.RowKit
set_option linter.unusedSimpArgs false
set_option maxRecDepth 100000

def wkL : List Ch := [(1, 1), (2, 2), (3, 1)]
theorem wkL_log : logP ([0, 1, 0].map kndP) 0 = wkL := by decide +kernel
theorem wkL_rise : Rise wkL := by unfold Rise wkL; decide
theorem wk131 : nextP (List.replicate 7 (max 0 0)) (List.replicate 7 false) 1 1 wkL = ([(1, 1)], 0, [0, 1, 0, 0, 0, 0, 0]) := by decide +kernel
theorem wk132 : nextP [0, 1, 0, 0, 0, 0, 0] (List.replicate 7 false) 2 9 wkL = ([(2, 2)], 0, [0, 1, 2, 0, 0, 0, 0]) := by decide +kernel
theorem ch_at13 {A : Where} {u : World} {a : Option Addr} {c : Nat} {x : Ch} (h : SlAt RCh 42 640 A u a 1 c [x]) : ∃ B off, a = some ⟨B, off, none⟩ ∧ u.cell? ⟨B, off, none⟩ = some (.int .i64 x.1) := by
  obtain ⟨B, off, e, _, _, hc⟩ := h.2.2.2.2 (by decide)
  obtain ⟨cs, hr, hv⟩ := hc 0 (by decide)
  obtain rfl : cs = chC x.1 x.2 := hr
  have := hv 0 _ rfl
  rw [Nat.zero_mul, Nat.add_zero] at this
  exact ⟨B, off, e, this⟩
set_option maxHeartbeats 8000000 in
theorem works13_calls (W : WatchOK) (w : World) : Calls Try.prog 24 #[] w fun e w' => e = .returned (.bool true) ∧ Below w.heap.size w w' := by
  have hC := W.new 0 w
  go_enter Try.func24, Try.ntmps24
  go_wp2_with fail
  refine hC.mono ?_
  rintro e u1 ⟨p, S, rfl, hp1, hS, b1⟩
  clear hC
  obtain ⟨W2, hW2⟩ : ∃ W, W = u1.alloc (.cells #[.int .i64 0, .int .i64 1, .int .i64 0] 3) := ⟨_, rfl⟩
  have B2 : Below u1.heap.size u1 W2 := by rw [hW2]; exact (Below.refl _ _).alloc (Nat.le_refl _) _
  have q2 : BoxL W2 u1.heap.size [.int .i64 0, .int .i64 1, .int .i64 0] := by rw [hW2]; exact BoxL.new u1 3 _
  have s2 : SlAt RInt 1 8 (fun _ => True) W2 (some ⟨u1.heap.size, 0, none⟩) 3 3 [0, 1, 0] := ⟨rfl, Nat.le_refl _, (fun e => by cases e), by decide, fun _ => ⟨u1.heap.size, 0, rfl, q2.1, trivial, fun i hi => by
    rcases (show i = 0 ∨ i = 1 ∨ i = 2 by omega) with rfl | rfl | rfl
    · exact ⟨[.int .i64 0], rfl, fun j v hj => by have h0 : j < 1 := (List.getElem?_eq_some_iff.1 hj).1; obtain rfl : j = 0 := by omega
                                                  simp at hj; subst hj; exact (q2.2 0 _ rfl).1⟩
    · exact ⟨[.int .i64 1], rfl, fun j v hj => by have h0 : j < 1 := (List.getElem?_eq_some_iff.1 hj).1; obtain rfl : j = 0 := by omega
                                                  simp at hj; subst hj; exact (q2.2 1 _ rfl).1⟩
    · exact ⟨[.int .i64 0], rfl, fun j v hj => by have h0 : j < 1 := (List.getElem?_eq_some_iff.1 hj).1; obtain rfl : j = 0 := by omega
                                                  simp at hj; subst hj; exact (q2.2 2 _ rfl).1⟩⟩⟩
  have hC := logged_calls _ 3 3 _ [0, 1, 0] W2 s2 (by decide)
  rw [wkL_log] at hC
  have Hp : Hid (∀ z, Below u1.heap.size u1 z → W.PW z p S (List.replicate 7 (max 0 0)) (List.replicate 7 false)) := fun z hz => W.kept hp1 (Kept.below hz)
  have Hlt : Hid (∀ b, S b → b < u1.heap.size) := W.lt hp1
  have HS : Hid ((∀ b, S b → w.heap.size ≤ b) ∧ Below w.heap.size w u1 ∧ Below u1.heap.size u1 W2) := ⟨hS, b1, B2⟩
  clear hp1 hS b1 B2 q2 s2
  go_wp2_with fail
  rw [← hW2]
  clear hW2
  refine hC.mono ?_
  intro e u3 h3
  obtain ⟨a, n, c, rfl, sl, b3⟩ := h3.sl (by decide)
  clear hC h3
  have hsz := HS.out.2.2.size
  have hA : ∀ b, Fresh W2 b → ¬ S b := fun b h1 h2 => by have h3 := Hlt.out b h2; have h4 : W2.heap.size ≤ b := h1; omega
  have hC := W.next 1 1 (Hp.out u3 (on2 HS.out.2.2 b3)) sl wkL_rise hA
  rw [wk131] at hC
  have H3 : Hid (SlAt RCh 42 640 (Fresh W2) u3 a n c wkL ∧ Below w.heap.size w u3 ∧ u1.heap.size ≤ u3.heap.size) := ⟨sl, on2 HS.out.2.1 (on2 HS.out.2.2 b3), Nat.le_trans hsz b3.size⟩
  clear sl b3 hsz
  go_wp2_with fail
  refine hC.mono ?_
  rintro e u4 ⟨a4, n4, c4, rfl, s4, hp4, r4⟩
  clear hC
  simp only at s4 hp4 ⊢
  obtain rfl : 1 = n4 := s4.1
  obtain ⟨B4, o4, rfl, x4⟩ := ch_at13 s4
  have l4 := r4.sl H3.out.1 hA
  have hC := W.behind 1 hp4 l4 wkL_rise
  have e5 : (if knB 1 = true then ((restW 1 (([0, 1, 0, 0, 0, 0, 0] : List Int).getD (1 : Int).toNat default) wkL).length : Int) else 0) = 1 := by decide +kernel
  have e6 : (if knB 1 = true then (0 : Int) else 2) = 0 := by decide
  rw [e5, e6] at hC
  have H4 : Hid (∀ z, Below u4.heap.size u4 z → W.PW z p S [0, 1, 0, 0, 0, 0, 0] (List.replicate 7 false) ∧ SlAt RCh 42 640 (Fresh W2) z a n c wkL ∧ SlAt RCh 42 640 (Fresh u3) z (some ⟨B4, o4, none⟩) 1 c4 [(1, 1)] ∧ Below w.heap.size w z ∧ u3.heap.size ≤ z.heap.size) := fun z hz => ⟨W.kept hp4 (Kept.below hz), l4.on RCh.firm hz, s4.on RCh.firm hz, on2 (r4.below HS.out.1 H3.out.2.1) hz, Nat.le_trans r4.kept.1 hz.size⟩
  have hA3 : ∀ b, Fresh u3 b → ¬ S b := fun b h1 h2 => by have h3 := Hlt.out b h2; have h4 : u3.heap.size ≤ b := h1; have h5 := H3.out.2.2; omega
  clear s4 hp4 r4 l4 x4
  --M1
  go_wp2_with fail
  refine hC.mono ?_
  rintro e u5 ⟨rfl, b5⟩
  clear hC
  obtain ⟨hp5, l5, s5, bw5, _⟩ := H4.out u5 b5
  have hC := W.next 2 9 hp5 l5 wkL_rise hA
  rw [wk132] at hC
  have H5 : Hid (SlAt RCh 42 640 (Fresh u3) u5 (some ⟨B4, o4, none⟩) 1 c4 [(1, 1)] ∧ Below w.heap.size w u5) := ⟨s5, bw5⟩
  clear hp5 l5 s5 bw5 b5 H4
  --M2
  go_wp2_with fail
  refine hC.mono ?_
  rintro e u6 ⟨a6, n6, c6, rfl, s6, hp6, r6⟩
  clear hC
  simp only at s6 hp6 ⊢
  obtain rfl : 1 = n6 := s6.1
  have hC := W.seen 1 hp6
  have e7 : (if knB 1 = true then (([0, 1, 2, 0, 0, 0, 0] : List Int).getD (1 : Int).toNat default) else 0) = 1 := by decide +kernel
  rw [e7, e6] at hC
  have H6 : Hid (∀ z, Below u6.heap.size u6 z → SlAt RCh 42 640 (Fresh u3) z (some ⟨B4, o4, none⟩) 1 c4 [(1, 1)] ∧ SlAt RCh 42 640 (Fresh u5) z a6 1 c6 [(2, 2)] ∧ Below w.heap.size w z) := fun z hz => ⟨(r6.sl H5.out.1 hA3).on RCh.firm hz, s6.on RCh.firm hz, on2 (r6.below HS.out.1 H5.out.2) hz⟩
  clear s6 hp6 r6 H5
  go_wp2_with fail
  refine hC.mono ?_
  rintro e u7 ⟨rfl, b7⟩
  clear hC
  obtain ⟨s4, s6, bw7⟩ := H6.out u7 b7
  obtain ⟨B, o, e, x4⟩ := ch_at13 s4
  obtain ⟨rfl, rfl⟩ : B4 = B ∧ o4 = o := by simpa using e
  obtain ⟨B6, o6, rfl, x6⟩ := ch_at13 s6
  simp only at x4 x6
  have HE : Hid (Below w.heap.size w u7) := bw7
  clear H6 s4 s6 bw7 b7 e hA hA3 H3 HS Hlt Hp
  --M3
  go_wp2_with fail
  go_ret
  exact ⟨rfl, HE.out⟩
end Go.Proofs.Ytnlmipgmakmbiaa
