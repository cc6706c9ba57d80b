/- The walk of VolumeBack: what was applied and undone is as it was. Conditions: the arguments lie as is said of them. -/
import Derived.Test.YtmnldngojgldiaaGreatQ19
import Derived.Test.YtmnldngojgldiaaGreatW01
import Derived.Test.YtmnldngojgldiaaGreatQ29
import Derived.Test.YtmnldngojgldiaaGreatW04
namespace Go.Proofs.YtmnldngojgldiaaGreat
open Go.RowKit Go.Maps
set_option linter.unusedSimpArgs false
set_option maxRecDepth 100000

set_option maxHeartbeats 16000000 in
theorem vback_walk (cs : List Value) (x : StateD) (a : Option Addr) (n c : Nat) (L : List PickD) (w : World) (h : RState (fun _ => True) w cs x) (hL : SlAt RLabel 2 32 (fun _ => True) w a n c L) :
    Calls Tryz.prog 3 #[.agg cs.toArray, .slice a n c] w fun e w' => e = .returned (.bool true) ∧ Below w.heap.size w w' := by
  obtain ⟨⟨a0, n0, m0⟩, ⟨a1, n1, m1⟩, ⟨a2, n2, m2⟩, ⟨a3, n3, m3⟩, ⟨a4, n4, m4⟩, ⟨a5, n5, m5⟩, rfl, _⟩ := h.out
  simp only at h
  obtain ⟨W1, hW1⟩ : ∃ W, W = w.alloc (.cells #[.slice a0 n0 m0, .slice a1 n1 m1, .slice a2 n2 m2, .slice a3 n3 m3, .slice a4 n4 m4, .slice a5 n5 m5] 29) := ⟨_, rfl⟩
  have B1 : Below w.heap.size w W1 := by rw [hW1]; go_grown
  have q1 : BoxL W1 w.heap.size [.slice a0 n0 m0, .slice a1 n1 m1, .slice a2 n2 m2, .slice a3 n3 m3, .slice a4 n4 m4, .slice a5 n5 m5] := by rw [hW1]; exact BoxL.new w 29 _
  have HQ : Hid (∀ z, Below W1.heap.size W1 z → z.cell? ⟨w.heap.size, 0, none⟩ = some (.slice a0 n0 m0) ∧ z.cell? ⟨w.heap.size, 1, none⟩ = some (.slice a1 n1 m1) ∧ z.cell? ⟨w.heap.size, 2, none⟩ = some (.slice a2 n2 m2) ∧ z.cell? ⟨w.heap.size, 3, none⟩ = some (.slice a3 n3 m3) ∧ z.cell? ⟨w.heap.size, 4, none⟩ = some (.slice a4 n4 m4) ∧ z.cell? ⟨w.heap.size, 5, none⟩ = some (.slice a5 n5 m5)) := fun z hb => ⟨((q1.on hb).2 0 _ rfl).1, ((q1.on hb).2 1 _ rfl).1, ((q1.on hb).2 2 _ rfl).1, ((q1.on hb).2 3 _ rfl).1, ((q1.on hb).2 4 _ rfl).1, ((q1.on hb).2 5 _ rfl).1⟩
  have HS : Hid (∀ z, Below W1.heap.size W1 z → RState (fun _ => True) z [.slice a0 n0 m0, .slice a1 n1 m1, .slice a2 n2 m2, .slice a3 n3 m3, .slice a4 n4 m4, .slice a5 n5 m5] x ∧ SlAt RLabel 2 32 (fun _ => True) z a n c L) := fun z hz => ⟨RState.firm.kept h (Kept.below (on2 B1 hz)), hL.on RLabel.firm (on2 B1 hz)⟩
  have HR0 : Hid (RState (fun _ => True) w [.slice a0 n0 m0, .slice a1 n1 m1, .slice a2 n2 m2, .slice a3 n3 m3, .slice a4 n4 m4, .slice a5 n5 m5] x) := h
  have HB1 : Hid (Below w.heap.size w W1) := B1
  have hlt1 : w.heap.size < W1.heap.size := q1.1
  clear h hL q1 B1
  go_enter Tryz.func3, Tryz.ntmps3
  go_upto_region 1 with fail
  rw [← hW1]
  clear hW1
  go_wp2_with fail
  refine (works10_calls W1).mono ?_
  rintro e w2 ⟨rfl, p2⟩
  obtain ⟨f0, f1, f2, f3, f4, f5⟩ := HQ.out w2 p2
  have hlt2 : w.heap.size < w2.heap.size := Nat.lt_of_lt_of_le hlt1 p2.size
  --M1
  go_wp2_with fail
  refine (once10_calls [.slice a0 n0 m0, .slice a1 n1 m1, .slice a2 n2 m2, .slice a3 n3 m3, .slice a4 n4 m4, .slice a5 n5 m5] _ x w2 (HS.out w2 p2).1).mono ?_
  rintro e w3 ⟨bo, rfl, hbo, d3⟩
  have p3 : Below W1.heap.size W1 w3 := on2 p2 d3
  clear f0 f1 f2 f3 f4 f5 d3 p2 hlt2
  cases bo with
  | false =>
    have HE : Hid (Below w.heap.size w w3) := on2 HB1.out p3
    clear hbo p3
    go_wp2_with fail
    go_ret
    exact ⟨rfl, HE.out⟩
  | true =>
    have HO : Hid (OnceP (stVC x)) := hbo.1 rfl
    clear hbo
    obtain ⟨f0, f1, f2, f3, f4, f5⟩ := HQ.out w3 p3
    have hlt3 : w.heap.size < w3.heap.size := Nat.lt_of_lt_of_le hlt1 p3.size
    --M2
    go_wp2_with fail
    refine (pApply_calls [.slice a0 n0 m0, .slice a1 n1 m1, .slice a2 n2 m2, .slice a3 n3 m3, .slice a4 n4 m4, .slice a5 n5 m5] x a n c L w3 (HS.out w3 p3).1 (HS.out w3 p3).2).mono ?_
    rintro e w4 hz
    clear f0 f1 f2 f3 f4 f5
    rcases hz with ⟨st, g0, g1, g2, g3, g4, g5, hr, rfl, hd⟩ | ⟨k, hr, rfl, hk, d4⟩
    · have p4 : Below W1.heap.size W1 w4 := on2 p3 hd.2.2
      have hln := apply_len hr
      have HR : Hid (RState (fun _ => True) w4 [g0, g1, g2, g3, g4, g5] (wVC x st)) := hd.rstate HR0.out hln.1 hln.2
      have HU : Hid (undoP st L = .ok (sVs x, sCs x)) := back_plain10 L hr
      obtain ⟨b0, k0, c0, rfl⟩ := hd.2.1.1.head
      obtain ⟨b1, k1, c1, rfl⟩ := hd.2.1.2.1.head
      obtain ⟨b2, k2, c2, rfl⟩ := hd.1.1.head
      obtain ⟨b3, k3, c3, rfl⟩ := hd.1.2.1.head
      obtain ⟨b4, k4, c4, rfl⟩ := hd.2.1.2.2.1.head
      obtain ⟨b5, k5, c5, rfl⟩ := hd.2.1.2.2.2.head
      clear hd hr hln p3 hlt3
      --M3
      go_wp2_with fail
      --M4
      refine (pUndo_calls [.slice b0 k0 c0, .slice b1 k1 c1, .slice b2 k2 c2, .slice b3 k3 c3, .slice b4 k4 c4, .slice b5 k5 c5] (wVC x st) a n c L _ ?rs ?sl).mono ?_
      case rs => exact RState.firm.kept HR.out (Kept.below ((Below.refl _ _).alloc (Nat.le_refl _) _))
      case sl => exact (HS.out _ (on2 p4 ((Below.refl _ _).alloc (Nat.le_refl _) _))).2
      have p5 : Below W1.heap.size W1 (w4.alloc (.cells #[.slice b0 k0 c0, .slice b1 k1 c1, .slice b2 k2 c2, .slice b3 k3 c3, .slice b4 k4 c4, .slice b5 k5 c5] 29)) := on2 p4 ((Below.refl _ _).alloc (Nat.le_refl _) _)
      generalize w4.alloc (.cells #[.slice b0 k0 c0, .slice b1 k1 c1, .slice b2 k2 c2, .slice b3 k3 c3, .slice b4 k4 c4, .slice b5 k5 c5] 29) = w5 at p5
      rintro e w6 hz
      rcases hz with ⟨st', g0, g1, g2, g3, g4, g5, hr, rfl, hd⟩ | ⟨k, hr, rfl, hk, d6⟩
      · have p6 : Below W1.heap.size W1 w6 := on2 p5 hd.2.2
        have e8 : st' = (sVs x, sCs x) := by have h8 := hr.symm.trans HU.out; injection h8
        subst e8
        have HR' : Hid (RState (fun _ => True) w6 [g0, g1, g2, g3, g4, g5] x) := hd.rstate (x := wVC x st) HR.out (undo_len hr).1 (undo_len hr).2
        obtain ⟨d0, l0, e0, rfl⟩ := hd.2.1.1.head
        obtain ⟨d1, l1, e1, rfl⟩ := hd.2.1.2.1.head
        obtain ⟨d2, l2, e2, rfl⟩ := hd.1.1.head
        obtain ⟨d3, l3, e3, rfl⟩ := hd.1.2.1.head
        obtain ⟨d4, l4, e4, rfl⟩ := hd.2.1.2.2.1.head
        obtain ⟨d5, l5, e5, rfl⟩ := hd.2.1.2.2.2.head
        clear hd hr p5 HU
        obtain ⟨f0, f1, f2, f3, f4, f5⟩ := HQ.out w6 p6
        have hlt6 : w.heap.size < w6.heap.size := Nat.lt_of_lt_of_le hlt1 p6.size
        --M5
        go_wp2_with fail
        --M6
        refine (SameState_yes [.slice d0 l0 e0, .slice d1 l1 e1, .slice d2 l2 e2, .slice d3 l3 e3, .slice d4 l4 e4, .slice d5 l5 e5] [.slice a0 n0 m0, .slice a1 n1 m1, .slice a2 n2 m2, .slice a3 n3 m3, .slice a4 n4 m4, .slice a5 n5 m5] (fun _ => True) (fun _ => True) x _ ?ra ?rb).mono ?_
        case ra => exact RState.firm.kept HR'.out (Kept.below ((Below.refl _ _).alloc (Nat.le_refl _) _))
        case rb => exact (HS.out _ (on2 p6 ((Below.refl _ _).alloc (Nat.le_refl _) _))).1
        rintro e w7 ⟨rfl, d7⟩
        have HE : Hid (Below w.heap.size w w7) := on2 HB1.out (on2 (on2 p6 ((Below.refl _ _).alloc (Nat.le_refl _) _)) d7)
        clear d7 f0 f1 f2 f3 f4 f5 p6
        go_wp2_with fail
        go_ret
        exact ⟨rfl, HE.out⟩
      · have h8 := hr.symm.trans HU.out
        cases h8
    · have p4 : Below W1.heap.size W1 w4 := on2 p3 d4
      clear hr d4 p3 hlt3
      have hk0 : decide (k = 0) = false := by rcases hk with rfl | rfl <;> rfl
      have hk1 : (k == 0) = false := by rcases hk with rfl | rfl <;> rfl
      have hk2 : ¬ k = 0 := by rcases hk with rfl | rfl <;> decide
      --M7
      go_wp2_with fail
      --M8
      refine (SameState_yes [.slice none 0 0, .slice none 0 0, .slice none 0 0, .slice none 0 0, .slice none 0 0, .slice none 0 0] [.slice none 0 0, .slice none 0 0, .slice none 0 0, .slice none 0 0, .slice none 0 0, .slice none 0 0] (fun _ => True) (fun _ => True) ([], [], [], [], [], []) _ (rstate_none _) (rstate_none _)).mono ?_
      rintro e w7 ⟨rfl, d7⟩
      have HE : Hid (Below w.heap.size w w7) := on2 HB1.out (on2 (on2 p4 ((Below.refl _ _).alloc (Nat.le_refl _) _)) d7)
      clear d7 p4
      go_wp2_with fail
      go_ret
      exact ⟨rfl, HE.out⟩
end Go.Proofs.YtmnldngojgldiaaGreat
