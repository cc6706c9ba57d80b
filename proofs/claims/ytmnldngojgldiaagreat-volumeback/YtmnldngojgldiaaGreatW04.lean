/- base.SameState says yes of two states that hold the same, and changes nothing that was there. Condition: the arguments lie as is said of them. -/
import Derived.Test.YtmnldngojgldiaaGreatW03
import Derived.Test.YtmnldngojgldiaaGreatQ08
namespace Go.Proofs.YtmnldngojgldiaaGreat
open Go.RowKit
set_option linter.unusedSimpArgs false
set_option maxRecDepth 100000

theorem tells_it {α : Type} {e : Ending} {x : α} (h : TellsEq e x x) : e = .returned (.bool true) := by
  obtain ⟨r, rfl, hr⟩ := h
  rw [hr.2 rfl]
theorem neqCl_same (x : ClaimD) (w : World) : Sem.run Tryz.prog (binOp .neq 44 (.agg #[.string x.1, .int .i64 x.2.1, .string x.2.2.1, .string x.2.2.2]) (.agg #[.string x.1, .int .i64 x.2.1, .string x.2.2.1, .string x.2.2.2])) w = .ok (.bool false) w := by
  have u3 := Tryz.underlying3
  have a3 := Tryz.isAgg3
  have z3 := Tryz.sizeOf3
  have u9 := Tryz.underlying9
  have a9 := Tryz.isAgg9
  have z9 := Tryz.sizeOf9
  have hS : Tryz.prog.underlying 44 = some (.struct (Tryz.prog.fieldsOf 44)) := by kernel_rfl
  have hp : Tryz.prog.stoodInHeld 44 = false := by kernel_rfl
  rw [run_neq_struct, show (10000 : Nat) = 9999 + 1 from rfl, run_equalIn_agg w 9999 44 _ _ hS hp]
  simp only [Program.fieldsOf, Tryz.underlying44]
  go_simp
  try simp
theorem neqCs_same (x : ClassD) (w : World) : Sem.run Tryz.prog (binOp .neq 46 (.agg #[.string x.1, .bool x.2]) (.agg #[.string x.1, .bool x.2])) w = .ok (.bool false) w := by
  have u4 := Tryz.underlying4
  have a4 := Tryz.isAgg4
  have z4 := Tryz.sizeOf4
  have u9 := Tryz.underlying9
  have a9 := Tryz.isAgg9
  have z9 := Tryz.sizeOf9
  have hS : Tryz.prog.underlying 46 = some (.struct (Tryz.prog.fieldsOf 46)) := by kernel_rfl
  have hp : Tryz.prog.stoodInHeld 46 = false := by kernel_rfl
  rw [run_neq_struct, show (10000 : Nat) = 9999 + 1 from rfl, run_equalIn_agg w 9999 46 _ _ hS hp]
  simp only [Program.fieldsOf, Tryz.underlying46]
  go_simp
  try simp
theorem guardCl : Tryz.prog.eqGuardType Tryz.prog.depth 44 = false := by kernel_rfl
theorem guardCs : Tryz.prog.eqGuardType Tryz.prog.depth 46 = false := by kernel_rfl
def SsS (D E : Nat) (P I : List Value) (B o C q : Nat) (c d : List Value) (u : World) : Prop := BoxL u D P ∧ BoxL u E I ∧ u.rangeAt B o c ∧ u.rangeAt C q d
theorem range_on8 {u u' : World} {B o : Nat} {c : List Value} (h : u.rangeAt B o c) (hB : B < u.heap.size) (hb : Below u.heap.size u u') : u'.rangeAt B o c := fun j v hj => (hb.cell (p := ⟨B, o + j, none⟩) hB).trans (h j v hj)
set_option maxHeartbeats 32000000 in
theorem SameState_yes (cs ds : List Value) (A A' : Where) (x : StateD) (w : World) (h : Hid (RState A w cs x)) (h' : Hid (RState A' w ds x)) : Calls Tryz.prog 8 #[.agg cs.toArray, .agg ds.toArray] w fun e w' => e = .returned (.bool true) ∧ Below w.heap.size w w' := by
  obtain ⟨⟨a0, n0, c0⟩, ⟨a1, n1, c1⟩, ⟨a2, n2, c2⟩, ⟨a3, n3, c3⟩, ⟨a4, n4, c4⟩, ⟨a5, n5, c5⟩, rfl, p0, p1, p2, p3, p4, p5⟩ := h.out.out
  obtain ⟨⟨b0, m0, d0⟩, ⟨b1, m1, d1⟩, ⟨b2, m2, d2⟩, ⟨b3, m3, d3⟩, ⟨b4, m4, d4⟩, ⟨b5, m5, d5⟩, rfl, q0, q1, q2, q3, q4, q5⟩ := h'.out.out
  simp only at p0 q0 p1 q1 p2 q2 p3 q3 p4 q4 p5 q5
  obtain rfl : n0 = m0 := p0.1.symm.trans q0.1
  have P0 : Hid (∀ u, Below w.heap.size w u → SlAt RPod 16 296 A u a0 n0 c0 x.1) := fun u hb => p0.on RPod.firm hb
  have Q0 : Hid (∀ u, Below w.heap.size w u → SlAt RPod 16 296 A' u b0 n0 d0 x.1) := fun u hb => q0.on RPod.firm hb
  have l0 : n0 ≤ 140737488355328 := by have := p0.2.2.2.1; omega
  obtain rfl : n1 = m1 := p1.1.symm.trans q1.1
  have P1 : Hid (∀ u, Below w.heap.size w u → SlAt RNode 9 112 A u a1 n1 c1 x.2.1) := fun u hb => p1.on RNode.firm hb
  have Q1 : Hid (∀ u, Below w.heap.size w u → SlAt RNode 9 112 A' u b1 n1 d1 x.2.1) := fun u hb => q1.on RNode.firm hb
  have l1 : n1 ≤ 140737488355328 := by have := p1.2.2.2.1; omega
  obtain rfl : n2 = m2 := p2.1.symm.trans q2.1
  have P2 : Hid (∀ u, Below w.heap.size w u → SlAt RVolume 5 80 A u a2 n2 c2 x.2.2.1) := fun u hb => p2.on RVolume.firm hb
  have Q2 : Hid (∀ u, Below w.heap.size w u → SlAt RVolume 5 80 A' u b2 n2 d2 x.2.2.1) := fun u hb => q2.on RVolume.firm hb
  have l2 : n2 ≤ 140737488355328 := by have := p2.2.2.2.1; omega
  obtain rfl : n3 = m3 := p3.1.symm.trans q3.1
  have P3 : Hid (∀ u, Below w.heap.size w u → SlAt RClaim 4 56 A u a3 n3 c3 x.2.2.2.1) := fun u hb => p3.on RClaim.firm hb
  have Q3 : Hid (∀ u, Below w.heap.size w u → SlAt RClaim 4 56 A' u b3 n3 d3 x.2.2.2.1) := fun u hb => q3.on RClaim.firm hb
  have l3 : n3 ≤ 140737488355328 := by have := p3.2.2.2.1; omega
  obtain rfl : n4 = m4 := p4.1.symm.trans q4.1
  have P4 : Hid (∀ u, Below w.heap.size w u → SlAt RClass 2 24 A u a4 n4 c4 x.2.2.2.2.1) := fun u hb => p4.on RClass.firm hb
  have Q4 : Hid (∀ u, Below w.heap.size w u → SlAt RClass 2 24 A' u b4 n4 d4 x.2.2.2.2.1) := fun u hb => q4.on RClass.firm hb
  have l4 : n4 ≤ 140737488355328 := by have := p4.2.2.2.1; omega
  obtain rfl : n5 = m5 := p5.1.symm.trans q5.1
  have P5 : Hid (∀ u, Below w.heap.size w u → SlAt RBudget 3 48 A u a5 n5 c5 x.2.2.2.2.2) := fun u hb => p5.on RBudget.firm hb
  have Q5 : Hid (∀ u, Below w.heap.size w u → SlAt RBudget 3 48 A' u b5 n5 d5 x.2.2.2.2.2) := fun u hb => q5.on RBudget.firm hb
  have l5 : n5 ≤ 140737488355328 := by have := p5.2.2.2.1; omega
  clear h h' p0 q0 p1 q1 p2 q2 p3 q3 p4 q4 p5 q5
  obtain ⟨W2, hW2⟩ : ∃ W2, W2 = (w.alloc (.cells #[.slice a0 n0 c0, .slice a1 n1 c1, .slice a2 n2 c2, .slice a3 n3 c3, .slice a4 n4 c4, .slice a5 n5 c5] 29)).alloc (.cells #[.slice b0 n0 d0, .slice b1 n1 d1, .slice b2 n2 d2, .slice b3 n3 d3, .slice b4 n4 d4, .slice b5 n5 d5] 29) := ⟨_, rfl⟩
  have B2 : Hid (∀ u, Below W2.heap.size W2 u → Below w.heap.size w u) := fun u hb => on2 (by rw [hW2]; go_grown) hb
  have HS : Hid (∀ u, Below W2.heap.size W2 u → BoxL u w.heap.size [.slice a0 n0 c0, .slice a1 n1 c1, .slice a2 n2 c2, .slice a3 n3 c3, .slice a4 n4 c4, .slice a5 n5 c5] ∧ BoxL u (w.heap.size + 1) [.slice b0 n0 d0, .slice b1 n1 d1, .slice b2 n2 d2, .slice b3 n3 d3, .slice b4 n4 d4, .slice b5 n5 d5]) := fun u hb => ⟨BoxL.on (by rw [hW2]; exact (BoxL.new w 29 [.slice a0 n0 c0, .slice a1 n1 c1, .slice a2 n2 c2, .slice a3 n3 c3, .slice a4 n4 c4, .slice a5 n5 c5]).on ((Below.refl _ _).alloc (Nat.le_refl _) _)) hb, BoxL.on (by have h1 := BoxL.new (w.alloc (.cells #[.slice a0 n0 c0, .slice a1 n1 c1, .slice a2 n2 c2, .slice a3 n3 c3, .slice a4 n4 c4, .slice a5 n5 c5] 29)) 29 [.slice b0 n0 d0, .slice b1 n1 d1, .slice b2 n2 d2, .slice b3 n3 d3, .slice b4 n4 d4, .slice b5 n5 d5]; rw [hW2]; simpa using h1) hb⟩
  go_enter Tryz.func8, Tryz.ntmps8
  go_wp2_with fail
  rw [← hW2]
  clear hW2
  obtain ⟨P, hP⟩ : ∃ P : List Value, P = [.slice a0 n0 c0, .slice a1 n1 c1, .slice a2 n2 c2, .slice a3 n3 c3, .slice a4 n4 c4, .slice a5 n5 c5] := ⟨_, rfl⟩
  obtain ⟨I, hI0⟩ : ∃ I : List Value, I = [.slice b0 n0 d0, .slice b1 n1 d1, .slice b2 n2 d2, .slice b3 n3 d3, .slice b4 n4 d4, .slice b5 n5 d5] := ⟨_, rfl⟩
  rw [← hP, ← hI0] at HS
  have HP0 : Hid (P[0]? = some (.slice a0 n0 c0)) := by rw [Hid, hP]; rfl
  have HI0 : Hid (I[0]? = some (.slice b0 n0 d0)) := by rw [Hid, hI0]; rfl
  have HP1 : Hid (P[1]? = some (.slice a1 n1 c1)) := by rw [Hid, hP]; rfl
  have HI1 : Hid (I[1]? = some (.slice b1 n1 d1)) := by rw [Hid, hI0]; rfl
  have HP2 : Hid (P[2]? = some (.slice a2 n2 c2)) := by rw [Hid, hP]; rfl
  have HI2 : Hid (I[2]? = some (.slice b2 n2 d2)) := by rw [Hid, hI0]; rfl
  have HP3 : Hid (P[3]? = some (.slice a3 n3 c3)) := by rw [Hid, hP]; rfl
  have HI3 : Hid (I[3]? = some (.slice b3 n3 d3)) := by rw [Hid, hI0]; rfl
  have HP4 : Hid (P[4]? = some (.slice a4 n4 c4)) := by rw [Hid, hP]; rfl
  have HI4 : Hid (I[4]? = some (.slice b4 n4 d4)) := by rw [Hid, hI0]; rfl
  have HP5 : Hid (P[5]? = some (.slice a5 n5 c5)) := by rw [Hid, hP]; rfl
  have HI5 : Hid (I[5]? = some (.slice b5 n5 d5)) := by rw [Hid, hI0]; rfl
  clear hP hI0
  go_loopw [5] (fun i wr => ∃ k : Nat, k ≤ n0 ∧ i = .int .i64 k ∧ Hid (Below W2.heap.size W2 wr)) (fun i _ => n0 - (intOf i).toNat)
  case atStart => exact ⟨0, Nat.zero_le _, rfl, Below.refl _ _⟩
  case round =>
    obtain ⟨k, hk, rfl, hI⟩ := hrel
    obtain ⟨y0, _⟩ := (HS.out wr hI.out).1.2 0 _ HP0.out
    by_cases hlt : k < n0
    · have hltz : (k : Int) < (n0 : Int) := by omega
      obtain ⟨B, o, rfl, hB, _, ca, r1, v1⟩ := (P0.out w (Below.refl _ _)).get hlt
      obtain ⟨C, q, rfl, hC, _, cb, r2, v2⟩ := (Q0.out w (Below.refl _ _)).get hlt
      generalize x.1.getD k default = z at r1 r2
      have hi1 : (Tryz.prog.info? 61).map (·.size) = some ca.length := by rw [RPod.firm.len r1]; kernel_rfl
      have hi2 : (Tryz.prog.info? 61).map (·.size) = some cb.length := by rw [RPod.firm.len r2]; kernel_rfl
      have H1 : Hid (∀ u, Below w.heap.size w u → RPod A u ca z) := fun u hb => RPod.firm.kept r1 (Kept.below hb)
      have H2 : Hid (∀ u, Below w.heap.size w u → RPod A' u cb z) := fun u hb => RPod.firm.kept r2 (Kept.below hb)
      have HT : Hid (∀ u, Below W2.heap.size W2 u → SsS w.heap.size (w.heap.size + 1) P I B (o + k * 16) C (q + k * 16) ca cb u) := fun u hb => ⟨(HS.out u hb).1, (HS.out u hb).2, range_on8 (fun j v hj => v1 j v hj) hB (B2.out u hb), range_on8 (fun j v hj => v2 j v hj) hC (B2.out u hb)⟩
      clear r1 r2 v1 v2
      go_upto_region 6 with fail
      refine wp_region_noPanic ?_
      refine wp_region_held_drew (S := SsS w.heap.size (w.heap.size + 1) P I B (o + k * 16) C (q + k * 16) ca cb) (by kernel_rfl) (HT.out _ (hI.out.drew)) (fun hHeld => ?_)
      refine' tk 0 ?_ ?_; rotate_left
      · intro u hu; have e0 := (hu.1.2 0 _ HP0.out).1; have e1 := (hu.2.1.2 0 _ HI0.out).1; clear hu; go_simp; try with_reducible rfl
      try go_frame
      refine' tk 1 ?_ ?_; rotate_left
      · intro u hu; have e0 := (hu.1.2 0 _ HP0.out).1; have e1 := (hu.2.1.2 0 _ HI0.out).1; clear hu; go_simp; try with_reducible rfl
      try go_frame
      refine' tk 2 ?_ ?_; rotate_left
      · intro u hu; have e0 := (hu.1.2 0 _ HP0.out).1; have e1 := (hu.2.1.2 0 _ HI0.out).1; clear hu; go_simp; try with_reducible rfl
      try go_frame
      refine' tk 3 ?_ ?_; rotate_left
      · intro u hu; have e0 := (hu.1.2 0 _ HP0.out).1; have e1 := (hu.2.1.2 0 _ HI0.out).1; clear hu; go_simp; try with_reducible rfl
      try go_frame
      refine tq 4 (.agg (ca : List Value).toArray) (yieldsIf_load_mid rfl 61 _ rfl B (o + k * 16) rfl ca _ (fun u hu => hu.2.2.1) Tryz.underlying61 rfl hi1) ?_
      try go_frame
      refine' tk 5 ?_ ?_; rotate_left
      · intro u hu; have e0 := (hu.1.2 0 _ HP0.out).1; have e1 := (hu.2.1.2 0 _ HI0.out).1; clear hu; go_simp; try with_reducible rfl
      try go_frame
      refine' tk 6 ?_ ?_; rotate_left
      · intro u hu; have e0 := (hu.1.2 0 _ HP0.out).1; have e1 := (hu.2.1.2 0 _ HI0.out).1; clear hu; go_simp; try with_reducible rfl
      try go_frame
      refine' tk 7 ?_ ?_; rotate_left
      · intro u hu; have e0 := (hu.1.2 0 _ HP0.out).1; have e1 := (hu.2.1.2 0 _ HI0.out).1; clear hu; go_simp; try with_reducible rfl
      try go_frame
      refine' tk 8 ?_ ?_; rotate_left
      · intro u hu; have e0 := (hu.1.2 0 _ HP0.out).1; have e1 := (hu.2.1.2 0 _ HI0.out).1; clear hu; go_simp; try with_reducible rfl
      try go_frame
      refine tq 9 (.agg (cb : List Value).toArray) (yieldsIf_load_mid rfl 61 _ rfl C (q + k * 16) rfl cb _ (fun u hu => hu.2.2.2) Tryz.underlying61 rfl hi2) ?_
      try go_frame
      refine tr 10 (fun K hK => ?_)
      go_simp
      refine (SamePod_yes ca cb A A' z wr.drew (H1.out _ (B2.out _ hI.out.drew)) (H2.out _ (B2.out _ hI.out.drew))).mono ?_
      rintro e v ⟨he, hbv⟩
      subst he
      have hbN : Below W2.heap.size W2 v := on2 hI.out.drew hbv
      go_wp2_with fail
      refine hK.out _ _ (HT.out _ hbN) (fun hHeld2 => ?_)
      clear hK K hHeld; have hHeld := hHeld2; clear hHeld2
      try go_frame
      refine' tk 11 ?_ ?_; rotate_left
      · intro u hu; have e0 := (hu.1.2 0 _ HP0.out).1; have e1 := (hu.2.1.2 0 _ HI0.out).1; clear hu; go_simp; try with_reducible rfl
      try go_frame
      refine wpAnyH_done (by kernel_rfl) ?_ _
      refine NoPanic.normal ?_
      have HbN : Hid (Below W2.heap.size W2 _) := hbN
      clear hHeld HT hbN hI y0
      go_wp2_with fail
      go_roundw
      case rel => exact ⟨k + 1, by omega, by go_num, HbN⟩
      case measure => simp [intOf]; omega
    · have hlz : ¬ ((k : Int) < (n0 : Int)) := by omega
      have BB0 : Hid (Below W2.heap.size W2 wr) := hI
      clear hI
      go_wp2_with fail
      clear y0 hlz hlt
      go_loopw [6] (fun i wr => ∃ k : Nat, k ≤ n1 ∧ i = .int .i64 k ∧ Hid (Below W2.heap.size W2 wr)) (fun i _ => n1 - (intOf i).toNat)
      case atStart => exact ⟨0, Nat.zero_le _, rfl, BB0⟩
      case round =>
        obtain ⟨k, hk, rfl, hI⟩ := hrel
        obtain ⟨y0, _⟩ := (HS.out wr hI.out).1.2 1 _ HP1.out
        by_cases hlt : k < n1
        · have hltz : (k : Int) < (n1 : Int) := by omega
          obtain ⟨B, o, rfl, hB, _, ca, r1, v1⟩ := (P1.out w (Below.refl _ _)).get hlt
          obtain ⟨C, q, rfl, hC, _, cb, r2, v2⟩ := (Q1.out w (Below.refl _ _)).get hlt
          generalize x.2.1.getD k default = z at r1 r2
          have hi1 : (Tryz.prog.info? 64).map (·.size) = some ca.length := by rw [RNode.firm.len r1]; kernel_rfl
          have hi2 : (Tryz.prog.info? 64).map (·.size) = some cb.length := by rw [RNode.firm.len r2]; kernel_rfl
          have H1 : Hid (∀ u, Below w.heap.size w u → RNode A u ca z) := fun u hb => RNode.firm.kept r1 (Kept.below hb)
          have H2 : Hid (∀ u, Below w.heap.size w u → RNode A' u cb z) := fun u hb => RNode.firm.kept r2 (Kept.below hb)
          have HT : Hid (∀ u, Below W2.heap.size W2 u → SsS w.heap.size (w.heap.size + 1) P I B (o + k * 9) C (q + k * 9) ca cb u) := fun u hb => ⟨(HS.out u hb).1, (HS.out u hb).2, range_on8 (fun j v hj => v1 j v hj) hB (B2.out u hb), range_on8 (fun j v hj => v2 j v hj) hC (B2.out u hb)⟩
          clear r1 r2 v1 v2
          go_upto_region 11 with fail
          refine wp_region_noPanic ?_
          refine wp_region_held_drew (S := SsS w.heap.size (w.heap.size + 1) P I B (o + k * 9) C (q + k * 9) ca cb) (by kernel_rfl) (HT.out _ (hI.out.drew)) (fun hHeld => ?_)
          refine' tk 0 ?_ ?_; rotate_left
          · intro u hu; have e0 := (hu.1.2 1 _ HP1.out).1; have e1 := (hu.2.1.2 1 _ HI1.out).1; clear hu; go_simp; try with_reducible rfl
          try go_frame
          refine' tk 1 ?_ ?_; rotate_left
          · intro u hu; have e0 := (hu.1.2 1 _ HP1.out).1; have e1 := (hu.2.1.2 1 _ HI1.out).1; clear hu; go_simp; try with_reducible rfl
          try go_frame
          refine' tk 2 ?_ ?_; rotate_left
          · intro u hu; have e0 := (hu.1.2 1 _ HP1.out).1; have e1 := (hu.2.1.2 1 _ HI1.out).1; clear hu; go_simp; try with_reducible rfl
          try go_frame
          refine' tk 3 ?_ ?_; rotate_left
          · intro u hu; have e0 := (hu.1.2 1 _ HP1.out).1; have e1 := (hu.2.1.2 1 _ HI1.out).1; clear hu; go_simp; try with_reducible rfl
          try go_frame
          refine tq 4 (.agg (ca : List Value).toArray) (yieldsIf_load_mid rfl 64 _ rfl B (o + k * 9) rfl ca _ (fun u hu => hu.2.2.1) Tryz.underlying64 rfl hi1) ?_
          try go_frame
          refine' tk 5 ?_ ?_; rotate_left
          · intro u hu; have e0 := (hu.1.2 1 _ HP1.out).1; have e1 := (hu.2.1.2 1 _ HI1.out).1; clear hu; go_simp; try with_reducible rfl
          try go_frame
          refine' tk 6 ?_ ?_; rotate_left
          · intro u hu; have e0 := (hu.1.2 1 _ HP1.out).1; have e1 := (hu.2.1.2 1 _ HI1.out).1; clear hu; go_simp; try with_reducible rfl
          try go_frame
          refine' tk 7 ?_ ?_; rotate_left
          · intro u hu; have e0 := (hu.1.2 1 _ HP1.out).1; have e1 := (hu.2.1.2 1 _ HI1.out).1; clear hu; go_simp; try with_reducible rfl
          try go_frame
          refine' tk 8 ?_ ?_; rotate_left
          · intro u hu; have e0 := (hu.1.2 1 _ HP1.out).1; have e1 := (hu.2.1.2 1 _ HI1.out).1; clear hu; go_simp; try with_reducible rfl
          try go_frame
          refine tq 9 (.agg (cb : List Value).toArray) (yieldsIf_load_mid rfl 64 _ rfl C (q + k * 9) rfl cb _ (fun u hu => hu.2.2.2) Tryz.underlying64 rfl hi2) ?_
          try go_frame
          refine tr 10 (fun K hK => ?_)
          go_simp
          refine (SameNode_calls ca cb A A' z z wr.drew (H1.out _ (B2.out _ hI.out.drew)) (H2.out _ (B2.out _ hI.out.drew))).mono ?_
          rintro e v ⟨he, hbv⟩
          obtain rfl := tells_it he
          clear he
          have hbN : Below W2.heap.size W2 v := on2 hI.out.drew hbv
          go_wp2_with fail
          refine hK.out _ _ (HT.out _ hbN) (fun hHeld2 => ?_)
          clear hK K hHeld; have hHeld := hHeld2; clear hHeld2
          try go_frame
          refine' tk 11 ?_ ?_; rotate_left
          · intro u hu; have e0 := (hu.1.2 1 _ HP1.out).1; have e1 := (hu.2.1.2 1 _ HI1.out).1; clear hu; go_simp; try with_reducible rfl
          try go_frame
          refine wpAnyH_done (by kernel_rfl) ?_ _
          refine NoPanic.normal ?_
          have HbN : Hid (Below W2.heap.size W2 _) := hbN
          clear hHeld HT hbN hI y0
          go_wp2_with fail
          go_roundw
          case rel => exact ⟨k + 1, by omega, by go_num, HbN⟩
          case measure => simp [intOf]; omega
        · have hlz : ¬ ((k : Int) < (n1 : Int)) := by omega
          have BB1 : Hid (Below W2.heap.size W2 wr) := hI
          clear hI
          go_wp2_with fail
          clear y0 hlz hlt
          go_loopw [7] (fun i wr => ∃ k : Nat, k ≤ n2 ∧ i = .int .i64 k ∧ Hid (Below W2.heap.size W2 wr)) (fun i _ => n2 - (intOf i).toNat)
          case atStart => exact ⟨0, Nat.zero_le _, rfl, BB1⟩
          case round =>
            obtain ⟨k, hk, rfl, hI⟩ := hrel
            obtain ⟨y0, _⟩ := (HS.out wr hI.out).1.2 2 _ HP2.out
            by_cases hlt : k < n2
            · have hltz : (k : Int) < (n2 : Int) := by omega
              obtain ⟨B, o, rfl, hB, _, ca, r1, v1⟩ := (P2.out w (Below.refl _ _)).get hlt
              obtain ⟨C, q, rfl, hC, _, cb, r2, v2⟩ := (Q2.out w (Below.refl _ _)).get hlt
              generalize x.2.2.1.getD k default = z at r1 r2
              have hi1 : (Tryz.prog.info? 49).map (·.size) = some ca.length := by rw [RVolume.firm.len r1]; kernel_rfl
              have hi2 : (Tryz.prog.info? 49).map (·.size) = some cb.length := by rw [RVolume.firm.len r2]; kernel_rfl
              have H1 : Hid (∀ u, Below w.heap.size w u → RVolume A u ca z) := fun u hb => RVolume.firm.kept r1 (Kept.below hb)
              have H2 : Hid (∀ u, Below w.heap.size w u → RVolume A' u cb z) := fun u hb => RVolume.firm.kept r2 (Kept.below hb)
              have HT : Hid (∀ u, Below W2.heap.size W2 u → SsS w.heap.size (w.heap.size + 1) P I B (o + k * 5) C (q + k * 5) ca cb u) := fun u hb => ⟨(HS.out u hb).1, (HS.out u hb).2, range_on8 (fun j v hj => v1 j v hj) hB (B2.out u hb), range_on8 (fun j v hj => v2 j v hj) hC (B2.out u hb)⟩
              clear r1 r2 v1 v2
              go_upto_region 16 with fail
              refine wp_region_noPanic ?_
              refine wp_region_held_drew (S := SsS w.heap.size (w.heap.size + 1) P I B (o + k * 5) C (q + k * 5) ca cb) (by kernel_rfl) (HT.out _ (hI.out.drew)) (fun hHeld => ?_)
              refine' tk 0 ?_ ?_; rotate_left
              · intro u hu; have e0 := (hu.1.2 2 _ HP2.out).1; have e1 := (hu.2.1.2 2 _ HI2.out).1; clear hu; go_simp; try with_reducible rfl
              try go_frame
              refine' tk 1 ?_ ?_; rotate_left
              · intro u hu; have e0 := (hu.1.2 2 _ HP2.out).1; have e1 := (hu.2.1.2 2 _ HI2.out).1; clear hu; go_simp; try with_reducible rfl
              try go_frame
              refine' tk 2 ?_ ?_; rotate_left
              · intro u hu; have e0 := (hu.1.2 2 _ HP2.out).1; have e1 := (hu.2.1.2 2 _ HI2.out).1; clear hu; go_simp; try with_reducible rfl
              try go_frame
              refine' tk 3 ?_ ?_; rotate_left
              · intro u hu; have e0 := (hu.1.2 2 _ HP2.out).1; have e1 := (hu.2.1.2 2 _ HI2.out).1; clear hu; go_simp; try with_reducible rfl
              try go_frame
              refine tq 4 (.agg (ca : List Value).toArray) (yieldsIf_load_mid rfl 49 _ rfl B (o + k * 5) rfl ca _ (fun u hu => hu.2.2.1) Tryz.underlying49 rfl hi1) ?_
              try go_frame
              refine' tk 5 ?_ ?_; rotate_left
              · intro u hu; have e0 := (hu.1.2 2 _ HP2.out).1; have e1 := (hu.2.1.2 2 _ HI2.out).1; clear hu; go_simp; try with_reducible rfl
              try go_frame
              refine' tk 6 ?_ ?_; rotate_left
              · intro u hu; have e0 := (hu.1.2 2 _ HP2.out).1; have e1 := (hu.2.1.2 2 _ HI2.out).1; clear hu; go_simp; try with_reducible rfl
              try go_frame
              refine' tk 7 ?_ ?_; rotate_left
              · intro u hu; have e0 := (hu.1.2 2 _ HP2.out).1; have e1 := (hu.2.1.2 2 _ HI2.out).1; clear hu; go_simp; try with_reducible rfl
              try go_frame
              refine' tk 8 ?_ ?_; rotate_left
              · intro u hu; have e0 := (hu.1.2 2 _ HP2.out).1; have e1 := (hu.2.1.2 2 _ HI2.out).1; clear hu; go_simp; try with_reducible rfl
              try go_frame
              refine tq 9 (.agg (cb : List Value).toArray) (yieldsIf_load_mid rfl 49 _ rfl C (q + k * 5) rfl cb _ (fun u hu => hu.2.2.2) Tryz.underlying49 rfl hi2) ?_
              try go_frame
              refine tr 10 (fun K hK => ?_)
              go_simp
              refine (SameVolume_calls ca cb A A' z z wr.drew (H1.out _ (B2.out _ hI.out.drew)) (H2.out _ (B2.out _ hI.out.drew))).mono ?_
              rintro e v ⟨he, hbv⟩
              obtain rfl := tells_it he
              clear he
              have hbN : Below W2.heap.size W2 v := on2 hI.out.drew hbv
              go_wp2_with fail
              refine hK.out _ _ (HT.out _ hbN) (fun hHeld2 => ?_)
              clear hK K hHeld; have hHeld := hHeld2; clear hHeld2
              try go_frame
              refine' tk 11 ?_ ?_; rotate_left
              · intro u hu; have e0 := (hu.1.2 2 _ HP2.out).1; have e1 := (hu.2.1.2 2 _ HI2.out).1; clear hu; go_simp; try with_reducible rfl
              try go_frame
              refine wpAnyH_done (by kernel_rfl) ?_ _
              refine NoPanic.normal ?_
              have HbN : Hid (Below W2.heap.size W2 _) := hbN
              clear hHeld HT hbN hI y0
              go_wp2_with fail
              go_roundw
              case rel => exact ⟨k + 1, by omega, by go_num, HbN⟩
              case measure => simp [intOf]; omega
            · have hlz : ¬ ((k : Int) < (n2 : Int)) := by omega
              have BB2 : Hid (Below W2.heap.size W2 wr) := hI
              clear hI
              go_wp2_with fail
              clear y0 hlz hlt
              go_loopw [8] (fun i wr => ∃ k : Nat, k ≤ n3 ∧ i = .int .i64 k ∧ Hid (Below W2.heap.size W2 wr)) (fun i _ => n3 - (intOf i).toNat)
              case atStart => exact ⟨0, Nat.zero_le _, rfl, BB2⟩
              case round =>
                obtain ⟨k, hk, rfl, hI⟩ := hrel
                obtain ⟨y0, _⟩ := (HS.out wr hI.out).1.2 3 _ HP3.out
                by_cases hlt : k < n3
                · have hltz : (k : Int) < (n3 : Int) := by omega
                  obtain ⟨B, o, rfl, hB, _, ca, r1, v1⟩ := (P3.out w (Below.refl _ _)).get hlt
                  obtain ⟨C, q, rfl, hC, _, cb, r2, v2⟩ := (Q3.out w (Below.refl _ _)).get hlt
                  generalize x.2.2.2.1.getD k default = z at r1 r2
                  obtain ⟨rfl, _⟩ := r1.out
                  obtain ⟨rfl, _⟩ := r2.out
                  have hne := neqCl_same z
                  have hgu := guardCl
                  have hi1 : (Tryz.prog.info? 44).map (·.size) = some ([.string z.1, .int .i64 z.2.1, .string z.2.2.1, .string z.2.2.2] : List Value).length := by kernel_rfl
                  have hi2 := hi1
                  have HT : Hid (∀ u, Below W2.heap.size W2 u → SsS w.heap.size (w.heap.size + 1) P I B (o + k * 4) C (q + k * 4) [.string z.1, .int .i64 z.2.1, .string z.2.2.1, .string z.2.2.2] [.string z.1, .int .i64 z.2.1, .string z.2.2.1, .string z.2.2.2] u) := fun u hb => ⟨(HS.out u hb).1, (HS.out u hb).2, range_on8 (fun j v hj => v1 j v hj) hB (B2.out u hb), range_on8 (fun j v hj => v2 j v hj) hC (B2.out u hb)⟩
                  clear r1 r2 v1 v2
                  go_upto_region 21 with fail
                  refine wp_region_noPanic ?_
                  refine wp_region_held_drew (S := SsS w.heap.size (w.heap.size + 1) P I B (o + k * 4) C (q + k * 4) [.string z.1, .int .i64 z.2.1, .string z.2.2.1, .string z.2.2.2] [.string z.1, .int .i64 z.2.1, .string z.2.2.1, .string z.2.2.2]) (by kernel_rfl) (HT.out _ (hI.out.drew)) (fun hHeld => ?_)
                  refine' tk 0 ?_ ?_; rotate_left
                  · intro u hu; have e0 := (hu.1.2 3 _ HP3.out).1; have e1 := (hu.2.1.2 3 _ HI3.out).1; clear hu; go_simp; try with_reducible rfl
                  try go_frame
                  refine' tk 1 ?_ ?_; rotate_left
                  · intro u hu; have e0 := (hu.1.2 3 _ HP3.out).1; have e1 := (hu.2.1.2 3 _ HI3.out).1; clear hu; go_simp; try with_reducible rfl
                  try go_frame
                  refine' tk 2 ?_ ?_; rotate_left
                  · intro u hu; have e0 := (hu.1.2 3 _ HP3.out).1; have e1 := (hu.2.1.2 3 _ HI3.out).1; clear hu; go_simp; try with_reducible rfl
                  try go_frame
                  refine' tk 3 ?_ ?_; rotate_left
                  · intro u hu; have e0 := (hu.1.2 3 _ HP3.out).1; have e1 := (hu.2.1.2 3 _ HI3.out).1; clear hu; go_simp; try with_reducible rfl
                  try go_frame
                  refine tq 4 (.agg ([.string z.1, .int .i64 z.2.1, .string z.2.2.1, .string z.2.2.2] : List Value).toArray) (yieldsIf_load_mid rfl 44 _ rfl B (o + k * 4) rfl [.string z.1, .int .i64 z.2.1, .string z.2.2.1, .string z.2.2.2] _ (fun u hu => hu.2.2.1) Tryz.underlying44 rfl hi1) ?_
                  try go_frame
                  refine' tk 5 ?_ ?_; rotate_left
                  · intro u hu; have e0 := (hu.1.2 3 _ HP3.out).1; have e1 := (hu.2.1.2 3 _ HI3.out).1; clear hu; go_simp; try with_reducible rfl
                  try go_frame
                  refine' tk 6 ?_ ?_; rotate_left
                  · intro u hu; have e0 := (hu.1.2 3 _ HP3.out).1; have e1 := (hu.2.1.2 3 _ HI3.out).1; clear hu; go_simp; try with_reducible rfl
                  try go_frame
                  refine' tk 7 ?_ ?_; rotate_left
                  · intro u hu; have e0 := (hu.1.2 3 _ HP3.out).1; have e1 := (hu.2.1.2 3 _ HI3.out).1; clear hu; go_simp; try with_reducible rfl
                  try go_frame
                  refine' tk 8 ?_ ?_; rotate_left
                  · intro u hu; have e0 := (hu.1.2 3 _ HP3.out).1; have e1 := (hu.2.1.2 3 _ HI3.out).1; clear hu; go_simp; try with_reducible rfl
                  try go_frame
                  refine tq 9 (.agg ([.string z.1, .int .i64 z.2.1, .string z.2.2.1, .string z.2.2.2] : List Value).toArray) (yieldsIf_load_mid rfl 44 _ rfl C (q + k * 4) rfl [.string z.1, .int .i64 z.2.1, .string z.2.2.1, .string z.2.2.2] _ (fun u hu => hu.2.2.2) Tryz.underlying44 rfl hi2) ?_
                  try go_frame
                  refine' tk 10 ?_ ?_; rotate_left
                  · intro u hu; have e0 := (hu.1.2 3 _ HP3.out).1; have e1 := (hu.2.1.2 3 _ HI3.out).1; clear hu; go_simp; try with_reducible rfl
                  try go_frame
                  have hbN : Below W2.heap.size W2 wr.drew := hI.out.drew
                  refine wpAnyH_done (by kernel_rfl) ?_ _
                  refine NoPanic.normal ?_
                  have HbN : Hid (Below W2.heap.size W2 _) := hbN
                  clear hHeld HT hbN hI y0
                  go_wp2_with fail
                  go_roundw
                  case rel => exact ⟨k + 1, by omega, by go_num, HbN⟩
                  case measure => simp [intOf]; omega
                · have hlz : ¬ ((k : Int) < (n3 : Int)) := by omega
                  have BB3 : Hid (Below W2.heap.size W2 wr) := hI
                  clear hI
                  go_wp2_with fail
                  clear y0 hlz hlt
                  go_loopw [9] (fun i wr => ∃ k : Nat, k ≤ n4 ∧ i = .int .i64 k ∧ Hid (Below W2.heap.size W2 wr)) (fun i _ => n4 - (intOf i).toNat)
                  case atStart => exact ⟨0, Nat.zero_le _, rfl, BB3⟩
                  case round =>
                    obtain ⟨k, hk, rfl, hI⟩ := hrel
                    obtain ⟨y0, _⟩ := (HS.out wr hI.out).1.2 4 _ HP4.out
                    by_cases hlt : k < n4
                    · have hltz : (k : Int) < (n4 : Int) := by omega
                      obtain ⟨B, o, rfl, hB, _, ca, r1, v1⟩ := (P4.out w (Below.refl _ _)).get hlt
                      obtain ⟨C, q, rfl, hC, _, cb, r2, v2⟩ := (Q4.out w (Below.refl _ _)).get hlt
                      generalize x.2.2.2.2.1.getD k default = z at r1 r2
                      obtain ⟨rfl, _⟩ := r1.out
                      obtain ⟨rfl, _⟩ := r2.out
                      have hne := neqCs_same z
                      have hgu := guardCs
                      have hi1 : (Tryz.prog.info? 46).map (·.size) = some ([.string z.1, .bool z.2] : List Value).length := by kernel_rfl
                      have hi2 := hi1
                      have HT : Hid (∀ u, Below W2.heap.size W2 u → SsS w.heap.size (w.heap.size + 1) P I B (o + k * 2) C (q + k * 2) [.string z.1, .bool z.2] [.string z.1, .bool z.2] u) := fun u hb => ⟨(HS.out u hb).1, (HS.out u hb).2, range_on8 (fun j v hj => v1 j v hj) hB (B2.out u hb), range_on8 (fun j v hj => v2 j v hj) hC (B2.out u hb)⟩
                      clear r1 r2 v1 v2
                      go_upto_region 26 with fail
                      refine wp_region_noPanic ?_
                      refine wp_region_held_drew (S := SsS w.heap.size (w.heap.size + 1) P I B (o + k * 2) C (q + k * 2) [.string z.1, .bool z.2] [.string z.1, .bool z.2]) (by kernel_rfl) (HT.out _ (hI.out.drew)) (fun hHeld => ?_)
                      refine' tk 0 ?_ ?_; rotate_left
                      · intro u hu; have e0 := (hu.1.2 4 _ HP4.out).1; have e1 := (hu.2.1.2 4 _ HI4.out).1; clear hu; go_simp; try with_reducible rfl
                      try go_frame
                      refine' tk 1 ?_ ?_; rotate_left
                      · intro u hu; have e0 := (hu.1.2 4 _ HP4.out).1; have e1 := (hu.2.1.2 4 _ HI4.out).1; clear hu; go_simp; try with_reducible rfl
                      try go_frame
                      refine' tk 2 ?_ ?_; rotate_left
                      · intro u hu; have e0 := (hu.1.2 4 _ HP4.out).1; have e1 := (hu.2.1.2 4 _ HI4.out).1; clear hu; go_simp; try with_reducible rfl
                      try go_frame
                      refine' tk 3 ?_ ?_; rotate_left
                      · intro u hu; have e0 := (hu.1.2 4 _ HP4.out).1; have e1 := (hu.2.1.2 4 _ HI4.out).1; clear hu; go_simp; try with_reducible rfl
                      try go_frame
                      refine tq 4 (.agg ([.string z.1, .bool z.2] : List Value).toArray) (yieldsIf_load_mid rfl 46 _ rfl B (o + k * 2) rfl [.string z.1, .bool z.2] _ (fun u hu => hu.2.2.1) Tryz.underlying46 rfl hi1) ?_
                      try go_frame
                      refine' tk 5 ?_ ?_; rotate_left
                      · intro u hu; have e0 := (hu.1.2 4 _ HP4.out).1; have e1 := (hu.2.1.2 4 _ HI4.out).1; clear hu; go_simp; try with_reducible rfl
                      try go_frame
                      refine' tk 6 ?_ ?_; rotate_left
                      · intro u hu; have e0 := (hu.1.2 4 _ HP4.out).1; have e1 := (hu.2.1.2 4 _ HI4.out).1; clear hu; go_simp; try with_reducible rfl
                      try go_frame
                      refine' tk 7 ?_ ?_; rotate_left
                      · intro u hu; have e0 := (hu.1.2 4 _ HP4.out).1; have e1 := (hu.2.1.2 4 _ HI4.out).1; clear hu; go_simp; try with_reducible rfl
                      try go_frame
                      refine' tk 8 ?_ ?_; rotate_left
                      · intro u hu; have e0 := (hu.1.2 4 _ HP4.out).1; have e1 := (hu.2.1.2 4 _ HI4.out).1; clear hu; go_simp; try with_reducible rfl
                      try go_frame
                      refine tq 9 (.agg ([.string z.1, .bool z.2] : List Value).toArray) (yieldsIf_load_mid rfl 46 _ rfl C (q + k * 2) rfl [.string z.1, .bool z.2] _ (fun u hu => hu.2.2.2) Tryz.underlying46 rfl hi2) ?_
                      try go_frame
                      refine' tk 10 ?_ ?_; rotate_left
                      · intro u hu; have e0 := (hu.1.2 4 _ HP4.out).1; have e1 := (hu.2.1.2 4 _ HI4.out).1; clear hu; go_simp; try with_reducible rfl
                      try go_frame
                      have hbN : Below W2.heap.size W2 wr.drew := hI.out.drew
                      refine wpAnyH_done (by kernel_rfl) ?_ _
                      refine NoPanic.normal ?_
                      have HbN : Hid (Below W2.heap.size W2 _) := hbN
                      clear hHeld HT hbN hI y0
                      go_wp2_with fail
                      go_roundw
                      case rel => exact ⟨k + 1, by omega, by go_num, HbN⟩
                      case measure => simp [intOf]; omega
                    · have hlz : ¬ ((k : Int) < (n4 : Int)) := by omega
                      have BB4 : Hid (Below W2.heap.size W2 wr) := hI
                      clear hI
                      go_wp2_with fail
                      clear y0 hlz hlt
                      go_loopw [10] (fun i wr => ∃ k : Nat, k ≤ n5 ∧ i = .int .i64 k ∧ Hid (Below W2.heap.size W2 wr)) (fun i _ => n5 - (intOf i).toNat)
                      case atStart => exact ⟨0, Nat.zero_le _, rfl, BB4⟩
                      case round =>
                        obtain ⟨k, hk, rfl, hI⟩ := hrel
                        obtain ⟨y0, _⟩ := (HS.out wr hI.out).1.2 5 _ HP5.out
                        by_cases hlt : k < n5
                        · have hltz : (k : Int) < (n5 : Int) := by omega
                          obtain ⟨B, o, rfl, hB, _, ca, r1, v1⟩ := (P5.out w (Below.refl _ _)).get hlt
                          obtain ⟨C, q, rfl, hC, _, cb, r2, v2⟩ := (Q5.out w (Below.refl _ _)).get hlt
                          generalize x.2.2.2.2.2.getD k default = z at r1 r2
                          have hi1 : (Tryz.prog.info? 79).map (·.size) = some ca.length := by rw [RBudget.firm.len r1]; kernel_rfl
                          have hi2 : (Tryz.prog.info? 79).map (·.size) = some cb.length := by rw [RBudget.firm.len r2]; kernel_rfl
                          have H1 : Hid (∀ u, Below w.heap.size w u → RBudget A u ca z) := fun u hb => RBudget.firm.kept r1 (Kept.below hb)
                          have H2 : Hid (∀ u, Below w.heap.size w u → RBudget A' u cb z) := fun u hb => RBudget.firm.kept r2 (Kept.below hb)
                          have HT : Hid (∀ u, Below W2.heap.size W2 u → SsS w.heap.size (w.heap.size + 1) P I B (o + k * 3) C (q + k * 3) ca cb u) := fun u hb => ⟨(HS.out u hb).1, (HS.out u hb).2, range_on8 (fun j v hj => v1 j v hj) hB (B2.out u hb), range_on8 (fun j v hj => v2 j v hj) hC (B2.out u hb)⟩
                          clear r1 r2 v1 v2
                          go_upto_region 31 with fail
                          refine wp_region_noPanic ?_
                          refine wp_region_held_drew (S := SsS w.heap.size (w.heap.size + 1) P I B (o + k * 3) C (q + k * 3) ca cb) (by kernel_rfl) (HT.out _ (hI.out.drew)) (fun hHeld => ?_)
                          refine' tk 0 ?_ ?_; rotate_left
                          · intro u hu; have e0 := (hu.1.2 5 _ HP5.out).1; have e1 := (hu.2.1.2 5 _ HI5.out).1; clear hu; go_simp; try with_reducible rfl
                          try go_frame
                          refine' tk 1 ?_ ?_; rotate_left
                          · intro u hu; have e0 := (hu.1.2 5 _ HP5.out).1; have e1 := (hu.2.1.2 5 _ HI5.out).1; clear hu; go_simp; try with_reducible rfl
                          try go_frame
                          refine' tk 2 ?_ ?_; rotate_left
                          · intro u hu; have e0 := (hu.1.2 5 _ HP5.out).1; have e1 := (hu.2.1.2 5 _ HI5.out).1; clear hu; go_simp; try with_reducible rfl
                          try go_frame
                          refine' tk 3 ?_ ?_; rotate_left
                          · intro u hu; have e0 := (hu.1.2 5 _ HP5.out).1; have e1 := (hu.2.1.2 5 _ HI5.out).1; clear hu; go_simp; try with_reducible rfl
                          try go_frame
                          refine tq 4 (.agg (ca : List Value).toArray) (yieldsIf_load_mid rfl 79 _ rfl B (o + k * 3) rfl ca _ (fun u hu => hu.2.2.1) Tryz.underlying79 rfl hi1) ?_
                          try go_frame
                          refine' tk 5 ?_ ?_; rotate_left
                          · intro u hu; have e0 := (hu.1.2 5 _ HP5.out).1; have e1 := (hu.2.1.2 5 _ HI5.out).1; clear hu; go_simp; try with_reducible rfl
                          try go_frame
                          refine' tk 6 ?_ ?_; rotate_left
                          · intro u hu; have e0 := (hu.1.2 5 _ HP5.out).1; have e1 := (hu.2.1.2 5 _ HI5.out).1; clear hu; go_simp; try with_reducible rfl
                          try go_frame
                          refine' tk 7 ?_ ?_; rotate_left
                          · intro u hu; have e0 := (hu.1.2 5 _ HP5.out).1; have e1 := (hu.2.1.2 5 _ HI5.out).1; clear hu; go_simp; try with_reducible rfl
                          try go_frame
                          refine' tk 8 ?_ ?_; rotate_left
                          · intro u hu; have e0 := (hu.1.2 5 _ HP5.out).1; have e1 := (hu.2.1.2 5 _ HI5.out).1; clear hu; go_simp; try with_reducible rfl
                          try go_frame
                          refine tq 9 (.agg (cb : List Value).toArray) (yieldsIf_load_mid rfl 79 _ rfl C (q + k * 3) rfl cb _ (fun u hu => hu.2.2.2) Tryz.underlying79 rfl hi2) ?_
                          try go_frame
                          refine tr 10 (fun K hK => ?_)
                          go_simp
                          refine (SameBudget_calls ca cb A A' z z wr.drew (H1.out _ (B2.out _ hI.out.drew)) (H2.out _ (B2.out _ hI.out.drew))).mono ?_
                          rintro e v ⟨he, hbv⟩
                          obtain rfl := tells_it he
                          clear he
                          have hbN : Below W2.heap.size W2 v := on2 hI.out.drew hbv
                          go_wp2_with fail
                          refine hK.out _ _ (HT.out _ hbN) (fun hHeld2 => ?_)
                          clear hK K hHeld; have hHeld := hHeld2; clear hHeld2
                          try go_frame
                          refine' tk 11 ?_ ?_; rotate_left
                          · intro u hu; have e0 := (hu.1.2 5 _ HP5.out).1; have e1 := (hu.2.1.2 5 _ HI5.out).1; clear hu; go_simp; try with_reducible rfl
                          try go_frame
                          refine wpAnyH_done (by kernel_rfl) ?_ _
                          refine NoPanic.normal ?_
                          have HbN : Hid (Below W2.heap.size W2 _) := hbN
                          clear hHeld HT hbN hI y0
                          go_wp2_with fail
                          go_roundw
                          case rel => exact ⟨k + 1, by omega, by go_num, HbN⟩
                          case measure => simp [intOf]; omega
                        · have hlz : ¬ ((k : Int) < (n5 : Int)) := by omega
                          have BB5 : Hid (Below W2.heap.size W2 wr) := hI
                          clear hI
                          go_wp2_with fail
                          go_ret
                          exact ⟨rfl, B2.out _ BB5.out⟩
end Go.Proofs.YtmnldngojgldiaaGreat
