/- base.State copies a state: the copy holds the same, in blocks of its own. Condition: the argument lies as is said of it. -/
import Derived.Test.YtgofpmcoffgffaaW01
import Derived.Test.YtgofpmcoffgffaaQ13
import Derived.Test.YtgofpmcoffgffaaW02
import Derived.Test.YtgofpmcoffgffaaW03
import Derived.Great.BuildSlice
namespace Go.Proofs.Ytgofpmcoffgffaa
open Go.RowKit
set_option linter.unusedSimpArgs false
set_option maxRecDepth 100000

theorem inf3Pod : (Try.prog.info? 33).map (fun i => (i.zero, i.size, i.bytes)) = some (some (.agg zPod.toArray), 16, 296) := by kernel_rfl
theorem fsPod {A : Where} {w : World} {c : List Value} {y : PodD} (h : RPod A w c y) : Instr.fill (fun i => some (i * 16, 16)) ((Array.range (1 * 16)).map ((Value.agg zPod.toArray).cells[· % (Value.agg zPod.toArray).cells.size]!)) [(0, .agg c.toArray)] = some c.toArray := by
  obtain ⟨_, _, _, _, _, _, _, _, _, rfl, _⟩ := h.out
  kernel_rfl
theorem inf3Node : (Try.prog.info? 36).map (fun i => (i.zero, i.size, i.bytes)) = some (some (.agg zNode.toArray), 9, 112) := by kernel_rfl
theorem fsNode {A : Where} {w : World} {c : List Value} {y : NodeD} (h : RNode A w c y) : Instr.fill (fun i => some (i * 9, 9)) ((Array.range (1 * 9)).map ((Value.agg zNode.toArray).cells[· % (Value.agg zNode.toArray).cells.size]!)) [(0, .agg c.toArray)] = some c.toArray := by
  obtain ⟨_, _, rfl, _⟩ := h.out
  kernel_rfl
theorem inf3Volume : (Try.prog.info? 59).map (fun i => (i.zero, i.size, i.bytes)) = some (some (.agg zVolume.toArray), 5, 80) := by kernel_rfl
theorem fsVolume {A : Where} {w : World} {c : List Value} {y : VolumeD} (h : RVolume A w c y) : Instr.fill (fun i => some (i * 5, 5)) ((Array.range (1 * 5)).map ((Value.agg zVolume.toArray).cells[· % (Value.agg zVolume.toArray).cells.size]!)) [(0, .agg c.toArray)] = some c.toArray := by
  obtain ⟨_, rfl, _⟩ := h.out
  kernel_rfl
theorem inf3Claim : (Try.prog.info? 57).map (fun i => (i.zero, i.size, i.bytes)) = some (some (.agg zClaim.toArray), 4, 56) := by kernel_rfl
theorem fsClaim {A : Where} {w : World} {c : List Value} {y : ClaimD} (h : RClaim A w c y) : Instr.fill (fun i => some (i * 4, 4)) ((Array.range (1 * 4)).map ((Value.agg zClaim.toArray).cells[· % (Value.agg zClaim.toArray).cells.size]!)) [(0, .agg c.toArray)] = some c.toArray := by
  obtain ⟨rfl, _⟩ := h.out
  kernel_rfl
theorem inf3Class : (Try.prog.info? 65).map (fun i => (i.zero, i.size, i.bytes)) = some (some (.agg zClass.toArray), 2, 24) := by kernel_rfl
theorem fsClass {A : Where} {w : World} {c : List Value} {y : ClassD} (h : RClass A w c y) : Instr.fill (fun i => some (i * 2, 2)) ((Array.range (1 * 2)).map ((Value.agg zClass.toArray).cells[· % (Value.agg zClass.toArray).cells.size]!)) [(0, .agg c.toArray)] = some c.toArray := by
  obtain ⟨rfl, _⟩ := h.out
  kernel_rfl
theorem inf3Budget : (Try.prog.info? 95).map (fun i => (i.zero, i.size, i.bytes)) = some (some (.agg zBudget.toArray), 3, 48) := by kernel_rfl
theorem fsBudget {A : Where} {w : World} {c : List Value} {y : BudgetD} (h : RBudget A w c y) : Instr.fill (fun i => some (i * 3, 3)) ((Array.range (1 * 3)).map ((Value.agg zBudget.toArray).cells[· % (Value.agg zBudget.toArray).cells.size]!)) [(0, .agg c.toArray)] = some c.toArray := by
  obtain ⟨_, rfl, _⟩ := h.out
  kernel_rfl
theorem BoxL.of {u : World} {D : Nat} {cs : List Value} (h1 : D < u.heap.size) (h2 : u.rangeAt D 0 cs) (h3 : u.there D 0 cs.length) : BoxL u D cs := ⟨h1, fun i v hi => ⟨by have := h2 i v hi; rwa [Nat.zero_add] at this, by have := (h3 i (List.getElem?_eq_some_iff.1 hi).1).2; rwa [Nat.zero_add] at this⟩⟩
theorem PB.all {w u : World} {P Z Q Q' : List Value} (h : PB w u P Z Q) (hl : Q'.length = Q.length) : PB w (u.setCells (w.heap.size + 1 + 1) 0 Q') P Z Q' :=
  ⟨BoxL.of (by rw [size_setCells]; exact h.p.1) (World.rangeAt_setCells_apart h.p.range _ _ _ (.inl (by omega))) (World.there_setCells h.p.there _ _ _),
   BoxL.of (by rw [size_setCells]; exact h.z.1) (World.rangeAt_setCells_apart h.z.range _ _ _ (.inl (by omega))) (World.there_setCells h.z.there _ _ _),
   BoxL.of (by rw [size_setCells]; exact h.q.1) (World.rangeAt_setCells_same _ _ _ _ (hl ▸ h.q.there)) (World.there_setCells (hl ▸ h.q.there) _ _ _),
   below_setCells h.b (by omega)⟩
def StS (w : World) (i : Nat) (hp v : Value) (B o : Nat) (c : List Value) (u : World) : Prop := u.cell? ⟨w.heap.size, i, none⟩ = some hp ∧ u.cell? ⟨w.heap.size + 1 + 1, i, none⟩ = some v ∧ u.frozen? ⟨w.heap.size + 1 + 1, i, none⟩ = false ∧ u.rangeAt B o c

set_option maxHeartbeats 16000000 in
theorem State_own (ss : List Value) (A : Where) (x : StateD) (w : World) (h : RState A w ss x) : Calls Try.prog 11 #[.agg ss.toArray] w (StOut w x) := by
  obtain ⟨L0, L1, L2, L3, L4, L5⟩ := x
  obtain ⟨⟨a0, n0, m0⟩, ⟨a1, n1, m1⟩, ⟨a2, n2, m2⟩, ⟨a3, n3, m3⟩, ⟨a4, n4, m4⟩, ⟨a5, n5, m5⟩, rfl, s0, s1, s2, s3, s4, s5⟩ := h.out
  simp only at s0 s1 s2 s3 s4 s5 ⊢
  clear h
  have S0 : Hid (SlAt RPod 16 296 A w a0 n0 m0 L0) := s0
  have HL0 : Hid (L0.length = n0) := s0.1
  have HB0 : Hid (n0 * 296 ≤ 140737488351232) := s0.2.2.2.1
  have hl0 : n0 ≤ 140737488351232 := S0.out.len (by decide)
  have S1 : Hid (SlAt RNode 9 112 A w a1 n1 m1 L1) := s1
  have HL1 : Hid (L1.length = n1) := s1.1
  have HB1 : Hid (n1 * 112 ≤ 140737488351232) := s1.2.2.2.1
  have hl1 : n1 ≤ 140737488351232 := S1.out.len (by decide)
  have S2 : Hid (SlAt RVolume 5 80 A w a2 n2 m2 L2) := s2
  have HL2 : Hid (L2.length = n2) := s2.1
  have HB2 : Hid (n2 * 80 ≤ 140737488351232) := s2.2.2.2.1
  have hl2 : n2 ≤ 140737488351232 := S2.out.len (by decide)
  have S3 : Hid (SlAt RClaim 4 56 A w a3 n3 m3 L3) := s3
  have HL3 : Hid (L3.length = n3) := s3.1
  have HB3 : Hid (n3 * 56 ≤ 140737488351232) := s3.2.2.2.1
  have hl3 : n3 ≤ 140737488351232 := S3.out.len (by decide)
  have S4 : Hid (SlAt RClass 2 24 A w a4 n4 m4 L4) := s4
  have HL4 : Hid (L4.length = n4) := s4.1
  have HB4 : Hid (n4 * 24 ≤ 140737488351232) := s4.2.2.2.1
  have hl4 : n4 ≤ 140737488351232 := S4.out.len (by decide)
  have S5 : Hid (SlAt RBudget 3 48 A w a5 n5 m5 L5) := s5
  have HL5 : Hid (L5.length = n5) := s5.1
  have HB5 : Hid (n5 * 48 ≤ 140737488351232) := s5.2.2.2.1
  have hl5 : n5 ≤ 140737488351232 := S5.out.len (by decide)
  clear s0 s1 s2 s3 s4 s5
  obtain ⟨W3, hU2⟩ : ∃ U, U = (((w.alloc (.cells #[.slice a0 n0 m0, .slice a1 n1 m1, .slice a2 n2 m2, .slice a3 n3 m3, .slice a4 n4 m4, .slice a5 n5 m5] 46)).alloc (.cells #[.slice none 0 0, .slice none 0 0, .slice none 0 0, .slice none 0 0, .slice none 0 0, .slice none 0 0] 46)).alloc (.cells #[.slice none 0 0, .slice none 0 0, .slice none 0 0, .slice none 0 0, .slice none 0 0, .slice none 0 0] 46)) := ⟨_, rfl⟩
  have B2 : PB w W3 [.slice a0 n0 m0, .slice a1 n1 m1, .slice a2 n2 m2, .slice a3 n3 m3, .slice a4 n4 m4, .slice a5 n5 m5] [.slice none 0 0, .slice none 0 0, .slice none 0 0, .slice none 0 0, .slice none 0 0, .slice none 0 0] [.slice none 0 0, .slice none 0 0, .slice none 0 0, .slice none 0 0, .slice none 0 0, .slice none 0 0] := by
    rw [hU2]
    refine ⟨(BoxL.new w 46 [.slice a0 n0 m0, .slice a1 n1 m1, .slice a2 n2 m2, .slice a3 n3 m3, .slice a4 n4 m4, .slice a5 n5 m5]).on (((Below.refl _ _).alloc (Nat.le_refl _) _).alloc (by simp) _), ?_, ?_, by go_grown⟩
    · have := (BoxL.new (w.alloc (.cells #[.slice a0 n0 m0, .slice a1 n1 m1, .slice a2 n2 m2, .slice a3 n3 m3, .slice a4 n4 m4, .slice a5 n5 m5] 46)) 46 [.slice none 0 0, .slice none 0 0, .slice none 0 0, .slice none 0 0, .slice none 0 0, .slice none 0 0]).on ((Below.refl _ _).alloc (Nat.le_refl _) (.cells #[.slice none 0 0, .slice none 0 0, .slice none 0 0, .slice none 0 0, .slice none 0 0, .slice none 0 0] 46))
      simpa using this
    · have := BoxL.new ((w.alloc (.cells #[.slice a0 n0 m0, .slice a1 n1 m1, .slice a2 n2 m2, .slice a3 n3 m3, .slice a4 n4 m4, .slice a5 n5 m5] 46)).alloc (.cells #[.slice none 0 0, .slice none 0 0, .slice none 0 0, .slice none 0 0, .slice none 0 0, .slice none 0 0] 46)) 46 [.slice none 0 0, .slice none 0 0, .slice none 0 0, .slice none 0 0, .slice none 0 0, .slice none 0 0]
      simpa using this
  have B3 : Hid (PB w W3 [.slice a0 n0 m0, .slice a1 n1 m1, .slice a2 n2 m2, .slice a3 n3 m3, .slice a4 n4 m4, .slice a5 n5 m5] [.slice none 0 0, .slice none 0 0, .slice none 0 0, .slice none 0 0, .slice none 0 0, .slice none 0 0] [.slice none 0 0, .slice none 0 0, .slice none 0 0, .slice none 0 0, .slice none 0 0, .slice none 0 0]) := B2
  have hsz : Hid (W3.heap.size = w.heap.size + 1 + 1 + 1) := by rw [Hid, hU2]; simp
  clear B2
  have sG : Hid (Stays W3 (fun _ => True)) := Stays.none W3
  go_enter Try.func11, Try.ntmps11
  go_wp2_with fail
  rw [← hU2]
  clear hU2
  have g0 : Hid ((fun _ => True) W3) := trivial
  have HR0 : Hid (Row RPod 16 (Fresh W3) W3 W3 33 (.slice none 0 0) (L0.take 0)) := Row.nil _ _ _
  go_loopw [4] (fun i wr => ∃ (k : Nat) (X : World) (v : Value), k ≤ n0 ∧ i = .int .i64 k ∧ Hid (PB w X [.slice a0 n0 m0, .slice a1 n1 m1, .slice a2 n2 m2, .slice a3 n3 m3, .slice a4 n4 m4, .slice a5 n5 m5] [.slice none 0 0, .slice none 0 0, .slice none 0 0, .slice none 0 0, .slice none 0 0, .slice none 0 0] [v, .slice none 0 0, .slice none 0 0, .slice none 0 0, .slice none 0 0, .slice none 0 0]) ∧ Hid (Row RPod 16 (Fresh X) X wr 33 v (L0.take k)) ∧ Hid ((fun _ => True) X)) (fun i _ => n0 - (intOf i).toNat)
  case atStart => exact ⟨0, _, _, Nat.zero_le _, rfl, B3, HR0, g0⟩
  case round =>
    obtain ⟨k, X, v, hk, rfl, hB, hrow, hG⟩ := hrel
    clear HR0 B3 g0
    have hbX : Below X.heap.size X wr := hrow.out.below
    have hBw := hB.out.on hbX
    obtain ⟨p0, pf0⟩ := hBw.p.2 0 _ rfl
    by_cases hlt : k < n0
    · have hltz : (k : Int) < (n0 : Int) := by omega
      have hkl : Hid (k < L0.length) := by rw [Hid, HL0.out]; exact hlt
      obtain ⟨B, off, rfl, hD, _, c, hr, hv⟩ := S0.out.get hlt
      have hic := info_of iszPod (RPod.firm.len hr)
      have HT : Hid (L0.take k ++ [L0.getD k default] = L0.take (k + 1)) := take_at hkl.out
      have HS : Hid (∀ u, Below X.heap.size X u → StS w 0 (.slice (some ⟨B, off, none⟩) n0 m0) v B (off + k * 16) c u) := fun u hb => ⟨((hB.out.on hb).p.2 0 _ rfl).1, ((hB.out.on hb).q.2 0 _ rfl).1, ((hB.out.on hb).q.2 0 _ rfl).2, range_on hv (hB.out.on hb).b hD⟩
      have HC := Pod_copy c A (L0.getD k default) wr.drew (RPod.firm.kept hr (Kept.below hBw.b.drew))
      have HLb : Hid (((L0.take k).length + 1) * 296 ≤ 140737488355328) := by
        have := bytes_le HB0.out hlt
        rw [Hid, List.length_take, HL0.out, Nat.min_eq_left (by omega)]
        exact this
      have hsX := hB.out.sz
      obtain ⟨i0, hi0, hz0, hzs, _⟩ := info_parts inf3Pod
      clear hr hv hBw
      generalize L0.getD k default = y at HT HC
      go_wp2_with fail
      refine u0 11 (StS w 0 (.slice (some ⟨B, off, none⟩) n0 m0) v B (off + k * 16) c) (HS.out _ hbX.drew) (fun hHeld => ?_)
      refine' uk 0 ?_ ?_; rotate_left
      · intro u ⟨_, _, _, _⟩; go_simp; try with_reducible rfl
      try go_frame
      refine' uk 1 ?_ ?_; rotate_left
      · intro u ⟨_, _, _, _⟩; go_simp; try with_reducible rfl
      try go_frame
      refine' uk 2 ?_ ?_; rotate_left
      · intro u ⟨_, _, _, _⟩; go_simp; try with_reducible rfl
      try go_frame
      refine' uk 3 ?_ ?_; rotate_left
      · intro u ⟨_, _, _, _⟩; go_simp; try with_reducible rfl
      try go_frame
      refine' uk 4 ?_ ?_; rotate_left
      · intro u ⟨_, _, _, _⟩; go_simp; try with_reducible rfl
      try go_frame
      refine' uk 5 ?_ ?_; rotate_left
      · intro u ⟨_, _, _, _⟩; go_simp; try with_reducible rfl
      try go_frame
      refine uq 6 (.agg c.toArray) (yieldsIf_load_mid (by rfl) 33 _ rfl B (off + k * 16) rfl c _ (fun u hu => hu.2.2.2) Try.underlying33 rfl hic) ?_ (hi := rfl)
      try go_frame
      refine ur 7 (fun K hK => ?_)
      go_simp
      refine HC.mono ?_
      rintro e w5 ⟨c5, rfl, hS5, hb5⟩
      have hbX5 := on2 hbX.drew hb5
      go_wp2_with fail
      refine hK.out _ _ (HS.out _ hbX5) (fun hHeld2 => ?_)
      clear hK K hHeld; have hHeld := hHeld2; clear hHeld2
      try go_frame
      have hb6 : Below wr.heap.size wr (w5.alloc (.cells c5.toArray 33)) := ((Below.refl _ wr).drew.trans (hb5.mono (Nat.le_refl _))).alloc hb5.size _
      have HR6 := hrow.out.on RPod.firm hb6
      have HE : RPod (fun b => Fresh X b ∧ Value.ownBlock v ≠ some b) (w5.alloc (.cells c5.toArray 33)) c5 y := RPod.firm.weak (RPod.firm.kept hS5 (Kept.alloc _ _ _)) (fun b _ hb => hrow.out.apart (u' := wr.drew) (Nat.le_refl _) b hb)
      have HCh := chunk_one RPod.firm HE
      have HX := one_cells w5 c5 33
      have h1c := RPod.firm.one HE
      refine ur 8 (fun K hK => ?_)
      refine want_yes (by rfl) (wp_buildSlice 39 33 1 _ rfl c5.toArray i0 _ Try.underlying39 hi0 hz0 (by rw [hzs]; decide) (by rw [hzs]; decide) (by rw [hzs]; simp only [List.map_toArray]; exact fsPod hS5) ?_)
      refine hK.out _ _ (HS.out _ (on2 hbX hb6)) (fun hHeld2 => ?_)
      clear hK K hHeld; have hHeld := hHeld2; clear hHeld2
      try go_frame
      refine ur 9 (fun K hK => ?_)
      refine row_append_wp RPod.firm (A := Fresh X) (w0 := X) _ _ 39 33 rfl _ 296 inf3Pod Try.underlying39 rfl (by decide) (by decide) v (L0.take k) rfl HR6 ⟨w5.heap.size, 0, none⟩ 1 1 _ [y] rfl rfl HCh HX h1c HLb.out ?_
      intro v9 w9 hrow9 hg9
      rw [HT.out] at hrow9
      obtain ⟨e9, c9, rfl, _⟩ := hrow9.slF (bytes := 296) RPod.firm (Nat.le_trans (Nat.mul_le_mul_right 296 (by rw [List.length_take, HL0.out]; omega)) HB0.out)
      generalize (L0.take (k + 1)).length = l9 at hrow9 ⊢
      refine hK.out _ _ (HS.out _ hrow9.below) (fun hHeld2 => ?_)
      clear hK K hHeld; have hHeld := hHeld2; clear hHeld2
      try go_frame
      refine' uk 10 ?_ ?_; rotate_left
      · intro u ⟨_, _, _, _⟩; go_simp; try with_reducible rfl
      try go_frame
      have hrow9' : Hid (Row RPod 16 (Fresh (X.setCell ⟨w.heap.size + 1 + 1, 0, none⟩ (.slice e9 l9 c9))) (X.setCell ⟨w.heap.size + 1 + 1, 0, none⟩ (.slice e9 l9 c9)) (w9.setCell ⟨w.heap.size + 1 + 1, 0, none⟩ (.slice e9 l9 c9)) 33 (.slice e9 l9 c9) (L0.take (k + 1))) := hrow9.bothF RPod.firm hsX _
      have hB9 : Hid (PB w (X.setCell ⟨w.heap.size + 1 + 1, 0, none⟩ (.slice e9 l9 c9)) [.slice (some ⟨B, off, none⟩) n0 m0, .slice a1 n1 m1, .slice a2 n2 m2, .slice a3 n3 m3, .slice a4 n4 m4, .slice a5 n5 m5] [.slice none 0 0, .slice none 0 0, .slice none 0 0, .slice none 0 0, .slice none 0 0, .slice none 0 0] [.slice e9 l9 c9, .slice none 0 0, .slice none 0 0, .slice none 0 0, .slice none 0 0, .slice none 0 0]) := hB.out.set 0 _ (by simp)
      have hG9 : Hid ((fun _ => True) (X.setCell ⟨w.heap.size + 1 + 1, 0, none⟩ (.slice e9 l9 c9))) := trivial
      obtain ⟨_, q8, f8, _⟩ := hHeld
      refine uz 11 (fun K hK => ?_)
      go_simp
      refine hK.out _ (NoPanic.normal ?_)
      try go_frame
      clear hK K
      go_wp2_with fail
      go_roundw
      case rel => exact ⟨k + 1, _, _, by omega, by go_num, hB9, hrow9', hG9⟩
      case measure => simp [intOf]; omega
    · have hltz : ¬ ((k : Int) < (n0 : Int)) := by omega
      have hkE : L0.take k = L0 := List.take_of_length_le (by rw [HL0.out]; omega)
      rw [hkE] at hrow
      obtain ⟨b0, k0, rfl, hS0⟩ := hrow.out.slF (bytes := 296) RPod.firm (by rw [HL0.out]; exact HB0.out)
      have RI0 := RowI.of RPod.firm hrow.out
      rw [HL0.out] at hS0 hB RI0
      have hlo0 : W3.heap.size ≤ X.heap.size := hB.out.fr hsz.out X.heap.size (Nat.le_refl _)
      have hlh0 : X.heap.size ≤ wr.heap.size := hbX.size
      obtain ⟨lo0, elo0⟩ : ∃ n, n = X.heap.size := ⟨_, rfl⟩
      obtain ⟨hi0, ehi0⟩ : ∃ n, n = wr.heap.size := ⟨_, rfl⟩
      have hhi0 : hi0 ≤ wr.heap.size := Nat.le_of_eq ehi0
      rw [← elo0, ← ehi0] at RI0 hlh0
      rw [← elo0] at hlo0
      obtain ⟨G0, sG0, g0, i0, o0⟩ := Stays.addI (u := wr) sG.out (sG.out _ _ hG.out (Kept.below hbX)) RPod.firm RI0 hlo0 hhi0
      have HC0 : Hid (W3.heap.size ≤ lo0 ∧ lo0 ≤ hi0) := ⟨hlo0, hlh0⟩
      clear RI0 hlo0 hlh0 hhi0 elo0 ehi0
      replace sG0 : Hid (Stays W3 G0) := sG0
      replace i0 : Hid (∀ v, G0 v → _) := i0
      replace o0 : Hid (∀ v, G0 v → _) := o0
      replace g0 : Hid (G0 wr) := g0
      have C0 : Hid (PB w wr [.slice a0 n0 m0, .slice a1 n1 m1, .slice a2 n2 m2, .slice a3 n3 m3, .slice a4 n4 m4, .slice a5 n5 m5] [.slice none 0 0, .slice none 0 0, .slice none 0 0, .slice none 0 0, .slice none 0 0, .slice none 0 0] [.slice b0 n0 k0, .slice none 0 0, .slice none 0 0, .slice none 0 0, .slice none 0 0, .slice none 0 0]) := hB.out.on hbX
      clear hS0 hrow hB hG hbX hBw hkE
      obtain ⟨V0, hV0⟩ : ∃ V, V = wr := ⟨_, rfl⟩
      rw [← hV0] at g0 C0 p0 pf0 ⊢
      clear hV0
      go_wp2_with fail
      have HR1 : Hid (Row RNode 9 (Fresh V0) V0 V0 36 (.slice none 0 0) (L1.take 0)) := Row.nil _ _ _
      go_loopw [5] (fun i wr => ∃ (k : Nat) (X : World) (v : Value), k ≤ n1 ∧ i = .int .i64 k ∧ Hid (PB w X [.slice a0 n0 m0, .slice a1 n1 m1, .slice a2 n2 m2, .slice a3 n3 m3, .slice a4 n4 m4, .slice a5 n5 m5] [.slice none 0 0, .slice none 0 0, .slice none 0 0, .slice none 0 0, .slice none 0 0, .slice none 0 0] [.slice b0 n0 k0, v, .slice none 0 0, .slice none 0 0, .slice none 0 0, .slice none 0 0]) ∧ Hid (Row RNode 9 (Fresh X) X wr 36 v (L1.take k)) ∧ Hid (G0 X)) (fun i _ => n1 - (intOf i).toNat)
      case atStart => exact ⟨0, _, _, Nat.zero_le _, rfl, C0, HR1, g0⟩
      case round =>
        obtain ⟨k, X, v, hk, rfl, hB, hrow, hG⟩ := hrel
        clear HR1 C0 g0
        have hbX : Below X.heap.size X wr := hrow.out.below
        have hBw := hB.out.on hbX
        obtain ⟨p1, pf1⟩ := hBw.p.2 1 _ rfl
        by_cases hlt : k < n1
        · have hltz : (k : Int) < (n1 : Int) := by omega
          have hkl : Hid (k < L1.length) := by rw [Hid, HL1.out]; exact hlt
          obtain ⟨B, off, rfl, hD, _, c, hr, hv⟩ := S1.out.get hlt
          have hic := info_of iszNode (RNode.firm.len hr)
          have HT : Hid (L1.take k ++ [L1.getD k default] = L1.take (k + 1)) := take_at hkl.out
          have HS : Hid (∀ u, Below X.heap.size X u → StS w 1 (.slice (some ⟨B, off, none⟩) n1 m1) v B (off + k * 9) c u) := fun u hb => ⟨((hB.out.on hb).p.2 1 _ rfl).1, ((hB.out.on hb).q.2 1 _ rfl).1, ((hB.out.on hb).q.2 1 _ rfl).2, range_on hv (hB.out.on hb).b hD⟩
          have HC := Node_copy c A (L1.getD k default) wr.drew (RNode.firm.kept hr (Kept.below hBw.b.drew))
          have HLb : Hid (((L1.take k).length + 1) * 112 ≤ 140737488355328) := by
            have := bytes_le HB1.out hlt
            rw [Hid, List.length_take, HL1.out, Nat.min_eq_left (by omega)]
            exact this
          have hsX := hB.out.sz
          obtain ⟨i0, hi0, hz0, hzs, _⟩ := info_parts inf3Node
          clear hr hv hBw
          generalize L1.getD k default = y at HT HC
          go_wp2_with fail
          refine u0 11 (StS w 1 (.slice (some ⟨B, off, none⟩) n1 m1) v B (off + k * 9) c) (HS.out _ hbX.drew) (fun hHeld => ?_)
          refine' uk 0 ?_ ?_; rotate_left
          · intro u ⟨_, _, _, _⟩; go_simp; try with_reducible rfl
          try go_frame
          refine' uk 1 ?_ ?_; rotate_left
          · intro u ⟨_, _, _, _⟩; go_simp; try with_reducible rfl
          try go_frame
          refine' uk 2 ?_ ?_; rotate_left
          · intro u ⟨_, _, _, _⟩; go_simp; try with_reducible rfl
          try go_frame
          refine' uk 3 ?_ ?_; rotate_left
          · intro u ⟨_, _, _, _⟩; go_simp; try with_reducible rfl
          try go_frame
          refine' uk 4 ?_ ?_; rotate_left
          · intro u ⟨_, _, _, _⟩; go_simp; try with_reducible rfl
          try go_frame
          refine' uk 5 ?_ ?_; rotate_left
          · intro u ⟨_, _, _, _⟩; go_simp; try with_reducible rfl
          try go_frame
          refine uq 6 (.agg c.toArray) (yieldsIf_load_mid (by rfl) 36 _ rfl B (off + k * 9) rfl c _ (fun u hu => hu.2.2.2) Try.underlying36 rfl hic) ?_ (hi := rfl)
          try go_frame
          refine ur 7 (fun K hK => ?_)
          go_simp
          refine HC.mono ?_
          rintro e w5 ⟨c5, rfl, hS5, hb5⟩
          have hbX5 := on2 hbX.drew hb5
          go_wp2_with fail
          refine hK.out _ _ (HS.out _ hbX5) (fun hHeld2 => ?_)
          clear hK K hHeld; have hHeld := hHeld2; clear hHeld2
          try go_frame
          have hb6 : Below wr.heap.size wr (w5.alloc (.cells c5.toArray 36)) := ((Below.refl _ wr).drew.trans (hb5.mono (Nat.le_refl _))).alloc hb5.size _
          have HR6 := hrow.out.on RNode.firm hb6
          have HE : RNode (fun b => Fresh X b ∧ Value.ownBlock v ≠ some b) (w5.alloc (.cells c5.toArray 36)) c5 y := RNode.firm.weak (RNode.firm.kept hS5 (Kept.alloc _ _ _)) (fun b _ hb => hrow.out.apart (u' := wr.drew) (Nat.le_refl _) b hb)
          have HCh := chunk_one RNode.firm HE
          have HX := one_cells w5 c5 36
          have h1c := RNode.firm.one HE
          refine ur 8 (fun K hK => ?_)
          refine want_yes (by rfl) (wp_buildSlice 40 36 1 _ rfl c5.toArray i0 _ Try.underlying40 hi0 hz0 (by rw [hzs]; decide) (by rw [hzs]; decide) (by rw [hzs]; simp only [List.map_toArray]; exact fsNode hS5) ?_)
          refine hK.out _ _ (HS.out _ (on2 hbX hb6)) (fun hHeld2 => ?_)
          clear hK K hHeld; have hHeld := hHeld2; clear hHeld2
          try go_frame
          refine ur 9 (fun K hK => ?_)
          refine row_append_wp RNode.firm (A := Fresh X) (w0 := X) _ _ 40 36 rfl _ 112 inf3Node Try.underlying40 rfl (by decide) (by decide) v (L1.take k) rfl HR6 ⟨w5.heap.size, 0, none⟩ 1 1 _ [y] rfl rfl HCh HX h1c HLb.out ?_
          intro v9 w9 hrow9 hg9
          rw [HT.out] at hrow9
          obtain ⟨e9, c9, rfl, _⟩ := hrow9.slF (bytes := 112) RNode.firm (Nat.le_trans (Nat.mul_le_mul_right 112 (by rw [List.length_take, HL1.out]; omega)) HB1.out)
          generalize (L1.take (k + 1)).length = l9 at hrow9 ⊢
          refine hK.out _ _ (HS.out _ hrow9.below) (fun hHeld2 => ?_)
          clear hK K hHeld; have hHeld := hHeld2; clear hHeld2
          try go_frame
          refine' uk 10 ?_ ?_; rotate_left
          · intro u ⟨_, _, _, _⟩; go_simp; try with_reducible rfl
          try go_frame
          have hrow9' : Hid (Row RNode 9 (Fresh (X.setCell ⟨w.heap.size + 1 + 1, 1, none⟩ (.slice e9 l9 c9))) (X.setCell ⟨w.heap.size + 1 + 1, 1, none⟩ (.slice e9 l9 c9)) (w9.setCell ⟨w.heap.size + 1 + 1, 1, none⟩ (.slice e9 l9 c9)) 36 (.slice e9 l9 c9) (L1.take (k + 1))) := hrow9.bothF RNode.firm hsX _
          have hB9 : Hid (PB w (X.setCell ⟨w.heap.size + 1 + 1, 1, none⟩ (.slice e9 l9 c9)) [.slice a0 n0 m0, .slice (some ⟨B, off, none⟩) n1 m1, .slice a2 n2 m2, .slice a3 n3 m3, .slice a4 n4 m4, .slice a5 n5 m5] [.slice none 0 0, .slice none 0 0, .slice none 0 0, .slice none 0 0, .slice none 0 0, .slice none 0 0] [.slice b0 n0 k0, .slice e9 l9 c9, .slice none 0 0, .slice none 0 0, .slice none 0 0, .slice none 0 0]) := hB.out.set 1 _ (by simp)
          have hG9 : Hid (G0 (X.setCell ⟨w.heap.size + 1 + 1, 1, none⟩ (.slice e9 l9 c9))) := sG0.out _ _ hG.out (Kept.set (Fresh.not (by have := hsz.out; have := hsX; simp; omega)) _)
          obtain ⟨_, q8, f8, _⟩ := hHeld
          refine uz 11 (fun K hK => ?_)
          go_simp
          refine hK.out _ (NoPanic.normal ?_)
          try go_frame
          clear hK K
          go_wp2_with fail
          go_roundw
          case rel => exact ⟨k + 1, _, _, by omega, by go_num, hB9, hrow9', hG9⟩
          case measure => simp [intOf]; omega
        · have hltz : ¬ ((k : Int) < (n1 : Int)) := by omega
          have hkE : L1.take k = L1 := List.take_of_length_le (by rw [HL1.out]; omega)
          rw [hkE] at hrow
          obtain ⟨b1, k1, rfl, hS1⟩ := hrow.out.slF (bytes := 112) RNode.firm (by rw [HL1.out]; exact HB1.out)
          have RI1 := RowI.of RNode.firm hrow.out
          rw [HL1.out] at hS1 hB RI1
          have hlo1 : W3.heap.size ≤ X.heap.size := hB.out.fr hsz.out X.heap.size (Nat.le_refl _)
          have hlh1 : X.heap.size ≤ wr.heap.size := hbX.size
          have hct1 : hi0 ≤ X.heap.size := (o0.out X hG.out).2
          obtain ⟨lo1, elo1⟩ : ∃ n, n = X.heap.size := ⟨_, rfl⟩
          obtain ⟨hi1, ehi1⟩ : ∃ n, n = wr.heap.size := ⟨_, rfl⟩
          have hhi1 : hi1 ≤ wr.heap.size := Nat.le_of_eq ehi1
          rw [← elo1, ← ehi1] at RI1 hlh1
          rw [← elo1] at hlo1 hct1
          obtain ⟨G1, sG1, g1, i1, o1⟩ := Stays.addI (u := wr) sG0.out (sG0.out _ _ hG.out (Kept.below hbX)) RNode.firm RI1 hlo1 hhi1
          have HC1 : Hid (W3.heap.size ≤ lo1 ∧ lo1 ≤ hi1 ∧ hi0 ≤ lo1) := ⟨hlo1, hlh1, hct1⟩
          clear RI1 hlo1 hlh1 hhi1 elo1 ehi1 hct1
          replace sG1 : Hid (Stays W3 G1) := sG1
          replace i1 : Hid (∀ v, G1 v → _) := i1
          replace o1 : Hid (∀ v, G1 v → _) := o1
          replace g1 : Hid (G1 wr) := g1
          have C1 : Hid (PB w wr [.slice a0 n0 m0, .slice a1 n1 m1, .slice a2 n2 m2, .slice a3 n3 m3, .slice a4 n4 m4, .slice a5 n5 m5] [.slice none 0 0, .slice none 0 0, .slice none 0 0, .slice none 0 0, .slice none 0 0, .slice none 0 0] [.slice b0 n0 k0, .slice b1 n1 k1, .slice none 0 0, .slice none 0 0, .slice none 0 0, .slice none 0 0]) := hB.out.on hbX
          clear hS1 hrow hB hG hbX hBw hkE
          obtain ⟨V1, hV1⟩ : ∃ V, V = wr := ⟨_, rfl⟩
          rw [← hV1] at g1 C1 p1 pf1 ⊢
          clear hV1
          go_wp2_with fail
          have HR2 : Hid (Row RVolume 5 (Fresh V1) V1 V1 59 (.slice none 0 0) (L2.take 0)) := Row.nil _ _ _
          go_loopw [6] (fun i wr => ∃ (k : Nat) (X : World) (v : Value), k ≤ n2 ∧ i = .int .i64 k ∧ Hid (PB w X [.slice a0 n0 m0, .slice a1 n1 m1, .slice a2 n2 m2, .slice a3 n3 m3, .slice a4 n4 m4, .slice a5 n5 m5] [.slice none 0 0, .slice none 0 0, .slice none 0 0, .slice none 0 0, .slice none 0 0, .slice none 0 0] [.slice b0 n0 k0, .slice b1 n1 k1, v, .slice none 0 0, .slice none 0 0, .slice none 0 0]) ∧ Hid (Row RVolume 5 (Fresh X) X wr 59 v (L2.take k)) ∧ Hid (G1 X)) (fun i _ => n2 - (intOf i).toNat)
          case atStart => exact ⟨0, _, _, Nat.zero_le _, rfl, C1, HR2, g1⟩
          case round =>
            obtain ⟨k, X, v, hk, rfl, hB, hrow, hG⟩ := hrel
            clear HR2 C1 g1
            have hbX : Below X.heap.size X wr := hrow.out.below
            have hBw := hB.out.on hbX
            obtain ⟨p2, pf2⟩ := hBw.p.2 2 _ rfl
            by_cases hlt : k < n2
            · have hltz : (k : Int) < (n2 : Int) := by omega
              have hkl : Hid (k < L2.length) := by rw [Hid, HL2.out]; exact hlt
              obtain ⟨B, off, rfl, hD, _, c, hr, hv⟩ := S2.out.get hlt
              have hic := info_of iszVolume (RVolume.firm.len hr)
              have HT : Hid (L2.take k ++ [L2.getD k default] = L2.take (k + 1)) := take_at hkl.out
              have HS : Hid (∀ u, Below X.heap.size X u → StS w 2 (.slice (some ⟨B, off, none⟩) n2 m2) v B (off + k * 5) c u) := fun u hb => ⟨((hB.out.on hb).p.2 2 _ rfl).1, ((hB.out.on hb).q.2 2 _ rfl).1, ((hB.out.on hb).q.2 2 _ rfl).2, range_on hv (hB.out.on hb).b hD⟩
              have HC := Volume_copy c A (L2.getD k default) wr.drew (RVolume.firm.kept hr (Kept.below hBw.b.drew))
              have HLb : Hid (((L2.take k).length + 1) * 80 ≤ 140737488355328) := by
                have := bytes_le HB2.out hlt
                rw [Hid, List.length_take, HL2.out, Nat.min_eq_left (by omega)]
                exact this
              have hsX := hB.out.sz
              obtain ⟨i0, hi0, hz0, hzs, _⟩ := info_parts inf3Volume
              clear hr hv hBw
              generalize L2.getD k default = y at HT HC
              go_wp2_with fail
              refine u0 11 (StS w 2 (.slice (some ⟨B, off, none⟩) n2 m2) v B (off + k * 5) c) (HS.out _ hbX.drew) (fun hHeld => ?_)
              refine' uk 0 ?_ ?_; rotate_left
              · intro u ⟨_, _, _, _⟩; go_simp; try with_reducible rfl
              try go_frame
              refine' uk 1 ?_ ?_; rotate_left
              · intro u ⟨_, _, _, _⟩; go_simp; try with_reducible rfl
              try go_frame
              refine' uk 2 ?_ ?_; rotate_left
              · intro u ⟨_, _, _, _⟩; go_simp; try with_reducible rfl
              try go_frame
              refine' uk 3 ?_ ?_; rotate_left
              · intro u ⟨_, _, _, _⟩; go_simp; try with_reducible rfl
              try go_frame
              refine' uk 4 ?_ ?_; rotate_left
              · intro u ⟨_, _, _, _⟩; go_simp; try with_reducible rfl
              try go_frame
              refine' uk 5 ?_ ?_; rotate_left
              · intro u ⟨_, _, _, _⟩; go_simp; try with_reducible rfl
              try go_frame
              refine uq 6 (.agg c.toArray) (yieldsIf_load_mid (by rfl) 59 _ rfl B (off + k * 5) rfl c _ (fun u hu => hu.2.2.2) Try.underlying59 rfl hic) ?_ (hi := rfl)
              try go_frame
              refine ur 7 (fun K hK => ?_)
              go_simp
              refine HC.mono ?_
              rintro e w5 ⟨c5, rfl, hS5, hb5⟩
              have hbX5 := on2 hbX.drew hb5
              go_wp2_with fail
              refine hK.out _ _ (HS.out _ hbX5) (fun hHeld2 => ?_)
              clear hK K hHeld; have hHeld := hHeld2; clear hHeld2
              try go_frame
              have hb6 : Below wr.heap.size wr (w5.alloc (.cells c5.toArray 59)) := ((Below.refl _ wr).drew.trans (hb5.mono (Nat.le_refl _))).alloc hb5.size _
              have HR6 := hrow.out.on RVolume.firm hb6
              have HE : RVolume (fun b => Fresh X b ∧ Value.ownBlock v ≠ some b) (w5.alloc (.cells c5.toArray 59)) c5 y := RVolume.firm.weak (RVolume.firm.kept hS5 (Kept.alloc _ _ _)) (fun b _ hb => hrow.out.apart (u' := wr.drew) (Nat.le_refl _) b hb)
              have HCh := chunk_one RVolume.firm HE
              have HX := one_cells w5 c5 59
              have h1c := RVolume.firm.one HE
              refine ur 8 (fun K hK => ?_)
              refine want_yes (by rfl) (wp_buildSlice 41 59 1 _ rfl c5.toArray i0 _ Try.underlying41 hi0 hz0 (by rw [hzs]; decide) (by rw [hzs]; decide) (by rw [hzs]; simp only [List.map_toArray]; exact fsVolume hS5) ?_)
              refine hK.out _ _ (HS.out _ (on2 hbX hb6)) (fun hHeld2 => ?_)
              clear hK K hHeld; have hHeld := hHeld2; clear hHeld2
              try go_frame
              refine ur 9 (fun K hK => ?_)
              refine row_append_wp RVolume.firm (A := Fresh X) (w0 := X) _ _ 41 59 rfl _ 80 inf3Volume Try.underlying41 rfl (by decide) (by decide) v (L2.take k) rfl HR6 ⟨w5.heap.size, 0, none⟩ 1 1 _ [y] rfl rfl HCh HX h1c HLb.out ?_
              intro v9 w9 hrow9 hg9
              rw [HT.out] at hrow9
              obtain ⟨e9, c9, rfl, _⟩ := hrow9.slF (bytes := 80) RVolume.firm (Nat.le_trans (Nat.mul_le_mul_right 80 (by rw [List.length_take, HL2.out]; omega)) HB2.out)
              generalize (L2.take (k + 1)).length = l9 at hrow9 ⊢
              refine hK.out _ _ (HS.out _ hrow9.below) (fun hHeld2 => ?_)
              clear hK K hHeld; have hHeld := hHeld2; clear hHeld2
              try go_frame
              refine' uk 10 ?_ ?_; rotate_left
              · intro u ⟨_, _, _, _⟩; go_simp; try with_reducible rfl
              try go_frame
              have hrow9' : Hid (Row RVolume 5 (Fresh (X.setCell ⟨w.heap.size + 1 + 1, 2, none⟩ (.slice e9 l9 c9))) (X.setCell ⟨w.heap.size + 1 + 1, 2, none⟩ (.slice e9 l9 c9)) (w9.setCell ⟨w.heap.size + 1 + 1, 2, none⟩ (.slice e9 l9 c9)) 59 (.slice e9 l9 c9) (L2.take (k + 1))) := hrow9.bothF RVolume.firm hsX _
              have hB9 : Hid (PB w (X.setCell ⟨w.heap.size + 1 + 1, 2, none⟩ (.slice e9 l9 c9)) [.slice a0 n0 m0, .slice a1 n1 m1, .slice (some ⟨B, off, none⟩) n2 m2, .slice a3 n3 m3, .slice a4 n4 m4, .slice a5 n5 m5] [.slice none 0 0, .slice none 0 0, .slice none 0 0, .slice none 0 0, .slice none 0 0, .slice none 0 0] [.slice b0 n0 k0, .slice b1 n1 k1, .slice e9 l9 c9, .slice none 0 0, .slice none 0 0, .slice none 0 0]) := hB.out.set 2 _ (by simp)
              have hG9 : Hid (G1 (X.setCell ⟨w.heap.size + 1 + 1, 2, none⟩ (.slice e9 l9 c9))) := sG1.out _ _ hG.out (Kept.set (Fresh.not (by have := hsz.out; have := hsX; simp; omega)) _)
              obtain ⟨_, q8, f8, _⟩ := hHeld
              refine uz 11 (fun K hK => ?_)
              go_simp
              refine hK.out _ (NoPanic.normal ?_)
              try go_frame
              clear hK K
              go_wp2_with fail
              go_roundw
              case rel => exact ⟨k + 1, _, _, by omega, by go_num, hB9, hrow9', hG9⟩
              case measure => simp [intOf]; omega
            · have hltz : ¬ ((k : Int) < (n2 : Int)) := by omega
              have hkE : L2.take k = L2 := List.take_of_length_le (by rw [HL2.out]; omega)
              rw [hkE] at hrow
              obtain ⟨b2, k2, rfl, hS2⟩ := hrow.out.slF (bytes := 80) RVolume.firm (by rw [HL2.out]; exact HB2.out)
              have RI2 := RowI.of RVolume.firm hrow.out
              rw [HL2.out] at hS2 hB RI2
              have hlo2 : W3.heap.size ≤ X.heap.size := hB.out.fr hsz.out X.heap.size (Nat.le_refl _)
              have hlh2 : X.heap.size ≤ wr.heap.size := hbX.size
              have hct2 : hi1 ≤ X.heap.size := (o1.out X hG.out).2
              obtain ⟨lo2, elo2⟩ : ∃ n, n = X.heap.size := ⟨_, rfl⟩
              obtain ⟨hi2, ehi2⟩ : ∃ n, n = wr.heap.size := ⟨_, rfl⟩
              have hhi2 : hi2 ≤ wr.heap.size := Nat.le_of_eq ehi2
              rw [← elo2, ← ehi2] at RI2 hlh2
              rw [← elo2] at hlo2 hct2
              obtain ⟨G2, sG2, g2, i2, o2⟩ := Stays.addI (u := wr) sG1.out (sG1.out _ _ hG.out (Kept.below hbX)) RVolume.firm RI2 hlo2 hhi2
              have HC2 : Hid (W3.heap.size ≤ lo2 ∧ lo2 ≤ hi2 ∧ hi1 ≤ lo2) := ⟨hlo2, hlh2, hct2⟩
              clear RI2 hlo2 hlh2 hhi2 elo2 ehi2 hct2
              replace sG2 : Hid (Stays W3 G2) := sG2
              replace i2 : Hid (∀ v, G2 v → _) := i2
              replace o2 : Hid (∀ v, G2 v → _) := o2
              replace g2 : Hid (G2 wr) := g2
              have C2 : Hid (PB w wr [.slice a0 n0 m0, .slice a1 n1 m1, .slice a2 n2 m2, .slice a3 n3 m3, .slice a4 n4 m4, .slice a5 n5 m5] [.slice none 0 0, .slice none 0 0, .slice none 0 0, .slice none 0 0, .slice none 0 0, .slice none 0 0] [.slice b0 n0 k0, .slice b1 n1 k1, .slice b2 n2 k2, .slice none 0 0, .slice none 0 0, .slice none 0 0]) := hB.out.on hbX
              clear hS2 hrow hB hG hbX hBw hkE
              obtain ⟨V2, hV2⟩ : ∃ V, V = wr := ⟨_, rfl⟩
              rw [← hV2] at g2 C2 p2 pf2 ⊢
              clear hV2
              go_upto_region 14 with fail
              clear p2 pf2
              have hsV2 := C2.out.sz
              have hne0 : w.heap.size ≠ V2.heap.size := by omega
              have hne1 : w.heap.size + 1 ≠ V2.heap.size := by omega
              have hne2 : w.heap.size + 1 + 1 ≠ V2.heap.size := by omega
              have hlt0 : w.heap.size < V2.heap.size := by omega
              obtain ⟨p3, pf3⟩ := C2.out.p.2 3 _ rfl
              have HR : Hid (Row RClaim 4 (Fresh V2) V2 (V2.alloc (.cells #[] 57)) 57 (.slice (some ⟨V2.heap.size, 0, none⟩) 0 0) []) := Row.start _ _ _ _ (Below.refl _ _)
              have HN : Hid (Src RClaim 4 (fun b => Fresh V2 b ∧ Value.ownBlock (.slice (some ⟨V2.heap.size, 0, none⟩) 0 0) ≠ some b) (V2.alloc (.cells #[] 57)) a3 n3 L3) := ((S3.out.on RClaim.firm (C2.out.b.alloc (by omega) _)).src RClaim.firm).flat RClaim.flat
              have HB : Hid ((([] : List ClaimD).length + L3.length) * 56 ≤ 140737488355328) := by have h1 := HB3.out; rw [Hid, HL3.out]; simp; omega
              go_upto_region 15 with (at_builtin; go_must (refine row_appendS RClaim.firm (A := Fresh V2) (w0 := V2) rfl _ _ 42 57 rfl _ 56 inf3Claim Try.underlying42 rfl (by decide) (by decide) _ [] rfl HR.out a3 n3 m3 L3 rfl HN.out HB.out ?_); clear p3 pf3 hne0 hne1 hne2 hlt0; intro x3 v3 hr3 hg3; rw [List.nil_append] at hr3; obtain ⟨b3, k3, rfl, hS3⟩ := hr3.slF (bytes := 56) RClaim.firm (by rw [HL3.out]; exact HB3.out); have hb3 := hr3.below; have C3a := C2.out.on hb3; rw [HL3.out] at hS3 ⊢; obtain ⟨q3, qf3⟩ := C3a.q.2 3 _ rfl; have hs4 := C3a.sz)
              have RI3 := RowI.of RClaim.firm hr3
              rw [HL3.out] at RI3
              have hlo3 : W3.heap.size ≤ V2.heap.size := C2.out.fr hsz.out V2.heap.size (Nat.le_refl _)
              have hlh3 : V2.heap.size ≤ v3.heap.size := hb3.size
              have hct3 : hi2 ≤ V2.heap.size := (o2.out V2 g2.out).2
              obtain ⟨lo3, elo3⟩ : ∃ n, n = V2.heap.size := ⟨_, rfl⟩
              obtain ⟨hi3, ehi3⟩ : ∃ n, n = v3.heap.size := ⟨_, rfl⟩
              have hhi3 : hi3 ≤ v3.heap.size := Nat.le_of_eq ehi3
              rw [← elo3, ← ehi3] at RI3 hlh3
              rw [← elo3] at hlo3 hct3
              obtain ⟨G3, sG3, g3a, i3, o3⟩ := Stays.addI (u := v3) sG2.out (sG2.out _ _ g2.out (Kept.below hb3)) RClaim.firm RI3 hlo3 hhi3
              have HC3 : Hid (W3.heap.size ≤ lo3 ∧ lo3 ≤ hi3 ∧ hi2 ≤ lo3) := ⟨hlo3, hlh3, hct3⟩
              clear RI3 hlo3 hlh3 hhi3 elo3 ehi3 hct3
              replace sG3 : Hid (Stays W3 G3) := sG3
              replace i3 : Hid (∀ v, G3 v → _) := i3
              replace o3 : Hid (∀ v, G3 v → _) := o3
              obtain ⟨V3, hV3⟩ : ∃ V, V = v3.setCell ⟨w.heap.size + 1 + 1, 3, none⟩ (.slice b3 n3 k3) := ⟨_, rfl⟩
              have C3 : Hid (PB w V3 [.slice a0 n0 m0, .slice a1 n1 m1, .slice a2 n2 m2, .slice a3 n3 m3, .slice a4 n4 m4, .slice a5 n5 m5] [.slice none 0 0, .slice none 0 0, .slice none 0 0, .slice none 0 0, .slice none 0 0, .slice none 0 0] [.slice b0 n0 k0, .slice b1 n1 k1, .slice b2 n2 k2, .slice b3 n3 k3, .slice none 0 0, .slice none 0 0]) := by rw [Hid, hV3]; exact C3a.set 3 _ (by simp)
              have g3 : Hid (G3 V3) := by rw [Hid, hV3]; exact sG3.out _ _ g3a (Kept.set (Fresh.not (by have := hsz.out; simp; omega)) _)
              rw [← hV3]
              clear hV3 C3a g3a q3 qf3 hs4 hr3 hg3 HR HN HB hS3 hb3 hsV2 C2 g2
              have hsV3 := C3.out.sz
              have hne0 : w.heap.size ≠ V3.heap.size := by omega
              have hne1 : w.heap.size + 1 ≠ V3.heap.size := by omega
              have hne2 : w.heap.size + 1 + 1 ≠ V3.heap.size := by omega
              have hlt0 : w.heap.size < V3.heap.size := by omega
              obtain ⟨p4, pf4⟩ := C3.out.p.2 4 _ rfl
              have HR : Hid (Row RClass 2 (Fresh V3) V3 (V3.alloc (.cells #[] 65)) 65 (.slice (some ⟨V3.heap.size, 0, none⟩) 0 0) []) := Row.start _ _ _ _ (Below.refl _ _)
              have HN : Hid (Src RClass 2 (fun b => Fresh V3 b ∧ Value.ownBlock (.slice (some ⟨V3.heap.size, 0, none⟩) 0 0) ≠ some b) (V3.alloc (.cells #[] 65)) a4 n4 L4) := ((S4.out.on RClass.firm (C3.out.b.alloc (by omega) _)).src RClass.firm).flat RClass.flat
              have HB : Hid ((([] : List ClassD).length + L4.length) * 24 ≤ 140737488355328) := by have h1 := HB4.out; rw [Hid, HL4.out]; simp; omega
              go_upto_region 16 with (at_builtin; go_must (refine row_appendS RClass.firm (A := Fresh V3) (w0 := V3) rfl _ _ 43 65 rfl _ 24 inf3Class Try.underlying43 rfl (by decide) (by decide) _ [] rfl HR.out a4 n4 m4 L4 rfl HN.out HB.out ?_); clear p4 pf4 hne0 hne1 hne2 hlt0; intro x4 v4 hr4 hg4; rw [List.nil_append] at hr4; obtain ⟨b4, k4, rfl, hS4⟩ := hr4.slF (bytes := 24) RClass.firm (by rw [HL4.out]; exact HB4.out); have hb4 := hr4.below; have C4a := C3.out.on hb4; rw [HL4.out] at hS4 ⊢; obtain ⟨q4, qf4⟩ := C4a.q.2 4 _ rfl; have hs4 := C4a.sz)
              have RI4 := RowI.of RClass.firm hr4
              rw [HL4.out] at RI4
              have hlo4 : W3.heap.size ≤ V3.heap.size := C3.out.fr hsz.out V3.heap.size (Nat.le_refl _)
              have hlh4 : V3.heap.size ≤ v4.heap.size := hb4.size
              have hct4 : hi3 ≤ V3.heap.size := (o3.out V3 g3.out).2
              obtain ⟨lo4, elo4⟩ : ∃ n, n = V3.heap.size := ⟨_, rfl⟩
              obtain ⟨hi4, ehi4⟩ : ∃ n, n = v4.heap.size := ⟨_, rfl⟩
              have hhi4 : hi4 ≤ v4.heap.size := Nat.le_of_eq ehi4
              rw [← elo4, ← ehi4] at RI4 hlh4
              rw [← elo4] at hlo4 hct4
              obtain ⟨G4, sG4, g4a, i4, o4⟩ := Stays.addI (u := v4) sG3.out (sG3.out _ _ g3.out (Kept.below hb4)) RClass.firm RI4 hlo4 hhi4
              have HC4 : Hid (W3.heap.size ≤ lo4 ∧ lo4 ≤ hi4 ∧ hi3 ≤ lo4) := ⟨hlo4, hlh4, hct4⟩
              clear RI4 hlo4 hlh4 hhi4 elo4 ehi4 hct4
              replace sG4 : Hid (Stays W3 G4) := sG4
              replace i4 : Hid (∀ v, G4 v → _) := i4
              replace o4 : Hid (∀ v, G4 v → _) := o4
              obtain ⟨V4, hV4⟩ : ∃ V, V = v4.setCell ⟨w.heap.size + 1 + 1, 4, none⟩ (.slice b4 n4 k4) := ⟨_, rfl⟩
              have C4 : Hid (PB w V4 [.slice a0 n0 m0, .slice a1 n1 m1, .slice a2 n2 m2, .slice a3 n3 m3, .slice a4 n4 m4, .slice a5 n5 m5] [.slice none 0 0, .slice none 0 0, .slice none 0 0, .slice none 0 0, .slice none 0 0, .slice none 0 0] [.slice b0 n0 k0, .slice b1 n1 k1, .slice b2 n2 k2, .slice b3 n3 k3, .slice b4 n4 k4, .slice none 0 0]) := by rw [Hid, hV4]; exact C4a.set 4 _ (by simp)
              have g4 : Hid (G4 V4) := by rw [Hid, hV4]; exact sG4.out _ _ g4a (Kept.set (Fresh.not (by have := hsz.out; simp; omega)) _)
              rw [← hV4]
              clear hV4 C4a g4a q4 qf4 hs4 hr4 hg4 HR HN HB hS4 hb4 hsV3 C3 g3
              go_wp2_with fail
              have HR5 : Hid (Row RBudget 3 (Fresh V4) V4 V4 95 (.slice none 0 0) (L5.take 0)) := Row.nil _ _ _
              go_loopw [7] (fun i wr => ∃ (k : Nat) (X : World) (v : Value), k ≤ n5 ∧ i = .int .i64 k ∧ Hid (PB w X [.slice a0 n0 m0, .slice a1 n1 m1, .slice a2 n2 m2, .slice a3 n3 m3, .slice a4 n4 m4, .slice a5 n5 m5] [.slice none 0 0, .slice none 0 0, .slice none 0 0, .slice none 0 0, .slice none 0 0, .slice none 0 0] [.slice b0 n0 k0, .slice b1 n1 k1, .slice b2 n2 k2, .slice b3 n3 k3, .slice b4 n4 k4, v]) ∧ Hid (Row RBudget 3 (Fresh X) X wr 95 v (L5.take k)) ∧ Hid (G4 X)) (fun i _ => n5 - (intOf i).toNat)
              case atStart => exact ⟨0, _, _, Nat.zero_le _, rfl, C4, HR5, g4⟩
              case round =>
                obtain ⟨k, X, v, hk, rfl, hB, hrow, hG⟩ := hrel
                clear HR5 C4 g4
                have hbX : Below X.heap.size X wr := hrow.out.below
                have hBw := hB.out.on hbX
                obtain ⟨p5, pf5⟩ := hBw.p.2 5 _ rfl
                by_cases hlt : k < n5
                · have hltz : (k : Int) < (n5 : Int) := by omega
                  have hkl : Hid (k < L5.length) := by rw [Hid, HL5.out]; exact hlt
                  obtain ⟨B, off, rfl, hD, _, c, hr, hv⟩ := S5.out.get hlt
                  have hic := info_of iszBudget (RBudget.firm.len hr)
                  have HT : Hid (L5.take k ++ [L5.getD k default] = L5.take (k + 1)) := take_at hkl.out
                  have HS : Hid (∀ u, Below X.heap.size X u → StS w 5 (.slice (some ⟨B, off, none⟩) n5 m5) v B (off + k * 3) c u) := fun u hb => ⟨((hB.out.on hb).p.2 5 _ rfl).1, ((hB.out.on hb).q.2 5 _ rfl).1, ((hB.out.on hb).q.2 5 _ rfl).2, range_on hv (hB.out.on hb).b hD⟩
                  have HC := Budget_copy c A (L5.getD k default) wr.drew (RBudget.firm.kept hr (Kept.below hBw.b.drew))
                  have HLb : Hid (((L5.take k).length + 1) * 48 ≤ 140737488355328) := by
                    have := bytes_le HB5.out hlt
                    rw [Hid, List.length_take, HL5.out, Nat.min_eq_left (by omega)]
                    exact this
                  have hsX := hB.out.sz
                  obtain ⟨i0, hi0, hz0, hzs, _⟩ := info_parts inf3Budget
                  clear hr hv hBw
                  generalize L5.getD k default = y at HT HC
                  go_wp2_with fail
                  refine u0 11 (StS w 5 (.slice (some ⟨B, off, none⟩) n5 m5) v B (off + k * 3) c) (HS.out _ hbX.drew) (fun hHeld => ?_)
                  refine' uk 0 ?_ ?_; rotate_left
                  · intro u ⟨_, _, _, _⟩; go_simp; try with_reducible rfl
                  try go_frame
                  refine' uk 1 ?_ ?_; rotate_left
                  · intro u ⟨_, _, _, _⟩; go_simp; try with_reducible rfl
                  try go_frame
                  refine' uk 2 ?_ ?_; rotate_left
                  · intro u ⟨_, _, _, _⟩; go_simp; try with_reducible rfl
                  try go_frame
                  refine' uk 3 ?_ ?_; rotate_left
                  · intro u ⟨_, _, _, _⟩; go_simp; try with_reducible rfl
                  try go_frame
                  refine' uk 4 ?_ ?_; rotate_left
                  · intro u ⟨_, _, _, _⟩; go_simp; try with_reducible rfl
                  try go_frame
                  refine' uk 5 ?_ ?_; rotate_left
                  · intro u ⟨_, _, _, _⟩; go_simp; try with_reducible rfl
                  try go_frame
                  refine uq 6 (.agg c.toArray) (yieldsIf_load_mid (by rfl) 95 _ rfl B (off + k * 3) rfl c _ (fun u hu => hu.2.2.2) Try.underlying95 rfl hic) ?_ (hi := rfl)
                  try go_frame
                  refine ur 7 (fun K hK => ?_)
                  go_simp
                  refine HC.mono ?_
                  rintro e w5 ⟨c5, rfl, hS5, hb5⟩
                  have hbX5 := on2 hbX.drew hb5
                  go_wp2_with fail
                  refine hK.out _ _ (HS.out _ hbX5) (fun hHeld2 => ?_)
                  clear hK K hHeld; have hHeld := hHeld2; clear hHeld2
                  try go_frame
                  have hb6 : Below wr.heap.size wr (w5.alloc (.cells c5.toArray 95)) := ((Below.refl _ wr).drew.trans (hb5.mono (Nat.le_refl _))).alloc hb5.size _
                  have HR6 := hrow.out.on RBudget.firm hb6
                  have HE : RBudget (fun b => Fresh X b ∧ Value.ownBlock v ≠ some b) (w5.alloc (.cells c5.toArray 95)) c5 y := RBudget.firm.weak (RBudget.firm.kept hS5 (Kept.alloc _ _ _)) (fun b _ hb => hrow.out.apart (u' := wr.drew) (Nat.le_refl _) b hb)
                  have HCh := chunk_one RBudget.firm HE
                  have HX := one_cells w5 c5 95
                  have h1c := RBudget.firm.one HE
                  refine ur 8 (fun K hK => ?_)
                  refine want_yes (by rfl) (wp_buildSlice 44 95 1 _ rfl c5.toArray i0 _ Try.underlying44 hi0 hz0 (by rw [hzs]; decide) (by rw [hzs]; decide) (by rw [hzs]; simp only [List.map_toArray]; exact fsBudget hS5) ?_)
                  refine hK.out _ _ (HS.out _ (on2 hbX hb6)) (fun hHeld2 => ?_)
                  clear hK K hHeld; have hHeld := hHeld2; clear hHeld2
                  try go_frame
                  refine ur 9 (fun K hK => ?_)
                  refine row_append_wp RBudget.firm (A := Fresh X) (w0 := X) _ _ 44 95 rfl _ 48 inf3Budget Try.underlying44 rfl (by decide) (by decide) v (L5.take k) rfl HR6 ⟨w5.heap.size, 0, none⟩ 1 1 _ [y] rfl rfl HCh HX h1c HLb.out ?_
                  intro v9 w9 hrow9 hg9
                  rw [HT.out] at hrow9
                  obtain ⟨e9, c9, rfl, _⟩ := hrow9.slF (bytes := 48) RBudget.firm (Nat.le_trans (Nat.mul_le_mul_right 48 (by rw [List.length_take, HL5.out]; omega)) HB5.out)
                  generalize (L5.take (k + 1)).length = l9 at hrow9 ⊢
                  refine hK.out _ _ (HS.out _ hrow9.below) (fun hHeld2 => ?_)
                  clear hK K hHeld; have hHeld := hHeld2; clear hHeld2
                  try go_frame
                  refine' uk 10 ?_ ?_; rotate_left
                  · intro u ⟨_, _, _, _⟩; go_simp; try with_reducible rfl
                  try go_frame
                  have hrow9' : Hid (Row RBudget 3 (Fresh (X.setCell ⟨w.heap.size + 1 + 1, 5, none⟩ (.slice e9 l9 c9))) (X.setCell ⟨w.heap.size + 1 + 1, 5, none⟩ (.slice e9 l9 c9)) (w9.setCell ⟨w.heap.size + 1 + 1, 5, none⟩ (.slice e9 l9 c9)) 95 (.slice e9 l9 c9) (L5.take (k + 1))) := hrow9.bothF RBudget.firm hsX _
                  have hB9 : Hid (PB w (X.setCell ⟨w.heap.size + 1 + 1, 5, none⟩ (.slice e9 l9 c9)) [.slice a0 n0 m0, .slice a1 n1 m1, .slice a2 n2 m2, .slice a3 n3 m3, .slice a4 n4 m4, .slice (some ⟨B, off, none⟩) n5 m5] [.slice none 0 0, .slice none 0 0, .slice none 0 0, .slice none 0 0, .slice none 0 0, .slice none 0 0] [.slice b0 n0 k0, .slice b1 n1 k1, .slice b2 n2 k2, .slice b3 n3 k3, .slice b4 n4 k4, .slice e9 l9 c9]) := hB.out.set 5 _ (by simp)
                  have hG9 : Hid (G4 (X.setCell ⟨w.heap.size + 1 + 1, 5, none⟩ (.slice e9 l9 c9))) := sG4.out _ _ hG.out (Kept.set (Fresh.not (by have := hsz.out; have := hsX; simp; omega)) _)
                  obtain ⟨_, q8, f8, _⟩ := hHeld
                  refine uz 11 (fun K hK => ?_)
                  go_simp
                  refine hK.out _ (NoPanic.normal ?_)
                  try go_frame
                  clear hK K
                  go_wp2_with fail
                  go_roundw
                  case rel => exact ⟨k + 1, _, _, by omega, by go_num, hB9, hrow9', hG9⟩
                  case measure => simp [intOf]; omega
                · have hltz : ¬ ((k : Int) < (n5 : Int)) := by omega
                  have hkE : L5.take k = L5 := List.take_of_length_le (by rw [HL5.out]; omega)
                  rw [hkE] at hrow
                  obtain ⟨b5, k5, rfl, hS5⟩ := hrow.out.slF (bytes := 48) RBudget.firm (by rw [HL5.out]; exact HB5.out)
                  have RI5 := RowI.of RBudget.firm hrow.out
                  rw [HL5.out] at hS5 hB RI5
                  have hlo5 : W3.heap.size ≤ X.heap.size := hB.out.fr hsz.out X.heap.size (Nat.le_refl _)
                  have hlh5 : X.heap.size ≤ wr.heap.size := hbX.size
                  have hct5 : hi4 ≤ X.heap.size := (o4.out X hG.out).2
                  obtain ⟨lo5, elo5⟩ : ∃ n, n = X.heap.size := ⟨_, rfl⟩
                  obtain ⟨hi5, ehi5⟩ : ∃ n, n = wr.heap.size := ⟨_, rfl⟩
                  have hhi5 : hi5 ≤ wr.heap.size := Nat.le_of_eq ehi5
                  rw [← elo5, ← ehi5] at RI5 hlh5
                  rw [← elo5] at hlo5 hct5
                  obtain ⟨G5, sG5, g5, i5, o5⟩ := Stays.addI (u := wr) sG4.out (sG4.out _ _ hG.out (Kept.below hbX)) RBudget.firm RI5 hlo5 hhi5
                  have HC5 : Hid (W3.heap.size ≤ lo5 ∧ lo5 ≤ hi5 ∧ hi4 ≤ lo5) := ⟨hlo5, hlh5, hct5⟩
                  clear RI5 hlo5 hlh5 hhi5 elo5 ehi5 hct5
                  replace sG5 : Hid (Stays W3 G5) := sG5
                  replace i5 : Hid (∀ v, G5 v → _) := i5
                  replace o5 : Hid (∀ v, G5 v → _) := o5
                  replace g5 : Hid (G5 wr) := g5
                  have C5 : Hid (PB w wr [.slice a0 n0 m0, .slice a1 n1 m1, .slice a2 n2 m2, .slice a3 n3 m3, .slice a4 n4 m4, .slice a5 n5 m5] [.slice none 0 0, .slice none 0 0, .slice none 0 0, .slice none 0 0, .slice none 0 0, .slice none 0 0] [.slice b0 n0 k0, .slice b1 n1 k1, .slice b2 n2 k2, .slice b3 n3 k3, .slice b4 n4 k4, .slice b5 n5 k5]) := hB.out.on hbX
                  clear hS5 hrow hB hG hbX hBw hkE
                  obtain ⟨V5, hV5⟩ : ∃ V, V = wr := ⟨_, rfl⟩
                  rw [← hV5] at g5 C5 p5 pf5 ⊢
                  clear hV5
                  have HK : Hid (∀ u, Kept (Fresh W3) V5 u → RState (Fresh w) u [.slice b0 n0 k0, .slice b1 n1 k1, .slice b2 n2 k2, .slice b3 n3 k3, .slice b4 n4 k4, .slice b5 n5 k5] (L0, L1, L2, L3, L4, L5) ∧ StO w u lo0 lo1 lo2 lo3 lo4 lo5 hi0 hi1 hi2 hi3 hi4 hi5 (.slice b0 n0 k0) (.slice b1 n1 k1) (.slice b2 n2 k2) (.slice b3 n3 k3) (.slice b4 n4 k4) (.slice b5 n5 k5) (L0, L1, L2, L3, L4, L5) ∧ hi5 ≤ u.heap.size) := fun u hk => by
                    have G5v := sG5.out _ _ g5.out hk
                    have G4v := i5.out _ G5v
                    have G3v := i4.out _ G4v
                    have G2v := i3.out _ G3v
                    have G1v := i2.out _ G2v
                    have G0v := i1.out _ G1v
                    obtain ⟨b0', k0', e0, sl0⟩ := (o0.out _ G0v).1.sl (bytes := 296) RPod.firm (by rw [HL0.out]; exact HB0.out)
                    rw [HL0.out] at e0 sl0
                    obtain ⟨rfl, rfl⟩ : b0 = b0' ∧ k0 = k0' := by simpa using e0
                    obtain ⟨b1', k1', e1, sl1⟩ := (o1.out _ G1v).1.sl (bytes := 112) RNode.firm (by rw [HL1.out]; exact HB1.out)
                    rw [HL1.out] at e1 sl1
                    obtain ⟨rfl, rfl⟩ : b1 = b1' ∧ k1 = k1' := by simpa using e1
                    obtain ⟨b2', k2', e2, sl2⟩ := (o2.out _ G2v).1.sl (bytes := 80) RVolume.firm (by rw [HL2.out]; exact HB2.out)
                    rw [HL2.out] at e2 sl2
                    obtain ⟨rfl, rfl⟩ : b2 = b2' ∧ k2 = k2' := by simpa using e2
                    obtain ⟨b3', k3', e3, sl3⟩ := (o3.out _ G3v).1.sl (bytes := 56) RClaim.firm (by rw [HL3.out]; exact HB3.out)
                    rw [HL3.out] at e3 sl3
                    obtain ⟨rfl, rfl⟩ : b3 = b3' ∧ k3 = k3' := by simpa using e3
                    obtain ⟨b4', k4', e4, sl4⟩ := (o4.out _ G4v).1.sl (bytes := 24) RClass.firm (by rw [HL4.out]; exact HB4.out)
                    rw [HL4.out] at e4 sl4
                    obtain ⟨rfl, rfl⟩ : b4 = b4' ∧ k4 = k4' := by simpa using e4
                    obtain ⟨b5', k5', e5, sl5⟩ := (o5.out _ G5v).1.sl (bytes := 48) RBudget.firm (by rw [HL5.out]; exact HB5.out)
                    rw [HL5.out] at e5 sl5
                    obtain ⟨rfl, rfl⟩ : b5 = b5' ∧ k5 = k5' := by simpa using e5
                    have x0 := HC0.out; have x1 := HC1.out; have x2 := HC2.out; have x3 := HC3.out; have x4 := HC4.out; have x5 := HC5.out; have xs := hsz.out
                    exact ⟨RState.mk (x := (L0, L1, L2, L3, L4, L5)) (h0 := (b0, n0, k0)) (h1 := (b1, n1, k1)) (h2 := (b2, n2, k2)) (h3 := (b3, n3, k3)) (h4 := (b4, n4, k4)) (h5 := (b5, n5, k5)) (sl0.weak RPod.firm (fun b _ hb => show w.heap.size ≤ b by have hb1 : lo0 ≤ b := hb.1; omega)) (sl1.weak RNode.firm (fun b _ hb => show w.heap.size ≤ b by have hb1 : lo1 ≤ b := hb.1; omega)) (sl2.weak RVolume.firm (fun b _ hb => show w.heap.size ≤ b by have hb1 : lo2 ≤ b := hb.1; omega)) (sl3.weak RClaim.firm (fun b _ hb => show w.heap.size ≤ b by have hb1 : lo3 ≤ b := hb.1; omega)) (sl4.weak RClass.firm (fun b _ hb => show w.heap.size ≤ b by have hb1 : lo4 ≤ b := hb.1; omega)) (sl5.weak RBudget.firm (fun b _ hb => show w.heap.size ≤ b by have hb1 : lo5 ≤ b := hb.1; omega)), ⟨by omega, by omega, (o0.out _ G0v).1, (o1.out _ G1v).1, (o2.out _ G2v).1, (o3.out _ G3v).1, (o4.out _ G4v).1, (o5.out _ G5v).1⟩, (o5.out _ G5v).2⟩
                  have HI : Hid ((Try.prog.info? 46).map (·.size) = some ([.slice b0 n0 k0, .slice b1 n1 k1, .slice b2 n2 k2, .slice b3 n3 k3, .slice b4 n4 k4, .slice b5 n5 k5] : List Value).length) := infoSta
                  have H1 : Hid ((([.slice b0 n0 k0, .slice b1 n1 k1, .slice b2 n2 k2, .slice b3 n3 k3, .slice b4 n4 k4, .slice b5 n5 k5] : List Value).toArray).all (·.oneCell') = true) := all_oneCell_toArray (RState.firm.one (HK.out _ (Kept.refl _ _)).1)
                  obtain ⟨fs, hfs⟩ : ∃ fs : List Value, fs = [.slice b0 n0 k0, .slice b1 n1 k1, .slice b2 n2 k2, .slice b3 n3 k3, .slice b4 n4 k4, .slice b5 n5 k5] := ⟨_, rfl⟩
                  rw [← hfs] at C5 HI H1
                  have hfl : fs.length = 6 := by rw [hfs]; rfl
                  have HFS : Hid (fs = [.slice b0 n0 k0, .slice b1 n1 k1, .slice b2 n2 k2, .slice b3 n3 k3, .slice b4 n4 k4, .slice b5 n5 k5]) := hfs
                  clear hfs
                  have HQ : Hid (V5.rangeAt (w.heap.size + 1 + 1) 0 fs) := C5.out.q.range
                  have HZ : Hid (V5.there (w.heap.size + 1) 0 fs.toArray.size) := by have e : fs.toArray.size = 6 := (by simp [hfl]); rw [Hid, e]; exact C5.out.z.there
                  have HRG : Hid ((V5.setCells (w.heap.size + 1) 0 fs).rangeAt (w.heap.size + 1) 0 fs) := World.rangeAt_setCells_same _ _ _ _ (by have e : fs.toArray.size = fs.length := (by simp); have := HZ.out; rwa [e] at this)
                  have HE := HK.out _ (kept_setCells (b := w.heap.size + 1) (o := 0) (vs := fs) (Fresh.not (by have := hsz.out; omega)))
                  have HE2 : Hid (StOut w (L0, L1, L2, L3, L4, L5) (.returned (.agg fs.toArray)) (V5.setCells (w.heap.size + 1) 0 fs)) := ⟨lo0, lo1, lo2, lo3, lo4, lo5, hi0, hi1, hi2, hi3, hi4, hi5, _, _, _, _, _, _, by rw [HFS.out], HE.2.1, HE.2.2, HE.1, below_setCells C5.out.b (by omega)⟩
                  have HBw : Hid (Below w.heap.size w (V5.setCells (w.heap.size + 1) 0 fs)) := below_setCells C5.out.b (by omega)
                  have HSZ : Hid (fs.length = fs.toArray.size) := by simp [Hid]
                  clear C5 HK hfl g5 HE HFS
                  go_wp2_with (first | (refine wpList_load_mid rfl 46 _ rfl (w.heap.size + 1 + 1) 0 rfl fs _ HQ.out Try.underlying46 rfl HI.out ?_) | (refine wpList_store_mid rfl 46 _ _ rfl (w.heap.size + 1) 0 fs.toArray rfl rfl HZ.out (HSZ.out ▸ HI.out) H1.out ?_) | fail)
                  refine bodyPost_ret (v := .agg fs.toArray) (res_cell (p := 2) (ty := 46) rfl _ _ (w.heap.size + 1) fs _ rfl HRG.out Try.underlying46 rfl HI.out) rfl HE2.out
end Go.Proofs.Ytgofpmcoffgffaa
