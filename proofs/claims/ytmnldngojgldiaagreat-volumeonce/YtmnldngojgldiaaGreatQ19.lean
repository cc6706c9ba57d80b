/- give: the two become each other's, if the claim may get the volume. Condition: the two lie as is said of them, in blocks of their own. volume.Apply: the picks are applied, in rows of its own. Conditions: the state and the picks lie as is said of them. What Apply and Undo hand back lies as a state does. Plain facts. No condition. -/
import Derived.Test.YtmnldngojgldiaaGreatQ15
import Derived.Test.YtmnldngojgldiaaGreatQ09
import Derived.Test.YtmnldngojgldiaaGreatQ18
namespace Go.Proofs.YtmnldngojgldiaaGreat
open Go.RowKit Go.Maps
set_option linter.unusedSimpArgs false
set_option maxRecDepth 100000

theorem frozen_blk10 {u z : World} {B i : Nat} (h : z.heap[B]? = u.heap[B]?) : z.frozen? ⟨B, i, none⟩ = u.frozen? ⟨B, i, none⟩ := by
  unfold World.frozen?
  simp only [h]
/-- What give hands back: the claim lies at Bc oc, the volume at Bv ov. -/
def GvOut (u : World) (Bc oc Bv ov : Nat) (c : ClaimD) (v : VolumeD) (e : Ending) (u' : World) : Prop :=
  ∃ z, Below u.heap.size u z ∧ ((okA c v = false ∧ e = .returned (.bool false) ∧ u' = z) ∨ (okA c v = true ∧ e = .returned (.bool true) ∧ u' = (z.setCell ⟨Bc, oc + 3, none⟩ (.string v.1)).setCell ⟨Bv, ov + 4, none⟩ (.string c.1)))
theorem okA_split (c : ClaimD) (v : VolumeD) : okA c v = (sEq (cVo c) B0 && (sEq (vCl v) B0 && suitP c v)) := by
  unfold okA suitP
  have : (!decide (v.2.1 < c.2.1)) = decide (c.2.1 ≤ v.2.1) := by
    by_cases h : v.2.1 < c.2.1 <;> simp [h] <;> omega
  rw [this]
set_option maxHeartbeats 16000000 in
theorem give_calls (Bc oc Bv ov : Nat) (cs : List Value) (A : Where) (c : ClaimD) (vs : List Value) (A' : Where) (v : VolumeD) (u : World) (hc : RClaim A u cs c) (hv : RVolume A' u vs v) (rc : u.rangeAt Bc oc cs) (rv : u.rangeAt Bv ov vs) (hBc : Bc < u.heap.size) (hBv : Bv < u.heap.size) (hne : Bc ≠ Bv) (fc : u.frozen? ⟨Bc, oc + 3, none⟩ = false) (fv : u.frozen? ⟨Bv, ov + 4, none⟩ = false) :
    Calls Tryz.prog 17 #[.pointer (some ⟨Bc, oc, none⟩), .pointer (some ⟨Bv, ov, none⟩)] u (GvOut u Bc oc Bv ov c v) := by
  have hlc := RClaim.firm.len hc
  have hlv := RVolume.firm.len hv
  have hic : (Tryz.prog.info? 44).map (·.size) = some cs.length := by rw [hlc]; exact iszClaim
  have hiv : (Tryz.prog.info? 49).map (·.size) = some vs.length := by rw [hlv]; exact iszVolume
  obtain ⟨e0, _, _, e3, _⟩ := hc.all10
  obtain ⟨y0, _, _, _, y4⟩ := hv.all10
  have HR : Hid (∀ z, Below u.heap.size u z → z.rangeAt Bc oc cs ∧ z.rangeAt Bv ov vs) := fun z hb => ⟨fun j w hj => (hb.cell hBc).trans (rc j w hj), fun j w hj => (hb.cell hBv).trans (rv j w hj)⟩
  have HC : Hid (∀ z, Below u.heap.size u z → RClaim A z cs c ∧ RVolume A' z vs v) := fun z hb => ⟨RClaim.firm.kept hc (Kept.below hb), RVolume.firm.kept hv (Kept.below hb)⟩
  have HF : Hid (∀ z, Below u.heap.size u z → z.cell? ⟨Bc, oc, none⟩ = some (.string c.1) ∧ z.cell? ⟨Bv, ov, none⟩ = some (.string v.1) ∧ z.cell? ⟨Bc, oc + 3, none⟩ = some (.string (cVo c)) ∧ z.cell? ⟨Bv, ov + 4, none⟩ = some (.string (vCl v)) ∧ z.frozen? ⟨Bc, oc + 3, none⟩ = false ∧ z.frozen? ⟨Bv, ov + 4, none⟩ = false ∧ Bc < z.heap.size ∧ Bv < z.heap.size) := fun z hb => by
    obtain ⟨h1, h2⟩ := HR.out z hb
    refine ⟨by have := h1 0 _ e0; simpa using this, by have := h2 0 _ y0; simpa using this, h1 3 _ e3, h2 4 _ y4, ?_, ?_, Nat.lt_of_lt_of_le hBc hb.size, Nat.lt_of_lt_of_le hBv hb.size⟩
    · rw [frozen_blk10 (hb.block Bc hBc)]; exact fc
    · rw [frozen_blk10 (hb.block Bv hBv)]; exact fv
  have Hok : Hid (okA c v = (sEq (cVo c) B0 && (sEq (vCl v) B0 && suitP c v))) := okA_split c v
  have HCh : Hid (∀ z, Below u.heap.size u z → Calls Tryz.prog 30 #[.agg cs.toArray] z fun e w' => e = .returned (.bool (!sEq (cVo c) B0)) ∧ Below z.heap.size z w') := fun z hb => hasVolume_calls cs _ c z (HC.out z hb).1
  have HCf : Hid (∀ z, Below u.heap.size u z → Calls Tryz.prog 33 #[.agg vs.toArray] z fun e w' => e = .returned (.bool (sEq (vCl v) B0)) ∧ Below z.heap.size z w') := fun z hb => isFree_calls vs _ v z (HC.out z hb).2
  have HCs : Hid (∀ z, Below u.heap.size u z → Calls Tryz.prog 39 #[.agg vs.toArray, .agg cs.toArray] z fun e w' => e = .returned (.bool (suitP c v)) ∧ Below z.heap.size z w') := fun z hb => suits_calls vs _ v cs _ c z (HC.out z hb).2 (HC.out z hb).1
  clear hc hv rc rv fc fv e0 e3 y0 y4 HC
  generalize sEq (cVo c) B0 = p1 at Hok HCh
  generalize sEq (vCl v) B0 = p2 at Hok HCf
  generalize suitP c v = p3 at Hok HCs
  go_enter Tryz.func17, Tryz.ntmps17
  go_upto_region 1 with fail
  refine t0 (fun z => Below u.heap.size u z) (Below.refl _ _).drew (fun hHeld => ?_)
  generalize hwd : u.drew = wd at hHeld ⊢
  clear hwd
  try go_frame
  refine' tk 0 ?_ ?_; rotate_left
  · intro u hu; clear hu; go_simp; try with_reducible rfl
  try go_frame
  refine' tk 1 ?_ ?_; rotate_left
  · intro u hu; clear hu; go_simp; try with_reducible rfl
  try go_frame
  refine tq 2 (.agg cs.toArray) (yieldsIf_load_mid (by rfl) 44 _ rfl Bc oc rfl cs _ (fun z hz => (HR.out z hz).1) Tryz.underlying44 rfl hic) ?_ (hi := rfl)
  try go_frame
  refine tr 3 (fun K hK => ?_)
  go_simp
  refine (HCh.out _ hHeld).mono ?_
  rintro e w3 ⟨rfl, d3⟩
  have b3 := on2 hHeld d3
  go_wp2_with fail
  refine hK.out _ _ b3 (fun hHeld2 => ?_)
  clear hK K hHeld; have hHeld := hHeld2; clear hHeld2
  try go_frame
  cases p1 with
  | false =>
    refine' tk 4 ?_ ?_; rotate_left
    · intro u hu; clear hu; go_simp; try with_reducible rfl
    try go_frame
    refine tn 5 ?_
    try go_frame
    refine tn 6 ?_
    try go_frame
    refine tn 7 ?_
    try go_frame
    refine tn 8 ?_
    try go_frame
    refine tn 9 ?_
    try go_frame
    refine' tk 10 ?_ ?_; rotate_left
    · intro u hu; clear hu; go_simp; try with_reducible rfl
    try go_frame
    refine' tk 11 ?_ ?_; rotate_left
    · intro u hu; clear hu; go_simp; try with_reducible rfl
    try go_frame
    refine tn 12 ?_
    try go_frame
    refine tn 13 ?_
    try go_frame
    refine tn 14 ?_
    try go_frame
    refine tn 15 ?_
    try go_frame
    refine tn 16 ?_
    try go_frame
    refine tn 17 ?_
    try go_frame
    refine tn 18 ?_
    try go_frame
    refine tn 19 ?_
    try go_frame
    refine' tk 20 ?_ ?_; rotate_left
    · intro u hu; clear hu; go_simp; try with_reducible rfl
    try go_frame
    refine tz ?_
    have HE : Hid (okA c v = false ∧ Below u.heap.size u w3) := ⟨by rw [Hok.out]; simp, hHeld⟩
    clear Hok HCh HCf HCs HR HF hHeld
    go_wp2_with fail
    go_ret
    exact ⟨_, HE.out.2, .inl ⟨HE.out.1, rfl, rfl⟩⟩
  | true =>
    refine' tk 4 ?_ ?_; rotate_left
    · intro u hu; clear hu; go_simp; try with_reducible rfl
    try go_frame
    refine' tk 5 ?_ ?_; rotate_left
    · intro u hu; clear hu; go_simp; try with_reducible rfl
    try go_frame
    refine' tk 6 ?_ ?_; rotate_left
    · intro u hu; clear hu; go_simp; try with_reducible rfl
    try go_frame
    refine tq 7 (.agg vs.toArray) (yieldsIf_load_mid (by rfl) 49 _ rfl Bv ov rfl vs _ (fun z hz => (HR.out z hz).2) Tryz.underlying49 rfl hiv) ?_ (hi := rfl)
    try go_frame
    refine tr 8 (fun K hK => ?_)
    go_simp
    refine (HCf.out _ hHeld).mono ?_
    rintro e w8 ⟨rfl, d8⟩
    have b8 := on2 hHeld d8
    go_wp2_with fail
    refine hK.out _ _ b8 (fun hHeld2 => ?_)
    clear hK K hHeld; have hHeld := hHeld2; clear hHeld2
    try go_frame
    cases p2 with
    | false =>
      refine' tk 9 ?_ ?_; rotate_left
      · intro u hu; clear hu; go_simp; try with_reducible rfl
      try go_frame
      refine' tk 10 ?_ ?_; rotate_left
      · intro u hu; clear hu; go_simp; try with_reducible rfl
      try go_frame
      refine' tk 11 ?_ ?_; rotate_left
      · intro u hu; clear hu; go_simp; try with_reducible rfl
      try go_frame
      refine tn 12 ?_
      try go_frame
      refine tn 13 ?_
      try go_frame
      refine tn 14 ?_
      try go_frame
      refine tn 15 ?_
      try go_frame
      refine tn 16 ?_
      try go_frame
      refine tn 17 ?_
      try go_frame
      refine tn 18 ?_
      try go_frame
      refine tn 19 ?_
      try go_frame
      refine' tk 20 ?_ ?_; rotate_left
      · intro u hu; clear hu; go_simp; try with_reducible rfl
      try go_frame
      refine tz ?_
      have HE : Hid (okA c v = false ∧ Below u.heap.size u w8) := ⟨by rw [Hok.out]; simp, hHeld⟩
      clear Hok HCh HCf HCs HR HF hHeld
      go_wp2_with fail
      go_ret
      exact ⟨_, HE.out.2, .inl ⟨HE.out.1, rfl, rfl⟩⟩
    | true =>
      refine' tk 9 ?_ ?_; rotate_left
      · intro u hu; clear hu; go_simp; try with_reducible rfl
      try go_frame
      refine' tk 10 ?_ ?_; rotate_left
      · intro u hu; clear hu; go_simp; try with_reducible rfl
      try go_frame
      refine' tk 11 ?_ ?_; rotate_left
      · intro u hu; clear hu; go_simp; try with_reducible rfl
      try go_frame
      refine' tk 12 ?_ ?_; rotate_left
      · intro u hu; clear hu; go_simp; try with_reducible rfl
      try go_frame
      refine' tk 13 ?_ ?_; rotate_left
      · intro u hu; clear hu; go_simp; try with_reducible rfl
      try go_frame
      refine tq 14 (.agg vs.toArray) (yieldsIf_load_mid (by rfl) 49 _ rfl Bv ov rfl vs _ (fun z hz => (HR.out z hz).2) Tryz.underlying49 rfl hiv) ?_ (hi := rfl)
      try go_frame
      refine' tk 15 ?_ ?_; rotate_left
      · intro u hu; clear hu; go_simp; try with_reducible rfl
      try go_frame
      refine' tk 16 ?_ ?_; rotate_left
      · intro u hu; clear hu; go_simp; try with_reducible rfl
      try go_frame
      refine tq 17 (.agg cs.toArray) (yieldsIf_load_mid (by rfl) 44 _ rfl Bc oc rfl cs _ (fun z hz => (HR.out z hz).1) Tryz.underlying44 rfl hic) ?_ (hi := rfl)
      try go_frame
      refine tr 18 (fun K hK => ?_)
      go_simp
      refine (HCs.out _ hHeld).mono ?_
      rintro e w18 ⟨rfl, d18⟩
      have b18 := on2 hHeld d18
      go_wp2_with fail
      refine hK.out _ _ b18 (fun hHeld2 => ?_)
      clear hK K hHeld; have hHeld := hHeld2; clear hHeld2
      try go_frame
      cases p3 with
      | false =>
        refine' tk 19 ?_ ?_; rotate_left
        · intro u hu; clear hu; go_simp; try with_reducible rfl
        try go_frame
        refine' tk 20 ?_ ?_; rotate_left
        · intro u hu; clear hu; go_simp; try with_reducible rfl
        try go_frame
        refine tz ?_
        have HE : Hid (okA c v = false ∧ Below u.heap.size u w18) := ⟨by rw [Hok.out]; simp, hHeld⟩
        clear Hok HCh HCf HCs HR HF hHeld
        go_wp2_with fail
        go_ret
        exact ⟨_, HE.out.2, .inl ⟨HE.out.1, rfl, rfl⟩⟩
      | true =>
        refine' tk 19 ?_ ?_; rotate_left
        · intro u hu; clear hu; go_simp; try with_reducible rfl
        try go_frame
        refine' tk 20 ?_ ?_; rotate_left
        · intro u hu; clear hu; go_simp; try with_reducible rfl
        try go_frame
        refine tz ?_
        have HE : Hid (okA c v = true) := by rw [Hid, Hok.out]; rfl
        have Hb : Hid (Below u.heap.size u w18) := hHeld
        clear Hok HCh HCf HCs HR hHeld b3 d3 b8 d8 b18 d18
        go_upto_region 3 with fail
        have bD : Below u.heap.size u w18.drew := Hb.out.drew
        obtain ⟨g1, g2, g3, g4, g5, g6, g7, g8⟩ := HF.out _ bD
        refine t0 (fun z => z.cell? ⟨Bc, oc, none⟩ = some (.string c.1) ∧ z.cell? ⟨Bv, ov, none⟩ = some (.string v.1)) ⟨g1, g2⟩ (fun hHeld => ?_)
        generalize hwe : w18.drew = we at *
        clear hwe
        try go_frame
        refine' tk 0 ?_ ?_; rotate_left
        · intro u hu; have f1 := hu.1; have f2 := hu.2; clear hu; go_simp; try with_reducible rfl
        try go_frame
        refine' tk 1 ?_ ?_; rotate_left
        · intro u hu; have f1 := hu.1; have f2 := hu.2; clear hu; go_simp; try with_reducible rfl
        try go_frame
        refine' tk 2 ?_ ?_; rotate_left
        · intro u hu; have f1 := hu.1; have f2 := hu.2; clear hu; go_simp; try with_reducible rfl
        try go_frame
        refine' tk 3 ?_ ?_; rotate_left
        · intro u hu; have f1 := hu.1; have f2 := hu.2; clear hu; go_simp; try with_reducible rfl
        try go_frame
        refine' tk 4 ?_ ?_; rotate_left
        · intro u hu; have f1 := hu.1; have f2 := hu.2; clear hu; go_simp; try with_reducible rfl
        try go_frame
        refine' tk 5 ?_ ?_; rotate_left
        · intro u hu; have f1 := hu.1; have f2 := hu.2; clear hu; go_simp; try with_reducible rfl
        try go_frame
        refine' tk 6 ?_ ?_; rotate_left
        · intro u hu; have f1 := hu.1; have f2 := hu.2; clear hu; go_simp; try with_reducible rfl
        try go_frame
        refine' tk 7 ?_ ?_; rotate_left
        · intro u hu; have f1 := hu.1; have f2 := hu.2; clear hu; go_simp; try with_reducible rfl
        try go_frame
        refine' tk 8 ?_ ?_; rotate_left
        · intro u hu; have f1 := hu.1; have f2 := hu.2; clear hu; go_simp; try with_reducible rfl
        try go_frame
        refine' tk 9 ?_ ?_; rotate_left
        · intro u hu; have f1 := hu.1; have f2 := hu.2; clear hu; go_simp; try with_reducible rfl
        try go_frame
        refine' tk 10 ?_ ?_; rotate_left
        · intro u hu; have f1 := hu.1; have f2 := hu.2; clear hu; go_simp; try with_reducible rfl
        try go_frame
        refine' tk 11 ?_ ?_; rotate_left
        · intro u hu; have f1 := hu.1; have f2 := hu.2; clear hu; go_simp; try with_reducible rfl
        try go_frame
        obtain ⟨U1, hU1⟩ : ∃ U1, U1 = we.setCell ⟨Bc, oc + 3, none⟩ (.string v.1) := ⟨_, rfl⟩
        have k1 : U1.cell? ⟨Bc, oc, none⟩ = some (.string c.1) ∧ U1.cell? ⟨Bv, ov, none⟩ = some (.string v.1) := by rw [hU1]; exact ⟨(World.cell?_setCell_other _ _ _ _ (fun e => by have := congrArg Addr.off e; simp at this)).trans g1, (World.cell?_setCell_far _ _ _ _ hne).trans g2⟩
        have k4 : U1.cell? ⟨Bv, ov + 4, none⟩ = some (.string (vCl v)) := by rw [hU1]; exact (World.cell?_setCell_far _ _ _ _ hne).trans g4
        have k6 : U1.frozen? ⟨Bv, ov + 4, none⟩ = false := by rw [hU1, World.frozen?_setCell]; exact g6
        have k8 : Bv < U1.heap.size := by rw [hU1]; simpa using g8
        refine ts 12 (fun K hK => ?_)
        go_simp
        rw [← hU1]
        refine hK.out undef _ k1 (fun hHeld2 => ?_)
        clear hK K hHeld; have hHeld := hHeld2; clear hHeld2
        try go_frame
        refine' tk 13 ?_ ?_; rotate_left
        · intro u hu; clear hu; go_simp; try with_reducible rfl
        try go_frame
        refine' tk 14 ?_ ?_; rotate_left
        · intro u hu; clear hu; go_simp; try with_reducible rfl
        try go_frame
        obtain ⟨U2, hU2⟩ : ∃ U2, U2 = U1.setCell ⟨Bv, ov + 4, none⟩ (.string c.1) := ⟨_, rfl⟩
        have k2 : U2.cell? ⟨Bc, oc, none⟩ = some (.string c.1) ∧ U2.cell? ⟨Bv, ov, none⟩ = some (.string v.1) := by rw [hU2]; exact ⟨(World.cell?_setCell_far _ _ _ _ (Ne.symm hne)).trans k1.1, (World.cell?_setCell_other _ _ _ _ (fun e => by have := congrArg Addr.off e; simp at this)).trans k1.2⟩
        have HW : Hid (U2 = (we.setCell ⟨Bc, oc + 3, none⟩ (.string v.1)).setCell ⟨Bv, ov + 4, none⟩ (.string c.1)) := by rw [Hid, hU2, hU1]
        clear hU1
        refine ts 15 (fun K hK => ?_)
        go_simp
        rw [← hU2]
        refine hK.out undef _ k2 (fun hHeld2 => ?_)
        clear hK K hHeld; have hHeld := hHeld2; clear hHeld2
        try go_frame
        clear hU2
        refine tz ?_
        clear k1 k2 k4 k6 k8 g1 g2 g3 g4 g5 g6 g7 g8 hHeld HF
        go_wp2_with fail
        go_ret
        exact ⟨we, bD, .inr ⟨HE.out, rfl, HW.out⟩⟩
end Go.Proofs.YtmnldngojgldiaaGreat
namespace Go.Proofs.YtmnldngojgldiaaGreat
open Go.RowKit Go.Shelf Go.Maps
set_option linter.unusedSimpArgs false
set_option maxRecDepth 100000

/-- What Apply and Undo hand back. -/
def ApOut (r : Except Int VC) (w : World) (x : StateD) (e : Ending) (u : World) : Prop :=
  (∃ st g0 g1 g2 g3 g4 g5, r = .ok st ∧ e = .returned (.tuple #[.agg #[g0, g1, g2, g3, g4, g5], .int .i64 0]) ∧ DnS w.heap.size w u g0 g1 g2 g3 g4 g5 x st) ∨
  (∃ k, r = .error k ∧ e = .returned (.tuple #[.agg Z6.toArray, .int .i64 k]) ∧ (k = 2 ∨ k = 5) ∧ Below w.heap.size w u)
/-- A state of one's own stays while another variable is written. -/
theorem DnS.rebase {m : Nat} {w w1 u u' : World} {g0 g1 g2 g3 g4 g5 : Value} {x : StateD} {st : VC} (h : DnS m w1 u g0 g1 g2 g3 g4 g5 x st) (hw : Below w.heap.size w w1) (hm : m ≤ w.heap.size) (hb : Below w.heap.size w u') (hk : Kept (fun b => b < m ∨ w1.heap.size ≤ b) u u') : DnS m w u' g0 g1 g2 g3 g4 g5 x st := by
  obtain ⟨⟨hV, hC, hne, _⟩, ⟨r0, r1, r4, r5⟩, _⟩ := h
  exact ⟨⟨(hV.from RVolume.firm hw (fun _ h => h)).keptX RVolume.firm hb (hk.weak (fun b h => h.imp id (fun h => (hV.lt h).1))), (hC.from RClaim.firm hw (fun _ h => h)).keptX RClaim.firm hb (hk.weak (fun b h => h.imp id (fun h => (hC.lt h).1))), hne, hm⟩, ⟨(r0.from RPod.firm hw (fun _ h => h)).keptX RPod.firm hb (hk.weak (fun b h => h.imp id (fun h => (r0.lt h).1))), (r1.from RNode.firm hw (fun _ h => h)).keptX RNode.firm hb (hk.weak (fun b h => h.imp id (fun h => (r1.lt h).1))), (r4.from RClass.firm hw (fun _ h => h)).keptX RClass.firm hb (hk.weak (fun b h => h.imp id (fun h => (r4.lt h).1))), (r5.from RBudget.firm hw (fun _ h => h)).keptX RBudget.firm hb (hk.weak (fun b h => h.imp id (fun h => (r5.lt h).1)))⟩, hb⟩
theorem upto_all (L : List PickS) : (upto10 L L.length).map (fun x => x.2.1) = L.map Subtype.val := by
  rw [upto10_take L _ (Nat.le_refl _)]; exact List.take_of_length_le (by simp)
set_option maxHeartbeats 16000000 in
theorem pApply_calls (cs : List Value) (x : StateD) (a : Option Addr) (n c : Nat) (L : List PickD) (w : World) (h : Hid (RState (fun _ => True) w cs x)) (hL : Hid (SlAt RLabel 2 32 (fun _ => True) w a n c L)) :
    Calls Tryz.prog 7 #[.agg cs.toArray, .slice a n c] w (ApOut (applyP (sVs x, sCs x) L) w x) := by
  obtain ⟨⟨a0, n0, m0⟩, ⟨a1, n1, m1⟩, ⟨a2, n2, m2⟩, ⟨a3, n3, m3⟩, ⟨a4, n4, m4⟩, ⟨a5, n5, m5⟩, rfl, _⟩ := h.out.out
  simp only at h
  obtain ⟨L, rfl⟩ := picks_S hL.out
  have hlen : Hid (L.length = n) := by have := hL.out.1; rwa [List.length_map] at this
  obtain ⟨W1, hW1⟩ : ∃ W, W = (w.alloc (.cells #[.slice a0 n0 m0, .slice a1 n1 m1, .slice a2 n2 m2, .slice a3 n3 m3, .slice a4 n4 m4, .slice a5 n5 m5] 29)).alloc (.cells #[.slice none 0 0, .slice none 0 0, .slice none 0 0, .slice none 0 0, .slice none 0 0, .slice none 0 0] 29) := ⟨_, rfl⟩
  have B1 : Below w.heap.size w W1 := by rw [hW1]; go_grown
  have hz1 : W1.heap.size = w.heap.size + 1 + 1 := by rw [hW1]; simp
  have q1 : BoxL W1 w.heap.size [.slice a0 n0 m0, .slice a1 n1 m1, .slice a2 n2 m2, .slice a3 n3 m3, .slice a4 n4 m4, .slice a5 n5 m5] := by rw [hW1]; exact (BoxL.new w 29 _).on ((Below.refl _ _).alloc (Nat.le_refl _) _)
  have q2 : BoxL W1 (w.heap.size + 1) Z6 := by rw [hW1]; have := BoxL.new (w.alloc (.cells #[.slice a0 n0 m0, .slice a1 n1 m1, .slice a2 n2 m2, .slice a3 n3 m3, .slice a4 n4 m4, .slice a5 n5 m5] 29)) 29 [.slice none 0 0, .slice none 0 0, .slice none 0 0, .slice none 0 0, .slice none 0 0, .slice none 0 0]; simpa using this
  have HQ : Hid (∀ z, Kept (fun b => b = w.heap.size) W1 z → z.cell? ⟨w.heap.size, 0, none⟩ = some (.slice a0 n0 m0) ∧ z.cell? ⟨w.heap.size, 1, none⟩ = some (.slice a1 n1 m1) ∧ z.cell? ⟨w.heap.size, 2, none⟩ = some (.slice a2 n2 m2) ∧ z.cell? ⟨w.heap.size, 3, none⟩ = some (.slice a3 n3 m3) ∧ z.cell? ⟨w.heap.size, 4, none⟩ = some (.slice a4 n4 m4) ∧ z.cell? ⟨w.heap.size, 5, none⟩ = some (.slice a5 n5 m5)) := fun z hb => ⟨((q1.kept hb rfl).2 0 _ rfl).1, ((q1.kept hb rfl).2 1 _ rfl).1, ((q1.kept hb rfl).2 2 _ rfl).1, ((q1.kept hb rfl).2 3 _ rfl).1, ((q1.kept hb rfl).2 4 _ rfl).1, ((q1.kept hb rfl).2 5 _ rfl).1⟩
  have HS : Hid (∀ z, Below W1.heap.size W1 z → RState (fun b => b < w.heap.size) z [.slice a0 n0 m0, .slice a1 n1 m1, .slice a2 n2 m2, .slice a3 n3 m3, .slice a4 n4 m4, .slice a5 n5 m5] x ∧ SlAt RLabel 2 32 (fun b => b < w.heap.size) z a n c (L.map Subtype.val) ∧ BoxL z (w.heap.size + 1) Z6) := fun z hz => ⟨RState.firm.kept (RState.firm.weak h.out (A' := fun b => b < w.heap.size) (fun b hb _ => hb)) (Kept.below (on2 B1 hz)), (hL.out.weak RLabel.firm (fun b hb _ => hb)).on RLabel.firm (on2 B1 hz), q2.on hz⟩
  have HB1 : Hid (Below w.heap.size w W1) := B1
  clear h hL q1 q2 B1
  go_enter Tryz.func7, Tryz.ntmps7
  go_upto_region 1 with fail
  rw [← hW1]
  clear hW1
  refine t0 (fun z => Kept (fun b => b = w.heap.size) W1 z) (Kept.drew _ _) (fun hHeld => ?_)
  have hb0 : Below W1.heap.size W1 W1.drew := (Below.refl _ _).drew
  generalize hwd : W1.drew = wd at hHeld hb0 ⊢
  clear hwd
  try go_frame
  refine' tk 0 ?_ ?_; rotate_left
  · intro u hu; obtain ⟨f0, f1, f2, f3, f4, f5⟩ := HQ.out u hu; clear hu; go_simp; try with_reducible rfl
  try go_frame
  refine' tk 1 ?_ ?_; rotate_left
  · intro u hu; obtain ⟨f0, f1, f2, f3, f4, f5⟩ := HQ.out u hu; clear hu; go_simp; try with_reducible rfl
  try go_frame
  have hC := (callsIn_wide (n := 9)).1 (all_in Fence.wide 9 trivial rfl a n c wd)
  refine tr 2 (fun K hK => ?_)
  go_simp
  refine hC.mono ?_
  rintro e u1 ⟨rfl, hu1⟩
  clear hC
  have d1 : Below wd.heap.size wd u1 := by rw [hu1]; exact (Below.refl _ _).alloc (Nat.le_refl _) _
  have hb1 : Below W1.heap.size W1 u1 := on2 hb0 d1
  have qb : BoxL u1 wd.heap.size [.slice a n c] := by rw [hu1]; exact BoxL.new wd _ _
  have hwl : w.heap.size ≤ wd.heap.size := Nat.le_trans (by omega) hb0.size
  clear hu1
  go_wp2_with fail
  refine hK.out _ _ (Kept.below hb1) (fun hHeld2 => ?_)
  clear hK K hHeld; have hHeld := hHeld2; clear hHeld2
  try go_frame
  obtain ⟨s1, s2, s3⟩ := HS.out u1 hb1
  have hlw : w.heap.size ≤ u1.heap.size := Nat.le_trans hwl d1.size
  have hC := done_calls 38 17 #[.pointer (some ⟨wd.heap.size, 0, none⟩)] okA (fun _ v => v.1) (fun c _ => c.1) (fun ys => ys = upto10 L n) (fun pre => ∃ k, k ≤ n ∧ pre = upto10 L k) n w.heap.size [.slice a0 n0 m0, .slice a1 n1 m1, .slice a2 n2 m2, .slice a3 n3 m3, .slice a4 n4 m4, .slice a5 n5 m5] x u1 hlw s1 (enters_of Tryz.func38 (by kernel_rfl) rfl) (enters_of Tryz.func17 (by kernel_rfl) rfl)
    (fun W hW => all_stops Fence.wide 8 trivial rfl (by decide) wd.heap.size u1.heap.size a n c L W (Nat.lt_of_lt_of_le qb.1 hW.size) hW.size ((qb.on hW).2 0 _ rfl).1 ((s2.weak RLabel.firm (fun b hb _ => hb)).on RLabel.firm hW)) (fun Bc oc Bv ov cs A c vs A' v u h1 h2 h3 h4 h5 h6 h7 h8 h9 => give_calls Bc oc Bv ov cs A c vs A' v u h1 h2 h3 h4 h5 h6 h7 h8 h9) (fun c v h1 h2 => ⟨h2, h1⟩)
  refine tr 3 (fun K hK => ?_)
  go_simp
  refine hC.mono ?_
  rintro e u2 hz
  clear hC
  rw [show stepD okA (fun _ v => v.1) (fun c _ => c.1) = stepA from rfl] at hz
  --M2
  rcases hz with ⟨ys, st, g0, g1, g2, g3, g4, g5, rfl, hr, rfl, hd⟩ | ⟨ys, k, ⟨j, hj, rfl⟩, hr, rfl, hk, hd⟩
  · have bu2 : Below u1.heap.size u1 u2 := hd.2.2
    have bw2 : Below w.heap.size w u2 := on2 (on2 HB1.out hb1) bu2
    have zb := s3.on bu2
    obtain ⟨b0, k0, c0, rfl⟩ := hd.2.1.1.head
    obtain ⟨b1, k1, c1, rfl⟩ := hd.2.1.2.1.head
    obtain ⟨b2, k2, c2, rfl⟩ := hd.1.1.head
    obtain ⟨b3, k3, c3, rfl⟩ := hd.1.2.1.head
    obtain ⟨b4, k4, c4, rfl⟩ := hd.2.1.2.2.1.head
    obtain ⟨b5, k5, c5, rfl⟩ := hd.2.1.2.2.2.head
    have HR : Hid (applyP (sVs x, sCs x) (L.map Subtype.val) = .ok st) := by have h8 := hr; rw [← hlen.out, upto_all, runD_apply] at h8; exact h8
    clear hr
    go_wp2_with fail
    refine hK.out _ _ ((Kept.below hb1).trans (Kept.weak (A := fun b => b < u1.heap.size) (Kept.below bu2) (fun b hb => by have h8 : b = w.heap.size := hb; have h9 := qb.1; show b < u1.heap.size; omega))) (fun hHeld2 => ?_)
    clear hK K hHeld; have hHeld := hHeld2; clear hHeld2
    try go_frame
    refine' tk 4 ?_ ?_; rotate_left
    · intro u hu; clear hu; go_simp; try with_reducible rfl
    try go_frame
    refine' tk 5 ?_ ?_; rotate_left
    · intro u hu; clear hu; go_simp; try with_reducible rfl
    try go_frame
    obtain ⟨U, hU⟩ : ∃ U, U = u2.setCells (w.heap.size + 1) 0 [.slice b0 k0 c0, .slice b1 k1 c1, .slice b2 k2 c2, .slice b3 k3 c3, .slice b4 k4 c4, .slice b5 k5 c5] := ⟨_, rfl⟩
    refine ts 6 (fun K hK => ?_)
    refine want_yes (by rfl) (wp_store_mid 29 _ _ rfl (w.heap.size + 1) 0 #[.slice b0 k0 c0, .slice b1 k1 c1, .slice b2 k2 c2, .slice b3 k3 c3, .slice b4 k4 c4, .slice b5 k5 c5] rfl rfl zb.there infoSta (by simp [Value.oneCell']) ?_)
    have kU : Kept (fun b => b ≠ w.heap.size + 1) u2 U := by rw [hU]; exact kept_setCells (fun h => h rfl)
    have bU : Below w.heap.size w U := by rw [hU]; exact below_setCells bw2 (by omega)
    have qU : BoxL U (w.heap.size + 1) [.slice b0 k0 c0, .slice b1 k1 c1, .slice b2 k2 c2, .slice b3 k3 c3, .slice b4 k4 c4, .slice b5 k5 c5] := by rw [hU]; exact box_over8 zb rfl
    have eU : U = u2.setCells (w.heap.size + 1) 0 (#[.slice b0 k0 c0, .slice b1 k1 c1, .slice b2 k2 c2, .slice b3 k3 c3, .slice b4 k4 c4, .slice b5 k5 c5] : Array Value).toList := by rw [hU]
    have HE : Hid (DnS w.heap.size w U (.slice b0 k0 c0) (.slice b1 k1 c1) (.slice b2 k2 c2) (.slice b3 k3 c3) (.slice b4 k4 c4) (.slice b5 k5 c5) x st) := hd.rebase (on2 HB1.out hb1) (Nat.le_refl _) bU (kU.weak (fun b hb => by have := hb1.size; rcases hb with hb | hb <;> omega))
    rw [← eU]
    refine hK.out _ _ (((Kept.below hb1).trans (Kept.weak (A := fun b => b < u1.heap.size) (Kept.below bu2) (fun b hb => by have h8 : b = w.heap.size := hb; have h9 := qb.1; show b < u1.heap.size; omega))).trans (kU.weak (fun b hb => by have h8 : b = w.heap.size := hb; show b ≠ w.heap.size + 1; omega))) (fun hHeld2 => ?_)
    clear hK K hHeld; have hHeld := hHeld2; clear hHeld2
    try go_frame
    refine' tk 7 ?_ ?_; rotate_left
    · intro u hu; clear hu; go_simp; try with_reducible rfl
    try go_frame
    refine tz ?_
    have t0' := (qU.2 0 _ rfl).1
    have t1' := (qU.2 1 _ rfl).1
    have t2' := (qU.2 2 _ rfl).1
    have t3' := (qU.2 3 _ rfl).1
    have t4' := (qU.2 4 _ rfl).1
    have t5' := (qU.2 5 _ rfl).1
    clear hU eU kU bU qU zb bw2
    go_wp2_with fail
    clear hd bu2
    refine bodyPost_ret (v := .tuple #[.agg #[.slice b0 k0 c0, .slice b1 k1 c1, .slice b2 k2 c2, .slice b3 k3 c3, .slice b4 k4 c4, .slice b5 k5 c5], .int .i64 0]) (by simp [results, Tryz.results7, go_sem, t0', t1', t2', t3', t4', t5', Result.andThen]) rfl ?_
    exact .inl ⟨st, _, _, _, _, _, _, HR.out, rfl, HE.out⟩
  · have bu2 : Below u1.heap.size u1 u2 := hd
    have bw2 : Below w.heap.size w u2 := on2 (on2 HB1.out hb1) bu2
    have zb := s3.on bu2
    have HR : Hid (applyP (sVs x, sCs x) (L.map Subtype.val) = .error k) := by have h8 := hr; rw [upto10_take L j (by rw [hlen.out]; exact hj)] at h8; have h9 := runD_take h8; rw [runD_apply] at h9; exact h9
    clear hr hj
    go_wp2_with fail
    refine hK.out _ _ ((Kept.below hb1).trans (Kept.weak (A := fun b => b < u1.heap.size) (Kept.below bu2) (fun b hb => by have h8 : b = w.heap.size := hb; have h9 := qb.1; show b < u1.heap.size; omega))) (fun hHeld2 => ?_)
    clear hK K hHeld; have hHeld := hHeld2; clear hHeld2
    try go_frame
    refine' tk 4 ?_ ?_; rotate_left
    · intro u hu; clear hu; go_simp; try with_reducible rfl
    try go_frame
    refine' tk 5 ?_ ?_; rotate_left
    · intro u hu; clear hu; go_simp; try with_reducible rfl
    try go_frame
    obtain ⟨U, hU⟩ : ∃ U, U = u2.setCells (w.heap.size + 1) 0 [.slice none 0 0, .slice none 0 0, .slice none 0 0, .slice none 0 0, .slice none 0 0, .slice none 0 0] := ⟨_, rfl⟩
    refine ts 6 (fun K hK => ?_)
    refine want_yes (by rfl) (wp_store_mid 29 _ _ rfl (w.heap.size + 1) 0 #[.slice none 0 0, .slice none 0 0, .slice none 0 0, .slice none 0 0, .slice none 0 0, .slice none 0 0] rfl rfl zb.there infoSta (by simp [Value.oneCell']) ?_)
    have kU : Kept (fun b => b ≠ w.heap.size + 1) u2 U := by rw [hU]; exact kept_setCells (fun h => h rfl)
    have bU : Below w.heap.size w U := by rw [hU]; exact below_setCells bw2 (by omega)
    have qU : BoxL U (w.heap.size + 1) [.slice none 0 0, .slice none 0 0, .slice none 0 0, .slice none 0 0, .slice none 0 0, .slice none 0 0] := by rw [hU]; exact box_over8 zb rfl
    have eU : U = u2.setCells (w.heap.size + 1) 0 (#[.slice none 0 0, .slice none 0 0, .slice none 0 0, .slice none 0 0, .slice none 0 0, .slice none 0 0] : Array Value).toList := by rw [hU]
    have HE : Hid (Below w.heap.size w U) := bU
    rw [← eU]
    refine hK.out _ _ (((Kept.below hb1).trans (Kept.weak (A := fun b => b < u1.heap.size) (Kept.below bu2) (fun b hb => by have h8 : b = w.heap.size := hb; have h9 := qb.1; show b < u1.heap.size; omega))).trans (kU.weak (fun b hb => by have h8 : b = w.heap.size := hb; show b ≠ w.heap.size + 1; omega))) (fun hHeld2 => ?_)
    clear hK K hHeld; have hHeld := hHeld2; clear hHeld2
    try go_frame
    refine' tk 7 ?_ ?_; rotate_left
    · intro u hu; clear hu; go_simp; try with_reducible rfl
    try go_frame
    refine tz ?_
    have t0' := (qU.2 0 _ rfl).1
    have t1' := (qU.2 1 _ rfl).1
    have t2' := (qU.2 2 _ rfl).1
    have t3' := (qU.2 3 _ rfl).1
    have t4' := (qU.2 4 _ rfl).1
    have t5' := (qU.2 5 _ rfl).1
    clear hU eU kU bU qU zb bw2
    go_wp2_with fail
    clear hd bu2
    refine bodyPost_ret (v := .tuple #[.agg #[.slice none 0 0, .slice none 0 0, .slice none 0 0, .slice none 0 0, .slice none 0 0, .slice none 0 0], .int .i64 k]) (by simp [results, Tryz.results7, go_sem, t0', t1', t2', t3', t4', t5', Result.andThen]) rfl ?_
    exact .inr ⟨k, HR.out, rfl, hk, HE.out⟩
end Go.Proofs.YtmnldngojgldiaaGreat
namespace Go.Proofs.YtmnldngojgldiaaGreat
open Go.RowKit
set_option linter.unusedSimpArgs false

abbrev wVC (x : StateD) (st : VC) : StateD := (x.1, x.2.1, st.1, st.2, x.2.2.2.2)
theorem stepA_len {st st' : VC} {pk : PickD} (h : stepA st pk = .ok st') : st'.1.length = st.1.length ∧ st'.2.length = st.2.length := by rw [← stepD_A] at h; exact stepD_len h
theorem apply_len {st t : VC} {L : List PickD} (h : applyP st L = .ok t) : t.1.length = st.1.length ∧ t.2.length = st.2.length := by rw [← runD_apply, ← stepD_A] at h; exact runD_len h
theorem undo_len {st t : VC} {L : List PickD} (h : undoP st L = .ok t) : t.1.length = st.1.length ∧ t.2.length = st.2.length := by rw [← runD_undo, ← stepD_U] at h; exact runD_len h
theorem DnS.rstate {m : Nat} {w u : World} {g0 g1 g2 g3 g4 g5 : Value} {x : StateD} {st : VC} (h : DnS m w u g0 g1 g2 g3 g4 g5 x st) {A : Where} {wz : World} {cs : List Value} (hR : RState A wz cs x) (e2 : st.1.length = (sVs x).length) (e3 : st.2.length = (sCs x).length) :
    RState (fun _ => True) u [g0, g1, g2, g3, g4, g5] (wVC x st) := by
  obtain ⟨h0, h1, h2, h3, h4, h5, -, s0, s1, s2, s3, s4, s5⟩ := hR.out
  obtain ⟨⟨hV, hC, _⟩, ⟨r0, r1, r4, r5⟩, _⟩ := h
  obtain ⟨a0, m0, rfl, t0⟩ := r0.sl (bytes := 296) RPod.firm (by rw [s0.1]; exact s0.2.2.2.1)
  obtain ⟨a1, m1, rfl, t1⟩ := r1.sl (bytes := 112) RNode.firm (by rw [s1.1]; exact s1.2.2.2.1)
  obtain ⟨a2, m2, rfl, t2⟩ := hV.sl (bytes := 80) RVolume.firm (by rw [e2, s2.1]; exact s2.2.2.2.1)
  obtain ⟨a3, m3, rfl, t3⟩ := hC.sl (bytes := 56) RClaim.firm (by rw [e3, s3.1]; exact s3.2.2.2.1)
  obtain ⟨a4, m4, rfl, t4⟩ := r4.sl (bytes := 24) RClass.firm (by rw [s4.1]; exact s4.2.2.2.1)
  obtain ⟨a5, m5, rfl, t5⟩ := r5.sl (bytes := 48) RBudget.firm (by rw [s5.1]; exact s5.2.2.2.1)
  exact RState.mk (x := wVC x st) (h0 := (a0, _, m0)) (h1 := (a1, _, m1)) (h2 := (a2, _, m2)) (h3 := (a3, _, m3)) (h4 := (a4, _, m4)) (h5 := (a5, _, m5)) (t0.weak RPod.firm (fun _ _ _ => trivial)) (t1.weak RNode.firm (fun _ _ _ => trivial)) (t2.weak RVolume.firm (fun _ _ _ => trivial)) (t3.weak RClaim.firm (fun _ _ _ => trivial)) (t4.weak RClass.firm (fun _ _ _ => trivial)) (t5.weak RBudget.firm (fun _ _ _ => trivial))
theorem SlAt.nil12 {α : Type} [Inhabited α] (R : Rep α) (k bytes : Nat) (A : Where) (w : World) : SlAt R k bytes A w none 0 0 [] := by
  refine ⟨rfl, ?_, ?_, ?_, ?_⟩ <;> simp
theorem rstate_none (w : World) : RState (fun _ => True) w Z6 ([], [], [], [], [], []) :=
  RState.mk (x := ([], [], [], [], [], [])) (h0 := (none, 0, 0)) (h1 := (none, 0, 0)) (h2 := (none, 0, 0)) (h3 := (none, 0, 0)) (h4 := (none, 0, 0)) (h5 := (none, 0, 0)) (SlAt.nil12 _ _ _ _ _) (SlAt.nil12 _ _ _ _ _) (SlAt.nil12 _ _ _ _ _) (SlAt.nil12 _ _ _ _ _) (SlAt.nil12 _ _ _ _ _) (SlAt.nil12 _ _ _ _ _)
end Go.Proofs.YtmnldngojgldiaaGreat
