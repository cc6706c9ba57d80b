/- The walk of VolumeMeets: a plan may be applied, each claim has a volume that the node meets then, and nothing more is picked. Conditions: the arguments lie as is said of them. -/
import Derived.Test.YtmnldngojgldiaaQ20
import Derived.Test.YtmnldngojgldiaaQ31
import Derived.Test.YtmnldngojgldiaaQ30
import Derived.Test.YtmnldngojgldiaaQ09
import Derived.Test.YtmnldngojgldiaaQ14
import Derived.Test.YtmnldngojgldiaaQ08
namespace Go.Proofs.Ytmnldngojgldiaa
open Go.RowKit Go.Maps
set_option linter.unusedSimpArgs false
set_option maxRecDepth 100000

set_option maxHeartbeats 32000000 in
theorem vmeets_walk (ps : List Value) (p : PodD) (is : List Value) (i : InfoD) (cs : List Value) (x : StateD) (w : World) (hp : RPod (fun _ => True) w ps p) (hi : RInfo (fun _ => True) w is i) (h : RState (fun _ => True) w cs x) :
    Calls Try.prog 3 #[.agg ps.toArray, .agg is.toArray, .agg cs.toArray] w fun e w' => e = .returned (.bool true) ∧ Below w.heap.size w w' := by
  have hi16 : (Try.prog.info? 33).map (·.size) = some ps.length := by rw [RPod.firm.len hp]; kernel_rfl
  have hi15 : (Try.prog.info? 38).map (·.size) = some is.length := by rw [RInfo.firm.len hi]; exact sizeIn10
  obtain ⟨⟨q1, q2, q3⟩, e13, sk⟩ := hp.clm10
  simp only at e13 sk
  have hlk := sk.len (by decide)
  have hkc : Hid ((pClm p).length = q2) := sk.1
  obtain ⟨⟨la, ln, lc⟩, _, i1, _, _, sl, _⟩ := hi.labs10
  simp only at i1 sl
  obtain ⟨⟨a0, n0, m0⟩, ⟨a1, n1, m1⟩, ⟨a2, n2, m2⟩, ⟨a3, n3, m3⟩, ⟨a4, n4, m4⟩, ⟨a5, n5, m5⟩, rfl, _⟩ := h.out
  simp only at h
  obtain ⟨W1, hW1⟩ : ∃ W, W = w.alloc (.cells ps.toArray 33) := ⟨_, rfl⟩
  obtain ⟨W2, hW2⟩ : ∃ W, W = W1.alloc (.cells is.toArray 38) := ⟨_, rfl⟩
  obtain ⟨W3, hW3⟩ : ∃ W, W = W2.alloc (.cells #[.slice a0 n0 m0, .slice a1 n1 m1, .slice a2 n2 m2, .slice a3 n3 m3, .slice a4 n4 m4, .slice a5 n5 m5] 46) := ⟨_, rfl⟩
  have B1 : Below w.heap.size w W1 := by rw [hW1]; go_grown
  have B2 : Below W1.heap.size W1 W2 := by rw [hW2]; go_grown
  have B3 : Below W2.heap.size W2 W3 := by rw [hW3]; go_grown
  have z1 : W1.heap.size = w.heap.size + 1 := by rw [hW1]; simp
  have z2 : W2.heap.size = w.heap.size + 1 + 1 := by rw [hW2]; simp [z1]
  have qa : BoxL W3 w.heap.size ps := by refine BoxL.on (BoxL.on ?_ B2) B3; rw [hW1]; exact BoxL.new w 33 _
  have qb : BoxL W3 (w.heap.size + 1) is := by refine BoxL.on ?_ B3; rw [← z1, hW2]; exact BoxL.new W1 38 _
  have qc : BoxL W3 (w.heap.size + 1 + 1) [.slice a0 n0 m0, .slice a1 n1 m1, .slice a2 n2 m2, .slice a3 n3 m3, .slice a4 n4 m4, .slice a5 n5 m5] := by rw [← z2, hW3]; exact BoxL.new W2 46 _
  have BB : Below w.heap.size w W3 := on2 (on2 B1 B2) B3
  have hlt3 : w.heap.size + 1 + 1 < W3.heap.size := qc.1
  have HU : Hid (∀ u, Below W3.heap.size W3 u → (u.rangeAt w.heap.size 0 ps ∧ u.cell? ⟨w.heap.size, 13, none⟩ = some (.slice q1 q2 q3)) ∧ u.rangeAt (w.heap.size + 1) 0 is ∧ BoxL u (w.heap.size + 1 + 1) [.slice a0 n0 m0, .slice a1 n1 m1, .slice a2 n2 m2, .slice a3 n3 m3, .slice a4 n4 m4, .slice a5 n5 m5] ∧ RPod (fun _ => True) u ps p ∧ RInfo (fun _ => True) u is i ∧ RState (fun _ => True) u [.slice a0 n0 m0, .slice a1 n1 m1, .slice a2 n2 m2, .slice a3 n3 m3, .slice a4 n4 m4, .slice a5 n5 m5] x ∧ SlAt RStr 1 16 (fun _ => True) u q1 q2 q3 (pClm p) ∧ (u.cell? ⟨w.heap.size + 1, 1, none⟩ = some (.slice la ln lc) ∧ SlAt RLabel 2 32 (fun _ => True) u la ln lc (iLabs i)) ∧ Below w.heap.size w u) := fun u hu => ⟨⟨(qa.on hu).range, ((qa.on hu).2 13 _ e13).1⟩, (qb.on hu).range, qc.on hu, RPod.firm.kept hp (Kept.below (on2 BB hu)), RInfo.firm.kept hi (Kept.below (on2 BB hu)), RState.firm.kept h (Kept.below (on2 BB hu)), sk.on RStr.firm (on2 BB hu), ⟨((qb.on hu).2 1 _ i1).1, sl.on RLabel.firm (on2 BB hu)⟩, on2 BB hu⟩
  have HR0 : Hid (RState (fun _ => True) w [.slice a0 n0 m0, .slice a1 n1 m1, .slice a2 n2 m2, .slice a3 n3 m3, .slice a4 n4 m4, .slice a5 n5 m5] x) := h
  have HWk := works10_calls W3
  clear hp hi h sk sl qa qb qc BB B1 B2 B3 z1 z2 e13 i1
  go_enter Try.func3, Try.ntmps3
  go_upto_region 1 with fail
  rw [← hW1, ← hW2, ← hW3]
  clear hW1 hW2 hW3
  go_wp2_with fail
  refine HWk.mono ?_
  rintro e u1 ⟨rfl, p1⟩
  clear HWk
  have hlu1 : w.heap.size + 1 + 1 < u1.heap.size := Nat.lt_of_lt_of_le hlt3 p1.size
  go_upto_region 3 with fail
  --M1
  refine t0 (fun z => Below u1.heap.size u1 z) (Below.refl _ _).drew (fun hHeld => ?_)
  have hb0 : Below u1.heap.size u1 u1.drew := (Below.refl _ _).drew
  generalize hwd : u1.drew = wd at hHeld hb0 ⊢
  clear hwd
  try go_frame
  refine' tk 0 ?_ ?_; rotate_left
  · intro u hu; obtain ⟨⟨r1, r2⟩, r3, qS, _, _, _, _, _, _⟩ := HU.out u (on2 p1 hu); have y0 := (qS.2 0 _ rfl).1; have y1 := (qS.2 1 _ rfl).1; have y2 := (qS.2 2 _ rfl).1; have y3 := (qS.2 3 _ rfl).1; have y4 := (qS.2 4 _ rfl).1; have y5 := (qS.2 5 _ rfl).1; clear hu qS r1 r3; go_simp; try with_reducible rfl
  try go_frame
  have hC := once10_calls [.slice a0 n0 m0, .slice a1 n1 m1, .slice a2 n2 m2, .slice a3 n3 m3, .slice a4 n4 m4, .slice a5 n5 m5] _ x wd (HU.out wd (on2 p1 hb0)).2.2.2.2.2.1
  refine tr 1 (fun K hK => ?_)
  go_simp
  refine hC.mono ?_
  rintro e u2 ⟨ob, rfl, hob, d2⟩
  clear hC
  have hb2 : Below u1.heap.size u1 u2 := on2 hb0 d2
  go_wp2_with fail
  refine hK.out _ _ hb2 (fun hHeld2 => ?_)
  clear hK K hHeld; have hHeld := hHeld2; clear hHeld2
  try go_frame
  refine' tk 2 ?_ ?_; rotate_left
  · intro u hu; clear hu; go_simp; try with_reducible rfl
  try go_frame
  refine' tk 3 ?_ ?_; rotate_left
  · intro u hu; clear hu; go_simp; try with_reducible rfl
  try go_frame
  cases ob with
  | false =>
    refine tn 4 ?_
    try go_frame
    refine tn 5 ?_
    try go_frame
    refine tn 6 ?_
    try go_frame
    refine tn 7 ?_
    try go_frame
    refine tn 8 ?_
    try go_frame
    refine tn 9 ?_
    try go_frame
    refine tn 10 ?_
    try go_frame
    refine tn 11 ?_
    try go_frame
    refine' tk 12 ?_ ?_; rotate_left
    · intro u hu; clear hu; go_simp; try with_reducible rfl
    try go_frame
    refine tz ?_
    have HE : Hid (Below w.heap.size w u2) := (HU.out u2 (on2 p1 hb2)).2.2.2.2.2.2.2.2
    clear hHeld hb2 d2 hb0
    go_wp2_with fail
    go_ret
    exact ⟨rfl, HE.out⟩
  | true =>
    have HO : Hid (OnceP (stVC x)) := hob.1 rfl
    clear hob
    refine' tk 4 ?_ ?_; rotate_left
    · intro u hu; obtain ⟨⟨r1, r2⟩, r3, qS, _, _, _, _, _, _⟩ := HU.out u (on2 p1 hu); have y0 := (qS.2 0 _ rfl).1; have y1 := (qS.2 1 _ rfl).1; have y2 := (qS.2 2 _ rfl).1; have y3 := (qS.2 3 _ rfl).1; have y4 := (qS.2 4 _ rfl).1; have y5 := (qS.2 5 _ rfl).1; clear hu qS r1 r3; go_simp; try with_reducible rfl
    try go_frame
    refine' tk 5 ?_ ?_; rotate_left
    · intro u hu; obtain ⟨⟨r1, r2⟩, r3, qS, _, _, _, _, _, _⟩ := HU.out u (on2 p1 hu); have y0 := (qS.2 0 _ rfl).1; have y1 := (qS.2 1 _ rfl).1; have y2 := (qS.2 2 _ rfl).1; have y3 := (qS.2 3 _ rfl).1; have y4 := (qS.2 4 _ rfl).1; have y5 := (qS.2 5 _ rfl).1; clear hu qS r1 r3; go_simp; try with_reducible rfl
    try go_frame
    refine' tk 8 ?_ ?_; rotate_left
    · intro u hu; obtain ⟨⟨r1, r2⟩, r3, qS, _, _, _, _, _, _⟩ := HU.out u (on2 p1 hu); have y0 := (qS.2 0 _ rfl).1; have y1 := (qS.2 1 _ rfl).1; have y2 := (qS.2 2 _ rfl).1; have y3 := (qS.2 3 _ rfl).1; have y4 := (qS.2 4 _ rfl).1; have y5 := (qS.2 5 _ rfl).1; clear hu qS r1 r3; go_simp; try with_reducible rfl
    try go_frame
    refine' tk 9 ?_ ?_; rotate_left
    · intro u hu; obtain ⟨⟨r1, r2⟩, r3, qS, _, _, _, _, _, _⟩ := HU.out u (on2 p1 hu); have y0 := (qS.2 0 _ rfl).1; have y1 := (qS.2 1 _ rfl).1; have y2 := (qS.2 2 _ rfl).1; have y3 := (qS.2 3 _ rfl).1; have y4 := (qS.2 4 _ rfl).1; have y5 := (qS.2 5 _ rfl).1; clear hu qS r1 r3; go_simp; try with_reducible rfl
    try go_frame
    refine' tk 10 ?_ ?_; rotate_left
    · intro u hu; obtain ⟨⟨r1, r2⟩, r3, qS, _, _, _, _, _, _⟩ := HU.out u (on2 p1 hu); have y0 := (qS.2 0 _ rfl).1; have y1 := (qS.2 1 _ rfl).1; have y2 := (qS.2 2 _ rfl).1; have y3 := (qS.2 3 _ rfl).1; have y4 := (qS.2 4 _ rfl).1; have y5 := (qS.2 5 _ rfl).1; clear hu qS r1 r3; go_simp; try with_reducible rfl
    try go_frame
    have hC := Sorted_calls q1 q2 q3 _ (pClm p) u2 (HU.out u2 (on2 p1 hb2)).2.2.2.2.2.2.1
    refine tr 6 (fun K hK => ?_)
    go_simp
    refine hC.mono ?_
    rintro e u3 ⟨sa, sc, rfl, _, d3⟩
    clear hC
    have hb3 : Below u1.heap.size u1 u3 := on2 hb2 d3
    have hne : Hid ((sortB sLt sEq (pClm p)).length = q2 → (pClm p).Nodup) := fun e => sorted_once10 (by rw [e]; exact hkc.out.symm)
    generalize (sortB sLt sEq (pClm p)).length = sn at hne
    go_wp2_with fail
    refine hK.out _ _ hb3 (fun hHeld2 => ?_)
    clear hK K hHeld; have hHeld := hHeld2; clear hHeld2
    try go_frame
    cases hsq : decide (sn = q2) with
    | false =>
      have hsz : ¬ ((sn : Int) = (q2 : Int)) := by have := of_decide_eq_false hsq; omega
      refine' tk 7 ?_ ?_; rotate_left
      · intro u hu; obtain ⟨⟨r1, r2⟩, r3, qS, _, _, _, _, _, _⟩ := HU.out u (on2 p1 hu); have y0 := (qS.2 0 _ rfl).1; have y1 := (qS.2 1 _ rfl).1; have y2 := (qS.2 2 _ rfl).1; have y3 := (qS.2 3 _ rfl).1; have y4 := (qS.2 4 _ rfl).1; have y5 := (qS.2 5 _ rfl).1; clear hu qS r1 r3; go_simp; try with_reducible rfl
      try go_frame
      refine' tk 11 ?_ ?_; rotate_left
      · intro u hu; obtain ⟨⟨r1, r2⟩, r3, qS, _, _, _, _, _, _⟩ := HU.out u (on2 p1 hu); have y0 := (qS.2 0 _ rfl).1; have y1 := (qS.2 1 _ rfl).1; have y2 := (qS.2 2 _ rfl).1; have y3 := (qS.2 3 _ rfl).1; have y4 := (qS.2 4 _ rfl).1; have y5 := (qS.2 5 _ rfl).1; clear hu qS r1 r3; go_simp; try with_reducible rfl
      try go_frame
      refine' tk 12 ?_ ?_; rotate_left
      · intro u hu; obtain ⟨⟨r1, r2⟩, r3, qS, _, _, _, _, _, _⟩ := HU.out u (on2 p1 hu); have y0 := (qS.2 0 _ rfl).1; have y1 := (qS.2 1 _ rfl).1; have y2 := (qS.2 2 _ rfl).1; have y3 := (qS.2 3 _ rfl).1; have y4 := (qS.2 4 _ rfl).1; have y5 := (qS.2 5 _ rfl).1; clear hu qS r1 r3; go_simp; try with_reducible rfl
      try go_frame
      refine tz ?_
      have HE : Hid (Below w.heap.size w u3) := (HU.out u3 (on2 p1 hb3)).2.2.2.2.2.2.2.2
      clear hHeld hb3 d2 hb0 d3 hb2
      --M2
      go_wp2_with fail
      go_ret
      exact ⟨rfl, HE.out⟩
    | true =>
      have hsz := of_decide_eq_true hsq
      subst hsz
      have HN : Hid ((pClm p).Nodup) := hne.out rfl
      clear hsq hne
      refine' tk 7 ?_ ?_; rotate_left
      · intro u hu; obtain ⟨⟨r1, r2⟩, r3, qS, _, _, _, _, _, _⟩ := HU.out u (on2 p1 hu); have y0 := (qS.2 0 _ rfl).1; have y1 := (qS.2 1 _ rfl).1; have y2 := (qS.2 2 _ rfl).1; have y3 := (qS.2 3 _ rfl).1; have y4 := (qS.2 4 _ rfl).1; have y5 := (qS.2 5 _ rfl).1; clear hu qS r1 r3; go_simp; try with_reducible rfl
      try go_frame
      refine' tk 11 ?_ ?_; rotate_left
      · intro u hu; obtain ⟨⟨r1, r2⟩, r3, qS, _, _, _, _, _, _⟩ := HU.out u (on2 p1 hu); have y0 := (qS.2 0 _ rfl).1; have y1 := (qS.2 1 _ rfl).1; have y2 := (qS.2 2 _ rfl).1; have y3 := (qS.2 3 _ rfl).1; have y4 := (qS.2 4 _ rfl).1; have y5 := (qS.2 5 _ rfl).1; clear hu qS r1 r3; go_simp; try with_reducible rfl
      try go_frame
      refine' tk 12 ?_ ?_; rotate_left
      · intro u hu; obtain ⟨⟨r1, r2⟩, r3, qS, _, _, _, _, _, _⟩ := HU.out u (on2 p1 hu); have y0 := (qS.2 0 _ rfl).1; have y1 := (qS.2 1 _ rfl).1; have y2 := (qS.2 2 _ rfl).1; have y3 := (qS.2 3 _ rfl).1; have y4 := (qS.2 4 _ rfl).1; have y5 := (qS.2 5 _ rfl).1; clear hu qS r1 r3; go_simp; try with_reducible rfl
      try go_frame
      refine tz ?_
      have p3 : Below W3.heap.size W3 u3 := on2 p1 hb3
      clear hHeld hb3 d2 hb0 d3 hb2
      obtain ⟨⟨r1, r2⟩, r3, qS, hp', hi', hs', sk', _, bw⟩ := HU.out u3 p3
      have HR1 : Hid (u3.rangeAt w.heap.size 0 ps) := r1
      have HR2 : Hid (u3.rangeAt (w.heap.size + 1) 0 is) := r3
      have y0 := (qS.2 0 _ rfl).1
      have y1 := (qS.2 1 _ rfl).1
      have y2 := (qS.2 2 _ rfl).1
      have y3 := (qS.2 3 _ rfl).1
      have y4 := (qS.2 4 _ rfl).1
      have y5 := (qS.2 5 _ rfl).1
      have hltS := qS.1
      have HC := pPlan_calls ps p is i [.slice a0 n0 m0, .slice a1 n1 m1, .slice a2 n2 m2, .slice a3 n3 m3, .slice a4 n4 m4, .slice a5 n5 m5] x u3 hp' hi' hs' ⟨HO.out.2.2.1, HN.out⟩
      clear r1 r2 r3 qS hp' hi' hs' sk' bw hlu1 p1
      --M3
      go_wp2_with (first | (refine wpList_load_mid rfl 33 _ rfl w.heap.size 0 rfl ps _ HR1.out Try.underlying33 rfl hi16 ?_) | (refine wpList_load_mid rfl 38 _ rfl (w.heap.size + 1) 0 rfl is _ HR2.out Try.underlying38 rfl hi15 ?_) | fail)
      refine HC.mono ?_
      rintro e u4 ⟨ga, gn, gc, rfl, sg, d4⟩
      have p4 : Below W3.heap.size W3 u4 := on2 p3 d4
      clear HC y0 y1 y2 y3 y4 y5 HR1 HR2 p3 d4 hltS
      by_cases hy : (planD p i x).2 = 0
      · obtain ⟨L, hL1, hL2, hL3⟩ := plan_zero hy
        obtain ⟨t, ht1, ht2, ht3, ht4⟩ := meets_plain HO.out HN.out hL1
        have e8 : planD p i x = (L, 0) := hL2
        rw [e8] at sg ⊢
        simp only at sg ⊢
        clear hy e8 hL2
        have HDk : Hid (disksP (iDsk i) (pClm p) (iNum i) = false) := hL3
        have HPl : Hid (planL t (sKs x) (iLabs i) (pClm p) [] = .ok []) := ht4
        have HMe : Hid (∀ nm ∈ pClm p, MeetsAt t (iLabs i) nm) := ht3
        have HOt : Hid (OnceP t) := ht2
        have hap : applyP (sVs x, sCs x) L = .ok t := ht1
        clear hL1 hL3 ht1 ht2 ht3 ht4
        obtain ⟨⟨r1, r2⟩, r3, qS, hp', hi', hs', sk', _, bw⟩ := HU.out u4 p4
        have y0 := (qS.2 0 _ rfl).1
        have y1 := (qS.2 1 _ rfl).1
        have y2 := (qS.2 2 _ rfl).1
        have y3 := (qS.2 3 _ rfl).1
        have y4 := (qS.2 4 _ rfl).1
        have y5 := (qS.2 5 _ rfl).1
        have hltS := qS.1
        have HC := pApply_calls [.slice a0 n0 m0, .slice a1 n1 m1, .slice a2 n2 m2, .slice a3 n3 m3, .slice a4 n4 m4, .slice a5 n5 m5] x ga gn gc L u4 hs' sg
        rw [hap] at HC
        clear r1 r2 r3 qS hp' hi' hs' sk' bw sg
        --M4
        go_wp2_with fail
        refine HC.mono ?_
        rintro e u5 hz
        rcases hz with ⟨t', g0, g1, g2, g3, g4, g5, hr, rfl, hd⟩ | ⟨k, hr, _⟩
        · injection hr with hr
          subst hr
          have p5 : Below W3.heap.size W3 u5 := on2 p4 hd.2.2
          have hln := apply_len hap
          have hrT : RState (fun _ => True) u5 [g0, g1, g2, g3, g4, g5] (wVC x t) := hd.rstate HR0.out hln.1 hln.2
          have HND : Hid ((vNs (sVs (wVC x t))).Nodup ∧ (pClm p).Nodup) := ⟨HOt.out.2.2.1, HN.out⟩
          obtain ⟨b0, k0, c0, rfl⟩ := hd.2.1.1.head
          obtain ⟨b1, k1, c1, rfl⟩ := hd.2.1.2.1.head
          obtain ⟨b2, k2, c2, rfl⟩ := hd.1.1.head
          obtain ⟨b3, k3, c3, rfl⟩ := hd.1.2.1.head
          obtain ⟨b4, k4, c4, rfl⟩ := hd.2.1.2.2.1.head
          obtain ⟨b5, k5, c5, rfl⟩ := hd.2.1.2.2.2.head
          obtain ⟨wt, hwt⟩ : ∃ wt, wt = u5.alloc (.cells #[.slice b0 k0 c0, .slice b1 k1 c1, .slice b2 k2 c2, .slice b3 k3 c3, .slice b4 k4 c4, .slice b5 k5 c5] 46) := ⟨_, rfl⟩
          have d5 : Below u5.heap.size u5 wt := by rw [hwt]; exact (Below.refl _ _).alloc (Nat.le_refl _) _
          have qT : BoxL wt u5.heap.size [.slice b0 k0 c0, .slice b1 k1 c1, .slice b2 k2 c2, .slice b3 k3 c3, .slice b4 k4 c4, .slice b5 k5 c5] := by rw [hwt]; exact BoxL.new u5 46 _
          have pt : Below W3.heap.size W3 wt := on2 p5 d5
          have hrows := hd.1
          have HT : Hid (∀ u, Below wt.heap.size wt u → BoxL u u5.heap.size [.slice b0 k0 c0, .slice b1 k1 c1, .slice b2 k2 c2, .slice b3 k3 c3, .slice b4 k4 c4, .slice b5 k5 c5] ∧ RState (fun _ => True) u [.slice b0 k0 c0, .slice b1 k1 c1, .slice b2 k2 c2, .slice b3 k3 c3, .slice b4 k4 c4, .slice b5 k5 c5] (wVC x t) ∧ DnR u4.heap.size u4 u (.slice b2 k2 c2) (.slice b3 k3 c3) t) := fun u hu => ⟨qT.on hu, RState.firm.kept hrT (Kept.below (on2 d5 hu)), hrows.on (on2 d5 hu)⟩
          have HWT : Hid (wt = u5.alloc (.cells #[.slice b0 k0 c0, .slice b1 k1 c1, .slice b2 k2 c2, .slice b3 k3 c3, .slice b4 k4 c4, .slice b5 k5 c5] 46)) := hwt
          clear hd hln hrT qT hrows d5 y0 y1 y2 y3 y4 y5 HC hltS p5 p4 hap HO HR0 hwt
          --M5
          go_upto_region 9 with fail
          rw [← HWT.out]
          clear HWT
          go_upto_region 11 with fail
          --M6
          have hCl : Hid (t.2.length = k3 ∧ t.1.length = k2) := by obtain ⟨_, hrT, _⟩ := HT.out wt (Below.refl _ _); obtain ⟨h0, h1, h2, h3, h4, h5, e, s0, s1, s2, s3, _⟩ := hrT.out; simp only [List.cons.injEq, Value.slice.injEq] at e; exact ⟨by rw [s3.1, e.2.2.2.1.2.1], by rw [s2.1, e.2.2.1.2.1]⟩
          have hlC : k3 ≤ 140737488351232 ∧ k2 ≤ 140737488351232 := by obtain ⟨_, hrT, _⟩ := HT.out wt (Below.refl _ _); obtain ⟨h0, h1, h2, h3, h4, h5, e, s0, s1, s2, s3, _⟩ := hrT.out; simp only [List.cons.injEq, Value.slice.injEq] at e; rw [e.2.2.2.1.2.1, e.2.2.1.2.1]; exact ⟨s3.len (by decide), s2.len (by decide)⟩
          obtain ⟨hlC, hlV⟩ := hlC
          have hlt5 : u5.heap.size < wt.heap.size := (HT.out wt (Below.refl _ _)).1.1
          have hltw : w.heap.size + 1 + 1 < wt.heap.size := (HU.out wt pt).2.2.1.1
          have HPT : Hid (Below W3.heap.size W3 wt) := pt
          clear pt
          go_wp2_with fail
          --L0
          go_loopw [11] (fun j wr => ∃ k : Nat, k ≤ sn ∧ j = .int .i64 k ∧ Hid (Below wt.heap.size wt wr)) (fun j _ => sn - (intOf j).toNat)
          case atStart => exact ⟨0, Nat.zero_le _, rfl, Below.refl _ _⟩
          case round =>
            obtain ⟨k, hk, rfl, hbw⟩ := hrel
            obtain ⟨wk, hwk⟩ : ∃ z, z = wr := ⟨_, rfl⟩
            subst hwk
            have hsz1 : wt.heap.size ≤ wk.heap.size := hbw.out.size
            obtain ⟨⟨_, r2⟩, _, qS, _, _, _, sk', _, _⟩ := HU.out wk (on2 HPT.out hbw.out)
            by_cases hlt : k < sn
            · have hltz : (k : Int) < (sn : Int) := by omega
              obtain ⟨Bk, ok, hBe, _⟩ := sk'.get hlt
              have HK : Hid (∀ u, Below wt.heap.size wt u → u.cell? ⟨w.heap.size, 13, none⟩ = some (.slice (some ⟨Bk, ok, none⟩) sn q3) ∧ u.cell? ⟨Bk, ok + k, none⟩ = some (.string ((pClm p).getD k default)) ∧ Bk < u.heap.size) := fun u hu => by
                obtain ⟨⟨_, r2⟩, _, _, _, _, _, sk', _, _⟩ := HU.out u (on2 HPT.out hu)
                obtain ⟨B9, o9, hB9, hb9, _, cs, hr, hv⟩ := sk'.get hlt
                rw [hBe] at hB9 r2
                injection hB9 with hB9
                injection hB9 with e1 e2
                subst e1
                subst e2
                obtain ⟨rfl, _⟩ := hr
                have := hv 0 _ rfl
                exact ⟨r2, by simpa using this, hb9⟩
              have hmem : (pClm p).getD k default ∈ pClm p := by rw [List.getD_eq_getElem?_getD, List.getElem?_eq_getElem (by rw [hkc.out]; exact hlt)]; exact List.getElem_mem _
              obtain ⟨c, v, hc, _, hv, hcl, hmt⟩ := HMe.out _ hmem
              have hcC := (fI_some hc).1
              have hcN := (fI_some hc).2.1
              have hvV := (fI_some hv).1
              rw [List.length_map] at hcC hvV
              rw [map_getD9 _ hcC] at hcN
              have HIT : Hid (∀ n m, n < t.2.length → m < t.1.length → (((t.2.getD n default).1 = (pClm p).getD k default ∧ (t.1.getD m default).1 = cVo (t.2.getD n default)) ↔ (n = c ∧ m = v))) := fun n m hn hm => hit_iff10 HOt.out hc hv hn hm
              have HHV : Hid (vCl (t.1.getD v default) = (pClm p).getD k default ∧ matchL (iLabs i) (vRq (t.1.getD v default)) = true) := ⟨by rw [hcl]; exact hcN, hmt⟩
              have hck : c < k3 := by rw [← hCl.out.1]; exact hcC
              have hvk : v < k2 := by rw [← hCl.out.2]; exact hvV
              clear hc hv hcl hmt hcC hcN hvV hmem sk' hBe qS
              generalize (pClm p).getD k default = nm at HK HIT HHV
              obtain ⟨c13, _, lBk⟩ := HK.out wk hbw.out
              clear r2
              have hlt5k : u5.heap.size < wk.heap.size := by omega
              have hltwk : w.heap.size + 1 + 1 < wk.heap.size := by omega
              --L1
              go_wp2_with fail
              --L2
              go_loopw [12, 13] (fun th j wr => ∃ n : Nat, n ≤ k3 ∧ j = .int .i64 n ∧ th = .bool (decide (c < n)) ∧ Hid (Below wt.heap.size wt wr)) (fun _ j _ => k3 - (intOf j).toNat)
              case atStart => exact ⟨0, Nat.zero_le _, rfl, by simp, hbw⟩
              case round =>
                obtain ⟨n, hn, rfl, rfl, hbn⟩ := hrel
                generalize hth1 : decide (c < n) = th1
                have HTH1 : Hid (decide (c < n) = th1) := hth1
                clear hth1
                obtain ⟨wn, hwn⟩ : ∃ z, z = wr := ⟨_, rfl⟩
                subst hwn
                obtain ⟨qT, hrT, hDn⟩ := HT.out wn hbn.out
                have y3 := (qT.2 3 _ rfl).1
                have hltn : u5.heap.size < wn.heap.size := qT.1
                by_cases hnl : n < k3
                · have hnz : (n : Int) < (k3 : Int) := by omega
                  clear qT hrT hDn
                  --L3
                  go_wp2_with fail
                  --L4
                  go_loopw [12, 14] (fun th j wr => ∃ m : Nat, m ≤ k2 ∧ j = .int .i64 m ∧ th = .bool (decide (c < n ∨ (c = n ∧ v < m))) ∧ Hid (Below wt.heap.size wt wr)) (fun _ j _ => k2 - (intOf j).toNat)
                  case atStart => exact ⟨0, Nat.zero_le _, rfl, by rw [← HTH1.out]; simp, hbn⟩
                  case round =>
                    obtain ⟨m, hm, rfl, rfl, hbm⟩ := hrel
                    generalize hth0 : decide (c < n ∨ (c = n ∧ v < m)) = th0
                    have HTH : Hid (decide (c < n ∨ (c = n ∧ v < m)) = th0) := hth0
                    clear hth0
                    obtain ⟨wm, hwm⟩ : ∃ z, z = wr := ⟨_, rfl⟩
                    subst hwm
                    obtain ⟨qT, hrT, hDn⟩ := HT.out wm hbm.out
                    have y2 := (qT.2 2 _ rfl).1
                    have hltm : u5.heap.size < wm.heap.size := qT.1
                    by_cases hml : m < k2
                    · have hmz : (m : Int) < (k2 : Int) := by omega
                      have hnT : n < t.2.length := by rw [hCl.out.1]; exact hnl
                      have hmT : m < t.1.length := by rw [hCl.out.2]; exact hml
                      obtain ⟨Bc, cc', csC, eC, _⟩ := hDn.2.1.get11 RClaim.firm hnT
                      obtain ⟨Bv, cv', csV, eV, _, _, hrV, _⟩ := hDn.1.get11 RVolume.firm hmT
                      simp only [Value.slice.injEq] at eC eV
                      obtain ⟨⟨ra, rn, rc⟩, hcsV, _⟩ := hrV.out
                      simp only at hcsV
                      have HF : Hid (∀ u, Below wt.heap.size wt u → u.cell? ⟨u5.heap.size, 3, none⟩ = some (.slice (some ⟨Bc, 0, none⟩) k3 c3) ∧ u.cell? ⟨u5.heap.size, 2, none⟩ = some (.slice (some ⟨Bv, 0, none⟩) k2 c2) ∧ u.cell? ⟨w.heap.size, 13, none⟩ = some (.slice (some ⟨Bk, ok, none⟩) sn q3) ∧ u.cell? ⟨Bk, ok + k, none⟩ = some (.string nm) ∧ u.cell? ⟨Bc, n * 4, none⟩ = some (.string (t.2.getD n default).1) ∧ u.cell? ⟨Bc, n * 4 + 3, none⟩ = some (.string (cVo (t.2.getD n default))) ∧ u.cell? ⟨Bv, m * 5, none⟩ = some (.string (t.1.getD m default).1) ∧ u.cell? ⟨Bv, m * 5 + 4, none⟩ = some (.string (vCl (t.1.getD m default))) ∧ u.cell? ⟨w.heap.size + 1, 1, none⟩ = some (.slice la ln lc)) := fun u hu => by
                        obtain ⟨qT, _, hDn⟩ := HT.out u hu
                        obtain ⟨c13, c14, _⟩ := HK.out u hu
                        obtain ⟨_, _, _, _, _, _, _, ⟨cl, _⟩, _⟩ := HU.out u (on2 HPT.out hu)
                        obtain ⟨Bc', cc2, csC, eC2, _, _, hrC, gC⟩ := hDn.2.1.get11 RClaim.firm hnT
                        obtain ⟨Bv', cv2, csV, eV2, _, _, hrV, gV⟩ := hDn.1.get11 RVolume.firm hmT
                        simp only [Value.slice.injEq] at eC2 eV2
                        have e1 := eC.1.symm.trans eC2.1
                        injection e1 with e1
                        injection e1 with e1
                        subst e1
                        have e2 := eV.1.symm.trans eV2.1
                        injection e2 with e2
                        injection e2 with e2
                        subst e2
                        obtain ⟨rfl, _⟩ := hrC.out
                        obtain ⟨⟨ra, rn, rc⟩, rfl, _⟩ := hrV.out
                        have y3 := (qT.2 3 _ rfl).1
                        have y2 := (qT.2 2 _ rfl).1
                        rw [eC.1] at y3
                        rw [eV.1] at y2
                        have g0 := gC 0 _ rfl
                        have g1 := gV 0 _ rfl
                        exact ⟨y3, y2, c13, c14, by simpa using g0, gC 3 _ rfl, by simpa using g1, gV 4 _ rfl, cl⟩
                      have HRQ : Hid (∃ ra rn rc, ∀ u, Below wt.heap.size wt u → u.cell? ⟨Bv, m * 5 + 3, none⟩ = some (.slice ra rn rc) ∧ SlAt RReq 3 48 (fun _ => True) u ra rn rc (vRq (t.1.getD m default)) ∧ SlAt RLabel 2 32 (fun _ => True) u la ln lc (iLabs i)) := by
                        obtain ⟨_, _, hDw⟩ := HT.out wt (Below.refl _ _)
                        obtain ⟨Bv', cv2, csV, eV2, hlv, _, hrV, gV⟩ := hDw.1.get11 RVolume.firm hmT
                        simp only [Value.slice.injEq] at eV2
                        have e2 := eV.1.symm.trans eV2.1
                        injection e2 with e2
                        injection e2 with e2
                        subst e2
                        obtain ⟨⟨ra, rn, rc⟩, rfl, _, _, hq, _⟩ := hrV.out
                        simp only at hq
                        exact ⟨ra, rn, rc, fun u hu => ⟨(hu.cell (p := ⟨Bv, m * 5 + 3, none⟩) hlv).trans (gV 3 _ rfl), (hq.weak RReq.firm (fun _ _ _ => trivial)).on RReq.firm hu, (HU.out u (on2 HPT.out hu)).2.2.2.2.2.2.2.1.2⟩⟩
                      have HHit : Hid (((t.2.getD n default).1 = nm ∧ (t.1.getD m default).1 = cVo (t.2.getD n default)) ↔ (n = c ∧ m = v)) := HIT.out n m hnT hmT
                      have lBc : Bc < wm.heap.size := by obtain ⟨Bc', cc2, csC, eC2, h1, _⟩ := hDn.2.1.get11 RClaim.firm hnT; simp only [Value.slice.injEq] at eC2; have e1 := eC.1.symm.trans eC2.1; injection e1 with e1; injection e1 with e1; omega
                      clear qT hrT hDn hrV hcsV eC eV y2 y3
                      obtain ⟨pA, hA⟩ : ∃ b, ((t.2.getD n default).1.toList == nm.toList) = b := ⟨_, rfl⟩
                      obtain ⟨pB, hB⟩ : ∃ b, ((t.1.getD m default).1.toList == (cVo (t.2.getD n default)).toList) = b := ⟨_, rfl⟩
                      have HAB : Hid ((pA = true ↔ (t.2.getD n default).1 = nm) ∧ (pB = true ↔ (t.1.getD m default).1 = cVo (t.2.getD n default))) := ⟨by rw [← hA]; exact sEq_iff _ _, by rw [← hB]; exact sEq_iff _ _⟩
                      have HM9 : Hid (n = c ∧ m = v → vCl (t.1.getD m default) = nm ∧ matchL (iLabs i) (vRq (t.1.getD m default)) = true) := by rintro ⟨_, rfl⟩; exact HHV.out
                      generalize vRq (t.1.getD m default) = RQ at HRQ HM9
                      generalize vCl (t.1.getD m default) = vcm at HF HM9
                      generalize (t.1.getD m default).1 = vm at HF HHit HAB hB
                      generalize cVo (t.2.getD n default) = cvn at HF HHit HAB hB
                      generalize (t.2.getD n default).1 = cn at HF HHit HAB hA
                      obtain ⟨_, y2, _⟩ := HF.out wm hbm.out
                      --L5
                      go_upto_region 21 with fail
                      refine t0 (fun z => Below wt.heap.size wt z) (hbm.out.drew) (fun hHeld => ?_)
                      have hb0 : Below wt.heap.size wt wm.drew := hbm.out.drew
                      generalize hwd : wm.drew = wd0 at hHeld hb0 ⊢
                      clear hwd
                      try go_frame
                      refine' tk 0 ?_ ?_; rotate_left
                      · intro u hu; obtain ⟨f1, f2, f3, f4, f5, f6, f7, f8, f9⟩ := HF.out u hu; clear hu; go_simp; try with_reducible rfl
                      try go_frame
                      refine' tk 1 ?_ ?_; rotate_left
                      · intro u hu; obtain ⟨f1, f2, f3, f4, f5, f6, f7, f8, f9⟩ := HF.out u hu; clear hu; go_simp; try with_reducible rfl
                      try go_frame
                      refine' tk 2 ?_ ?_; rotate_left
                      · intro u hu; obtain ⟨f1, f2, f3, f4, f5, f6, f7, f8, f9⟩ := HF.out u hu; clear hu; go_simp; try with_reducible rfl
                      try go_frame
                      refine' tk 3 ?_ ?_; rotate_left
                      · intro u hu; obtain ⟨f1, f2, f3, f4, f5, f6, f7, f8, f9⟩ := HF.out u hu; clear hu; go_simp; try with_reducible rfl
                      try go_frame
                      refine' tk 4 ?_ ?_; rotate_left
                      · intro u hu; obtain ⟨f1, f2, f3, f4, f5, f6, f7, f8, f9⟩ := HF.out u hu; clear hu; go_simp; try with_reducible rfl
                      try go_frame
                      refine' tk 5 ?_ ?_; rotate_left
                      · intro u hu; obtain ⟨f1, f2, f3, f4, f5, f6, f7, f8, f9⟩ := HF.out u hu; clear hu; go_simp; try with_reducible rfl
                      try go_frame
                      refine' tk 6 ?_ ?_; rotate_left
                      · intro u hu; obtain ⟨f1, f2, f3, f4, f5, f6, f7, f8, f9⟩ := HF.out u hu; clear hu; go_simp; try with_reducible rfl
                      try go_frame
                      refine' tk 7 ?_ ?_; rotate_left
                      · intro u hu; obtain ⟨f1, f2, f3, f4, f5, f6, f7, f8, f9⟩ := HF.out u hu; clear hu; go_simp; try with_reducible rfl
                      try go_frame
                      refine' tk 8 ?_ ?_; rotate_left
                      · intro u hu; obtain ⟨f1, f2, f3, f4, f5, f6, f7, f8, f9⟩ := HF.out u hu; clear hu; go_simp; try with_reducible rfl
                      try go_frame
                      refine' tk 9 ?_ ?_; rotate_left
                      · intro u hu; obtain ⟨f1, f2, f3, f4, f5, f6, f7, f8, f9⟩ := HF.out u hu; clear hu; go_simp; try with_reducible rfl
                      try go_frame
                      refine' tk 10 ?_ ?_; rotate_left
                      · intro u hu; obtain ⟨f1, f2, f3, f4, f5, f6, f7, f8, f9⟩ := HF.out u hu; clear hu; go_simp; try with_reducible rfl
                      try go_frame
                      refine' tk 11 ?_ ?_; rotate_left
                      · intro u hu; obtain ⟨f1, f2, f3, f4, f5, f6, f7, f8, f9⟩ := HF.out u hu; clear hu; go_simp; try with_reducible rfl
                      try go_frame
                      refine' tk 12 ?_ ?_; rotate_left
                      · intro u hu; obtain ⟨f1, f2, f3, f4, f5, f6, f7, f8, f9⟩ := HF.out u hu; clear hu; go_simp; try with_reducible rfl
                      try go_frame
                      cases pA with
                      | false =>
                        refine tn 13 ?_
                        try go_frame
                        refine tn 14 ?_
                        try go_frame
                        refine tn 15 ?_
                        try go_frame
                        refine tn 16 ?_
                        try go_frame
                        refine tn 17 ?_
                        try go_frame
                        refine tn 18 ?_
                        try go_frame
                        refine tn 19 ?_
                        try go_frame
                        refine tn 20 ?_
                        try go_frame
                        refine tn 21 ?_
                        try go_frame
                        refine tn 22 ?_
                        try go_frame
                        refine tn 23 ?_
                        try go_frame
                        refine tn 24 ?_
                        try go_frame
                        refine tn 25 ?_
                        try go_frame
                        refine' tk 26 ?_ ?_; rotate_left
                        · intro u hu; clear hu; go_simp; try with_reducible rfl
                        try go_frame
                        refine tz ?_
                        have hno : ¬ (n = c ∧ m = v) := fun e => by have := HAB.out.1.2 (HHit.out.2 e).1; cases this
                        have hst : Hid (decide (c < n ∨ (c = n ∧ v < m + 1)) = th0) := by show _ = _; rw [hit_step, ← HTH.out]; simp [hno]
                        have hbz : Hid (Below wt.heap.size wt wd0) := hb0
                        clear hHeld hb0 HF HHit HAB HM9 hA hB hno
                        --L6
                        go_wp2_with fail
                        go_roundw
                        case rel => exact ⟨m + 1, by omega, by simp, by rw [hst.out], hbz⟩
                        case measure => simp [intOf]; omega
                      | true =>
                        refine' tk 13 ?_ ?_; rotate_left
                        · intro u hu; obtain ⟨f1, f2, f3, f4, f5, f6, f7, f8, f9⟩ := HF.out u hu; clear hu; go_simp; try with_reducible rfl
                        try go_frame
                        refine' tk 14 ?_ ?_; rotate_left
                        · intro u hu; obtain ⟨f1, f2, f3, f4, f5, f6, f7, f8, f9⟩ := HF.out u hu; clear hu; go_simp; try with_reducible rfl
                        try go_frame
                        refine' tk 15 ?_ ?_; rotate_left
                        · intro u hu; obtain ⟨f1, f2, f3, f4, f5, f6, f7, f8, f9⟩ := HF.out u hu; clear hu; go_simp; try with_reducible rfl
                        try go_frame
                        refine' tk 16 ?_ ?_; rotate_left
                        · intro u hu; obtain ⟨f1, f2, f3, f4, f5, f6, f7, f8, f9⟩ := HF.out u hu; clear hu; go_simp; try with_reducible rfl
                        try go_frame
                        refine' tk 17 ?_ ?_; rotate_left
                        · intro u hu; obtain ⟨f1, f2, f3, f4, f5, f6, f7, f8, f9⟩ := HF.out u hu; clear hu; go_simp; try with_reducible rfl
                        try go_frame
                        refine' tk 18 ?_ ?_; rotate_left
                        · intro u hu; obtain ⟨f1, f2, f3, f4, f5, f6, f7, f8, f9⟩ := HF.out u hu; clear hu; go_simp; try with_reducible rfl
                        try go_frame
                        refine' tk 19 ?_ ?_; rotate_left
                        · intro u hu; obtain ⟨f1, f2, f3, f4, f5, f6, f7, f8, f9⟩ := HF.out u hu; clear hu; go_simp; try with_reducible rfl
                        try go_frame
                        refine' tk 20 ?_ ?_; rotate_left
                        · intro u hu; obtain ⟨f1, f2, f3, f4, f5, f6, f7, f8, f9⟩ := HF.out u hu; clear hu; go_simp; try with_reducible rfl
                        try go_frame
                        refine' tk 21 ?_ ?_; rotate_left
                        · intro u hu; obtain ⟨f1, f2, f3, f4, f5, f6, f7, f8, f9⟩ := HF.out u hu; clear hu; go_simp; try with_reducible rfl
                        try go_frame
                        refine' tk 22 ?_ ?_; rotate_left
                        · intro u hu; obtain ⟨f1, f2, f3, f4, f5, f6, f7, f8, f9⟩ := HF.out u hu; clear hu; go_simp; try with_reducible rfl
                        try go_frame
                        refine' tk 23 ?_ ?_; rotate_left
                        · intro u hu; obtain ⟨f1, f2, f3, f4, f5, f6, f7, f8, f9⟩ := HF.out u hu; clear hu; go_simp; try with_reducible rfl
                        try go_frame
                        refine' tk 24 ?_ ?_; rotate_left
                        · intro u hu; obtain ⟨f1, f2, f3, f4, f5, f6, f7, f8, f9⟩ := HF.out u hu; clear hu; go_simp; try with_reducible rfl
                        try go_frame
                        refine' tk 25 ?_ ?_; rotate_left
                        · intro u hu; obtain ⟨f1, f2, f3, f4, f5, f6, f7, f8, f9⟩ := HF.out u hu; clear hu; go_simp; try with_reducible rfl
                        try go_frame
                        refine' tk 26 ?_ ?_; rotate_left
                        · intro u hu; obtain ⟨f1, f2, f3, f4, f5, f6, f7, f8, f9⟩ := HF.out u hu; clear hu; go_simp; try with_reducible rfl
                        try go_frame
                        refine tz ?_
                        cases pB with
                        | false =>
                          have hno : ¬ (n = c ∧ m = v) := fun e => by have := HAB.out.2.2 (HHit.out.2 e).2; cases this
                          have hst : Hid (decide (c < n ∨ (c = n ∧ v < m + 1)) = th0) := by show _ = _; rw [hit_step, ← HTH.out]; simp [hno]
                          have hbz : Hid (Below wt.heap.size wt wd0) := hb0
                          clear hHeld hb0 HF HHit HAB HM9 hA hB hno
                            --L7
                          go_wp2_with fail
                          go_roundw
                          case rel => exact ⟨m + 1, by omega, by simp, by rw [hst.out], hbz⟩
                          case measure => simp [intOf]; omega
                        | true =>
                          have hyes := HHit.out.1 ⟨HAB.out.1.1 rfl, HAB.out.2.1 rfl⟩
                          have hst : Hid (decide (c < n ∨ (c = n ∧ v < m + 1)) = true) := by show _ = _; rw [hit_step]; simp [hyes]
                          obtain ⟨hm1, hm2⟩ := HM9.out hyes
                          have hm3 : (vcm.toList == nm.toList) = true := (sEq_iff _ _).2 hm1
                          have Hm2 : Hid (matchL (iLabs i) RQ = true) := hm2
                          clear hHeld HHit HAB HM9 hA hB hyes hm1 hm2
                          --L8
                          go_upto_region 22 with fail
                          refine t0 (fun z => Below wt.heap.size wt z) (hb0.drew) (fun hHeld => ?_)
                          have hb1 : Below wt.heap.size wt wd0.drew := hb0.drew
                          generalize hwd : wd0.drew = wd1 at hHeld hb1 ⊢
                          clear hwd hb0
                          try go_frame
                          refine' tk 0 ?_ ?_; rotate_left
                          · intro u hu; obtain ⟨f1, f2, f3, f4, f5, f6, f7, f8, f9⟩ := HF.out u hu; clear hu; go_simp; try with_reducible rfl
                          try go_frame
                          refine' tk 1 ?_ ?_; rotate_left
                          · intro u hu; obtain ⟨f1, f2, f3, f4, f5, f6, f7, f8, f9⟩ := HF.out u hu; clear hu; go_simp; try with_reducible rfl
                          try go_frame
                          refine' tk 2 ?_ ?_; rotate_left
                          · intro u hu; obtain ⟨f1, f2, f3, f4, f5, f6, f7, f8, f9⟩ := HF.out u hu; clear hu; go_simp; try with_reducible rfl
                          try go_frame
                          refine' tk 3 ?_ ?_; rotate_left
                          · intro u hu; obtain ⟨f1, f2, f3, f4, f5, f6, f7, f8, f9⟩ := HF.out u hu; clear hu; go_simp; try with_reducible rfl
                          try go_frame
                          refine' tk 4 ?_ ?_; rotate_left
                          · intro u hu; obtain ⟨f1, f2, f3, f4, f5, f6, f7, f8, f9⟩ := HF.out u hu; clear hu; go_simp; try with_reducible rfl
                          try go_frame
                          refine' tk 5 ?_ ?_; rotate_left
                          · intro u hu; obtain ⟨f1, f2, f3, f4, f5, f6, f7, f8, f9⟩ := HF.out u hu; clear hu; go_simp; try with_reducible rfl
                          try go_frame
                          refine' tk 6 ?_ ?_; rotate_left
                          · intro u hu; obtain ⟨f1, f2, f3, f4, f5, f6, f7, f8, f9⟩ := HF.out u hu; clear hu; go_simp; try with_reducible rfl
                          try go_frame
                          refine' tk 7 ?_ ?_; rotate_left
                          · intro u hu; obtain ⟨f1, f2, f3, f4, f5, f6, f7, f8, f9⟩ := HF.out u hu; clear hu; go_simp; try with_reducible rfl
                          try go_frame
                          refine' tk 8 ?_ ?_; rotate_left
                          · intro u hu; obtain ⟨f1, f2, f3, f4, f5, f6, f7, f8, f9⟩ := HF.out u hu; clear hu; go_simp; try with_reducible rfl
                          try go_frame
                          refine' tk 9 ?_ ?_; rotate_left
                          · intro u hu; obtain ⟨f1, f2, f3, f4, f5, f6, f7, f8, f9⟩ := HF.out u hu; clear hu; go_simp; try with_reducible rfl
                          try go_frame
                          refine' tk 10 ?_ ?_; rotate_left
                          · intro u hu; obtain ⟨f1, f2, f3, f4, f5, f6, f7, f8, f9⟩ := HF.out u hu; clear hu; go_simp; try with_reducible rfl
                          try go_frame
                          refine' tk 11 ?_ ?_; rotate_left
                          · intro u hu; obtain ⟨f1, f2, f3, f4, f5, f6, f7, f8, f9⟩ := HF.out u hu; clear hu; go_simp; try with_reducible rfl
                          try go_frame
                          refine' tk 12 ?_ ?_; rotate_left
                          · intro u hu; obtain ⟨f1, f2, f3, f4, f5, f6, f7, f8, f9⟩ := HF.out u hu; clear hu; go_simp; try with_reducible rfl
                          try go_frame
                          obtain ⟨ra, rn, rc, hra⟩ : ∃ ra rn rc, ∀ u, Below wt.heap.size wt u → u.cell? ⟨Bv, m * 5 + 3, none⟩ = some (.slice ra rn rc) ∧ SlAt RReq 3 48 (fun _ => True) u ra rn rc RQ ∧ SlAt RLabel 2 32 (fun _ => True) u la ln lc (iLabs i) := HRQ.out
                          have HRA : Hid (∀ u, Below wt.heap.size wt u → u.cell? ⟨Bv, m * 5 + 3, none⟩ = some (.slice ra rn rc) ∧ SlAt RReq 3 48 (fun _ => True) u ra rn rc RQ ∧ SlAt RLabel 2 32 (fun _ => True) u la ln lc (iLabs i)) := hra
                          clear hra
                          refine' tk 13 ?_ ?_; rotate_left
                          · intro u hu; obtain ⟨f1, f2, f3, f4, f5, f6, f7, f8, f9⟩ := HF.out u hu; obtain ⟨f10, _, _⟩ := HRA.out u hu; clear hu; go_simp; try with_reducible rfl
                          try go_frame
                          refine' tk 14 ?_ ?_; rotate_left
                          · intro u hu; obtain ⟨f1, f2, f3, f4, f5, f6, f7, f8, f9⟩ := HF.out u hu; obtain ⟨f10, _, _⟩ := HRA.out u hu; clear hu; go_simp; try with_reducible rfl
                          try go_frame
                          refine' tk 15 ?_ ?_; rotate_left
                          · intro u hu; obtain ⟨f1, f2, f3, f4, f5, f6, f7, f8, f9⟩ := HF.out u hu; obtain ⟨f10, _, _⟩ := HRA.out u hu; clear hu; go_simp; try with_reducible rfl
                          try go_frame
                          refine' tk 16 ?_ ?_; rotate_left
                          · intro u hu; obtain ⟨f1, f2, f3, f4, f5, f6, f7, f8, f9⟩ := HF.out u hu; obtain ⟨f10, _, _⟩ := HRA.out u hu; clear hu; go_simp; try with_reducible rfl
                          try go_frame
                          refine' tk 17 ?_ ?_; rotate_left
                          · intro u hu; obtain ⟨f1, f2, f3, f4, f5, f6, f7, f8, f9⟩ := HF.out u hu; obtain ⟨f10, _, _⟩ := HRA.out u hu; clear hu; go_simp; try with_reducible rfl
                          try go_frame
                          refine' tk 18 ?_ ?_; rotate_left
                          · intro u hu; obtain ⟨f1, f2, f3, f4, f5, f6, f7, f8, f9⟩ := HF.out u hu; obtain ⟨f10, _, _⟩ := HRA.out u hu; clear hu; go_simp; try with_reducible rfl
                          try go_frame
                          refine' tk 19 ?_ ?_; rotate_left
                          · intro u hu; obtain ⟨f1, f2, f3, f4, f5, f6, f7, f8, f9⟩ := HF.out u hu; obtain ⟨f10, _, _⟩ := HRA.out u hu; clear hu; go_simp; try with_reducible rfl
                          try go_frame
                          refine' tk 20 ?_ ?_; rotate_left
                          · intro u hu; obtain ⟨f1, f2, f3, f4, f5, f6, f7, f8, f9⟩ := HF.out u hu; obtain ⟨f10, _, _⟩ := HRA.out u hu; clear hu; go_simp; try with_reducible rfl
                          try go_frame
                          refine' tk 21 ?_ ?_; rotate_left
                          · intro u hu; obtain ⟨f1, f2, f3, f4, f5, f6, f7, f8, f9⟩ := HF.out u hu; obtain ⟨f10, _, _⟩ := HRA.out u hu; clear hu; go_simp; try with_reducible rfl
                          try go_frame
                          have hC := Match_sl la ln lc _ (iLabs i) ra rn rc _ RQ wd1 (HRA.out wd1 hb1).2.2 (HRA.out wd1 hb1).2.1
                          rw [Hm2.out] at hC
                          refine tr 22 (fun K hK => ?_)
                          go_simp
                          refine hC.mono ?_
                          rintro e u9 ⟨rfl, d9⟩
                          clear hC
                          have hb9 : Below wt.heap.size wt u9 := on2 hb1 d9
                          go_wp2_with fail
                          refine hK.out _ _ hb9 (fun hHeld2 => ?_)
                          clear hK K hHeld; have hHeld := hHeld2; clear hHeld2
                          try go_frame
                          refine' tk 23 ?_ ?_; rotate_left
                          · intro u hu; clear hu; go_simp; try with_reducible rfl
                          try go_frame
                          refine' tk 24 ?_ ?_; rotate_left
                          · intro u hu; clear hu; go_simp; try with_reducible rfl
                          try go_frame
                          refine tz ?_
                          have hbz : Hid (Below wt.heap.size wt u9) := hb9
                          clear hHeld hb1 hb9 d9 HF HRA HRQ hm3 Hm2
                          --L9
                          go_wp2_with fail
                          go_roundw
                          case rel => exact ⟨m + 1, by omega, by simp, by rw [hst.out], hbz⟩
                          case measure => simp [intOf]; omega
                    · obtain rfl : m = k2 := by omega
                      have hth : Hid (th0 = decide (c < n + 1)) := HTH.out.symm.trans (hit_row hvk)
                      clear qT hrT hDn
                      --L10
                      go_wp2_with fail
                      go_roundw
                      case rel => exact ⟨n + 1, by omega, by simp, by rw [hth.out], hbm⟩
                      case measure => simp [intOf]; omega
                · obtain rfl : n = k3 := by omega
                  have hth : th1 = true := by rw [← HTH1.out]; simp [hck]
                  subst hth
                  clear qT hrT hDn
                  --L11
                  go_wp2_with fail
                  go_roundw
                  case rel => exact ⟨k + 1, by omega, by simp, hbn⟩
                  case measure => simp [intOf]; omega
            · obtain rfl : k = sn := by omega
              have dz : Below wt.heap.size wt wk := hbw.out
              have pz : Below W3.heap.size W3 wk := on2 HPT.out dz
              obtain ⟨wz, hwz⟩ : ∃ z, z = wk := ⟨_, rfl⟩
              subst hwz
              clear r2 qS sk' hbw
              --L12
              obtain ⟨⟨r1, r2⟩, r3, qS, hp', hi', hs', sk', _, bw⟩ := HU.out wz pz
              have HR1 : Hid (wz.rangeAt w.heap.size 0 ps) := r1
              have HR2 : Hid (wz.rangeAt (w.heap.size + 1) 0 is) := r3
              obtain ⟨qT, hrT, _⟩ := HT.out wz dz
              have y0 := (qT.2 0 _ rfl).1
              have y1 := (qT.2 1 _ rfl).1
              have y2 := (qT.2 2 _ rfl).1
              have y3 := (qT.2 3 _ rfl).1
              have y4 := (qT.2 4 _ rfl).1
              have y5 := (qT.2 5 _ rfl).1
              have hltT := qT.1
              have HC := pPlan_calls ps p is i [.slice b0 k0 c0, .slice b1 k1 c1, .slice b2 k2 c2, .slice b3 k3 c3, .slice b4 k4 c4, .slice b5 k5 c5] (wVC x t) wz hp' hi' hrT HND.out
              rw [show planD p i (wVC x t) = ([], 0) from plan_again HDk.out HPl.out] at HC
              clear r1 r3 qS hp' hi' hs' sk' qT hrT HND HDk HPl
              have HBw : Hid (Below w.heap.size w wz) := bw
              clear bw
              --T1
              go_wp2_with (first | (refine wpList_load_mid rfl 33 _ rfl w.heap.size 0 rfl ps _ HR1.out Try.underlying33 rfl hi16 ?_) | (refine wpList_load_mid rfl 38 _ rfl (w.heap.size + 1) 0 rfl is _ HR2.out Try.underlying38 rfl hi15 ?_) | fail)
              refine HC.mono ?_
              rintro e u9 ⟨la, ln, lc, rfl, sl9, d9⟩
              have hln : ln = 0 := sl9.1.symm
              subst hln
              have HE : Hid (Below w.heap.size w u9) := on2 HBw.out d9
              clear HC sl9 d9 y0 y1 y2 y3 y4 y5 HR1 HR2
              --T2
              go_wp2_with fail
              go_ret
              exact ⟨rfl, HE.out⟩
        · cases hr
      · have hbad := plan_bad hy
        have e1 : (planD p i x).1 = [] := hbad.1
        rw [e1] at sg
        have hgn : gn = 0 := sg.1.symm
        subst hgn
        obtain ⟨y, hyy⟩ : ∃ y, (planD p i x).2 = y := ⟨_, rfl⟩
        have h1 : (13 : Int) ≤ y := by rw [← hyy]; exact hbad.2.1
        have h2 : y ≤ 15 := by rw [← hyy]; exact hbad.2.2
        have h3 : ¬ y = 0 := by omega
        have HE : Hid (Below w.heap.size w u4) := (HU.out u4 p4).2.2.2.2.2.2.2.2
        rw [hyy]
        clear hyy e1 hbad sg hy p4
        --M7
        go_wp2_with fail
        go_ret
        exact ⟨by simp [h1, h2], HE.out⟩
end Go.Proofs.Ytmnldngojgldiaa
