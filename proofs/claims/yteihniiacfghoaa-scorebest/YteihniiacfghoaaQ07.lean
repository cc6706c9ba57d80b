/- Least, by the document. Condition: what is handed in lies as is said of it. quant.each with the method plus adds member by member, and changes nothing that was there. No condition. quant.each with the method minus takes away member by member, and changes nothing that was there. No condition. quant.Plus, quant.Minus and quant.Fits over amounts of several things: what they return, and that they change nothing that was there. No condition. shares and between, by the program. No condition. -/
import Derived.Test.YteihniiacfghoaaQ05
import Derived.Test.YteihniiacfghoaaQ06
import Derived.Deep.CutBlock
import Derived.BigQuiet
namespace Go.Proofs.Yteihniiacfghoaa
open Go.RowKit Go.Maps
set_option linter.unusedSimpArgs false
set_option maxRecDepth 100000

/-- A pod and an info in boxes of the call's own. -/
structure PiB (w u : World) (ps is : List Value) : Prop where
  x : BoxL u w.heap.size ps
  y : BoxL u (w.heap.size + 1) is
  b : Below w.heap.size w u
theorem PiB.on {w u u' : World} {ps is : List Value} (h : PiB w u ps is) (hb : Below u.heap.size u u') : PiB w u' ps is := ⟨h.x.on hb, h.y.on hb, on2 h.b hb⟩
theorem PiB.new (w : World) (ps is : List Value) (e e' : TypeId) : PiB w ((w.alloc (.cells ps.toArray e)).alloc (.cells is.toArray e')) ps is := by
  refine ⟨(BoxL.new w e ps).on ((Below.refl _ _).alloc (Nat.le_refl _) _), ?_, by go_grown⟩
  have := BoxL.new (w.alloc (.cells ps.toArray e)) e' is
  rwa [World.size_alloc] at this
/-- The pod's wants and the info's amounts, as they lie in the boxes. -/
def AmtAt (w : World) (p : PodD) (i : InfoD) (z : World) : Prop :=
  z.rangeAt w.heap.size 3 [.int .i64 (pWant p).1, .int .i64 (pWant p).2.1, .int .i64 (pWant p).2.2] ∧ z.rangeAt (w.heap.size + 1) 4 [.int .i64 (iGive i).1, .int .i64 (iGive i).2.1, .int .i64 (iGive i).2.2] ∧ z.rangeAt (w.heap.size + 1) 10 [.int .i64 (iUsed i).1, .int .i64 (iUsed i).2.1, .int .i64 (iUsed i).2.2]
theorem range3 {z : World} {D off : Nat} {cs : List Value} (h : BoxL z D cs) {a b c : Value} (h0 : cs[off]? = some a) (h1 : cs[off + 1]? = some b) (h2 : cs[off + 2]? = some c) : z.rangeAt D off [a, b, c] := fun j v hj => by
  have hj3 : j < 3 := (List.getElem?_eq_some_iff.1 hj).1
  rcases (show j = 0 ∨ j = 1 ∨ j = 2 by omega) with rfl | rfl | rfl
  · obtain rfl : a = v := by simpa using hj
    exact (h.2 off _ h0).1
  · obtain rfl : b = v := by simpa using hj
    exact (h.2 (off + 1) _ h1).1
  · obtain rfl : c = v := by simpa using hj
    exact (h.2 (off + 2) _ h2).1
theorem PiB.amt {w u : World} {ps is : List Value} {A A' : Where} {v v' : World} {p : PodD} {i : InfoD} (h : PiB w u ps is) (hp : RPod A v ps p) (hi : RInfo A' v' is i) : AmtAt w p i u := by
  obtain ⟨g2, g6, g7, g8, g9, g10, g11, g12, g13, rfl, _⟩ := hp.out
  obtain ⟨k1, k2, k9, k13, k14, rfl, _⟩ := hi.out
  exact ⟨range3 h.x rfl rfl rfl, range3 h.y rfl rfl rfl, range3 h.y rfl rfl rfl⟩
theorem box_overS {u : World} {D : Nat} {zs cs : List Value} (hb : BoxL u D zs) (hl : zs.length = cs.length) : BoxL (u.setCells D 0 cs) D cs := by
  have hth : u.there D 0 cs.length := hl ▸ hb.there
  have hr := World.rangeAt_setCells_same u D 0 cs hth
  have ht2 := World.there_setCells hth D 0 cs
  refine ⟨Nat.lt_of_lt_of_le hb.1 (kept_setCells (A := fun _ => False) (b := D) (fun h => h) (vs := cs) (o := 0) (u := u)).1, fun j v hj => ?_⟩
  have h1 := hr j v hj
  have h2 := (ht2 j (List.getElem?_eq_some_iff.1 hj).1).2
  rw [Nat.zero_add] at h1 h2
  exact ⟨h1, h2⟩
theorem want_yesS {c : Prop} [Decidable c] {A B : Prop} (h : c) (k : A) : if c then A else B := by rw [if_pos h]; exact k
theorem at_wS {K : Act → World → Prop} {a : Act} {u W : World} (h : W = u) (k : K a W) : K a u := h ▸ k
theorem rng0 {z : World} {D off : Nat} {a b c : Value} (h : z.rangeAt D off [a, b, c]) : z.cell? ⟨D, off, none⟩ = some a ∧ z.cell? ⟨D, off + 1, none⟩ = some b := ⟨by have := h 0 a rfl; rwa [Nat.add_zero] at this, h 1 b rfl⟩
set_option maxHeartbeats 8000000 in
theorem rLeast_calls (ps is : List Value) (A A' : Where) (p : PodD) (i : InfoD) (w : World) (hp : Hid (RPod A w ps p)) (hi : Hid (RInfo A' w is i)) : Calls Try.prog 11 #[.agg ps.toArray, .agg is.toArray] w fun e w' => e = .returned (.int .i64 (leastP p i)) ∧ Below w.heap.size w w' := by
  obtain ⟨W2, hW2⟩ : ∃ W2, W2 = (w.alloc (.cells ps.toArray 33)).alloc (.cells is.toArray 41) := ⟨_, rfl⟩
  have hB : PiB w W2 ps is := by rw [hW2]; exact PiB.new w ps is _ _
  have HA : Hid (∀ z, Below W2.heap.size W2 z → AmtAt w p i z) := fun z hz => (hB.on hz).amt hp.out hi.out
  have HB : Hid (Below w.heap.size w W2) := hB.b
  obtain ⟨⟨g1, g2, g3⟩, hg⟩ : ∃ r, r = iGive i := ⟨_, rfl⟩
  obtain ⟨⟨u1, u2, u3⟩, hu⟩ : ∃ r, r = iUsed i := ⟨_, rfl⟩
  obtain ⟨⟨x1, x2, x3⟩, hx⟩ : ∃ r, r = pWant p := ⟨_, rfl⟩
  have HP : Hid (leastP p i = (shareI (subI (subI g1 u1) x1) g1 100 + shareI (subI (subI g2 u2) x2) g2 100) / 2) := by rw [Hid, leastP, ← hg, ← hu, ← hx]; rfl
  unfold AmtAt at HA
  rw [← hg, ← hu, ← hx] at HA
  dsimp only at HA
  obtain ⟨P, hP⟩ : ∃ P, P = w.heap.size := ⟨_, rfl⟩
  obtain ⟨I, hI⟩ : ∃ I, I = w.heap.size + 1 := ⟨_, rfl⟩
  rw [← hI, ← hP] at HA
  have hW2' : (w.alloc (.cells ps.toArray 33)).alloc (.cells is.toArray 41) = W2 := hW2.symm
  have HPI : Hid (w.heap.size = P ∧ w.heap.size + 1 = I) := ⟨hP.symm, hI.symm⟩
  clear hB hp hi hg hu hx hP hI hW2
  go_enter Try.func11, Try.ntmps11
  go_upto_region 1 with fail

  rw [HPI.out.2, HPI.out.1]
  clear hW2'
  --M1
  go_cut [5] (fun x wc => ∃ X, x = .pointer (some ⟨X, 0, none⟩) ∧ Hid (Below W2.heap.size W2 wc ∧ BoxL wc X [.int .i64 (subI (subI g1 u1) x1), .int .i64 (subI (subI g2 u2) x2), .int .i64 (subI (subI g3 u3) x3)]))
  case first =>
    have hb0 : Below W2.heap.size W2 W2.drew := (Below.refl _ _).drew
    refine t0 (fun z => Below W2.heap.size W2 z) hb0 (fun hHeld => ?_)
    generalize W2.drew = wd at hHeld ⊢
    clear hb0
    try go_frame
    refine' tk 0 ?_ ?_; rotate_left
    · intro z hz; clear hz; go_simp; try with_reducible rfl
    try go_frame
    refine' tk 1 ?_ ?_; rotate_left
    · intro z hz; clear hz; go_simp; try with_reducible rfl
    try go_frame
    refine tq 2 (.agg #[.int .i64 g1, .int .i64 g2, .int .i64 g3]) (yieldsIf_load_mid (by rfl) 24 _ rfl I 4 (by go_simp) [.int .i64 g1, .int .i64 g2, .int .i64 g3] _ (fun z hz => (HA.out z hz).2.1) Try.underlying24 rfl (by kernel_rfl)) ?_ (hi := rfl)
    try go_frame
    refine' tk 3 ?_ ?_; rotate_left
    · intro z hz; clear hz; go_simp; try with_reducible rfl
    try go_frame
    refine tq 4 (.agg #[.int .i64 u1, .int .i64 u2, .int .i64 u3]) (yieldsIf_load_mid (by rfl) 24 _ rfl I 10 (by go_simp) [.int .i64 u1, .int .i64 u2, .int .i64 u3] _ (fun z hz => (HA.out z hz).2.2) Try.underlying24 rfl (by kernel_rfl)) ?_ (hi := rfl)
    try go_frame
    refine' tk 6 ?_ ?_; rotate_left
    · intro z hz; clear hz; go_simp; try with_reducible rfl
    try go_frame
    refine tq 7 (.agg #[.int .i64 x1, .int .i64 x2, .int .i64 x3]) (yieldsIf_load_mid (by rfl) 24 _ rfl P 3 (by go_simp) [.int .i64 x1, .int .i64 x2, .int .i64 x3] _ (fun z hz => (HA.out z hz).1) Try.underlying24 rfl (by kernel_rfl)) ?_ (hi := rfl)
    try go_frame
    --M2
    refine tb 5 9 (fun K hK => ?_) (fun K hK => ?_)
    · go_simp
      refine (rminus_calls g1 g2 g3 u1 u2 u3  wd).mono ?_
      rintro e w5 ⟨rfl, bw5⟩
      have hb9 : Below W2.heap.size W2 w5 := on2 hHeld bw5
      clear bw5
      go_wp2_with fail
      refine hK.out _ _ hb9 (fun hHeld2 => ?_)
      clear hb9
      clear hK K hHeld; have hHeld := hHeld2; clear hHeld2
      try go_frame
      refine tb 8 9 (fun K hK => ?_) (fun K hK => ?_)
      · go_simp
        refine (rminus_calls (subI g1 u1) (subI g2 u2) (subI g3 u3) x1 x2 x3  w5).mono ?_
        rintro e w6 ⟨rfl, bw6⟩
        have hb9 : Below W2.heap.size W2 w6 := on2 hHeld bw6
        clear bw6
        go_wp2_with fail
        refine hK.out _ _ hb9 (fun hHeld2 => ?_)
        clear hb9
        clear hK K hHeld; have hHeld := hHeld2; clear hHeld2
        try go_frame
        refine tr 9 (fun K hK => ?_)
        go_simp
        obtain ⟨X, hX⟩ : ∃ X, X = w6.heap.size := ⟨_, rfl⟩
        obtain ⟨w7, hw7⟩ : ∃ Z, Z = w6.alloc (.cells #[.int .i64 0, .int .i64 0, .int .i64 0] 24) := ⟨_, rfl⟩
        have bw7 : Below w6.heap.size w6 w7 := by rw [hw7]; exact (Below.refl _ _).alloc (Nat.le_refl _) _
        have HX : Hid (BoxL w7 X [.int .i64 0, .int .i64 0, .int .i64 0]) := by rw [hw7, hX]; exact BoxL.new w6 24 _
        have HXl : Hid (W2.heap.size ≤ X) := by rw [hX]; exact hHeld.size
        rw [← hw7, ← hX]
        have hb9 : Below W2.heap.size W2 w7 := on2 hHeld bw7
        clear hw7 hX bw7
        refine hK.out _ _ hb9 (fun hHeld2 => ?_)
        clear hb9
        clear hK K hHeld; have hHeld := hHeld2; clear hHeld2
        try go_frame
        refine ts 10 (fun K hK => ?_)
        obtain ⟨W9, hW9⟩ : ∃ Z, Z = w7.setCells X 0 [.int .i64 (subI (subI g1 u1) x1), .int .i64 (subI (subI g2 u2) x2), .int .i64 (subI (subI g3 u3) x3)] := ⟨_, rfl⟩
        have hb9 : Below W2.heap.size W2 W9 := by rw [hW9]; exact below_setCells hHeld HXl.out
        have HX9 : Hid (BoxL W9 X [.int .i64 (subI (subI g1 u1) x1), .int .i64 (subI (subI g2 u2) x2), .int .i64 (subI (subI g3 u3) x3)]) := by rw [hW9]; exact box_overS HX.out rfl
        have HTh : Hid (w7.there X 0 3) := HX.out.there
        refine want_yesS (by rfl) (wp_store_mid 24 _ _ rfl X 0 [.int .i64 (subI (subI g1 u1) x1), .int .i64 (subI (subI g2 u2) x2), .int .i64 (subI (subI g3 u3) x3)].toArray rfl rfl HTh.out (by kernel_rfl) (by simp [Value.oneCell']) ?_)
        refine at_wS hW9 ?_
        clear hW9 HTh HX HXl
        refine hK.out _ _ hb9 (fun hHeld2 => ?_)
        clear hb9
        clear hK K hHeld; have hHeld := hHeld2; clear hHeld2
        try go_frame
        refine tz ?_
        have HE : Hid (Below W2.heap.size W2 W9) := hHeld
        clear hHeld
        go_wp2_with fail
        go_meet
        exact ⟨X, rfl, HE.out, HX9.out⟩
      · go_simp
        obtain ⟨X, hX⟩ : ∃ X, X = w5.heap.size := ⟨_, rfl⟩
        obtain ⟨w6, hw6⟩ : ∃ Z, Z = w5.alloc (.cells #[.int .i64 0, .int .i64 0, .int .i64 0] 24) := ⟨_, rfl⟩
        have bw6 : Below w5.heap.size w5 w6 := by rw [hw6]; exact (Below.refl _ _).alloc (Nat.le_refl _) _
        have HX : Hid (BoxL w6 X [.int .i64 0, .int .i64 0, .int .i64 0]) := by rw [hw6, hX]; exact BoxL.new w5 24 _
        have HXl : Hid (W2.heap.size ≤ X) := by rw [hX]; exact hHeld.size
        rw [← hw6, ← hX]
        have hb9 : Below W2.heap.size W2 w6 := on2 hHeld bw6
        clear hw6 hX bw6
        refine hK.out _ _ hb9 (fun hHeld2 => ?_)
        clear hb9
        clear hK K hHeld; have hHeld := hHeld2; clear hHeld2
        try go_frame
        refine tr 8 (fun K hK => ?_)
        go_simp
        refine (rminus_calls (subI g1 u1) (subI g2 u2) (subI g3 u3) x1 x2 x3  w6).mono ?_
        rintro e w7 ⟨rfl, bw7⟩
        have hb9 : Below W2.heap.size W2 w7 := on2 hHeld bw7
        have HX2 : Hid (BoxL w7 X [.int .i64 0, .int .i64 0, .int .i64 0]) := HX.out.on bw7
        clear HX
        have HX := HX2
        clear HX2
        clear bw7
        go_wp2_with fail
        refine hK.out _ _ hb9 (fun hHeld2 => ?_)
        clear hb9
        clear hK K hHeld; have hHeld := hHeld2; clear hHeld2
        try go_frame
        refine ts 10 (fun K hK => ?_)
        obtain ⟨W9, hW9⟩ : ∃ Z, Z = w7.setCells X 0 [.int .i64 (subI (subI g1 u1) x1), .int .i64 (subI (subI g2 u2) x2), .int .i64 (subI (subI g3 u3) x3)] := ⟨_, rfl⟩
        have hb9 : Below W2.heap.size W2 W9 := by rw [hW9]; exact below_setCells hHeld HXl.out
        have HX9 : Hid (BoxL W9 X [.int .i64 (subI (subI g1 u1) x1), .int .i64 (subI (subI g2 u2) x2), .int .i64 (subI (subI g3 u3) x3)]) := by rw [hW9]; exact box_overS HX.out rfl
        have HTh : Hid (w7.there X 0 3) := HX.out.there
        refine want_yesS (by rfl) (wp_store_mid 24 _ _ rfl X 0 [.int .i64 (subI (subI g1 u1) x1), .int .i64 (subI (subI g2 u2) x2), .int .i64 (subI (subI g3 u3) x3)].toArray rfl rfl HTh.out (by kernel_rfl) (by simp [Value.oneCell']) ?_)
        refine at_wS hW9 ?_
        clear hW9 HTh HX HXl
        refine hK.out _ _ hb9 (fun hHeld2 => ?_)
        clear hb9
        clear hK K hHeld; have hHeld := hHeld2; clear hHeld2
        try go_frame
        refine tz ?_
        have HE : Hid (Below W2.heap.size W2 W9) := hHeld
        clear hHeld
        go_wp2_with fail
        go_meet
        exact ⟨X, rfl, HE.out, HX9.out⟩
    · go_simp
      obtain ⟨X, hX⟩ : ∃ X, X = wd.heap.size := ⟨_, rfl⟩
      obtain ⟨w5, hw5⟩ : ∃ Z, Z = wd.alloc (.cells #[.int .i64 0, .int .i64 0, .int .i64 0] 24) := ⟨_, rfl⟩
      have bw5 : Below wd.heap.size wd w5 := by rw [hw5]; exact (Below.refl _ _).alloc (Nat.le_refl _) _
      have HX : Hid (BoxL w5 X [.int .i64 0, .int .i64 0, .int .i64 0]) := by rw [hw5, hX]; exact BoxL.new wd 24 _
      have HXl : Hid (W2.heap.size ≤ X) := by rw [hX]; exact hHeld.size
      rw [← hw5, ← hX]
      have hb9 : Below W2.heap.size W2 w5 := on2 hHeld bw5
      clear hw5 hX bw5
      refine hK.out _ _ hb9 (fun hHeld2 => ?_)
      clear hb9
      clear hK K hHeld; have hHeld := hHeld2; clear hHeld2
      try go_frame
      refine tr 5 (fun K hK => ?_)
      go_simp
      refine (rminus_calls g1 g2 g3 u1 u2 u3  w5).mono ?_
      rintro e w6 ⟨rfl, bw6⟩
      have hb9 : Below W2.heap.size W2 w6 := on2 hHeld bw6
      have HX2 : Hid (BoxL w6 X [.int .i64 0, .int .i64 0, .int .i64 0]) := HX.out.on bw6
      clear HX
      have HX := HX2
      clear HX2
      clear bw6
      go_wp2_with fail
      refine hK.out _ _ hb9 (fun hHeld2 => ?_)
      clear hb9
      clear hK K hHeld; have hHeld := hHeld2; clear hHeld2
      try go_frame
      refine tr 8 (fun K hK => ?_)
      go_simp
      refine (rminus_calls (subI g1 u1) (subI g2 u2) (subI g3 u3) x1 x2 x3  w6).mono ?_
      rintro e w7 ⟨rfl, bw7⟩
      have hb9 : Below W2.heap.size W2 w7 := on2 hHeld bw7
      have HX2 : Hid (BoxL w7 X [.int .i64 0, .int .i64 0, .int .i64 0]) := HX.out.on bw7
      clear HX
      have HX := HX2
      clear HX2
      clear bw7
      go_wp2_with fail
      refine hK.out _ _ hb9 (fun hHeld2 => ?_)
      clear hb9
      clear hK K hHeld; have hHeld := hHeld2; clear hHeld2
      try go_frame
      refine ts 10 (fun K hK => ?_)
      obtain ⟨W9, hW9⟩ : ∃ Z, Z = w7.setCells X 0 [.int .i64 (subI (subI g1 u1) x1), .int .i64 (subI (subI g2 u2) x2), .int .i64 (subI (subI g3 u3) x3)] := ⟨_, rfl⟩
      have hb9 : Below W2.heap.size W2 W9 := by rw [hW9]; exact below_setCells hHeld HXl.out
      have HX9 : Hid (BoxL W9 X [.int .i64 (subI (subI g1 u1) x1), .int .i64 (subI (subI g2 u2) x2), .int .i64 (subI (subI g3 u3) x3)]) := by rw [hW9]; exact box_overS HX.out rfl
      have HTh : Hid (w7.there X 0 3) := HX.out.there
      refine want_yesS (by rfl) (wp_store_mid 24 _ _ rfl X 0 [.int .i64 (subI (subI g1 u1) x1), .int .i64 (subI (subI g2 u2) x2), .int .i64 (subI (subI g3 u3) x3)].toArray rfl rfl HTh.out (by kernel_rfl) (by simp [Value.oneCell']) ?_)
      refine at_wS hW9 ?_
      clear hW9 HTh HX HXl
      refine hK.out _ _ hb9 (fun hHeld2 => ?_)
      clear hb9
      clear hK K hHeld; have hHeld := hHeld2; clear hHeld2
      try go_frame
      refine tz ?_
      have HE : Hid (Below W2.heap.size W2 W9) := hHeld
      clear hHeld
      go_wp2_with fail
      go_meet
      exact ⟨X, rfl, HE.out, HX9.out⟩
  case rest =>
    obtain ⟨X, rfl, hk⟩ := hcut
    have HBw : Hid (Below W2.heap.size W2 wc) := hk.out.1
    have HC : Hid (∀ z, Below wc.heap.size wc z → z.cell? ⟨X, 0, none⟩ = some (.int .i64 (subI (subI g1 u1) x1)) ∧ z.cell? ⟨X, 1, none⟩ = some (.int .i64 (subI (subI g2 u2) x2)) ∧ z.cell? ⟨I, 4, none⟩ = some (.int .i64 g1) ∧ z.cell? ⟨I, 5, none⟩ = some (.int .i64 g2)) := fun z hz => by
      have q := hk.out.2.on hz
      have r := (HA.out z (on2 HBw.out hz)).2.1
      exact ⟨(q.2 0 _ rfl).1, (q.2 1 _ rfl).1, (rng0 r).1, (rng0 r).2⟩
    clear hk HA
    obtain ⟨s1, hs1⟩ : ∃ s, s = shareI (subI (subI g1 u1) x1) g1 100 := ⟨_, rfl⟩
    obtain ⟨s2, hs2⟩ : ∃ s, s = shareI (subI (subI g2 u2) x2) g2 100 := ⟨_, rfl⟩
    have h1 : 0 ≤ s1 ∧ s1 ≤ 100 := by rw [hs1]; exact ⟨share_ge _ _, share_le _ _⟩
    have h2 : 0 ≤ s2 ∧ s2 ≤ 100 := by rw [hs2]; exact ⟨share_ge _ _, share_le _ _⟩
    have hd : 0 ≤ (s1 + s2) / 2 ∧ (s1 + s2) / 2 ≤ 100 := by omega
    have h3 : 0 ≤ s1 + s2 := by omega
    have hA := rshare_calls (subI (subI g1 u1) x1) g1 100
    have hB := rshare_calls (subI (subI g2 u2) x2) g2 100
    rw [← hs1] at hA
    rw [← hs2] at hB
    rw [← hs1, ← hs2] at HP
    clear hs1 hs2
    have HCA : Hid _ := hA
    have HCB : Hid _ := hB
    clear hA hB
    go_upto_region 2 with fail
    have hb0 : Below wc.heap.size wc wc.drew := (Below.refl _ _).drew
    refine t0 (fun z => Below wc.heap.size wc z) hb0 (fun hHeld => ?_)
    generalize wc.drew = wd at hHeld ⊢
    clear hb0
    try go_frame
    refine' tk 0 ?_ ?_; rotate_left
    · intro z hz; obtain ⟨f0, f1, f4, f5⟩ := HC.out z hz; clear hz; go_simp; try with_reducible rfl
    try go_frame
    refine' tk 1 ?_ ?_; rotate_left
    · intro z hz; obtain ⟨f0, f1, f4, f5⟩ := HC.out z hz; clear hz; go_simp; try with_reducible rfl
    try go_frame
    refine' tk 2 ?_ ?_; rotate_left
    · intro z hz; obtain ⟨f0, f1, f4, f5⟩ := HC.out z hz; clear hz; go_simp; try with_reducible rfl
    try go_frame
    refine' tk 3 ?_ ?_; rotate_left
    · intro z hz; obtain ⟨f0, f1, f4, f5⟩ := HC.out z hz; clear hz; go_simp; try with_reducible rfl
    try go_frame
    refine' tk 4 ?_ ?_; rotate_left
    · intro z hz; obtain ⟨f0, f1, f4, f5⟩ := HC.out z hz; clear hz; go_simp; try with_reducible rfl
    try go_frame
    refine' tk 5 ?_ ?_; rotate_left
    · intro z hz; obtain ⟨f0, f1, f4, f5⟩ := HC.out z hz; clear hz; go_simp; try with_reducible rfl
    try go_frame
    refine' tk 7 ?_ ?_; rotate_left
    · intro z hz; obtain ⟨f0, f1, f4, f5⟩ := HC.out z hz; clear hz; go_simp; try with_reducible rfl
    try go_frame
    refine' tk 8 ?_ ?_; rotate_left
    · intro z hz; obtain ⟨f0, f1, f4, f5⟩ := HC.out z hz; clear hz; go_simp; try with_reducible rfl
    try go_frame
    refine' tk 9 ?_ ?_; rotate_left
    · intro z hz; obtain ⟨f0, f1, f4, f5⟩ := HC.out z hz; clear hz; go_simp; try with_reducible rfl
    try go_frame
    refine' tk 10 ?_ ?_; rotate_left
    · intro z hz; obtain ⟨f0, f1, f4, f5⟩ := HC.out z hz; clear hz; go_simp; try with_reducible rfl
    try go_frame
    refine' tk 11 ?_ ?_; rotate_left
    · intro z hz; obtain ⟨f0, f1, f4, f5⟩ := HC.out z hz; clear hz; go_simp; try with_reducible rfl
    try go_frame
    refine' tk 12 ?_ ?_; rotate_left
    · intro z hz; obtain ⟨f0, f1, f4, f5⟩ := HC.out z hz; clear hz; go_simp; try with_reducible rfl
    try go_frame
    refine tr 6 (fun K hK => ?_)
    go_simp
    refine (HCA.out wd).mono ?_
    rintro e z5 ⟨rfl, hz5⟩
    obtain rfl := hz5.symm
    go_wp2_with fail
    refine hK.out _ _ hHeld (fun hHeld2 => ?_)
    clear hK K hHeld; have hHeld := hHeld2; clear hHeld2
    try go_frame
    refine tr 13 (fun K hK => ?_)
    go_simp
    refine (HCB.out wd).mono ?_
    rintro e z5 ⟨rfl, hz5⟩
    obtain rfl := hz5.symm
    go_wp2_with fail
    refine hK.out _ _ hHeld (fun hHeld2 => ?_)
    clear hK K hHeld; have hHeld := hHeld2; clear hHeld2
    try go_frame
    clear HC HCA HCB
    refine' tk 14 ?_ ?_; rotate_left
    · intro z hz; clear hz; go_simp; try with_reducible rfl
    try go_frame
    refine' tk 15 ?_ ?_; rotate_left
    · intro z hz; clear hz; go_simp; try with_reducible rfl
    try go_frame
    refine' tk 16 ?_ ?_; rotate_left
    · intro z hz; clear hz; go_simp; try with_reducible rfl
    try go_frame
    refine tz ?_
    have HE : Hid (Below w.heap.size w wd) := on2 HB.out (on2 HBw.out hHeld)
    clear hHeld HB HBw
    go_wp2_with fail
    have HWr : IntKind.i64.wrap ((IntKind.i64.wrap (s1 + s2)).tdiv 2) = (s1 + s2) / 2 := by rw [IntWalk.i64_in (s1 + s2) (by omega), Int.tdiv_eq_ediv_of_nonneg h3, IntWalk.i64_in _ (by omega)]
    --M5
    rw [HP.out, ← HWr]
    go_ret
    exact ⟨rfl, HE.out⟩
end Go.Proofs.Yteihniiacfghoaa
namespace Go.Proofs.Yteihniiacfghoaa
open Go.RowKit
set_option maxRecDepth 100000

set_option maxHeartbeats 4000000 in
theorem each_plus (a b c x y z : Int) (w : World) : Calls Try.prog 44 #[.func (.func 45) #[] #[], .agg #[.int .i64 a, .int .i64 b, .int .i64 c], .agg #[.int .i64 x, .int .i64 y, .int .i64 z]] w fun e w' => e = .returned (.agg #[.int .i64 (addI a x), .int .i64 (addI b y), .int .i64 (addI c z)]) ∧ Below w.heap.size w w' := by
  go_enter Try.func44, Try.ntmps44
  go_upto_region 1 with fail
  go_cut [7, 8] (fun p q wx => ∃ B C : Nat, p = .pointer (some ⟨B, 0, none⟩) ∧ q = .pointer (some ⟨C, 0, none⟩) ∧ w.heap.size + 1 + 1 < B ∧ w.heap.size + 1 + 1 < C ∧ B < wx.heap.size ∧ C < wx.heap.size ∧ Holds3 wx B a b c ∧ Holds3 wx C x y z ∧ Holds3 wx (w.heap.size + 1 + 1) 0 0 0 ∧ wx.frozen? ⟨w.heap.size + 1 + 1, 0, none⟩ = false ∧ wx.frozen? ⟨w.heap.size + 1 + 1, 1, none⟩ = false ∧ wx.frozen? ⟨w.heap.size + 1 + 1, 2, none⟩ = false ∧ Below w.heap.size w wx)
  case first =>
    go_region_held3 (fun w' => w'.cell? ⟨w.heap.size, 0, none⟩ = some (.int .i64 a) ∧ w'.cell? ⟨w.heap.size, 1, none⟩ = some (.int .i64 b) ∧ w'.cell? ⟨w.heap.size, 2, none⟩ = some (.int .i64 c) ∧ w'.cell? ⟨w.heap.size + 1, 0, none⟩ = some (.int .i64 x) ∧ w'.cell? ⟨w.heap.size + 1, 1, none⟩ = some (.int .i64 y) ∧ w'.cell? ⟨w.heap.size + 1, 2, none⟩ = some (.int .i64 z)) ((refine ⟨?_, ?_, ?_, ?_, ?_, ?_⟩) <;> (simp [go_sem]; done))
      (first | (go_at_call 56; refine (split_calls _ _ _ _).mono ?_; rintro e w' ⟨rfl, rfl⟩))
    all_goals
      go_wp2_with fail
      go_meet
      refine ⟨_, _, rfl, rfl, ?_, ?_, ?_, ?_, ⟨?_, ?_, ?_⟩, ⟨?_, ?_, ?_⟩, ⟨?_, ?_, ?_⟩, ?_, ?_, ?_, ?_⟩
      all_goals first | omega | (simp [go_sem]; done) | (simp [go_sem]; omega) | go_grown
  case rest =>
    obtain ⟨B, C, rfl, rfl, hB, hC, hBl, hCl, ⟨hB0, hB1, hB2⟩, ⟨hC0, hC1, hC2⟩, ⟨hR0, hR1, hR2⟩, hf0, hf1, hf2, hbel⟩ := hcut
    have hRl : w.heap.size + 1 + 1 < wc.heap.size := by omega
    go_wp2_with fail
    refine wp_loop_rounds 4 ?_
    rw [rounds_succ]
    go_wp2_with fail
    go_region_held3 (fun w' => w'.cell? ⟨B, 0, none⟩ = some (.int .i64 a) ∧ w'.cell? ⟨B, 1, none⟩ = some (.int .i64 b) ∧ w'.cell? ⟨B, 2, none⟩ = some (.int .i64 c) ∧ w'.cell? ⟨C, 0, none⟩ = some (.int .i64 x) ∧ w'.cell? ⟨C, 1, none⟩ = some (.int .i64 y) ∧ w'.cell? ⟨C, 2, none⟩ = some (.int .i64 z)) ((refine ⟨?_, ?_, ?_, ?_, ?_, ?_⟩) <;> (simp [*, go_sem]; done))
      (first | (go_at_call 45; refine (plus_calls _ _ _).mono ?_; rintro e w' ⟨rfl, rfl⟩))
    rename_i hHeld1
    clear hHeld1
    go_wp2_with fail
    rw [rounds_succ]
    go_wp2_with fail
    go_region_held3 (fun w' => w'.cell? ⟨B, 0, none⟩ = some (.int .i64 a) ∧ w'.cell? ⟨B, 1, none⟩ = some (.int .i64 b) ∧ w'.cell? ⟨B, 2, none⟩ = some (.int .i64 c) ∧ w'.cell? ⟨C, 0, none⟩ = some (.int .i64 x) ∧ w'.cell? ⟨C, 1, none⟩ = some (.int .i64 y) ∧ w'.cell? ⟨C, 2, none⟩ = some (.int .i64 z)) ((refine ⟨?_, ?_, ?_, ?_, ?_, ?_⟩) <;> (simp [*, go_sem]; done))
      (first | (go_at_call 45; refine (plus_calls _ _ _).mono ?_; rintro e w' ⟨rfl, rfl⟩))
    rename_i hHeld1
    clear hHeld1
    go_wp2_with fail
    rw [rounds_succ]
    go_wp2_with fail
    go_region_held3 (fun w' => w'.cell? ⟨B, 0, none⟩ = some (.int .i64 a) ∧ w'.cell? ⟨B, 1, none⟩ = some (.int .i64 b) ∧ w'.cell? ⟨B, 2, none⟩ = some (.int .i64 c) ∧ w'.cell? ⟨C, 0, none⟩ = some (.int .i64 x) ∧ w'.cell? ⟨C, 1, none⟩ = some (.int .i64 y) ∧ w'.cell? ⟨C, 2, none⟩ = some (.int .i64 z)) ((refine ⟨?_, ?_, ?_, ?_, ?_, ?_⟩) <;> (simp [*, go_sem]; done))
      (first | (go_at_call 45; refine (plus_calls _ _ _).mono ?_; rintro e w' ⟨rfl, rfl⟩))
    rename_i hHeld1
    clear hHeld1
    go_wp2_with fail
    rw [rounds_succ]
    go_wp2_with fail
    refine (join_below _ _ _ _).mono ?_
    rintro e w1 ⟨rfl, hb⟩
    have hb' : Below wc.heap.size wc w1 := (((((Below.refl wc.heap.size wc).alloc (Nat.le_refl _) _).drew).drew).drew).trans (hb.mono (by simp))
    have r0 := (hb'.cell (p := ⟨w.heap.size + 1 + 1, 0, none⟩) hRl).trans hR0
    have r1 := (hb'.cell (p := ⟨w.heap.size + 1 + 1, 1, none⟩) hRl).trans hR1
    have r2 := (hb'.cell (p := ⟨w.heap.size + 1 + 1, 2, none⟩) hRl).trans hR2
    have f0 := (hb'.frozen (p := ⟨w.heap.size + 1 + 1, 0, none⟩) hRl).trans hf0
    have f1 := (hb'.frozen (p := ⟨w.heap.size + 1 + 1, 1, none⟩) hRl).trans hf1
    have f2 := (hb'.frozen (p := ⟨w.heap.size + 1 + 1, 2, none⟩) hRl).trans hf2
    have hz : Below w.heap.size w w1 := hbel.trans (hb'.mono hbel.size)
    clear hb hb' hR0 hR1 hR2 hf0 hf1 hf2
    go_wp2_with fail
    exact bodyPost_ret (v := .agg #[.int .i64 (addI a x), .int .i64 (addI b y), .int .i64 (addI c z)]) (by simp [results, Try.results44, go_sem, r0, r1, r2]) rfl ⟨rfl, ((hz.setCell (by simp; omega) _).setCell (by simp; omega) _).setCell (by simp; omega) _⟩
end Go.Proofs.Yteihniiacfghoaa
namespace Go.Proofs.Yteihniiacfghoaa
open Go.RowKit
set_option maxRecDepth 100000

set_option maxHeartbeats 4000000 in
theorem each_minus (a b c x y z : Int) (w : World) : Calls Try.prog 44 #[.func (.func 46) #[] #[], .agg #[.int .i64 a, .int .i64 b, .int .i64 c], .agg #[.int .i64 x, .int .i64 y, .int .i64 z]] w fun e w' => e = .returned (.agg #[.int .i64 (subI a x), .int .i64 (subI b y), .int .i64 (subI c z)]) ∧ Below w.heap.size w w' := by
  go_enter Try.func44, Try.ntmps44
  go_upto_region 1 with fail
  go_cut [7, 8] (fun p q wx => ∃ B C : Nat, p = .pointer (some ⟨B, 0, none⟩) ∧ q = .pointer (some ⟨C, 0, none⟩) ∧ w.heap.size + 1 + 1 < B ∧ w.heap.size + 1 + 1 < C ∧ B < wx.heap.size ∧ C < wx.heap.size ∧ Holds3 wx B a b c ∧ Holds3 wx C x y z ∧ Holds3 wx (w.heap.size + 1 + 1) 0 0 0 ∧ wx.frozen? ⟨w.heap.size + 1 + 1, 0, none⟩ = false ∧ wx.frozen? ⟨w.heap.size + 1 + 1, 1, none⟩ = false ∧ wx.frozen? ⟨w.heap.size + 1 + 1, 2, none⟩ = false ∧ Below w.heap.size w wx)
  case first =>
    go_region_held3 (fun w' => w'.cell? ⟨w.heap.size, 0, none⟩ = some (.int .i64 a) ∧ w'.cell? ⟨w.heap.size, 1, none⟩ = some (.int .i64 b) ∧ w'.cell? ⟨w.heap.size, 2, none⟩ = some (.int .i64 c) ∧ w'.cell? ⟨w.heap.size + 1, 0, none⟩ = some (.int .i64 x) ∧ w'.cell? ⟨w.heap.size + 1, 1, none⟩ = some (.int .i64 y) ∧ w'.cell? ⟨w.heap.size + 1, 2, none⟩ = some (.int .i64 z)) ((refine ⟨?_, ?_, ?_, ?_, ?_, ?_⟩) <;> (simp [go_sem]; done))
      (first | (go_at_call 56; refine (split_calls _ _ _ _).mono ?_; rintro e w' ⟨rfl, rfl⟩))
    all_goals
      go_wp2_with fail
      go_meet
      refine ⟨_, _, rfl, rfl, ?_, ?_, ?_, ?_, ⟨?_, ?_, ?_⟩, ⟨?_, ?_, ?_⟩, ⟨?_, ?_, ?_⟩, ?_, ?_, ?_, ?_⟩
      all_goals first | omega | (simp [go_sem]; done) | (simp [go_sem]; omega) | go_grown
  case rest =>
    obtain ⟨B, C, rfl, rfl, hB, hC, hBl, hCl, ⟨hB0, hB1, hB2⟩, ⟨hC0, hC1, hC2⟩, ⟨hR0, hR1, hR2⟩, hf0, hf1, hf2, hbel⟩ := hcut
    have hRl : w.heap.size + 1 + 1 < wc.heap.size := by omega
    go_wp2_with fail
    refine wp_loop_rounds 4 ?_
    rw [rounds_succ]
    go_wp2_with fail
    go_region_held3 (fun w' => w'.cell? ⟨B, 0, none⟩ = some (.int .i64 a) ∧ w'.cell? ⟨B, 1, none⟩ = some (.int .i64 b) ∧ w'.cell? ⟨B, 2, none⟩ = some (.int .i64 c) ∧ w'.cell? ⟨C, 0, none⟩ = some (.int .i64 x) ∧ w'.cell? ⟨C, 1, none⟩ = some (.int .i64 y) ∧ w'.cell? ⟨C, 2, none⟩ = some (.int .i64 z)) ((refine ⟨?_, ?_, ?_, ?_, ?_, ?_⟩) <;> (simp [*, go_sem]; done))
      (first | (go_at_call 46; refine (minus_calls _ _ _).mono ?_; rintro e w' ⟨rfl, rfl⟩))
    rename_i hHeld1
    clear hHeld1
    go_wp2_with fail
    rw [rounds_succ]
    go_wp2_with fail
    go_region_held3 (fun w' => w'.cell? ⟨B, 0, none⟩ = some (.int .i64 a) ∧ w'.cell? ⟨B, 1, none⟩ = some (.int .i64 b) ∧ w'.cell? ⟨B, 2, none⟩ = some (.int .i64 c) ∧ w'.cell? ⟨C, 0, none⟩ = some (.int .i64 x) ∧ w'.cell? ⟨C, 1, none⟩ = some (.int .i64 y) ∧ w'.cell? ⟨C, 2, none⟩ = some (.int .i64 z)) ((refine ⟨?_, ?_, ?_, ?_, ?_, ?_⟩) <;> (simp [*, go_sem]; done))
      (first | (go_at_call 46; refine (minus_calls _ _ _).mono ?_; rintro e w' ⟨rfl, rfl⟩))
    rename_i hHeld1
    clear hHeld1
    go_wp2_with fail
    rw [rounds_succ]
    go_wp2_with fail
    go_region_held3 (fun w' => w'.cell? ⟨B, 0, none⟩ = some (.int .i64 a) ∧ w'.cell? ⟨B, 1, none⟩ = some (.int .i64 b) ∧ w'.cell? ⟨B, 2, none⟩ = some (.int .i64 c) ∧ w'.cell? ⟨C, 0, none⟩ = some (.int .i64 x) ∧ w'.cell? ⟨C, 1, none⟩ = some (.int .i64 y) ∧ w'.cell? ⟨C, 2, none⟩ = some (.int .i64 z)) ((refine ⟨?_, ?_, ?_, ?_, ?_, ?_⟩) <;> (simp [*, go_sem]; done))
      (first | (go_at_call 46; refine (minus_calls _ _ _).mono ?_; rintro e w' ⟨rfl, rfl⟩))
    rename_i hHeld1
    clear hHeld1
    go_wp2_with fail
    rw [rounds_succ]
    go_wp2_with fail
    refine (join_below _ _ _ _).mono ?_
    rintro e w1 ⟨rfl, hb⟩
    have hb' : Below wc.heap.size wc w1 := (((((Below.refl wc.heap.size wc).alloc (Nat.le_refl _) _).drew).drew).drew).trans (hb.mono (by simp))
    have r0 := (hb'.cell (p := ⟨w.heap.size + 1 + 1, 0, none⟩) hRl).trans hR0
    have r1 := (hb'.cell (p := ⟨w.heap.size + 1 + 1, 1, none⟩) hRl).trans hR1
    have r2 := (hb'.cell (p := ⟨w.heap.size + 1 + 1, 2, none⟩) hRl).trans hR2
    have f0 := (hb'.frozen (p := ⟨w.heap.size + 1 + 1, 0, none⟩) hRl).trans hf0
    have f1 := (hb'.frozen (p := ⟨w.heap.size + 1 + 1, 1, none⟩) hRl).trans hf1
    have f2 := (hb'.frozen (p := ⟨w.heap.size + 1 + 1, 2, none⟩) hRl).trans hf2
    have hz : Below w.heap.size w w1 := hbel.trans (hb'.mono hbel.size)
    clear hb hb' hR0 hR1 hR2 hf0 hf1 hf2
    go_wp2_with fail
    exact bodyPost_ret (v := .agg #[.int .i64 (subI a x), .int .i64 (subI b y), .int .i64 (subI c z)]) (by simp [results, Try.results44, go_sem, r0, r1, r2]) rfl ⟨rfl, ((hz.setCell (by simp; omega) _).setCell (by simp; omega) _).setCell (by simp; omega) _⟩
end Go.Proofs.Yteihniiacfghoaa
namespace Go.Proofs.Yteihniiacfghoaa
open Go.RowKit
set_option maxRecDepth 100000

set_option maxHeartbeats 1000000 in
theorem Plus_calls (a b c x y z : Int) (w : World) : Calls Try.prog 29 #[.agg #[.int .i64 a, .int .i64 b, .int .i64 c], .agg #[.int .i64 x, .int .i64 y, .int .i64 z]] w fun e w' => e = .returned (.agg #[.int .i64 (addI a x), .int .i64 (addI b y), .int .i64 (addI c z)]) ∧ Below w.heap.size w w' := by
  go_enter Try.func29, Try.ntmps29
  go_wp2_with fail
  refine (each_plus _ _ _ _ _ _ _).mono ?_
  rintro e w1 ⟨rfl, hb⟩
  have r0 : w1.cell? ⟨w.heap.size + 1 + 1, 0, none⟩ = some (.int .i64 0) := (hb.cell (by simp)).trans (by simp [go_sem])
  have r1 : w1.cell? ⟨w.heap.size + 1 + 1, 1, none⟩ = some (.int .i64 0) := (hb.cell (by simp)).trans (by simp [go_sem])
  have r2 : w1.cell? ⟨w.heap.size + 1 + 1, 2, none⟩ = some (.int .i64 0) := (hb.cell (by simp)).trans (by simp [go_sem])
  have f0 : w1.frozen? ⟨w.heap.size + 1 + 1, 0, none⟩ = false := (hb.frozen (by simp)).trans (by simp [go_sem])
  have f1 : w1.frozen? ⟨w.heap.size + 1 + 1, 1, none⟩ = false := (hb.frozen (by simp)).trans (by simp [go_sem])
  have f2 : w1.frozen? ⟨w.heap.size + 1 + 1, 2, none⟩ = false := (hb.frozen (by simp)).trans (by simp [go_sem])
  have hz : Below w.heap.size w w1 := ((((Below.refl w.heap.size w).alloc (Nat.le_refl _) _).alloc (by simp) _).alloc (by simp; omega) _).trans (hb.mono (by simp; omega))
  clear hb
  go_wp2_with fail
  exact bodyPost_ret (v := .agg #[.int .i64 (addI a x), .int .i64 (addI b y), .int .i64 (addI c z)]) (by simp [results, Try.results29, go_sem, r0, r1, r2]) rfl ⟨rfl, ((hz.setCell (by simp; omega) _).setCell (by simp; omega) _).setCell (by simp; omega) _⟩
set_option maxHeartbeats 1000000 in
theorem Minus_calls (a b c x y z : Int) (w : World) : Calls Try.prog 31 #[.agg #[.int .i64 a, .int .i64 b, .int .i64 c], .agg #[.int .i64 x, .int .i64 y, .int .i64 z]] w fun e w' => e = .returned (.agg #[.int .i64 (subI a x), .int .i64 (subI b y), .int .i64 (subI c z)]) ∧ Below w.heap.size w w' := by
  go_enter Try.func31, Try.ntmps31
  go_wp2_with fail
  refine (each_minus _ _ _ _ _ _ _).mono ?_
  rintro e w1 ⟨rfl, hb⟩
  have r0 : w1.cell? ⟨w.heap.size + 1 + 1, 0, none⟩ = some (.int .i64 0) := (hb.cell (by simp)).trans (by simp [go_sem])
  have r1 : w1.cell? ⟨w.heap.size + 1 + 1, 1, none⟩ = some (.int .i64 0) := (hb.cell (by simp)).trans (by simp [go_sem])
  have r2 : w1.cell? ⟨w.heap.size + 1 + 1, 2, none⟩ = some (.int .i64 0) := (hb.cell (by simp)).trans (by simp [go_sem])
  have f0 : w1.frozen? ⟨w.heap.size + 1 + 1, 0, none⟩ = false := (hb.frozen (by simp)).trans (by simp [go_sem])
  have f1 : w1.frozen? ⟨w.heap.size + 1 + 1, 1, none⟩ = false := (hb.frozen (by simp)).trans (by simp [go_sem])
  have f2 : w1.frozen? ⟨w.heap.size + 1 + 1, 2, none⟩ = false := (hb.frozen (by simp)).trans (by simp [go_sem])
  have hz : Below w.heap.size w w1 := ((((Below.refl w.heap.size w).alloc (Nat.le_refl _) _).alloc (by simp) _).alloc (by simp; omega) _).trans (hb.mono (by simp; omega))
  clear hb
  go_wp2_with fail
  exact bodyPost_ret (v := .agg #[.int .i64 (subI a x), .int .i64 (subI b y), .int .i64 (subI c z)]) (by simp [results, Try.results31, go_sem, r0, r1, r2]) rfl ⟨rfl, ((hz.setCell (by simp; omega) _).setCell (by simp; omega) _).setCell (by simp; omega) _⟩

theorem subI_zero (a x : Int) : subI a x = 0 ↔ clampI a ≤ clampI x := by
  rw [subI_def]
  split <;> omega
theorem fits_eq (a b c x y z : Int) : fitsB a b c x y z = (decide (subI a x = 0) && decide (subI b y = 0) && decide (subI c z = 0)) := by
  unfold fitsB
  simp only [subI_zero]

end Go.Proofs.Yteihniiacfghoaa
namespace Go.Proofs.Yteihniiacfghoaa
open Go.RowKit Go.Maps
set_option linter.unusedSimpArgs false
set_option maxRecDepth 100000

theorem between_calls (x m : Int) (hm : 0 ≤ m) (w : World) : Calls Try.prog 41 #[.int .i64 x, .int .i64 m] w fun e w' => e = .returned (.int .i64 (clipZ m x)) ∧ w' = w := by
  obtain ⟨q, hq⟩ : ∃ q, q = (if x < 0 then 0 else x) := ⟨_, rfl⟩
  obtain ⟨c, hc⟩ : ∃ c, c = clipZ m x := ⟨_, rfl⟩
  have hmx : (if x < 0 then (0 : Int) else x) = q := hq.symm
  have hmy : (if (0 : Int) < x then x else 0) = q := by rw [hq]; repeat (first | split | omega)
  have hmn : (if m < q then m else q) = c := by
    rw [hc, hq]; unfold clipZ
    repeat (first | split | omega)
  have hmp : (if q < m then q else m) = c := by
    rw [hc, hq]; unfold clipZ
    repeat (first | split | omega)
  have HC : Hid (min (max x 0) m = c ∧ clipZ m x = c) := ⟨by rw [hc]; unfold clipZ; repeat (first | split | omega), hc.symm⟩
  rw [HC.out.2]
  clear hq hc
  go_enter Try.func41, Try.ntmps41
  go_wp2_with fail
  go_ret
  first | exact ⟨rfl, rfl⟩ | exact ⟨(by rw [HC.out.1] <;> rfl), rfl⟩
set_option maxHeartbeats 2000000 in
theorem shares_calls (a b c g1 g2 g3 : Int) (w : World) : Calls Try.prog 30 #[.agg #[.int .i64 a, .int .i64 b, .int .i64 c], .agg #[.int .i64 g1, .int .i64 g2, .int .i64 g3]] w fun e w' => e = .returned (.tuple #[.int .i64 (shareI a g1 100), .int .i64 (shareI b g2 100)]) ∧ Below w.heap.size w w' := by
  go_enter Try.func30, Try.ntmps30
  go_upto_region 1 with fail
  --M1
  go_quiet ((go_at_call 42; exact Calls.quiet_of_same (share_calls _ _ _ _)))
  --M2
  go_wp2_with fail
  go_ret2
  exact ⟨rfl, below_drewN (by go_grown) _⟩
end Go.Proofs.Yteihniiacfghoaa
