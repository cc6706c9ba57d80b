/- The chapter's example comes out. Condition: the program's budget keeps what is said of it. -/
import Derived.Test.YtpjgffcpjabghaaQ05
import Derived.Test.YtpjgffcpjabghaaQ10
import Derived.Test.YtpjgffcpjabghaaQ04
import Derived.Test.YtpjgffcpjabghaaQ08
namespace Go.Proofs.Ytpjgffcpjabghaa
open Go.RowKit Go.Maps
set_option linter.unusedSimpArgs false
set_option maxRecDepth 100000

theorem fitT : FitQ budT.2.2 := ⟨by decide, by decide⟩
theorem fitsT : ∀ b ∈ stT.2.2.2.2.2, FitQ b.2.2 := fun b hb => (List.mem_singleton.1 (show b ∈ [budT] from hb)).symm ▸ fitT
theorem bT_allows : allowsP (fsG podsT) budT = 1 := by decide +kernel
theorem bT_broken : brokenP (fsG podsT) (fsG [budT]) namesT = [⟨#[98]⟩, ⟨#[99]⟩] := by decide +kernel
theorem bT_order : orderP podsT [⟨#[97]⟩, ⟨#[99]⟩, ⟨#[122]⟩, ⟨#[97]⟩] = [⟨#[99]⟩, ⟨#[97]⟩] := by decide +kernel
theorem sl_str3 {u : World} {B : Nat} {x y z : ByteArray} (h : BoxL u B [.string x, .string y, .string z]) (hs : x.size ≤ 10 ∧ y.size ≤ 10 ∧ z.size ≤ 10) : SlAt RStr 1 16 (fun _ => True) u (some ⟨B, 0, none⟩) 3 3 [x, y, z] := by
  refine ⟨rfl, Nat.le_refl _, fun e => (by cases e), by decide, fun _ => ⟨B, 0, rfl, h.1, trivial, fun i hi => ?_⟩⟩
  rcases (show i = 0 ∨ i = 1 ∨ i = 2 by omega) with rfl | rfl | rfl
  · exact ⟨[.string x], ⟨rfl, by show x.size ≤ _; omega⟩, fun j v hj => by obtain ⟨rfl, rfl⟩ : j = 0 ∧ Value.string x = v := (by cases j <;> simp_all); exact (h.2 0 _ rfl).1⟩
  · exact ⟨[.string y], ⟨rfl, by show y.size ≤ _; omega⟩, fun j v hj => by obtain ⟨rfl, rfl⟩ : j = 0 ∧ Value.string y = v := (by cases j <;> simp_all); exact (h.2 1 _ rfl).1⟩
  · exact ⟨[.string z], ⟨rfl, by show z.size ≤ _; omega⟩, fun j v hj => by obtain ⟨rfl, rfl⟩ : j = 0 ∧ Value.string z = v := (by cases j <;> simp_all); exact (h.2 2 _ rfl).1⟩
theorem sl_str2 {u : World} {B : Nat} {x y : ByteArray} (h : BoxL u B [.string x, .string y]) (hs : x.size ≤ 10 ∧ y.size ≤ 10) : SlAt RStr 1 16 (fun _ => True) u (some ⟨B, 0, none⟩) 2 2 [x, y] := by
  refine ⟨rfl, Nat.le_refl _, fun e => (by cases e), by decide, fun _ => ⟨B, 0, rfl, h.1, trivial, fun i hi => ?_⟩⟩
  rcases (show i = 0 ∨ i = 1 by omega) with rfl | rfl
  · exact ⟨[.string x], ⟨rfl, by show x.size ≤ _; omega⟩, fun j v hj => by obtain ⟨rfl, rfl⟩ : j = 0 ∧ Value.string x = v := (by cases j <;> simp_all); exact (h.2 0 _ rfl).1⟩
  · exact ⟨[.string y], ⟨rfl, by show y.size ≤ _; omega⟩, fun j v hj => by obtain ⟨rfl, rfl⟩ : j = 0 ∧ Value.string y = v := (by cases j <;> simp_all); exact (h.2 1 _ rfl).1⟩
theorem sl_str4 {u : World} {B : Nat} {x y z t : ByteArray} (h : BoxL u B [.string x, .string y, .string z, .string t]) (hs : x.size ≤ 10 ∧ y.size ≤ 10 ∧ z.size ≤ 10 ∧ t.size ≤ 10) : SlAt RStr 1 16 (fun _ => True) u (some ⟨B, 0, none⟩) 4 4 [x, y, z, t] := by
  refine ⟨rfl, Nat.le_refl _, fun e => (by cases e), by decide, fun _ => ⟨B, 0, rfl, h.1, trivial, fun i hi => ?_⟩⟩
  rcases (show i = 0 ∨ i = 1 ∨ i = 2 ∨ i = 3 by omega) with rfl | rfl | rfl | rfl
  · exact ⟨[.string x], ⟨rfl, by show x.size ≤ _; omega⟩, fun j v hj => by obtain ⟨rfl, rfl⟩ : j = 0 ∧ Value.string x = v := (by cases j <;> simp_all); exact (h.2 0 _ rfl).1⟩
  · exact ⟨[.string y], ⟨rfl, by show y.size ≤ _; omega⟩, fun j v hj => by obtain ⟨rfl, rfl⟩ : j = 0 ∧ Value.string y = v := (by cases j <;> simp_all); exact (h.2 1 _ rfl).1⟩
  · exact ⟨[.string z], ⟨rfl, by show z.size ≤ _; omega⟩, fun j v hj => by obtain ⟨rfl, rfl⟩ : j = 0 ∧ Value.string z = v := (by cases j <;> simp_all); exact (h.2 2 _ rfl).1⟩
  · exact ⟨[.string t], ⟨rfl, by show t.size ≤ _; omega⟩, fun j v hj => by obtain ⟨rfl, rfl⟩ : j = 0 ∧ Value.string t = v := (by cases j <;> simp_all); exact (h.2 3 _ rfl).1⟩
theorem state_budget {A : Where} {w : World} {ss : List Value} (h : RState A w ss stT) : ∃ (bb : Option Addr) (bc : Nat), ss[5]? = some (.slice bb 1 bc) ∧ ∃ D off, bb = some ⟨D, off, none⟩ ∧ D < w.heap.size ∧ ∃ bs, RBudget A w bs budT ∧ w.rangeAt D off bs := by
  obtain ⟨h0, h1, h2, h3, h4, h5, rfl, _, _, _, _, _, p5⟩ := h.out
  obtain ⟨D, off, e, hD, _, cs, hr, hv⟩ := p5.get (i := 0) (by have := p5.1; simp [stT] at this; omega)
  have e1 : h5.2.1 = 1 := by have := p5.1; simp [stT] at this; omega
  refine ⟨h5.1, h5.2.2, by rw [e1]; rfl, D, off, e, hD, cs, hr, ?_⟩
  rw [Nat.zero_mul, Nat.add_zero] at hv; exact hv
set_option maxHeartbeats 8000000 in
theorem works18_calls (V : BudgetOK) (w : World) : Calls Try.prog 7 #[] w fun e w' => e = .returned (.bool true) ∧ Below w.heap.size w w' := by
  go_enter Try.func7, Try.ntmps7
  go_wp2_with fail
  refine (three_calls w).mono ?_
  rintro e w1 ⟨ss, rfl, hs, b1⟩
  have hsl : ss.length = 6 := RState.firm.len hs
  have hss := hs
  obtain ⟨bb, bc, hb5, E, off, rfl, hE, bs, hbs, hbv⟩ := state_budget hs
  obtain ⟨Z0, hZ0⟩ : ∃ Z, Z = w1.alloc (.cells #[.slice none 0 0, .slice none 0 0, .slice none 0 0, .slice none 0 0, .slice none 0 0, .slice none 0 0] 29) := ⟨_, rfl⟩
  have c0 : Below w1.heap.size w1 Z0 := by rw [hZ0]; exact (Below.refl _ _).alloc (Nat.le_refl _) _
  have q0 : BoxL Z0 w1.heap.size [.slice none 0 0, .slice none 0 0, .slice none 0 0, .slice none 0 0, .slice none 0 0, .slice none 0 0] := by rw [hZ0]; exact BoxL.new w1 _ _
  obtain ⟨X, hX⟩ : ∃ Z, Z = Z0.setCells w1.heap.size 0 ss.toArray.toList := ⟨_, rfl⟩
  have bX : Below w1.heap.size w1 X := by rw [hX]; exact below_setCells c0 (Nat.le_refl _)
  have qX : BoxL X w1.heap.size ss := by rw [hX]; exact box_over18 q0 (by rw [hsl]; rfl)
  have HT : Hid (Z0.there w1.heap.size 0 ss.toArray.size) := by have h := q0.there; rw [Hid, show ss.toArray.size = 6 by simp [hsl]]; exact h
  have HO : Hid (ss.toArray.all (·.oneCell') = true) := all_oneCell_toArray (RState.firm.one hs)
  have HSz2 : Hid ((Try.prog.info? 29).map (·.size) = some ss.toArray.size) := by rw [Hid, show ss.toArray.size = 6 by simp [hsl]]; exact sizeState18
  have HSz : Hid ((Try.prog.info? 29).map (·.size) = some ss.length) := by rw [Hid, hsl]; exact sizeState18
  have HX : Hid (X = Z0.setCells w1.heap.size 0 ss.toArray.toList) := hX
  have HZ0 : Hid (w1.alloc (.cells #[.slice none 0 0, .slice none 0 0, .slice none 0 0, .slice none 0 0, .slice none 0 0, .slice none 0 0] 29) = Z0) := hZ0.symm
  obtain ⟨D, hD⟩ : ∃ D, D = w1.heap.size := ⟨_, rfl⟩
  have HD : Hid (w1.heap.size = D) := hD.symm
  rw [← hD] at qX
  have HB : Hid (Below w.heap.size w X) := on2 b1 bX
  have HS : Hid (∀ z, Below X.heap.size X z → RState (Fresh w) z ss stT) := fun z hz => RState.firm.kept hs (Kept.below (on2 bX hz))
  have HR : Hid (∀ z, Below X.heap.size X z → z.rangeAt D 0 ss) := fun z hz => (qX.on hz).range
  have HBs : Hid (∀ z, Below X.heap.size X z → RBudget (Fresh w) z bs budT) := fun z hz => RBudget.firm.kept hbs (Kept.below (on2 bX hz))
  have HBv : Hid (∀ z, Below X.heap.size X z → z.rangeAt E off bs) := fun z hz j v hj => ((on2 bX hz).cell (p := ⟨E, off + j, none⟩) hE).trans (hbv j v hj)
  have H5 : Hid (∀ z, Below X.heap.size X z → z.cell? ⟨D, 5, none⟩ = some (.slice (some ⟨E, off, none⟩) 1 bc)) := fun z hz => ((qX.on hz).2 5 _ hb5).1
  have HSb : Hid ((Try.prog.info? 37).map (·.size) = some bs.length) := by rw [Hid, RBudget.firm.len hbs]; kernel_rfl
  clear hs hss hsl hb5 hE hbs hbv hZ0 c0 q0 hX bX qX b1 hD
  go_upto_region 2 with (first | (rw [HZ0.out]; refine wpList_store_mid rfl 29 _ _ rfl w1.heap.size 0 ss.toArray rfl rfl HT.out HSz2.out HO.out ?_; refine wpl_atG HX.out ?_; rw [HD.out]) | fail)
  clear HZ0 HT HO HSz2 HX HD
  --M1
  have hb0 : Below X.heap.size X X.drew := (Below.refl _ _).drew
  refine t0 (fun z => Below X.heap.size X z) hb0 (fun hHeld => ?_)
  have Hd : Hid (Below X.heap.size X X.drew) := hb0
  generalize hwd : X.drew = wd at hHeld Hd ⊢
  clear hwd hb0
  try go_frame
  refine tq 0 (.agg ss.toArray) (yieldsIf_load_mid (by rfl) 29 _ rfl D 0 rfl ss _ (fun z hz => HR.out z hz) Try.underlying29 rfl HSz.out) ?_ (hi := rfl)
  try go_frame
  refine' tk 1 ?_ ?_; rotate_left
  · intro z hz; clear hz; go_simp; try with_reducible rfl
  try go_frame
  refine' tk 2 ?_ ?_; rotate_left
  · intro z hz; have f5 := H5.out z hz; clear hz; go_simp; try with_reducible rfl
  try go_frame
  refine' tk 3 ?_ ?_; rotate_left
  · intro z hz; clear hz; go_simp; try with_reducible rfl
  try go_frame
  refine tq 4 (.agg bs.toArray) (yieldsIf_load_mid (by rfl) 37 _ rfl E off rfl bs _ (fun z hz => HBv.out z hz) Try.underlying37 rfl HSb.out) ?_ (hi := rfl)
  try go_frame
  --M2
  have hA := V.allows ss bs (Fresh w) (Fresh w) stT budT wd (HS.out wd Hd.out) (HBs.out wd Hd.out) fitT
  rw [show allowsP (fsG stT.1) budT = 1 from bT_allows] at hA
  refine tr 5 (fun K hK => ?_)
  go_simp
  refine hA.mono ?_
  rintro e W0 ⟨rfl, b0⟩
  have H0 : Hid (Below X.heap.size X W0) := on2 Hd.out b0
  clear hA
  go_wp2_with fail
  refine hK.out _ _ H0.out (fun hHeld2 => ?_)
  clear hK K hHeld; have hHeld := hHeld2; clear hHeld2
  try go_frame
  refine' tk 6 ?_ ?_; rotate_left
  · intro z hz; clear hz; go_simp; try with_reducible rfl
  try go_frame
  refine' tk 7 ?_ ?_; rotate_left
  · intro z hz; clear hz; go_simp; try with_reducible rfl
  try go_frame
  refine tq 8 (.agg ss.toArray) (yieldsIf_load_mid (by rfl) 29 _ rfl D 0 rfl ss _ (fun z hz => HR.out z hz) Try.underlying29 rfl HSz.out) ?_ (hi := rfl)
  try go_frame
  refine tb 9 11 (fun K hK => ?_) (fun K hK => ?_)
  ·
    go_simp
    obtain ⟨W1, hW1⟩ : ∃ Z, Z = W0.alloc (.cells #[.string ⟨#[97]⟩, .string ⟨#[98]⟩, .string ⟨#[99]⟩] 9) := ⟨_, rfl⟩
    have b1 : Below W0.heap.size W0 W1 := by rw [hW1]; exact (Below.refl _ _).alloc (Nat.le_refl _) _
    have q1 : BoxL W1 W0.heap.size [.string ⟨#[97]⟩, .string ⟨#[98]⟩, .string ⟨#[99]⟩] := by rw [hW1]; exact BoxL.new W0 9 _
    rw [← hW1]
    clear hW1
    have H1 : Hid (Below X.heap.size X W1) := on2 H0.out b1
    have L1 : Hid (∀ z, Below W1.heap.size W1 z → SlAt RStr 1 16 (fun _ => True) z (some ⟨W0.heap.size, 0, none⟩) 3 3 [⟨#[97]⟩, ⟨#[98]⟩, ⟨#[99]⟩]) := fun z hz => sl_str3 (q1.on hz) (by decide)
    clear q1
    refine hK.out _ _ H1.out (fun hHeld2 => ?_)
    clear hK K hHeld; have hHeld := hHeld2; clear hHeld2
    try go_frame
    refine tb 10 11 (fun K hK => ?_) (fun K hK => ?_)
    ·
      have hA := V.broken ss (Fresh w) stT _ _ _ (fun _ => True) _ W1 (HS.out W1 H1.out) (L1.out W1 (Below.refl _ _)) fitsT
      rw [show brokenP (fsG stT.1) (fsG stT.2.2.2.2.2) [⟨#[97]⟩, ⟨#[98]⟩, ⟨#[99]⟩] = [⟨#[98]⟩, ⟨#[99]⟩] from bT_broken] at hA
      go_simp
      refine hA.mono ?_
      rintro e W2 ⟨v2, rfl, hr2⟩
      have b2 := hr2.below
      have H2 : Hid (Below X.heap.size X W2) := on2 H1.out b2
      obtain ⟨a2, k2, rfl, hs2⟩ := (hr2.wAG RStr.firm (A' := Fresh W1) (fun _ h => h.elim)).slF (bytes := 16) RStr.firm (by decide)
      have L2 : Hid (∀ z, Below W2.heap.size W2 z → SlAt RStr 1 16 (fun _ => True) z a2 2 k2 [⟨#[98]⟩, ⟨#[99]⟩]) := fun z hz => (hs2.weak RStr.firm (fun _ _ _ => trivial)).on RStr.firm hz
      clear hA hs2 hr2
      go_wp2_with fail
      refine hK.out _ _ H2.out (fun hHeld2 => ?_)
      clear hK K hHeld; have hHeld := hHeld2; clear hHeld2
      try go_frame
      refine tr 11 (fun K hK => ?_)
      go_simp
      obtain ⟨W3, hW3⟩ : ∃ Z, Z = W2.alloc (.cells #[.string ⟨#[98]⟩, .string ⟨#[99]⟩] 9) := ⟨_, rfl⟩
      have b3 : Below W2.heap.size W2 W3 := by rw [hW3]; exact (Below.refl _ _).alloc (Nat.le_refl _) _
      have q3 : BoxL W3 W2.heap.size [.string ⟨#[98]⟩, .string ⟨#[99]⟩] := by rw [hW3]; exact BoxL.new W2 9 _
      rw [← hW3]
      clear hW3
      have H3 : Hid (Below X.heap.size X W3) := on2 H2.out b3
      have L3 : Hid (∀ z, Below W3.heap.size W3 z → SlAt RStr 1 16 (fun _ => True) z (some ⟨W2.heap.size, 0, none⟩) 2 2 [⟨#[98]⟩, ⟨#[99]⟩]) := fun z hz => sl_str2 (q3.on hz) (by decide)
      clear q3
      refine hK.out _ _ H3.out (fun hHeld2 => ?_)
      clear hK K hHeld; have hHeld := hHeld2; clear hHeld2
      try go_frame
      refine tr 12 (fun K hK => ?_)
      have hA := SameTexts_calls _ _ _ _ _ _ _ _ _ _ W3 (L2.out W3 (b3)) (L3.out W3 (Below.refl _ _))
      rw [decide_eq_true rfl] at hA
      go_simp
      refine hA.mono ?_
      rintro e W4 ⟨rfl, q4, rfl⟩
      have b4 : Below W3.heap.size W3 (W3.drewN q4) := below_drewN (Below.refl _ _) _
      generalize hg4 : W3.drewN q4 = W4 at b4 ⊢
      have H4 : Hid (Below X.heap.size X W4) := on2 H3.out b4
      clear hA hg4
      go_wp2_with fail
      refine hK.out _ _ H4.out (fun hHeld2 => ?_)
      clear hK K hHeld; have hHeld := hHeld2; clear hHeld2
      try go_frame
      refine' tk 13 ?_ ?_; rotate_left
      · intro z hz; clear hz; go_simp; try with_reducible rfl
      try go_frame
      refine' tk 14 ?_ ?_; rotate_left
      · intro z hz; clear hz; go_simp; try with_reducible rfl
      try go_frame
      refine tq 15 (.agg ss.toArray) (yieldsIf_load_mid (by rfl) 29 _ rfl D 0 rfl ss _ (fun z hz => HR.out z hz) Try.underlying29 rfl HSz.out) ?_ (hi := rfl)
      try go_frame
      refine tb 16 18 (fun K hK => ?_) (fun K hK => ?_)
      ·
        go_simp
        obtain ⟨W5, hW5⟩ : ∃ Z, Z = W4.alloc (.cells #[.string ⟨#[97]⟩, .string ⟨#[99]⟩, .string ⟨#[122]⟩, .string ⟨#[97]⟩] 9) := ⟨_, rfl⟩
        have b5 : Below W4.heap.size W4 W5 := by rw [hW5]; exact (Below.refl _ _).alloc (Nat.le_refl _) _
        have q5 : BoxL W5 W4.heap.size [.string ⟨#[97]⟩, .string ⟨#[99]⟩, .string ⟨#[122]⟩, .string ⟨#[97]⟩] := by rw [hW5]; exact BoxL.new W4 9 _
        rw [← hW5]
        clear hW5
        have H5 : Hid (Below X.heap.size X W5) := on2 H4.out b5
        have L5 : Hid (∀ z, Below W5.heap.size W5 z → SlAt RStr 1 16 (fun _ => True) z (some ⟨W4.heap.size, 0, none⟩) 4 4 [⟨#[97]⟩, ⟨#[99]⟩, ⟨#[122]⟩, ⟨#[97]⟩]) := fun z hz => sl_str4 (q5.on hz) (by decide)
        clear q5
        refine hK.out _ _ H5.out (fun hHeld2 => ?_)
        clear hK K hHeld; have hHeld := hHeld2; clear hHeld2
        try go_frame
        refine tb 17 18 (fun K hK => ?_) (fun K hK => ?_)
        ·
          have hA := V.order ss (Fresh w) stT _ _ _ (fun _ => True) _ W5 (HS.out W5 H5.out) (L5.out W5 (Below.refl _ _))
          rw [show orderP stT.1 [⟨#[97]⟩, ⟨#[99]⟩, ⟨#[122]⟩, ⟨#[97]⟩] = [⟨#[99]⟩, ⟨#[97]⟩] from bT_order] at hA
          go_simp
          refine hA.mono ?_
          rintro e W6 ⟨v6, rfl, hr6⟩
          have b6 := hr6.below
          have H6 : Hid (Below X.heap.size X W6) := on2 H5.out b6
          obtain ⟨a6, k6, rfl, hs6⟩ := (hr6.wAG RStr.firm (A' := Fresh W5) (fun _ h => h.elim)).slF (bytes := 16) RStr.firm (by decide)
          have L6 : Hid (∀ z, Below W6.heap.size W6 z → SlAt RStr 1 16 (fun _ => True) z a6 2 k6 [⟨#[99]⟩, ⟨#[97]⟩]) := fun z hz => (hs6.weak RStr.firm (fun _ _ _ => trivial)).on RStr.firm hz
          clear hA hs6 hr6
          go_wp2_with fail
          refine hK.out _ _ H6.out (fun hHeld2 => ?_)
          clear hK K hHeld; have hHeld := hHeld2; clear hHeld2
          try go_frame
          refine tr 18 (fun K hK => ?_)
          go_simp
          obtain ⟨W7, hW7⟩ : ∃ Z, Z = W6.alloc (.cells #[.string ⟨#[99]⟩, .string ⟨#[97]⟩] 9) := ⟨_, rfl⟩
          have b7 : Below W6.heap.size W6 W7 := by rw [hW7]; exact (Below.refl _ _).alloc (Nat.le_refl _) _
          have q7 : BoxL W7 W6.heap.size [.string ⟨#[99]⟩, .string ⟨#[97]⟩] := by rw [hW7]; exact BoxL.new W6 9 _
          rw [← hW7]
          clear hW7
          have H7 : Hid (Below X.heap.size X W7) := on2 H6.out b7
          have L7 : Hid (∀ z, Below W7.heap.size W7 z → SlAt RStr 1 16 (fun _ => True) z (some ⟨W6.heap.size, 0, none⟩) 2 2 [⟨#[99]⟩, ⟨#[97]⟩]) := fun z hz => sl_str2 (q7.on hz) (by decide)
          clear q7
          refine hK.out _ _ H7.out (fun hHeld2 => ?_)
          clear hK K hHeld; have hHeld := hHeld2; clear hHeld2
          try go_frame
          refine tr 19 (fun K hK => ?_)
          have hA := SameTexts_calls _ _ _ _ _ _ _ _ _ _ W7 (L6.out W7 (b7)) (L7.out W7 (Below.refl _ _))
          rw [decide_eq_true rfl] at hA
          go_simp
          refine hA.mono ?_
          rintro e W8 ⟨rfl, q8, rfl⟩
          have b8 : Below W7.heap.size W7 (W7.drewN q8) := below_drewN (Below.refl _ _) _
          generalize hg8 : W7.drewN q8 = W8 at b8 ⊢
          have H8 : Hid (Below X.heap.size X W8) := on2 H7.out b8
          clear hA hg8
          go_wp2_with fail
          refine hK.out _ _ H8.out (fun hHeld2 => ?_)
          clear hK K hHeld; have hHeld := hHeld2; clear hHeld2
          try go_frame
          refine' tk 20 ?_ ?_; rotate_left
          · intro z hz; clear hz; go_simp; try with_reducible rfl
          try go_frame
          refine' tk 21 ?_ ?_; rotate_left
          · intro z hz; clear hz; go_simp; try with_reducible rfl
          try go_frame
          refine tz ?_
          have HE : Hid (Below w.heap.size w W8) := on2 HB.out H8.out
          clear hHeld
          go_wp2_with fail
          go_ret
          exact ⟨rfl, HE.out⟩
        ·
          go_simp
          obtain ⟨W9, hW9⟩ : ∃ Z, Z = W5.alloc (.cells #[.string ⟨#[99]⟩, .string ⟨#[97]⟩] 9) := ⟨_, rfl⟩
          have b9 : Below W5.heap.size W5 W9 := by rw [hW9]; exact (Below.refl _ _).alloc (Nat.le_refl _) _
          have q9 : BoxL W9 W5.heap.size [.string ⟨#[99]⟩, .string ⟨#[97]⟩] := by rw [hW9]; exact BoxL.new W5 9 _
          rw [← hW9]
          clear hW9
          have H9 : Hid (Below X.heap.size X W9) := on2 H5.out b9
          have L9 : Hid (∀ z, Below W9.heap.size W9 z → SlAt RStr 1 16 (fun _ => True) z (some ⟨W5.heap.size, 0, none⟩) 2 2 [⟨#[99]⟩, ⟨#[97]⟩]) := fun z hz => sl_str2 (q9.on hz) (by decide)
          clear q9
          refine hK.out _ _ H9.out (fun hHeld2 => ?_)
          clear hK K hHeld; have hHeld := hHeld2; clear hHeld2
          try go_frame
          refine tr 17 (fun K hK => ?_)
          have hA := V.order ss (Fresh w) stT _ _ _ (fun _ => True) _ W9 (HS.out W9 H9.out) (L5.out W9 (b9))
          rw [show orderP stT.1 [⟨#[97]⟩, ⟨#[99]⟩, ⟨#[122]⟩, ⟨#[97]⟩] = [⟨#[99]⟩, ⟨#[97]⟩] from bT_order] at hA
          go_simp
          refine hA.mono ?_
          rintro e W10 ⟨v10, rfl, hr10⟩
          have b10 := hr10.below
          have H10 : Hid (Below X.heap.size X W10) := on2 H9.out b10
          obtain ⟨a10, k10, rfl, hs10⟩ := (hr10.wAG RStr.firm (A' := Fresh W9) (fun _ h => h.elim)).slF (bytes := 16) RStr.firm (by decide)
          have L10 : Hid (∀ z, Below W10.heap.size W10 z → SlAt RStr 1 16 (fun _ => True) z a10 2 k10 [⟨#[99]⟩, ⟨#[97]⟩]) := fun z hz => (hs10.weak RStr.firm (fun _ _ _ => trivial)).on RStr.firm hz
          clear hA hs10 hr10
          go_wp2_with fail
          refine hK.out _ _ H10.out (fun hHeld2 => ?_)
          clear hK K hHeld; have hHeld := hHeld2; clear hHeld2
          try go_frame
          refine tr 19 (fun K hK => ?_)
          have hA := SameTexts_calls _ _ _ _ _ _ _ _ _ _ W10 (L10.out W10 (Below.refl _ _)) (L9.out W10 (b10))
          rw [decide_eq_true rfl] at hA
          go_simp
          refine hA.mono ?_
          rintro e W11 ⟨rfl, q11, rfl⟩
          have b11 : Below W10.heap.size W10 (W10.drewN q11) := below_drewN (Below.refl _ _) _
          generalize hg11 : W10.drewN q11 = W11 at b11 ⊢
          have H11 : Hid (Below X.heap.size X W11) := on2 H10.out b11
          clear hA hg11
          go_wp2_with fail
          refine hK.out _ _ H11.out (fun hHeld2 => ?_)
          clear hK K hHeld; have hHeld := hHeld2; clear hHeld2
          try go_frame
          refine' tk 20 ?_ ?_; rotate_left
          · intro z hz; clear hz; go_simp; try with_reducible rfl
          try go_frame
          refine' tk 21 ?_ ?_; rotate_left
          · intro z hz; clear hz; go_simp; try with_reducible rfl
          try go_frame
          refine tz ?_
          have HE : Hid (Below w.heap.size w W11) := on2 HB.out H11.out
          clear hHeld
          go_wp2_with fail
          go_ret
          exact ⟨rfl, HE.out⟩
      ·
        go_simp
        obtain ⟨W12, hW12⟩ : ∃ Z, Z = W4.alloc (.cells #[.string ⟨#[99]⟩, .string ⟨#[97]⟩] 9) := ⟨_, rfl⟩
        have b12 : Below W4.heap.size W4 W12 := by rw [hW12]; exact (Below.refl _ _).alloc (Nat.le_refl _) _
        have q12 : BoxL W12 W4.heap.size [.string ⟨#[99]⟩, .string ⟨#[97]⟩] := by rw [hW12]; exact BoxL.new W4 9 _
        rw [← hW12]
        clear hW12
        have H12 : Hid (Below X.heap.size X W12) := on2 H4.out b12
        have L12 : Hid (∀ z, Below W12.heap.size W12 z → SlAt RStr 1 16 (fun _ => True) z (some ⟨W4.heap.size, 0, none⟩) 2 2 [⟨#[99]⟩, ⟨#[97]⟩]) := fun z hz => sl_str2 (q12.on hz) (by decide)
        clear q12
        refine hK.out _ _ H12.out (fun hHeld2 => ?_)
        clear hK K hHeld; have hHeld := hHeld2; clear hHeld2
        try go_frame
        refine tr 16 (fun K hK => ?_)
        go_simp
        obtain ⟨W13, hW13⟩ : ∃ Z, Z = W12.alloc (.cells #[.string ⟨#[97]⟩, .string ⟨#[99]⟩, .string ⟨#[122]⟩, .string ⟨#[97]⟩] 9) := ⟨_, rfl⟩
        have b13 : Below W12.heap.size W12 W13 := by rw [hW13]; exact (Below.refl _ _).alloc (Nat.le_refl _) _
        have q13 : BoxL W13 W12.heap.size [.string ⟨#[97]⟩, .string ⟨#[99]⟩, .string ⟨#[122]⟩, .string ⟨#[97]⟩] := by rw [hW13]; exact BoxL.new W12 9 _
        rw [← hW13]
        clear hW13
        have H13 : Hid (Below X.heap.size X W13) := on2 H12.out b13
        have L13 : Hid (∀ z, Below W13.heap.size W13 z → SlAt RStr 1 16 (fun _ => True) z (some ⟨W12.heap.size, 0, none⟩) 4 4 [⟨#[97]⟩, ⟨#[99]⟩, ⟨#[122]⟩, ⟨#[97]⟩]) := fun z hz => sl_str4 (q13.on hz) (by decide)
        clear q13
        refine hK.out _ _ H13.out (fun hHeld2 => ?_)
        clear hK K hHeld; have hHeld := hHeld2; clear hHeld2
        try go_frame
        refine tr 17 (fun K hK => ?_)
        have hA := V.order ss (Fresh w) stT _ _ _ (fun _ => True) _ W13 (HS.out W13 H13.out) (L13.out W13 (Below.refl _ _))
        rw [show orderP stT.1 [⟨#[97]⟩, ⟨#[99]⟩, ⟨#[122]⟩, ⟨#[97]⟩] = [⟨#[99]⟩, ⟨#[97]⟩] from bT_order] at hA
        go_simp
        refine hA.mono ?_
        rintro e W14 ⟨v14, rfl, hr14⟩
        have b14 := hr14.below
        have H14 : Hid (Below X.heap.size X W14) := on2 H13.out b14
        obtain ⟨a14, k14, rfl, hs14⟩ := (hr14.wAG RStr.firm (A' := Fresh W13) (fun _ h => h.elim)).slF (bytes := 16) RStr.firm (by decide)
        have L14 : Hid (∀ z, Below W14.heap.size W14 z → SlAt RStr 1 16 (fun _ => True) z a14 2 k14 [⟨#[99]⟩, ⟨#[97]⟩]) := fun z hz => (hs14.weak RStr.firm (fun _ _ _ => trivial)).on RStr.firm hz
        clear hA hs14 hr14
        go_wp2_with fail
        refine hK.out _ _ H14.out (fun hHeld2 => ?_)
        clear hK K hHeld; have hHeld := hHeld2; clear hHeld2
        try go_frame
        refine tr 19 (fun K hK => ?_)
        have hA := SameTexts_calls _ _ _ _ _ _ _ _ _ _ W14 (L14.out W14 (Below.refl _ _)) (L12.out W14 (on2 b13 b14))
        rw [decide_eq_true rfl] at hA
        go_simp
        refine hA.mono ?_
        rintro e W15 ⟨rfl, q15, rfl⟩
        have b15 : Below W14.heap.size W14 (W14.drewN q15) := below_drewN (Below.refl _ _) _
        generalize hg15 : W14.drewN q15 = W15 at b15 ⊢
        have H15 : Hid (Below X.heap.size X W15) := on2 H14.out b15
        clear hA hg15
        go_wp2_with fail
        refine hK.out _ _ H15.out (fun hHeld2 => ?_)
        clear hK K hHeld; have hHeld := hHeld2; clear hHeld2
        try go_frame
        refine' tk 20 ?_ ?_; rotate_left
        · intro z hz; clear hz; go_simp; try with_reducible rfl
        try go_frame
        refine' tk 21 ?_ ?_; rotate_left
        · intro z hz; clear hz; go_simp; try with_reducible rfl
        try go_frame
        refine tz ?_
        have HE : Hid (Below w.heap.size w W15) := on2 HB.out H15.out
        clear hHeld
        go_wp2_with fail
        go_ret
        exact ⟨rfl, HE.out⟩
    ·
      go_simp
      obtain ⟨W16, hW16⟩ : ∃ Z, Z = W1.alloc (.cells #[.string ⟨#[98]⟩, .string ⟨#[99]⟩] 9) := ⟨_, rfl⟩
      have b16 : Below W1.heap.size W1 W16 := by rw [hW16]; exact (Below.refl _ _).alloc (Nat.le_refl _) _
      have q16 : BoxL W16 W1.heap.size [.string ⟨#[98]⟩, .string ⟨#[99]⟩] := by rw [hW16]; exact BoxL.new W1 9 _
      rw [← hW16]
      clear hW16
      have H16 : Hid (Below X.heap.size X W16) := on2 H1.out b16
      have L16 : Hid (∀ z, Below W16.heap.size W16 z → SlAt RStr 1 16 (fun _ => True) z (some ⟨W1.heap.size, 0, none⟩) 2 2 [⟨#[98]⟩, ⟨#[99]⟩]) := fun z hz => sl_str2 (q16.on hz) (by decide)
      clear q16
      refine hK.out _ _ H16.out (fun hHeld2 => ?_)
      clear hK K hHeld; have hHeld := hHeld2; clear hHeld2
      try go_frame
      refine tr 10 (fun K hK => ?_)
      have hA := V.broken ss (Fresh w) stT _ _ _ (fun _ => True) _ W16 (HS.out W16 H16.out) (L1.out W16 (b16)) fitsT
      rw [show brokenP (fsG stT.1) (fsG stT.2.2.2.2.2) [⟨#[97]⟩, ⟨#[98]⟩, ⟨#[99]⟩] = [⟨#[98]⟩, ⟨#[99]⟩] from bT_broken] at hA
      go_simp
      refine hA.mono ?_
      rintro e W17 ⟨v17, rfl, hr17⟩
      have b17 := hr17.below
      have H17 : Hid (Below X.heap.size X W17) := on2 H16.out b17
      obtain ⟨a17, k17, rfl, hs17⟩ := (hr17.wAG RStr.firm (A' := Fresh W16) (fun _ h => h.elim)).slF (bytes := 16) RStr.firm (by decide)
      have L17 : Hid (∀ z, Below W17.heap.size W17 z → SlAt RStr 1 16 (fun _ => True) z a17 2 k17 [⟨#[98]⟩, ⟨#[99]⟩]) := fun z hz => (hs17.weak RStr.firm (fun _ _ _ => trivial)).on RStr.firm hz
      clear hA hs17 hr17
      go_wp2_with fail
      refine hK.out _ _ H17.out (fun hHeld2 => ?_)
      clear hK K hHeld; have hHeld := hHeld2; clear hHeld2
      try go_frame
      refine tr 12 (fun K hK => ?_)
      have hA := SameTexts_calls _ _ _ _ _ _ _ _ _ _ W17 (L17.out W17 (Below.refl _ _)) (L16.out W17 (b17))
      rw [decide_eq_true rfl] at hA
      go_simp
      refine hA.mono ?_
      rintro e W18 ⟨rfl, q18, rfl⟩
      have b18 : Below W17.heap.size W17 (W17.drewN q18) := below_drewN (Below.refl _ _) _
      generalize hg18 : W17.drewN q18 = W18 at b18 ⊢
      have H18 : Hid (Below X.heap.size X W18) := on2 H17.out b18
      clear hA hg18
      go_wp2_with fail
      refine hK.out _ _ H18.out (fun hHeld2 => ?_)
      clear hK K hHeld; have hHeld := hHeld2; clear hHeld2
      try go_frame
      refine' tk 13 ?_ ?_; rotate_left
      · intro z hz; clear hz; go_simp; try with_reducible rfl
      try go_frame
      refine' tk 14 ?_ ?_; rotate_left
      · intro z hz; clear hz; go_simp; try with_reducible rfl
      try go_frame
      refine tq 15 (.agg ss.toArray) (yieldsIf_load_mid (by rfl) 29 _ rfl D 0 rfl ss _ (fun z hz => HR.out z hz) Try.underlying29 rfl HSz.out) ?_ (hi := rfl)
      try go_frame
      refine tb 16 18 (fun K hK => ?_) (fun K hK => ?_)
      ·
        go_simp
        obtain ⟨W19, hW19⟩ : ∃ Z, Z = W18.alloc (.cells #[.string ⟨#[97]⟩, .string ⟨#[99]⟩, .string ⟨#[122]⟩, .string ⟨#[97]⟩] 9) := ⟨_, rfl⟩
        have b19 : Below W18.heap.size W18 W19 := by rw [hW19]; exact (Below.refl _ _).alloc (Nat.le_refl _) _
        have q19 : BoxL W19 W18.heap.size [.string ⟨#[97]⟩, .string ⟨#[99]⟩, .string ⟨#[122]⟩, .string ⟨#[97]⟩] := by rw [hW19]; exact BoxL.new W18 9 _
        rw [← hW19]
        clear hW19
        have H19 : Hid (Below X.heap.size X W19) := on2 H18.out b19
        have L19 : Hid (∀ z, Below W19.heap.size W19 z → SlAt RStr 1 16 (fun _ => True) z (some ⟨W18.heap.size, 0, none⟩) 4 4 [⟨#[97]⟩, ⟨#[99]⟩, ⟨#[122]⟩, ⟨#[97]⟩]) := fun z hz => sl_str4 (q19.on hz) (by decide)
        clear q19
        refine hK.out _ _ H19.out (fun hHeld2 => ?_)
        clear hK K hHeld; have hHeld := hHeld2; clear hHeld2
        try go_frame
        refine tb 17 18 (fun K hK => ?_) (fun K hK => ?_)
        ·
          have hA := V.order ss (Fresh w) stT _ _ _ (fun _ => True) _ W19 (HS.out W19 H19.out) (L19.out W19 (Below.refl _ _))
          rw [show orderP stT.1 [⟨#[97]⟩, ⟨#[99]⟩, ⟨#[122]⟩, ⟨#[97]⟩] = [⟨#[99]⟩, ⟨#[97]⟩] from bT_order] at hA
          go_simp
          refine hA.mono ?_
          rintro e W20 ⟨v20, rfl, hr20⟩
          have b20 := hr20.below
          have H20 : Hid (Below X.heap.size X W20) := on2 H19.out b20
          obtain ⟨a20, k20, rfl, hs20⟩ := (hr20.wAG RStr.firm (A' := Fresh W19) (fun _ h => h.elim)).slF (bytes := 16) RStr.firm (by decide)
          have L20 : Hid (∀ z, Below W20.heap.size W20 z → SlAt RStr 1 16 (fun _ => True) z a20 2 k20 [⟨#[99]⟩, ⟨#[97]⟩]) := fun z hz => (hs20.weak RStr.firm (fun _ _ _ => trivial)).on RStr.firm hz
          clear hA hs20 hr20
          go_wp2_with fail
          refine hK.out _ _ H20.out (fun hHeld2 => ?_)
          clear hK K hHeld; have hHeld := hHeld2; clear hHeld2
          try go_frame
          refine tr 18 (fun K hK => ?_)
          go_simp
          obtain ⟨W21, hW21⟩ : ∃ Z, Z = W20.alloc (.cells #[.string ⟨#[99]⟩, .string ⟨#[97]⟩] 9) := ⟨_, rfl⟩
          have b21 : Below W20.heap.size W20 W21 := by rw [hW21]; exact (Below.refl _ _).alloc (Nat.le_refl _) _
          have q21 : BoxL W21 W20.heap.size [.string ⟨#[99]⟩, .string ⟨#[97]⟩] := by rw [hW21]; exact BoxL.new W20 9 _
          rw [← hW21]
          clear hW21
          have H21 : Hid (Below X.heap.size X W21) := on2 H20.out b21
          have L21 : Hid (∀ z, Below W21.heap.size W21 z → SlAt RStr 1 16 (fun _ => True) z (some ⟨W20.heap.size, 0, none⟩) 2 2 [⟨#[99]⟩, ⟨#[97]⟩]) := fun z hz => sl_str2 (q21.on hz) (by decide)
          clear q21
          refine hK.out _ _ H21.out (fun hHeld2 => ?_)
          clear hK K hHeld; have hHeld := hHeld2; clear hHeld2
          try go_frame
          refine tr 19 (fun K hK => ?_)
          have hA := SameTexts_calls _ _ _ _ _ _ _ _ _ _ W21 (L20.out W21 (b21)) (L21.out W21 (Below.refl _ _))
          rw [decide_eq_true rfl] at hA
          go_simp
          refine hA.mono ?_
          rintro e W22 ⟨rfl, q22, rfl⟩
          have b22 : Below W21.heap.size W21 (W21.drewN q22) := below_drewN (Below.refl _ _) _
          generalize hg22 : W21.drewN q22 = W22 at b22 ⊢
          have H22 : Hid (Below X.heap.size X W22) := on2 H21.out b22
          clear hA hg22
          go_wp2_with fail
          refine hK.out _ _ H22.out (fun hHeld2 => ?_)
          clear hK K hHeld; have hHeld := hHeld2; clear hHeld2
          try go_frame
          refine' tk 20 ?_ ?_; rotate_left
          · intro z hz; clear hz; go_simp; try with_reducible rfl
          try go_frame
          refine' tk 21 ?_ ?_; rotate_left
          · intro z hz; clear hz; go_simp; try with_reducible rfl
          try go_frame
          refine tz ?_
          have HE : Hid (Below w.heap.size w W22) := on2 HB.out H22.out
          clear hHeld
          go_wp2_with fail
          go_ret
          exact ⟨rfl, HE.out⟩
        ·
          go_simp
          obtain ⟨W23, hW23⟩ : ∃ Z, Z = W19.alloc (.cells #[.string ⟨#[99]⟩, .string ⟨#[97]⟩] 9) := ⟨_, rfl⟩
          have b23 : Below W19.heap.size W19 W23 := by rw [hW23]; exact (Below.refl _ _).alloc (Nat.le_refl _) _
          have q23 : BoxL W23 W19.heap.size [.string ⟨#[99]⟩, .string ⟨#[97]⟩] := by rw [hW23]; exact BoxL.new W19 9 _
          rw [← hW23]
          clear hW23
          have H23 : Hid (Below X.heap.size X W23) := on2 H19.out b23
          have L23 : Hid (∀ z, Below W23.heap.size W23 z → SlAt RStr 1 16 (fun _ => True) z (some ⟨W19.heap.size, 0, none⟩) 2 2 [⟨#[99]⟩, ⟨#[97]⟩]) := fun z hz => sl_str2 (q23.on hz) (by decide)
          clear q23
          refine hK.out _ _ H23.out (fun hHeld2 => ?_)
          clear hK K hHeld; have hHeld := hHeld2; clear hHeld2
          try go_frame
          refine tr 17 (fun K hK => ?_)
          have hA := V.order ss (Fresh w) stT _ _ _ (fun _ => True) _ W23 (HS.out W23 H23.out) (L19.out W23 (b23))
          rw [show orderP stT.1 [⟨#[97]⟩, ⟨#[99]⟩, ⟨#[122]⟩, ⟨#[97]⟩] = [⟨#[99]⟩, ⟨#[97]⟩] from bT_order] at hA
          go_simp
          refine hA.mono ?_
          rintro e W24 ⟨v24, rfl, hr24⟩
          have b24 := hr24.below
          have H24 : Hid (Below X.heap.size X W24) := on2 H23.out b24
          obtain ⟨a24, k24, rfl, hs24⟩ := (hr24.wAG RStr.firm (A' := Fresh W23) (fun _ h => h.elim)).slF (bytes := 16) RStr.firm (by decide)
          have L24 : Hid (∀ z, Below W24.heap.size W24 z → SlAt RStr 1 16 (fun _ => True) z a24 2 k24 [⟨#[99]⟩, ⟨#[97]⟩]) := fun z hz => (hs24.weak RStr.firm (fun _ _ _ => trivial)).on RStr.firm hz
          clear hA hs24 hr24
          go_wp2_with fail
          refine hK.out _ _ H24.out (fun hHeld2 => ?_)
          clear hK K hHeld; have hHeld := hHeld2; clear hHeld2
          try go_frame
          refine tr 19 (fun K hK => ?_)
          have hA := SameTexts_calls _ _ _ _ _ _ _ _ _ _ W24 (L24.out W24 (Below.refl _ _)) (L23.out W24 (b24))
          rw [decide_eq_true rfl] at hA
          go_simp
          refine hA.mono ?_
          rintro e W25 ⟨rfl, q25, rfl⟩
          have b25 : Below W24.heap.size W24 (W24.drewN q25) := below_drewN (Below.refl _ _) _
          generalize hg25 : W24.drewN q25 = W25 at b25 ⊢
          have H25 : Hid (Below X.heap.size X W25) := on2 H24.out b25
          clear hA hg25
          go_wp2_with fail
          refine hK.out _ _ H25.out (fun hHeld2 => ?_)
          clear hK K hHeld; have hHeld := hHeld2; clear hHeld2
          try go_frame
          refine' tk 20 ?_ ?_; rotate_left
          · intro z hz; clear hz; go_simp; try with_reducible rfl
          try go_frame
          refine' tk 21 ?_ ?_; rotate_left
          · intro z hz; clear hz; go_simp; try with_reducible rfl
          try go_frame
          refine tz ?_
          have HE : Hid (Below w.heap.size w W25) := on2 HB.out H25.out
          clear hHeld
          go_wp2_with fail
          go_ret
          exact ⟨rfl, HE.out⟩
      ·
        go_simp
        obtain ⟨W26, hW26⟩ : ∃ Z, Z = W18.alloc (.cells #[.string ⟨#[99]⟩, .string ⟨#[97]⟩] 9) := ⟨_, rfl⟩
        have b26 : Below W18.heap.size W18 W26 := by rw [hW26]; exact (Below.refl _ _).alloc (Nat.le_refl _) _
        have q26 : BoxL W26 W18.heap.size [.string ⟨#[99]⟩, .string ⟨#[97]⟩] := by rw [hW26]; exact BoxL.new W18 9 _
        rw [← hW26]
        clear hW26
        have H26 : Hid (Below X.heap.size X W26) := on2 H18.out b26
        have L26 : Hid (∀ z, Below W26.heap.size W26 z → SlAt RStr 1 16 (fun _ => True) z (some ⟨W18.heap.size, 0, none⟩) 2 2 [⟨#[99]⟩, ⟨#[97]⟩]) := fun z hz => sl_str2 (q26.on hz) (by decide)
        clear q26
        refine hK.out _ _ H26.out (fun hHeld2 => ?_)
        clear hK K hHeld; have hHeld := hHeld2; clear hHeld2
        try go_frame
        refine tr 16 (fun K hK => ?_)
        go_simp
        obtain ⟨W27, hW27⟩ : ∃ Z, Z = W26.alloc (.cells #[.string ⟨#[97]⟩, .string ⟨#[99]⟩, .string ⟨#[122]⟩, .string ⟨#[97]⟩] 9) := ⟨_, rfl⟩
        have b27 : Below W26.heap.size W26 W27 := by rw [hW27]; exact (Below.refl _ _).alloc (Nat.le_refl _) _
        have q27 : BoxL W27 W26.heap.size [.string ⟨#[97]⟩, .string ⟨#[99]⟩, .string ⟨#[122]⟩, .string ⟨#[97]⟩] := by rw [hW27]; exact BoxL.new W26 9 _
        rw [← hW27]
        clear hW27
        have H27 : Hid (Below X.heap.size X W27) := on2 H26.out b27
        have L27 : Hid (∀ z, Below W27.heap.size W27 z → SlAt RStr 1 16 (fun _ => True) z (some ⟨W26.heap.size, 0, none⟩) 4 4 [⟨#[97]⟩, ⟨#[99]⟩, ⟨#[122]⟩, ⟨#[97]⟩]) := fun z hz => sl_str4 (q27.on hz) (by decide)
        clear q27
        refine hK.out _ _ H27.out (fun hHeld2 => ?_)
        clear hK K hHeld; have hHeld := hHeld2; clear hHeld2
        try go_frame
        refine tr 17 (fun K hK => ?_)
        have hA := V.order ss (Fresh w) stT _ _ _ (fun _ => True) _ W27 (HS.out W27 H27.out) (L27.out W27 (Below.refl _ _))
        rw [show orderP stT.1 [⟨#[97]⟩, ⟨#[99]⟩, ⟨#[122]⟩, ⟨#[97]⟩] = [⟨#[99]⟩, ⟨#[97]⟩] from bT_order] at hA
        go_simp
        refine hA.mono ?_
        rintro e W28 ⟨v28, rfl, hr28⟩
        have b28 := hr28.below
        have H28 : Hid (Below X.heap.size X W28) := on2 H27.out b28
        obtain ⟨a28, k28, rfl, hs28⟩ := (hr28.wAG RStr.firm (A' := Fresh W27) (fun _ h => h.elim)).slF (bytes := 16) RStr.firm (by decide)
        have L28 : Hid (∀ z, Below W28.heap.size W28 z → SlAt RStr 1 16 (fun _ => True) z a28 2 k28 [⟨#[99]⟩, ⟨#[97]⟩]) := fun z hz => (hs28.weak RStr.firm (fun _ _ _ => trivial)).on RStr.firm hz
        clear hA hs28 hr28
        go_wp2_with fail
        refine hK.out _ _ H28.out (fun hHeld2 => ?_)
        clear hK K hHeld; have hHeld := hHeld2; clear hHeld2
        try go_frame
        refine tr 19 (fun K hK => ?_)
        have hA := SameTexts_calls _ _ _ _ _ _ _ _ _ _ W28 (L28.out W28 (Below.refl _ _)) (L26.out W28 (on2 b27 b28))
        rw [decide_eq_true rfl] at hA
        go_simp
        refine hA.mono ?_
        rintro e W29 ⟨rfl, q29, rfl⟩
        have b29 : Below W28.heap.size W28 (W28.drewN q29) := below_drewN (Below.refl _ _) _
        generalize hg29 : W28.drewN q29 = W29 at b29 ⊢
        have H29 : Hid (Below X.heap.size X W29) := on2 H28.out b29
        clear hA hg29
        go_wp2_with fail
        refine hK.out _ _ H29.out (fun hHeld2 => ?_)
        clear hK K hHeld; have hHeld := hHeld2; clear hHeld2
        try go_frame
        refine' tk 20 ?_ ?_; rotate_left
        · intro z hz; clear hz; go_simp; try with_reducible rfl
        try go_frame
        refine' tk 21 ?_ ?_; rotate_left
        · intro z hz; clear hz; go_simp; try with_reducible rfl
        try go_frame
        refine tz ?_
        have HE : Hid (Below w.heap.size w W29) := on2 HB.out H29.out
        clear hHeld
        go_wp2_with fail
        go_ret
        exact ⟨rfl, HE.out⟩
  ·
    go_simp
    obtain ⟨W30, hW30⟩ : ∃ Z, Z = W0.alloc (.cells #[.string ⟨#[98]⟩, .string ⟨#[99]⟩] 9) := ⟨_, rfl⟩
    have b30 : Below W0.heap.size W0 W30 := by rw [hW30]; exact (Below.refl _ _).alloc (Nat.le_refl _) _
    have q30 : BoxL W30 W0.heap.size [.string ⟨#[98]⟩, .string ⟨#[99]⟩] := by rw [hW30]; exact BoxL.new W0 9 _
    rw [← hW30]
    clear hW30
    have H30 : Hid (Below X.heap.size X W30) := on2 H0.out b30
    have L30 : Hid (∀ z, Below W30.heap.size W30 z → SlAt RStr 1 16 (fun _ => True) z (some ⟨W0.heap.size, 0, none⟩) 2 2 [⟨#[98]⟩, ⟨#[99]⟩]) := fun z hz => sl_str2 (q30.on hz) (by decide)
    clear q30
    refine hK.out _ _ H30.out (fun hHeld2 => ?_)
    clear hK K hHeld; have hHeld := hHeld2; clear hHeld2
    try go_frame
    refine tr 9 (fun K hK => ?_)
    go_simp
    obtain ⟨W31, hW31⟩ : ∃ Z, Z = W30.alloc (.cells #[.string ⟨#[97]⟩, .string ⟨#[98]⟩, .string ⟨#[99]⟩] 9) := ⟨_, rfl⟩
    have b31 : Below W30.heap.size W30 W31 := by rw [hW31]; exact (Below.refl _ _).alloc (Nat.le_refl _) _
    have q31 : BoxL W31 W30.heap.size [.string ⟨#[97]⟩, .string ⟨#[98]⟩, .string ⟨#[99]⟩] := by rw [hW31]; exact BoxL.new W30 9 _
    rw [← hW31]
    clear hW31
    have H31 : Hid (Below X.heap.size X W31) := on2 H30.out b31
    have L31 : Hid (∀ z, Below W31.heap.size W31 z → SlAt RStr 1 16 (fun _ => True) z (some ⟨W30.heap.size, 0, none⟩) 3 3 [⟨#[97]⟩, ⟨#[98]⟩, ⟨#[99]⟩]) := fun z hz => sl_str3 (q31.on hz) (by decide)
    clear q31
    refine hK.out _ _ H31.out (fun hHeld2 => ?_)
    clear hK K hHeld; have hHeld := hHeld2; clear hHeld2
    try go_frame
    refine tr 10 (fun K hK => ?_)
    have hA := V.broken ss (Fresh w) stT _ _ _ (fun _ => True) _ W31 (HS.out W31 H31.out) (L31.out W31 (Below.refl _ _)) fitsT
    rw [show brokenP (fsG stT.1) (fsG stT.2.2.2.2.2) [⟨#[97]⟩, ⟨#[98]⟩, ⟨#[99]⟩] = [⟨#[98]⟩, ⟨#[99]⟩] from bT_broken] at hA
    go_simp
    refine hA.mono ?_
    rintro e W32 ⟨v32, rfl, hr32⟩
    have b32 := hr32.below
    have H32 : Hid (Below X.heap.size X W32) := on2 H31.out b32
    obtain ⟨a32, k32, rfl, hs32⟩ := (hr32.wAG RStr.firm (A' := Fresh W31) (fun _ h => h.elim)).slF (bytes := 16) RStr.firm (by decide)
    have L32 : Hid (∀ z, Below W32.heap.size W32 z → SlAt RStr 1 16 (fun _ => True) z a32 2 k32 [⟨#[98]⟩, ⟨#[99]⟩]) := fun z hz => (hs32.weak RStr.firm (fun _ _ _ => trivial)).on RStr.firm hz
    clear hA hs32 hr32
    go_wp2_with fail
    refine hK.out _ _ H32.out (fun hHeld2 => ?_)
    clear hK K hHeld; have hHeld := hHeld2; clear hHeld2
    try go_frame
    refine tr 12 (fun K hK => ?_)
    have hA := SameTexts_calls _ _ _ _ _ _ _ _ _ _ W32 (L32.out W32 (Below.refl _ _)) (L30.out W32 (on2 b31 b32))
    rw [decide_eq_true rfl] at hA
    go_simp
    refine hA.mono ?_
    rintro e W33 ⟨rfl, q33, rfl⟩
    have b33 : Below W32.heap.size W32 (W32.drewN q33) := below_drewN (Below.refl _ _) _
    generalize hg33 : W32.drewN q33 = W33 at b33 ⊢
    have H33 : Hid (Below X.heap.size X W33) := on2 H32.out b33
    clear hA hg33
    go_wp2_with fail
    refine hK.out _ _ H33.out (fun hHeld2 => ?_)
    clear hK K hHeld; have hHeld := hHeld2; clear hHeld2
    try go_frame
    refine' tk 13 ?_ ?_; rotate_left
    · intro z hz; clear hz; go_simp; try with_reducible rfl
    try go_frame
    refine' tk 14 ?_ ?_; rotate_left
    · intro z hz; clear hz; go_simp; try with_reducible rfl
    try go_frame
    refine tq 15 (.agg ss.toArray) (yieldsIf_load_mid (by rfl) 29 _ rfl D 0 rfl ss _ (fun z hz => HR.out z hz) Try.underlying29 rfl HSz.out) ?_ (hi := rfl)
    try go_frame
    refine tb 16 18 (fun K hK => ?_) (fun K hK => ?_)
    ·
      go_simp
      obtain ⟨W34, hW34⟩ : ∃ Z, Z = W33.alloc (.cells #[.string ⟨#[97]⟩, .string ⟨#[99]⟩, .string ⟨#[122]⟩, .string ⟨#[97]⟩] 9) := ⟨_, rfl⟩
      have b34 : Below W33.heap.size W33 W34 := by rw [hW34]; exact (Below.refl _ _).alloc (Nat.le_refl _) _
      have q34 : BoxL W34 W33.heap.size [.string ⟨#[97]⟩, .string ⟨#[99]⟩, .string ⟨#[122]⟩, .string ⟨#[97]⟩] := by rw [hW34]; exact BoxL.new W33 9 _
      rw [← hW34]
      clear hW34
      have H34 : Hid (Below X.heap.size X W34) := on2 H33.out b34
      have L34 : Hid (∀ z, Below W34.heap.size W34 z → SlAt RStr 1 16 (fun _ => True) z (some ⟨W33.heap.size, 0, none⟩) 4 4 [⟨#[97]⟩, ⟨#[99]⟩, ⟨#[122]⟩, ⟨#[97]⟩]) := fun z hz => sl_str4 (q34.on hz) (by decide)
      clear q34
      refine hK.out _ _ H34.out (fun hHeld2 => ?_)
      clear hK K hHeld; have hHeld := hHeld2; clear hHeld2
      try go_frame
      refine tb 17 18 (fun K hK => ?_) (fun K hK => ?_)
      ·
        have hA := V.order ss (Fresh w) stT _ _ _ (fun _ => True) _ W34 (HS.out W34 H34.out) (L34.out W34 (Below.refl _ _))
        rw [show orderP stT.1 [⟨#[97]⟩, ⟨#[99]⟩, ⟨#[122]⟩, ⟨#[97]⟩] = [⟨#[99]⟩, ⟨#[97]⟩] from bT_order] at hA
        go_simp
        refine hA.mono ?_
        rintro e W35 ⟨v35, rfl, hr35⟩
        have b35 := hr35.below
        have H35 : Hid (Below X.heap.size X W35) := on2 H34.out b35
        obtain ⟨a35, k35, rfl, hs35⟩ := (hr35.wAG RStr.firm (A' := Fresh W34) (fun _ h => h.elim)).slF (bytes := 16) RStr.firm (by decide)
        have L35 : Hid (∀ z, Below W35.heap.size W35 z → SlAt RStr 1 16 (fun _ => True) z a35 2 k35 [⟨#[99]⟩, ⟨#[97]⟩]) := fun z hz => (hs35.weak RStr.firm (fun _ _ _ => trivial)).on RStr.firm hz
        clear hA hs35 hr35
        go_wp2_with fail
        refine hK.out _ _ H35.out (fun hHeld2 => ?_)
        clear hK K hHeld; have hHeld := hHeld2; clear hHeld2
        try go_frame
        refine tr 18 (fun K hK => ?_)
        go_simp
        obtain ⟨W36, hW36⟩ : ∃ Z, Z = W35.alloc (.cells #[.string ⟨#[99]⟩, .string ⟨#[97]⟩] 9) := ⟨_, rfl⟩
        have b36 : Below W35.heap.size W35 W36 := by rw [hW36]; exact (Below.refl _ _).alloc (Nat.le_refl _) _
        have q36 : BoxL W36 W35.heap.size [.string ⟨#[99]⟩, .string ⟨#[97]⟩] := by rw [hW36]; exact BoxL.new W35 9 _
        rw [← hW36]
        clear hW36
        have H36 : Hid (Below X.heap.size X W36) := on2 H35.out b36
        have L36 : Hid (∀ z, Below W36.heap.size W36 z → SlAt RStr 1 16 (fun _ => True) z (some ⟨W35.heap.size, 0, none⟩) 2 2 [⟨#[99]⟩, ⟨#[97]⟩]) := fun z hz => sl_str2 (q36.on hz) (by decide)
        clear q36
        refine hK.out _ _ H36.out (fun hHeld2 => ?_)
        clear hK K hHeld; have hHeld := hHeld2; clear hHeld2
        try go_frame
        refine tr 19 (fun K hK => ?_)
        have hA := SameTexts_calls _ _ _ _ _ _ _ _ _ _ W36 (L35.out W36 (b36)) (L36.out W36 (Below.refl _ _))
        rw [decide_eq_true rfl] at hA
        go_simp
        refine hA.mono ?_
        rintro e W37 ⟨rfl, q37, rfl⟩
        have b37 : Below W36.heap.size W36 (W36.drewN q37) := below_drewN (Below.refl _ _) _
        generalize hg37 : W36.drewN q37 = W37 at b37 ⊢
        have H37 : Hid (Below X.heap.size X W37) := on2 H36.out b37
        clear hA hg37
        go_wp2_with fail
        refine hK.out _ _ H37.out (fun hHeld2 => ?_)
        clear hK K hHeld; have hHeld := hHeld2; clear hHeld2
        try go_frame
        refine' tk 20 ?_ ?_; rotate_left
        · intro z hz; clear hz; go_simp; try with_reducible rfl
        try go_frame
        refine' tk 21 ?_ ?_; rotate_left
        · intro z hz; clear hz; go_simp; try with_reducible rfl
        try go_frame
        refine tz ?_
        have HE : Hid (Below w.heap.size w W37) := on2 HB.out H37.out
        clear hHeld
        go_wp2_with fail
        go_ret
        exact ⟨rfl, HE.out⟩
      ·
        go_simp
        obtain ⟨W38, hW38⟩ : ∃ Z, Z = W34.alloc (.cells #[.string ⟨#[99]⟩, .string ⟨#[97]⟩] 9) := ⟨_, rfl⟩
        have b38 : Below W34.heap.size W34 W38 := by rw [hW38]; exact (Below.refl _ _).alloc (Nat.le_refl _) _
        have q38 : BoxL W38 W34.heap.size [.string ⟨#[99]⟩, .string ⟨#[97]⟩] := by rw [hW38]; exact BoxL.new W34 9 _
        rw [← hW38]
        clear hW38
        have H38 : Hid (Below X.heap.size X W38) := on2 H34.out b38
        have L38 : Hid (∀ z, Below W38.heap.size W38 z → SlAt RStr 1 16 (fun _ => True) z (some ⟨W34.heap.size, 0, none⟩) 2 2 [⟨#[99]⟩, ⟨#[97]⟩]) := fun z hz => sl_str2 (q38.on hz) (by decide)
        clear q38
        refine hK.out _ _ H38.out (fun hHeld2 => ?_)
        clear hK K hHeld; have hHeld := hHeld2; clear hHeld2
        try go_frame
        refine tr 17 (fun K hK => ?_)
        have hA := V.order ss (Fresh w) stT _ _ _ (fun _ => True) _ W38 (HS.out W38 H38.out) (L34.out W38 (b38))
        rw [show orderP stT.1 [⟨#[97]⟩, ⟨#[99]⟩, ⟨#[122]⟩, ⟨#[97]⟩] = [⟨#[99]⟩, ⟨#[97]⟩] from bT_order] at hA
        go_simp
        refine hA.mono ?_
        rintro e W39 ⟨v39, rfl, hr39⟩
        have b39 := hr39.below
        have H39 : Hid (Below X.heap.size X W39) := on2 H38.out b39
        obtain ⟨a39, k39, rfl, hs39⟩ := (hr39.wAG RStr.firm (A' := Fresh W38) (fun _ h => h.elim)).slF (bytes := 16) RStr.firm (by decide)
        have L39 : Hid (∀ z, Below W39.heap.size W39 z → SlAt RStr 1 16 (fun _ => True) z a39 2 k39 [⟨#[99]⟩, ⟨#[97]⟩]) := fun z hz => (hs39.weak RStr.firm (fun _ _ _ => trivial)).on RStr.firm hz
        clear hA hs39 hr39
        go_wp2_with fail
        refine hK.out _ _ H39.out (fun hHeld2 => ?_)
        clear hK K hHeld; have hHeld := hHeld2; clear hHeld2
        try go_frame
        refine tr 19 (fun K hK => ?_)
        have hA := SameTexts_calls _ _ _ _ _ _ _ _ _ _ W39 (L39.out W39 (Below.refl _ _)) (L38.out W39 (b39))
        rw [decide_eq_true rfl] at hA
        go_simp
        refine hA.mono ?_
        rintro e W40 ⟨rfl, q40, rfl⟩
        have b40 : Below W39.heap.size W39 (W39.drewN q40) := below_drewN (Below.refl _ _) _
        generalize hg40 : W39.drewN q40 = W40 at b40 ⊢
        have H40 : Hid (Below X.heap.size X W40) := on2 H39.out b40
        clear hA hg40
        go_wp2_with fail
        refine hK.out _ _ H40.out (fun hHeld2 => ?_)
        clear hK K hHeld; have hHeld := hHeld2; clear hHeld2
        try go_frame
        refine' tk 20 ?_ ?_; rotate_left
        · intro z hz; clear hz; go_simp; try with_reducible rfl
        try go_frame
        refine' tk 21 ?_ ?_; rotate_left
        · intro z hz; clear hz; go_simp; try with_reducible rfl
        try go_frame
        refine tz ?_
        have HE : Hid (Below w.heap.size w W40) := on2 HB.out H40.out
        clear hHeld
        go_wp2_with fail
        go_ret
        exact ⟨rfl, HE.out⟩
    ·
      go_simp
      obtain ⟨W41, hW41⟩ : ∃ Z, Z = W33.alloc (.cells #[.string ⟨#[99]⟩, .string ⟨#[97]⟩] 9) := ⟨_, rfl⟩
      have b41 : Below W33.heap.size W33 W41 := by rw [hW41]; exact (Below.refl _ _).alloc (Nat.le_refl _) _
      have q41 : BoxL W41 W33.heap.size [.string ⟨#[99]⟩, .string ⟨#[97]⟩] := by rw [hW41]; exact BoxL.new W33 9 _
      rw [← hW41]
      clear hW41
      have H41 : Hid (Below X.heap.size X W41) := on2 H33.out b41
      have L41 : Hid (∀ z, Below W41.heap.size W41 z → SlAt RStr 1 16 (fun _ => True) z (some ⟨W33.heap.size, 0, none⟩) 2 2 [⟨#[99]⟩, ⟨#[97]⟩]) := fun z hz => sl_str2 (q41.on hz) (by decide)
      clear q41
      refine hK.out _ _ H41.out (fun hHeld2 => ?_)
      clear hK K hHeld; have hHeld := hHeld2; clear hHeld2
      try go_frame
      refine tr 16 (fun K hK => ?_)
      go_simp
      obtain ⟨W42, hW42⟩ : ∃ Z, Z = W41.alloc (.cells #[.string ⟨#[97]⟩, .string ⟨#[99]⟩, .string ⟨#[122]⟩, .string ⟨#[97]⟩] 9) := ⟨_, rfl⟩
      have b42 : Below W41.heap.size W41 W42 := by rw [hW42]; exact (Below.refl _ _).alloc (Nat.le_refl _) _
      have q42 : BoxL W42 W41.heap.size [.string ⟨#[97]⟩, .string ⟨#[99]⟩, .string ⟨#[122]⟩, .string ⟨#[97]⟩] := by rw [hW42]; exact BoxL.new W41 9 _
      rw [← hW42]
      clear hW42
      have H42 : Hid (Below X.heap.size X W42) := on2 H41.out b42
      have L42 : Hid (∀ z, Below W42.heap.size W42 z → SlAt RStr 1 16 (fun _ => True) z (some ⟨W41.heap.size, 0, none⟩) 4 4 [⟨#[97]⟩, ⟨#[99]⟩, ⟨#[122]⟩, ⟨#[97]⟩]) := fun z hz => sl_str4 (q42.on hz) (by decide)
      clear q42
      refine hK.out _ _ H42.out (fun hHeld2 => ?_)
      clear hK K hHeld; have hHeld := hHeld2; clear hHeld2
      try go_frame
      refine tr 17 (fun K hK => ?_)
      have hA := V.order ss (Fresh w) stT _ _ _ (fun _ => True) _ W42 (HS.out W42 H42.out) (L42.out W42 (Below.refl _ _))
      rw [show orderP stT.1 [⟨#[97]⟩, ⟨#[99]⟩, ⟨#[122]⟩, ⟨#[97]⟩] = [⟨#[99]⟩, ⟨#[97]⟩] from bT_order] at hA
      go_simp
      refine hA.mono ?_
      rintro e W43 ⟨v43, rfl, hr43⟩
      have b43 := hr43.below
      have H43 : Hid (Below X.heap.size X W43) := on2 H42.out b43
      obtain ⟨a43, k43, rfl, hs43⟩ := (hr43.wAG RStr.firm (A' := Fresh W42) (fun _ h => h.elim)).slF (bytes := 16) RStr.firm (by decide)
      have L43 : Hid (∀ z, Below W43.heap.size W43 z → SlAt RStr 1 16 (fun _ => True) z a43 2 k43 [⟨#[99]⟩, ⟨#[97]⟩]) := fun z hz => (hs43.weak RStr.firm (fun _ _ _ => trivial)).on RStr.firm hz
      clear hA hs43 hr43
      go_wp2_with fail
      refine hK.out _ _ H43.out (fun hHeld2 => ?_)
      clear hK K hHeld; have hHeld := hHeld2; clear hHeld2
      try go_frame
      refine tr 19 (fun K hK => ?_)
      have hA := SameTexts_calls _ _ _ _ _ _ _ _ _ _ W43 (L43.out W43 (Below.refl _ _)) (L41.out W43 (on2 b42 b43))
      rw [decide_eq_true rfl] at hA
      go_simp
      refine hA.mono ?_
      rintro e W44 ⟨rfl, q44, rfl⟩
      have b44 : Below W43.heap.size W43 (W43.drewN q44) := below_drewN (Below.refl _ _) _
      generalize hg44 : W43.drewN q44 = W44 at b44 ⊢
      have H44 : Hid (Below X.heap.size X W44) := on2 H43.out b44
      clear hA hg44
      go_wp2_with fail
      refine hK.out _ _ H44.out (fun hHeld2 => ?_)
      clear hK K hHeld; have hHeld := hHeld2; clear hHeld2
      try go_frame
      refine' tk 20 ?_ ?_; rotate_left
      · intro z hz; clear hz; go_simp; try with_reducible rfl
      try go_frame
      refine' tk 21 ?_ ?_; rotate_left
      · intro z hz; clear hz; go_simp; try with_reducible rfl
      try go_frame
      refine tz ?_
      have HE : Hid (Below w.heap.size w W44) := on2 HB.out H44.out
      clear hHeld
      go_wp2_with fail
      go_ret
      exact ⟨rfl, HE.out⟩
end Go.Proofs.Ytpjgffcpjabghaa
