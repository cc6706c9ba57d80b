/- ScoreAlone, walked. Condition: what is handed in lies as is said of it. -/
import Derived.Test.YteihniiacfghoabQ15
import Derived.Test.YteihniiacfghoabQ06
namespace Go.Proofs.Yteihniiacfghoab
open Go.RowKit Go.Maps
set_option linter.unusedSimpArgs false
set_option maxRecDepth 100000

set_option maxHeartbeats 8000000 in
theorem alone_walk (ps : List Value) (p : PodD) (a : Option Addr) (n cap : Nat) (L : List InfoD) (w0 w1 w2 w3 : Int) (turn : Int) (w : World) (hp : RPod (fun _ => True) w ps p) (hL : SlAt RInfo 15 208 (fun _ => True) w a n cap L) : Calls Try.prog 3 #[.agg ps.toArray, .slice a n cap, .agg #[.int .i64 w0, .int .i64 w1, .int .i64 w2, .int .i64 w3], .int .i64 turn] w fun e w' => e = .returned (.bool true) ∧ Below w.heap.size w w' := by
  have hn : Hid (L.length = n) := hL.1
  have HLn : Hid (n * 208 ≤ 140737488351232) := hL.2.2.2.1
  have hml : n < 1000000000000000 := by have := HLn.out; omega
  have hcap : Hid ((a = none → cap = 0) ∧ n ≤ cap) := ⟨hL.2.2.1, hL.2.1⟩
  have hlP : Hid (ps.length = 16) := RPod.firm.len hp
  have hiP : (Try.prog.info? 33).map (·.size) = some ps.length := by rw [hlP.out]; exact sizePodS
  obtain ⟨W2, hW2⟩ : ∃ W2, W2 = (w.alloc (.cells ps.toArray 33)).alloc (.cells #[.int .i64 w0, .int .i64 w1, .int .i64 w2, .int .i64 w3] 35) := ⟨_, rfl⟩
  have hB : PiB w W2 ps [.int .i64 w0, .int .i64 w1, .int .i64 w2, .int .i64 w3] := by rw [hW2]; exact PiB.new w ps [.int .i64 w0, .int .i64 w1, .int .i64 w2, .int .i64 w3] _ _
  have hW2' : (w.alloc (.cells ps.toArray 33)).alloc (.cells #[.int .i64 w0, .int .i64 w1, .int .i64 w2, .int .i64 w3] 35) = W2 := hW2.symm
  have HB : Hid (PiB w W2 ps [.int .i64 w0, .int .i64 w1, .int .i64 w2, .int .i64 w3]) := hB
  have HL0 : Hid (∀ u, Below w.heap.size w u → SlAt RInfo 15 208 (fun b => b < w.heap.size) u a n cap L ∧ RPod (fun _ => True) u ps p) := fun u hu => ⟨(hL.weak RInfo.firm (fun b hb _ => hb)).on RInfo.firm hu, RPod.firm.kept hp (Kept.below hu)⟩
  obtain ⟨P, hP⟩ : ∃ P, P = w.heap.size := ⟨_, rfl⟩
  obtain ⟨I, hI⟩ : ∃ I, I = w.heap.size + 1 := ⟨_, rfl⟩
  have HPI : Hid (w.heap.size = P ∧ w.heap.size + 1 = I) := ⟨hP.symm, hI.symm⟩
  clear hB hp hL hP hI hW2
  go_enter Try.func3, Try.ntmps3
  go_upto_region 1 with fail
  rw [HPI.out.2, HPI.out.1]
  clear hW2'
  go_wp2_with fail
  refine (works16_calls W2).mono ?_
  rintro e W8 ⟨rfl, b3⟩
  have HB3 : Hid (PiB w W8 ps [.int .i64 w0, .int .i64 w1, .int .i64 w2, .int .i64 w3]) := HB.out.on b3
  have HXs : Hid (∀ z, Below W8.heap.size W8 z → z.rangeAt P 0 ps ∧ z.rangeAt I 0 [.int .i64 w0, .int .i64 w1, .int .i64 w2, .int .i64 w3]) := fun z hz => by have h1 := (HB3.out.on hz).x.range; have h2 := (HB3.out.on hz).y.range; rw [HPI.out.2] at h2; rw [HPI.out.1] at h1; exact ⟨h1, h2⟩
  have B08 : Hid (Below w.heap.size w W8) := HB3.out.b
  have hAm := AmongS_calls turn (n + 1) (by omega) (by have := HLn.out; omega) W8
  rw [show (((n + 1 : Nat)) : Int) = (n : Int) + 1 by omega] at hAm
  clear b3 HB
  --M1
  go_wp2_with fail
  refine hAm.mono ?_
  clear hAm
  rintro e w8 ⟨⟨t, rfl, ht⟩, hw8⟩
  rw [hw8]
  clear hw8 w8
  have htn : t ≤ n := by omega
  have HDr : Hid (∀ u, Below w.heap.size w u → SlAt RInfo 15 208 (fun b => b < w.heap.size) u (dropAS 15 a cap t) (n - t) (cap - t) (L.drop t)) := fun u hb => sl_dropAS (HL0.out u hb).1 htn
  have HTk : Hid (∀ u, Below w.heap.size w u → SlAt RInfo 15 208 (fun b => b < w.heap.size) u a t cap (L.take t)) := fun u hb => sl_takeG (HL0.out u hb).1 htn
  have HPl : Hid ((L.drop t ++ L.take t).length = n ∧ (L.take t).length = t ∧ (L.drop t).length = n - t) := by rw [Hid, List.length_append, List.length_drop, List.length_take, hn.out]; omega
  go_upto_region 4 with fail
  --M2
  go_cut [10] (fun q wx => ∃ (pa : Option Addr) (pc : Nat), q = .slice pa n pc ∧ Hid (SlAt RInfo 15 208 (fun _ => True) wx pa n pc (L.drop t ++ L.take t) ∧ Below W8.heap.size W8 wx))
  case first =>
    refine wp_region_noPanic ?_
    refine wp_region_held_drew (S := Below W8.heap.size W8) (by kernel_rfl) (Below.refl _ _).drew (fun hHeld => ?_)
    refine' tk 1 ?_ ?_; rotate_left
    · intro u hu; clear hu; go_simp; try with_reducible rfl
    try go_frame
    refine' tk 2 ?_ ?_; rotate_left
    · intro u hu; clear hu; go_simp; try with_reducible rfl
    try go_frame
    refine' tq 3 (.slice (dropAS 15 a cap t) (n - t) (cap - t)) ?_ ?_
    · refine .inl ⟨rfl, fun u _ => ?_⟩
      obtain ⟨hc1, hc2⟩ := hcap.out
      have z1 : (0 : Int) ≤ (t : Int) := by omega
      have z2 : (t : Int) ≤ (n : Int) := by omega
      have z3 : (n : Int) ≤ (cap : Int) := by omega
      have z4 : (t : Int) ≤ (cap : Int) := by omega
      have z5 : (cap : Int) - (t : Int) = ((cap - t : Nat) : Int) := by omega
      rcases a with _ | ad
      · obtain rfl := hc1 rfl
        obtain rfl : n = 0 := by omega
        obtain rfl : t = 0 := by omega
        simp only [dropAS]
        go_simp
        try with_reducible rfl
      · by_cases hct : cap = t
        · simp only [dropAS, hct, if_true]
          go_simp
          try with_reducible rfl
        · simp only [dropAS, hct, if_false]
          go_simp
          try with_reducible rfl
    try go_frame
    refine' tk 5 ?_ ?_; rotate_left
    · intro u hu; clear hu; go_simp; try with_reducible rfl
    try go_frame
    refine' tk 6 ?_ ?_; rotate_left
    · intro u hu; clear hu; go_simp; try with_reducible rfl
    try go_frame
    refine' tq 7 (.slice a t cap) ?_ ?_
    · refine .inl ⟨rfl, fun u _ => ?_⟩
      obtain ⟨hc1, hc2⟩ := hcap.out
      have z1 : (0 : Int) ≤ (t : Int) := by omega
      have z4 : (t : Int) ≤ (cap : Int) := by omega
      rcases a with _ | ad
      · obtain rfl := hc1 rfl
        obtain rfl : n = 0 := by omega
        obtain rfl : t = 0 := by omega
        go_simp
        try with_reducible rfl
      · go_simp
        try with_reducible rfl
    try go_frame
    refine tr 0 (fun K hK => ?_)
    go_simp
    obtain ⟨y1, hy1⟩ : ∃ y1, y1 = (W8.alloc (.cells #[] 49)).drew := ⟨_, rfl⟩
    have d1 : Below W8.heap.size W8 y1 := by rw [hy1]; exact ((Below.refl _ _).alloc (Nat.le_refl _) _).drew
    have r1 : Row RInfo 15 (fun b => b < w.heap.size) W8 y1 49 (.slice (some ⟨W8.heap.size, 0, none⟩) 0 0) [] := by rw [hy1]; exact (Row.start _ W8 W8 _ (Below.refl _ _)).on RInfo.firm (Below.refl _ _).drew
    refine hK.out _ _ (hy1 ▸ d1) (fun hHeld2 => ?_)
    rw [← hy1] at hHeld2 ⊢
    clear hy1
    clear hK K hHeld; have hHeld := hHeld2; clear hHeld2
    try go_frame
    have h08 := B08.out.size
    have hs1 : Src RInfo 15 (fun b => (fun b => b < w.heap.size) b ∧ (Value.slice (some ⟨W8.heap.size, 0, none⟩) 0 0).ownBlock ≠ some b) y1 (dropAS 15 a cap t) (n - t) (L.drop t) := ((HDr.out _ (on2 B08.out d1)).src RInfo.firm).weak RInfo.firm (fun b _ hb => ⟨hb, fun e => by have h1 := (r1.lt e).1; have h2 : b < w.heap.size := hb; omega⟩)
    refine tr 4 (fun K hK => ?_)
    refine row_appendP_wp RInfo.firm (A := (fun b => b < w.heap.size)) (w0 := W8) _ _ 34 49 rfl _ 208 infoInfoA Try.underlying34 rfl (by decide) (by decide) _ [] rfl r1 (dropAS 15 a cap t) (n - t) (cap - t) (L.drop t) rfl hs1 (by have h1 := HLn.out; have h2 := HPl.out.2.2; simp only [List.length_nil]; omega) ?_
    intro z2 u2 r2 gr2 hp2
    have d2 : Below W8.heap.size W8 u2 := r2.below
    rw [List.nil_append] at r2
    refine hK.out _ _ d2 (fun hHeld2 => ?_)
    clear hK K hHeld; have hHeld := hHeld2; clear hHeld2
    try go_frame
    have hs2 : Src RInfo 15 (fun b => (fun b => b < w.heap.size) b ∧ z2.ownBlock ≠ some b) u2 a t (L.take t) := ((HTk.out _ (on2 B08.out d2)).src RInfo.firm).weak RInfo.firm (fun b _ hb => ⟨hb, fun e => by have h1 := (r2.lt e).1; have h2 : b < w.heap.size := hb; omega⟩)
    refine tr 8 (fun K hK => ?_)
    refine row_appendP_wp RInfo.firm (A := (fun b => b < w.heap.size)) (w0 := W8) _ _ 34 49 rfl _ 208 infoInfoA Try.underlying34 rfl (by decide) (by decide) z2 (L.drop t) rfl r2 a t cap (L.take t) rfl hs2 (by have h1 := HLn.out; have h2 := HPl.out; omega) ?_
    intro z3 u3 r3 gr3 hp3
    have d3 : Below W8.heap.size W8 u3 := r3.below
    refine hK.out _ _ d3 (fun hHeld2 => ?_)
    clear hK K hHeld; have hHeld := hHeld2; clear hHeld2
    try go_frame
    obtain ⟨ra, rc, re, rs⟩ := r3.sl (bytes := 208) RInfo.firm (by rw [HPl.out.1]; exact HLn.out)
    have rs2 := rs.weak RInfo.firm (A' := (fun _ => True)) (fun _ _ _ => trivial)
    clear rs
    subst re
    rw [HPl.out.1] at rs2 ⊢
    refine' tk 9 ?_ ?_; rotate_left
    · intro u hu; clear hu; go_simp; try with_reducible rfl
    try go_frame
    refine wpAnyH_done (by kernel_rfl) ?_ _
    refine NoPanic.normal ?_
    go_wp2_with fail
    go_meet
    exact ⟨ra, rc, rfl, rs2, d3⟩
  case rest =>
  rename World => Wm
  obtain ⟨pa, pc, rfl, hcut⟩ := hcut
  have HTt : Hid (totalP p (L.drop t ++ L.take t) (w0, w1, w2, w3) = (totalP p L (w0, w1, w2, w3)).drop t ++ (totalP p L (w0, w1, w2, w3)).take t) := by
    have h := total_turn p (L.take t) (L.drop t) (w0, w1, w2, w3)
    rw [List.take_append_drop, HPl.out.2.1] at h
    exact h
  obtain ⟨TA, hTA⟩ : ∃ X, X = totalP p L (w0, w1, w2, w3) := ⟨_, rfl⟩
  have HTA : Hid (totalP p L (w0, w1, w2, w3) = TA ∧ TA.length = n) := ⟨hTA.symm, by rw [hTA, total_len, hn.out]⟩
  rw [← hTA] at HTt
  have HMb : Hid (Below W8.heap.size W8 Wm) := hcut.out.2
  have HM : Hid (∀ z, Below Wm.heap.size Wm z → SlAt RInfo 15 208 (fun _ => True) z pa n pc (L.drop t ++ L.take t) ∧ SlAt RInfo 15 208 (fun _ => True) z a n cap L ∧ RPod (fun _ => True) z ps p ∧ z.rangeAt P 0 ps ∧ z.rangeAt I 0 [.int .i64 w0, .int .i64 w1, .int .i64 w2, .int .i64 w3]) := fun z hz => ⟨hcut.out.1.on RInfo.firm hz, (HL0.out z (on2 B08.out (on2 HMb.out hz))).1.weak RInfo.firm (fun _ _ _ => trivial), (HL0.out z (on2 B08.out (on2 HMb.out hz))).2, (HXs.out z (on2 HMb.out hz)).1, (HXs.out z (on2 HMb.out hz)).2⟩
  clear hcut hTA HDr HTk HXs
  go_upto_region 5 with fail
  --M3
  have hb0 : Below Wm.heap.size Wm Wm.drew := (Below.refl _ _).drew
  refine t0 (fun z => Below Wm.heap.size Wm z) hb0 (fun hHeld => ?_)
  generalize Wm.drew = wd at hHeld ⊢
  clear hb0
  try go_frame
  refine tq 0 (.agg ps.toArray) (yieldsIf_load_mid (by rfl) 33 _ rfl P 0 (by go_simp) ps _ (fun z hz => (HM.out z hz).2.2.2.1) Try.underlying33 rfl hiP) ?_ (hi := rfl)
  try go_frame
  refine tq 4 (.agg ps.toArray) (yieldsIf_load_mid (by rfl) 33 _ rfl P 0 (by go_simp) ps _ (fun z hz => (HM.out z hz).2.2.2.1) Try.underlying33 rfl hiP) ?_ (hi := rfl)
  try go_frame
  refine' tk 1 ?_ ?_; rotate_left
  · intro z hz; clear hz; go_simp; try with_reducible rfl
  try go_frame
  refine' tk 5 ?_ ?_; rotate_left
  · intro z hz; clear hz; go_simp; try with_reducible rfl
  try go_frame
  refine tq 2 (.agg #[.int .i64 w0, .int .i64 w1, .int .i64 w2, .int .i64 w3]) (yieldsIf_load_mid (by rfl) 35 _ rfl I 0 (by go_simp) [.int .i64 w0, .int .i64 w1, .int .i64 w2, .int .i64 w3] _ (fun z hz => (HM.out z hz).2.2.2.2) Try.underlying35 rfl (by kernel_rfl)) ?_ (hi := rfl)
  try go_frame
  refine tq 6 (.agg #[.int .i64 w0, .int .i64 w1, .int .i64 w2, .int .i64 w3]) (yieldsIf_load_mid (by rfl) 35 _ rfl I 0 (by go_simp) [.int .i64 w0, .int .i64 w1, .int .i64 w2, .int .i64 w3] _ (fun z hz => (HM.out z hz).2.2.2.2) Try.underlying35 rfl (by kernel_rfl)) ?_ (hi := rfl)
  try go_frame
  have hA := Total_calls ps (fun _ => True) (fun _ => True) p a n cap L w0 w1 w2 w3 wd (HM.out _ hHeld).2.2.1 (HM.out _ hHeld).2.1
  rw [HTA.out.1] at hA
  refine tr 3 (fun K hK => ?_)
  go_simp
  refine hA.mono ?_
  rintro e v1w ⟨v1, rfl, h1⟩
  clear hA
  have hb9 : Below Wm.heap.size Wm v1w := on2 hHeld h1.below
  go_wp2_with fail
  refine hK.out _ _ hb9 (fun hHeld2 => ?_)
  clear hb9
  clear hK K hHeld; have hHeld := hHeld2; clear hHeld2
  try go_frame
  have hA := Total_calls ps (fun _ => True) (fun _ => True) p pa n pc (L.drop t ++ L.take t) w0 w1 w2 w3 v1w (HM.out _ hHeld).2.2.1 (HM.out _ hHeld).1
  rw [HTt.out] at hA
  refine tr 7 (fun K hK => ?_)
  go_simp
  refine hA.mono ?_
  rintro e v2w ⟨v2, rfl, h2⟩
  clear hA
  have hb9 : Below Wm.heap.size Wm v2w := on2 hHeld h2.below
  go_wp2_with fail
  refine hK.out _ _ hb9 (fun hHeld2 => ?_)
  clear hb9
  clear hK K hHeld; have hHeld := hHeld2; clear hHeld2
  try go_frame
  have HTl : Hid ((TA.drop t ++ TA.take t).length = n) := by rw [Hid, List.length_append, List.length_drop, List.length_take, HTA.out.2]; omega
  obtain ⟨la, lc, rfl, ls⟩ := (h1.wAG RInt.firm (A' := (fun _ => True)) (fun _ h => h.elim)).slF (bytes := 8) RInt.firm (by rw [HTA.out.2]; have := HLn.out; omega)
  have ls := ls.weak RInt.firm (A' := (fun _ => True)) (fun _ _ _ => trivial)
  rw [HTA.out.2] at ls ⊢
  obtain ⟨ka, kc, rfl, ks⟩ := (h2.wAG RInt.firm (A' := (fun _ => True)) (fun _ h => h.elim)).slF (bytes := 8) RInt.firm (by rw [HTl.out]; have := HLn.out; omega)
  have ks := ks.weak RInt.firm (A' := (fun _ => True)) (fun _ _ _ => trivial)
  rw [HTl.out] at ks ⊢
  have HAB : Hid (∀ z, Below v2w.heap.size v2w z → SlAt RInt 1 8 (fun _ => True) z la n lc TA ∧ SlAt RInt 1 8 (fun _ => True) z ka n kc (TA.drop t ++ TA.take t)) := fun z hz => ⟨(ls.on RInt.firm h2.below).on RInt.firm hz, ks.on RInt.firm hz⟩
  have hcap2 : Hid ((la = none → lc = 0) ∧ n ≤ lc) := ⟨ls.2.2.1, ls.2.1⟩
  clear ls ks h1 h2
  refine' tk 8 ?_ ?_; rotate_left
  · intro z hz; clear hz; go_simp; try with_reducible rfl
  try go_frame
  refine' tk 9 ?_ ?_; rotate_left
  · intro z hz; clear hz; go_simp; try with_reducible rfl
  try go_frame
  refine tz ?_
  have HB5 : Hid (Below Wm.heap.size Wm v2w) := hHeld
  clear hHeld hcap
  have hcap : Hid ((la = none → lc = 0) ∧ n ≤ lc) := hcap2
  clear hcap2
  have HD6 : Hid (∀ u, Below v2w.heap.size v2w u → SlAt RInt 1 8 (fun _ => True) u (dropAS 1 la lc t) (n - t) (lc - t) (TA.drop t)) := fun u hb => sl_dropAS (HAB.out u hb).1 htn
  have HT6 : Hid (∀ u, Below v2w.heap.size v2w u → SlAt RInt 1 8 (fun _ => True) u la t lc (TA.take t)) := fun u hb => sl_takeG (HAB.out u hb).1 htn
  have HTd : Hid ((TA.drop t).length = n - t ∧ (TA.take t).length = t) := by rw [Hid, List.length_drop, List.length_take, HTA.out.2]; omega
  go_upto_region 6 with fail
  --M4
  go_cut [64] (fun q wx => q = .bool false ∧ Hid (Below v2w.heap.size v2w wx))
  case first =>
    refine wp_region_noPanic ?_
    refine wp_region_held_drew (S := Below v2w.heap.size v2w) (by kernel_rfl) (Below.refl _ _).drew (fun hHeld => ?_)
    generalize v2w.drew = wd at hHeld ⊢
    have HWd : Hid (Below v2w.heap.size v2w wd) := hHeld
    refine' tk 0 ?_ ?_; rotate_left
    · intro z hz; clear hz; go_simp; try with_reducible rfl
    try go_frame
    refine' tk 1 ?_ ?_; rotate_left
    · intro z hz; clear hz; go_simp; try with_reducible rfl
    try go_frame
    refine' tk 2 ?_ ?_; rotate_left
    · intro z hz; clear hz; go_simp; try with_reducible rfl
    try go_frame
    refine' tk 3 ?_ ?_; rotate_left
    · intro z hz; clear hz; go_simp; try with_reducible rfl
    try go_frame
    refine' tk 4 ?_ ?_; rotate_left
    · intro z hz; clear hz; go_simp; try with_reducible rfl
    try go_frame
    refine' tk 5 ?_ ?_; rotate_left
    · intro z hz; clear hz; go_simp; try with_reducible rfl
    try go_frame
    refine' tk 6 ?_ ?_; rotate_left
    · intro z hz; clear hz; go_simp; try with_reducible rfl
    try go_frame
    refine' tk 7 ?_ ?_; rotate_left
    · intro z hz; clear hz; go_simp; try with_reducible rfl
    try go_frame
    refine' tk 8 ?_ ?_; rotate_left
    · intro z hz; clear hz; go_simp; try with_reducible rfl
    try go_frame
    refine' tk 9 ?_ ?_; rotate_left
    · intro z hz; clear hz; go_simp; try with_reducible rfl
    try go_frame
    refine' tk 10 ?_ ?_; rotate_left
    · intro z hz; clear hz; go_simp; try with_reducible rfl
    try go_frame
    refine' tk 11 ?_ ?_; rotate_left
    · intro z hz; clear hz; go_simp; try with_reducible rfl
    try go_frame
    refine' tk 12 ?_ ?_; rotate_left
    · intro z hz; clear hz; go_simp; try with_reducible rfl
    try go_frame
    refine' tk 13 ?_ ?_; rotate_left
    · intro z hz; clear hz; go_simp; try with_reducible rfl
    try go_frame
    refine' tk 14 ?_ ?_; rotate_left
    · intro z hz; clear hz; go_simp; try with_reducible rfl
    try go_frame
    refine' tq 15 (.slice (dropAS 1 la lc t) (n - t) (lc - t)) ?_ ?_
    · refine .inl ⟨(by rfl), fun u _ => ?_⟩
      obtain ⟨hc1, hc2⟩ := hcap.out
      have z1 : (0 : Int) ≤ (t : Int) := by omega
      have z2 : (t : Int) ≤ (n : Int) := by omega
      have z3 : (n : Int) ≤ (lc : Int) := by omega
      have z4 : (t : Int) ≤ (lc : Int) := by omega
      have z5 : (lc : Int) - (t : Int) = ((lc - t : Nat) : Int) := by omega
      rcases la with _ | ad
      · obtain rfl := hc1 rfl
        obtain rfl : n = 0 := by omega
        obtain rfl : t = 0 := by omega
        simp only [dropAS]
        go_simp
        try with_reducible rfl
      · by_cases hct : lc = t
        · simp only [dropAS, hct, if_true]
          go_simp
          try with_reducible rfl
        · simp only [dropAS, hct, if_false]
          go_simp
          try with_reducible rfl
    try go_frame
    refine' tk 17 ?_ ?_; rotate_left
    · intro z hz; clear hz; go_simp; try with_reducible rfl
    try go_frame
    refine' tk 18 ?_ ?_; rotate_left
    · intro z hz; clear hz; go_simp; try with_reducible rfl
    try go_frame
    refine' tq 19 (.slice la t lc) ?_ ?_
    · refine .inl ⟨(by rfl), fun u _ => ?_⟩
      obtain ⟨hc1, hc2⟩ := hcap.out
      have z1 : (0 : Int) ≤ (t : Int) := by omega
      have z4 : (t : Int) ≤ (lc : Int) := by omega
      rcases la with _ | ad
      · obtain rfl := hc1 rfl
        obtain rfl : n = 0 := by omega
        obtain rfl : t = 0 := by omega
        go_simp
        try with_reducible rfl
      · go_simp
        try with_reducible rfl
    try go_frame
    refine' tk 21 ?_ ?_; rotate_left
    · intro z hz; clear hz; go_simp; try with_reducible rfl
    try go_frame
    have hA := Ints_row (dropAS 1 la lc t) (n - t) (lc - t) (fun _ => True) (TA.drop t) wd (HD6.out _ hHeld)
    refine tr 16 (fun K hK => ?_)
    go_simp
    refine hA.mono ?_
    rintro e v11w ⟨v1, rfl, h1⟩
    clear hA
    have hb9 : Below v2w.heap.size v2w v11w := on2 hHeld h1.below
    go_wp2_with fail
    refine hK.out _ _ hb9 (fun hHeld2 => ?_)
    clear hb9
    clear hK K hHeld; have hHeld := hHeld2; clear hHeld2
    try go_frame
    have hs2 : Src RInt 1 (fun b => (fun _ => False) b ∧ v1.ownBlock ≠ some b) v11w la t (TA.take t) := ((HT6.out _ hHeld).src RInt.firm).flat RInt.flat
    refine tr 20 (fun K hK => ?_)
    refine want_yesS (by rfl) ?_
    refine row_appendP_wp RInt.firm (A := (fun _ => False)) (w0 := wd) _ _ 28 3 rfl _ 8 infoIntS Try.underlying28 rfl (by decide) (by decide) v1 (TA.drop t) rfl h1 la t lc (TA.take t) rfl hs2 (by have h1 := HLn.out; have h2 := HTd.out; omega) ?_
    intro z3 u3 r3 gr3 hp3
    have d3 : Below v2w.heap.size v2w u3 := on2 HWd.out r3.below
    refine hK.out _ _ d3 (fun hHeld2 => ?_)
    clear hK K hHeld; have hHeld := hHeld2; clear hHeld2
    try go_frame
    obtain ⟨ra, rc, re, rs⟩ := r3.sl (bytes := 8) RInt.firm (by rw [HTl.out]; have := HLn.out; omega)
    have rs2 := rs.weak RInt.firm (A' := (fun _ => True)) (fun _ _ _ => trivial)
    clear rs
    subst re
    rw [HTl.out] at rs2 ⊢
    have hA := SameInts_calls ra n rc (fun _ => True) (TA.drop t ++ TA.take t) ka n kc (fun _ => True) (TA.drop t ++ TA.take t) u3 rs2 (HAB.out _ hHeld).2
    rw [show decide ((TA.drop t ++ TA.take t : List Int) = TA.drop t ++ TA.take t) = true from decide_eq_true rfl] at hA
    refine tr 22 (fun K hK => ?_)
    go_simp
    refine hA.mono ?_
    rintro e v12w ⟨rfl, q, hq⟩
    clear hA
    have hb9 : Below v2w.heap.size v2w v12w := on2 hHeld (by rw [hq]; exact below_drewN (Below.refl _ _) _)
    clear hq
    go_wp2_with fail
    refine hK.out _ _ hb9 (fun hHeld2 => ?_)
    clear hb9
    clear hK K hHeld; have hHeld := hHeld2; clear hHeld2
    try go_frame
    refine' tk 23 ?_ ?_; rotate_left
    · intro z hz; clear hz; go_simp; try with_reducible rfl
    try go_frame
    refine' tk 24 ?_ ?_; rotate_left
    · intro z hz; clear hz; go_simp; try with_reducible rfl
    try go_frame
    have HE6 : Hid (Below v2w.heap.size v2w v12w) := hHeld
    refine wpAnyH_done (by kernel_rfl) ?_ _
    refine NoPanic.normal ?_
    go_wp2_with fail
    go_meet
    exact ⟨rfl, HE6⟩
  case rest =>
  obtain ⟨rfl, hc6⟩ := hcut
  rename World => W7
  have HB7 : Hid (Below w.heap.size w W7) := on2 B08.out (on2 HMb.out (on2 HB5.out hc6.out))
  have HX7 : Hid (BoxL W7 P ps) := by have h := ((HB3.out.on (on2 HMb.out (on2 HB5.out hc6.out))).x); rw [HPI.out.1] at h; exact h
  clear hc6 HAB HD6 HT6 HTd HTl HTt HTA HM HPl hcap HB5 HMb
  go_upto_region 8 with fail
  --M5
  obtain ⟨U1, hU1⟩ : ∃ Z, Z = (W7.alloc (.cells #[] 42)).alloc (.cells #[.string ⟨#[]⟩, .string ⟨#[]⟩, .bool true, .int .i64 0] 42) := ⟨_, rfl⟩
  have bU0 : Below W7.heap.size W7 (W7.alloc (.cells #[] 42)) := (Below.refl _ _).alloc (Nat.le_refl _) _
  have bU : Below W7.heap.size W7 U1 := by rw [hU1]; exact bU0.alloc bU0.size _
  have HRb : Hid (Row RBear 4 (fun _ => False) W7 U1 42 (.slice (some ⟨W7.heap.size, 0, none⟩) 0 0) []) := by rw [hU1]; exact (Row.start _ W7 W7 _ (Below.refl _ _)).on RBear.firm ((Below.refl _ _).alloc (Nat.le_refl _) _)
  have qb : BoxL U1 (W7.heap.size + 1) [.string ⟨#[]⟩, .string ⟨#[]⟩, .bool true, .int .i64 0] := by have h1 := BoxL.new (W7.alloc (.cells #[] 42)) 42 [.string ⟨#[]⟩, .string ⟨#[]⟩, .bool true, .int .i64 0]; rw [hU1]; simpa using h1
  have HSb : Hid (Src RBear 4 (fun b => False ∧ Value.ownBlock (.slice (some ⟨W7.heap.size, 0, none⟩) 0 0) ≠ some b) U1 (some ⟨W7.heap.size + 1, 0, none⟩) 1 [allS]) := src_boxG RBear.firm qb (bear_rep _ _)
  have HU1 : Hid (U1 = (W7.alloc (.cells #[] 42)).alloc (.cells #[.string ⟨#[]⟩, .string ⟨#[]⟩, .bool true, .int .i64 0] 42)) := hU1
  have HXU : Hid (∀ z, Below W7.heap.size W7 z → BoxL z P ps) := fun z hz => HX7.out.on hz
  have HPs : Hid (P < W7.heap.size) := HX7.out.1
  obtain ⟨c8, hc8⟩ : ∃ c, ps[8]? = some c := ⟨_, List.getElem?_eq_getElem (by rw [hlP.out]; decide)⟩
  obtain ⟨c6, hc6⟩ : ∃ c, ps[6]? = some c := ⟨_, List.getElem?_eq_getElem (by rw [hlP.out]; decide)⟩
  have HC8 : Hid (ps[8]? = some c8 ∧ ps[6]? = some c6) := ⟨hc8, hc6⟩
  clear hU1 bU0 bU qb hc8 hc6 HX7
  go_wp2_with (first | (at_builtin; refine wpl_atG HU1.out ?_; refine row_appendP RBear.firm (A := (fun _ => False)) (w0 := W7) rfl _ _ 25 42 rfl _ 48 infoBearA Try.underlying25 rfl (by decide) (by decide) (.slice (some ⟨W7.heap.size, 0, none⟩) 0 0) [] rfl HRb.out (some ⟨W7.heap.size + 1, 0, none⟩) 1 1 [allS] rfl HSb.out (by decide) ?_; intro v3 w3' hrow3 hg3 hw3; obtain ⟨ra, rc, re, rs⟩ := hrow3.sl (bytes := 48) RBear.firm (by decide); subst re; have HQ3 := HXU.out w3' hrow3.below; obtain ⟨f8, n8⟩ := HQ3.2 8 _ HC8.out.1; obtain ⟨f6, n6⟩ := HQ3.2 6 _ HC8.out.2) | fail)
  --M6
  obtain ⟨W10, hW10⟩ : ∃ Z, Z = (w3'.setCell ⟨P, 8, none⟩ (.slice none 0 0)).setCell ⟨P, 6, none⟩ (.slice ra 1 rc) := ⟨_, rfl⟩
  have hX10 : BoxL W10 P ((ps.set 8 (.slice none 0 0)).set 6 (.slice ra 1 rc)) := by rw [hW10]; exact (HQ3.set 8 _ (by rw [hlP.out]; decide)).set 6 _ (by rw [List.length_set, hlP.out]; decide)
  have k10 : Kept (fun b => b ≠ P) w3' W10 := by rw [hW10]; exact (Kept.set (fun h => h rfl) _).trans (Kept.set (fun h => h rfl) _)
  have b10 : Below w.heap.size w W10 := by rw [hW10]; exact ((on2 HB7.out hrow3.below).setCell (Nat.le_of_eq HPI.out.1) _).setCell (Nat.le_of_eq HPI.out.1) _
  have hs10 : SlAt RBear 4 48 (fun _ => True) W10 ra 1 rc [allS] := ((rs.weak RBear.firm (A' := fun b => b ≠ P) (fun b _ hb => by
    rcases hb with hb | hb
    · exact hb.elim
    · have h1 := HPs.out; have h2 : W7.heap.size ≤ b := hb; omega)).kept RBear.firm k10).weak RBear.firm (fun _ _ _ => trivial)
  have hp10 := alone_rep (HL0.out W10 b10).2 hs10
  have hiQ : (Try.prog.info? 33).map (·.size) = some ((ps.set 8 (.slice none 0 0)).set 6 (.slice ra 1 rc)).length := by simp only [List.length_set]; exact hiP
  have hW10' : (w3'.setCell ⟨P, 8, none⟩ (.slice none 0 0)).setCell ⟨P, 6, none⟩ (.slice ra 1 rc) = W10 := hW10.symm
  rw [hW10']
  generalize (ps.set 8 (.slice none 0 0)).set 6 (.slice ra 1 rc) = qs at hX10 hp10 hiQ
  have HZ : Hid (∀ z, Below W10.heap.size W10 z → SlAt RInfo 15 208 (fun _ => True) z a n cap L ∧ RPod (fun _ => True) z qs (aloneP p) ∧ z.rangeAt P 0 qs) := fun z hz => ⟨(HL0.out z (on2 b10 hz)).1.weak RInfo.firm (fun _ _ _ => trivial), RPod.firm.kept hp10 (Kept.below hz), (hX10.on hz).range⟩
  have HB10 : Hid (Below w.heap.size w W10) := b10
  clear hW10 hW10' hX10 k10 b10 hs10 hp10 f8 n8 f6 n6 HQ3 rs hrow3 hg3 hw3 HRb HSb HXU HPs HC8 HB7 HL0 HU1
  --M7
  have hb0 : Below W10.heap.size W10 W10.drew := (Below.refl _ _).drew
  refine t0 (fun z => Below W10.heap.size W10 z) hb0 (fun hHeld => ?_)
  generalize W10.drew = wd at hHeld ⊢
  clear hb0
  try go_frame
  refine tq 0 (.agg qs.toArray) (yieldsIf_load_mid (by rfl) 33 _ rfl P 0 (by go_simp) qs _ (fun z hz => (HZ.out z hz).2.2) Try.underlying33 rfl hiQ) ?_ (hi := rfl)
  try go_frame
  refine' tk 1 ?_ ?_; rotate_left
  · intro z hz; clear hz; go_simp; try with_reducible rfl
  try go_frame
  refine tq 3 (.agg qs.toArray) (yieldsIf_load_mid (by rfl) 33 _ rfl P 0 (by go_simp) qs _ (fun z hz => (HZ.out z hz).2.2) Try.underlying33 rfl hiQ) ?_ (hi := rfl)
  try go_frame
  refine' tk 4 ?_ ?_; rotate_left
  · intro z hz; clear hz; go_simp; try with_reducible rfl
  try go_frame
  have hA := Calm_calls qs (fun _ => True) (fun _ => True) (aloneP p) a n cap L wd (HZ.out _ hHeld).2.1 (HZ.out _ hHeld).1
  refine tr 2 (fun K hK => ?_)
  go_simp
  refine hA.mono ?_
  rintro e v21w ⟨v1, rfl, h1⟩
  clear hA
  have hb9 : Below W10.heap.size W10 v21w := on2 hHeld h1.below
  go_wp2_with fail
  refine hK.out _ _ hb9 (fun hHeld2 => ?_)
  clear hb9
  clear hK K hHeld; have hHeld := hHeld2; clear hHeld2
  try go_frame
  have hA := Liked_calls qs (fun _ => True) (fun _ => True) (aloneP p) a n cap L v21w (HZ.out _ hHeld).2.1 (HZ.out _ hHeld).1
  refine tr 5 (fun K hK => ?_)
  go_simp
  refine hA.mono ?_
  rintro e v22w ⟨v2, rfl, h2⟩
  clear hA
  have hb9 : Below W10.heap.size W10 v22w := on2 hHeld h2.below
  go_wp2_with fail
  refine hK.out _ _ hb9 (fun hHeld2 => ?_)
  clear hb9
  clear hK K hHeld; have hHeld := hHeld2; clear hHeld2
  try go_frame
  obtain ⟨la', lc', rfl, ls⟩ := (h1.wAG RInt.firm (A' := (fun _ => True)) (fun _ h => h.elim)).slF (bytes := 8) RInt.firm (by rw [calm_len, hn.out]; have := HLn.out; omega)
  have ls := ls.weak RInt.firm (A' := (fun _ => True)) (fun _ _ _ => trivial)
  rw [calm_len, hn.out] at ls ⊢
  obtain ⟨ka', kc', rfl, ks⟩ := (h2.wAG RInt.firm (A' := (fun _ => True)) (fun _ h => h.elim)).slF (bytes := 8) RInt.firm (by rw [liked_len, hn.out]; have := HLn.out; omega)
  have ks := ks.weak RInt.firm (A' := (fun _ => True)) (fun _ _ _ => trivial)
  rw [liked_len, hn.out] at ks ⊢
  have HSl : Hid (SlAt RInt 1 8 (fun _ => True) v22w la' n lc' (calmP (aloneP p) L) ∧ SlAt RInt 1 8 (fun _ => True) v22w ka' n kc' (likedP (aloneP p) L)) := ⟨ls.on RInt.firm h2.below, ks⟩
  clear ls ks h1 h2
  refine' tk 6 ?_ ?_; rotate_left
  · intro z hz; clear hz; go_simp; try with_reducible rfl
  try go_frame
  refine' tk 7 ?_ ?_; rotate_left
  · intro z hz; clear hz; go_simp; try with_reducible rfl
  try go_frame
  refine tz ?_
  have HBz : Hid (Below W10.heap.size W10 v22w) := hHeld
  have HBw : Hid (Below w.heap.size w v22w) := on2 HB10.out hHeld
  have HCl : Hid (∀ k, k < n → (calmP (aloneP p) L).getD k default = 100 ∧ (likedP (aloneP p) L).getD k default = 0) := fun k hk => by
    have h1 : k < (calmP (aloneP p) L).length := by rw [calm_len, hn.out]; exact hk
    have h2 : k < (likedP (aloneP p) L).length := by rw [liked_len, hn.out]; exact hk
    rw [List.getD_eq_getElem?_getD, List.getD_eq_getElem?_getD, List.getElem?_eq_getElem h1, List.getElem?_eq_getElem h2]
    exact ⟨alone_calm p L _ (List.getElem_mem h1), alone_like p L _ (List.getElem_mem h2)⟩
  clear hHeld HZ HBz HB10
  go_wp2_with fail
  --M8
  go_loop [15] (fun i => ∃ k : Nat, k ≤ n ∧ i = .int .i64 k) (fun i => n - (intOf i).toNat)
  case atStart => exact ⟨0, Nat.zero_le _, rfl⟩
  case round =>
    obtain ⟨k, hk, rfl⟩ := hrel
    by_cases hlt : k < n
    · have hltz : (k : Int) < (n : Int) := by omega
      obtain ⟨D1, o1, rfl, hD1, _, c1s, hr1, hv1⟩ := HSl.out.1.get hlt
      obtain rfl : c1s = [.int .i64 ((calmP (aloneP p) L).getD k default)] := hr1
      obtain ⟨D2, o2, rfl, hD2, _, c2s, hr2, hv2⟩ := HSl.out.2.get hlt
      obtain rfl : c2s = [.int .i64 ((likedP (aloneP p) L).getD k default)] := hr2
      have d1 := hv1 0 _ rfl
      have d2 := hv2 0 _ rfl
      rw [Nat.add_zero, Nat.mul_one, (HCl.out k hlt).1] at d1
      rw [Nat.add_zero, Nat.mul_one, (HCl.out k hlt).2] at d2
      clear hv1 hv2
      go_wp2_with fail
      go_round
      case rel => exact ⟨k + 1, by omega, by go_num⟩
      case measure => simp [intOf]; omega
    · have hltz : ¬ (k : Int) < (n : Int) := by omega
      go_wp2_with fail
      go_ret
      exact ⟨rfl, HBw.out⟩
end Go.Proofs.Yteihniiacfghoab
