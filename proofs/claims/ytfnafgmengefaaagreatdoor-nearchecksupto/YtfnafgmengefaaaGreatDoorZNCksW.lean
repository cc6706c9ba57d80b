/- The law NearChecks' walk. Condition: the arguments lie as is said of them, and are no greater than the statement's second form lets them; the table of powers of ten is laid as the program's text lays it. -/
import Derived.Test.YtfnafgmengefaaaGreatDoorQ24
import Derived.Test.YtfnafgmengefaaaGreatDoorQ27
import Derived.Test.YtfnafgmengefaaaGreatDoorX02
import Derived.Test.YtfnafgmengefaaaGreatDoorX04
import Derived.Test.YtfnafgmengefaaaGreatDoorQ09
namespace Go.Proofs.YtfnafgmengefaaaGreatDoor
open Go.RowKit Go.Maps
set_option linter.unusedSimpArgs false
set_option maxRecDepth 100000

/-- One that is placed: its pod's cells, and its labels' header. -/
theorem RPlaced.parts {A : Where} {w : World} {xs : List Value} {x : PlacedD} (h : RPlaced A w xs x) : ∃ (ps : List Value) (g : Hd), xs = ps ++ [.slice g.1 g.2.1 g.2.2] ∧ RPod A w ps x.1 ∧ ps.length = 16 ∧ SlAt RLabel 2 32 A w g.1 g.2.1 g.2.2 x.2 := by
  obtain ⟨ps, qs, rfl, h1, h2⟩ := h
  obtain ⟨a, n, c, rfl, h3⟩ := h2
  exact ⟨ps, (a, n, c), rfl, h1, RPod.firm.len h1, h3⟩
def CkW (B o : Nat) (ps : List Value) (g : Hd) (B' o' : Nat) (qs : List Value) (h : Hd) (u : World) : Prop :=
  u.rangeAt B o ps ∧ u.cell? ⟨B, o + 16, none⟩ = some (.slice g.1 g.2.1 g.2.2) ∧ u.rangeAt B' o' qs ∧ u.cell? ⟨B', o' + 16, none⟩ = some (.slice h.1 h.2.1 h.2.2)
theorem range_on9 {u u' : World} {B o : Nat} {c : List Value} (hB : B < u.heap.size) (hb : Below u.heap.size u u') (h : u.rangeAt B o c) : u'.rangeAt B o c := fun j v hj => (hb.cell (p := ⟨B, o + j, none⟩) hB).trans (h j v hj)
theorem range_fst {u : World} {B o : Nat} {ps : List Value} {v : Value} (h : u.rangeAt B o (ps ++ [v])) : u.rangeAt B o ps := fun j y hj => h j y (by rw [List.getElem?_append_left (List.getElem?_eq_some_iff.1 hj).1]; exact hj)
theorem range_lst {u : World} {B o : Nat} {ps : List Value} {v : Value} (hl : ps.length = 16) (h : u.rangeAt B o (ps ++ [v])) : u.cell? ⟨B, o + 16, none⟩ = some v := h 16 v (by rw [List.getElem?_append_right (by omega), hl]; rfl)
set_option maxHeartbeats 8000000 in
theorem checks_walk8 (cs : List Value) (p : PodD) (la : Option Addr) (ln lc : Nat) (Lb : List Lab) (a : Option Addr) (n cap : Nat) (L : List PlacedD) (w : World) (hp : RPod (fun _ => True) w cs p) (hLb : SlAt RLabel 2 32 (fun _ => True) w la ln lc Lb) (hL : SlAt RPlaced 17 320 (fun _ => True) w a n cap L) (hS : (pNear p).length ≤ 1048576 ∧ (pApart p).length ≤ 1048576 ∧ cost L ≤ 1048576 ∧ L.length ≤ 1048576) (ht : Hid (TB w.heap.size w)) :
    Calls Tryz.prog 3 #[.agg cs.toArray, .slice la ln lc, .slice a n cap] w fun e w' => e = .returned (.bool true) ∧ Below w.heap.size w w' := by
  have hi16 : (Tryz.prog.info? 33).map (·.size) = some cs.length := by rw [RPod.firm.len hp]; exact sizePo
  have Hp : Hid (∀ u, Below w.heap.size w u → RPod (fun _ => True) u cs p) := fun u hb => RPod.firm.kept hp (Kept.below hb)
  have HLb : Hid (∀ u, Below w.heap.size w u → SlAt RLabel 2 32 (fun _ => True) u la ln lc Lb) := fun u hb => hLb.on RLabel.firm hb
  have HL : Hid (∀ u, Below w.heap.size w u → SlAt RPlaced 17 320 (fun _ => True) u a n cap L) := fun u hb => hL.on RPlaced.firm hb
  have hnl : Hid (L.length = n) := hL.1
  have hlen := hL.len (by decide)
  have hby : L.length * 320 ≤ 140737488351232 := by rw [hL.1]; exact hL.2.2.2.1
  have HS : Hid ((pNear p).length < 1000000000 ∧ (pApart p).length < 1000000000 ∧ cost L < 70368744177000) := ⟨by omega, by omega, by omega⟩
  obtain ⟨W1, hW1⟩ : ∃ W, W = w.alloc (.cells cs.toArray 33) := ⟨_, rfl⟩
  have B1 : Below w.heap.size w W1 := by rw [hW1]; go_grown
  have qx : BoxL W1 w.heap.size cs := by rw [hW1]; exact BoxL.new w 33 cs
  have HTb : Hid (∀ u, Below w.heap.size w u → TB u.heap.size u) := fun u hb w' h => ht.out w' (on2 hb h)
  have HM := many_calls a n cap _ L W1 (hL.on RPlaced.firm B1)
  have HQ : Hid (BoxL W1 w.heap.size cs ∧ Below w.heap.size w W1) := ⟨qx, B1⟩
  have HE : Hid (nearP p Lb L = refN p Lb L) := near_ref p Lb L
  clear qx B1 ht hp hL hLb hS
  go_enter Tryz.func3, Tryz.ntmps3
  go_upto_region 1 with fail
  rw [← hW1]
  clear hW1
  go_wp2_with fail
  refine HM.mono ?_
  clear HM
  rintro e w2 ⟨v, rfl, hrow⟩
  obtain ⟨av, cv, rfl, sQ⟩ := hrow.slO8 (bytes := 320) RPlaced.firm hby
  have hb2 : Below W1.heap.size W1 w2 := hrow.below
  have bw2 : Below w.heap.size w w2 := on2 HQ.out.2 hb2
  have HO : Hid (∀ u, Below w2.heap.size w2 u → SlAt RPlaced 17 320 (fun _ => True) u av n cv L) := fun u hb => by
    have h1 := (sQ.weak RPlaced.firm (fun _ _ _ => trivial) : SlAt RPlaced 17 320 (fun _ => True) w2 av L.length cv L)
    rw [hnl.out] at h1; exact h1.on RPlaced.firm hb
  have HB2 : Hid (∀ u, Below w2.heap.size w2 u → BoxL u w.heap.size cs ∧ Below w.heap.size w u) := fun u hb => ⟨(HQ.out.1.on hb2).on hb, on2 bw2 hb⟩
  rw [hnl.out]
  clear hrow sQ hb2 bw2 HQ hby
  go_upto_region 2 with fail
  refine t0 (fun u => BoxL u w.heap.size cs) (HB2.out _ (Below.refl _ _).drew).1 (fun hHeld => ?_)
  refine' tq 0 (.agg cs.toArray) ?_ ?_
  · exact yieldsIf_load_mid rfl 33 _ rfl w.heap.size 0 rfl cs _ (fun u hu => hu.range) Tryz.underlying33 rfl hi16
  try go_frame
  refine' tk 2 ?_ ?_; rotate_left
  · intro u hu; clear hu; go_simp; try with_reducible rfl
  try go_frame
  refine' tk 4 ?_ ?_; rotate_left
  · intro u hu; clear hu; go_simp; try with_reducible rfl
  try go_frame
  refine' tq 6 (.agg cs.toArray) ?_ ?_
  · exact yieldsIf_load_mid rfl 33 _ rfl w.heap.size 0 rfl cs _ (fun u hu => hu.range) Tryz.underlying33 rfl hi16
  try go_frame
  refine' tk 7 ?_ ?_; rotate_left
  · intro u hu; clear hu; go_simp; try with_reducible rfl
  try go_frame
  refine' tk 8 ?_ ?_; rotate_left
  · intro u hu; clear hu; go_simp; try with_reducible rfl
  try go_frame
  have d0 : Below w2.heap.size w2 w2.drew := (Below.refl _ _).drew
  refine tr 1 (fun K hK => ?_)
  go_simp
  refine (Pod_copy cs _ p _ (Hp.out _ (HB2.out _ d0).2)).mono ?_
  rintro e v1 ⟨cs', rfl, rp', bv1⟩
  have hv1 : Below w2.heap.size w2 v1 := on2 d0 bv1
  go_wp2_with fail
  refine hK.out _ _ (HB2.out _ hv1).1 (fun hHeld2 => ?_)
  clear hK K hHeld; have hHeld := hHeld2; clear hHeld2
  try go_frame
  refine tr 3 (fun K hK => ?_)
  go_simp
  refine (Labels_copy la ln lc _ Lb _ (HLb.out _ (HB2.out _ hv1).2)).mono ?_
  rintro e v2 ⟨la', lc', rfl, sl', bv2⟩
  have hv2 : Below w2.heap.size w2 v2 := on2 hv1 bv2
  go_wp2_with fail
  refine hK.out _ _ (HB2.out _ hv2).1 (fun hHeld2 => ?_)
  clear hK K hHeld; have hHeld := hHeld2; clear hHeld2
  try go_frame
  refine tr 5 (fun K hK => ?_)
  go_simp
  refine (NCheck_calls cs' _ _ _ p la' ln lc' Lb av n cv L _ (RPod.firm.kept rp' (Kept.below bv2)) sl' (HO.out _ hv2) HS.out.1 HS.out.2.1 HS.out.2.2).mono ?_
  rintro e v3 ⟨rfl, bv3⟩
  have hv3 : Below w2.heap.size w2 v3 := on2 hv2 bv3
  go_wp2_with fail
  refine hK.out _ _ (HB2.out _ hv3).1 (fun hHeld2 => ?_)
  clear hK K hHeld; have hHeld := hHeld2; clear hHeld2
  try go_frame
  refine tr 9 (fun K hK => ?_)
  go_simp
  refine (rCheck8_calls cs p la ln lc Lb a n cap L _ (Hp.out _ (HB2.out _ hv3).2) (HLb.out _ (HB2.out _ hv3).2) (HL.out _ (HB2.out _ hv3).2)).mono ?_
  rintro e v4 ⟨rfl, bv4⟩
  have hv4 : Below w2.heap.size w2 v4 := on2 hv3 bv4
  go_wp2_with fail
  refine hK.out _ _ (HB2.out _ hv4).1 (fun hHeld2 => ?_)
  clear hK K hHeld; have hHeld := hHeld2; clear hHeld2
  try go_frame
  rw [HE.out]
  generalize refN p Lb L = ans
  refine' tk 10 ?_ ?_; rotate_left
  · intro u hu; clear hu; go_simp; try with_reducible rfl
  try go_frame
  refine tz ?_
  have H4 : Hid (Below w2.heap.size w2 v4) := hv4
  clear hv1 hv2 hv3 hv4 bv1 bv2 bv3 bv4 rp' sl' hHeld HE HS d0 HLb Hp
  go_wp2_with fail
  go_loopw [8] (fun i wr => ∃ k : Nat, k ≤ n ∧ i = .int .i64 k ∧ Hid (Below w2.heap.size w2 wr)) (fun i _ => n - (intOf i).toNat)
  case atStart => exact ⟨0, Nat.zero_le _, rfl, H4⟩
  case round =>
    obtain ⟨k, hk, rfl, hst⟩ := hrel
    by_cases hlt : k < n
    · have hltz : (k : Int) < (n : Int) := by omega
      obtain ⟨B, off, rfl, hB, _, xs, hr, hv⟩ := (HO.out wr hst.out).get hlt
      obtain ⟨B', off', rfl, hB', _, ys, hr', hv'⟩ := (HL.out wr (HB2.out wr hst.out).2).get hlt
      obtain ⟨ps, ⟨g1, g2, g3⟩, rfl, rp, hlp, sg⟩ := hr.parts
      obtain ⟨qs, ⟨h1, h2, h3⟩, rfl, rq, hlq, sh⟩ := hr'.parts
      simp only at sg sh
      generalize L.getD k default = x at rp sg rq sh
      have HW : Hid (∀ u, Below wr.heap.size wr u → (CkW B (off + k * 17) ps (g1, g2, g3) B' (off' + k * 17) qs (h1, h2, h3)) u) := fun u hb => ⟨range_on9 hB hb (range_fst hv), (hb.cell (p := ⟨B, _, none⟩) hB).trans (range_lst hlp hv), range_on9 hB' hb (range_fst hv'), (hb.cell (p := ⟨B', _, none⟩) hB').trans (range_lst hlq hv')⟩
      have hip : (Tryz.prog.info? 33).map (·.size) = some ps.length := by rw [hlp]; exact sizePo
      have hiq : (Tryz.prog.info? 33).map (·.size) = some qs.length := by rw [hlq]; exact sizePo
      have HSp := SamePod_yes ps qs _ _ x.1 wr.drew (RPod.firm.kept rp (Kept.below (Below.refl _ _).drew)) (RPod.firm.kept rq (Kept.below (Below.refl _ _).drew))
      have HSl : Hid (∀ u, Below wr.heap.size wr u → _) := fun u hb => SameLabels_calls g1 g2 g3 _ x.2 h1 h2 h3 _ x.2 u (sg.on RLabel.firm hb) (sh.on RLabel.firm hb)
      have HB : Hid (Below w2.heap.size w2 wr) := hst.out
      clear hst hr hr' hv hv' rp rq sg sh
      go_upto_region 7 with fail
      refine t0 (CkW B (off + k * 17) ps (g1, g2, g3) B' (off' + k * 17) qs (h1, h2, h3)) (HW.out _ (Below.refl _ _).drew) (fun hHeld => ?_)
      refine' tk 0 ?_ ?_; rotate_left
      · intro u ⟨_, _, _, _⟩; go_simp; try with_reducible rfl
      try go_frame
      refine' tk 1 ?_ ?_; rotate_left
      · intro u ⟨_, _, _, _⟩; go_simp; try with_reducible rfl
      try go_frame
      refine' tk 2 ?_ ?_; rotate_left
      · intro u ⟨_, _, _, _⟩; go_simp; try with_reducible rfl
      try go_frame
      refine' tk 3 ?_ ?_; rotate_left
      · intro u ⟨_, _, _, _⟩; go_simp; try with_reducible rfl
      try go_frame
      refine' tk 5 ?_ ?_; rotate_left
      · intro u ⟨_, _, _, _⟩; go_simp; try with_reducible rfl
      try go_frame
      refine' tk 6 ?_ ?_; rotate_left
      · intro u ⟨_, _, _, _⟩; go_simp; try with_reducible rfl
      try go_frame
      refine' tk 7 ?_ ?_; rotate_left
      · intro u ⟨_, _, _, _⟩; go_simp; try with_reducible rfl
      try go_frame
      refine' tk 8 ?_ ?_; rotate_left
      · intro u ⟨_, _, _, _⟩; go_simp; try with_reducible rfl
      try go_frame
      refine' tq 4 (.agg ps.toArray) ?_ ?_
      · exact yieldsIf_load_mid rfl 33 _ rfl B (off + k * 17) rfl ps _ (fun u hu => hu.1) Tryz.underlying33 rfl hip
      try go_frame
      refine' tq 9 (.agg qs.toArray) ?_ ?_
      · exact yieldsIf_load_mid rfl 33 _ rfl B' (off' + k * 17) rfl qs _ (fun u hu => hu.2.2.1) Tryz.underlying33 rfl hiq
      try go_frame
      refine tr 10 (fun K hK => ?_)
      go_simp
      refine HSp.mono ?_
      rintro e u1 ⟨rfl, hb1⟩
      have hb1' : Below wr.heap.size wr u1 := (Below.refl _ _).drew.trans hb1
      go_wp2_with fail
      refine hK.out _ _ (HW.out _ hb1') (fun hHeld2 => ?_)
      clear hK K hHeld; have hHeld := hHeld2; clear hHeld2
      try go_frame
      refine' tk 11 ?_ ?_; rotate_left
      · intro u ⟨_, _, _, _⟩; go_simp; try with_reducible rfl
      try go_frame
      refine' tk 12 ?_ ?_; rotate_left
      · intro u ⟨_, _, _, _⟩; go_simp; try with_reducible rfl
      try go_frame
      refine' tk 13 ?_ ?_; rotate_left
      · intro u ⟨_, _, _, _⟩; go_simp; try with_reducible rfl
      try go_frame
      refine' tk 14 ?_ ?_; rotate_left
      · intro u ⟨_, _, _, _⟩; go_simp; try with_reducible rfl
      try go_frame
      refine' tk 15 ?_ ?_; rotate_left
      · intro u ⟨_, _, _, _⟩; go_simp; try with_reducible rfl
      try go_frame
      refine' tk 16 ?_ ?_; rotate_left
      · intro u ⟨_, _, _, _⟩; go_simp; try with_reducible rfl
      try go_frame
      refine' tk 17 ?_ ?_; rotate_left
      · intro u ⟨_, _, _, _⟩; go_simp; try with_reducible rfl
      try go_frame
      refine' tk 18 ?_ ?_; rotate_left
      · intro u ⟨_, _, _, _⟩; go_simp; try with_reducible rfl
      try go_frame
      refine' tk 19 ?_ ?_; rotate_left
      · intro u ⟨_, _, _, _⟩; go_simp; try with_reducible rfl
      try go_frame
      refine' tk 20 ?_ ?_; rotate_left
      · intro u ⟨_, _, _, _⟩; go_simp; try with_reducible rfl
      try go_frame
      refine' tk 21 ?_ ?_; rotate_left
      · intro u ⟨_, _, _, _⟩; go_simp; try with_reducible rfl
      try go_frame
      refine' tk 22 ?_ ?_; rotate_left
      · intro u ⟨_, _, _, _⟩; go_simp; try with_reducible rfl
      try go_frame
      refine tr 23 (fun K hK => ?_)
      go_simp
      refine (HSl.out u1 hb1').mono ?_
      rintro e u2 ⟨he, q, hq⟩
      replace he : e = .returned (.bool true) := by rw [he]; simp
      subst he
      have hb2' : Below wr.heap.size wr u2 := by rw [hq]; exact below_drewN hb1' _
      clear hq
      go_wp2_with fail
      refine hK.out _ _ (HW.out _ hb2') (fun hHeld2 => ?_)
      clear hK K hHeld; have hHeld := hHeld2; clear hHeld2
      try go_frame
      refine' tk 24 ?_ ?_; rotate_left
      · intro u ⟨_, _, _, _⟩; go_simp; try with_reducible rfl
      try go_frame
      refine' tk 25 ?_ ?_; rotate_left
      · intro u ⟨_, _, _, _⟩; go_simp; try with_reducible rfl
      try go_frame
      refine tz ?_
      have HN : Hid (Below w2.heap.size w2 u2) := on2 HB.out hb2'
      clear hb1 hb1' hb2' HSl HSp HW hHeld HB
      go_wp2_with fail
      go_roundw
      case rel => exact ⟨k + 1, by omega, by go_num, HN⟩
      case measure => simp [intOf]; omega
    · have hlz : ¬ ((k : Int) < (n : Int)) := by omega
      have H9 : Hid (Below w.heap.size w wr) := (HB2.out wr hst.out).2
      have HWk := works8_calls wr (HTb.out wr H9.out)
      clear hst HB2 HO HL HTb
      go_wp2_with fail
      refine HWk.mono ?_
      rintro e w9 ⟨rfl, hb9⟩
      have HF : Hid (Below w.heap.size w w9) := on2 H9.out hb9
      clear hb9 HWk
      go_wp2_with fail
      go_ret
      exact ⟨rfl, HF.out⟩
end Go.Proofs.YtfnafgmengefaaaGreatDoor
