/- shelf.compare: the smaller one first, of one size the one whose name is less. Condition: the shelf lies as is said of it. shelf.compare. Condition: the shelf lies as is said of it. shelf.suiting: the places of those that a claim may get. Condition: the arguments lie as is said of them. -/
import Derived.Test.YtmnldngojgldiaaGreatQ15
import Derived.Test.YtmnldngojgldiaaGreatShelf
import Derived.BigRegion
import Derived.Test.YtmnldngojgldiaaGreatQ09
import Derived.Test.YtmnldngojgldiaaGreatQ04
import Derived.Test.YtmnldngojgldiaaGreatQ20
namespace Go.Proofs.YtmnldngojgldiaaGreat
open Go.RowKit Go.Maps
set_option linter.unusedSimpArgs false
set_option maxRecDepth 100000

/-- The first number of a list that is not nought. -/
def orP : List Int → Int
  | [] => 0
  | x :: r => if x = 0 then orP r else x
theorem orP_drop {L : List Int} {k : Nat} (h : k < L.length) : orP (L.drop k) = if L.getD k default = 0 then orP (L.drop (k + 1)) else L.getD k default := by
  rw [List.drop_eq_getElem_cons h, List.getD_eq_getElem?_getD, List.getElem?_eq_getElem h]
  rfl
set_option maxHeartbeats 4000000 in
theorem or_calls (a : Option Addr) (n cap : Nat) (A : Where) (L : List Int) (w : World) (hL : Hid (SlAt RInt 1 8 A w a n cap L)) : Calls Tryz.prog 80 #[.slice a n cap] w fun e w' => e = .returned (.int .i64 (orP L)) ∧ w' = w := by
  have hnl : Hid (L.length = n) := hL.out.1
  have hlen := hL.out.len (by decide)
  go_enter Tryz.func80, Tryz.ntmps80
  go_wp2_with fail
  go_loopw [8] (fun i wr => ∃ k : Nat, k ≤ n ∧ i = .int .i64 k ∧ Hid (orP (L.drop k) = orP L) ∧ wr = w) (fun i _ => n - (intOf i).toNat)
  case atStart => exact ⟨0, Nat.zero_le _, rfl, (rfl : orP (L.drop 0) = orP L), rfl⟩
  case round =>
    obtain ⟨k, hk, rfl, ho, rfl⟩ := hrel
    by_cases hlt : k < n
    · have hltz : (k : Int) < (n : Int) := by omega
      have hst := orP_drop (L := L) (k := k) (by rw [hnl.out]; exact hlt)
      obtain ⟨B, off, rfl, hB, hAB, xs, hr, hv⟩ := hL.out.get hlt
      obtain rfl : xs = [.int .i64 (L.getD k default)] := hr
      have d0 := hv 0 _ rfl
      rw [Nat.mul_one, Nat.add_zero] at d0
      clear hv hB hAB
      have HS : Hid (orP L = if L.getD k default = 0 then orP (L.drop (k + 1)) else L.getD k default) := by rw [Hid, ← ho.out]; exact hst
      clear hst ho
      generalize L.getD k default = z at d0 HS
      by_cases hz : z = 0
      · subst hz
        have HN : Hid (orP (L.drop (k + 1)) = orP L) := by have := HS.out; rw [if_pos rfl] at this; exact this.symm
        clear HS
        go_wp2_with fail
        go_roundw
        case rel => exact ⟨k + 1, by omega, by go_num, HN, by simp⟩
        case measure => simp [intOf]; omega
      · have HN : Hid (orP L = z) := by have := HS.out; rwa [if_neg hz] at this
        clear HS
        go_wp2_with fail
        go_ret
        exact ⟨by rw [HN.out]; rfl, rfl⟩
    · have HN : Hid (orP L = 0) := by
        have := ho.out
        rw [List.drop_of_length_le (by rw [hnl.out]; omega)] at this
        exact this.symm
      clear ho
      go_wp2_with fail
      go_ret
      exact ⟨by rw [HN.out]; rfl, rfl⟩
/-- How two volumes compare. -/
def cmpZ (v w : VolumeD) : Int := if Lib.compareInt v.2.1 w.2.1 = 0 then Lib.compareBytes v.1.data.toList w.1.data.toList else Lib.compareInt v.2.1 w.2.1
theorem cmpZ_or (v w : VolumeD) : orP [Lib.compareInt v.2.1 w.2.1, Lib.compareBytes v.1.data.toList w.1.data.toList] = cmpZ v w := by
  unfold orP orP orP cmpZ
  split
  · split
    · rename_i h; exact h.symm
    · rfl
  · rfl
theorem cmpZ_less (v w : VolumeD) : decide (cmpZ v w < 0) = lessV v w := by
  rw [Bool.eq_iff_iff, decide_eq_true_eq, lessV_iff, sLt_iff]
  unfold cmpZ Lib.compareInt
  by_cases h1 : v.2.1 < w.2.1
  · simp [h1]
  · by_cases h2 : w.2.1 < v.2.1
    · simp [h1, h2]
      omega
    · have : v.2.1 = w.2.1 := by omega
      simp [this]
end Go.Proofs.YtmnldngojgldiaaGreat
namespace Go.Proofs.YtmnldngojgldiaaGreat
open Go.RowKit Go.Maps
set_option linter.unusedSimpArgs false
set_option maxRecDepth 100000

theorem two_ints10 (u : World) (x y : Int) : SlAt RInt 1 8 (fun _ => True) (u.alloc (.cells #[.int .i64 x, .int .i64 y] 3)) (some ⟨u.heap.size, 0, none⟩) 2 2 [x, y] := by
  have hq := BoxL.new u 3 [.int .i64 x, .int .i64 y]
  refine ⟨rfl, Nat.le_refl _, (fun h => by cases h), by decide, fun _ => ⟨u.heap.size, 0, rfl, hq.1, trivial, fun i hi => ?_⟩⟩
  rcases (show i = 0 ∨ i = 1 by omega) with rfl | rfl
  · exact ⟨[.int .i64 x], rfl, fun j v hj => by
      have h0 : j < 1 := (List.getElem?_eq_some_iff.1 hj).1
      obtain rfl : j = 0 := by omega
      have : v = .int .i64 x := by simpa using hj.symm
      subst this
      exact (hq.2 0 _ rfl).1⟩
  · exact ⟨[.int .i64 y], rfl, fun j v hj => by
      have h0 : j < 1 := (List.getElem?_eq_some_iff.1 hj).1
      obtain rfl : j = 0 := by omega
      have : v = .int .i64 y := by simpa using hj.symm
      subst this
      exact (hq.2 1 _ rfl).1⟩
set_option maxHeartbeats 8000000 in
theorem compare_calls (a : Option Addr) (n cap bp : Nat) (A : Where) (L : List VolumeD) (i j : Nat) (w : World) (hL : Hid (SlAt RVolume 5 bp A w a n cap L)) (hi : i < n) (hj : j < n) :
    Calls Tryz.prog 72 #[.slice a n cap, .int .i64 (i : Int), .int .i64 (j : Int)] w fun e w' => e = .returned (.int .i64 (cmpZ (L.getD i default) (L.getD j default))) ∧ Below w.heap.size w w' := by
  obtain ⟨B, off, rfl, hB, _, xs, hr, hv⟩ := hL.out.get hi
  obtain ⟨B', off', e', _, _, ys, hr', hv'⟩ := hL.out.get hj
  obtain ⟨rfl, rfl⟩ : B = B' ∧ off = off' := by simpa using e'
  have hlx := RVolume.firm.len hr
  have hly := RVolume.firm.len hr'
  have HOx : Hid (xs.toArray.all (·.oneCell') = true) := all_oneCell10 (RVolume.firm.one hr)
  have HOy : Hid (ys.toArray.all (·.oneCell') = true) := all_oneCell10 (RVolume.firm.one hr')
  have hix : (Tryz.prog.info? 49).map (·.size) = some xs.length := by rw [hlx]; exact iszVolume
  have hiy : (Tryz.prog.info? 49).map (·.size) = some ys.length := by rw [hly]; exact iszVolume
  have hixa : (Tryz.prog.info? 49).map (·.size) = some xs.toArray.size := by simpa using hix
  have hiya : (Tryz.prog.info? 49).map (·.size) = some ys.toArray.size := by simpa using hiy
  have HS : Hid (∀ u, Below w.heap.size w u → u.rangeAt B (off + i * 5) xs ∧ u.rangeAt B (off + j * 5) ys) := fun u hb => ⟨fun k v hk => (hb.cell hB).trans (hv k v hk), fun k v hk => (hb.cell hB).trans (hv' k v hk)⟩
  obtain ⟨vx0, vx1, _⟩ := hr.all10
  obtain ⟨vy0, vy1, _⟩ := hr'.all10
  have HZ : Hid (orP [Lib.compareInt (L.getD i default).2.1 (L.getD j default).2.1, Lib.compareBytes (L.getD i default).1.data.toList (L.getD j default).1.data.toList] = cmpZ (L.getD i default) (L.getD j default)) := cmpZ_or _ _
  have hiz : (i : Int) < (n : Int) := by omega
  have hjz : (j : Int) < (n : Int) := by omega
  clear hL hr hr' hv hv' hB e'
  generalize cmpZ (L.getD i default) (L.getD j default) = c at HZ
  generalize (L.getD i default).1 = p0 at vx0 HZ
  generalize (L.getD i default).2.1 = p1 at vx1 HZ
  generalize (L.getD j default).1 = q0 at vy0 HZ
  generalize (L.getD j default).2.1 = q1 at vy1 HZ
  go_enter Tryz.func72, Tryz.ntmps72
  go_upto_region 1 with fail
  refine t0 (fun u => Below w.heap.size w u) (Below.refl _ _).drew (fun hHeld => ?_)
  generalize hwd : w.drew = wd at hHeld ⊢
  have ed : wd.heap.size = w.heap.size := by rw [← hwd]; rfl
  clear hwd
  try go_frame
  refine' tk 0 ?_ ?_; rotate_left
  · intro u hu; clear hu; go_simp; try with_reducible rfl
  try go_frame
  refine' tk 1 ?_ ?_; rotate_left
  · intro u hu; clear hu; go_simp; try with_reducible rfl
  try go_frame
  refine' tk 2 ?_ ?_; rotate_left
  · intro u hu; clear hu; go_simp; try with_reducible rfl
  try go_frame
  refine tq 3 (.agg xs.toArray) (yieldsIf_load_mid (by rfl) 49 _ rfl B (off + i * 5) rfl xs _ (fun u hu => (HS.out u hu).1) Tryz.underlying49 rfl hix) ?_ (hi := rfl)
  try go_frame
  refine' tk 4 ?_ ?_; rotate_left
  · intro u hu; clear hu; go_simp; try with_reducible rfl
  try go_frame
  refine' tk 5 ?_ ?_; rotate_left
  · intro u hu; clear hu; go_simp; try with_reducible rfl
  try go_frame
  refine' tk 6 ?_ ?_; rotate_left
  · intro u hu; clear hu; go_simp; try with_reducible rfl
  try go_frame
  refine tq 7 (.agg ys.toArray) (yieldsIf_load_mid (by rfl) 49 _ rfl B (off + j * 5) rfl ys _ (fun u hu => (HS.out u hu).2) Tryz.underlying49 rfl hiy) ?_ (hi := rfl)
  try go_frame
  refine tb 8 9 (fun K hK => ?_) (fun K hK => ?_)
  · go_simp
    obtain ⟨U1, hU1⟩ : ∃ U1, U1 = wd.alloc (.cells #[.string ⟨#[]⟩, .int .i64 0, .string ⟨#[]⟩, .slice none 0 0, .string ⟨#[]⟩] 49) := ⟨_, rfl⟩
    have dU1 : Below wd.heap.size wd U1 := by rw [hU1]; exact (Below.refl _ _).alloc (Nat.le_refl _) _
    have hb1 : Below w.heap.size w U1 := on2 hHeld dU1
    have g1 : BoxL U1 wd.heap.size [.string ⟨#[]⟩, .int .i64 0, .string ⟨#[]⟩, .slice none 0 0, .string ⟨#[]⟩] := by rw [hU1]; exact BoxL.new wd 49 [.string ⟨#[]⟩, .int .i64 0, .string ⟨#[]⟩, .slice none 0 0, .string ⟨#[]⟩]
    refine hK.out _ _ (hU1 ▸ hb1) (fun hHeld2 => ?_)
    rw [← hU1] at hHeld2 ⊢
    clear hK K hHeld; have hHeld := hHeld2; clear hHeld2
    try go_frame
    have gs : U1.heap.size = w.heap.size + 1 := by rw [hU1]; simp [ed]
    clear hU1
    refine tr 9 (fun K hK => ?_)
    go_simp
    obtain ⟨U2, hU2⟩ : ∃ U2, U2 = U1.alloc (.cells #[.string ⟨#[]⟩, .int .i64 0, .string ⟨#[]⟩, .slice none 0 0, .string ⟨#[]⟩] 49) := ⟨_, rfl⟩
    have dU2 : Below U1.heap.size U1 U2 := by rw [hU2]; exact (Below.refl _ _).alloc (Nat.le_refl _) _
    have hb2 : Below w.heap.size w U2 := on2 hb1 dU2
    have g2 : BoxL U2 U1.heap.size [.string ⟨#[]⟩, .int .i64 0, .string ⟨#[]⟩, .slice none 0 0, .string ⟨#[]⟩] := by rw [hU2]; exact BoxL.new U1 49 [.string ⟨#[]⟩, .int .i64 0, .string ⟨#[]⟩, .slice none 0 0, .string ⟨#[]⟩]
    refine hK.out _ _ (hU2 ▸ hb2) (fun hHeld2 => ?_)
    rw [← hU2] at hHeld2 ⊢
    clear hK K hHeld; have hHeld := hHeld2; clear hHeld2
    try go_frame
    clear hU2
    have g1 := g1.on dU2
    rw [gs] at g2
    rw [ed] at g1
    have z1 := g1
    have z2 := g2
    try rw [gs]
    try rw [ed]
    refine ts 10 (fun K hK => ?_)
    obtain ⟨U3, hU3⟩ : ∃ U3, U3 = U2.setCells w.heap.size 0 xs := ⟨_, rfl⟩
    refine want_yes (by rfl) (wp_store_mid 49 _ _ rfl (w.heap.size) 0 xs.toArray rfl rfl (by rw [show xs.toArray.size = 5 by simp [hlx]]; exact z1.there) hixa HOx.out ?_)
    have x1 : BoxL U3 w.heap.size xs := by rw [hU3]; exact box_over8 z1 (by rw [hlx]; rfl)
    have x2 : BoxL U3 (w.heap.size + 1) [.string ⟨#[]⟩, .int .i64 0, .string ⟨#[]⟩, .slice none 0 0, .string ⟨#[]⟩] := by rw [hU3]; exact z2.kept (A := fun b => b ≠ w.heap.size) (kept_setCells (fun h => h rfl)) (by omega)
    have b3 : Below w.heap.size w U3 := by rw [hU3]; exact below_setCells hb2 (by omega)
    have e3 : U3 = U2.setCells w.heap.size 0 xs.toArray.toList := by rw [hU3]
    rw [← e3]
    refine hK.out _ _ b3 (fun hHeld2 => ?_)
    clear hK K hHeld; have hHeld := hHeld2; clear hHeld2
    try go_frame
    clear e3 hU3
    refine ts 11 (fun K hK => ?_)
    obtain ⟨U4, hU4⟩ : ∃ U4, U4 = U3.setCells (w.heap.size + 1) 0 ys := ⟨_, rfl⟩
    refine want_yes (by rfl) (wp_store_mid 49 _ _ rfl ((w.heap.size + 1)) 0 ys.toArray rfl rfl (by rw [show ys.toArray.size = 5 by simp [hly]]; exact x2.there) hiya HOy.out ?_)
    have y2 : BoxL U4 (w.heap.size + 1) ys := by rw [hU4]; exact box_over8 x2 (by rw [hly]; rfl)
    have y1 : BoxL U4 w.heap.size xs := by rw [hU4]; exact x1.kept (A := fun b => b ≠ (w.heap.size + 1)) (kept_setCells (fun h => h rfl)) (by omega)
    have b4 : Below w.heap.size w U4 := by rw [hU4]; exact below_setCells b3 (by omega)
    have e4 : U4 = U3.setCells (w.heap.size + 1) 0 ys.toArray.toList := by rw [hU4]
    rw [← e4]
    refine hK.out _ _ b4 (fun hHeld2 => ?_)
    clear hK K hHeld; have hHeld := hHeld2; clear hHeld2
    try go_frame
    clear e4 hU4
    refine tz ?_
    have HQ : Hid (∀ u, Below U4.heap.size U4 u → u.cell? ⟨w.heap.size, 0, none⟩ = some (.string p0) ∧ u.cell? ⟨w.heap.size, 1, none⟩ = some (.int .i64 p1) ∧ u.cell? ⟨(w.heap.size + 1), 0, none⟩ = some (.string q0) ∧ u.cell? ⟨(w.heap.size + 1), 1, none⟩ = some (.int .i64 q1)) := fun u hb => ⟨((y1.on hb).2 0 _ vx0).1, ((y1.on hb).2 1 _ vx1).1, ((y2.on hb).2 0 _ vy0).1, ((y2.on hb).2 1 _ vy1).1⟩
    have HB4 : Hid (Below w.heap.size w U4) := b4
    clear hHeld z1 z2 x1 x2 y1 y2 b3 b4 hb1 hb2 dU1 dU2 g1 g2 gs HS
    go_upto_region 2 with fail
    refine t0 (fun u => Below U4.heap.size U4 u) (Below.refl _ _).drew (fun hHeld => ?_)
    generalize hwe : U4.drew = we at hHeld ⊢
    clear hwe
    try go_frame
    refine' tk 0 ?_ ?_; rotate_left
    · intro u hu; obtain ⟨f1, f2, f3, f4⟩ := HQ.out u hu; clear hu; go_simp; try with_reducible rfl
    try go_frame
    refine' tk 1 ?_ ?_; rotate_left
    · intro u hu; obtain ⟨f1, f2, f3, f4⟩ := HQ.out u hu; clear hu; go_simp; try with_reducible rfl
    try go_frame
    refine' tk 2 ?_ ?_; rotate_left
    · intro u hu; obtain ⟨f1, f2, f3, f4⟩ := HQ.out u hu; clear hu; go_simp; try with_reducible rfl
    try go_frame
    refine' tk 3 ?_ ?_; rotate_left
    · intro u hu; obtain ⟨f1, f2, f3, f4⟩ := HQ.out u hu; clear hu; go_simp; try with_reducible rfl
    try go_frame
    refine' tk 5 ?_ ?_; rotate_left
    · intro u hu; obtain ⟨f1, f2, f3, f4⟩ := HQ.out u hu; clear hu; go_simp; try with_reducible rfl
    try go_frame
    refine' tk 6 ?_ ?_; rotate_left
    · intro u hu; obtain ⟨f1, f2, f3, f4⟩ := HQ.out u hu; clear hu; go_simp; try with_reducible rfl
    try go_frame
    refine' tk 7 ?_ ?_; rotate_left
    · intro u hu; obtain ⟨f1, f2, f3, f4⟩ := HQ.out u hu; clear hu; go_simp; try with_reducible rfl
    try go_frame
    refine' tk 8 ?_ ?_; rotate_left
    · intro u hu; obtain ⟨f1, f2, f3, f4⟩ := HQ.out u hu; clear hu; go_simp; try with_reducible rfl
    try go_frame
    refine tr 4 (fun K hK => ?_)
    go_simp
    refine (Tryz.cmp_Compare_int p1 q1 _).mono ?_
    rintro e wf ⟨rfl, rfl⟩
    go_wp2_with fail
    refine hK.out _ _ hHeld (fun hHeld2 => ?_)
    clear hK K hHeld; have hHeld := hHeld2; clear hHeld2
    try go_frame
    refine tr 9 (fun K hK => ?_)
    go_simp
    refine (Tryz.strings_Compare p0 q0 _).mono ?_
    rintro e wg ⟨rfl, rfl⟩
    go_wp2_with fail
    refine hK.out _ _ hHeld (fun hHeld2 => ?_)
    clear hK K hHeld; have hHeld := hHeld2; clear hHeld2
    try go_frame
    generalize hZ1 : Lib.compareInt p1 q1 = k1
    generalize hZ2 : Lib.compareBytes p0.data.toList q0.data.toList = k2
    refine tr 10 (fun K hK => ?_)
    go_simp
    obtain ⟨U5, hU5⟩ : ∃ U5, U5 = wg.alloc (.cells #[.int .i64 k1, .int .i64 k2] 3) := ⟨_, rfl⟩
    have b5 : Below U4.heap.size U4 U5 := by rw [hU5]; exact on2 hHeld ((Below.refl _ _).alloc (Nat.le_refl _) _)
    have s5 : SlAt RInt 1 8 (fun _ => True) U5 (some ⟨wg.heap.size, 0, none⟩) 2 2 [k1, k2] := by rw [hU5]; exact two_ints10 wg k1 k2
    refine hK.out _ _ (hU5 ▸ b5) (fun hHeld2 => ?_)
    rw [← hU5] at hHeld2 ⊢
    clear hK K hHeld; have hHeld := hHeld2; clear hHeld2
    try go_frame
    clear hU5
    refine tr 11 (fun K hK => ?_)
    go_simp
    refine (or_calls _ _ _ _ _ _ s5).mono ?_
    rintro e u ⟨rfl, rfl⟩
    go_wp2_with fail
    refine hK.out _ _ hHeld (fun hHeld2 => ?_)
    clear hK K hHeld; have hHeld := hHeld2; clear hHeld2
    try go_frame
    refine' tk 12 ?_ ?_; rotate_left
    · intro u hu; clear hu; go_simp; try with_reducible rfl
    try go_frame
    refine tz ?_
    go_wp2_with fail
    go_ret
    exact ⟨by rw [← HZ.out, hZ1, hZ2]; rfl, on2 HB4.out hHeld⟩
  · go_simp
    obtain ⟨U1, hU1⟩ : ∃ U1, U1 = wd.alloc (.cells #[.string ⟨#[]⟩, .int .i64 0, .string ⟨#[]⟩, .slice none 0 0, .string ⟨#[]⟩] 49) := ⟨_, rfl⟩
    have dU1 : Below wd.heap.size wd U1 := by rw [hU1]; exact (Below.refl _ _).alloc (Nat.le_refl _) _
    have hb1 : Below w.heap.size w U1 := on2 hHeld dU1
    have g1 : BoxL U1 wd.heap.size [.string ⟨#[]⟩, .int .i64 0, .string ⟨#[]⟩, .slice none 0 0, .string ⟨#[]⟩] := by rw [hU1]; exact BoxL.new wd 49 [.string ⟨#[]⟩, .int .i64 0, .string ⟨#[]⟩, .slice none 0 0, .string ⟨#[]⟩]
    refine hK.out _ _ (hU1 ▸ hb1) (fun hHeld2 => ?_)
    rw [← hU1] at hHeld2 ⊢
    clear hK K hHeld; have hHeld := hHeld2; clear hHeld2
    try go_frame
    have gs : U1.heap.size = w.heap.size + 1 := by rw [hU1]; simp [ed]
    clear hU1
    refine tr 8 (fun K hK => ?_)
    go_simp
    obtain ⟨U2, hU2⟩ : ∃ U2, U2 = U1.alloc (.cells #[.string ⟨#[]⟩, .int .i64 0, .string ⟨#[]⟩, .slice none 0 0, .string ⟨#[]⟩] 49) := ⟨_, rfl⟩
    have dU2 : Below U1.heap.size U1 U2 := by rw [hU2]; exact (Below.refl _ _).alloc (Nat.le_refl _) _
    have hb2 : Below w.heap.size w U2 := on2 hb1 dU2
    have g2 : BoxL U2 U1.heap.size [.string ⟨#[]⟩, .int .i64 0, .string ⟨#[]⟩, .slice none 0 0, .string ⟨#[]⟩] := by rw [hU2]; exact BoxL.new U1 49 [.string ⟨#[]⟩, .int .i64 0, .string ⟨#[]⟩, .slice none 0 0, .string ⟨#[]⟩]
    refine hK.out _ _ (hU2 ▸ hb2) (fun hHeld2 => ?_)
    rw [← hU2] at hHeld2 ⊢
    clear hK K hHeld; have hHeld := hHeld2; clear hHeld2
    try go_frame
    clear hU2
    have g1 := g1.on dU2
    rw [gs] at g2
    rw [ed] at g1
    have z1 := g2
    have z2 := g1
    try rw [gs]
    try rw [ed]
    refine ts 10 (fun K hK => ?_)
    obtain ⟨U3, hU3⟩ : ∃ U3, U3 = U2.setCells (w.heap.size + 1) 0 xs := ⟨_, rfl⟩
    refine want_yes (by rfl) (wp_store_mid 49 _ _ rfl ((w.heap.size + 1)) 0 xs.toArray rfl rfl (by rw [show xs.toArray.size = 5 by simp [hlx]]; exact z1.there) hixa HOx.out ?_)
    have x1 : BoxL U3 (w.heap.size + 1) xs := by rw [hU3]; exact box_over8 z1 (by rw [hlx]; rfl)
    have x2 : BoxL U3 w.heap.size [.string ⟨#[]⟩, .int .i64 0, .string ⟨#[]⟩, .slice none 0 0, .string ⟨#[]⟩] := by rw [hU3]; exact z2.kept (A := fun b => b ≠ (w.heap.size + 1)) (kept_setCells (fun h => h rfl)) (by omega)
    have b3 : Below w.heap.size w U3 := by rw [hU3]; exact below_setCells hb2 (by omega)
    have e3 : U3 = U2.setCells (w.heap.size + 1) 0 xs.toArray.toList := by rw [hU3]
    rw [← e3]
    refine hK.out _ _ b3 (fun hHeld2 => ?_)
    clear hK K hHeld; have hHeld := hHeld2; clear hHeld2
    try go_frame
    clear e3 hU3
    refine ts 11 (fun K hK => ?_)
    obtain ⟨U4, hU4⟩ : ∃ U4, U4 = U3.setCells w.heap.size 0 ys := ⟨_, rfl⟩
    refine want_yes (by rfl) (wp_store_mid 49 _ _ rfl (w.heap.size) 0 ys.toArray rfl rfl (by rw [show ys.toArray.size = 5 by simp [hly]]; exact x2.there) hiya HOy.out ?_)
    have y2 : BoxL U4 w.heap.size ys := by rw [hU4]; exact box_over8 x2 (by rw [hly]; rfl)
    have y1 : BoxL U4 (w.heap.size + 1) xs := by rw [hU4]; exact x1.kept (A := fun b => b ≠ w.heap.size) (kept_setCells (fun h => h rfl)) (by omega)
    have b4 : Below w.heap.size w U4 := by rw [hU4]; exact below_setCells b3 (by omega)
    have e4 : U4 = U3.setCells w.heap.size 0 ys.toArray.toList := by rw [hU4]
    rw [← e4]
    refine hK.out _ _ b4 (fun hHeld2 => ?_)
    clear hK K hHeld; have hHeld := hHeld2; clear hHeld2
    try go_frame
    clear e4 hU4
    refine tz ?_
    have HQ : Hid (∀ u, Below U4.heap.size U4 u → u.cell? ⟨(w.heap.size + 1), 0, none⟩ = some (.string p0) ∧ u.cell? ⟨(w.heap.size + 1), 1, none⟩ = some (.int .i64 p1) ∧ u.cell? ⟨w.heap.size, 0, none⟩ = some (.string q0) ∧ u.cell? ⟨w.heap.size, 1, none⟩ = some (.int .i64 q1)) := fun u hb => ⟨((y1.on hb).2 0 _ vx0).1, ((y1.on hb).2 1 _ vx1).1, ((y2.on hb).2 0 _ vy0).1, ((y2.on hb).2 1 _ vy1).1⟩
    have HB4 : Hid (Below w.heap.size w U4) := b4
    clear hHeld z1 z2 x1 x2 y1 y2 b3 b4 hb1 hb2 dU1 dU2 g1 g2 gs HS
    go_upto_region 2 with fail
    refine t0 (fun u => Below U4.heap.size U4 u) (Below.refl _ _).drew (fun hHeld => ?_)
    generalize hwe : U4.drew = we at hHeld ⊢
    clear hwe
    try go_frame
    refine' tk 0 ?_ ?_; rotate_left
    · intro u hu; obtain ⟨f1, f2, f3, f4⟩ := HQ.out u hu; clear hu; go_simp; try with_reducible rfl
    try go_frame
    refine' tk 1 ?_ ?_; rotate_left
    · intro u hu; obtain ⟨f1, f2, f3, f4⟩ := HQ.out u hu; clear hu; go_simp; try with_reducible rfl
    try go_frame
    refine' tk 2 ?_ ?_; rotate_left
    · intro u hu; obtain ⟨f1, f2, f3, f4⟩ := HQ.out u hu; clear hu; go_simp; try with_reducible rfl
    try go_frame
    refine' tk 3 ?_ ?_; rotate_left
    · intro u hu; obtain ⟨f1, f2, f3, f4⟩ := HQ.out u hu; clear hu; go_simp; try with_reducible rfl
    try go_frame
    refine' tk 5 ?_ ?_; rotate_left
    · intro u hu; obtain ⟨f1, f2, f3, f4⟩ := HQ.out u hu; clear hu; go_simp; try with_reducible rfl
    try go_frame
    refine' tk 6 ?_ ?_; rotate_left
    · intro u hu; obtain ⟨f1, f2, f3, f4⟩ := HQ.out u hu; clear hu; go_simp; try with_reducible rfl
    try go_frame
    refine' tk 7 ?_ ?_; rotate_left
    · intro u hu; obtain ⟨f1, f2, f3, f4⟩ := HQ.out u hu; clear hu; go_simp; try with_reducible rfl
    try go_frame
    refine' tk 8 ?_ ?_; rotate_left
    · intro u hu; obtain ⟨f1, f2, f3, f4⟩ := HQ.out u hu; clear hu; go_simp; try with_reducible rfl
    try go_frame
    refine tr 4 (fun K hK => ?_)
    go_simp
    refine (Tryz.cmp_Compare_int p1 q1 _).mono ?_
    rintro e wf ⟨rfl, rfl⟩
    go_wp2_with fail
    refine hK.out _ _ hHeld (fun hHeld2 => ?_)
    clear hK K hHeld; have hHeld := hHeld2; clear hHeld2
    try go_frame
    refine tr 9 (fun K hK => ?_)
    go_simp
    refine (Tryz.strings_Compare p0 q0 _).mono ?_
    rintro e wg ⟨rfl, rfl⟩
    go_wp2_with fail
    refine hK.out _ _ hHeld (fun hHeld2 => ?_)
    clear hK K hHeld; have hHeld := hHeld2; clear hHeld2
    try go_frame
    generalize hZ1 : Lib.compareInt p1 q1 = k1
    generalize hZ2 : Lib.compareBytes p0.data.toList q0.data.toList = k2
    refine tr 10 (fun K hK => ?_)
    go_simp
    obtain ⟨U5, hU5⟩ : ∃ U5, U5 = wg.alloc (.cells #[.int .i64 k1, .int .i64 k2] 3) := ⟨_, rfl⟩
    have b5 : Below U4.heap.size U4 U5 := by rw [hU5]; exact on2 hHeld ((Below.refl _ _).alloc (Nat.le_refl _) _)
    have s5 : SlAt RInt 1 8 (fun _ => True) U5 (some ⟨wg.heap.size, 0, none⟩) 2 2 [k1, k2] := by rw [hU5]; exact two_ints10 wg k1 k2
    refine hK.out _ _ (hU5 ▸ b5) (fun hHeld2 => ?_)
    rw [← hU5] at hHeld2 ⊢
    clear hK K hHeld; have hHeld := hHeld2; clear hHeld2
    try go_frame
    clear hU5
    refine tr 11 (fun K hK => ?_)
    go_simp
    refine (or_calls _ _ _ _ _ _ s5).mono ?_
    rintro e u ⟨rfl, rfl⟩
    go_wp2_with fail
    refine hK.out _ _ hHeld (fun hHeld2 => ?_)
    clear hK K hHeld; have hHeld := hHeld2; clear hHeld2
    try go_frame
    refine' tk 12 ?_ ?_; rotate_left
    · intro u hu; clear hu; go_simp; try with_reducible rfl
    try go_frame
    refine tz ?_
    go_wp2_with fail
    go_ret
    exact ⟨by rw [← HZ.out, hZ1, hZ2]; rfl, on2 HB4.out hHeld⟩
end Go.Proofs.YtmnldngojgldiaaGreat
namespace Go.Proofs.YtmnldngojgldiaaGreat
open Go.RowKit Go.Maps
set_option linter.unusedSimpArgs false
set_option maxRecDepth 100000

/-- Places, as Go's numbers. -/
abbrev asZ (l : List Nat) : List Int := l.map (fun k : Nat => (k : Int))
theorem suit_succ (c : ClaimD) (L : List VolumeD) (k : Nat) : asZ (suitI c L (k + 1)) = asZ (suitI c L k) ++ (if suitP c (L.getD k default) = true then [(k : Int)] else []) := by
  unfold asZ suitI
  rw [List.range_succ, List.filter_append, List.map_append]
  congr 1
  simp only [List.filter_cons, List.filter_nil]
  split <;> rfl
theorem suit_len (c : ClaimD) (L : List VolumeD) (k : Nat) : (asZ (suitI c L k)).length ≤ k := by
  unfold asZ suitI
  rw [List.length_map]
  have := List.length_filter_le (fun i => suitP c (L.getD i default)) (List.range k)
  rwa [List.length_range] at this
theorem infoI10 : (Tryz.prog.info? 3).map (fun i => (i.zero, i.size, i.bytes)) = some (some (.int .i64 0), 1, 8) := by kernel_rfl
/-- What suiting hands back. -/
def SuiOut (w : World) (l : List Nat) (e : Ending) (w' : World) : Prop := ∃ v, e = .returned v ∧ Row RInt 1 (fun _ => False) w w' 3 v (asZ l)
set_option maxHeartbeats 16000000 in
theorem suiting_calls (a : Option Addr) (n cap bp : Nat) (A : Where) (L : List VolumeD) (cs : List Value) (A' : Where) (c : ClaimD) (w : World) (hL : Hid (SlAt RVolume 5 bp A w a n cap L)) (hbn : n * 8 ≤ 140737488351232) (hc : RClaim A' w cs c) :
    Calls Tryz.prog 71 #[.slice a n cap, .agg cs.toArray] w (SuiOut w (suitI c L n)) := by
  have hnl : Hid (L.length = n) := hL.out.1
  have hlen : n ≤ 140737488351232 := by omega
  have hlc := RClaim.firm.len hc
  have hic : (Tryz.prog.info? 44).map (·.size) = some cs.length := by rw [hlc]; exact iszClaim
  obtain ⟨W1, hW1⟩ : ∃ W, W = w.alloc (.cells cs.toArray 44) := ⟨_, rfl⟩
  have B1 : Below w.heap.size w W1 := by rw [hW1]; go_grown
  have q1 : BoxL W1 w.heap.size cs := by rw [hW1]; exact BoxL.new w 44 _
  have HU : Hid (∀ u, Below W1.heap.size W1 u → BoxL u w.heap.size cs ∧ RClaim A' u cs c ∧ SlAt RVolume 5 bp A u a n cap L) := fun u hb => ⟨q1.on hb, RClaim.firm.kept hc (Kept.below (on2 B1 hb)), hL.out.on RVolume.firm (on2 B1 hb)⟩
  have HB1 : Hid (Below w.heap.size w W1) := B1
  clear hL hc B1 q1
  have HR0 : Hid (Row RInt 1 (fun _ => False) W1 W1 3 (.slice none 0 0) (asZ (suitI c L 0))) := Row.nil _ _ _
  go_enter Tryz.func71, Tryz.ntmps71
  go_upto_region 1 with fail
  rw [← hW1]
  clear hW1
  go_wp2_with fail
  go_loopw [5, 10] (fun o i wr => ∃ k : Nat, k ≤ n ∧ i = .int .i64 k ∧ Hid (Row RInt 1 (fun _ => False) W1 wr 3 o (asZ (suitI c L k)))) (fun _ i _ => n - (intOf i).toNat)
  case atStart => exact ⟨0, Nat.zero_le _, rfl, HR0⟩
  case round =>
    obtain ⟨k, hk, rfl, hrun⟩ := hrel
    have hrw := hrun.out
    clear hrun HR0
    by_cases hlt : k < n
    · have hltz : (k : Int) < (n : Int) := by omega
      obtain ⟨hqc, hcc, hS⟩ := HU.out wr hrw.below
      obtain ⟨B, off, rfl, hB, hAB, xs, hr, hv⟩ := hS.get hlt
      have hl : xs.length = 5 := RVolume.firm.len hr
      have hi : (Tryz.prog.info? 49).map (·.size) = some xs.length := by rw [hl]; exact iszVolume
      have hia : (Tryz.prog.info? 49).map (·.size) = some xs.toArray.size := by simpa using hi
      have HO : Hid (xs.toArray.all (·.oneCell') = true) := all_oneCell10 (RVolume.firm.one hr)
      have HV0 : Hid (wr.rangeAt B (off + k * 5) xs) := hv
      obtain ⟨V, hV⟩ : ∃ V, V = (wr.alloc (.cells #[.string ⟨#[]⟩, .int .i64 0, .string ⟨#[]⟩, .slice none 0 0, .string ⟨#[]⟩] 49)).setCells wr.heap.size 0 xs := ⟨_, rfl⟩
      have HTh : Hid ((wr.alloc (.cells #[.string ⟨#[]⟩, .int .i64 0, .string ⟨#[]⟩, .slice none 0 0, .string ⟨#[]⟩] 49)).there wr.heap.size 0 xs.toArray.size) := by have e : xs.toArray.size = 5 := (by simp [hl]); rw [Hid, e]; exact (BoxL.new wr 49 [.string ⟨#[]⟩, .int .i64 0, .string ⟨#[]⟩, .slice none 0 0, .string ⟨#[]⟩]).there
      have bV : Below wr.heap.size wr V := by rw [hV]; exact below_setCells ((Below.refl _ _).alloc (Nat.le_refl _) _) (Nat.le_refl _)
      have qV : BoxL V wr.heap.size xs := by rw [hV]; exact box_over8 (BoxL.new wr 49 [.string ⟨#[]⟩, .int .i64 0, .string ⟨#[]⟩, .slice none 0 0, .string ⟨#[]⟩]) (by rw [hl]; rfl)
      have HWV : Hid (V = (wr.alloc (.cells #[.string ⟨#[]⟩, .int .i64 0, .string ⟨#[]⟩, .slice none 0 0, .string ⟨#[]⟩] 49)).setCells wr.heap.size 0 xs.toArray.toList) := by rw [Hid, hV]
      clear hV
      have hC := suits_calls xs _ (L.getD k default) cs _ c V (RVolume.firm.kept hr (Kept.below bV)) (RClaim.firm.kept hcc (Kept.below bV))
      have HX0 : Hid (V.rangeAt wr.heap.size 0 xs) := qV.range
      have HXc : Hid (V.rangeAt w.heap.size 0 cs) := (hqc.on bV).range
      have HT : Hid (asZ (suitI c L (k + 1)) = asZ (suitI c L k) ++ (if suitP c (L.getD k default) = true then [(k : Int)] else [])) := suit_succ c L k
      have HLn : Hid ((asZ (suitI c L k)).length ≤ k) := suit_len c L k
      have HRw : Hid (∀ u, Below V.heap.size V u → Row RInt 1 (fun _ => False) W1 u 3 u5 (asZ (suitI c L k))) := fun u hb => hrw.on RInt.firm (on2 bV hb)
      clear hr hv hrw qV bV hqc hcc hS hB hAB
      generalize suitP c (L.getD k default) = b at hC HT
      generalize asZ (suitI c L k) = N at HT HLn HRw
      go_wp2_with (first | (refine wpList_load_mid rfl 49 _ rfl B (off + k * 5) rfl xs _ HV0.out Tryz.underlying49 rfl hi ?_) | (refine wpList_store_mid rfl 49 _ _ rfl wr.heap.size 0 xs.toArray rfl rfl HTh.out hia HO.out ?_; refine wpl_w8 HWV.out ?_) | (refine wpList_load_mid rfl 49 _ rfl wr.heap.size 0 rfl xs _ HX0.out Tryz.underlying49 rfl hi ?_) | (refine wpList_load_mid rfl 44 _ rfl w.heap.size 0 rfl cs _ HXc.out Tryz.underlying44 rfl hic ?_) | fail)
      refine hC.mono ?_
      rintro e w6 ⟨rfl, hb6⟩
      have hr6 := HRw.out w6 hb6
      clear hC HTh HO HV0 HWV HX0 HXc hia HRw hb6
      cases b with
      | false =>
        have HN : Hid (Row RInt 1 (fun _ => False) W1 w6 3 u5 (asZ (suitI c L (k + 1)))) := by rw [Hid, HT.out]; simpa using hr6
        clear hr6 HT HLn
        go_wp2_with fail
        go_roundw
        case rel => exact ⟨k + 1, by omega, by go_num, HN⟩
        case measure => simp [intOf]; omega
      | true =>
        have hb3 : Below w6.heap.size w6 (w6.alloc (.cells #[.int .i64 (k : Int)] 3)) := (Below.refl _ _).alloc (Nat.le_refl _) _
        have HR3 : Hid (Row RInt 1 (fun _ => False) W1 (w6.alloc (.cells #[.int .i64 (k : Int)] 3)) 3 u5 N) := hr6.on RInt.firm hb3
        have HE : RInt (fun b => False ∧ Value.ownBlock u5 ≠ some b) (w6.alloc (.cells #[.int .i64 (k : Int)] 3)) [.int .i64 (k : Int)] (k : Int) := rfl
        have H1 : Hid (∀ y ∈ [Value.int .i64 (k : Int)], y.oneCell' = true) := RInt.firm.one HE
        have HCh : Hid (Chunks RInt 1 (fun b => False ∧ Value.ownBlock u5 ≠ some b) (w6.alloc (.cells #[.int .i64 (k : Int)] 3)) [.int .i64 (k : Int)] [(k : Int)]) := chunk_one RInt.firm HE
        have HX : Hid (∀ j y, [Value.int .i64 (k : Int)][j]? = some y → (w6.alloc (.cells #[.int .i64 (k : Int)] 3)).cell? ((⟨w6.heap.size, 0, none⟩ : Addr).add j) = some y) := one_cells w6 _ 3
        have HLb2 : Hid ((N.length + [(k : Int)].length) * 8 ≤ 140737488355328) := by have h1 := HLn.out; rw [Hid, List.length_singleton]; omega
        have HT2 : Hid (N ++ [(k : Int)] = asZ (suitI c L (k + 1))) := by rw [Hid, HT.out]; rfl
        clear HE hb3 hr6 HT HLn
        go_wp2_with (at_builtin; go_must (refine row_append RInt.firm (A := (fun _ => False)) (w0 := W1) rfl _ _ 57 3 rfl _ 8 infoI10 Tryz.underlying57 rfl (by decide) (by decide) u5 N rfl HR3.out ⟨w6.heap.size, 0, none⟩ 1 1 _ [(k : Int)] rfl rfl HCh.out HX.out H1.out HLb2.out ?_); intro v4 w4 hrow4 hg4)
        have HN : Hid (Row RInt 1 (fun _ => False) W1 w4 3 v4 (asZ (suitI c L (k + 1)))) := by rw [Hid, ← HT2.out]; exact hrow4
        clear hrow4 hg4 HT2 HR3 HCh HX H1
        go_roundw
        case rel => exact ⟨k + 1, by omega, by go_num, HN⟩
        case measure => simp [intOf]; omega
    · have hkn : k = n := by omega
      rw [hkn] at hrw
      have HF : Hid (Row RInt 1 (fun _ => False) w wr 3 u5 (asZ (suitI c L n))) := hrw.from RInt.firm HB1.out (fun _ h => h)
      clear hrw hkn
      go_wp2_with fail
      go_ret
      exact ⟨_, rfl, HF.out⟩
end Go.Proofs.YtmnldngojgldiaaGreat
