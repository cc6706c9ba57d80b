/- Functions of the program, each walked under the conditions that its theorem names. -/
import Derived.Lib.AppendZeros
import Derived.Test.YtnffafjamiffnaaGreatQ25
import Derived.Test.YtnffafjamiffnaaGreatQ26
set_option linter.unusedSimpArgs false
set_option maxRecDepth 100000
set_option maxHeartbeats 32000000
namespace Go.Proofs.YtnffafjamiffnaaGreat
open Go.RowKit Go.Maps
theorem zDq (u : World) (x y : Int) : SlAt RInt 1 8 (fun _ => True) (u.alloc (.cells #[.int .i64 x, .int .i64 y] 3)) (some ⟨u.heap.size, 0, none⟩) 2 2 [x, y] := by
 have hq := BoxL.new u 3 [.int .i64 x, .int .i64 y]
 refine ⟨rfl, Nat.le_refl _, (fun h => by cases h), by decide, fun _ => ⟨u.heap.size, 0, rfl, hq.1, trivial, fun i hi => ?_⟩⟩
 rcases (show i = 0 \/ i = 1 by omega) with rfl | rfl
 ·exact ⟨[.int .i64 x], rfl, fun j v hj => by
   have h0 : j < 1 := (List.getElem?_eq_some_iff.1 hj).1
   obtain rfl : j = 0 := by omega
   have : v = .int .i64 x := by simpa using hj.symm
   subst this
   exact (hq.2 0 _ rfl).1⟩
 ·exact ⟨[.int .i64 y], rfl, fun j v hj => by
   have h0 : j < 1 := (List.getElem?_eq_some_iff.1 hj).1
   obtain rfl : j = 0 := by omega
   have : v = .int .i64 y := by simpa using hj.symm
   subst this
   exact (hq.2 1 _ rfl).1⟩
theorem zEL (a : Option Addr) (n cap bp : Nat) (A : Where) (L : List VolumeD) (i j : Nat) (w : World) (hL : Hid (SlAt RVolume 5 bp A w a n cap L)) (hi : i < n) (hj : j < n) :
  Calls Tryz.prog 206 #[.slice a n cap, .int .i64 (i : Int), .int .i64 (j : Int)] w fun e w' => e = .returned (.int .i64 (cmpZ (L.getD i default) (L.getD j default))) /\ Below w.heap.size w w' := by
 obtain ⟨B, off, rfl, hB, _, xs, hr, hv⟩ := hL.out.get hi
 obtain ⟨B', off', e', _, _, ys, hr', hv'⟩ := hL.out.get hj
 obtain ⟨rfl, rfl⟩ : B = B' /\ off = off' := by simpa using e'
 have hlx := RVolume.firm.len hr
 have hly := RVolume.firm.len hr'
 have HOx : Hid (xs.toArray.all (·.oneCell') = true) := zAO (RVolume.firm.one hr)
 have HOy : Hid (ys.toArray.all (·.oneCell') = true) := zAO (RVolume.firm.one hr')
 have hix : (Tryz.prog.info? 79).map (·.size) = some xs.length := by rw [hlx]; exact zAa
 have hiy : (Tryz.prog.info? 79).map (·.size) = some ys.length := by rw [hly]; exact zAa
 have hixa : (Tryz.prog.info? 79).map (·.size) = some xs.toArray.size := by simpa using hix
 have hiya : (Tryz.prog.info? 79).map (·.size) = some ys.toArray.size := by simpa using hiy
 have HS : Hid (∀ u, Below w.heap.size w u -> u.rangeAt B (off + i * 5) xs /\ u.rangeAt B (off + j * 5) ys) := fun u hb => ⟨fun k v hk => (hb.cell hB).trans (hv k v hk), fun k v hk => (hb.cell hB).trans (hv' k v hk)⟩
 obtain ⟨vx0, vx1, _⟩ := hr.all10
 obtain ⟨vy0, vy1, _⟩ := hr'.all10
 have HZ : Hid (orP [Lib.compareInt (L.getD i default).2.1 (L.getD j default).2.1, Lib.compareBytes (L.getD i default).1.data.toList (L.getD j default).1.data.toList] = cmpZ (L.getD i default) (L.getD j default)) := cmpZ_or _ _
 have hiz : (i : Int) < (n : Int) := by omega
 have hjz : (j : Int) < (n : Int) := by omega
 clear hL hr hr' hv hv' hB e'
 generalize cmpZ (L.getD i default) (L.getD j default) = c at HZ
 generalize (L.getD i default).1 = p0 at vx0 HZ
 generalize (L.getD i default).2.1 = p1 at vx1 HZ
 generalize (L.getD j default).1 = q0 at vy0 HZ
 generalize (L.getD j default).2.1 = q1 at vy1 HZ
 go_enter Tryz.func206, Tryz.ntmps206
 go_upto_region 1 with fail
 refine t0 (fun u => Below w.heap.size w u) (Below.refl _ _).drew (fun gH => ?_)
 generalize hwd : w.drew = wd at gH |-
 have ed : wd.heap.size = w.heap.size := by rw [<- hwd]; rfl
 clear hwd
 try go_frame
 refine tp 0 ?_
 try go_frame
 refine tp 1 ?_
 try go_frame
 refine tp 2 ?_
 try go_frame
 refine tq 3 (.agg xs.toArray) (yieldsIf_load_mid (by rfl) 79 _ rfl B (off + i * 5) rfl xs _ (fun u hu => (HS.out u hu).1) Tryz.underlying79 rfl hix) ?_ (hi := rfl)
 try go_frame
 refine tp 4 ?_
 try go_frame
 refine tp 5 ?_
 try go_frame
 refine tp 6 ?_
 try go_frame
 refine tq 7 (.agg ys.toArray) (yieldsIf_load_mid (by rfl) 79 _ rfl B (off + j * 5) rfl ys _ (fun u hu => (HS.out u hu).2) Tryz.underlying79 rfl hiy) ?_ (hi := rfl)
 try go_frame
 refine tb 8 9 (fun K hK => ?_) (fun K hK => ?_)
 ·go_simp
  obtain ⟨U1, hU1⟩ : ∃ U1, U1 = wd.alloc (.cells #[.string ⟨#[]⟩, .int .i64 0, .string ⟨#[]⟩, .slice none 0 0, .string ⟨#[]⟩] 79) := ⟨_, rfl⟩
  have dU1 : Below wd.heap.size wd U1 := by rw [hU1]; exact (Below.refl _ _).alloc (Nat.le_refl _) _
  have hb1 : Below w.heap.size w U1 := on2 gH dU1
  have g1 : BoxL U1 wd.heap.size [.string ⟨#[]⟩, .int .i64 0, .string ⟨#[]⟩, .slice none 0 0, .string ⟨#[]⟩] := by rw [hU1]; exact BoxL.new wd 79 [.string ⟨#[]⟩, .int .i64 0, .string ⟨#[]⟩, .slice none 0 0, .string ⟨#[]⟩]
  refine hK.out _ _ (hU1 ▸ hb1) (fun gI => ?_)
  rw [<- hU1] at gI |-
  clear hK K gH; have gH := gI; clear gI
  try go_frame
  have gs : U1.heap.size = w.heap.size + 1 := by rw [hU1]; simp [ed]
  clear hU1
  refine tr 9 (fun K hK => ?_)
  go_simp
  obtain ⟨U2, hU2⟩ : ∃ U2, U2 = U1.alloc (.cells #[.string ⟨#[]⟩, .int .i64 0, .string ⟨#[]⟩, .slice none 0 0, .string ⟨#[]⟩] 79) := ⟨_, rfl⟩
  have dU2 : Below U1.heap.size U1 U2 := by rw [hU2]; exact (Below.refl _ _).alloc (Nat.le_refl _) _
  have hb2 : Below w.heap.size w U2 := on2 hb1 dU2
  have g2 : BoxL U2 U1.heap.size [.string ⟨#[]⟩, .int .i64 0, .string ⟨#[]⟩, .slice none 0 0, .string ⟨#[]⟩] := by rw [hU2]; exact BoxL.new U1 79 [.string ⟨#[]⟩, .int .i64 0, .string ⟨#[]⟩, .slice none 0 0, .string ⟨#[]⟩]
  refine hK.out _ _ (hU2 ▸ hb2) (fun gI => ?_)
  rw [<- hU2] at gI |-
  clear hK K gH; have gH := gI; clear gI
  try go_frame
  clear hU2
  have g1 := g1.on dU2
  rw [gs] at g2
  rw [ed] at g1
  have z1 := g1
  have z2 := g2
  try rw [gs]
  try rw [ed]
  refine ts 10 (fun K hK => ?_)
  obtain ⟨U3, hU3⟩ : ∃ U3, U3 = U2.setCells w.heap.size 0 xs := ⟨_, rfl⟩
  refine zA4 (by rfl) (wp_store_mid 79 _ _ rfl (w.heap.size) 0 xs.toArray rfl rfl (by rw [show xs.toArray.size = 5 by simp [hlx]]; exact z1.there) hixa HOx.out ?_)
  have x1 : BoxL U3 w.heap.size xs := by rw [hU3]; exact zA2 z1 (by rw [hlx]; rfl)
  have x2 : BoxL U3 (w.heap.size + 1) [.string ⟨#[]⟩, .int .i64 0, .string ⟨#[]⟩, .slice none 0 0, .string ⟨#[]⟩] := by rw [hU3]; exact z2.kept (A := fun b => b ≠ w.heap.size) (zA1 (fun h => h rfl)) (by omega)
  have b3 : Below w.heap.size w U3 := by rw [hU3]; exact zA0 hb2 (by omega)
  have e3 : U3 = U2.setCells w.heap.size 0 xs.toArray.toList := by rw [hU3]
  rw [<- e3]
  refine hK.out _ _ b3 (fun gI => ?_)
  clear hK K gH; have gH := gI; clear gI
  try go_frame
  clear e3 hU3
  refine ts 11 (fun K hK => ?_)
  obtain ⟨U4, hU4⟩ : ∃ U4, U4 = U3.setCells (w.heap.size + 1) 0 ys := ⟨_, rfl⟩
  refine zA4 (by rfl) (wp_store_mid 79 _ _ rfl ((w.heap.size + 1)) 0 ys.toArray rfl rfl (by rw [show ys.toArray.size = 5 by simp [hly]]; exact x2.there) hiya HOy.out ?_)
  have y2 : BoxL U4 (w.heap.size + 1) ys := by rw [hU4]; exact zA2 x2 (by rw [hly]; rfl)
  have y1 : BoxL U4 w.heap.size xs := by rw [hU4]; exact x1.kept (A := fun b => b ≠ (w.heap.size + 1)) (zA1 (fun h => h rfl)) (by omega)
  have b4 : Below w.heap.size w U4 := by rw [hU4]; exact zA0 b3 (by omega)
  have e4 : U4 = U3.setCells (w.heap.size + 1) 0 ys.toArray.toList := by rw [hU4]
  rw [<- e4]
  refine hK.out _ _ b4 (fun gI => ?_)
  clear hK K gH; have gH := gI; clear gI
  try go_frame
  clear e4 hU4
  refine tz ?_
  have HQ : Hid (∀ u, Below U4.heap.size U4 u -> u.cell? ⟨w.heap.size, 0, none⟩ = some (.string p0) /\ u.cell? ⟨w.heap.size, 1, none⟩ = some (.int .i64 p1) /\ u.cell? ⟨(w.heap.size + 1), 0, none⟩ = some (.string q0) /\ u.cell? ⟨(w.heap.size + 1), 1, none⟩ = some (.int .i64 q1)) := fun u hb => ⟨((y1.on hb).2 0 _ vx0).1, ((y1.on hb).2 1 _ vx1).1, ((y2.on hb).2 0 _ vy0).1, ((y2.on hb).2 1 _ vy1).1⟩
  have HB4 : Hid (Below w.heap.size w U4) := b4
  clear gH z1 z2 x1 x2 y1 y2 b3 b4 hb1 hb2 dU1 dU2 g1 g2 gs HS
  go_upto_region 2 with fail
  refine t0 (fun u => Below U4.heap.size U4 u) (Below.refl _ _).drew (fun gH => ?_)
  generalize hwe : U4.drew = we at gH |-
  clear hwe
  try go_frame
  refine' tk 0 ?_ ?_; rotate_left
  ·intro u hu; obtain ⟨f1, f2, f3, f4⟩ := HQ.out u hu; clear hu; go_simp; try with_reducible rfl
  try go_frame
  refine' tk 1 ?_ ?_; rotate_left
  ·intro u hu; obtain ⟨f1, f2, f3, f4⟩ := HQ.out u hu; clear hu; go_simp; try with_reducible rfl
  try go_frame
  refine' tk 2 ?_ ?_; rotate_left
  ·intro u hu; obtain ⟨f1, f2, f3, f4⟩ := HQ.out u hu; clear hu; go_simp; try with_reducible rfl
  try go_frame
  refine' tk 3 ?_ ?_; rotate_left
  ·intro u hu; obtain ⟨f1, f2, f3, f4⟩ := HQ.out u hu; clear hu; go_simp; try with_reducible rfl
  try go_frame
  refine' tk 5 ?_ ?_; rotate_left
  ·intro u hu; obtain ⟨f1, f2, f3, f4⟩ := HQ.out u hu; clear hu; go_simp; try with_reducible rfl
  try go_frame
  refine' tk 6 ?_ ?_; rotate_left
  ·intro u hu; obtain ⟨f1, f2, f3, f4⟩ := HQ.out u hu; clear hu; go_simp; try with_reducible rfl
  try go_frame
  refine' tk 7 ?_ ?_; rotate_left
  ·intro u hu; obtain ⟨f1, f2, f3, f4⟩ := HQ.out u hu; clear hu; go_simp; try with_reducible rfl
  try go_frame
  refine' tk 8 ?_ ?_; rotate_left
  ·intro u hu; obtain ⟨f1, f2, f3, f4⟩ := HQ.out u hu; clear hu; go_simp; try with_reducible rfl
  try go_frame
  refine tr 4 (fun K hK => ?_)
  go_simp
  refine (Tryz.cmp_Compare_int p1 q1 _).mono ?_
  rintro e wf ⟨rfl, rfl⟩
  go_wp2_with fail
  refine hK.out _ _ gH (fun gI => ?_)
  clear hK K gH; have gH := gI; clear gI
  try go_frame
  refine tr 9 (fun K hK => ?_)
  go_simp
  refine (Tryz.strings_Compare p0 q0 _).mono ?_
  rintro e wg ⟨rfl, rfl⟩
  go_wp2_with fail
  refine hK.out _ _ gH (fun gI => ?_)
  clear hK K gH; have gH := gI; clear gI
  try go_frame
  generalize hZ1 : Lib.compareInt p1 q1 = k1
  generalize hZ2 : Lib.compareBytes p0.data.toList q0.data.toList = k2
  refine tr 10 (fun K hK => ?_)
  go_simp
  obtain ⟨U5, hU5⟩ : ∃ U5, U5 = wg.alloc (.cells #[.int .i64 k1, .int .i64 k2] 3) := ⟨_, rfl⟩
  have b5 : Below U4.heap.size U4 U5 := by rw [hU5]; exact on2 gH ((Below.refl _ _).alloc (Nat.le_refl _) _)
  have s5 : SlAt RInt 1 8 (fun _ => True) U5 (some ⟨wg.heap.size, 0, none⟩) 2 2 [k1, k2] := by rw [hU5]; exact zDq wg k1 k2
  refine hK.out _ _ (hU5 ▸ b5) (fun gI => ?_)
  rw [<- hU5] at gI |-
  clear hK K gH; have gH := gI; clear gI
  try go_frame
  clear hU5
  refine tr 11 (fun K hK => ?_)
  go_simp
  refine (zGY _ _ _ _ _ _ s5).mono ?_
  rintro e u ⟨rfl, rfl⟩
  go_wp2_with fail
  refine hK.out _ _ gH (fun gI => ?_)
  clear hK K gH; have gH := gI; clear gI
  try go_frame
  refine tp 12 ?_
  try go_frame
  refine tz ?_
  go_wp2_with fail
  go_ret
  exact ⟨by rw [<- HZ.out, hZ1, hZ2]; rfl, on2 HB4.out gH⟩
 ·go_simp
  obtain ⟨U1, hU1⟩ : ∃ U1, U1 = wd.alloc (.cells #[.string ⟨#[]⟩, .int .i64 0, .string ⟨#[]⟩, .slice none 0 0, .string ⟨#[]⟩] 79) := ⟨_, rfl⟩
  have dU1 : Below wd.heap.size wd U1 := by rw [hU1]; exact (Below.refl _ _).alloc (Nat.le_refl _) _
  have hb1 : Below w.heap.size w U1 := on2 gH dU1
  have g1 : BoxL U1 wd.heap.size [.string ⟨#[]⟩, .int .i64 0, .string ⟨#[]⟩, .slice none 0 0, .string ⟨#[]⟩] := by rw [hU1]; exact BoxL.new wd 79 [.string ⟨#[]⟩, .int .i64 0, .string ⟨#[]⟩, .slice none 0 0, .string ⟨#[]⟩]
  refine hK.out _ _ (hU1 ▸ hb1) (fun gI => ?_)
  rw [<- hU1] at gI |-
  clear hK K gH; have gH := gI; clear gI
  try go_frame
  have gs : U1.heap.size = w.heap.size + 1 := by rw [hU1]; simp [ed]
  clear hU1
  refine tr 8 (fun K hK => ?_)
  go_simp
  obtain ⟨U2, hU2⟩ : ∃ U2, U2 = U1.alloc (.cells #[.string ⟨#[]⟩, .int .i64 0, .string ⟨#[]⟩, .slice none 0 0, .string ⟨#[]⟩] 79) := ⟨_, rfl⟩
  have dU2 : Below U1.heap.size U1 U2 := by rw [hU2]; exact (Below.refl _ _).alloc (Nat.le_refl _) _
  have hb2 : Below w.heap.size w U2 := on2 hb1 dU2
  have g2 : BoxL U2 U1.heap.size [.string ⟨#[]⟩, .int .i64 0, .string ⟨#[]⟩, .slice none 0 0, .string ⟨#[]⟩] := by rw [hU2]; exact BoxL.new U1 79 [.string ⟨#[]⟩, .int .i64 0, .string ⟨#[]⟩, .slice none 0 0, .string ⟨#[]⟩]
  refine hK.out _ _ (hU2 ▸ hb2) (fun gI => ?_)
  rw [<- hU2] at gI |-
  clear hK K gH; have gH := gI; clear gI
  try go_frame
  clear hU2
  have g1 := g1.on dU2
  rw [gs] at g2
  rw [ed] at g1
  have z1 := g2
  have z2 := g1
  try rw [gs]
  try rw [ed]
  refine ts 10 (fun K hK => ?_)
  obtain ⟨U3, hU3⟩ : ∃ U3, U3 = U2.setCells (w.heap.size + 1) 0 xs := ⟨_, rfl⟩
  refine zA4 (by rfl) (wp_store_mid 79 _ _ rfl ((w.heap.size + 1)) 0 xs.toArray rfl rfl (by rw [show xs.toArray.size = 5 by simp [hlx]]; exact z1.there) hixa HOx.out ?_)
  have x1 : BoxL U3 (w.heap.size + 1) xs := by rw [hU3]; exact zA2 z1 (by rw [hlx]; rfl)
  have x2 : BoxL U3 w.heap.size [.string ⟨#[]⟩, .int .i64 0, .string ⟨#[]⟩, .slice none 0 0, .string ⟨#[]⟩] := by rw [hU3]; exact z2.kept (A := fun b => b ≠ (w.heap.size + 1)) (zA1 (fun h => h rfl)) (by omega)
  have b3 : Below w.heap.size w U3 := by rw [hU3]; exact zA0 hb2 (by omega)
  have e3 : U3 = U2.setCells (w.heap.size + 1) 0 xs.toArray.toList := by rw [hU3]
  rw [<- e3]
  refine hK.out _ _ b3 (fun gI => ?_)
  clear hK K gH; have gH := gI; clear gI
  try go_frame
  clear e3 hU3
  refine ts 11 (fun K hK => ?_)
  obtain ⟨U4, hU4⟩ : ∃ U4, U4 = U3.setCells w.heap.size 0 ys := ⟨_, rfl⟩
  refine zA4 (by rfl) (wp_store_mid 79 _ _ rfl (w.heap.size) 0 ys.toArray rfl rfl (by rw [show ys.toArray.size = 5 by simp [hly]]; exact x2.there) hiya HOy.out ?_)
  have y2 : BoxL U4 w.heap.size ys := by rw [hU4]; exact zA2 x2 (by rw [hly]; rfl)
  have y1 : BoxL U4 (w.heap.size + 1) xs := by rw [hU4]; exact x1.kept (A := fun b => b ≠ w.heap.size) (zA1 (fun h => h rfl)) (by omega)
  have b4 : Below w.heap.size w U4 := by rw [hU4]; exact zA0 b3 (by omega)
  have e4 : U4 = U3.setCells w.heap.size 0 ys.toArray.toList := by rw [hU4]
  rw [<- e4]
  refine hK.out _ _ b4 (fun gI => ?_)
  clear hK K gH; have gH := gI; clear gI
  try go_frame
  clear e4 hU4
  refine tz ?_
  have HQ : Hid (∀ u, Below U4.heap.size U4 u -> u.cell? ⟨(w.heap.size + 1), 0, none⟩ = some (.string p0) /\ u.cell? ⟨(w.heap.size + 1), 1, none⟩ = some (.int .i64 p1) /\ u.cell? ⟨w.heap.size, 0, none⟩ = some (.string q0) /\ u.cell? ⟨w.heap.size, 1, none⟩ = some (.int .i64 q1)) := fun u hb => ⟨((y1.on hb).2 0 _ vx0).1, ((y1.on hb).2 1 _ vx1).1, ((y2.on hb).2 0 _ vy0).1, ((y2.on hb).2 1 _ vy1).1⟩
  have HB4 : Hid (Below w.heap.size w U4) := b4
  clear gH z1 z2 x1 x2 y1 y2 b3 b4 hb1 hb2 dU1 dU2 g1 g2 gs HS
  go_upto_region 2 with fail
  refine t0 (fun u => Below U4.heap.size U4 u) (Below.refl _ _).drew (fun gH => ?_)
  generalize hwe : U4.drew = we at gH |-
  clear hwe
  try go_frame
  refine' tk 0 ?_ ?_; rotate_left
  ·intro u hu; obtain ⟨f1, f2, f3, f4⟩ := HQ.out u hu; clear hu; go_simp; try with_reducible rfl
  try go_frame
  refine' tk 1 ?_ ?_; rotate_left
  ·intro u hu; obtain ⟨f1, f2, f3, f4⟩ := HQ.out u hu; clear hu; go_simp; try with_reducible rfl
  try go_frame
  refine' tk 2 ?_ ?_; rotate_left
  ·intro u hu; obtain ⟨f1, f2, f3, f4⟩ := HQ.out u hu; clear hu; go_simp; try with_reducible rfl
  try go_frame
  refine' tk 3 ?_ ?_; rotate_left
  ·intro u hu; obtain ⟨f1, f2, f3, f4⟩ := HQ.out u hu; clear hu; go_simp; try with_reducible rfl
  try go_frame
  refine' tk 5 ?_ ?_; rotate_left
  ·intro u hu; obtain ⟨f1, f2, f3, f4⟩ := HQ.out u hu; clear hu; go_simp; try with_reducible rfl
  try go_frame
  refine' tk 6 ?_ ?_; rotate_left
  ·intro u hu; obtain ⟨f1, f2, f3, f4⟩ := HQ.out u hu; clear hu; go_simp; try with_reducible rfl
  try go_frame
  refine' tk 7 ?_ ?_; rotate_left
  ·intro u hu; obtain ⟨f1, f2, f3, f4⟩ := HQ.out u hu; clear hu; go_simp; try with_reducible rfl
  try go_frame
  refine' tk 8 ?_ ?_; rotate_left
  ·intro u hu; obtain ⟨f1, f2, f3, f4⟩ := HQ.out u hu; clear hu; go_simp; try with_reducible rfl
  try go_frame
  refine tr 4 (fun K hK => ?_)
  go_simp
  refine (Tryz.cmp_Compare_int p1 q1 _).mono ?_
  rintro e wf ⟨rfl, rfl⟩
  go_wp2_with fail
  refine hK.out _ _ gH (fun gI => ?_)
  clear hK K gH; have gH := gI; clear gI
  try go_frame
  refine tr 9 (fun K hK => ?_)
  go_simp
  refine (Tryz.strings_Compare p0 q0 _).mono ?_
  rintro e wg ⟨rfl, rfl⟩
  go_wp2_with fail
  refine hK.out _ _ gH (fun gI => ?_)
  clear hK K gH; have gH := gI; clear gI
  try go_frame
  generalize hZ1 : Lib.compareInt p1 q1 = k1
  generalize hZ2 : Lib.compareBytes p0.data.toList q0.data.toList = k2
  refine tr 10 (fun K hK => ?_)
  go_simp
  obtain ⟨U5, hU5⟩ : ∃ U5, U5 = wg.alloc (.cells #[.int .i64 k1, .int .i64 k2] 3) := ⟨_, rfl⟩
  have b5 : Below U4.heap.size U4 U5 := by rw [hU5]; exact on2 gH ((Below.refl _ _).alloc (Nat.le_refl _) _)
  have s5 : SlAt RInt 1 8 (fun _ => True) U5 (some ⟨wg.heap.size, 0, none⟩) 2 2 [k1, k2] := by rw [hU5]; exact zDq wg k1 k2
  refine hK.out _ _ (hU5 ▸ b5) (fun gI => ?_)
  rw [<- hU5] at gI |-
  clear hK K gH; have gH := gI; clear gI
  try go_frame
  clear hU5
  refine tr 11 (fun K hK => ?_)
  go_simp
  refine (zGY _ _ _ _ _ _ s5).mono ?_
  rintro e u ⟨rfl, rfl⟩
  go_wp2_with fail
  refine hK.out _ _ gH (fun gI => ?_)
  clear hK K gH; have gH := gI; clear gI
  try go_frame
  refine tp 12 ?_
  try go_frame
  refine tz ?_
  go_wp2_with fail
  go_ret
  exact ⟨by rw [<- HZ.out, hZ1, hZ2]; rfl, on2 HB4.out gH⟩
theorem wrap64_10 {n : Int} (h0 : 0 <= n) (h1 : n < 9223372036854775808) : wrap64 n = n := by unfold wrap64; omega
def GrowOut (w : World) (n : Nat) (e : Ending) (w' : World) : Prop := ∃ v, e = .returned v /\ Row RStr 1 (fun _ => False) w w' 9 v [] /\ Roomy v 0 n
theorem zGx (n : Nat) (w : World) (hn : n * 16 <= 281474976710656) : Calls Tryz.prog 202 #[.slice none 0 0, .int .i64 (n : Int)] w (GrowOut w n) := by
 have h0 : ¬ ((n : Int) < 0) := by omega
 have hw : wrap64 (n : Int) = n := by unfold wrap64; omega
 cases hz : n with
 | zero =>
  go_enter Tryz.func202, Tryz.ntmps202
  go_wp2_with fail
  go_ret
  exact ⟨_, rfl, Row.nil _ _ _, .inl ⟨rfl, rfl⟩⟩
 | succ m =>
  rw [<- hz]
  have hp : (0 : Int) < (n : Int) := by omega
  obtain ⟨i0, hi, hz0, hz1, hz2⟩ := info_parts zE9
  have hap := fun ty => Lib.run_append_nil_zeros (P := Tryz.prog) w 31 3 ty 9 i0 _ .i64 .i64 Tryz.underlying31 Tryz.underlying3 hi hz0 n (by omega) (by rw [hz1]; decide) (by omega) (by rw [hz2]; exact hn)
  have hge := grownCap_ge w n 0 9
  have hle := grownCap_le_maxLen w n 0 9 (by unfold maxLen; omega)
  obtain ⟨gc, hgc⟩ : ∃ g, g = grownCap w n 0 9 := ⟨_, rfl⟩
  rw [<- hgc] at hge hle hap
  obtain ⟨W, hW⟩ : ∃ W, W = w.drew.alloc (.cells (Builtin.zeroCells (Value.string ⟨#[]⟩).cells n ++ Builtin.zeroCells (Value.string ⟨#[]⟩).cells (gc - n)) 9) := ⟨_, rfl⟩
  have hr : Row RStr 1 (fun _ => False) w W 9 (.slice (some ⟨w.heap.size, 0, none⟩) 0 gc) [] := by
   have hown := World.ownsRow_made (base := w.heap.size) (e := 9) (size := 1) w.drew (Builtin.zeroCells (Value.string ⟨#[]⟩).cells n ++ Builtin.zeroCells (Value.string ⟨#[]⟩).cells (gc - n)) gc (by simp) hle (by rw [Array.size_append, size_zeroCells, size_zeroCells]; simp [Value.cells]; omega)
   refine ⟨[], ⟨by rw [hW]; exact ((Below.refl _ _).drew).alloc (by simp) _, by rw [hW]; simpa using hown⟩, Chunks.nil _ _⟩
  have HF : Hid (Row RStr 1 (fun _ => False) w W 9 (.slice (some ⟨w.heap.size, 0, none⟩) 0 gc) [] /\ Roomy (.slice (some ⟨w.heap.size, 0, none⟩) 0 gc) 0 n) := ⟨hr, .inr ⟨w.heap.size, gc, rfl, hge⟩⟩
  rw [<- hW] at hap
  clear hr hgc hi hz0 hz1 hz2 hz hW
  have hn0 : ¬ ((n : Int) = 0) := by omega
  go_enter Tryz.func202, Tryz.ntmps202
  go_wp2_with (at_builtin; refine Lib.wpList_append_run _ rfl _ _ _ _ rfl _ _ rfl rfl _ _ (hap _) ?_)
  go_ret
  exact ⟨_, rfl, HF.out⟩
abbrev RSs : Rep (List ByteArray) := RSl RStr 1 16
theorem RSs.firm : Firm RSs 1 := RSl.firm RStr.firm
def CatOut (w : World) (L : List ByteArray) (e : Ending) (w' : World) : Prop := ∃ v, e = .returned v /\ Row RStr 1 (fun _ => False) w w' 9 v L
theorem zFs {LL : List (List ByteArray)} {k : Nat} (h : k < LL.length) : (LL.take (k + 1)).flatten = (LL.take k).flatten ++ LL.getD k default := by
 rw [List.take_succ_eq_append_getElem h, List.flatten_append, List.getD_eq_getElem?_getD, List.getElem?_eq_getElem h]
 simp
theorem flat_le10 (LL : List (List ByteArray)) (k : Nat) : (LL.take k).flatten.length <= LL.flatten.length := by
 have := congrArg List.length (congrArg List.flatten (List.take_append_drop k LL))
 rw [List.flatten_append, List.length_append] at this
 omega
theorem zF9 (a : Option Addr) (m cap : Nat) (A : Where) (LL : List (List ByteArray)) (w : World) (hL : Hid (SlAt RSs 1 24 A w a m cap LL)) (hb : LL.flatten.length * 16 <= 281474976710656) :
  Calls Tryz.prog 175 #[.slice a m cap] w (CatOut w LL.flatten) := by
 have hml : Hid (LL.length = m) := hL.out.1
 have hlen := hL.out.len (by decide)
 have HG := zGx LL.flatten.length w hb
 have HU : Hid (∀ u, Below w.heap.size w u -> SlAt RSs 1 24 A u a m cap LL) := fun u hb => hL.out.on RSs.firm hb
 have HT : Hid (∀ k, k < m -> (LL.take (k + 1)).flatten = (LL.take k).flatten ++ LL.getD k default /\ (LL.take (k + 1)).flatten.length <= LL.flatten.length) := fun k hk => ⟨zFs (by rw [hml.out]; exact hk), flat_le10 LL (k + 1)⟩
 have HTm : Hid (LL.take m = LL) := List.take_of_length_le (by rw [hml.out]; omega)
 obtain ⟨T, hT⟩ : ∃ T, T = LL.flatten.length := ⟨_, rfl⟩
 rw [<- hT] at hb HG HT
 clear hL
 go_enter Tryz.func175, Tryz.ntmps175
 go_wp2_with fail
 go_loopw [3, 11] (fun z i wr => ∃ k c : Nat, k <= m /\ i = .int .i64 k /\ z = .int .i64 c /\ Hid (c = (LL.take k).flatten.length) /\ wr = w) (fun _ i _ => m - (intOf i).toNat)
 case atStart => exact ⟨0, 0, Nat.zero_le _, rfl, rfl, (rfl : (0 : Nat) = (LL.take 0).flatten.length), rfl⟩
 case round =>
  obtain ⟨k, c, hk, rfl, rfl, hrun, hwr⟩ := hrel
  have hc := hrun.out
  subst hwr
  clear hrun
  by_cases hlt : k < m
  ·have hltz : (k : Int) < (m : Int) := by omega
   obtain ⟨t1, t2⟩ := HT.out k hlt
   obtain ⟨B, off, rfl, hB, hAB, xs, hr, hv⟩ := (HU.out wr (Below.refl _ _)).get hlt
   obtain ⟨b1, b2, b3, rfl, hsl⟩ := hr
   have d0 := hv 0 _ rfl
   rw [Nat.mul_one, Nat.add_zero] at d0
   have hl2 := hsl.1
   rw [t1, List.length_append, hl2, <- hc] at t2
   have hcn : ¬ ((c : Int) + (b2 : Int) < 0) := by omega
   have hwp : wrap64 ((c : Int) + (b2 : Int)) = (c : Int) + (b2 : Int) := wrap64_10 (by omega) (by omega)
   have HN : Hid (c + b2 = (LL.take (k + 1)).flatten.length) := by rw [Hid, t1, List.length_append, hl2, <- hc]
   clear hsl hv hl2 t1 t2 hc hB hAB
   go_wp2_with fail
   go_roundw
   case rel => exact ⟨k + 1, c + b2, by omega, by go_num, by simp [hwp], HN, by simp⟩
   case measure => simp [intOf]; omega
  ·have hkm : k = m := by omega
   rw [hkm, HTm.out, <- hT] at hc
   subst hc
   clear hT hkm
   have hltz : ¬ ((k : Int) < (m : Int)) := by omega
   go_wp2_with fail
   refine HG.mono ?_
   rintro e w3 ⟨v, rfl, hr3, ho3⟩
   have HI : Hid (Row RStr 1 (fun _ => False) wr w3 9 v (LL.take 0).flatten /\ Roomy v (LL.take 0).flatten.length c) := ⟨hr3, ho3⟩
   clear hr3 ho3 HG hlt hltz
   obtain ⟨w4, rfl⟩ : ∃ u, u = wr := ⟨_, rfl⟩
   go_wp2_with fail
   go_loopw [6, 27] (fun o i wr => ∃ k : Nat, k <= m /\ i = .int .i64 k /\ Hid (Row RStr 1 (fun _ => False) w4 wr 9 o (LL.take k).flatten /\ Roomy o (LL.take k).flatten.length c)) (fun _ i _ => m - (intOf i).toNat)
   case atStart => exact ⟨0, Nat.zero_le _, rfl, HI⟩
   case round =>
    obtain ⟨k, hk, rfl, hrun⟩ := hrel
    obtain ⟨hrw, hro⟩ := hrun.out
    clear hrun HI
    by_cases hlt : k < m
    ·have hltz : (k : Int) < (m : Int) := by omega
     obtain ⟨t1, t2⟩ := HT.out k hlt
     obtain ⟨B, off, rfl, hB, hAB, xs, hr, hv⟩ := (HU.out _ hrw.below).get hlt
     obtain ⟨b1, b2, b3, rfl, hsl⟩ := hr
     have d0 := hv 0 _ rfl
     rw [Nat.mul_one, Nat.add_zero] at d0
     rw [t1, List.length_append] at t2
     have HRw : Hid (Row RStr 1 (fun _ => False) w4 wr 9 u6 (LL.take k).flatten) := hrw
     have HRo : Hid (Roomy u6 (LL.take k).flatten.length c) := hro
     have HT1 : Hid ((LL.take k).flatten ++ LL.getD k default = (LL.take (k + 1)).flatten) := t1.symm
     have HSr : Hid (Src RStr 1 (fun b => False /\ u6.ownBlock ≠ some b) wr b1 b2 (LL.getD k default)) := (hsl.src RStr.firm).flat RStr.flat
     have HOb : Hid ((LL.take k).flatten.length + (LL.getD k default).length <= c) := t2
     clear hrw hro t1 t2 hsl hv hB hAB
     generalize LL.getD k default = M at HT1 HSr HOb
     generalize (LL.take k).flatten = N at HRw HRo HT1 HOb
     go_wp2_with (at_builtin; go_must (refine zCu RStr.firm (A := fun _ => False) (w0 := w4) rfl _ _ 31 9 rfl _ 16 zE9 Tryz.underlying31 u6 N c rfl HRw.out HRo.out b1 b2 b3 M rfl HSr.out HOb.out ?_); intro v7 u7 hr7 hg7 hw7 ho7)
     have HN : Hid (Row RStr 1 (fun _ => False) w4 u7 9 v7 (LL.take (k + 1)).flatten /\ Roomy v7 (LL.take (k + 1)).flatten.length c) := by rw [Hid, <- HT1.out]; exact ⟨hr7, ho7⟩
     clear hr7 hg7 hw7 ho7 HRw HRo HSr HOb HT1 d0
     go_roundw
     case rel => exact ⟨k + 1, by omega, by go_num, HN⟩
     case measure => simp [intOf]; omega
    ·have hkm : k = m := by omega
     rw [hkm, HTm.out] at hrw
     have HF : Hid (Row RStr 1 (fun _ => False) w4 wr 9 u6 LL.flatten) := hrw
     clear hrw hro hkm
     go_wp2_with fail
     go_ret
     exact ⟨_, rfl, HF.out⟩
theorem zDs (a : Option Addr) (m cap : Nat) (A : Where) (LL : List (List ByteArray)) (w : World) (hL : Hid (SlAt RSs 1 24 A w a m cap LL)) (hb : LL.flatten.length * 8 <= 140737488351232) :
  Calls Tryz.prog 127 #[.slice a m cap] w (AllOut RStr 1 (fun _ => True) 9 w (allL id LL.flatten)) := by
 have HC := zF9 a m cap A LL w hL (by omega)
 have Hb : Hid (LL.flatten.length * 8 <= 140737488351232) := hb
 clear hL hb
 generalize LL.flatten = L at HC Hb
 go_enter Tryz.func127, Tryz.ntmps127
 go_wp2_with fail
 refine HC.mono ?_
 rintro e w1 ⟨v, rfl, hr⟩
 clear HC
 obtain ⟨b1, b2, b3, rfl, sl⟩ := hr.sl10 (bytes := 8) RStr.firm Hb.out
 have HB1 : Hid (Below w.heap.size w w1) := hr.below
 have HT := zGu b1 b2 b3 _ L w1 sl
 have HS : Hid (∀ u, Below w1.heap.size w1 u -> SlAt RStr 1 8 (fun _ => True) u b1 b2 b3 L) := fun u hb => sl.on RStr.firm hb
 clear hr sl
 go_wp2_with fail
 refine HT.mono ?_
 rintro e w2 ⟨mb, rfl, hn, _, hb2⟩
 clear HT
 have HA := zH5 b1 b2 b3 _ L mb w2 (HS.out w2 hb2) hn
 have HB2 : Hid (Below w.heap.size w w2) := on2 HB1.out hb2
 clear hn hb2 HS HB1
 go_wp2_with fail
 refine HA.mono ?_
 rintro e w3 ⟨v, rfl, hr⟩
 have HF : Hid (Row RStr 1 (fun _ => True) w w3 9 v (allL id L)) := hr.from RStr.firm HB2.out (fun _ _ => trivial)
 clear HA hr HB2
 go_wp2_with fail
 go_ret
 exact ⟨_, rfl, HF.out⟩
end Go.Proofs.YtnffafjamiffnaaGreat
