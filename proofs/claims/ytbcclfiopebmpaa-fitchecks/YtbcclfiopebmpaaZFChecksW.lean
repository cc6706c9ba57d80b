/- FitChecks' walk. Condition: the arguments lie as is said of them. -/
import Derived.Test.YtbcclfiopebmpaaQ13
import Derived.Test.YtbcclfiopebmpaaQ14
import Derived.Test.YtbcclfiopebmpaaQ09
import Derived.Test.YtbcclfiopebmpaaQ08
namespace Go.Proofs.Ytbcclfiopebmpaa
open Go.RowKit
set_option linter.unusedSimpArgs false
set_option maxRecDepth 100000

def ChS (D E G : Nat) (O P I : List Value) (u : World) : Prop := BoxL u D O ∧ BoxL u E P ∧ BoxL u G I
set_option maxHeartbeats 16000000 in
theorem checks_walk (ds : List Value) (y : PodD) (cs : List Value) (x : InfoD) (w : World) (h : RPod (fun _ => True) w ds y) (h' : RInfo (fun _ => True) w cs x) : Calls Try.prog 3 #[.agg ds.toArray, .agg cs.toArray] w fun e w' => e = .returned (.bool true) ∧ Below w.heap.size w w' := by
  have hiP : (Try.prog.info? 33).map (·.size) = some ds.length := by rw [RPod.firm.len h]; exact sizePod7
  have hiI : (Try.prog.info? 38).map (·.size) = some cs.length := by rw [RInfo.firm.len h']; exact sizeInfo7
  have HP : Hid (∀ u, Below w.heap.size w u → RPod (fun _ => True) u ds y) := fun u hb => RPod.firm.kept h (Kept.below hb)
  have HI : Hid (∀ u, Below w.heap.size w u → RInfo (fun _ => True) u cs x) := fun u hb => RInfo.firm.kept h' (Kept.below hb)
  obtain ⟨W2, hW2⟩ : ∃ W2, W2 = (w.alloc (.cells ds.toArray 33)).alloc (.cells cs.toArray 38) := ⟨_, rfl⟩
  have B2 : Hid (Below w.heap.size w W2) := by rw [Hid, hW2]; go_grown
  have HX : Hid (∀ u, Below W2.heap.size W2 u → BoxL u w.heap.size ds) := fun u hb => BoxL.on (by rw [hW2]; exact (BoxL.new w 33 ds).on ((Below.refl _ _).alloc (Nat.le_refl _) _)) hb
  have HY : Hid (∀ u, Below W2.heap.size W2 u → BoxL u (w.heap.size + 1) cs) := fun u hb => BoxL.on (by have h1 := BoxL.new (w.alloc (.cells ds.toArray 33)) 38 cs; rw [hW2]; simpa using h1) hb
  have HW2 : Hid (W2 = (w.alloc (.cells ds.toArray 33)).alloc (.cells cs.toArray 38)) := hW2
  clear h h' hW2
  go_enter Try.func3, Try.ntmps3
  go_wp2_with (first | (refine wpl_w HW2.out ?_; refine wpList_load_mid rfl 33 _ rfl w.heap.size 0 rfl ds _ (HX.out _ (Below.refl _ _)).range Try.underlying33 rfl hiP ?_) | fail)
  refine (Pod_copy ds (fun _ => True) y W2 (HP.out _ B2.out)).mono ?_
  rintro e w3 ⟨os, rfl, ho, hb3⟩
  have hl : os.length = 16 := RPod.firm.len ho
  have hiO : (Try.prog.info? 33).map (·.size) = some os.length := by rw [hl]; exact sizePod7
  have hiO' : (Try.prog.info? 33).map (·.size) = some os.toArray.size := by have e : os.toArray.size = 16 := (by simp [hl]); rw [e]; exact sizePod7
  have HO : Hid (os.toArray.all (·.oneCell') = true) := all_oneCell_toArray (RPod.firm.one ho)
  have HT : Hid ((w3.alloc (.cells #[.string ⟨#[]⟩, .int .i64 0, .slice none 0 0, .int .i64 0, .int .i64 0, .int .i64 0, .slice none 0 0, .slice none 0 0, .slice none 0 0, .slice none 0 0, .slice none 0 0, .slice none 0 0, .slice none 0 0, .slice none 0 0, .string ⟨#[]⟩, .string ⟨#[]⟩] 33)).there w3.heap.size 0 os.toArray.size) := by have e : os.toArray.size = 16 := (by simp [hl]); rw [Hid, e]; exact (BoxL.new w3 33 [.string ⟨#[]⟩, .int .i64 0, .slice none 0 0, .int .i64 0, .int .i64 0, .int .i64 0, .slice none 0 0, .slice none 0 0, .slice none 0 0, .slice none 0 0, .slice none 0 0, .slice none 0 0, .slice none 0 0, .slice none 0 0, .string ⟨#[]⟩, .string ⟨#[]⟩]).there
  obtain ⟨W4, hW4⟩ : ∃ W4, W4 = (w3.alloc (.cells #[.string ⟨#[]⟩, .int .i64 0, .slice none 0 0, .int .i64 0, .int .i64 0, .int .i64 0, .slice none 0 0, .slice none 0 0, .slice none 0 0, .slice none 0 0, .slice none 0 0, .slice none 0 0, .slice none 0 0, .slice none 0 0, .string ⟨#[]⟩, .string ⟨#[]⟩] 33)).setCells w3.heap.size 0 os := ⟨_, rfl⟩
  have hX4 : BoxL W4 w3.heap.size os := by rw [hW4]; exact box_over (BoxL.new w3 33 [.string ⟨#[]⟩, .int .i64 0, .slice none 0 0, .int .i64 0, .int .i64 0, .int .i64 0, .slice none 0 0, .slice none 0 0, .slice none 0 0, .slice none 0 0, .slice none 0 0, .slice none 0 0, .slice none 0 0, .slice none 0 0, .string ⟨#[]⟩, .string ⟨#[]⟩]) (by rw [hl]; rfl)
  have B4 : Below w3.heap.size w3 W4 := by rw [hW4]; exact below_setCells ((Below.refl _ _).alloc (Nat.le_refl _) _) (Nat.le_refl _)
  have HW4 : Hid (W4 = (w3.alloc (.cells #[.string ⟨#[]⟩, .int .i64 0, .slice none 0 0, .int .i64 0, .int .i64 0, .int .i64 0, .slice none 0 0, .slice none 0 0, .slice none 0 0, .slice none 0 0, .slice none 0 0, .slice none 0 0, .slice none 0 0, .slice none 0 0, .string ⟨#[]⟩, .string ⟨#[]⟩] 33)).setCells w3.heap.size 0 os.toArray.toList) := by rw [Hid, hW4]
  have HOw : Hid (∀ u, Below W4.heap.size W4 u → RPod (fun _ => True) u os y) := fun u hb => RPod.firm.kept (RPod.firm.weak ho (fun _ _ _ => trivial)) (Kept.below (on2 B4 hb))
  have B04 : Hid (∀ u, Below W4.heap.size W4 u → Below w.heap.size w u) := fun u hb => on2 (on2 (on2 B2.out hb3) B4) hb
  have HS : Hid (∀ u, Below W4.heap.size W4 u → ChS w3.heap.size w.heap.size (w.heap.size + 1) os ds cs u) := fun u hb => ⟨hX4.on hb, HX.out u (on2 (on2 hb3 B4) hb), HY.out u (on2 (on2 hb3 B4) hb)⟩
  clear hW4 ho hb3 HX HY B2 hl HW2 B4 hX4
  go_upto_region 2 with (first | (refine wpList_store_mid rfl 33 _ _ rfl w3.heap.size 0 os.toArray rfl rfl HT.out hiO' HO.out ?_; refine wpl_w HW4.out ?_) | fail)
  clear HT HO HW4
  refine wp_region_noPanic ?_
  refine wp_region_held_drew (S := ChS w3.heap.size w.heap.size (w.heap.size + 1) os ds cs) (by kernel_rfl) (HS.out _ (Below.refl _ _).drew) (fun hHeld => ?_)
  refine tq 0 (.agg os.toArray) (yieldsIf_load_mid rfl 33 _ rfl w3.heap.size 0 rfl os _ (fun u hu => hu.1.range) Try.underlying33 rfl hiO) ?_
  try go_frame
  refine tq 1 (.agg cs.toArray) (yieldsIf_load_mid rfl 38 _ rfl (w.heap.size + 1) 0 rfl cs _ (fun u hu => hu.2.2.range) Try.underlying38 rfl hiI) ?_
  try go_frame
  refine tq 3 (.agg ds.toArray) (yieldsIf_load_mid rfl 33 _ rfl w.heap.size 0 rfl ds _ (fun u hu => hu.2.1.range) Try.underlying33 rfl hiP) ?_
  try go_frame
  refine tq 4 (.agg cs.toArray) (yieldsIf_load_mid rfl 38 _ rfl (w.heap.size + 1) 0 rfl cs _ (fun u hu => hu.2.2.range) Try.underlying38 rfl hiI) ?_
  try go_frame
  refine tr 2 (fun K hK => ?_)
  go_simp
  refine (FCheck_calls os cs (fun _ => True) y x W4.drew (HOw.out _ (Below.refl _ _).drew) (HI.out _ (B04.out _ (Below.refl _ _).drew))).mono ?_
  rintro e u5 ⟨rfl, hb5⟩
  have d5 : Below W4.heap.size W4 u5 := on2 (Below.refl _ _).drew hb5
  go_wp2_with fail
  refine hK.out _ _ (HS.out _ d5) (fun hHeld2 => ?_)
  clear hK K hHeld; have hHeld := hHeld2; clear hHeld2
  try go_frame
  refine tr 5 (fun K hK => ?_)
  go_simp
  refine (rCheck_calls7 ds cs (fun _ => True) y x u5 (HP.out _ (B04.out _ d5)) (HI.out _ (B04.out _ d5))).mono ?_
  rintro e u6 ⟨rfl, hb6⟩
  have d6 : Below W4.heap.size W4 u6 := on2 d5 hb6
  go_wp2_with fail
  refine hK.out _ _ (HS.out _ d6) (fun hHeld2 => ?_)
  clear hK K hHeld; have hHeld := hHeld2; clear hHeld2
  try go_frame
  refine' tk 6 ?_ ?_; rotate_left
  · intro u hu; clear hu; go_simp; try with_reducible rfl
  try go_frame
  refine' tk 7 ?_ ?_; rotate_left
  · intro u hu; clear hu; go_simp; try with_reducible rfl
  try go_frame
  refine tq 8 (.agg os.toArray) (yieldsIf_load_mid rfl 33 _ rfl w3.heap.size 0 rfl os _ (fun u hu => hu.1.range) Try.underlying33 rfl hiO) ?_
  try go_frame
  refine tq 9 (.agg cs.toArray) (yieldsIf_load_mid rfl 38 _ rfl (w.heap.size + 1) 0 rfl cs _ (fun u hu => hu.2.2.range) Try.underlying38 rfl hiI) ?_
  try go_frame
  refine tq 11 (.agg ds.toArray) (yieldsIf_load_mid rfl 33 _ rfl w.heap.size 0 rfl ds _ (fun u hu => hu.2.1.range) Try.underlying33 rfl hiP) ?_
  try go_frame
  refine tq 12 (.agg cs.toArray) (yieldsIf_load_mid rfl 38 _ rfl (w.heap.size + 1) 0 rfl cs _ (fun u hu => hu.2.2.range) Try.underlying38 rfl hiI) ?_
  try go_frame
  refine tr 10 (fun K hK => ?_)
  go_simp
  refine (FAll_calls os cs (fun _ => True) y x u6 (HOw.out _ d6) (HI.out _ (B04.out _ d6))).mono ?_
  rintro e u7 ⟨a7, n7, c7, rfl, s7, hb7⟩
  have d7 : Below W4.heap.size W4 u7 := on2 d6 hb7
  go_wp2_with fail
  refine hK.out _ _ (HS.out _ d7) (fun hHeld2 => ?_)
  clear hK K hHeld; have hHeld := hHeld2; clear hHeld2
  try go_frame
  refine tr 13 (fun K hK => ?_)
  go_simp
  refine (rAll_calls ds cs (fun _ => True) y x u7 (HP.out _ (B04.out _ d7)) (HI.out _ (B04.out _ d7))).mono ?_
  rintro e u8 ⟨a8, n8, c8, rfl, s8, hb8⟩
  have d8 : Below W4.heap.size W4 u8 := on2 d7 hb8
  go_wp2_with fail
  refine hK.out _ _ (HS.out _ d8) (fun hHeld2 => ?_)
  clear hK K hHeld; have hHeld := hHeld2; clear hHeld2
  try go_frame
  refine tr 14 (fun K hK => ?_)
  go_simp
  refine (SameInts_calls a7 n7 c7 _ (whyL y x) a8 n8 c8 _ (whyL y x) u8 (s7.on RInt.firm hb8) s8).mono ?_
  rintro e u9 ⟨rfl, q9, hq9⟩
  have d9 : Below W4.heap.size W4 u9 := by rw [hq9]; exact on2 d8 (below_drewN (Below.refl _ _) _)
  clear hq9
  go_wp2_with fail
  refine hK.out _ _ (HS.out _ d9) (fun hHeld2 => ?_)
  clear hK K hHeld; have hHeld := hHeld2; clear hHeld2
  try go_frame
  refine' tk 15 ?_ ?_; rotate_left
  · intro u hu; clear hu; go_simp; try with_reducible rfl
  try go_frame
  refine' tk 16 ?_ ?_; rotate_left
  · intro u hu; clear hu; go_simp; try with_reducible rfl
  try go_frame
  refine wpAnyH_done (by kernel_rfl) ?_ _
  refine NoPanic.normal ?_
  have HU : Hid (ChS w3.heap.size w.heap.size (w.heap.size + 1) os ds cs u9) := hHeld
  clear hHeld s7 s8
  go_wp2_with (first | (refine load_w7 (by rfl) 33 _ rfl w3.heap.size 0 rfl os _ HU.out.1.range Try.underlying33 rfl hiO ?_) | (refine load_w7 (by rfl) 33 _ rfl w.heap.size 0 rfl ds _ HU.out.2.1.range Try.underlying33 rfl hiP ?_) | fail)
  refine (SamePod_yes os ds (fun _ => True) (fun _ => True) y u9 (HOw.out _ d9) (HP.out _ (B04.out _ d9))).mono ?_
  rintro e u10 ⟨rfl, hb10⟩
  go_wp2_with fail
  refine (works7_calls u10).mono ?_
  rintro e u11 ⟨rfl, hb11⟩
  go_wp2_with fail
  go_ret
  exact ⟨rfl, B04.out _ (on2 (on2 d9 hb10) hb11)⟩
end Go.Proofs.Ytbcclfiopebmpaa
