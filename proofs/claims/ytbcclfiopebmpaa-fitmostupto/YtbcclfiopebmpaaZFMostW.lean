/- FitMost's walk. Condition: the arguments lie as is said of them, and hold no more than is said. -/
import Derived.Test.YtbcclfiopebmpaaQ13
import Derived.Test.YtbcclfiopebmpaaQ14
import Derived.Test.YtbcclfiopebmpaaQ15
namespace Go.Proofs.Ytbcclfiopebmpaa
open Go.RowKit
set_option linter.unusedSimpArgs false
set_option maxRecDepth 100000

set_option maxHeartbeats 16000000 in
theorem most_walk (ds : List Value) (y : PodD) (cs : List Value) (x : InfoD) (lim : Int) (w : World) (h : RPod (fun _ => True) w ds y) (hx : RInfoB (fun _ => True) w cs x) (hS : mPod y + mInfo x ≤ 1048576) : Calls Try.prog 4 #[.agg ds.toArray, .agg cs.toArray, .int .i64 lim] w fun e w' => e = .returned (.bool true) ∧ Below w.heap.size w w' := by
  have h' := hx.info.1
  have HR : Hid (x.1.2.2.2.2.2.1 ≤ 9223372036854775807) := hx.info.2
  have HB : Hid (x.2.1.length ≤ 1048576 ∧ x.2.2.2.1.length ≤ 1048576 ∧ (pPorts y).length ≤ 1048576) := ⟨(mInfo_le (c := 1048576) (by omega)).1, (mInfo_le (c := 1048576) (by omega)).2, mPod_ports (c := 1048576) (by omega)⟩
  have hiP : (Try.prog.info? 33).map (·.size) = some ds.length := by rw [RPod.firm.len h]; exact sizePod7
  have hiI : (Try.prog.info? 38).map (·.size) = some cs.length := by rw [RInfo.firm.len h']; exact sizeInfo7
  have HP : Hid (∀ u, Below w.heap.size w u → RPod (fun _ => True) u ds y) := fun u hb => RPod.firm.kept h (Kept.below hb)
  have HI : Hid (∀ u, Below w.heap.size w u → RInfo (fun _ => True) u cs x) := fun u hb => RInfo.firm.kept h' (Kept.below hb)
  obtain ⟨W2, hW2⟩ : ∃ W2, W2 = (w.alloc (.cells ds.toArray 33)).alloc (.cells cs.toArray 38) := ⟨_, rfl⟩
  have B2 : Hid (∀ u, Below W2.heap.size W2 u → Below w.heap.size w u) := fun u hb => on2 (by rw [hW2]; go_grown) hb
  have HS : Hid (∀ u, Below W2.heap.size W2 u → MoS w ds cs u) := fun u hb => ⟨BoxL.on (by rw [hW2]; exact (BoxL.new w 33 ds).on ((Below.refl _ _).alloc (Nat.le_refl _) _)) hb, BoxL.on (by have h1 := BoxL.new (w.alloc (.cells ds.toArray 33)) 38 cs; rw [hW2]; simpa using h1) hb⟩
  clear h h' hx hS
  go_enter Try.func4, Try.ntmps4
  go_wp2_with fail
  rw [← hW2]
  clear hW2
  refine wp_region_noPanic ?_
  refine wp_region_held_drew (S := MoS w ds cs) (by kernel_rfl) (HS.out _ (Below.refl _ _).drew) (fun hHeld => ?_)
  refine tq 0 (.agg ds.toArray) (yieldsIf_load_mid rfl 33 _ rfl w.heap.size 0 rfl ds _ (fun u hu => hu.1.range) Try.underlying33 rfl hiP) ?_
  try go_frame
  refine tq 1 (.agg cs.toArray) (yieldsIf_load_mid rfl 38 _ rfl (w.heap.size + 1) 0 rfl cs _ (fun u hu => hu.2.range) Try.underlying38 rfl hiI) ?_
  try go_frame
  refine' tk 2 ?_ ?_; rotate_left
  · intro u hu; clear hu; go_simp; try with_reducible rfl
  try go_frame
  refine tq 4 (.agg ds.toArray) (yieldsIf_load_mid rfl 33 _ rfl w.heap.size 0 rfl ds _ (fun u hu => hu.1.range) Try.underlying33 rfl hiP) ?_
  try go_frame
  refine tq 5 (.agg cs.toArray) (yieldsIf_load_mid rfl 38 _ rfl (w.heap.size + 1) 0 rfl cs _ (fun u hu => hu.2.range) Try.underlying38 rfl hiI) ?_
  try go_frame
  refine' tk 6 ?_ ?_; rotate_left
  · intro u hu; clear hu; go_simp; try with_reducible rfl
  try go_frame
  refine tr 3 (fun K hK => ?_)
  go_simp
  refine (FMost_calls ds cs (fun _ => True) y x lim W2.drew (HP.out _ (B2.out _ (Below.refl _ _).drew)) (HI.out _ (B2.out _ (Below.refl _ _).drew)) HR).mono ?_
  rintro e u5 ⟨rfl, hb5⟩
  have d5 : Below W2.heap.size W2 u5 := on2 (Below.refl _ _).drew hb5
  go_wp2_with fail
  refine hK.out _ _ (HS.out _ d5) (fun hHeld2 => ?_)
  clear hK K hHeld; have hHeld := hHeld2; clear hHeld2
  try go_frame
  refine tr 7 (fun K hK => ?_)
  go_simp
  refine (rMost_calls ds cs (fun _ => True) y x lim u5 (HP.out _ (B2.out _ d5)) (HI.out _ (B2.out _ d5)) HB).mono ?_
  rintro e u6 ⟨rfl, hb6⟩
  have d6 : Below W2.heap.size W2 u6 := on2 d5 hb6
  go_wp2_with fail
  refine hK.out _ _ (HS.out _ d6) (fun hHeld2 => ?_)
  clear hK K hHeld; have hHeld := hHeld2; clear hHeld2
  try go_frame
  refine' tk 8 ?_ ?_; rotate_left
  · intro u hu; clear hu; go_simp; try with_reducible rfl
  try go_frame
  refine' tk 9 ?_ ?_; rotate_left
  · intro u hu; clear hu; go_simp; try with_reducible rfl
  try go_frame
  refine tr 10 (fun K hK => ?_)
  go_simp
  refine (works7_calls u6).mono ?_
  rintro e u7 ⟨rfl, hb7⟩
  have d7 : Below W2.heap.size W2 u7 := on2 d6 hb7
  go_wp2_with fail
  refine hK.out _ _ (HS.out _ d7) (fun hHeld2 => ?_)
  clear hK K hHeld; have hHeld := hHeld2; clear hHeld2
  try go_frame
  refine' tk 11 ?_ ?_; rotate_left
  · intro u hu; clear hu; go_simp; try with_reducible rfl
  try go_frame
  refine' tk 12 ?_ ?_; rotate_left
  · intro u hu; clear hu; go_simp; try with_reducible rfl
  try go_frame
  refine wpAnyH_done (by kernel_rfl) ?_ _
  refine NoPanic.normal ?_
  go_wp2_with fail
  go_ret
  exact ⟨rfl, B2.out _ d7⟩
end Go.Proofs.Ytbcclfiopebmpaa
