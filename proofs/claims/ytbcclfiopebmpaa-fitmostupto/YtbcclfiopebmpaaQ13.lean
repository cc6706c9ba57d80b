/- The chapter's example works. No condition. fit.All answers every reason, in order. Condition: the arguments lie as is said of them. A list that begins as a piece without room: what is appended comes into room of its own. Plain facts on worlds. No condition. -/
import Derived.Test.YtbcclfiopebmpaaQ12
import Derived.Test.YtbcclfiopebmpaaQ10
import Derived.Test.YtbcclfiopebmpaaQ07
import Derived.Laws.Append
namespace Go.Proofs.Ytbcclfiopebmpaa
open Go.RowKit
set_option linter.unusedSimpArgs false
set_option maxRecDepth 100000

abbrev wPod7 : PodD := (⟨#[112]⟩, 0, [], (600, 0, 0), [], [], [], [], [], [], [], [], ⟨#[]⟩, ⟨#[]⟩)
abbrev wInfo7 (b : Bool) : InfoD := ((⟨#[110]⟩, [], [], b, (1000, 0, 0), 2, 0), [], (0, 0, 0), [], [])
theorem w7a : why1 wPod7 (wInfo7 false) = 0 := by decide
theorem w7b : mostP wPod7 (wInfo7 false) 9 = 1 := by decide
theorem w7c : why1 wPod7 (wInfo7 true) = 1 := by decide
theorem wPod7_at (A : Where) (u : World) : RPod A u [.string ⟨#[112]⟩, .int .i64 0, .slice none 0 0, .int .i64 600, .int .i64 0, .int .i64 0, .slice none 0 0, .slice none 0 0, .slice none 0 0, .slice none 0 0, .slice none 0 0, .slice none 0 0, .slice none 0 0, .slice none 0 0, .string ⟨#[]⟩, .string ⟨#[]⟩] wPod7 :=
  RPod.mk (x := wPod7) (h2 := (none, 0, 0)) (h6 := (none, 0, 0)) (h7 := (none, 0, 0)) (h8 := (none, 0, 0)) (h9 := (none, 0, 0)) (h10 := (none, 0, 0)) (h11 := (none, 0, 0)) (h12 := (none, 0, 0)) (h13 := (none, 0, 0)) (by decide) (SlAt.nil _ _ _ _ (fun _ => rfl)) (SlAt.nil _ _ _ _ (fun _ => rfl)) (SlAt.nil _ _ _ _ (fun _ => rfl)) (SlAt.nil _ _ _ _ (fun _ => rfl)) (SlAt.nil _ _ _ _ (fun _ => rfl)) (SlAt.nil _ _ _ _ (fun _ => rfl)) (SlAt.nil _ _ _ _ (fun _ => rfl)) (SlAt.nil _ _ _ _ (fun _ => rfl)) (SlAt.nil _ _ _ _ (fun _ => rfl)) (by decide) (by decide)
theorem wInfo7_at (A : Where) (u : World) (b : Bool) : RInfo A u [.string ⟨#[110]⟩, .slice none 0 0, .slice none 0 0, .bool b, .int .i64 1000, .int .i64 0, .int .i64 0, .int .i64 2, .int .i64 0, .slice none 0 0, .int .i64 0, .int .i64 0, .int .i64 0, .slice none 0 0, .slice none 0 0] (wInfo7 b) :=
  RInfo.mk (x := wInfo7 b) (h1 := (none, 0, 0)) (h2 := (none, 0, 0)) (h9 := (none, 0, 0)) (h13 := (none, 0, 0)) (h14 := (none, 0, 0)) (show (1 : Nat) ≤ 140737488355328 by decide) (SlAt.nil _ _ _ _ (fun _ => rfl)) (SlAt.nil _ _ _ _ (fun _ => rfl)) (SlAt.nil _ _ _ _ (fun _ => rfl)) (SlAt.nil _ _ _ _ (fun _ => rfl)) (SlAt.nil _ _ _ _ (fun _ => rfl))
set_option maxHeartbeats 4000000 in
theorem room7_calls (w : World) : Calls Try.prog 34 #[] w fun e w' => e = .returned (.tuple #[.agg #[.string ⟨#[110]⟩, .slice none 0 0, .slice none 0 0, .bool false, .int .i64 1000, .int .i64 0, .int .i64 0, .int .i64 2, .int .i64 0, .slice none 0 0, .int .i64 0, .int .i64 0, .int .i64 0, .slice none 0 0, .slice none 0 0], .agg #[.string ⟨#[112]⟩, .int .i64 0, .slice none 0 0, .int .i64 600, .int .i64 0, .int .i64 0, .slice none 0 0, .slice none 0 0, .slice none 0 0, .slice none 0 0, .slice none 0 0, .slice none 0 0, .slice none 0 0, .slice none 0 0, .string ⟨#[]⟩, .string ⟨#[]⟩]]) ∧ Below w.heap.size w w' := by
  have hb : Hid (Below w.heap.size w ((w.alloc (.cells #[.string ⟨#[110]⟩, .slice none 0 0, .slice none 0 0, .bool false, .int .i64 1000, .int .i64 0, .int .i64 0, .int .i64 2, .int .i64 0, .slice none 0 0, .int .i64 0, .int .i64 0, .int .i64 0, .slice none 0 0, .slice none 0 0] 38)).alloc (.cells #[.string ⟨#[112]⟩, .int .i64 0, .slice none 0 0, .int .i64 600, .int .i64 0, .int .i64 0, .slice none 0 0, .slice none 0 0, .slice none 0 0, .slice none 0 0, .slice none 0 0, .slice none 0 0, .slice none 0 0, .slice none 0 0, .string ⟨#[]⟩, .string ⟨#[]⟩] 33))) := by rw [Hid]; go_grown
  go_enter Try.func34, Try.ntmps34
  go_wp2_with fail
  refine bodyPost_ret (v := .tuple #[.agg #[.string ⟨#[110]⟩, .slice none 0 0, .slice none 0 0, .bool false, .int .i64 1000, .int .i64 0, .int .i64 0, .int .i64 2, .int .i64 0, .slice none 0 0, .int .i64 0, .int .i64 0, .int .i64 0, .slice none 0 0, .slice none 0 0], .agg #[.string ⟨#[112]⟩, .int .i64 0, .slice none 0 0, .int .i64 600, .int .i64 0, .int .i64 0, .slice none 0 0, .slice none 0 0, .slice none 0 0, .slice none 0 0, .slice none 0 0, .slice none 0 0, .slice none 0 0, .slice none 0 0, .string ⟨#[]⟩, .string ⟨#[]⟩]]) (by simp [results, Try.results34, go_sem]) rfl ⟨rfl, hb.out⟩
set_option maxHeartbeats 16000000 in
theorem works7_calls (w : World) : Calls Try.prog 13 #[] w fun e w' => e = .returned (.bool true) ∧ Below w.heap.size w w' := by
  have HK : Hid (∀ u, Calls Try.prog 7 #[.agg #[.string ⟨#[112]⟩, .int .i64 0, .slice none 0 0, .int .i64 600, .int .i64 0, .int .i64 0, .slice none 0 0, .slice none 0 0, .slice none 0 0, .slice none 0 0, .slice none 0 0, .slice none 0 0, .slice none 0 0, .slice none 0 0, .string ⟨#[]⟩, .string ⟨#[]⟩], .agg #[.string ⟨#[110]⟩, .slice none 0 0, .slice none 0 0, .bool false, .int .i64 1000, .int .i64 0, .int .i64 0, .int .i64 2, .int .i64 0, .slice none 0 0, .int .i64 0, .int .i64 0, .int .i64 0, .slice none 0 0, .slice none 0 0]] u fun e w' => e = .returned (.int .i64 0) ∧ Below u.heap.size u w') := fun u => by have h := FCheck_calls [.string ⟨#[112]⟩, .int .i64 0, .slice none 0 0, .int .i64 600, .int .i64 0, .int .i64 0, .slice none 0 0, .slice none 0 0, .slice none 0 0, .slice none 0 0, .slice none 0 0, .slice none 0 0, .slice none 0 0, .slice none 0 0, .string ⟨#[]⟩, .string ⟨#[]⟩] [.string ⟨#[110]⟩, .slice none 0 0, .slice none 0 0, .bool false, .int .i64 1000, .int .i64 0, .int .i64 0, .int .i64 2, .int .i64 0, .slice none 0 0, .int .i64 0, .int .i64 0, .int .i64 0, .slice none 0 0, .slice none 0 0] (fun _ => True) wPod7 (wInfo7 false) u (wPod7_at _ _) (wInfo7_at _ _ _); rwa [w7a] at h
  have HM : Hid (∀ u, Calls Try.prog 14 #[.agg #[.string ⟨#[112]⟩, .int .i64 0, .slice none 0 0, .int .i64 600, .int .i64 0, .int .i64 0, .slice none 0 0, .slice none 0 0, .slice none 0 0, .slice none 0 0, .slice none 0 0, .slice none 0 0, .slice none 0 0, .slice none 0 0, .string ⟨#[]⟩, .string ⟨#[]⟩], .agg #[.string ⟨#[110]⟩, .slice none 0 0, .slice none 0 0, .bool false, .int .i64 1000, .int .i64 0, .int .i64 0, .int .i64 2, .int .i64 0, .slice none 0 0, .int .i64 0, .int .i64 0, .int .i64 0, .slice none 0 0, .slice none 0 0], .int .i64 9] u fun e w' => e = .returned (.int .i64 1) ∧ Below u.heap.size u w') := fun u => by have h := FMost_calls [.string ⟨#[112]⟩, .int .i64 0, .slice none 0 0, .int .i64 600, .int .i64 0, .int .i64 0, .slice none 0 0, .slice none 0 0, .slice none 0 0, .slice none 0 0, .slice none 0 0, .slice none 0 0, .slice none 0 0, .slice none 0 0, .string ⟨#[]⟩, .string ⟨#[]⟩] [.string ⟨#[110]⟩, .slice none 0 0, .slice none 0 0, .bool false, .int .i64 1000, .int .i64 0, .int .i64 0, .int .i64 2, .int .i64 0, .slice none 0 0, .int .i64 0, .int .i64 0, .int .i64 0, .slice none 0 0, .slice none 0 0] (fun _ => True) wPod7 (wInfo7 false) 9 u (wPod7_at _ _) (wInfo7_at _ _ _) (show (2 : Int) ≤ 9223372036854775807 by decide); rwa [w7b] at h
  have HJ : Hid (∀ u, Calls Try.prog 7 #[.agg #[.string ⟨#[112]⟩, .int .i64 0, .slice none 0 0, .int .i64 600, .int .i64 0, .int .i64 0, .slice none 0 0, .slice none 0 0, .slice none 0 0, .slice none 0 0, .slice none 0 0, .slice none 0 0, .slice none 0 0, .slice none 0 0, .string ⟨#[]⟩, .string ⟨#[]⟩], .agg #[.string ⟨#[110]⟩, .slice none 0 0, .slice none 0 0, .bool true, .int .i64 1000, .int .i64 0, .int .i64 0, .int .i64 2, .int .i64 0, .slice none 0 0, .int .i64 0, .int .i64 0, .int .i64 0, .slice none 0 0, .slice none 0 0]] u fun e w' => e = .returned (.int .i64 1) ∧ Below u.heap.size u w') := fun u => by have h := FCheck_calls [.string ⟨#[112]⟩, .int .i64 0, .slice none 0 0, .int .i64 600, .int .i64 0, .int .i64 0, .slice none 0 0, .slice none 0 0, .slice none 0 0, .slice none 0 0, .slice none 0 0, .slice none 0 0, .slice none 0 0, .slice none 0 0, .string ⟨#[]⟩, .string ⟨#[]⟩] [.string ⟨#[110]⟩, .slice none 0 0, .slice none 0 0, .bool true, .int .i64 1000, .int .i64 0, .int .i64 0, .int .i64 2, .int .i64 0, .slice none 0 0, .int .i64 0, .int .i64 0, .int .i64 0, .slice none 0 0, .slice none 0 0] (fun _ => True) wPod7 (wInfo7 true) u (wPod7_at _ _) (wInfo7_at _ _ _); rwa [w7c] at h
  have hiP : (Try.prog.info? 33).map (·.size) = some ([.string ⟨#[112]⟩, .int .i64 0, .slice none 0 0, .int .i64 600, .int .i64 0, .int .i64 0, .slice none 0 0, .slice none 0 0, .slice none 0 0, .slice none 0 0, .slice none 0 0, .slice none 0 0, .slice none 0 0, .slice none 0 0, .string ⟨#[]⟩, .string ⟨#[]⟩] : List Value).length := sizePod7
  have hiI : (Try.prog.info? 38).map (·.size) = some ([.string ⟨#[110]⟩, .slice none 0 0, .slice none 0 0, .bool false, .int .i64 1000, .int .i64 0, .int .i64 0, .int .i64 2, .int .i64 0, .slice none 0 0, .int .i64 0, .int .i64 0, .int .i64 0, .slice none 0 0, .slice none 0 0] : List Value).length := sizeInfo7
  have hiJ : (Try.prog.info? 38).map (·.size) = some ([.string ⟨#[110]⟩, .slice none 0 0, .slice none 0 0, .bool true, .int .i64 1000, .int .i64 0, .int .i64 0, .int .i64 2, .int .i64 0, .slice none 0 0, .int .i64 0, .int .i64 0, .int .i64 0, .slice none 0 0, .slice none 0 0] : List Value).length := sizeInfo7
  go_enter Try.func13, Try.ntmps13
  go_wp2_with fail
  refine (room7_calls w).mono ?_
  rintro e w1 ⟨rfl, hb1⟩
  obtain ⟨W4, hW4⟩ : ∃ W4, W4 = ((w1.alloc (.cells #[.string ⟨#[110]⟩, .slice none 0 0, .slice none 0 0, .bool false, .int .i64 1000, .int .i64 0, .int .i64 0, .int .i64 2, .int .i64 0, .slice none 0 0, .int .i64 0, .int .i64 0, .int .i64 0, .slice none 0 0, .slice none 0 0] 38)).alloc (.cells #[.string ⟨#[112]⟩, .int .i64 0, .slice none 0 0, .int .i64 600, .int .i64 0, .int .i64 0, .slice none 0 0, .slice none 0 0, .slice none 0 0, .slice none 0 0, .slice none 0 0, .slice none 0 0, .slice none 0 0, .slice none 0 0, .string ⟨#[]⟩, .string ⟨#[]⟩] 33)).alloc (.cells #[.string ⟨#[110]⟩, .slice none 0 0, .slice none 0 0, .bool true, .int .i64 1000, .int .i64 0, .int .i64 0, .int .i64 2, .int .i64 0, .slice none 0 0, .int .i64 0, .int .i64 0, .int .i64 0, .slice none 0 0, .slice none 0 0] 38) := ⟨_, rfl⟩
  have HB : Hid (∀ u, Below W4.heap.size W4 u → BoxL u w1.heap.size [.string ⟨#[110]⟩, .slice none 0 0, .slice none 0 0, .bool false, .int .i64 1000, .int .i64 0, .int .i64 0, .int .i64 2, .int .i64 0, .slice none 0 0, .int .i64 0, .int .i64 0, .int .i64 0, .slice none 0 0, .slice none 0 0] ∧ BoxL u (w1.heap.size + 1) [.string ⟨#[112]⟩, .int .i64 0, .slice none 0 0, .int .i64 600, .int .i64 0, .int .i64 0, .slice none 0 0, .slice none 0 0, .slice none 0 0, .slice none 0 0, .slice none 0 0, .slice none 0 0, .slice none 0 0, .slice none 0 0, .string ⟨#[]⟩, .string ⟨#[]⟩] ∧ BoxL u (w1.heap.size + 1 + 1) [.string ⟨#[110]⟩, .slice none 0 0, .slice none 0 0, .bool true, .int .i64 1000, .int .i64 0, .int .i64 0, .int .i64 2, .int .i64 0, .slice none 0 0, .int .i64 0, .int .i64 0, .int .i64 0, .slice none 0 0, .slice none 0 0] ∧ Below w.heap.size w u) := fun u hb => by
    have h1 := ((BoxL.new w1 38 [.string ⟨#[110]⟩, .slice none 0 0, .slice none 0 0, .bool false, .int .i64 1000, .int .i64 0, .int .i64 0, .int .i64 2, .int .i64 0, .slice none 0 0, .int .i64 0, .int .i64 0, .int .i64 0, .slice none 0 0, .slice none 0 0]).on ((Below.refl _ _).alloc (Nat.le_refl _) (.cells #[.string ⟨#[112]⟩, .int .i64 0, .slice none 0 0, .int .i64 600, .int .i64 0, .int .i64 0, .slice none 0 0, .slice none 0 0, .slice none 0 0, .slice none 0 0, .slice none 0 0, .slice none 0 0, .slice none 0 0, .slice none 0 0, .string ⟨#[]⟩, .string ⟨#[]⟩] 33))).on ((Below.refl _ _).alloc (Nat.le_refl _) (.cells #[.string ⟨#[110]⟩, .slice none 0 0, .slice none 0 0, .bool true, .int .i64 1000, .int .i64 0, .int .i64 0, .int .i64 2, .int .i64 0, .slice none 0 0, .int .i64 0, .int .i64 0, .int .i64 0, .slice none 0 0, .slice none 0 0] 38))
    have h2 := (BoxL.new (w1.alloc (.cells #[.string ⟨#[110]⟩, .slice none 0 0, .slice none 0 0, .bool false, .int .i64 1000, .int .i64 0, .int .i64 0, .int .i64 2, .int .i64 0, .slice none 0 0, .int .i64 0, .int .i64 0, .int .i64 0, .slice none 0 0, .slice none 0 0] 38)) 33 [.string ⟨#[112]⟩, .int .i64 0, .slice none 0 0, .int .i64 600, .int .i64 0, .int .i64 0, .slice none 0 0, .slice none 0 0, .slice none 0 0, .slice none 0 0, .slice none 0 0, .slice none 0 0, .slice none 0 0, .slice none 0 0, .string ⟨#[]⟩, .string ⟨#[]⟩]).on ((Below.refl _ _).alloc (Nat.le_refl _) (.cells #[.string ⟨#[110]⟩, .slice none 0 0, .slice none 0 0, .bool true, .int .i64 1000, .int .i64 0, .int .i64 0, .int .i64 2, .int .i64 0, .slice none 0 0, .int .i64 0, .int .i64 0, .int .i64 0, .slice none 0 0, .slice none 0 0] 38))
    have h3 := BoxL.new ((w1.alloc (.cells #[.string ⟨#[110]⟩, .slice none 0 0, .slice none 0 0, .bool false, .int .i64 1000, .int .i64 0, .int .i64 0, .int .i64 2, .int .i64 0, .slice none 0 0, .int .i64 0, .int .i64 0, .int .i64 0, .slice none 0 0, .slice none 0 0] 38)).alloc (.cells #[.string ⟨#[112]⟩, .int .i64 0, .slice none 0 0, .int .i64 600, .int .i64 0, .int .i64 0, .slice none 0 0, .slice none 0 0, .slice none 0 0, .slice none 0 0, .slice none 0 0, .slice none 0 0, .slice none 0 0, .slice none 0 0, .string ⟨#[]⟩, .string ⟨#[]⟩] 33)) 38 [.string ⟨#[110]⟩, .slice none 0 0, .slice none 0 0, .bool true, .int .i64 1000, .int .i64 0, .int .i64 0, .int .i64 2, .int .i64 0, .slice none 0 0, .int .i64 0, .int .i64 0, .int .i64 0, .slice none 0 0, .slice none 0 0]
    have h4 : Below w1.heap.size w1 W4 := by rw [hW4]; go_grown
    rw [← hW4] at h1 h2 h3
    refine ⟨h1.on hb, ?_, ?_, on2 hb1 (on2 h4 hb)⟩
    · have := h2.on hb; simpa using this
    · have := h3.on hb; simpa using this
  have HW4 : Hid (W4 = ((w1.alloc (.cells #[.string ⟨#[110]⟩, .slice none 0 0, .slice none 0 0, .bool false, .int .i64 1000, .int .i64 0, .int .i64 0, .int .i64 2, .int .i64 0, .slice none 0 0, .int .i64 0, .int .i64 0, .int .i64 0, .slice none 0 0, .slice none 0 0] 38)).alloc (.cells #[.string ⟨#[112]⟩, .int .i64 0, .slice none 0 0, .int .i64 600, .int .i64 0, .int .i64 0, .slice none 0 0, .slice none 0 0, .slice none 0 0, .slice none 0 0, .slice none 0 0, .slice none 0 0, .slice none 0 0, .slice none 0 0, .string ⟨#[]⟩, .string ⟨#[]⟩] 33)).alloc (.cells #[.string ⟨#[110]⟩, .slice none 0 0, .slice none 0 0, .bool true, .int .i64 1000, .int .i64 0, .int .i64 0, .int .i64 2, .int .i64 0, .slice none 0 0, .int .i64 0, .int .i64 0, .int .i64 0, .slice none 0 0, .slice none 0 0] 38)) := hW4
  clear hW4 hb1
  go_upto_region 4 with fail
  rw [← HW4.out]
  clear HW4
  have Ha := HB.out W4 (Below.refl _ _)
  go_wp2_with (first | (refine wpList_load_mid rfl 33 _ rfl (w1.heap.size + 1) 0 rfl [.string ⟨#[112]⟩, .int .i64 0, .slice none 0 0, .int .i64 600, .int .i64 0, .int .i64 0, .slice none 0 0, .slice none 0 0, .slice none 0 0, .slice none 0 0, .slice none 0 0, .slice none 0 0, .slice none 0 0, .slice none 0 0, .string ⟨#[]⟩, .string ⟨#[]⟩] _ Ha.2.1.range Try.underlying33 rfl hiP ?_) | (refine wpList_load_mid rfl 38 _ rfl w1.heap.size 0 rfl [.string ⟨#[110]⟩, .slice none 0 0, .slice none 0 0, .bool false, .int .i64 1000, .int .i64 0, .int .i64 0, .int .i64 2, .int .i64 0, .slice none 0 0, .int .i64 0, .int .i64 0, .int .i64 0, .slice none 0 0, .slice none 0 0] _ Ha.1.range Try.underlying38 rfl hiI ?_) | fail)
  refine (HK.out W4).mono ?_
  rintro e w5 ⟨rfl, hb5⟩
  have Hb := HB.out w5 hb5
  clear Ha
  go_wp2_with (first | (refine load_w7 (by rfl) 33 _ rfl (w1.heap.size + 1) 0 rfl [.string ⟨#[112]⟩, .int .i64 0, .slice none 0 0, .int .i64 600, .int .i64 0, .int .i64 0, .slice none 0 0, .slice none 0 0, .slice none 0 0, .slice none 0 0, .slice none 0 0, .slice none 0 0, .slice none 0 0, .slice none 0 0, .string ⟨#[]⟩, .string ⟨#[]⟩] _ Hb.2.1.range Try.underlying33 rfl hiP ?_) | (refine load_w7 (by rfl) 38 _ rfl w1.heap.size 0 rfl [.string ⟨#[110]⟩, .slice none 0 0, .slice none 0 0, .bool false, .int .i64 1000, .int .i64 0, .int .i64 0, .int .i64 2, .int .i64 0, .slice none 0 0, .int .i64 0, .int .i64 0, .int .i64 0, .slice none 0 0, .slice none 0 0] _ Hb.1.range Try.underlying38 rfl hiI ?_) | fail)
  refine (HM.out w5).mono ?_
  rintro e w6 ⟨rfl, hb6⟩
  have Hc := HB.out w6 (on2 hb5 hb6)
  clear Hb
  go_wp2_with (first | (refine load_w7 (by rfl) 33 _ rfl (w1.heap.size + 1) 0 rfl [.string ⟨#[112]⟩, .int .i64 0, .slice none 0 0, .int .i64 600, .int .i64 0, .int .i64 0, .slice none 0 0, .slice none 0 0, .slice none 0 0, .slice none 0 0, .slice none 0 0, .slice none 0 0, .slice none 0 0, .slice none 0 0, .string ⟨#[]⟩, .string ⟨#[]⟩] _ Hc.2.1.range Try.underlying33 rfl hiP ?_) | (refine load_w7 (by rfl) 38 _ rfl (w1.heap.size + 1 + 1) 0 rfl [.string ⟨#[110]⟩, .slice none 0 0, .slice none 0 0, .bool true, .int .i64 1000, .int .i64 0, .int .i64 0, .int .i64 2, .int .i64 0, .slice none 0 0, .int .i64 0, .int .i64 0, .int .i64 0, .slice none 0 0, .slice none 0 0] _ Hc.2.2.1.range Try.underlying38 rfl hiJ ?_) | fail)
  refine (HJ.out w6).mono ?_
  rintro e w7 ⟨rfl, hb7⟩
  have hbf := (HB.out w7 (on2 (on2 hb5 hb6) hb7)).2.2.2
  clear Hc
  go_wp2_with fail
  go_ret
  exact ⟨rfl, hbf⟩
end Go.Proofs.Ytbcclfiopebmpaa
namespace Go.Proofs.Ytbcclfiopebmpaa
open Go.RowKit
set_option linter.unusedSimpArgs false
set_option maxRecDepth 100000

theorem yes_append (l m : List (Int × Bool)) : yes (l ++ m) = yes l ++ yes m := by simp [yes]
theorem why_get {y : PodD} {x : InfoD} {k : Nat} (hk : k < 8) : (whyR y x)[k]? = some (((k + 1 : Nat) : Int), reaB y x k) := by
  obtain rfl | rfl | rfl | rfl | rfl | rfl | rfl | rfl : k = 0 ∨ k = 1 ∨ k = 2 ∨ k = 3 ∨ k = 4 ∨ k = 5 ∨ k = 6 ∨ k = 7 := by omega
  all_goals rfl
theorem yes_take {y : PodD} {x : InfoD} {k : Nat} (hk : k < 8) : yes ((whyR y x).take (k + 1)) = yes ((whyR y x).take k) ++ (if reaB y x k = true then [((k + 1 : Nat) : Int)] else []) := by
  rw [List.take_add_one, why_get hk, yes_append]
  congr 1
  simp only [yes, Option.toList_some, List.filter_cons, List.filter_nil]
  split <;> rfl
theorem yes_len {y : PodD} {x : InfoD} (k : Nat) : (yes ((whyR y x).take k)).length ≤ 8 := by
  unfold yes
  rw [List.length_map]
  have h1 := List.length_filter_le (fun q : Int × Bool => q.2) ((whyR y x).take k)
  have h2 := List.length_take_le k (whyR y x)
  have h3 : (whyR y x).length = 8 := rfl
  have h4 := List.length_take_le' k (whyR y x)
  omega
set_option maxHeartbeats 8000000 in
theorem FAll_calls (ds cs : List Value) (A : Where) (y : PodD) (x : InfoD) (w : World) (h : Hid (RPod A w ds y)) (h' : Hid (RInfo A w cs x)) : Calls Try.prog 10 #[.agg ds.toArray, .agg cs.toArray] w fun e w' => ∃ a n cap, e = .returned (.slice a n cap) ∧ SlAt RInt 1 8 (Fresh w) w' a n cap (whyL y x) ∧ Below w.heap.size w w' := by
  have hiP : (Try.prog.info? 33).map (·.size) = some ds.length := by rw [RPod.firm.len h.out]; exact sizePod7
  have hiI : (Try.prog.info? 38).map (·.size) = some cs.length := by rw [RInfo.firm.len h'.out]; exact sizeInfo7
  obtain ⟨W2, hW2⟩ : ∃ W2, W2 = (w.alloc (.cells ds.toArray 33)).alloc (.cells cs.toArray 38) := ⟨_, rfl⟩
  have B2 : Hid (Below w.heap.size w W2) := by rw [Hid, hW2]; go_grown
  have HX : Hid (BoxL W2 w.heap.size ds) := by rw [hW2]; exact (BoxL.new w 33 ds).on ((Below.refl _ _).alloc (Nat.le_refl _) _)
  have HY : Hid (BoxL W2 (w.heap.size + 1) cs) := by have h1 := BoxL.new (w.alloc (.cells ds.toArray 33)) 38 cs; rw [Hid, hW2]; simpa using h1
  have hV := visitOf_calls ds cs A y x W2 (RPod.firm.kept h.out (Kept.below B2.out)) (RInfo.firm.kept h'.out (Kept.below B2.out))
  have HW2 : Hid (W2 = (w.alloc (.cells ds.toArray 33)).alloc (.cells cs.toArray 38)) := hW2
  clear h h' hW2
  go_enter Try.func10, Try.ntmps10
  go_wp2_with (first | (refine wpl_w HW2.out ?_; refine wpList_load_mid rfl 33 _ rfl w.heap.size 0 rfl ds _ HX.out.range Try.underlying33 rfl hiP ?_) | (refine wpList_load_mid rfl 38 _ rfl (w.heap.size + 1) 0 rfl cs _ HY.out.range Try.underlying38 rfl hiI ?_) | fail)
  clear HW2
  refine hV.mono ?_
  clear hV
  rintro e w3 ⟨vs, rfl, hv, hb3⟩
  have hl : vs.length = 37 := RVisit.firm.len hv
  have hiV : (Try.prog.info? 61).map (·.size) = some vs.toArray.size := by have e : vs.toArray.size = 37 := (by simp [hl]); rw [e]; exact sizeVisit
  have hiV' : (Try.prog.info? 61).map (·.size) = some vs.length := by rw [hl]; exact sizeVisit
  have HO : Hid (vs.toArray.all (·.oneCell') = true) := all_oneCell_toArray (RVisit.firm.one hv)
  have HT : Hid ((w3.alloc (.cells #[.string ⟨#[]⟩, .int .i64 0, .slice none 0 0, .int .i64 0, .int .i64 0, .int .i64 0, .slice none 0 0, .slice none 0 0, .slice none 0 0, .slice none 0 0, .slice none 0 0, .slice none 0 0, .slice none 0 0, .slice none 0 0, .string ⟨#[]⟩, .string ⟨#[]⟩, .string ⟨#[]⟩, .slice none 0 0, .slice none 0 0, .bool false, .int .i64 0, .int .i64 0, .int .i64 0, .int .i64 0, .int .i64 0, .slice none 0 0, .int .i64 0, .int .i64 0, .int .i64 0, .slice none 0 0, .slice none 0 0, .int .i64 0, .int .i64 0, .int .i64 0, .int .i64 0, .int .i64 0, .int .i64 0] 61)).there w3.heap.size 0 vs.toArray.size) := by have e : vs.toArray.size = 37 := (by simp [hl]); rw [Hid, e]; exact (BoxL.new w3 61 [.string ⟨#[]⟩, .int .i64 0, .slice none 0 0, .int .i64 0, .int .i64 0, .int .i64 0, .slice none 0 0, .slice none 0 0, .slice none 0 0, .slice none 0 0, .slice none 0 0, .slice none 0 0, .slice none 0 0, .slice none 0 0, .string ⟨#[]⟩, .string ⟨#[]⟩, .string ⟨#[]⟩, .slice none 0 0, .slice none 0 0, .bool false, .int .i64 0, .int .i64 0, .int .i64 0, .int .i64 0, .int .i64 0, .slice none 0 0, .int .i64 0, .int .i64 0, .int .i64 0, .slice none 0 0, .slice none 0 0, .int .i64 0, .int .i64 0, .int .i64 0, .int .i64 0, .int .i64 0, .int .i64 0]).there
  obtain ⟨W4, hW4⟩ : ∃ W4, W4 = (w3.alloc (.cells #[.string ⟨#[]⟩, .int .i64 0, .slice none 0 0, .int .i64 0, .int .i64 0, .int .i64 0, .slice none 0 0, .slice none 0 0, .slice none 0 0, .slice none 0 0, .slice none 0 0, .slice none 0 0, .slice none 0 0, .slice none 0 0, .string ⟨#[]⟩, .string ⟨#[]⟩, .string ⟨#[]⟩, .slice none 0 0, .slice none 0 0, .bool false, .int .i64 0, .int .i64 0, .int .i64 0, .int .i64 0, .int .i64 0, .slice none 0 0, .int .i64 0, .int .i64 0, .int .i64 0, .slice none 0 0, .slice none 0 0, .int .i64 0, .int .i64 0, .int .i64 0, .int .i64 0, .int .i64 0, .int .i64 0] 61)).setCells w3.heap.size 0 vs := ⟨_, rfl⟩
  have HX4 : Hid (BoxL W4 w3.heap.size vs) := by rw [hW4]; exact box_over (BoxL.new w3 61 [.string ⟨#[]⟩, .int .i64 0, .slice none 0 0, .int .i64 0, .int .i64 0, .int .i64 0, .slice none 0 0, .slice none 0 0, .slice none 0 0, .slice none 0 0, .slice none 0 0, .slice none 0 0, .slice none 0 0, .slice none 0 0, .string ⟨#[]⟩, .string ⟨#[]⟩, .string ⟨#[]⟩, .slice none 0 0, .slice none 0 0, .bool false, .int .i64 0, .int .i64 0, .int .i64 0, .int .i64 0, .int .i64 0, .slice none 0 0, .int .i64 0, .int .i64 0, .int .i64 0, .slice none 0 0, .slice none 0 0, .int .i64 0, .int .i64 0, .int .i64 0, .int .i64 0, .int .i64 0, .int .i64 0]) (by rw [hl]; rfl)
  have B4 : Hid (Below w3.heap.size w3 W4) := by rw [Hid, hW4]; exact below_setCells ((Below.refl _ _).alloc (Nat.le_refl _) _) (Nat.le_refl _)
  have HW4 : Hid (W4 = (w3.alloc (.cells #[.string ⟨#[]⟩, .int .i64 0, .slice none 0 0, .int .i64 0, .int .i64 0, .int .i64 0, .slice none 0 0, .slice none 0 0, .slice none 0 0, .slice none 0 0, .slice none 0 0, .slice none 0 0, .slice none 0 0, .slice none 0 0, .string ⟨#[]⟩, .string ⟨#[]⟩, .string ⟨#[]⟩, .slice none 0 0, .slice none 0 0, .bool false, .int .i64 0, .int .i64 0, .int .i64 0, .int .i64 0, .int .i64 0, .slice none 0 0, .int .i64 0, .int .i64 0, .int .i64 0, .slice none 0 0, .slice none 0 0, .int .i64 0, .int .i64 0, .int .i64 0, .int .i64 0, .int .i64 0, .int .i64 0] 61)).setCells w3.heap.size 0 vs.toArray.toList) := by rw [Hid, hW4]
  have HV4 : Hid (∀ u, Below W4.heap.size W4 u → RVisit A u vs (y, x, wantP y, freeP x)) := fun u hb => RVisit.firm.kept hv (Kept.below (on2 B4.out hb))
  have B04 : Hid (Below w.heap.size w W4) := on2 (on2 B2.out hb3) B4.out
  clear hW4 hv hb3 HX HY B2 hl
  go_wp2_with (first | (refine wpList_store_mid rfl 61 _ _ rfl w3.heap.size 0 vs.toArray rfl rfl HT.out hiV HO.out ?_; refine wpl_w HW4.out ?_) | fail)
  refine (reasons_calls W4).mono ?_
  rintro e w5 ⟨rfl, hR, hb5⟩
  have B5 : Hid (Below W4.heap.size W4 w5) := hb5
  have HR : Hid (BoxL w5 W4.heap.size reaC) := hR
  clear hR hb5 HW4 HO HT
  go_wp2_with fail
  go_loopw [6, 14] (fun o i wr => ∃ k : Nat, k ≤ 8 ∧ i = .int .i64 k ∧ Hid (Row RInt 1 (fun _ => False) w5 wr 3 o (yes ((whyR y x).take k)))) (fun _ i _ => 8 - (intOf i).toNat)
  case atStart => exact ⟨0, Nat.zero_le _, rfl, Row.nil _ _ _⟩
  case round =>
    obtain ⟨k, hk, rfl, hrow⟩ := hrel
    have hbel : Below w5.heap.size w5 wr := hrow.out.below
    by_cases hlt : k < 8
    ·
      obtain ⟨g, hg⟩ := reason_at hlt
      obtain ⟨hq0, hq1, hge, hgc⟩ := hg
      have hbw : Below W4.heap.size W4 wr := on2 B5.out hbel
      have HC : Hid (∀ u, Below wr.heap.size wr u → Calls Try.prog g #[.agg vs.toArray] u fun e w' => e = .returned (.bool (reaB y x k)) ∧ Below u.heap.size u w') := fun u hb => hgc vs A y x u (HV4.out u (on2 hbw hb))
      have c0 := ((HR.out.on hbel).2 _ _ hq0).1
      have c1 := ((HR.out.on hbel).2 _ _ hq1).1
      clear hgc hq0 hq1
      have hbx : Hid (∀ u, Below wr.heap.size wr u → BoxL u w3.heap.size vs) := fun u hb => (HX4.out.on hbw).on hb
      have hne : Hid (W4.heap.size < wr.heap.size) := Nat.lt_of_lt_of_le HR.out.1 hbel.size
      have HRo : Hid (∀ u, Below wr.heap.size wr u → Row RInt 1 (fun _ => False) w5 u 3 u6 (yes ((whyR y x).take k))) := fun u hb => hrow.out.on RInt.firm hb
      have hyl := yes_len (y := y) (x := x) k
      have HY := yes_take (y := y) (x := x) hlt
      cases hm : reaB y x k
      · rw [hm, if_neg (by decide), List.append_nil] at HY
        have HY' : Hid (yes ((whyR y x).take (k + 1)) = yes ((whyR y x).take k)) := HY
        rw [hm] at HC
        clear hm HY hyl hrow
        go_wp2_with (first | (refine wpList_load_mid rfl 61 _ rfl w3.heap.size 0 rfl vs _ (hbx.out _ (by go_grown)).range Try.underlying61 rfl hiV' ?_) | fail)
        refine (HC.out _ (by go_grown)).mono ?_
        rintro e w6 ⟨rfl, hb6⟩
        have hb' : Below wr.heap.size wr w6 := on2 (by go_grown) hb6
        clear HC c0 c1 hb6 hbel hbx
        go_wp2_with fail
        go_roundw
        case rel => exact ⟨k + 1, by omega, by go_num, by rw [HY'.out]; exact HRo.out _ hb'⟩
        case measure => simp [intOf]; omega
      · rw [hm, if_pos rfl] at HY
        have HY' : Hid (yes ((whyR y x).take (k + 1)) = yes ((whyR y x).take k) ++ [((k + 1 : Nat) : Int)]) := HY
        rw [hm] at HC
        clear hm HY hrow
        have q0 : BoxL (wr.alloc (.cells #[.int .i64 ((k + 1 : Nat) : Int), .func (.func g) #[] #[]] 67)) wr.heap.size [.int .i64 ((k + 1 : Nat) : Int), .func (.func g) #[] #[]] := BoxL.new wr 67 _
        generalize hkk : ((k + 1 : Nat) : Int) = kk at c0 q0 HY'
        go_wp2_with (first | (refine wpList_load_mid rfl 61 _ rfl w3.heap.size 0 rfl vs _ (hbx.out _ (by go_grown)).range Try.underlying61 rfl hiV' ?_) | fail)
        refine (HC.out _ (by go_grown)).mono ?_
        rintro e w6 ⟨rfl, hb6⟩
        have hb' : Below wr.heap.size wr w6 := on2 (by go_grown) hb6
        have z0 := ((q0.on hb6).2 0 _ rfl).1
        have HB' : Hid (∀ u, Below w6.heap.size w6 u → Below wr.heap.size wr u) := fun u hb => on2 hb' hb
        clear HC c0 c1 hb6 hbel hbx q0 hb'
        go_wp2_with (at_builtin; go_must (refine row_append RInt.firm (A := (fun _ => False)) (w0 := w5) rfl _ _ 28 3 rfl _ 8 infoint Try.underlying28 rfl (by decide) (by decide) _ _ rfl (HRo.out _ (HB'.out _ (by go_grown))) ⟨w6.heap.size, 0, none⟩ 1 1 [.int .i64 kk] [kk] rfl rfl (chunk_one RInt.firm rfl) (one_cells w6 [.int .i64 kk] 3) (by simp [Value.oneCell']) (by simp only [List.length_cons, List.length_nil]; omega) ?_); intro v1 w1 hrow1 hg1)
        have HRow1 : Hid (Row RInt 1 (fun _ => False) w5 w1 3 v1 (yes ((whyR y x).take k) ++ [kk])) := hrow1
        clear hrow1
        go_wp2_with fail
        go_roundw
        case rel => exact ⟨k + 1, by omega, by go_num, by rw [HY'.out]; exact HRow1.out⟩
        case measure => simp [intOf]; omega
    · obtain rfl : k = 8 := by omega
      have hbf : Below w.heap.size w wr := on2 (on2 B04.out B5.out) hbel
      have hlen := yes_len (y := y) (x := x) 8
      have hr8 : Row RInt 1 (fun _ => False) w5 wr 3 u6 (whyL y x) := hrow.out
      obtain ⟨a, cap, e6, s6⟩ := hr8.sl (bytes := 8) RInt.firm (by have : (whyL y x).length ≤ 8 := hlen; omega)
      subst e6
      have S6 : Hid (SlAt RInt 1 8 (Fresh w) wr a (whyL y x).length cap (whyL y x)) := s6.weak RInt.firm (fun b _ hb => by
        rcases hb with hb | hb
        · exact hb.elim
        · exact Nat.le_trans (on2 B04.out B5.out).size hb)
      clear hr8 s6 hrow hlen
      generalize hwl : (whyL y x).length = ln at S6
      go_wp2_with fail
      go_ret
      exact ⟨a, ln, cap, rfl, S6.out, hbf⟩
end Go.Proofs.Ytbcclfiopebmpaa
namespace Go.Proofs.Ytbcclfiopebmpaa
open Go.RowKit Go.Lib
set_option linter.unusedSimpArgs false

section
variable {α : Type} [Inhabited α] {R : Rep α} {k : Nat}
/-- Nothing, in a piece without room; or a row of one's own. -/
def OutR (R : Rep α) (k : Nat) (w0 u : World) (e : TypeId) (v : Value) (L : List α) : Prop :=
  (L = [] ∧ (∃ b, v = .slice b 0 0) ∧ Below w0.heap.size w0 u) ∨ Row R k (fun _ => False) w0 u e v L
theorem OutR.below {w0 u : World} {e : TypeId} {v : Value} {L : List α} (h : OutR R k w0 u e v L) : Below w0.heap.size w0 u := by
  rcases h with ⟨_, _, h⟩ | h
  · exact h
  · exact h.below
theorem OutR.nil (w : World) (e : TypeId) (b : Option Addr) : OutR R k w w e (.slice b 0 0) ([] : List α) := .inl ⟨rfl, ⟨b, rfl⟩, Below.refl _ _⟩
theorem app_out_wp (hR : Firm R k) (hF : Flat R) {o : Oper} {a : Act} {K : Act → World → Prop} {Q : Exit → Act → World → Prop} {A : Where} {w0 u : World} (s x : Operand) (t e : TypeId)
    (ho : o.op = .call { callee := .builtin .append, args := #[s, x], argTypes := #[t, t] }) (z : Value) (bytes : Nat) (hinfo : (Try.prog.info? e).map (fun i => (i.zero, i.size, i.bytes)) = some (some z, k, bytes)) (ht : Try.prog.underlying t = some (.slice e)) (hzs : z.cells.size = k) (hk0 : 0 < k) (hby : 1 ≤ bytes)
    (v : Value) (L : List α) (hs : a.eval s = v) (hrow : OutR R k w0 u e v L)
    (ad : Option Addr) (m c : Nat) (N : List α) (hx : a.eval x = .slice ad m c) (hN : Src R k A u ad m N) (hb : (L.length + N.length) * bytes ≤ 140737488355328)
    (h : ∀ v' u', OutR R k w0 u' e v' (L ++ N) → K (a.put o.dst v') u') : o.wp Try.prog a u K Q := by
  rcases hrow with ⟨rfl, ⟨b, rfl⟩, hbel⟩ | hrow
  · obtain ⟨hm, hN⟩ := hN
    obtain ⟨i0, hi, hz0, hz1, hz2⟩ := info_parts hinfo
    by_cases hN0 : N = []
    · subst hN0
      obtain rfl : m = 0 := by simpa using hm.symm
      have hr : ∀ ty, (Builtin.append_ #[t, t] ty #[.slice b 0 0, .slice ad 0 c]).run Try.prog u = .ok (.slice b 0 0) u := by
        intro ty
        cases ad <;> cases b <;> simp [Builtin.append_, run_underlying ht, sizeOf, typeInfo, hi, Builtin.lenOf, Builtin.firstCells, loadCells, loadCellsFrom, storeCells]
      unfold Oper.wp execOp
      simp only [ho, resolve, invoke, builtin, Sem.run_bind, Sem.run_pure, Result.andThen_ok, List.map_toArray, List.map_cons, List.map_nil, hs, hx, hr]
      exact h _ _ (.inl ⟨rfl, ⟨b, rfl⟩, hbel⟩)
    · rcases hN with ⟨_, e0⟩ | ⟨ad, news, rfl, hN, hcells, h1⟩
      · exact absurd e0 hN0
      · subst hm
        have hpos : 0 < N.length := List.length_pos_iff.2 hN0
        have hmul : N.length * 1 ≤ N.length * bytes := Nat.mul_le_mul_left _ hby
        simp only [List.length_nil, Nat.zero_add] at hb
        obtain ⟨v', u', hr, h2, h3, h4, h5⟩ := run_append_own_at (P := Try.prog) u w0.heap.size t o.type e i0 z k bytes ht hi hz0 hz1 hz2 hzs hk0 (.slice none 0 0) 0 [] ⟨by simp, .inl ⟨rfl, rfl⟩⟩ ad N.length c news hN.1 hcells h1 (by unfold maxLen; omega) (by simpa using hb) hbel.size
        have hr2 : (Builtin.append_ #[t, t] o.type #[.slice b 0 0, .slice (some ad) N.length c]).run Try.prog u = .ok v' u' := by
          cases b with
          | none => exact hr
          | some bd =>
            have e1 := run_append_nil (P := Try.prog) u t o.type e i0 z ht hi hz0 ad N.length c news (by rw [hz1]; exact hN.1) hcells (by omega) (by omega) (by rw [hz2]; omega)
            have e2 := run_append_grow (P := Try.prog) u t o.type e i0 z ht hi hz0 bd 0 0 [] (by simp) (by simp) ad N.length c news (by rw [hz1]; exact hN.1) hcells (by omega) (by omega) (growslice_fits (by omega) (by rw [hz2]; simpa using hb))
            rw [← hr, e1, e2]
            simp
        unfold Oper.wp execOp
        simp only [ho, resolve, invoke, builtin, Sem.run_bind, Sem.run_pure, Result.andThen_ok, List.map_toArray, List.map_cons, List.map_nil, hs, hx, hr2]
        refine h v' u' (.inr ⟨news, ⟨Below.grown hbel h3 hbel.size (fun j hj => by cases hj), by simpa using h2⟩, ?_⟩)
        exact hN.flat hF
  · refine row_appendP_wp hR (A := fun _ => False) (w0 := w0) s x t e ho z bytes hinfo ht hzs hk0 hby v L hs hrow ad m c N hx (hN.flat hF) hb (fun v' u' h1 _ _ => h v' u' (.inr h1))
theorem app_out (hR : Firm R k) (hF : Flat R) {ops : Array Oper} {rest : List Oper} {o : Oper} {a : Act} {Q : Exit → Act → World → Prop} {A : Where} {w0 u : World} (hgd : Region.wanted o (yielded ops a.tmps) = true) (s x : Operand) (t e : TypeId)
    (ho : o.op = .call { callee := .builtin .append, args := #[s, x], argTypes := #[t, t] }) (z : Value) (bytes : Nat) (hinfo : (Try.prog.info? e).map (fun i => (i.zero, i.size, i.bytes)) = some (some z, k, bytes)) (ht : Try.prog.underlying t = some (.slice e)) (hzs : z.cells.size = k) (hk0 : 0 < k) (hby : 1 ≤ bytes)
    (v : Value) (L : List α) (hs : a.eval s = v) (hrow : OutR R k w0 u e v L)
    (ad : Option Addr) (m c : Nat) (N : List α) (hx : a.eval x = .slice ad m c) (hN : Src R k A u ad m N) (hb : (L.length + N.length) * bytes ≤ 140737488355328)
    (h : ∀ v' u', OutR R k w0 u' e v' (L ++ N) → wpList Try.prog ops Q rest (a.put o.dst v') u') : wpList Try.prog ops Q (o :: rest) a u :=
  BigFrame.wpList_want hgd (fun _ hK => app_out_wp hR hF s x t e ho z bytes hinfo ht hzs hk0 hby v L hs hrow ad m c N hx hN hb (fun v' u' h2 => hK _ _ (h v' u' h2)))
theorem OutR.empty {w0 u : World} {e : TypeId} {v : Value} (h : OutR R k w0 u e v ([] : List α)) : ∃ b c, v = .slice b 0 c ∧ (b = none → c = 0) := by
  rcases h with ⟨_, ⟨b, rfl⟩, _⟩ | ⟨xs, h1, _⟩
  · exact ⟨b, 0, rfl, fun _ => rfl⟩
  · rcases h1.2.2 with ⟨rfl, _⟩ | ⟨g, cap, cur, rfl, _⟩
    · exact ⟨none, 0, rfl, fun _ => rfl⟩
    · exact ⟨_, _, rfl, fun h => by cases h⟩
end
end Go.Proofs.Ytbcclfiopebmpaa
