/- The chapter's example works. No condition. fit.All answers every reason, in order. Condition: the arguments lie as is said of them. The first one of each name; what the document makes of pods is what is made of these. Plain. No condition. What of pods is gathered one by one. Plain. No condition. A set of texts that a call makes and keeps to itself, beside a row of its own. Plain facts on worlds. No condition. info.podName and info.firsts at pods: the first one of each name, in order. Condition: the slice lies as is said of it. -/
import Derived.Test.YtbcclfiopebmpaaGreatQ08
import Derived.Test.YtbcclfiopebmpaaGreatQ06
import Derived.Test.YtbcclfiopebmpaaGreatQ05
import Derived.Maps.OwnSet
namespace Go.Proofs.YtbcclfiopebmpaaGreat
open Go.RowKit
set_option linter.unusedSimpArgs false
set_option maxRecDepth 100000

abbrev wPod7 : PodD := (⟨#[112]⟩, 0, [], (600, 0, 0), [], [], [], [], [], [], [], [], ⟨#[]⟩, ⟨#[]⟩)
abbrev wInfo7 (b : Bool) : InfoD := ((⟨#[110]⟩, [], [], b, (1000, 0, 0), 2, 0), [], (0, 0, 0), [], [])
theorem w7a : why1 wPod7 (wInfo7 false) = 0 := by decide
theorem w7b : mostP wPod7 (wInfo7 false) 9 = 1 := by decide
theorem w7c : why1 wPod7 (wInfo7 true) = 1 := by decide
theorem wPod7_at (A : Where) (u : World) : RPod A u [.string ⟨#[112]⟩, .int .i64 0, .slice none 0 0, .int .i64 600, .int .i64 0, .int .i64 0, .slice none 0 0, .slice none 0 0, .slice none 0 0, .slice none 0 0, .slice none 0 0, .slice none 0 0, .slice none 0 0, .slice none 0 0, .string ⟨#[]⟩, .string ⟨#[]⟩] wPod7 :=
  RPod.mk (x := wPod7) (h2 := (none, 0, 0)) (h6 := (none, 0, 0)) (h7 := (none, 0, 0)) (h8 := (none, 0, 0)) (h9 := (none, 0, 0)) (h10 := (none, 0, 0)) (h11 := (none, 0, 0)) (h12 := (none, 0, 0)) (h13 := (none, 0, 0)) (by decide) (SlAt.nil _ _ _ _ (fun _ => rfl)) (SlAt.nil _ _ _ _ (fun _ => rfl)) (SlAt.nil _ _ _ _ (fun _ => rfl)) (SlAt.nil _ _ _ _ (fun _ => rfl)) (SlAt.nil _ _ _ _ (fun _ => rfl)) (SlAt.nil _ _ _ _ (fun _ => rfl)) (SlAt.nil _ _ _ _ (fun _ => rfl)) (SlAt.nil _ _ _ _ (fun _ => rfl)) (SlAt.nil _ _ _ _ (fun _ => rfl)) (by decide) (by decide)
theorem wInfo7_at (A : Where) (u : World) (b : Bool) : RInfo A u [.string ⟨#[110]⟩, .slice none 0 0, .slice none 0 0, .bool b, .int .i64 1000, .int .i64 0, .int .i64 0, .int .i64 2, .int .i64 0, .slice none 0 0, .int .i64 0, .int .i64 0, .int .i64 0, .slice none 0 0, .slice none 0 0] (wInfo7 b) :=
  RInfo.mk (x := wInfo7 b) (h1 := (none, 0, 0)) (h2 := (none, 0, 0)) (h9 := (none, 0, 0)) (h13 := (none, 0, 0)) (h14 := (none, 0, 0)) (show (1 : Nat) ≤ 140737488355328 by decide) (SlAt.nil _ _ _ _ (fun _ => rfl)) (SlAt.nil _ _ _ _ (fun _ => rfl)) (SlAt.nil _ _ _ _ (fun _ => rfl)) (SlAt.nil _ _ _ _ (fun _ => rfl)) (SlAt.nil _ _ _ _ (fun _ => rfl))
set_option maxHeartbeats 4000000 in
theorem room7_calls (w : World) : Calls Tryz.prog 15 #[] w fun e w' => e = .returned (.tuple #[.agg #[.string ⟨#[110]⟩, .slice none 0 0, .slice none 0 0, .bool false, .int .i64 1000, .int .i64 0, .int .i64 0, .int .i64 2, .int .i64 0, .slice none 0 0, .int .i64 0, .int .i64 0, .int .i64 0, .slice none 0 0, .slice none 0 0], .agg #[.string ⟨#[112]⟩, .int .i64 0, .slice none 0 0, .int .i64 600, .int .i64 0, .int .i64 0, .slice none 0 0, .slice none 0 0, .slice none 0 0, .slice none 0 0, .slice none 0 0, .slice none 0 0, .slice none 0 0, .slice none 0 0, .string ⟨#[]⟩, .string ⟨#[]⟩]]) ∧ Below w.heap.size w w' := by
  have hb : Hid (Below w.heap.size w ((w.alloc (.cells #[.string ⟨#[110]⟩, .slice none 0 0, .slice none 0 0, .bool false, .int .i64 1000, .int .i64 0, .int .i64 0, .int .i64 2, .int .i64 0, .slice none 0 0, .int .i64 0, .int .i64 0, .int .i64 0, .slice none 0 0, .slice none 0 0] 44)).alloc (.cells #[.string ⟨#[112]⟩, .int .i64 0, .slice none 0 0, .int .i64 600, .int .i64 0, .int .i64 0, .slice none 0 0, .slice none 0 0, .slice none 0 0, .slice none 0 0, .slice none 0 0, .slice none 0 0, .slice none 0 0, .slice none 0 0, .string ⟨#[]⟩, .string ⟨#[]⟩] 33))) := by rw [Hid]; go_grown
  go_enter Tryz.func15, Tryz.ntmps15
  go_wp2_with fail
  refine bodyPost_ret (v := .tuple #[.agg #[.string ⟨#[110]⟩, .slice none 0 0, .slice none 0 0, .bool false, .int .i64 1000, .int .i64 0, .int .i64 0, .int .i64 2, .int .i64 0, .slice none 0 0, .int .i64 0, .int .i64 0, .int .i64 0, .slice none 0 0, .slice none 0 0], .agg #[.string ⟨#[112]⟩, .int .i64 0, .slice none 0 0, .int .i64 600, .int .i64 0, .int .i64 0, .slice none 0 0, .slice none 0 0, .slice none 0 0, .slice none 0 0, .slice none 0 0, .slice none 0 0, .slice none 0 0, .slice none 0 0, .string ⟨#[]⟩, .string ⟨#[]⟩]]) (by simp [results, Tryz.results15, go_sem]) rfl ⟨rfl, hb.out⟩
set_option maxHeartbeats 16000000 in
theorem works7_calls (w : World) : Calls Tryz.prog 5 #[] w fun e w' => e = .returned (.bool true) ∧ Below w.heap.size w w' := by
  have HK : Hid (∀ u, Calls Tryz.prog 12 #[.agg #[.string ⟨#[112]⟩, .int .i64 0, .slice none 0 0, .int .i64 600, .int .i64 0, .int .i64 0, .slice none 0 0, .slice none 0 0, .slice none 0 0, .slice none 0 0, .slice none 0 0, .slice none 0 0, .slice none 0 0, .slice none 0 0, .string ⟨#[]⟩, .string ⟨#[]⟩], .agg #[.string ⟨#[110]⟩, .slice none 0 0, .slice none 0 0, .bool false, .int .i64 1000, .int .i64 0, .int .i64 0, .int .i64 2, .int .i64 0, .slice none 0 0, .int .i64 0, .int .i64 0, .int .i64 0, .slice none 0 0, .slice none 0 0]] u fun e w' => e = .returned (.int .i64 0) ∧ Below u.heap.size u w') := fun u => by have h := FCheck_calls [.string ⟨#[112]⟩, .int .i64 0, .slice none 0 0, .int .i64 600, .int .i64 0, .int .i64 0, .slice none 0 0, .slice none 0 0, .slice none 0 0, .slice none 0 0, .slice none 0 0, .slice none 0 0, .slice none 0 0, .slice none 0 0, .string ⟨#[]⟩, .string ⟨#[]⟩] [.string ⟨#[110]⟩, .slice none 0 0, .slice none 0 0, .bool false, .int .i64 1000, .int .i64 0, .int .i64 0, .int .i64 2, .int .i64 0, .slice none 0 0, .int .i64 0, .int .i64 0, .int .i64 0, .slice none 0 0, .slice none 0 0] (fun _ => True) wPod7 (wInfo7 false) u (wPod7_at _ _) (wInfo7_at _ _ _); rwa [w7a] at h
  have HM : Hid (∀ u, Calls Tryz.prog 11 #[.agg #[.string ⟨#[112]⟩, .int .i64 0, .slice none 0 0, .int .i64 600, .int .i64 0, .int .i64 0, .slice none 0 0, .slice none 0 0, .slice none 0 0, .slice none 0 0, .slice none 0 0, .slice none 0 0, .slice none 0 0, .slice none 0 0, .string ⟨#[]⟩, .string ⟨#[]⟩], .agg #[.string ⟨#[110]⟩, .slice none 0 0, .slice none 0 0, .bool false, .int .i64 1000, .int .i64 0, .int .i64 0, .int .i64 2, .int .i64 0, .slice none 0 0, .int .i64 0, .int .i64 0, .int .i64 0, .slice none 0 0, .slice none 0 0], .int .i64 9] u fun e w' => e = .returned (.int .i64 1) ∧ Below u.heap.size u w') := fun u => by have h := FMost_calls [.string ⟨#[112]⟩, .int .i64 0, .slice none 0 0, .int .i64 600, .int .i64 0, .int .i64 0, .slice none 0 0, .slice none 0 0, .slice none 0 0, .slice none 0 0, .slice none 0 0, .slice none 0 0, .slice none 0 0, .slice none 0 0, .string ⟨#[]⟩, .string ⟨#[]⟩] [.string ⟨#[110]⟩, .slice none 0 0, .slice none 0 0, .bool false, .int .i64 1000, .int .i64 0, .int .i64 0, .int .i64 2, .int .i64 0, .slice none 0 0, .int .i64 0, .int .i64 0, .int .i64 0, .slice none 0 0, .slice none 0 0] (fun _ => True) wPod7 (wInfo7 false) 9 u (wPod7_at _ _) (wInfo7_at _ _ _) (show (2 : Int) ≤ 9223372036854775807 by decide); rwa [w7b] at h
  have HJ : Hid (∀ u, Calls Tryz.prog 12 #[.agg #[.string ⟨#[112]⟩, .int .i64 0, .slice none 0 0, .int .i64 600, .int .i64 0, .int .i64 0, .slice none 0 0, .slice none 0 0, .slice none 0 0, .slice none 0 0, .slice none 0 0, .slice none 0 0, .slice none 0 0, .slice none 0 0, .string ⟨#[]⟩, .string ⟨#[]⟩], .agg #[.string ⟨#[110]⟩, .slice none 0 0, .slice none 0 0, .bool true, .int .i64 1000, .int .i64 0, .int .i64 0, .int .i64 2, .int .i64 0, .slice none 0 0, .int .i64 0, .int .i64 0, .int .i64 0, .slice none 0 0, .slice none 0 0]] u fun e w' => e = .returned (.int .i64 1) ∧ Below u.heap.size u w') := fun u => by have h := FCheck_calls [.string ⟨#[112]⟩, .int .i64 0, .slice none 0 0, .int .i64 600, .int .i64 0, .int .i64 0, .slice none 0 0, .slice none 0 0, .slice none 0 0, .slice none 0 0, .slice none 0 0, .slice none 0 0, .slice none 0 0, .slice none 0 0, .string ⟨#[]⟩, .string ⟨#[]⟩] [.string ⟨#[110]⟩, .slice none 0 0, .slice none 0 0, .bool true, .int .i64 1000, .int .i64 0, .int .i64 0, .int .i64 2, .int .i64 0, .slice none 0 0, .int .i64 0, .int .i64 0, .int .i64 0, .slice none 0 0, .slice none 0 0] (fun _ => True) wPod7 (wInfo7 true) u (wPod7_at _ _) (wInfo7_at _ _ _); rwa [w7c] at h
  have hiP : (Tryz.prog.info? 33).map (·.size) = some ([.string ⟨#[112]⟩, .int .i64 0, .slice none 0 0, .int .i64 600, .int .i64 0, .int .i64 0, .slice none 0 0, .slice none 0 0, .slice none 0 0, .slice none 0 0, .slice none 0 0, .slice none 0 0, .slice none 0 0, .slice none 0 0, .string ⟨#[]⟩, .string ⟨#[]⟩] : List Value).length := sizePod7
  have hiI : (Tryz.prog.info? 44).map (·.size) = some ([.string ⟨#[110]⟩, .slice none 0 0, .slice none 0 0, .bool false, .int .i64 1000, .int .i64 0, .int .i64 0, .int .i64 2, .int .i64 0, .slice none 0 0, .int .i64 0, .int .i64 0, .int .i64 0, .slice none 0 0, .slice none 0 0] : List Value).length := sizeInfo7
  have hiJ : (Tryz.prog.info? 44).map (·.size) = some ([.string ⟨#[110]⟩, .slice none 0 0, .slice none 0 0, .bool true, .int .i64 1000, .int .i64 0, .int .i64 0, .int .i64 2, .int .i64 0, .slice none 0 0, .int .i64 0, .int .i64 0, .int .i64 0, .slice none 0 0, .slice none 0 0] : List Value).length := sizeInfo7
  go_enter Tryz.func5, Tryz.ntmps5
  go_wp2_with fail
  refine (room7_calls w).mono ?_
  rintro e w1 ⟨rfl, hb1⟩
  obtain ⟨W4, hW4⟩ : ∃ W4, W4 = ((w1.alloc (.cells #[.string ⟨#[110]⟩, .slice none 0 0, .slice none 0 0, .bool false, .int .i64 1000, .int .i64 0, .int .i64 0, .int .i64 2, .int .i64 0, .slice none 0 0, .int .i64 0, .int .i64 0, .int .i64 0, .slice none 0 0, .slice none 0 0] 44)).alloc (.cells #[.string ⟨#[112]⟩, .int .i64 0, .slice none 0 0, .int .i64 600, .int .i64 0, .int .i64 0, .slice none 0 0, .slice none 0 0, .slice none 0 0, .slice none 0 0, .slice none 0 0, .slice none 0 0, .slice none 0 0, .slice none 0 0, .string ⟨#[]⟩, .string ⟨#[]⟩] 33)).alloc (.cells #[.string ⟨#[110]⟩, .slice none 0 0, .slice none 0 0, .bool true, .int .i64 1000, .int .i64 0, .int .i64 0, .int .i64 2, .int .i64 0, .slice none 0 0, .int .i64 0, .int .i64 0, .int .i64 0, .slice none 0 0, .slice none 0 0] 44) := ⟨_, rfl⟩
  have HB : Hid (∀ u, Below W4.heap.size W4 u → BoxL u w1.heap.size [.string ⟨#[110]⟩, .slice none 0 0, .slice none 0 0, .bool false, .int .i64 1000, .int .i64 0, .int .i64 0, .int .i64 2, .int .i64 0, .slice none 0 0, .int .i64 0, .int .i64 0, .int .i64 0, .slice none 0 0, .slice none 0 0] ∧ BoxL u (w1.heap.size + 1) [.string ⟨#[112]⟩, .int .i64 0, .slice none 0 0, .int .i64 600, .int .i64 0, .int .i64 0, .slice none 0 0, .slice none 0 0, .slice none 0 0, .slice none 0 0, .slice none 0 0, .slice none 0 0, .slice none 0 0, .slice none 0 0, .string ⟨#[]⟩, .string ⟨#[]⟩] ∧ BoxL u (w1.heap.size + 1 + 1) [.string ⟨#[110]⟩, .slice none 0 0, .slice none 0 0, .bool true, .int .i64 1000, .int .i64 0, .int .i64 0, .int .i64 2, .int .i64 0, .slice none 0 0, .int .i64 0, .int .i64 0, .int .i64 0, .slice none 0 0, .slice none 0 0] ∧ Below w.heap.size w u) := fun u hb => by
    have h1 := ((BoxL.new w1 44 [.string ⟨#[110]⟩, .slice none 0 0, .slice none 0 0, .bool false, .int .i64 1000, .int .i64 0, .int .i64 0, .int .i64 2, .int .i64 0, .slice none 0 0, .int .i64 0, .int .i64 0, .int .i64 0, .slice none 0 0, .slice none 0 0]).on ((Below.refl _ _).alloc (Nat.le_refl _) (.cells #[.string ⟨#[112]⟩, .int .i64 0, .slice none 0 0, .int .i64 600, .int .i64 0, .int .i64 0, .slice none 0 0, .slice none 0 0, .slice none 0 0, .slice none 0 0, .slice none 0 0, .slice none 0 0, .slice none 0 0, .slice none 0 0, .string ⟨#[]⟩, .string ⟨#[]⟩] 33))).on ((Below.refl _ _).alloc (Nat.le_refl _) (.cells #[.string ⟨#[110]⟩, .slice none 0 0, .slice none 0 0, .bool true, .int .i64 1000, .int .i64 0, .int .i64 0, .int .i64 2, .int .i64 0, .slice none 0 0, .int .i64 0, .int .i64 0, .int .i64 0, .slice none 0 0, .slice none 0 0] 44))
    have h2 := (BoxL.new (w1.alloc (.cells #[.string ⟨#[110]⟩, .slice none 0 0, .slice none 0 0, .bool false, .int .i64 1000, .int .i64 0, .int .i64 0, .int .i64 2, .int .i64 0, .slice none 0 0, .int .i64 0, .int .i64 0, .int .i64 0, .slice none 0 0, .slice none 0 0] 44)) 33 [.string ⟨#[112]⟩, .int .i64 0, .slice none 0 0, .int .i64 600, .int .i64 0, .int .i64 0, .slice none 0 0, .slice none 0 0, .slice none 0 0, .slice none 0 0, .slice none 0 0, .slice none 0 0, .slice none 0 0, .slice none 0 0, .string ⟨#[]⟩, .string ⟨#[]⟩]).on ((Below.refl _ _).alloc (Nat.le_refl _) (.cells #[.string ⟨#[110]⟩, .slice none 0 0, .slice none 0 0, .bool true, .int .i64 1000, .int .i64 0, .int .i64 0, .int .i64 2, .int .i64 0, .slice none 0 0, .int .i64 0, .int .i64 0, .int .i64 0, .slice none 0 0, .slice none 0 0] 44))
    have h3 := BoxL.new ((w1.alloc (.cells #[.string ⟨#[110]⟩, .slice none 0 0, .slice none 0 0, .bool false, .int .i64 1000, .int .i64 0, .int .i64 0, .int .i64 2, .int .i64 0, .slice none 0 0, .int .i64 0, .int .i64 0, .int .i64 0, .slice none 0 0, .slice none 0 0] 44)).alloc (.cells #[.string ⟨#[112]⟩, .int .i64 0, .slice none 0 0, .int .i64 600, .int .i64 0, .int .i64 0, .slice none 0 0, .slice none 0 0, .slice none 0 0, .slice none 0 0, .slice none 0 0, .slice none 0 0, .slice none 0 0, .slice none 0 0, .string ⟨#[]⟩, .string ⟨#[]⟩] 33)) 44 [.string ⟨#[110]⟩, .slice none 0 0, .slice none 0 0, .bool true, .int .i64 1000, .int .i64 0, .int .i64 0, .int .i64 2, .int .i64 0, .slice none 0 0, .int .i64 0, .int .i64 0, .int .i64 0, .slice none 0 0, .slice none 0 0]
    have h4 : Below w1.heap.size w1 W4 := by rw [hW4]; go_grown
    rw [← hW4] at h1 h2 h3
    refine ⟨h1.on hb, ?_, ?_, on2 hb1 (on2 h4 hb)⟩
    · have := h2.on hb; simpa using this
    · have := h3.on hb; simpa using this
  have HW4 : Hid (W4 = ((w1.alloc (.cells #[.string ⟨#[110]⟩, .slice none 0 0, .slice none 0 0, .bool false, .int .i64 1000, .int .i64 0, .int .i64 0, .int .i64 2, .int .i64 0, .slice none 0 0, .int .i64 0, .int .i64 0, .int .i64 0, .slice none 0 0, .slice none 0 0] 44)).alloc (.cells #[.string ⟨#[112]⟩, .int .i64 0, .slice none 0 0, .int .i64 600, .int .i64 0, .int .i64 0, .slice none 0 0, .slice none 0 0, .slice none 0 0, .slice none 0 0, .slice none 0 0, .slice none 0 0, .slice none 0 0, .slice none 0 0, .string ⟨#[]⟩, .string ⟨#[]⟩] 33)).alloc (.cells #[.string ⟨#[110]⟩, .slice none 0 0, .slice none 0 0, .bool true, .int .i64 1000, .int .i64 0, .int .i64 0, .int .i64 2, .int .i64 0, .slice none 0 0, .int .i64 0, .int .i64 0, .int .i64 0, .slice none 0 0, .slice none 0 0] 44)) := hW4
  clear hW4 hb1
  go_upto_region 4 with fail
  rw [← HW4.out]
  clear HW4
  have Ha := HB.out W4 (Below.refl _ _)
  go_wp2_with (first | (refine wpList_load_mid rfl 33 _ rfl (w1.heap.size + 1) 0 rfl [.string ⟨#[112]⟩, .int .i64 0, .slice none 0 0, .int .i64 600, .int .i64 0, .int .i64 0, .slice none 0 0, .slice none 0 0, .slice none 0 0, .slice none 0 0, .slice none 0 0, .slice none 0 0, .slice none 0 0, .slice none 0 0, .string ⟨#[]⟩, .string ⟨#[]⟩] _ Ha.2.1.range Tryz.underlying33 rfl hiP ?_) | (refine wpList_load_mid rfl 44 _ rfl w1.heap.size 0 rfl [.string ⟨#[110]⟩, .slice none 0 0, .slice none 0 0, .bool false, .int .i64 1000, .int .i64 0, .int .i64 0, .int .i64 2, .int .i64 0, .slice none 0 0, .int .i64 0, .int .i64 0, .int .i64 0, .slice none 0 0, .slice none 0 0] _ Ha.1.range Tryz.underlying44 rfl hiI ?_) | fail)
  refine (HK.out W4).mono ?_
  rintro e w5 ⟨rfl, hb5⟩
  have Hb := HB.out w5 hb5
  clear Ha
  go_wp2_with (first | (refine load_w7 (by rfl) 33 _ rfl (w1.heap.size + 1) 0 rfl [.string ⟨#[112]⟩, .int .i64 0, .slice none 0 0, .int .i64 600, .int .i64 0, .int .i64 0, .slice none 0 0, .slice none 0 0, .slice none 0 0, .slice none 0 0, .slice none 0 0, .slice none 0 0, .slice none 0 0, .slice none 0 0, .string ⟨#[]⟩, .string ⟨#[]⟩] _ Hb.2.1.range Tryz.underlying33 rfl hiP ?_) | (refine load_w7 (by rfl) 44 _ rfl w1.heap.size 0 rfl [.string ⟨#[110]⟩, .slice none 0 0, .slice none 0 0, .bool false, .int .i64 1000, .int .i64 0, .int .i64 0, .int .i64 2, .int .i64 0, .slice none 0 0, .int .i64 0, .int .i64 0, .int .i64 0, .slice none 0 0, .slice none 0 0] _ Hb.1.range Tryz.underlying44 rfl hiI ?_) | fail)
  refine (HM.out w5).mono ?_
  rintro e w6 ⟨rfl, hb6⟩
  have Hc := HB.out w6 (on2 hb5 hb6)
  clear Hb
  go_wp2_with (first | (refine load_w7 (by rfl) 33 _ rfl (w1.heap.size + 1) 0 rfl [.string ⟨#[112]⟩, .int .i64 0, .slice none 0 0, .int .i64 600, .int .i64 0, .int .i64 0, .slice none 0 0, .slice none 0 0, .slice none 0 0, .slice none 0 0, .slice none 0 0, .slice none 0 0, .slice none 0 0, .slice none 0 0, .string ⟨#[]⟩, .string ⟨#[]⟩] _ Hc.2.1.range Tryz.underlying33 rfl hiP ?_) | (refine load_w7 (by rfl) 44 _ rfl (w1.heap.size + 1 + 1) 0 rfl [.string ⟨#[110]⟩, .slice none 0 0, .slice none 0 0, .bool true, .int .i64 1000, .int .i64 0, .int .i64 0, .int .i64 2, .int .i64 0, .slice none 0 0, .int .i64 0, .int .i64 0, .int .i64 0, .slice none 0 0, .slice none 0 0] _ Hc.2.2.1.range Tryz.underlying44 rfl hiJ ?_) | fail)
  refine (HJ.out w6).mono ?_
  rintro e w7 ⟨rfl, hb7⟩
  have hbf := (HB.out w7 (on2 (on2 hb5 hb6) hb7)).2.2.2
  clear Hc
  go_wp2_with fail
  go_ret
  exact ⟨rfl, hbf⟩
end Go.Proofs.YtbcclfiopebmpaaGreat
namespace Go.Proofs.YtbcclfiopebmpaaGreat
open Go.RowKit
set_option linter.unusedSimpArgs false
set_option maxRecDepth 100000

theorem yes_append (l m : List (Int × Bool)) : yes (l ++ m) = yes l ++ yes m := by simp [yes]
theorem why_get {y : PodD} {x : InfoD} {k : Nat} (hk : k < 8) : (whyR y x)[k]? = some (((k + 1 : Nat) : Int), reaB y x k) := by
  obtain rfl | rfl | rfl | rfl | rfl | rfl | rfl | rfl : k = 0 ∨ k = 1 ∨ k = 2 ∨ k = 3 ∨ k = 4 ∨ k = 5 ∨ k = 6 ∨ k = 7 := by omega
  all_goals rfl
theorem yes_take {y : PodD} {x : InfoD} {k : Nat} (hk : k < 8) : yes ((whyR y x).take (k + 1)) = yes ((whyR y x).take k) ++ (if reaB y x k = true then [((k + 1 : Nat) : Int)] else []) := by
  rw [List.take_add_one, why_get hk, yes_append]
  congr 1
  simp only [yes, Option.toList_some, List.filter_cons, List.filter_nil]
  split <;> rfl
theorem yes_len {y : PodD} {x : InfoD} (k : Nat) : (yes ((whyR y x).take k)).length ≤ 8 := by
  unfold yes
  rw [List.length_map]
  have h1 := List.length_filter_le (fun q : Int × Bool => q.2) ((whyR y x).take k)
  have h2 := List.length_take_le k (whyR y x)
  have h3 : (whyR y x).length = 8 := rfl
  have h4 := List.length_take_le' k (whyR y x)
  omega
set_option maxHeartbeats 8000000 in
theorem FAll_calls (ds cs : List Value) (A : Where) (y : PodD) (x : InfoD) (w : World) (h : Hid (RPod A w ds y)) (h' : Hid (RInfo A w cs x)) : Calls Tryz.prog 9 #[.agg ds.toArray, .agg cs.toArray] w fun e w' => ∃ a n cap, e = .returned (.slice a n cap) ∧ SlAt RInt 1 8 (Fresh w) w' a n cap (whyL y x) ∧ Below w.heap.size w w' := by
  have hiP : (Tryz.prog.info? 33).map (·.size) = some ds.length := by rw [RPod.firm.len h.out]; exact sizePod7
  have hiI : (Tryz.prog.info? 44).map (·.size) = some cs.length := by rw [RInfo.firm.len h'.out]; exact sizeInfo7
  obtain ⟨W2, hW2⟩ : ∃ W2, W2 = (w.alloc (.cells ds.toArray 33)).alloc (.cells cs.toArray 44) := ⟨_, rfl⟩
  have B2 : Hid (Below w.heap.size w W2) := by rw [Hid, hW2]; go_grown
  have HX : Hid (BoxL W2 w.heap.size ds) := by rw [hW2]; exact (BoxL.new w 33 ds).on ((Below.refl _ _).alloc (Nat.le_refl _) _)
  have HY : Hid (BoxL W2 (w.heap.size + 1) cs) := by have h1 := BoxL.new (w.alloc (.cells ds.toArray 33)) 44 cs; rw [Hid, hW2]; simpa using h1
  have hV := visitOf_calls ds cs A y x W2 (RPod.firm.kept h.out (Kept.below B2.out)) (RInfo.firm.kept h'.out (Kept.below B2.out))
  have HW2 : Hid (W2 = (w.alloc (.cells ds.toArray 33)).alloc (.cells cs.toArray 44)) := hW2
  clear h h' hW2
  go_enter Tryz.func9, Tryz.ntmps9
  go_wp2_with (first | (refine wpl_w HW2.out ?_; refine wpList_load_mid rfl 33 _ rfl w.heap.size 0 rfl ds _ HX.out.range Tryz.underlying33 rfl hiP ?_) | (refine wpList_load_mid rfl 44 _ rfl (w.heap.size + 1) 0 rfl cs _ HY.out.range Tryz.underlying44 rfl hiI ?_) | fail)
  clear HW2
  refine hV.mono ?_
  clear hV
  rintro e w3 ⟨vs, rfl, hv, hb3⟩
  have hl : vs.length = 37 := RVisit.firm.len hv
  have hiV : (Tryz.prog.info? 57).map (·.size) = some vs.toArray.size := by have e : vs.toArray.size = 37 := (by simp [hl]); rw [e]; exact sizeVisit
  have hiV' : (Tryz.prog.info? 57).map (·.size) = some vs.length := by rw [hl]; exact sizeVisit
  have HO : Hid (vs.toArray.all (·.oneCell') = true) := all_oneCell_toArray (RVisit.firm.one hv)
  have HT : Hid ((w3.alloc (.cells #[.string ⟨#[]⟩, .int .i64 0, .slice none 0 0, .int .i64 0, .int .i64 0, .int .i64 0, .slice none 0 0, .slice none 0 0, .slice none 0 0, .slice none 0 0, .slice none 0 0, .slice none 0 0, .slice none 0 0, .slice none 0 0, .string ⟨#[]⟩, .string ⟨#[]⟩, .string ⟨#[]⟩, .slice none 0 0, .slice none 0 0, .bool false, .int .i64 0, .int .i64 0, .int .i64 0, .int .i64 0, .int .i64 0, .slice none 0 0, .int .i64 0, .int .i64 0, .int .i64 0, .slice none 0 0, .slice none 0 0, .int .i64 0, .int .i64 0, .int .i64 0, .int .i64 0, .int .i64 0, .int .i64 0] 57)).there w3.heap.size 0 vs.toArray.size) := by have e : vs.toArray.size = 37 := (by simp [hl]); rw [Hid, e]; exact (BoxL.new w3 57 [.string ⟨#[]⟩, .int .i64 0, .slice none 0 0, .int .i64 0, .int .i64 0, .int .i64 0, .slice none 0 0, .slice none 0 0, .slice none 0 0, .slice none 0 0, .slice none 0 0, .slice none 0 0, .slice none 0 0, .slice none 0 0, .string ⟨#[]⟩, .string ⟨#[]⟩, .string ⟨#[]⟩, .slice none 0 0, .slice none 0 0, .bool false, .int .i64 0, .int .i64 0, .int .i64 0, .int .i64 0, .int .i64 0, .slice none 0 0, .int .i64 0, .int .i64 0, .int .i64 0, .slice none 0 0, .slice none 0 0, .int .i64 0, .int .i64 0, .int .i64 0, .int .i64 0, .int .i64 0, .int .i64 0]).there
  obtain ⟨W4, hW4⟩ : ∃ W4, W4 = (w3.alloc (.cells #[.string ⟨#[]⟩, .int .i64 0, .slice none 0 0, .int .i64 0, .int .i64 0, .int .i64 0, .slice none 0 0, .slice none 0 0, .slice none 0 0, .slice none 0 0, .slice none 0 0, .slice none 0 0, .slice none 0 0, .slice none 0 0, .string ⟨#[]⟩, .string ⟨#[]⟩, .string ⟨#[]⟩, .slice none 0 0, .slice none 0 0, .bool false, .int .i64 0, .int .i64 0, .int .i64 0, .int .i64 0, .int .i64 0, .slice none 0 0, .int .i64 0, .int .i64 0, .int .i64 0, .slice none 0 0, .slice none 0 0, .int .i64 0, .int .i64 0, .int .i64 0, .int .i64 0, .int .i64 0, .int .i64 0] 57)).setCells w3.heap.size 0 vs := ⟨_, rfl⟩
  have HX4 : Hid (BoxL W4 w3.heap.size vs) := by rw [hW4]; exact box_over (BoxL.new w3 57 [.string ⟨#[]⟩, .int .i64 0, .slice none 0 0, .int .i64 0, .int .i64 0, .int .i64 0, .slice none 0 0, .slice none 0 0, .slice none 0 0, .slice none 0 0, .slice none 0 0, .slice none 0 0, .slice none 0 0, .slice none 0 0, .string ⟨#[]⟩, .string ⟨#[]⟩, .string ⟨#[]⟩, .slice none 0 0, .slice none 0 0, .bool false, .int .i64 0, .int .i64 0, .int .i64 0, .int .i64 0, .int .i64 0, .slice none 0 0, .int .i64 0, .int .i64 0, .int .i64 0, .slice none 0 0, .slice none 0 0, .int .i64 0, .int .i64 0, .int .i64 0, .int .i64 0, .int .i64 0, .int .i64 0]) (by rw [hl]; rfl)
  have B4 : Hid (Below w3.heap.size w3 W4) := by rw [Hid, hW4]; exact below_setCells ((Below.refl _ _).alloc (Nat.le_refl _) _) (Nat.le_refl _)
  have HW4 : Hid (W4 = (w3.alloc (.cells #[.string ⟨#[]⟩, .int .i64 0, .slice none 0 0, .int .i64 0, .int .i64 0, .int .i64 0, .slice none 0 0, .slice none 0 0, .slice none 0 0, .slice none 0 0, .slice none 0 0, .slice none 0 0, .slice none 0 0, .slice none 0 0, .string ⟨#[]⟩, .string ⟨#[]⟩, .string ⟨#[]⟩, .slice none 0 0, .slice none 0 0, .bool false, .int .i64 0, .int .i64 0, .int .i64 0, .int .i64 0, .int .i64 0, .slice none 0 0, .int .i64 0, .int .i64 0, .int .i64 0, .slice none 0 0, .slice none 0 0, .int .i64 0, .int .i64 0, .int .i64 0, .int .i64 0, .int .i64 0, .int .i64 0] 57)).setCells w3.heap.size 0 vs.toArray.toList) := by rw [Hid, hW4]
  have HV4 : Hid (∀ u, Below W4.heap.size W4 u → RVisit A u vs (y, x, wantP y, freeP x)) := fun u hb => RVisit.firm.kept hv (Kept.below (on2 B4.out hb))
  have B04 : Hid (Below w.heap.size w W4) := on2 (on2 B2.out hb3) B4.out
  clear hW4 hv hb3 HX HY B2 hl
  go_wp2_with (first | (refine wpList_store_mid rfl 57 _ _ rfl w3.heap.size 0 vs.toArray rfl rfl HT.out hiV HO.out ?_; refine wpl_w HW4.out ?_) | fail)
  refine (reasons_calls W4).mono ?_
  rintro e w5 ⟨rfl, hR, hb5⟩
  have B5 : Hid (Below W4.heap.size W4 w5) := hb5
  have HR : Hid (BoxL w5 W4.heap.size reaC) := hR
  clear hR hb5 HW4 HO HT
  go_wp2_with fail
  go_loopw [6, 14] (fun o i wr => ∃ k : Nat, k ≤ 8 ∧ i = .int .i64 k ∧ Hid (Row RInt 1 (fun _ => False) w5 wr 3 o (yes ((whyR y x).take k)))) (fun _ i _ => 8 - (intOf i).toNat)
  case atStart => exact ⟨0, Nat.zero_le _, rfl, Row.nil _ _ _⟩
  case round =>
    obtain ⟨k, hk, rfl, hrow⟩ := hrel
    have hbel : Below w5.heap.size w5 wr := hrow.out.below
    by_cases hlt : k < 8
    ·
      obtain ⟨g, hg⟩ := reason_at hlt
      obtain ⟨hq0, hq1, hge, hgc⟩ := hg
      have hbw : Below W4.heap.size W4 wr := on2 B5.out hbel
      have HC : Hid (∀ u, Below wr.heap.size wr u → Calls Tryz.prog g #[.agg vs.toArray] u fun e w' => e = .returned (.bool (reaB y x k)) ∧ Below u.heap.size u w') := fun u hb => hgc vs A y x u (HV4.out u (on2 hbw hb))
      have c0 := ((HR.out.on hbel).2 _ _ hq0).1
      have c1 := ((HR.out.on hbel).2 _ _ hq1).1
      clear hgc hq0 hq1
      have hbx : Hid (∀ u, Below wr.heap.size wr u → BoxL u w3.heap.size vs) := fun u hb => (HX4.out.on hbw).on hb
      have hne : Hid (W4.heap.size < wr.heap.size) := Nat.lt_of_lt_of_le HR.out.1 hbel.size
      have HRo : Hid (∀ u, Below wr.heap.size wr u → Row RInt 1 (fun _ => False) w5 u 3 u6 (yes ((whyR y x).take k))) := fun u hb => hrow.out.on RInt.firm hb
      have hyl := yes_len (y := y) (x := x) k
      have HY := yes_take (y := y) (x := x) hlt
      cases hm : reaB y x k
      · rw [hm, if_neg (by decide), List.append_nil] at HY
        have HY' : Hid (yes ((whyR y x).take (k + 1)) = yes ((whyR y x).take k)) := HY
        rw [hm] at HC
        clear hm HY hyl hrow
        go_wp2_with (first | (refine wpList_load_mid rfl 57 _ rfl w3.heap.size 0 rfl vs _ (hbx.out _ (by go_grown)).range Tryz.underlying57 rfl hiV' ?_) | fail)
        refine (HC.out _ (by go_grown)).mono ?_
        rintro e w6 ⟨rfl, hb6⟩
        have hb' : Below wr.heap.size wr w6 := on2 (by go_grown) hb6
        clear HC c0 c1 hb6 hbel hbx
        go_wp2_with fail
        go_roundw
        case rel => exact ⟨k + 1, by omega, by go_num, by rw [HY'.out]; exact HRo.out _ hb'⟩
        case measure => simp [intOf]; omega
      · rw [hm, if_pos rfl] at HY
        have HY' : Hid (yes ((whyR y x).take (k + 1)) = yes ((whyR y x).take k) ++ [((k + 1 : Nat) : Int)]) := HY
        rw [hm] at HC
        clear hm HY hrow
        have q0 : BoxL (wr.alloc (.cells #[.int .i64 ((k + 1 : Nat) : Int), .func (.func g) #[] #[]] 63)) wr.heap.size [.int .i64 ((k + 1 : Nat) : Int), .func (.func g) #[] #[]] := BoxL.new wr 63 _
        generalize hkk : ((k + 1 : Nat) : Int) = kk at c0 q0 HY'
        go_wp2_with (first | (refine wpList_load_mid rfl 57 _ rfl w3.heap.size 0 rfl vs _ (hbx.out _ (by go_grown)).range Tryz.underlying57 rfl hiV' ?_) | fail)
        refine (HC.out _ (by go_grown)).mono ?_
        rintro e w6 ⟨rfl, hb6⟩
        have hb' : Below wr.heap.size wr w6 := on2 (by go_grown) hb6
        have z0 := ((q0.on hb6).2 0 _ rfl).1
        have HB' : Hid (∀ u, Below w6.heap.size w6 u → Below wr.heap.size wr u) := fun u hb => on2 hb' hb
        clear HC c0 c1 hb6 hbel hbx q0 hb'
        go_wp2_with (at_builtin; go_must (refine row_append RInt.firm (A := (fun _ => False)) (w0 := w5) rfl _ _ 28 3 rfl _ 8 infoint Tryz.underlying28 rfl (by decide) (by decide) _ _ rfl (HRo.out _ (HB'.out _ (by go_grown))) ⟨w6.heap.size, 0, none⟩ 1 1 [.int .i64 kk] [kk] rfl rfl (chunk_one RInt.firm rfl) (one_cells w6 [.int .i64 kk] 3) (by simp [Value.oneCell']) (by simp only [List.length_cons, List.length_nil]; omega) ?_); intro v1 w1 hrow1 hg1)
        have HRow1 : Hid (Row RInt 1 (fun _ => False) w5 w1 3 v1 (yes ((whyR y x).take k) ++ [kk])) := hrow1
        clear hrow1
        go_wp2_with fail
        go_roundw
        case rel => exact ⟨k + 1, by omega, by go_num, by rw [HY'.out]; exact HRow1.out⟩
        case measure => simp [intOf]; omega
    · obtain rfl : k = 8 := by omega
      have hbf : Below w.heap.size w wr := on2 (on2 B04.out B5.out) hbel
      have hlen := yes_len (y := y) (x := x) 8
      have hr8 : Row RInt 1 (fun _ => False) w5 wr 3 u6 (whyL y x) := hrow.out
      obtain ⟨a, cap, e6, s6⟩ := hr8.sl (bytes := 8) RInt.firm (by have : (whyL y x).length ≤ 8 := hlen; omega)
      subst e6
      have S6 : Hid (SlAt RInt 1 8 (Fresh w) wr a (whyL y x).length cap (whyL y x)) := s6.weak RInt.firm (fun b _ hb => by
        rcases hb with hb | hb
        · exact hb.elim
        · exact Nat.le_trans (on2 B04.out B5.out).size hb)
      clear hr8 s6 hrow hlen
      generalize hwl : (whyL y x).length = ln at S6
      go_wp2_with fail
      go_ret
      exact ⟨a, ln, cap, rfl, S6.out, hbf⟩
end Go.Proofs.YtbcclfiopebmpaaGreat
namespace Go.Proofs.YtbcclfiopebmpaaGreat
open Go.RowKit
set_option linter.unusedSimpArgs false

def nameL (F : List PodD) : List ByteArray := F.map (·.1)
def fstStep (F : List PodD) (p : PodD) : List PodD := if hasB sEq (nameL F) p.1 = true then F else F ++ [p]
def firstsP (L : List PodD) : List PodD := L.foldl fstStep []
def tupP (F : List PodD) : AccD := (nameL F, wantSum (0, 0, 0) F, F.flatMap pPorts, F.flatMap pClaims)
theorem tup_step (F : List PodD) (p : PodD) : ofStep (tupP F) p = tupP (fstStep F p) := by
  unfold ofStep fstStep
  show (if hasB sEq (nameL F) p.1 = true then tupP F else _) = _
  split
  · rfl
  · simp [tupP, nameL, wantSum]
theorem tup_fold : ∀ (L F : List PodD), L.foldl ofStep (tupP F) = tupP (L.foldl fstStep F)
  | [], _ => rfl
  | p :: L, F => by rw [List.foldl_cons, List.foldl_cons, tup_step, tup_fold]
theorem firsts_all (n : NodeD) (L : List PodD) : allP n (firstsP L) = ofP n L := by
  have h : ofAcc L = tupP (firstsP L) := tup_fold L []
  unfold ofP
  rw [h]
  rfl
theorem firsts_succ (L : List PodD) {k : Nat} (hk : k < L.length) : firstsP (L.take (k + 1)) = fstStep (firstsP (L.take k)) (L.getD k default) := by
  rw [← take_at hk]; simp [firstsP]
theorem fst_len (F : List PodD) (p : PodD) : (fstStep F p).length ≤ F.length + 1 := by unfold fstStep; split <;> simp
theorem firsts_len (L : List PodD) : ∀ k, k ≤ L.length → (firstsP (L.take k)).length ≤ k := by
  intro k
  induction k with
  | zero => intro _; simp [firstsP]
  | succ k ih =>
    intro hk
    rw [firsts_succ L (by omega)]
    have := fst_len (firstsP (L.take k)) (L.getD k default)
    have := ih (by omega)
    omega
theorem fst_sum (f : PodD → Nat) : ∀ (L F : List PodD), sumBy f (L.foldl fstStep F) ≤ sumBy f F + sumBy f L
  | [], F => by simp [sumBy]
  | p :: L, F => by
    rw [List.foldl_cons]
    have h := fst_sum f L (fstStep F p)
    have h1 : sumBy f (fstStep F p) ≤ sumBy f F + f p := by
      unfold fstStep
      split
      · omega
      · rw [sumBy_append]; simp [sumBy]
    have h2 : sumBy f (p :: L) = f p + sumBy f L := by simp [sumBy]
    omega
theorem FitsP.firsts {L : List PodD} (h : FitsP L) : FitsP (firstsP L) := by
  have h1 := fst_sum (fun p => (pPorts p).length) L []
  have h2 := fst_sum (fun p => (pClaims p).length) L []
  have e : ∀ f : PodD → Nat, sumBy f [] = 0 := fun f => rfl
  rw [e, Nat.zero_add] at h1 h2
  exact ⟨Nat.le_trans (Nat.mul_le_mul_right 8 h1) h.1, Nat.le_trans (Nat.mul_le_mul_right 16 h2) h.2⟩
end Go.Proofs.YtbcclfiopebmpaaGreat
namespace Go.Proofs.YtbcclfiopebmpaaGreat
open Go.RowKit
set_option linter.unusedSimpArgs false

theorem tup_snoc (F : List PodD) (p : PodD) : tupP (F ++ [p]) = ((tupP F).1 ++ [p.1], plusR (tupP F).2.1 (pWant p), (tupP F).2.2.1 ++ pPorts p, (tupP F).2.2.2 ++ pClaims p) := by
  simp [tupP, nameL, wantSum]
theorem tup_succ (L : List PodD) {k : Nat} (hk : k < L.length) : tupP (L.take (k + 1)) = ((tupP (L.take k)).1 ++ [(L.getD k default).1], plusR (tupP (L.take k)).2.1 (pWant (L.getD k default)), (tupP (L.take k)).2.2.1 ++ pPorts (L.getD k default), (tupP (L.take k)).2.2.2 ++ pClaims (L.getD k default)) := by
  rw [← take_at hk, tup_snoc]
theorem flat_len {β : Type} (f : PodD → List β) (F : List PodD) : (F.flatMap f).length = sumBy (fun p => (f p).length) F := by
  induction F with
  | nil => rfl
  | cons p F ih => rw [List.flatMap_cons, List.length_append, ih]; simp [sumBy]
theorem tup_lens (F : List PodD) : (tupP F).1.length = F.length ∧ (tupP F).2.2.1.length = sumBy (fun p => (pPorts p).length) F ∧ (tupP F).2.2.2.length = sumBy (fun p => (pClaims p).length) F :=
  ⟨by simp [tupP, nameL], flat_len _ _, flat_len _ _⟩
theorem tup_fits {L : List PodD} (h : FitsP L) {k : Nat} (hk : k < L.length) : ((tupP (L.take k)).2.2.1.length + (pPorts (L.getD k default)).length) * 8 ≤ 140737488351232 ∧ ((tupP (L.take k)).2.2.2.length + (pClaims (L.getD k default)).length) * 16 ≤ 140737488351232 := by
  obtain ⟨_, h2, h3⟩ := tup_lens (L.take k)
  have e1 := sumBy_take (fun p => (pPorts p).length) L (k + 1)
  have e2 := sumBy_take (fun p => (pClaims p).length) L (k + 1)
  rw [← take_at hk, sumBy_append] at e1 e2
  simp only [sumBy, List.map_cons, List.map_nil, List.sum_cons, List.sum_nil] at e1 e2 h2 h3 h
  obtain ⟨h4, h5⟩ := h
  simp only [sumBy] at h4 h5
  exact ⟨by omega, by omega⟩
theorem all_tup (n : NodeD) (L : List PodD) : allP n L = accInfo n (tupP L) := rfl
end Go.Proofs.YtbcclfiopebmpaaGreat
namespace Go.Proofs.YtbcclfiopebmpaaGreat
open Go.RowKit Go.Maps
set_option linter.unusedSimpArgs false

def kS (s : ByteArray) : Lit := .string s.data.toList
theorem kS_key {s : ByteArray} (h : s.size ≤ 140737488355328) : keyOf Tryz.prog 9 (.string s) = some (kS s) := WideMaps.keyOf_string_mk Tryz.underlying9 (Nat.le_trans h (by unfold maxLen; omega))
theorem kS_is (s : ByteArray) : WideAt.IsKeyLit (kS s) := by unfold kS; trivial
theorem kS_inj {s t : ByteArray} (h : kS s = kS t) : s = t := by
  unfold kS at h
  injection h with h
  cases s; cases t
  simp only [ByteArray.mk.injEq] at h ⊢
  exact Array.toList_inj.1 h
theorem run_makeSet (n : Int) (w : World) : (Instr.makeMap 74 (some (.int .i64 n))).run Tryz.prog w = .ok (.map (some w.heap.size)) (w.alloc (.map #[] 0)) := by
  simp [Instr.makeMap, run_underlying Tryz.underlying74, asInt, newObj, asIntOf, Result.andThen]
  rfl
theorem lawS : Keyed Tryz.prog 9 := string_keyed Tryz.underlying9
theorem zeroU (w : World) : (zeroValue 75).run Tryz.prog w = .ok (.agg #[]) w := by kernel_rfl
/-- The map in block mb holds just the texts of which q says so; at most n. -/
def SetAt (w : World) (mb n : Nat) (q : ByteArray → Bool) : Prop :=
  ∃ D : DataW Unit, w.ownsMap Tryz.prog 9 unitElem mb n D ∧ ∀ s, Maps.has D (kS s) = q s
theorem SetAt.lt {w : World} {mb n : Nat} {q : ByteArray → Bool} (h : SetAt w mb n q) : mb < w.heap.size := by
  obtain ⟨D, ⟨es, ck, hb, _⟩, _⟩ := h
  rcases Nat.lt_or_ge mb w.heap.size with h | h
  · exact h
  · rw [Array.getElem?_eq_none h] at hb; cases hb
theorem SetAt.same {w w' : World} {mb n : Nat} {q : ByteArray → Bool} (h : SetAt w mb n q) (hb : w'.heap[mb]? = w.heap[mb]?) : SetAt w' mb n q := by
  obtain ⟨D, ⟨es, ck, h1, h2⟩, h3⟩ := h
  exact ⟨D, ⟨es, ck, hb.trans h1, h2⟩, h3⟩
theorem SetAt.on {w w' : World} {mb n : Nat} {q : ByteArray → Bool} (h : SetAt w mb n q) (hb : Below w.heap.size w w') : SetAt w' mb n q := h.same (hb.block mb h.lt)
theorem SetAt.grown {w w' : World} {mb n : Nat} {q : ByteArray → Bool} {row : Option Nat} (h : SetAt w mb n q) (hg : w.grownBy w' row) (hr : row ≠ some mb) : SetAt w' mb n q := h.same (hg.block mb h.lt (fun e => hr e.symm))
theorem SetAt.made (w : World) : SetAt (w.alloc (.map #[] 0)) w.heap.size 0 (fun _ => false) := ⟨.map [], World.ownsMap_made _ _ _ _, fun _ => rfl⟩
theorem SetAt.mono {w : World} {mb n n' : Nat} {q : ByteArray → Bool} (h : SetAt w mb n q) (hn : n ≤ n') : SetAt w mb n' q := by
  obtain ⟨D, h1, h2⟩ := h
  exact ⟨D, h1.mono hn, h2⟩
theorem SetAt.as {w : World} {mb n : Nat} {q q' : ByteArray → Bool} (h : SetAt w mb n q) (e : ∀ s, q s = q' s) : SetAt w mb n q' := by
  obtain ⟨D, h1, h2⟩ := h
  exact ⟨D, h1, fun s => (h2 s).trans (e s)⟩
section
variable {α : Type} [Inhabited α] {R : Rep α} {k : Nat}
/-- A row of cells lies in another block than a map. -/
theorem Row.ne_set {A : Where} {w0 u : World} {e : TypeId} {v : Value} {L : List α} (h : Row R k A w0 u e v L) {mb n : Nat} {q : ByteArray → Bool} (hs : SetAt u mb n q) : v.ownBlock ≠ some mb := by
  intro hv
  obtain ⟨xs, ⟨_, _, h2⟩, _⟩ := h
  obtain ⟨D, ⟨es, ck, h3, _⟩, _⟩ := hs
  rcases h2 with ⟨rfl, _⟩ | ⟨g, cap, cur, rfl, _, hg, _⟩
  · simp [Value.ownBlock] at hv
  · have e : g = mb := by simpa [Value.ownBlock] using hv
    subst e
    rw [hg] at h3
    cases h3
end
section
variable {ops : Array Oper} {rest : List Oper} {o : Oper} {a : Act} {Q : Exit → Act → World → Prop} {w : World}
/-- '_, ok := m[s]'. -/
theorem set_look (hg : o.guard = none) (m x : Operand) (t : TypeId) (hop : o.op = Op.lookup t m x true) (ht : Tryz.prog.underlying t = some (.map 9 75)) (mb n : Nat) (q : ByteArray → Bool) (s : ByteArray) (hsz : s.size ≤ 140737488355328)
    (hm : a.eval m = .map (some mb)) (hown : SetAt w mb n q) (hx : a.eval x = .string s) (b : Bool) (hq : q s = b) (hK : wpList Tryz.prog ops Q rest (a.put o.dst (.tuple #[.agg #[], .bool b])) w) : wpList Tryz.prog ops Q (o :: rest) a w := by
  subst hq
  obtain ⟨D, h1, h2⟩ := hown
  refine wpList_lookup_own_unit (H := Unit) w hg m x t hop 9 75 lawS ht (zeroU _) mb n D hm h1 _ (kS s) hx (kS_key hsz) ?_
  rw [h2]
  exact hK
/-- 'm[s] = struct{}{}'. -/
theorem set_put (hg : o.guard = none) (m x v : Operand) (t : TypeId) (hop : o.op = Op.mapUpdate t m x v) (ht : Tryz.prog.underlying t = some (.map 9 75)) (mb n : Nat) (q : ByteArray → Bool) (s : ByteArray) (hsz : s.size ≤ 140737488355328) (hn : n < 140737488355328)
    (hm : a.eval m = .map (some mb)) (hown : SetAt w mb n q) (hx : a.eval x = .string s) (hv : a.eval v = .agg #[])
    (hK : ∀ w', SetAt w' mb (n + 1) (fun t => q t || sEq t s) → w.grownBy w' (some mb) → wpList Tryz.prog ops Q rest (a.put o.dst undef) w') : wpList Tryz.prog ops Q (o :: rest) a w := by
  obtain ⟨D, h1, h2⟩ := hown
  refine wpList_mapUpdate_in (H := Unit) w hg m x v t hop 9 75 lawS ht unitElem mb n D hm h1 (by unfold maxLen; omega) _ _ (kS s) hx hv (kS_key hsz) _ _ unitElem_mk ?_
  intro w' h3 h4
  refine hK w' ⟨_, h3, fun t => ?_⟩ h4.grown
  by_cases e : t = s
  · subst e; rw [has_put_same h1.isMap (kS_is _)]; simp [sEq_self]
  · rw [has_put_other (fun h => e (kS_inj h)), h2]; simp [sEq_false e]
/-- 'delete(m, s)'. -/
theorem set_del (hg : o.guard = none) (m x : Operand) (t : TypeId) (hop : o.op = Op.call { callee := Callee.builtin Builtin.delete, args := #[m, x], argTypes := #[t, 9] }) (ht : Tryz.prog.underlying t = some (.map 9 75)) (mb n : Nat) (q : ByteArray → Bool) (s : ByteArray) (hsz : s.size ≤ 140737488355328)
    (hm : a.eval m = .map (some mb)) (hown : SetAt w mb n q) (hx : a.eval x = .string s)
    (hK : ∀ w', SetAt w' mb n (fun t => q t && !sEq t s) → w.grownBy w' (some mb) → wpList Tryz.prog ops Q rest (a.put o.dst (.tuple #[])) w') : wpList Tryz.prog ops Q (o :: rest) a w := by
  obtain ⟨D, h1, h2⟩ := hown
  refine wpList_delete_own (H := Unit) w hg m x t 9 hop 75 lawS ht unitElem mb n D hm h1 _ (kS s) hx (kS_key hsz) ?_
  intro w' h3 h4
  refine hK w' ⟨_, h3, fun t => ?_⟩ h4.grown
  by_cases e : t = s
  · subst e; rw [has_del_same]; simp [sEq_self]
  · rw [has_del_other (fun h => e (kS_inj h)), h2]; simp [sEq_false e]
end
end Go.Proofs.YtbcclfiopebmpaaGreat
namespace Go.Proofs.YtbcclfiopebmpaaGreat
open Go.RowKit Go.Maps
set_option linter.unusedSimpArgs false
set_option maxRecDepth 100000

theorem wpl_at {P : Program} {ops : Array Oper} {Q : Exit → Act → World → Prop} {rest : List Oper} {a : Act} {u W : World} (h : W = u) (k : wpList P ops Q rest a W) : wpList P ops Q rest a u := h ▸ k
theorem range_grown {u u' : World} {D o : Nat} {cs : List Value} {row : Option Nat} (h : u.rangeAt D o cs) (hD : D < u.heap.size) (hg : u.grownBy u' row) (hr : row ≠ some D) : u'.rangeAt D o cs := fun j v hj => (World.cell?_of_block (w := u) (a := ⟨D, o + j, none⟩) (hg.block D hD (fun e => hr e.symm))).trans (h j v hj)
/-- A pod's cells with its name written out. -/
theorem RPod.lit0 {A : Where} {w : World} {cs : List Value} {q : PodD} (h : RPod A w cs q) : q.1.size ≤ 140737488355328 ∧ ∃ v1 v2 v3 v4 v5 v6 v7 v8 v9 v10 v11 v12 v13 v14 v15 : Value, cs = [.string q.1, v1, v2, v3, v4, v5, v6, v7, v8, v9, v10, v11, v12, v13, v14, v15] := by
  obtain ⟨_, _, _, _, _, _, _, _, _, rfl, hp, _⟩ := h.out
  exact ⟨hp, _, _, _, _, _, _, _, _, _, _, _, _, _, _, _, rfl⟩
set_option maxHeartbeats 1000000 in
theorem podName_calls (cs : List Value) (q : PodD) (A : Where) (w : World) (h : Hid (RPod A w cs q)) : Calls Tryz.prog 20 #[.agg cs.toArray] w fun e w' => e = .returned (.string q.1) ∧ Below w.heap.size w w' := by
  obtain ⟨_, v1, v2, v3, v4, v5, v6, v7, v8, v9, v10, v11, v12, v13, v14, v15, rfl⟩ := h.out.lit0
  obtain ⟨W1, hW1⟩ : ∃ W1, W1 = w.alloc (.cells #[.string q.1, v1, v2, v3, v4, v5, v6, v7, v8, v9, v10, v11, v12, v13, v14, v15] 33) := ⟨_, rfl⟩
  have HB : Hid (Below w.heap.size w W1) := by rw [hW1]; exact (Below.refl _ _).alloc (Nat.le_refl _) _
  have c0 := ((BoxL.new w 33 [.string q.1, v1, v2, v3, v4, v5, v6, v7, v8, v9, v10, v11, v12, v13, v14, v15]).2 0 _ rfl).1
  have HW : Hid (W1 = w.alloc (.cells #[.string q.1, v1, v2, v3, v4, v5, v6, v7, v8, v9, v10, v11, v12, v13, v14, v15] 33)) := hW1
  rw [show (w.alloc (.cells ([.string q.1, v1, v2, v3, v4, v5, v6, v7, v8, v9, v10, v11, v12, v13, v14, v15] : List Value).toArray 33)) = W1 from hW1.symm] at c0
  clear hW1 h
  go_enter Tryz.func20, Tryz.ntmps20
  go_wp2_with fail
  go_ret
  exact ⟨by simp, HW.out ▸ HB.out⟩
/-- The set of names that were seen, and the row of those that count. -/
structure FirSt (A : Where) (w u : World) (mb n : Nat) (v : Value) (F : List PodD) : Prop where
  set : SetAt u mb n (fun s => hasB sEq (nameL F) s)
  row : Row RPod 16 (fun b => A b ∧ b < w.heap.size) w u 33 v F
theorem FirSt.on {A : Where} {w u u' : World} {mb n : Nat} {v : Value} {F : List PodD} (h : FirSt A w u mb n v F) (hb : Below u.heap.size u u') : FirSt A w u' mb n v F := ⟨h.set.on hb, h.row.on RPod.firm hb⟩
theorem hasB_snoc (V : List ByteArray) (x s : ByteArray) : hasB sEq (V ++ [x]) s = (hasB sEq V s || sEq s x) := by
  have : sEq x s = sEq s x := by unfold sEq; rw [BEq.comm]
  simp [hasB, this]
set_option maxHeartbeats 8000000 in
theorem firsts_calls (a : Option Addr) (n cap : Nat) (A : Where) (L : List PodD) (w : World) (hL : Hid (SlAt RPod 16 296 A w a n cap L)) : Calls Tryz.prog 19 #[.slice a n cap, .func (.func 20) #[] #[]] w fun e w' => ∃ v, e = .returned v ∧ Row RPod 16 (fun b => A b ∧ b < w.heap.size) w w' 33 v (firstsP L) := by
  have hmm := run_makeSet
  have hlen := hL.out.len (by decide)
  have hn : Hid (L.length = n) := hL.out.1
  have hbb : Hid (n * 296 ≤ 140737488351232) := hL.out.2.2.2.1
  obtain ⟨W1, hW1⟩ : ∃ W1, W1 = w.alloc (.map #[] 0) := ⟨_, rfl⟩
  have H0 : Hid (FirSt A w W1 w.heap.size 0 (.slice none 0 0) (firstsP (L.take 0))) := by
    rw [hW1]
    exact ⟨(SetAt.made w).as (fun s => rfl), (Row.nil _ w _).on RPod.firm ((Below.refl _ _).alloc (Nat.le_refl _) _)⟩
  go_enter Tryz.func19, Tryz.ntmps19
  go_wp2_with fail
  rw [← hW1]
  clear hW1
  go_loopw [5, 16] (fun v i wr => ∃ k : Nat, k ≤ n ∧ i = .int .i64 k ∧ Hid (FirSt A w wr w.heap.size k v (firstsP (L.take k)))) (fun _ i _ => n - (intOf i).toNat)
  case atStart => exact ⟨0, Nat.zero_le _, rfl, H0⟩
  case round =>
    obtain ⟨k, hk, rfl, hst⟩ := hrel
    by_cases hlt : k < n
    · have hltz : (k : Int) < (n : Int) := by omega
      have hkl : k < L.length := by rw [hn.out]; exact hlt
      have hbw : Below w.heap.size w wr := hst.out.row.below
      obtain ⟨D, off, rfl, hD, _, cs, hr, hv⟩ := hL.out.get hlt
      have HT : Hid (firstsP (L.take (k + 1)) = fstStep (firstsP (L.take k)) (L.getD k default)) := firsts_succ L hkl
      have HCt : Hid ((firstsP (L.take k)).length ≤ k) := firsts_len L k (by omega)
      generalize L.getD k default = q at hr HT
      generalize firstsP (L.take k) = G at hst HT HCt
      have hrA : RPod (fun b => A b ∧ b < w.heap.size) w cs q := RPod.firm.weak hr (fun b hb h => ⟨h, hb⟩)
      obtain ⟨hsz, v1, v2, v3, v4, v5, v6, v7, v8, v9, v10, v11, v12, v13, v14, v15, rfl⟩ := hr.lit0
      have HV : Hid (wr.rangeAt D (off + k * 16) [.string q.1, v1, v2, v3, v4, v5, v6, v7, v8, v9, v10, v11, v12, v13, v14, v15]) := fun j v hj => (hbw.cell hD).trans (hv j v hj)
      have hi : (Tryz.prog.info? 33).map (·.size) = some ([.string q.1, v1, v2, v3, v4, v5, v6, v7, v8, v9, v10, v11, v12, v13, v14, v15] : List Value).length := sizePod
      have H1 : Hid ((([.string q.1, v1, v2, v3, v4, v5, v6, v7, v8, v9, v10, v11, v12, v13, v14, v15] : List Value).toArray).all (·.oneCell') = true) := all_oneCell_toArray (RPod.firm.one hr)
      have HA : Hid (RPod (fun b => A b ∧ b < w.heap.size) w [.string q.1, v1, v2, v3, v4, v5, v6, v7, v8, v9, v10, v11, v12, v13, v14, v15] q) := hrA
      clear hr hv hrA
      obtain ⟨wb, hwb⟩ : ∃ wb, wb = (wr.alloc (.cells #[.string ⟨#[]⟩, .int .i64 0, .slice none 0 0, .int .i64 0, .int .i64 0, .int .i64 0, .slice none 0 0, .slice none 0 0, .slice none 0 0, .slice none 0 0, .slice none 0 0, .slice none 0 0, .slice none 0 0, .slice none 0 0, .string ⟨#[]⟩, .string ⟨#[]⟩] 33)).setCells wr.heap.size 0 [.string q.1, v1, v2, v3, v4, v5, v6, v7, v8, v9, v10, v11, v12, v13, v14, v15] := ⟨_, rfl⟩
      have HTH : Hid ((wr.alloc (.cells #[.string ⟨#[]⟩, .int .i64 0, .slice none 0 0, .int .i64 0, .int .i64 0, .int .i64 0, .slice none 0 0, .slice none 0 0, .slice none 0 0, .slice none 0 0, .slice none 0 0, .slice none 0 0, .slice none 0 0, .slice none 0 0, .string ⟨#[]⟩, .string ⟨#[]⟩] 33)).there wr.heap.size 0 16) := (BoxL.new wr 33 [.string ⟨#[]⟩, .int .i64 0, .slice none 0 0, .int .i64 0, .int .i64 0, .int .i64 0, .slice none 0 0, .slice none 0 0, .slice none 0 0, .slice none 0 0, .slice none 0 0, .slice none 0 0, .slice none 0 0, .slice none 0 0, .string ⟨#[]⟩, .string ⟨#[]⟩]).there
      have HRG : Hid (wb.rangeAt wr.heap.size 0 [.string q.1, v1, v2, v3, v4, v5, v6, v7, v8, v9, v10, v11, v12, v13, v14, v15]) := by rw [hwb]; exact World.rangeAt_setCells_same _ _ _ _ HTH.out
      have HBB : Hid (Below wr.heap.size wr wb) := by rw [hwb]; exact below_setCells ((Below.refl _ _).alloc (Nat.le_refl _) _) (Nat.le_refl _)
      have HSZ : Hid (wr.heap.size < wb.heap.size) := World.block_lt_of_cell? wb ⟨wr.heap.size, 0 + 0, none⟩ (HRG.out 0 _ rfl)
      have HWB : Hid (wb = (wr.alloc (.cells #[.string ⟨#[]⟩, .int .i64 0, .slice none 0 0, .int .i64 0, .int .i64 0, .int .i64 0, .slice none 0 0, .slice none 0 0, .slice none 0 0, .slice none 0 0, .slice none 0 0, .slice none 0 0, .slice none 0 0, .slice none 0 0, .string ⟨#[]⟩, .string ⟨#[]⟩] 33)).setCells wr.heap.size 0 (([.string q.1, v1, v2, v3, v4, v5, v6, v7, v8, v9, v10, v11, v12, v13, v14, v15] : List Value).toArray).toList) := hwb
      clear hwb
      have HP : Hid (∀ u, Below wb.heap.size wb u → RPod (fun b => A b ∧ b < w.heap.size) u [.string q.1, v1, v2, v3, v4, v5, v6, v7, v8, v9, v10, v11, v12, v13, v14, v15] q) := fun u hb => RPod.firm.kept HA.out (Kept.below (on2 (on2 hbw HBB.out) hb))
      go_wp2_with (first | (refine wpList_load_mid rfl 33 _ rfl D (off + k * 16) rfl [.string q.1, v1, v2, v3, v4, v5, v6, v7, v8, v9, v10, v11, v12, v13, v14, v15] _ HV.out Tryz.underlying33 rfl hi ?_) | (refine wpList_store_mid rfl 33 _ _ rfl wr.heap.size 0 (([.string q.1, v1, v2, v3, v4, v5, v6, v7, v8, v9, v10, v11, v12, v13, v14, v15] : List Value).toArray) rfl rfl HTH.out hi H1.out ?_; refine wpl_at HWB.out ?_) | (refine wpList_load_mid rfl 33 _ rfl wr.heap.size 0 rfl [.string q.1, v1, v2, v3, v4, v5, v6, v7, v8, v9, v10, v11, v12, v13, v14, v15] _ HRG.out Tryz.underlying33 rfl hi ?_))
      refine (podName_calls [.string q.1, v1, v2, v3, v4, v5, v6, v7, v8, v9, v10, v11, v12, v13, v14, v15] q _ wb (HP.out wb (Below.refl _ _))).mono ?_
      rintro e wc ⟨rfl, hbc⟩
      have HSc : Hid (SetAt wc w.heap.size k (fun s => hasB sEq (nameL G) s)) := (hst.out.set.on HBB.out).on hbc
      cases hq : hasB sEq (nameL G) q.1
      · have HSc2 : Hid (∀ u, Below wc.heap.size wc u → SetAt u w.heap.size k (fun s => hasB sEq (nameL G) s)) := fun u hb => HSc.out.on hb
        have HRc : Hid (∀ u, Below wc.heap.size wc u → u.rangeAt wr.heap.size 0 [.string q.1, v1, v2, v3, v4, v5, v6, v7, v8, v9, v10, v11, v12, v13, v14, v15] ∧ wr.heap.size < u.heap.size) := fun u hb => ⟨range_on (range_on HRG.out hbc HSZ.out) hb (Nat.lt_of_lt_of_le HSZ.out hbc.size), Nat.lt_of_lt_of_le (Nat.lt_of_lt_of_le HSZ.out hbc.size) hb.size⟩
        have HQ : Hid (hasB sEq (nameL G) q.1 = false) := hq
        clear hq
        obtain ⟨wd, hwd⟩ : ∃ wd, wd = wc.alloc (.cells #[] 75) := ⟨_, rfl⟩
        have hbd : Below wc.heap.size wc wd := by rw [hwd]; exact (Below.refl _ _).alloc (Nat.le_refl _) _
        have HRd := (HRc.out wd hbd).1
        have HRd2 : Hid (wd.rangeAt wr.heap.size 0 [.string q.1, v1, v2, v3, v4, v5, v6, v7, v8, v9, v10, v11, v12, v13, v14, v15]) := HRd
        clear HRd
        go_wp2_with (first | (at_lookup; refine set_look rfl _ _ 74 rfl Tryz.underlying74 w.heap.size k _ q.1 hsz rfl HSc.out rfl false HQ.out ?_) | (refine wpl_at hwd ?_; refine wpList_load_mid rfl 33 _ rfl wr.heap.size 0 rfl [.string q.1, v1, v2, v3, v4, v5, v6, v7, v8, v9, v10, v11, v12, v13, v14, v15] _ HRd2.out Tryz.underlying33 rfl hi ?_))
        rw [← hwd]
        refine (podName_calls [.string q.1, v1, v2, v3, v4, v5, v6, v7, v8, v9, v10, v11, v12, v13, v14, v15] q _ wd (HP.out wd (on2 hbc hbd))).mono ?_
        rintro e we ⟨rfl, hbe⟩
        have hce : Below wc.heap.size wc we := on2 hbd hbe
        have HSe : Hid (SetAt we w.heap.size k (fun s => hasB sEq (nameL G) s)) := HSc2.out we hce
        have hmb : w.heap.size < wr.heap.size := hst.out.set.lt
        have HRF : Hid (∀ wf, we.grownBy wf (some w.heap.size) → wf.rangeAt wr.heap.size 0 [.string q.1, v1, v2, v3, v4, v5, v6, v7, v8, v9, v10, v11, v12, v13, v14, v15]) := fun wf hg => range_grown (HRc.out we hce).1 (HRc.out we hce).2 hg (fun e => by injection e with e; omega)
        have hrw : Row RPod 16 (fun b => A b ∧ b < w.heap.size) w we 33 u5 G := ((hst.out.row.on RPod.firm HBB.out).on RPod.firm hbc).on RPod.firm hce
        have hne : Value.ownBlock u5 ≠ some w.heap.size := hrw.ne_set HSe.out
        have HRW : Hid (∀ wf, we.grownBy wf (some w.heap.size) → Row RPod 16 (fun b => A b ∧ b < w.heap.size) w wf 33 u5 G) := fun wf hg => hrw.grown RPod.firm hg (fun b hb => by injection hb with hb; subst hb; exact ⟨Nat.le_refl _, hne, fun h => Nat.lt_irrefl _ h.2⟩)
        have HR3 : Hid (∀ wf, we.grownBy wf (some w.heap.size) → Row RPod 16 (fun b => A b ∧ b < w.heap.size) w (wf.alloc (.cells #[.string q.1, v1, v2, v3, v4, v5, v6, v7, v8, v9, v10, v11, v12, v13, v14, v15] 33)) 33 u5 G) := fun wf hg => (HRW.out wf hg).on RPod.firm ((Below.refl _ _).alloc (Nat.le_refl _) _)
        have HCh : Hid (∀ wf, we.grownBy wf (some w.heap.size) → Chunks RPod 16 (fun b => (fun b => A b ∧ b < w.heap.size) b ∧ Value.ownBlock u5 ≠ some b) (wf.alloc (.cells #[.string q.1, v1, v2, v3, v4, v5, v6, v7, v8, v9, v10, v11, v12, v13, v14, v15] 33)) [.string q.1, v1, v2, v3, v4, v5, v6, v7, v8, v9, v10, v11, v12, v13, v14, v15] [q]) := fun wf hg => by
          have h3 := HR3.out wf hg
          exact chunk_one RPod.firm (RPod.firm.weak (RPod.firm.kept HA.out (Kept.below h3.below)) (fun b _ hb => ⟨hb, fun e => by have h1 := (h3.lt e).1; have h2 := hb.2; omega⟩))
        have HX : Hid (∀ wf : World, ∀ j v, ([.string q.1, v1, v2, v3, v4, v5, v6, v7, v8, v9, v10, v11, v12, v13, v14, v15] : List Value)[j]? = some v → (wf.alloc (.cells #[.string q.1, v1, v2, v3, v4, v5, v6, v7, v8, v9, v10, v11, v12, v13, v14, v15] 33)).cell? ((⟨wf.heap.size, 0, none⟩ : Addr).add j) = some v) := fun wf => one_cells wf _ 33
        have HO : Hid (∀ v ∈ [.string q.1, v1, v2, v3, v4, v5, v6, v7, v8, v9, v10, v11, v12, v13, v14, v15], v.oneCell' = true) := RPod.firm.one HA.out
        have HLb : Hid ((G.length + [q].length) * 296 ≤ 140737488355328) := by have h1 := bytes_le hbb.out hlt; have h2 := HCt.out; rw [Hid, List.length_singleton]; omega
        have hkn : k < 140737488355328 := by omega
        have HE : Hid (∀ (wf : World) (vn : Value) (w4 : World), SetAt wf w.heap.size (k + 1) (fun t => hasB sEq (nameL G) t || sEq t q.1) → Row RPod 16 (fun b => A b ∧ b < w.heap.size) w w4 33 vn (G ++ [q]) → (wf.alloc (.cells #[.string q.1, v1, v2, v3, v4, v5, v6, v7, v8, v9, v10, v11, v12, v13, v14, v15] 33)).grownBy w4 (Value.ownBlock u5) → FirSt A w w4 w.heap.size (k + 1) vn (firstsP (L.take (k + 1)))) := fun wf vn w4 hs hr hg => by
          have e1 : firstsP (L.take (k + 1)) = G ++ [q] := by rw [HT.out]; unfold fstStep; rw [HQ.out]; rfl
          rw [e1]
          exact ⟨((hs.on ((Below.refl _ _).alloc (Nat.le_refl _) _)).grown hg hne).as (fun s => by rw [show nameL (G ++ [q]) = nameL G ++ [q.1] by simp [nameL], hasB_snoc]), hr⟩
        clear hrw hne HRc HSc2 HRW hce hbe hbd hwd HRd2 HV HTH HWB H1
        go_wp2_with (first | (at_mapUpdate; go_must (refine set_put rfl _ _ _ 74 rfl Tryz.underlying74 w.heap.size k _ q.1 hsz hkn rfl HSe.out rfl rfl ?_); intro wf hsf hgf) | (refine wpList_load_mid rfl 33 _ rfl wr.heap.size 0 rfl [.string q.1, v1, v2, v3, v4, v5, v6, v7, v8, v9, v10, v11, v12, v13, v14, v15] _ (HRF.out _ hgf) Tryz.underlying33 rfl hi ?_) | (at_builtin; go_must (refine row_append RPod.firm (A := (fun b => A b ∧ b < w.heap.size)) (w0 := w) rfl _ _ 37 33 rfl _ 296 infoPod Tryz.underlying37 rfl (by decide) (by decide) u5 G rfl (HR3.out _ hgf) ⟨wf.heap.size, 0, none⟩ 1 1 _ [q] rfl rfl (HCh.out _ hgf) (HX.out _) HO.out HLb.out ?_); intro vn w4 hrow4 hg4))
        have HZ := HE.out wf vn w4 hsf hrow4 hg4
        go_roundw
        case rel => exact ⟨k + 1, by omega, by go_num, HZ⟩
        case measure => simp [intOf]; omega
      · have HZ : Hid (FirSt A w (wc.alloc (.cells #[] 75)) w.heap.size (k + 1) u5 (firstsP (L.take (k + 1)))) := by
          have e1 : firstsP (L.take (k + 1)) = G := by rw [HT.out]; unfold fstStep; rw [hq]; rfl
          rw [Hid, e1]
          have h1 := ((hst.out.on HBB.out).on hbc).on ((Below.refl wc.heap.size wc).alloc (Nat.le_refl _) (.cells #[] 75))
          exact ⟨h1.set.mono (Nat.le_succ _), h1.row⟩
        clear HV HTH HWB H1 HT
        go_wp2_with (at_lookup; refine set_look rfl _ _ 74 rfl Tryz.underlying74 w.heap.size k _ q.1 hsz rfl HSc.out rfl true hq ?_)
        go_roundw
        case rel => exact ⟨k + 1, by omega, by go_num, HZ⟩
        case measure => simp [intOf]; omega
    · have hk9 : L.take k = L := List.take_of_length_le (by rw [hn.out]; omega)
      rw [hk9] at hst
      have hlz : ¬ ((k : Int) < (n : Int)) := by omega
      go_wp2_with fail
      go_ret
      exact ⟨_, rfl, hst.out.row⟩
end Go.Proofs.YtbcclfiopebmpaaGreat
