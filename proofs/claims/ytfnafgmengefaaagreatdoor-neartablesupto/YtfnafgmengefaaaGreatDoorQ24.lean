/- The chapter's example works. Condition: the table of powers of ten is laid as the program's text lays it. -/
import Derived.Test.YtfnafgmengefaaaGreatDoorQ23
namespace Go.Proofs.YtfnafgmengefaaaGreatDoor
open Go.RowKit Go.Maps
set_option linter.unusedSimpArgs false
set_option maxRecDepth 100000

def WkS (Pb Qb : Nat) (ps qs : List Value) (u : World) : Prop := BoxL u Pb ps ∧ BoxL u Qb qs
set_option maxHeartbeats 16000000 in
theorem works8_calls (w : World) (htab : Hid (TB w.heap.size w)) : Calls Tryz.prog 12 #[] w fun e w' => e = .returned (.bool true) ∧ Below w.heap.size w w' := by
  have HTab : Hid (∀ u, Below w.heap.size w u → TB u.heap.size u) := fun u hb w' h => htab.out w' (on2 hb h)
  clear htab
  obtain ⟨U2, hU2⟩ : ∃ U, U = (w.alloc (.cells #[.string ⟨#[97, 112, 112]⟩, .string ⟨#[120]⟩] 55)).alloc (.cells #[.string ⟨#[122, 111, 110, 101]⟩, .string ⟨#[49]⟩] 55) := ⟨_, rfl⟩
  have hz2 : U2.heap.size = w.heap.size + 1 + 1 := by rw [hU2]; simp
  obtain ⟨U3, hU3⟩ : ∃ U, U = (((w.alloc (.cells #[.string ⟨#[97, 112, 112]⟩, .string ⟨#[120]⟩] 55)).alloc (.cells #[.string ⟨#[122, 111, 110, 101]⟩, .string ⟨#[49]⟩] 55)).alloc (.cells #[.string ⟨#[]⟩, .int .i64 0, .slice none 0 0, .int .i64 0, .int .i64 0, .int .i64 0, .slice none 0 0, .slice none 0 0, .slice none 0 0, .slice none 0 0, .slice none 0 0, .slice none 0 0, .slice none 0 0, .slice none 0 0, .string ⟨#[]⟩, .string ⟨#[]⟩, .slice none 0 0] 41)).setCells (w.heap.size + 1 + 1) 0 [.string ⟨#[97]⟩, .int .i64 0, .slice (some ⟨w.heap.size, 0, none⟩) 1 1, .int .i64 0, .int .i64 0, .int .i64 0, .slice none 0 0, .slice none 0 0, .slice none 0 0, .slice none 0 0, .slice none 0 0, .slice none 0 0, .slice none 0 0, .slice none 0 0, .string ⟨#[]⟩, .string ⟨#[]⟩, .slice (some ⟨w.heap.size + 1, 0, none⟩) 1 1] := ⟨_, rfl⟩
  have hzz : BoxL (((w.alloc (.cells #[.string ⟨#[97, 112, 112]⟩, .string ⟨#[120]⟩] 55)).alloc (.cells #[.string ⟨#[122, 111, 110, 101]⟩, .string ⟨#[49]⟩] 55)).alloc (.cells #[.string ⟨#[]⟩, .int .i64 0, .slice none 0 0, .int .i64 0, .int .i64 0, .int .i64 0, .slice none 0 0, .slice none 0 0, .slice none 0 0, .slice none 0 0, .slice none 0 0, .slice none 0 0, .slice none 0 0, .slice none 0 0, .string ⟨#[]⟩, .string ⟨#[]⟩, .slice none 0 0] 41)) (w.heap.size + 1 + 1) [.string ⟨#[]⟩, .int .i64 0, .slice none 0 0, .int .i64 0, .int .i64 0, .int .i64 0, .slice none 0 0, .slice none 0 0, .slice none 0 0, .slice none 0 0, .slice none 0 0, .slice none 0 0, .slice none 0 0, .slice none 0 0, .string ⟨#[]⟩, .string ⟨#[]⟩, .slice none 0 0] := by rw [← hU2, ← hz2]; exact BoxL.new U2 41 [.string ⟨#[]⟩, .int .i64 0, .slice none 0 0, .int .i64 0, .int .i64 0, .int .i64 0, .slice none 0 0, .slice none 0 0, .slice none 0 0, .slice none 0 0, .slice none 0 0, .slice none 0 0, .slice none 0 0, .slice none 0 0, .string ⟨#[]⟩, .string ⟨#[]⟩, .slice none 0 0]
  have HTh : Hid ((((w.alloc (.cells #[.string ⟨#[97, 112, 112]⟩, .string ⟨#[120]⟩] 55)).alloc (.cells #[.string ⟨#[122, 111, 110, 101]⟩, .string ⟨#[49]⟩] 55)).alloc (.cells #[.string ⟨#[]⟩, .int .i64 0, .slice none 0 0, .int .i64 0, .int .i64 0, .int .i64 0, .slice none 0 0, .slice none 0 0, .slice none 0 0, .slice none 0 0, .slice none 0 0, .slice none 0 0, .slice none 0 0, .slice none 0 0, .string ⟨#[]⟩, .string ⟨#[]⟩, .slice none 0 0] 41)).there (w.heap.size + 1 + 1) 0 (#[.string ⟨#[97]⟩, .int .i64 0, .slice (some ⟨w.heap.size, 0, none⟩) 1 1, .int .i64 0, .int .i64 0, .int .i64 0, .slice none 0 0, .slice none 0 0, .slice none 0 0, .slice none 0 0, .slice none 0 0, .slice none 0 0, .slice none 0 0, .slice none 0 0, .string ⟨#[]⟩, .string ⟨#[]⟩, .slice (some ⟨w.heap.size + 1, 0, none⟩) 1 1] : Array Value).size) := hzz.there
  have x03 : BoxL U3 (w.heap.size + 1 + 1) [.string ⟨#[97]⟩, .int .i64 0, .slice (some ⟨w.heap.size, 0, none⟩) 1 1, .int .i64 0, .int .i64 0, .int .i64 0, .slice none 0 0, .slice none 0 0, .slice none 0 0, .slice none 0 0, .slice none 0 0, .slice none 0 0, .slice none 0 0, .slice none 0 0, .string ⟨#[]⟩, .string ⟨#[]⟩, .slice (some ⟨w.heap.size + 1, 0, none⟩) 1 1] := by rw [hU3]; exact box_over8 hzz rfl
  have b23 : Below U2.heap.size U2 U3 := by rw [hU3, ← hU2, ← hz2]; exact below_setCells ((Below.refl _ _).alloc (Nat.le_refl _) _) (Nat.le_refl _)
  have HW3 : Hid (U3 = (((w.alloc (.cells #[.string ⟨#[97, 112, 112]⟩, .string ⟨#[120]⟩] 55)).alloc (.cells #[.string ⟨#[122, 111, 110, 101]⟩, .string ⟨#[49]⟩] 55)).alloc (.cells #[.string ⟨#[]⟩, .int .i64 0, .slice none 0 0, .int .i64 0, .int .i64 0, .int .i64 0, .slice none 0 0, .slice none 0 0, .slice none 0 0, .slice none 0 0, .slice none 0 0, .slice none 0 0, .slice none 0 0, .slice none 0 0, .string ⟨#[]⟩, .string ⟨#[]⟩, .slice none 0 0] 41)).setCells (w.heap.size + 1 + 1) 0 (#[.string ⟨#[97]⟩, .int .i64 0, .slice (some ⟨w.heap.size, 0, none⟩) 1 1, .int .i64 0, .int .i64 0, .int .i64 0, .slice none 0 0, .slice none 0 0, .slice none 0 0, .slice none 0 0, .slice none 0 0, .slice none 0 0, .slice none 0 0, .slice none 0 0, .string ⟨#[]⟩, .string ⟨#[]⟩, .slice (some ⟨w.heap.size + 1, 0, none⟩) 1 1] : Array Value).toList) := by rw [Hid, hU3]
  have l1 : BoxL U2 w.heap.size [.string ⟨#[97, 112, 112]⟩, .string ⟨#[120]⟩] := by rw [hU2]; exact (BoxL.new w 55 _).on ((Below.refl _ _).alloc (Nat.le_refl _) _)
  have l2 : BoxL U2 (w.heap.size + 1) [.string ⟨#[122, 111, 110, 101]⟩, .string ⟨#[49]⟩] := by rw [hU2]; have h1 := BoxL.new (w.alloc (.cells #[.string ⟨#[97, 112, 112]⟩, .string ⟨#[120]⟩] 55)) 55 [.string ⟨#[122, 111, 110, 101]⟩, .string ⟨#[49]⟩]; rw [World.size_alloc] at h1; exact h1
  have bw2 : Below w.heap.size w U2 := by rw [hU2]; go_grown
  obtain ⟨U4, hU4⟩ : ∃ U, U = U3.alloc (.cells #[.string ⟨#[97]⟩, .int .i64 0, .slice (some ⟨w.heap.size, 0, none⟩) 1 1, .int .i64 0, .int .i64 0, .int .i64 0, .slice none 0 0, .slice none 0 0, .slice none 0 0, .slice none 0 0, .slice none 0 0, .slice none 0 0, .slice none 0 0, .slice none 0 0, .string ⟨#[]⟩, .string ⟨#[]⟩, .slice (some ⟨w.heap.size + 1, 0, none⟩) 1 1] 41) := ⟨_, rfl⟩
  have b34 : Below U3.heap.size U3 U4 := by rw [hU4]; go_grown
  have x1 : BoxL U4 U3.heap.size [.string ⟨#[97]⟩, .int .i64 0, .slice (some ⟨w.heap.size, 0, none⟩) 1 1, .int .i64 0, .int .i64 0, .int .i64 0, .slice none 0 0, .slice none 0 0, .slice none 0 0, .slice none 0 0, .slice none 0 0, .slice none 0 0, .slice none 0 0, .slice none 0 0, .string ⟨#[]⟩, .string ⟨#[]⟩, .slice (some ⟨w.heap.size + 1, 0, none⟩) 1 1] := by rw [hU4]; exact BoxL.new U3 41 [.string ⟨#[97]⟩, .int .i64 0, .slice (some ⟨w.heap.size, 0, none⟩) 1 1, .int .i64 0, .int .i64 0, .int .i64 0, .slice none 0 0, .slice none 0 0, .slice none 0 0, .slice none 0 0, .slice none 0 0, .slice none 0 0, .slice none 0 0, .slice none 0 0, .string ⟨#[]⟩, .string ⟨#[]⟩, .slice (some ⟨w.heap.size + 1, 0, none⟩) 1 1]
  have b24 : Below U2.heap.size U2 U4 := on2 b23 b34
  have ra : RPlaced (fun _ => True) U4 [.string ⟨#[97]⟩, .int .i64 0, .slice (some ⟨w.heap.size, 0, none⟩) 1 1, .int .i64 0, .int .i64 0, .int .i64 0, .slice none 0 0, .slice none 0 0, .slice none 0 0, .slice none 0 0, .slice none 0 0, .slice none 0 0, .slice none 0 0, .slice none 0 0, .string ⟨#[]⟩, .string ⟨#[]⟩, .slice (some ⟨w.heap.size + 1, 0, none⟩) 1 1] aD := ⟨[.string ⟨#[97]⟩, .int .i64 0, .slice (some ⟨w.heap.size, 0, none⟩) 1 1, .int .i64 0, .int .i64 0, .int .i64 0, .slice none 0 0, .slice none 0 0, .slice none 0 0, .slice none 0 0, .slice none 0 0, .slice none 0 0, .slice none 0 0, .slice none 0 0, .string ⟨#[]⟩, .string ⟨#[]⟩], [.slice (some ⟨w.heap.size + 1, 0, none⟩) 1 1], rfl, RPod.mk (x := aPod) (h2 := (some ⟨w.heap.size, 0, none⟩, 1, 1)) (h6 := (none, 0, 0)) (h7 := (none, 0, 0)) (h8 := (none, 0, 0)) (h9 := (none, 0, 0)) (h10 := (none, 0, 0)) (h11 := (none, 0, 0)) (h12 := (none, 0, 0)) (h13 := (none, 0, 0)) (show (1 : Nat) ≤ 140737488355328 by decide) (sl_one (l1.on b24) (RLabel.mk (x := (⟨#[97, 112, 112]⟩, ⟨#[120]⟩)) (show (3 : Nat) ≤ 140737488355328 by decide) (show (1 : Nat) ≤ 140737488355328 by decide)) trivial (by decide)) (SlAt.nil _ _ _ _ (fun _ => rfl)) (SlAt.nil _ _ _ _ (fun _ => rfl)) (SlAt.nil _ _ _ _ (fun _ => rfl)) (SlAt.nil _ _ _ _ (fun _ => rfl)) (SlAt.nil _ _ _ _ (fun _ => rfl)) (SlAt.nil _ _ _ _ (fun _ => rfl)) (SlAt.nil _ _ _ _ (fun _ => rfl)) (SlAt.nil _ _ _ _ (fun _ => rfl)) (show (0 : Nat) ≤ 140737488355328 by decide) (show (0 : Nat) ≤ 140737488355328 by decide), ⟨_, _, _, rfl, sl_one (l2.on b24) (RLabel.mk (x := (⟨#[122, 111, 110, 101]⟩, ⟨#[49]⟩)) (show (4 : Nat) ≤ 140737488355328 by decide) (show (1 : Nat) ≤ 140737488355328 by decide)) trivial (by decide)⟩⟩
  have HA : Hid (∀ u, Below U4.heap.size U4 u → BoxL u (w.heap.size + 1 + 1) [.string ⟨#[97]⟩, .int .i64 0, .slice (some ⟨w.heap.size, 0, none⟩) 1 1, .int .i64 0, .int .i64 0, .int .i64 0, .slice none 0 0, .slice none 0 0, .slice none 0 0, .slice none 0 0, .slice none 0 0, .slice none 0 0, .slice none 0 0, .slice none 0 0, .string ⟨#[]⟩, .string ⟨#[]⟩, .slice (some ⟨w.heap.size + 1, 0, none⟩) 1 1] ∧ RPlaced (fun _ => True) u [.string ⟨#[97]⟩, .int .i64 0, .slice (some ⟨w.heap.size, 0, none⟩) 1 1, .int .i64 0, .int .i64 0, .int .i64 0, .slice none 0 0, .slice none 0 0, .slice none 0 0, .slice none 0 0, .slice none 0 0, .slice none 0 0, .slice none 0 0, .slice none 0 0, .string ⟨#[]⟩, .string ⟨#[]⟩, .slice (some ⟨w.heap.size + 1, 0, none⟩) 1 1] aD ∧ SlAt RPlaced 17 320 (fun _ => True) u (some ⟨U3.heap.size, 0, none⟩) 1 1 [aD] ∧ Below w.heap.size w u) := fun u hb => ⟨(x03.on b34).on hb, RPlaced.firm.kept ra (Kept.below hb), sl_one (x1.on hb) (RPlaced.firm.kept ra (Kept.below hb)) trivial (by decide), on2 (on2 bw2 b24) hb⟩
  have HU4 : Hid (U4 = U3.alloc (.cells #[.string ⟨#[97]⟩, .int .i64 0, .slice (some ⟨w.heap.size, 0, none⟩) 1 1, .int .i64 0, .int .i64 0, .int .i64 0, .slice none 0 0, .slice none 0 0, .slice none 0 0, .slice none 0 0, .slice none 0 0, .slice none 0 0, .slice none 0 0, .slice none 0 0, .string ⟨#[]⟩, .string ⟨#[]⟩, .slice (some ⟨w.heap.size + 1, 0, none⟩) 1 1] 41)) := hU4
  have HR3 : Hid (U3.rangeAt (w.heap.size + 1 + 1) 0 [.string ⟨#[97]⟩, .int .i64 0, .slice (some ⟨w.heap.size, 0, none⟩) 1 1, .int .i64 0, .int .i64 0, .int .i64 0, .slice none 0 0, .slice none 0 0, .slice none 0 0, .slice none 0 0, .slice none 0 0, .slice none 0 0, .slice none 0 0, .slice none 0 0, .string ⟨#[]⟩, .string ⟨#[]⟩, .slice (some ⟨w.heap.size + 1, 0, none⟩) 1 1]) := x03.range
  have HO17 : Hid ((#[.string ⟨#[97]⟩, .int .i64 0, .slice (some ⟨w.heap.size, 0, none⟩) 1 1, .int .i64 0, .int .i64 0, .int .i64 0, .slice none 0 0, .slice none 0 0, .slice none 0 0, .slice none 0 0, .slice none 0 0, .slice none 0 0, .slice none 0 0, .slice none 0 0, .string ⟨#[]⟩, .string ⟨#[]⟩, .slice (some ⟨w.heap.size + 1, 0, none⟩) 1 1] : Array Value).all (·.oneCell') = true) := (by rw [Hid]; simp [Value.oneCell'])
  have hiA : (Tryz.prog.info? 41).map (·.size) = some (#[.string ⟨#[97]⟩, .int .i64 0, .slice (some ⟨w.heap.size, 0, none⟩) 1 1, .int .i64 0, .int .i64 0, .int .i64 0, .slice none 0 0, .slice none 0 0, .slice none 0 0, .slice none 0 0, .slice none 0 0, .slice none 0 0, .slice none 0 0, .slice none 0 0, .string ⟨#[]⟩, .string ⟨#[]⟩, .slice (some ⟨w.heap.size + 1, 0, none⟩) 1 1] : Array Value).size := sizePl
  have hiA2 : (Tryz.prog.info? 41).map (·.size) = some ([.string ⟨#[97]⟩, .int .i64 0, .slice (some ⟨w.heap.size, 0, none⟩) 1 1, .int .i64 0, .int .i64 0, .int .i64 0, .slice none 0 0, .slice none 0 0, .slice none 0 0, .slice none 0 0, .slice none 0 0, .slice none 0 0, .slice none 0 0, .slice none 0 0, .string ⟨#[]⟩, .string ⟨#[]⟩, .slice (some ⟨w.heap.size + 1, 0, none⟩) 1 1] : List Value).length := sizePl
  clear l1 l2 x1 x03 ra bw2 hU4 hU3 hU2 hz2 hzz b23 b24 b34
  go_enter Tryz.func12, Tryz.ntmps12
  go_wp2_with fail
  refine (zone_calls ⟨#[49]⟩ _).mono ?_
  rintro e u2 ⟨rfl, rfl⟩
  simp only [World.size_alloc]
  go_upto_region 3 with (first | (refine wpList_store_mid rfl 41 _ _ rfl (w.heap.size + 1 + 1) 0 #[.string ⟨#[97]⟩, .int .i64 0, .slice (some ⟨w.heap.size, 0, none⟩) 1 1, .int .i64 0, .int .i64 0, .int .i64 0, .slice none 0 0, .slice none 0 0, .slice none 0 0, .slice none 0 0, .slice none 0 0, .slice none 0 0, .slice none 0 0, .slice none 0 0, .string ⟨#[]⟩, .string ⟨#[]⟩, .slice (some ⟨w.heap.size + 1, 0, none⟩) 1 1] rfl rfl HTh.out hiA HO17.out ?_; refine wpl_w8 HW3.out ?_) | (refine wpList_load_mid rfl 41 _ rfl (w.heap.size + 1 + 1) 0 rfl [.string ⟨#[97]⟩, .int .i64 0, .slice (some ⟨w.heap.size, 0, none⟩) 1 1, .int .i64 0, .int .i64 0, .int .i64 0, .slice none 0 0, .slice none 0 0, .slice none 0 0, .slice none 0 0, .slice none 0 0, .slice none 0 0, .slice none 0 0, .slice none 0 0, .string ⟨#[]⟩, .string ⟨#[]⟩, .slice (some ⟨w.heap.size + 1, 0, none⟩) 1 1] _ HR3.out Tryz.underlying41 rfl hiA2 ?_) | fail)
  rw [← HU4.out]
  clear HU4 HTh HW3 HR3
  generalize (Value.agg #[.string ⟨#[97]⟩, .int .i64 0, .slice (some ⟨w.heap.size, 0, none⟩) 1 1, .int .i64 0, .int .i64 0, .int .i64 0, .slice none 0 0, .slice none 0 0, .slice none 0 0, .slice none 0 0, .slice none 0 0, .slice none 0 0, .slice none 0 0, .slice none 0 0, .string ⟨#[]⟩, .string ⟨#[]⟩, .slice (some ⟨w.heap.size + 1, 0, none⟩) 1 1]) = g17
  generalize (Value.agg #[.string ⟨#[97]⟩, .int .i64 0, .slice (some ⟨w.heap.size, 0, none⟩) 1 1, .int .i64 0, .int .i64 0, .int .i64 0, .slice none 0 0, .slice none 0 0, .slice none 0 0, .slice none 0 0, .slice none 0 0, .slice none 0 0, .slice none 0 0, .slice none 0 0, .string ⟨#[]⟩, .string ⟨#[]⟩]) = g16
  go_wp2_with fail
  refine (app_calls U4).mono ?_
  rintro e v3 ⟨r3, rfl, hr3, hb3⟩
  obtain ⟨X3, hX3⟩ : ∃ X, X = ((v3.alloc (.cells #[.slice (some ⟨r3, 0, none⟩) 1 1, .string ⟨#[122, 111, 110, 101]⟩] 80)).alloc (.cells #[.string ⟨#[]⟩, .int .i64 0, .slice none 0 0, .int .i64 0, .int .i64 0, .int .i64 0, .slice none 0 0, .slice none 0 0, .slice none 0 0, .slice none 0 0, .slice none 0 0, .slice none 0 0, .slice none 0 0, .slice none 0 0, .string ⟨#[]⟩, .string ⟨#[]⟩] 33)).setCells (v3.heap.size + 1) 0 [.string ⟨#[112]⟩, .int .i64 0, .slice none 0 0, .int .i64 0, .int .i64 0, .int .i64 0, .slice none 0 0, .slice none 0 0, .slice none 0 0, .slice none 0 0, .slice (some ⟨v3.heap.size, 0, none⟩) 1 1, .slice none 0 0, .slice none 0 0, .slice none 0 0, .string ⟨#[]⟩, .string ⟨#[]⟩] := ⟨_, rfl⟩
  have hzz3 : BoxL ((v3.alloc (.cells #[.slice (some ⟨r3, 0, none⟩) 1 1, .string ⟨#[122, 111, 110, 101]⟩] 80)).alloc (.cells #[.string ⟨#[]⟩, .int .i64 0, .slice none 0 0, .int .i64 0, .int .i64 0, .int .i64 0, .slice none 0 0, .slice none 0 0, .slice none 0 0, .slice none 0 0, .slice none 0 0, .slice none 0 0, .slice none 0 0, .slice none 0 0, .string ⟨#[]⟩, .string ⟨#[]⟩] 33)) (v3.heap.size + 1) [.string ⟨#[]⟩, .int .i64 0, .slice none 0 0, .int .i64 0, .int .i64 0, .int .i64 0, .slice none 0 0, .slice none 0 0, .slice none 0 0, .slice none 0 0, .slice none 0 0, .slice none 0 0, .slice none 0 0, .slice none 0 0, .string ⟨#[]⟩, .string ⟨#[]⟩] := by have h1 := BoxL.new (v3.alloc (.cells #[.slice (some ⟨r3, 0, none⟩) 1 1, .string ⟨#[122, 111, 110, 101]⟩] 80)) 33 [.string ⟨#[]⟩, .int .i64 0, .slice none 0 0, .int .i64 0, .int .i64 0, .int .i64 0, .slice none 0 0, .slice none 0 0, .slice none 0 0, .slice none 0 0, .slice none 0 0, .slice none 0 0, .slice none 0 0, .slice none 0 0, .string ⟨#[]⟩, .string ⟨#[]⟩]; rw [World.size_alloc] at h1; exact h1
  have HTh3 : Hid (((v3.alloc (.cells #[.slice (some ⟨r3, 0, none⟩) 1 1, .string ⟨#[122, 111, 110, 101]⟩] 80)).alloc (.cells #[.string ⟨#[]⟩, .int .i64 0, .slice none 0 0, .int .i64 0, .int .i64 0, .int .i64 0, .slice none 0 0, .slice none 0 0, .slice none 0 0, .slice none 0 0, .slice none 0 0, .slice none 0 0, .slice none 0 0, .slice none 0 0, .string ⟨#[]⟩, .string ⟨#[]⟩] 33)).there (v3.heap.size + 1) 0 (#[.string ⟨#[112]⟩, .int .i64 0, .slice none 0 0, .int .i64 0, .int .i64 0, .int .i64 0, .slice none 0 0, .slice none 0 0, .slice none 0 0, .slice none 0 0, .slice (some ⟨v3.heap.size, 0, none⟩) 1 1, .slice none 0 0, .slice none 0 0, .slice none 0 0, .string ⟨#[]⟩, .string ⟨#[]⟩] : Array Value).size) := hzz3.there
  have qp3 : BoxL X3 (v3.heap.size + 1) [.string ⟨#[112]⟩, .int .i64 0, .slice none 0 0, .int .i64 0, .int .i64 0, .int .i64 0, .slice none 0 0, .slice none 0 0, .slice none 0 0, .slice none 0 0, .slice (some ⟨v3.heap.size, 0, none⟩) 1 1, .slice none 0 0, .slice none 0 0, .slice none 0 0, .string ⟨#[]⟩, .string ⟨#[]⟩] := by rw [hX3]; exact box_over8 hzz3 rfl
  have bX3 : Below v3.heap.size v3 X3 := by rw [hX3]; exact below_setCells (((Below.refl _ _).alloc (Nat.le_refl _) _).alloc (by simp) _) (Nat.le_succ _)
  have qt3 : BoxL X3 v3.heap.size [.slice (some ⟨r3, 0, none⟩) 1 1, .string ⟨#[122, 111, 110, 101]⟩] := by
    have h1 := (BoxL.new v3 80 [.slice (some ⟨r3, 0, none⟩) 1 1, .string ⟨#[122, 111, 110, 101]⟩]).on ((Below.refl _ _).alloc (Nat.le_refl _) (.cells #[.string ⟨#[]⟩, .int .i64 0, .slice none 0 0, .int .i64 0, .int .i64 0, .int .i64 0, .slice none 0 0, .slice none 0 0, .slice none 0 0, .slice none 0 0, .slice none 0 0, .slice none 0 0, .slice none 0 0, .slice none 0 0, .string ⟨#[]⟩, .string ⟨#[]⟩] 33))
    rw [hX3]; exact h1.kept (kept_setCells (A := fun b => b ≠ v3.heap.size + 1) (fun h => h rfl)) (by simp)
  have HWx3 : Hid (X3 = ((v3.alloc (.cells #[.slice (some ⟨r3, 0, none⟩) 1 1, .string ⟨#[122, 111, 110, 101]⟩] 80)).alloc (.cells #[.string ⟨#[]⟩, .int .i64 0, .slice none 0 0, .int .i64 0, .int .i64 0, .int .i64 0, .slice none 0 0, .slice none 0 0, .slice none 0 0, .slice none 0 0, .slice none 0 0, .slice none 0 0, .slice none 0 0, .slice none 0 0, .string ⟨#[]⟩, .string ⟨#[]⟩] 33)).setCells (v3.heap.size + 1) 0 (#[.string ⟨#[112]⟩, .int .i64 0, .slice none 0 0, .int .i64 0, .int .i64 0, .int .i64 0, .slice none 0 0, .slice none 0 0, .slice none 0 0, .slice none 0 0, .slice (some ⟨v3.heap.size, 0, none⟩) 1 1, .slice none 0 0, .slice none 0 0, .slice none 0 0, .string ⟨#[]⟩, .string ⟨#[]⟩] : Array Value).toList) := by rw [Hid, hX3]
  have HOx3 : Hid ((#[.string ⟨#[112]⟩, .int .i64 0, .slice none 0 0, .int .i64 0, .int .i64 0, .int .i64 0, .slice none 0 0, .slice none 0 0, .slice none 0 0, .slice none 0 0, .slice (some ⟨v3.heap.size, 0, none⟩) 1 1, .slice none 0 0, .slice none 0 0, .slice none 0 0, .string ⟨#[]⟩, .string ⟨#[]⟩] : Array Value).all (·.oneCell') = true) := (by rw [Hid]; simp [Value.oneCell'])
  have hiX3 : (Tryz.prog.info? 33).map (·.size) = some (#[.string ⟨#[112]⟩, .int .i64 0, .slice none 0 0, .int .i64 0, .int .i64 0, .int .i64 0, .slice none 0 0, .slice none 0 0, .slice none 0 0, .slice none 0 0, .slice (some ⟨v3.heap.size, 0, none⟩) 1 1, .slice none 0 0, .slice none 0 0, .slice none 0 0, .string ⟨#[]⟩, .string ⟨#[]⟩] : Array Value).size := sizePo
  have rp3 : RPod (fun _ => True) X3 [.string ⟨#[112]⟩, .int .i64 0, .slice none 0 0, .int .i64 0, .int .i64 0, .int .i64 0, .slice none 0 0, .slice none 0 0, .slice none 0 0, .slice none 0 0, .slice (some ⟨v3.heap.size, 0, none⟩) 1 1, .slice none 0 0, .slice none 0 0, .slice none 0 0, .string ⟨#[]⟩, .string ⟨#[]⟩] pD := RPod.mk (x := pD) (h2 := (none, 0, 0)) (h6 := (none, 0, 0)) (h7 := (none, 0, 0)) (h8 := (none, 0, 0)) (h9 := (none, 0, 0)) (h10 := (some ⟨v3.heap.size, 0, none⟩, 1, 1)) (h11 := (none, 0, 0)) (h12 := (none, 0, 0)) (h13 := (none, 0, 0)) (show (1 : Nat) ≤ 140737488355328 by decide) (SlAt.nil _ _ _ _ (fun _ => rfl)) (SlAt.nil _ _ _ _ (fun _ => rfl)) (SlAt.nil _ _ _ _ (fun _ => rfl)) (SlAt.nil _ _ _ _ (fun _ => rfl)) (SlAt.nil _ _ _ _ (fun _ => rfl)) (sl_one qt3 (RTerm.firm.kept hr3 (Kept.below bX3)) trivial (by decide)) (SlAt.nil _ _ _ _ (fun _ => rfl)) (SlAt.nil _ _ _ _ (fun _ => rfl)) (SlAt.nil _ _ _ _ (fun _ => rfl)) (show (0 : Nat) ≤ 140737488355328 by decide) (show (0 : Nat) ≤ 140737488355328 by decide)
  obtain ⟨ps, hps⟩ : ∃ l : List Value, l = [.string ⟨#[112]⟩, .int .i64 0, .slice none 0 0, .int .i64 0, .int .i64 0, .int .i64 0, .slice none 0 0, .slice none 0 0, .slice none 0 0, .slice none 0 0, .slice (some ⟨v3.heap.size, 0, none⟩) 1 1, .slice none 0 0, .slice none 0 0, .slice none 0 0, .string ⟨#[]⟩, .string ⟨#[]⟩] := ⟨_, rfl⟩
  rw [← hps] at qp3 rp3
  have B3 : Below U4.heap.size U4 X3 := on2 (Below.refl _ _) (on2 hb3 bX3)
  have HP3 : Hid (∀ u, Below X3.heap.size X3 u → BoxL u (v3.heap.size + 1) ps ∧ RPod (fun _ => True) u ps pD) := fun u hb => ⟨qp3.on hb, RPod.firm.kept rp3 (Kept.below hb)⟩
  have Hps : Hid (ps = [.string ⟨#[112]⟩, .int .i64 0, .slice none 0 0, .int .i64 0, .int .i64 0, .int .i64 0, .slice none 0 0, .slice none 0 0, .slice none 0 0, .slice none 0 0, .slice (some ⟨v3.heap.size, 0, none⟩) 1 1, .slice none 0 0, .slice none 0 0, .slice none 0 0, .string ⟨#[]⟩, .string ⟨#[]⟩]) := hps
  clear qt3 qp3 rp3 bX3 hr3 hb3 hps
  clear hX3 hzz3
  go_upto_region 4 with (first | (refine wpList_store_mid rfl 33 _ _ rfl (v3.heap.size + 1) 0 #[.string ⟨#[112]⟩, .int .i64 0, .slice none 0 0, .int .i64 0, .int .i64 0, .int .i64 0, .slice none 0 0, .slice none 0 0, .slice none 0 0, .slice none 0 0, .slice (some ⟨v3.heap.size, 0, none⟩) 1 1, .slice none 0 0, .slice none 0 0, .slice none 0 0, .string ⟨#[]⟩, .string ⟨#[]⟩] rfl rfl HTh3.out hiX3 HOx3.out ?_; refine wpl_w8 HWx3.out ?_) | fail)
  clear HTh3 HWx3 HOx3 hiX3
  generalize (Value.agg #[.string ⟨#[112]⟩, .int .i64 0, .slice none 0 0, .int .i64 0, .int .i64 0, .int .i64 0, .slice none 0 0, .slice none 0 0, .slice none 0 0, .slice none 0 0, .slice (some ⟨v3.heap.size, 0, none⟩) 1 1, .slice none 0 0, .slice none 0 0, .slice none 0 0, .string ⟨#[]⟩, .string ⟨#[]⟩]) = gp3
  go_wp2_with fail
  refine (app_calls X3).mono ?_
  rintro e v4 ⟨r4, rfl, hr4, hb4⟩
  obtain ⟨X4, hX4⟩ : ∃ X, X = ((v4.alloc (.cells #[.slice (some ⟨r4, 0, none⟩) 1 1, .string ⟨#[122, 111, 110, 101]⟩] 80)).alloc (.cells #[.string ⟨#[]⟩, .int .i64 0, .slice none 0 0, .int .i64 0, .int .i64 0, .int .i64 0, .slice none 0 0, .slice none 0 0, .slice none 0 0, .slice none 0 0, .slice none 0 0, .slice none 0 0, .slice none 0 0, .slice none 0 0, .string ⟨#[]⟩, .string ⟨#[]⟩] 33)).setCells (v4.heap.size + 1) 0 [.string ⟨#[113]⟩, .int .i64 0, .slice none 0 0, .int .i64 0, .int .i64 0, .int .i64 0, .slice none 0 0, .slice none 0 0, .slice none 0 0, .slice none 0 0, .slice none 0 0, .slice (some ⟨v4.heap.size, 0, none⟩) 1 1, .slice none 0 0, .slice none 0 0, .string ⟨#[]⟩, .string ⟨#[]⟩] := ⟨_, rfl⟩
  have hzz4 : BoxL ((v4.alloc (.cells #[.slice (some ⟨r4, 0, none⟩) 1 1, .string ⟨#[122, 111, 110, 101]⟩] 80)).alloc (.cells #[.string ⟨#[]⟩, .int .i64 0, .slice none 0 0, .int .i64 0, .int .i64 0, .int .i64 0, .slice none 0 0, .slice none 0 0, .slice none 0 0, .slice none 0 0, .slice none 0 0, .slice none 0 0, .slice none 0 0, .slice none 0 0, .string ⟨#[]⟩, .string ⟨#[]⟩] 33)) (v4.heap.size + 1) [.string ⟨#[]⟩, .int .i64 0, .slice none 0 0, .int .i64 0, .int .i64 0, .int .i64 0, .slice none 0 0, .slice none 0 0, .slice none 0 0, .slice none 0 0, .slice none 0 0, .slice none 0 0, .slice none 0 0, .slice none 0 0, .string ⟨#[]⟩, .string ⟨#[]⟩] := by have h1 := BoxL.new (v4.alloc (.cells #[.slice (some ⟨r4, 0, none⟩) 1 1, .string ⟨#[122, 111, 110, 101]⟩] 80)) 33 [.string ⟨#[]⟩, .int .i64 0, .slice none 0 0, .int .i64 0, .int .i64 0, .int .i64 0, .slice none 0 0, .slice none 0 0, .slice none 0 0, .slice none 0 0, .slice none 0 0, .slice none 0 0, .slice none 0 0, .slice none 0 0, .string ⟨#[]⟩, .string ⟨#[]⟩]; rw [World.size_alloc] at h1; exact h1
  have HTh4 : Hid (((v4.alloc (.cells #[.slice (some ⟨r4, 0, none⟩) 1 1, .string ⟨#[122, 111, 110, 101]⟩] 80)).alloc (.cells #[.string ⟨#[]⟩, .int .i64 0, .slice none 0 0, .int .i64 0, .int .i64 0, .int .i64 0, .slice none 0 0, .slice none 0 0, .slice none 0 0, .slice none 0 0, .slice none 0 0, .slice none 0 0, .slice none 0 0, .slice none 0 0, .string ⟨#[]⟩, .string ⟨#[]⟩] 33)).there (v4.heap.size + 1) 0 (#[.string ⟨#[113]⟩, .int .i64 0, .slice none 0 0, .int .i64 0, .int .i64 0, .int .i64 0, .slice none 0 0, .slice none 0 0, .slice none 0 0, .slice none 0 0, .slice none 0 0, .slice (some ⟨v4.heap.size, 0, none⟩) 1 1, .slice none 0 0, .slice none 0 0, .string ⟨#[]⟩, .string ⟨#[]⟩] : Array Value).size) := hzz4.there
  have qp4 : BoxL X4 (v4.heap.size + 1) [.string ⟨#[113]⟩, .int .i64 0, .slice none 0 0, .int .i64 0, .int .i64 0, .int .i64 0, .slice none 0 0, .slice none 0 0, .slice none 0 0, .slice none 0 0, .slice none 0 0, .slice (some ⟨v4.heap.size, 0, none⟩) 1 1, .slice none 0 0, .slice none 0 0, .string ⟨#[]⟩, .string ⟨#[]⟩] := by rw [hX4]; exact box_over8 hzz4 rfl
  have bX4 : Below v4.heap.size v4 X4 := by rw [hX4]; exact below_setCells (((Below.refl _ _).alloc (Nat.le_refl _) _).alloc (by simp) _) (Nat.le_succ _)
  have qt4 : BoxL X4 v4.heap.size [.slice (some ⟨r4, 0, none⟩) 1 1, .string ⟨#[122, 111, 110, 101]⟩] := by
    have h1 := (BoxL.new v4 80 [.slice (some ⟨r4, 0, none⟩) 1 1, .string ⟨#[122, 111, 110, 101]⟩]).on ((Below.refl _ _).alloc (Nat.le_refl _) (.cells #[.string ⟨#[]⟩, .int .i64 0, .slice none 0 0, .int .i64 0, .int .i64 0, .int .i64 0, .slice none 0 0, .slice none 0 0, .slice none 0 0, .slice none 0 0, .slice none 0 0, .slice none 0 0, .slice none 0 0, .slice none 0 0, .string ⟨#[]⟩, .string ⟨#[]⟩] 33))
    rw [hX4]; exact h1.kept (kept_setCells (A := fun b => b ≠ v4.heap.size + 1) (fun h => h rfl)) (by simp)
  have HWx4 : Hid (X4 = ((v4.alloc (.cells #[.slice (some ⟨r4, 0, none⟩) 1 1, .string ⟨#[122, 111, 110, 101]⟩] 80)).alloc (.cells #[.string ⟨#[]⟩, .int .i64 0, .slice none 0 0, .int .i64 0, .int .i64 0, .int .i64 0, .slice none 0 0, .slice none 0 0, .slice none 0 0, .slice none 0 0, .slice none 0 0, .slice none 0 0, .slice none 0 0, .slice none 0 0, .string ⟨#[]⟩, .string ⟨#[]⟩] 33)).setCells (v4.heap.size + 1) 0 (#[.string ⟨#[113]⟩, .int .i64 0, .slice none 0 0, .int .i64 0, .int .i64 0, .int .i64 0, .slice none 0 0, .slice none 0 0, .slice none 0 0, .slice none 0 0, .slice none 0 0, .slice (some ⟨v4.heap.size, 0, none⟩) 1 1, .slice none 0 0, .slice none 0 0, .string ⟨#[]⟩, .string ⟨#[]⟩] : Array Value).toList) := by rw [Hid, hX4]
  have HOx4 : Hid ((#[.string ⟨#[113]⟩, .int .i64 0, .slice none 0 0, .int .i64 0, .int .i64 0, .int .i64 0, .slice none 0 0, .slice none 0 0, .slice none 0 0, .slice none 0 0, .slice none 0 0, .slice (some ⟨v4.heap.size, 0, none⟩) 1 1, .slice none 0 0, .slice none 0 0, .string ⟨#[]⟩, .string ⟨#[]⟩] : Array Value).all (·.oneCell') = true) := (by rw [Hid]; simp [Value.oneCell'])
  have hiX4 : (Tryz.prog.info? 33).map (·.size) = some (#[.string ⟨#[113]⟩, .int .i64 0, .slice none 0 0, .int .i64 0, .int .i64 0, .int .i64 0, .slice none 0 0, .slice none 0 0, .slice none 0 0, .slice none 0 0, .slice none 0 0, .slice (some ⟨v4.heap.size, 0, none⟩) 1 1, .slice none 0 0, .slice none 0 0, .string ⟨#[]⟩, .string ⟨#[]⟩] : Array Value).size := sizePo
  have rp4 : RPod (fun _ => True) X4 [.string ⟨#[113]⟩, .int .i64 0, .slice none 0 0, .int .i64 0, .int .i64 0, .int .i64 0, .slice none 0 0, .slice none 0 0, .slice none 0 0, .slice none 0 0, .slice none 0 0, .slice (some ⟨v4.heap.size, 0, none⟩) 1 1, .slice none 0 0, .slice none 0 0, .string ⟨#[]⟩, .string ⟨#[]⟩] qD := RPod.mk (x := qD) (h2 := (none, 0, 0)) (h6 := (none, 0, 0)) (h7 := (none, 0, 0)) (h8 := (none, 0, 0)) (h9 := (none, 0, 0)) (h10 := (none, 0, 0)) (h11 := (some ⟨v4.heap.size, 0, none⟩, 1, 1)) (h12 := (none, 0, 0)) (h13 := (none, 0, 0)) (show (1 : Nat) ≤ 140737488355328 by decide) (SlAt.nil _ _ _ _ (fun _ => rfl)) (SlAt.nil _ _ _ _ (fun _ => rfl)) (SlAt.nil _ _ _ _ (fun _ => rfl)) (SlAt.nil _ _ _ _ (fun _ => rfl)) (SlAt.nil _ _ _ _ (fun _ => rfl)) (SlAt.nil _ _ _ _ (fun _ => rfl)) (sl_one qt4 (RTerm.firm.kept hr4 (Kept.below bX4)) trivial (by decide)) (SlAt.nil _ _ _ _ (fun _ => rfl)) (SlAt.nil _ _ _ _ (fun _ => rfl)) (show (0 : Nat) ≤ 140737488355328 by decide) (show (0 : Nat) ≤ 140737488355328 by decide)
  obtain ⟨qs, hqs⟩ : ∃ l : List Value, l = [.string ⟨#[113]⟩, .int .i64 0, .slice none 0 0, .int .i64 0, .int .i64 0, .int .i64 0, .slice none 0 0, .slice none 0 0, .slice none 0 0, .slice none 0 0, .slice none 0 0, .slice (some ⟨v4.heap.size, 0, none⟩) 1 1, .slice none 0 0, .slice none 0 0, .string ⟨#[]⟩, .string ⟨#[]⟩] := ⟨_, rfl⟩
  rw [← hqs] at qp4 rp4
  have B4 : Below U4.heap.size U4 X4 := on2 B3 (on2 hb4 bX4)
  have B34 : Below X3.heap.size X3 X4 := on2 hb4 bX4
  have HP4 : Hid (∀ u, Below X4.heap.size X4 u → BoxL u (v4.heap.size + 1) qs ∧ RPod (fun _ => True) u qs qD) := fun u hb => ⟨qp4.on hb, RPod.firm.kept rp4 (Kept.below hb)⟩
  have Hqs : Hid (qs = [.string ⟨#[113]⟩, .int .i64 0, .slice none 0 0, .int .i64 0, .int .i64 0, .int .i64 0, .slice none 0 0, .slice none 0 0, .slice none 0 0, .slice none 0 0, .slice none 0 0, .slice (some ⟨v4.heap.size, 0, none⟩) 1 1, .slice none 0 0, .slice none 0 0, .string ⟨#[]⟩, .string ⟨#[]⟩]) := hqs
  clear qt4 qp4 rp4 bX4 hr4 hb4 hqs
  clear hX4 hzz4
  go_upto_region 5 with (first | (refine wpList_store_mid rfl 33 _ _ rfl (v4.heap.size + 1) 0 #[.string ⟨#[113]⟩, .int .i64 0, .slice none 0 0, .int .i64 0, .int .i64 0, .int .i64 0, .slice none 0 0, .slice none 0 0, .slice none 0 0, .slice none 0 0, .slice none 0 0, .slice (some ⟨v4.heap.size, 0, none⟩) 1 1, .slice none 0 0, .slice none 0 0, .string ⟨#[]⟩, .string ⟨#[]⟩] rfl rfl HTh4.out hiX4 HOx4.out ?_; refine wpl_w8 HWx4.out ?_) | fail)
  clear HTh4 HWx4 HOx4 hiX4
  generalize (Value.agg #[.string ⟨#[113]⟩, .int .i64 0, .slice none 0 0, .int .i64 0, .int .i64 0, .int .i64 0, .slice none 0 0, .slice none 0 0, .slice none 0 0, .slice none 0 0, .slice none 0 0, .slice (some ⟨v4.heap.size, 0, none⟩) 1 1, .slice none 0 0, .slice none 0 0, .string ⟨#[]⟩, .string ⟨#[]⟩]) = gp4
  obtain ⟨ax0, ra4, sl4, bw4⟩ := HA.out X4 B4
  have HRa : Hid (X4.rangeAt (w.heap.size + 1 + 1) 0 [.string ⟨#[97]⟩, .int .i64 0, .slice (some ⟨w.heap.size, 0, none⟩) 1 1, .int .i64 0, .int .i64 0, .int .i64 0, .slice none 0 0, .slice none 0 0, .slice none 0 0, .slice none 0 0, .slice none 0 0, .slice none 0 0, .slice none 0 0, .slice none 0 0, .string ⟨#[]⟩, .string ⟨#[]⟩, .slice (some ⟨w.heap.size + 1, 0, none⟩) 1 1]) := ax0.range
  have hiq : (Tryz.prog.info? 33).map (·.size) = some qs.length := by rw [Hqs.out]; exact sizePo
  have hip : (Tryz.prog.info? 33).map (·.size) = some ps.length := by rw [Hps.out]; exact sizePo
  obtain ⟨X5, hX5⟩ : ∃ X, X = X4.alloc (.cells #[.string ⟨#[97]⟩, .int .i64 0, .slice (some ⟨w.heap.size, 0, none⟩) 1 1, .int .i64 0, .int .i64 0, .int .i64 0, .slice none 0 0, .slice none 0 0, .slice none 0 0, .slice none 0 0, .slice none 0 0, .slice none 0 0, .slice none 0 0, .slice none 0 0, .string ⟨#[]⟩, .string ⟨#[]⟩, .slice (some ⟨w.heap.size + 1, 0, none⟩) 1 1] 41) := ⟨_, rfl⟩
  have b5 : Below X4.heap.size X4 X5 := by rw [hX5]; go_grown
  have q5 : BoxL X5 X4.heap.size [.string ⟨#[97]⟩, .int .i64 0, .slice (some ⟨w.heap.size, 0, none⟩) 1 1, .int .i64 0, .int .i64 0, .int .i64 0, .slice none 0 0, .slice none 0 0, .slice none 0 0, .slice none 0 0, .slice none 0 0, .slice none 0 0, .slice none 0 0, .slice none 0 0, .string ⟨#[]⟩, .string ⟨#[]⟩, .slice (some ⟨w.heap.size + 1, 0, none⟩) 1 1] := by rw [hX5]; exact BoxL.new X4 41 [.string ⟨#[97]⟩, .int .i64 0, .slice (some ⟨w.heap.size, 0, none⟩) 1 1, .int .i64 0, .int .i64 0, .int .i64 0, .slice none 0 0, .slice none 0 0, .slice none 0 0, .slice none 0 0, .slice none 0 0, .slice none 0 0, .slice none 0 0, .slice none 0 0, .string ⟨#[]⟩, .string ⟨#[]⟩, .slice (some ⟨w.heap.size + 1, 0, none⟩) 1 1]
  have HNw := New_calls qs (fun _ => True) (fun _ => True) qD (some ⟨X4.heap.size, 0, none⟩) 1 1 [aD] X5 ((HP4.out X5 b5).2) (sl_one q5 (RPlaced.firm.kept ra4 (Kept.below b5)) trivial (by decide)) (by decide) (by decide) wkc (fun x hx => by obtain rfl : x = aD := (by simpa using hx); exact ⟨wko, wkl⟩) (HTab.out X5 (on2 bw4 b5))
  have HRq : Hid (X4.rangeAt (v4.heap.size + 1) 0 qs) := (HP4.out X4 (Below.refl _ _)).1.range
  have HX5 : Hid (X5 = X4.alloc (.cells #[.string ⟨#[97]⟩, .int .i64 0, .slice (some ⟨w.heap.size, 0, none⟩) 1 1, .int .i64 0, .int .i64 0, .int .i64 0, .slice none 0 0, .slice none 0 0, .slice none 0 0, .slice none 0 0, .slice none 0 0, .slice none 0 0, .slice none 0 0, .slice none 0 0, .string ⟨#[]⟩, .string ⟨#[]⟩, .slice (some ⟨w.heap.size + 1, 0, none⟩) 1 1] 41)) := hX5
  have hw5 : Hid (Below X4.heap.size X4 X5 ∧ Below U4.heap.size U4 X4 ∧ Below X3.heap.size X3 X4) := ⟨b5, B4, B34⟩
  clear ra4 sl4 q5 hX5 ax0 b5 bw4
  go_wp2_with (first | (refine wpList_load_mid rfl 33 _ rfl (v4.heap.size + 1) 0 rfl qs _ HRq.out Tryz.underlying33 rfl hiq ?_) | (refine wpList_load_mid rfl 41 _ rfl (w.heap.size + 1 + 1) 0 rfl [.string ⟨#[97]⟩, .int .i64 0, .slice (some ⟨w.heap.size, 0, none⟩) 1 1, .int .i64 0, .int .i64 0, .int .i64 0, .slice none 0 0, .slice none 0 0, .slice none 0 0, .slice none 0 0, .slice none 0 0, .slice none 0 0, .slice none 0 0, .slice none 0 0, .string ⟨#[]⟩, .string ⟨#[]⟩, .slice (some ⟨w.heap.size + 1, 0, none⟩) 1 1] _ HRa.out Tryz.underlying41 rfl hiA2 ?_) | fail)
  rw [← HX5.out]
  refine HNw.mono ?_
  clear HNw HRq HX5 HRa
  rintro e X6 ⟨tb, T, ts, pm, rfl, htb, hof, _, hb6⟩
  generalize (Value.agg #[.string ⟨#[97]⟩, .int .i64 0, .slice (some ⟨w.heap.size, 0, none⟩) 1 1, .int .i64 0, .int .i64 0, .int .i64 0, .slice none 0 0, .slice none 0 0, .slice none 0 0, .slice none 0 0, .slice none 0 0, .slice none 0 0, .slice none 0 0, .slice none 0 0, .string ⟨#[]⟩, .string ⟨#[]⟩, .slice (some ⟨w.heap.size + 1, 0, none⟩) 1 1]) = g22
  have HZ := zone_sl ⟨#[49]⟩ (by decide) X6
  have HT6 : Hid (TabAt X6 tb T ts pm (pLabs qD) [aD] (cost [aD]) 1 ∧ OfPod T qD) := ⟨htb, hof⟩
  have h06 : Hid (Below X4.heap.size X4 X6) := on2 hw5.out.1 hb6
  clear htb hof hb6
  go_wp2_with fail
  refine HZ.mono ?_
  clear HZ
  rintro e X7 ⟨rfl, hs7, hb7⟩
  have HCk := TCheck_calls (w := X7) (p := qD) (some ⟨X6.heap.size, 0, none⟩) 1 1 [(⟨#[122, 111, 110, 101]⟩, ⟨#[49]⟩)] (HT6.out.1.on hb7) HT6.out.2 (fun x hx l hl => by obtain rfl : x = aD := (by simpa using hx); obtain rfl : l = (⟨#[122, 111, 110, 101]⟩, ⟨#[49]⟩) := (by simpa using hl); exact ⟨by decide, by decide⟩) hs7
  rw [show whyN (pLabs qD) (pNear qD) (pApart qD) [(⟨#[122, 111, 110, 101]⟩, ⟨#[49]⟩)] (othersN qD.1 [aD]) = 10 from wk3] at HCk
  have h07 : Hid (Below X4.heap.size X4 X7) := on2 h06.out hb7
  clear hs7 hb7 HT6 h06
  go_wp2_with fail
  refine HCk.mono ?_
  clear HCk
  rintro e X8 ⟨rfl, hb8⟩
  have h48 : Below X4.heap.size X4 X8 := on2 h07.out hb8
  have HW8 : Hid (∀ u, Below X8.heap.size X8 u → (BoxL u (v3.heap.size + 1) ps ∧ BoxL u (v4.heap.size + 1) qs) ∧ RPod (fun _ => True) u ps pD ∧ RPod (fun _ => True) u qs qD ∧ SlAt RPlaced 17 320 (fun _ => True) u (some ⟨U3.heap.size, 0, none⟩) 1 1 [aD] ∧ Below w.heap.size w u) := fun u hb => by
    have h1 := on2 h48 hb
    have h2 := on2 hw5.out.2.2 h1
    exact ⟨⟨(HP3.out u h2).1, (HP4.out u h1).1⟩, (HP3.out u h2).2, (HP4.out u h1).2, (HA.out u (on2 hw5.out.2.1 h1)).2.2.1, (HA.out u (on2 hw5.out.2.1 h1)).2.2.2⟩
  clear HP3 HP4 HA hw5 h07 hb8 h48
  go_upto_region 7 with fail
  refine t0 (WkS (v3.heap.size + 1) (v4.heap.size + 1) ps qs) (HW8.out _ (Below.refl _ _).drew).1 (fun hHeld => ?_)
  have hy0 : Below X8.heap.size X8 X8.drew := (Below.refl _ _).drew
  refine' tq 0 (.agg ps.toArray) ?_ ?_
  · exact yieldsIf_load_mid rfl 33 _ rfl (v3.heap.size + 1) 0 rfl ps _ (fun u hu => hu.1.range) Tryz.underlying33 rfl hip
  try go_frame
  refine' tk 2 ?_ ?_; rotate_left
  · intro u hu; clear hu; go_simp; try with_reducible rfl
  try go_frame
  refine tr 1 (fun K hK => ?_)
  go_simp
  refine (zone_sl ⟨#[49]⟩ (by decide) X8.drew).mono ?_
  rintro e y1 ⟨rfl, hs1, hbb1⟩
  have hy1 : Below X8.heap.size X8 y1 := on2 hy0 hbb1
  go_wp2_with fail
  refine hK.out _ _ (HW8.out _ hy1).1 (fun hHeld2 => ?_)
  clear hK K hHeld; have hHeld := hHeld2; clear hHeld2
  try go_frame
  have HC1 := NCheck_calls ps (fun _ => True) (fun _ => True) (fun _ => True) pD (some ⟨X8.drew.heap.size, 0, none⟩) 1 1 [(⟨#[122, 111, 110, 101]⟩, ⟨#[49]⟩)] (some ⟨U3.heap.size, 0, none⟩) 1 1 [aD] y1 (HW8.out _ hy1).2.1 hs1 (HW8.out _ hy1).2.2.2.1 (by decide) (by decide) wkc
  rw [wk1] at HC1
  refine tr 3 (fun K hK => ?_)
  go_simp
  refine HC1.mono ?_
  rintro e y2 ⟨rfl, hbb2⟩
  have hy2 : Below X8.heap.size X8 y2 := on2 hy1 hbb2
  go_wp2_with fail
  refine hK.out _ _ (HW8.out _ hy2).1 (fun hHeld2 => ?_)
  clear hK K hHeld HC1 hs1; have hHeld := hHeld2; clear hHeld2
  try go_frame
  refine' tk 4 ?_ ?_; rotate_left
  · intro u hu; clear hu; go_simp; try with_reducible rfl
  try go_frame
  refine' tk 5 ?_ ?_; rotate_left
  · intro u hu; clear hu; go_simp; try with_reducible rfl
  try go_frame
  refine' tq 6 (.agg ps.toArray) ?_ ?_
  · exact yieldsIf_load_mid rfl 33 _ rfl (v3.heap.size + 1) 0 rfl ps _ (fun u hu => hu.1.range) Tryz.underlying33 rfl hip
  try go_frame
  refine' tk 8 ?_ ?_; rotate_left
  · intro u hu; clear hu; go_simp; try with_reducible rfl
  try go_frame
  refine tr 7 (fun K hK => ?_)
  go_simp
  refine (zone_sl ⟨#[50]⟩ (by decide) y2).mono ?_
  rintro e y3 ⟨rfl, hs3, hbb3⟩
  have hy3 : Below X8.heap.size X8 y3 := on2 hy2 hbb3
  go_wp2_with fail
  refine hK.out _ _ (HW8.out _ hy3).1 (fun hHeld2 => ?_)
  clear hK K hHeld; have hHeld := hHeld2; clear hHeld2
  try go_frame
  have HC3 := NCheck_calls ps (fun _ => True) (fun _ => True) (fun _ => True) pD (some ⟨y2.heap.size, 0, none⟩) 1 1 [(⟨#[122, 111, 110, 101]⟩, ⟨#[50]⟩)] (some ⟨U3.heap.size, 0, none⟩) 1 1 [aD] y3 (HW8.out _ hy3).2.1 hs3 (HW8.out _ hy3).2.2.2.1 (by decide) (by decide) wkc
  rw [wk2] at HC3
  refine tr 9 (fun K hK => ?_)
  go_simp
  refine HC3.mono ?_
  rintro e y4 ⟨rfl, hbb4⟩
  have hy4 : Below X8.heap.size X8 y4 := on2 hy3 hbb4
  go_wp2_with fail
  refine hK.out _ _ (HW8.out _ hy4).1 (fun hHeld2 => ?_)
  clear hK K hHeld HC3 hs3; have hHeld := hHeld2; clear hHeld2
  try go_frame
  refine' tk 10 ?_ ?_; rotate_left
  · intro u hu; clear hu; go_simp; try with_reducible rfl
  try go_frame
  refine' tk 11 ?_ ?_; rotate_left
  · intro u hu; clear hu; go_simp; try with_reducible rfl
  try go_frame
  refine' tk 12 ?_ ?_; rotate_left
  · intro u hu; clear hu; go_simp; try with_reducible rfl
  try go_frame
  refine' tq 13 (.agg qs.toArray) ?_ ?_
  · exact yieldsIf_load_mid rfl 33 _ rfl (v4.heap.size + 1) 0 rfl qs _ (fun u hu => hu.2.range) Tryz.underlying33 rfl hiq
  try go_frame
  refine' tk 15 ?_ ?_; rotate_left
  · intro u hu; clear hu; go_simp; try with_reducible rfl
  try go_frame
  refine tr 14 (fun K hK => ?_)
  go_simp
  refine (zone_sl ⟨#[49]⟩ (by decide) y4).mono ?_
  rintro e y5 ⟨rfl, hs5, hbb5⟩
  have hy5 : Below X8.heap.size X8 y5 := on2 hy4 hbb5
  go_wp2_with fail
  refine hK.out _ _ (HW8.out _ hy5).1 (fun hHeld2 => ?_)
  clear hK K hHeld; have hHeld := hHeld2; clear hHeld2
  try go_frame
  have HC5 := NCheck_calls qs (fun _ => True) (fun _ => True) (fun _ => True) qD (some ⟨y4.heap.size, 0, none⟩) 1 1 [(⟨#[122, 111, 110, 101]⟩, ⟨#[49]⟩)] (some ⟨U3.heap.size, 0, none⟩) 1 1 [aD] y5 (HW8.out _ hy5).2.2.1 hs5 (HW8.out _ hy5).2.2.2.1 (by decide) (by decide) wkc
  rw [wk3] at HC5
  refine tr 16 (fun K hK => ?_)
  go_simp
  refine HC5.mono ?_
  rintro e y6 ⟨rfl, hbb6⟩
  have hy6 : Below X8.heap.size X8 y6 := on2 hy5 hbb6
  go_wp2_with fail
  refine hK.out _ _ (HW8.out _ hy6).1 (fun hHeld2 => ?_)
  clear hK K hHeld HC5 hs5; have hHeld := hHeld2; clear hHeld2
  try go_frame
  refine' tk 17 ?_ ?_; rotate_left
  · intro u hu; clear hu; go_simp; try with_reducible rfl
  try go_frame
  refine' tk 18 ?_ ?_; rotate_left
  · intro u hu; clear hu; go_simp; try with_reducible rfl
  try go_frame
  refine' tk 19 ?_ ?_; rotate_left
  · intro u hu; clear hu; go_simp; try with_reducible rfl
  try go_frame
  refine' tk 20 ?_ ?_; rotate_left
  · intro u hu; clear hu; go_simp; try with_reducible rfl
  try go_frame
  refine' tk 21 ?_ ?_; rotate_left
  · intro u hu; clear hu; go_simp; try with_reducible rfl
  try go_frame
  refine' tk 22 ?_ ?_; rotate_left
  · intro u hu; clear hu; go_simp; try with_reducible rfl
  try go_frame
  refine' tk 23 ?_ ?_; rotate_left
  · intro u hu; clear hu; go_simp; try with_reducible rfl
  try go_frame
  refine' tk 24 ?_ ?_; rotate_left
  · intro u hu; clear hu; go_simp; try with_reducible rfl
  try go_frame
  refine' tk 25 ?_ ?_; rotate_left
  · intro u hu; clear hu; go_simp; try with_reducible rfl
  try go_frame
  refine' tk 26 ?_ ?_; rotate_left
  · intro u hu; clear hu; go_simp; try with_reducible rfl
  try go_frame
  have HBf : Hid (Below w.heap.size w y6) := (HW8.out _ hy6).2.2.2.2
  refine' tk 27 ?_ ?_; rotate_left
  · intro u hu; clear hu; go_simp; try with_reducible rfl
  try go_frame
  refine tz ?_
  clear HW8 hHeld
  go_wp2_with fail
  go_ret
  exact ⟨rfl, HBf.out⟩
end Go.Proofs.YtfnafgmengefaaaGreatDoor
