/- The law's works of layer 9: the chapter's example. Condition: the program's contracts. Slices of slices, and base.Among. Condition: the slice lies as is said of it. The law SpreadLeast's walk. Condition: the arguments lie as is said of them; the program's contracts. -/
import Derived.Test.YtillkgflppabfaaDoorQ13
namespace Go.Proofs.YtillkgflppabfaaDoor
open Go.RowKit
set_option linter.unusedSimpArgs false
set_option maxRecDepth 100000

def plD (nm : ByteArray) : PlacedD := ((nm, 0, [], (0, 0, 0), [], [], [], [], [], [], [], [], ⟨#[]⟩, ⟨#[]⟩), [(⟨#[122, 111, 110, 101]⟩, ⟨#[49]⟩)])
def sprD : SpreadD := (⟨#[122, 111, 110, 101]⟩, 1, 0, [])
def spD : PodD := (⟨#[112]⟩, 0, [], (0, 0, 0), [], [], [], [], [], [], [sprD], [], ⟨#[]⟩, ⟨#[]⟩)
theorem wk91 : spreadP 12 spD [(⟨#[122, 111, 110, 101]⟩, ⟨#[50]⟩)] [zoneD ⟨#[49]⟩, zoneD ⟨#[50]⟩] [plD ⟨#[97]⟩, plD ⟨#[98]⟩] = 0 := by kernel_rfl
theorem wk92 : spreadP 12 spD [(⟨#[122, 111, 110, 101]⟩, ⟨#[49]⟩)] [zoneD ⟨#[49]⟩, zoneD ⟨#[50]⟩] [plD ⟨#[97]⟩, plD ⟨#[98]⟩] = 12 := by kernel_rfl
theorem wk93 : skewP sprD [zoneD ⟨#[49]⟩, zoneD ⟨#[50]⟩] [plD ⟨#[97]⟩, plD ⟨#[98]⟩] = 2 := by kernel_rfl
theorem pl_at {A : Where} {u : World} (nm : ByteArray) (hn : nm.size ≤ 140737488355328) {D : Nat} (hs : SlAt RLabel 2 32 A u (some ⟨D, 0, none⟩) 1 1 [(⟨#[122, 111, 110, 101]⟩, ⟨#[49]⟩)]) : RPlaced A u [.string nm, .int .i64 0, .slice none 0 0, .int .i64 0, .int .i64 0, .int .i64 0, .slice none 0 0, .slice none 0 0, .slice none 0 0, .slice none 0 0, .slice none 0 0, .slice none 0 0, .slice none 0 0, .slice none 0 0, .string ⟨#[]⟩, .string ⟨#[]⟩, .slice (some ⟨D, 0, none⟩) 1 1] (plD nm) :=
  ⟨[.string nm, .int .i64 0, .slice none 0 0, .int .i64 0, .int .i64 0, .int .i64 0, .slice none 0 0, .slice none 0 0, .slice none 0 0, .slice none 0 0, .slice none 0 0, .slice none 0 0, .slice none 0 0, .slice none 0 0, .string ⟨#[]⟩, .string ⟨#[]⟩], [.slice (some ⟨D, 0, none⟩) 1 1], rfl, RPod.mk (x := (plD nm).1) (h2 := (none, 0, 0)) (h6 := (none, 0, 0)) (h7 := (none, 0, 0)) (h8 := (none, 0, 0)) (h9 := (none, 0, 0)) (h10 := (none, 0, 0)) (h11 := (none, 0, 0)) (h12 := (none, 0, 0)) (h13 := (none, 0, 0)) hn (SlAt.nil _ _ _ _ (fun _ => rfl)) (SlAt.nil _ _ _ _ (fun _ => rfl)) (SlAt.nil _ _ _ _ (fun _ => rfl)) (SlAt.nil _ _ _ _ (fun _ => rfl)) (SlAt.nil _ _ _ _ (fun _ => rfl)) (SlAt.nil _ _ _ _ (fun _ => rfl)) (SlAt.nil _ _ _ _ (fun _ => rfl)) (SlAt.nil _ _ _ _ (fun _ => rfl)) (SlAt.nil _ _ _ _ (fun _ => rfl)) (Nat.zero_le _) (Nat.zero_le _), some ⟨D, 0, none⟩, 1, 1, rfl, hs⟩
def W9S (M E G : Nat) (D1 D2 : Nat) (u : World) : Prop :=
  BoxL u E [.string ⟨#[112]⟩, .int .i64 0, .slice none 0 0, .int .i64 0, .int .i64 0, .int .i64 0, .slice none 0 0, .slice none 0 0, .slice none 0 0, .slice none 0 0, .slice none 0 0, .slice none 0 0, .slice (some ⟨G, 0, none⟩) 1 1, .slice none 0 0, .string ⟨#[]⟩, .string ⟨#[]⟩] ∧ u.cell? ⟨M, 1, none⟩ = some (.slice (some ⟨D1, 0, none⟩) 1 1) ∧ u.cell? ⟨M, 10, none⟩ = some (.slice (some ⟨D2, 0, none⟩) 1 1) ∧ u.cell? ⟨E, 12, none⟩ = some (.slice (some ⟨G, 0, none⟩) 1 1) ∧ u.rangeAt G 0 [.string ⟨#[122, 111, 110, 101]⟩, .int .i64 1, .int .i64 0, .slice none 0 0]
set_option maxHeartbeats 8000000 in
theorem works9_calls (w : World) : Calls Tryd.prog 4 #[] w fun e w' => e = .returned (.bool true) ∧ Below w.heap.size w w' := by
  go_enter Tryd.func4, Tryd.ntmps4
  go_wp2_with fail
  refine (zone9_calls ⟨#[49]⟩ (by decide) w).mono ?_
  rintro e u1 ⟨D1, rfl, n1, b1⟩
  go_wp2_with fail
  refine (zone9_calls ⟨#[50]⟩ (by decide) u1).mono ?_
  rintro e u2 ⟨D2, rfl, n2, b2⟩
  obtain ⟨W2, hW2⟩ : ∃ W, W = u2.alloc (.cells #[.string ⟨#[49]⟩, .slice (some ⟨D1, 0, none⟩) 1 1, .slice none 0 0, .bool false, .int .i64 0, .int .i64 0, .int .i64 0, .int .i64 0, .int .i64 0, .string ⟨#[50]⟩, .slice (some ⟨D2, 0, none⟩) 1 1, .slice none 0 0, .bool false, .int .i64 0, .int .i64 0, .int .i64 0, .int .i64 0, .int .i64 0] 46) := ⟨_, rfl⟩
  have B2 : Below u2.heap.size u2 W2 := by rw [hW2]; go_grown
  have q2 : BoxL W2 u2.heap.size ([.string ⟨#[49]⟩, .slice (some ⟨D1, 0, none⟩) 1 1, .slice none 0 0, .bool false, .int .i64 0, .int .i64 0, .int .i64 0, .int .i64 0, .int .i64 0] ++ [.string ⟨#[50]⟩, .slice (some ⟨D2, 0, none⟩) 1 1, .slice none 0 0, .bool false, .int .i64 0, .int .i64 0, .int .i64 0, .int .i64 0, .int .i64 0]) := by rw [hW2]; exact BoxL.new u2 46 ([.string ⟨#[49]⟩, .slice (some ⟨D1, 0, none⟩) 1 1, .slice none 0 0, .bool false, .int .i64 0, .int .i64 0, .int .i64 0, .int .i64 0, .int .i64 0] ++ [.string ⟨#[50]⟩, .slice (some ⟨D2, 0, none⟩) 1 1, .slice none 0 0, .bool false, .int .i64 0, .int .i64 0, .int .i64 0, .int .i64 0, .int .i64 0])
  have r1 := RNode.firm.kept (RNode.firm.kept n1 (Kept.below b2)) (Kept.below B2)
  have r2 := RNode.firm.kept n2 (Kept.below B2)
  have HN : Hid (∀ u, Below W2.heap.size W2 u → SlAt RNode 9 112 (fun _ => True) u (some ⟨u2.heap.size, 0, none⟩) 2 2 [zoneD ⟨#[49]⟩, zoneD ⟨#[50]⟩]) := fun u hb => (sl_two9 q2 r1 r2 rfl trivial (by decide)).on RNode.firm hb
  have HL1 : Hid (∀ u, Below W2.heap.size W2 u → SlAt RLabel 2 32 (fun _ => True) u (some ⟨D1, 0, none⟩) 1 1 [(⟨#[122, 111, 110, 101]⟩, ⟨#[49]⟩)]) := fun u hb => by obtain ⟨⟨x1, x2, x3⟩, _, e, _, s, _⟩ := r1.out; simp only [List.cons.injEq, Value.slice.injEq] at e; obtain ⟨_, ⟨rfl, rfl, rfl⟩, _⟩ := e; exact SlAt.on RLabel.firm s hb
  have HL2 : Hid (∀ u, Below W2.heap.size W2 u → SlAt RLabel 2 32 (fun _ => True) u (some ⟨D2, 0, none⟩) 1 1 [(⟨#[122, 111, 110, 101]⟩, ⟨#[50]⟩)]) := fun u hb => by obtain ⟨⟨x1, x2, x3⟩, _, e, _, s, _⟩ := r2.out; simp only [List.cons.injEq, Value.slice.injEq] at e; obtain ⟨_, ⟨rfl, rfl, rfl⟩, _⟩ := e; exact SlAt.on RLabel.firm s hb
  have HM : Hid (∀ u, Below W2.heap.size W2 u → u.cell? ⟨u2.heap.size, 1, none⟩ = some (.slice (some ⟨D1, 0, none⟩) 1 1) ∧ u.cell? ⟨u2.heap.size, 10, none⟩ = some (.slice (some ⟨D2, 0, none⟩) 1 1)) := fun u hb => ⟨((q2.on hb).2 1 _ rfl).1, ((q2.on hb).2 10 _ rfl).1⟩
  have HB2 : Hid (Below w.heap.size w W2) := on2 (on2 b1 b2) B2
  clear n1 n2 b1 b2 r1 r2 q2 B2
  go_upto_region 2 with fail
  rw [← hW2]
  clear hW2
  have d0 : Below W2.heap.size W2 W2.drew := (Below.refl _ _).drew
  refine t0 (fun u => u.cell? ⟨u2.heap.size, 1, none⟩ = some (.slice (some ⟨D1, 0, none⟩) 1 1)) (HM.out _ d0).1 (fun hHeld => ?_)
  refine' tk 0 ?_ ?_; rotate_left
  · intro u hu; go_simp; try with_reducible rfl
  try go_frame
  refine' tk 1 ?_ ?_; rotate_left
  · intro u hu; go_simp; try with_reducible rfl
  try go_frame
  refine' tk 2 ?_ ?_; rotate_left
  · intro u hu; go_simp; try with_reducible rfl
  try go_frame
  refine' tk 3 ?_ ?_; rotate_left
  · intro u hu; go_simp; try with_reducible rfl
  try go_frame
  refine' tk 4 ?_ ?_; rotate_left
  · intro u hu; go_simp; try with_reducible rfl
  try go_frame
  refine' tk 5 ?_ ?_; rotate_left
  · intro u hu; go_simp; try with_reducible rfl
  try go_frame
  refine' tk 6 ?_ ?_; rotate_left
  · intro u hu; go_simp; try with_reducible rfl
  try go_frame
  refine' tk 7 ?_ ?_; rotate_left
  · intro u hu; go_simp; try with_reducible rfl
  try go_frame
  refine' tk 8 ?_ ?_; rotate_left
  · intro u hu; go_simp; try with_reducible rfl
  try go_frame
  refine' tk 9 ?_ ?_; rotate_left
  · intro u hu; go_simp; try with_reducible rfl
  try go_frame
  refine' tk 10 ?_ ?_; rotate_left
  · intro u hu; go_simp; try with_reducible rfl
  try go_frame
  refine' tk 11 ?_ ?_; rotate_left
  · intro u hu; go_simp; try with_reducible rfl
  try go_frame
  obtain ⟨W3, hW3⟩ : ∃ W, W = W2.drew.alloc (.cells #[.string ⟨#[97]⟩, .int .i64 0, .slice none 0 0, .int .i64 0, .int .i64 0, .int .i64 0, .slice none 0 0, .slice none 0 0, .slice none 0 0, .slice none 0 0, .slice none 0 0, .slice none 0 0, .slice none 0 0, .slice none 0 0, .string ⟨#[]⟩, .string ⟨#[]⟩, .slice (some ⟨D1, 0, none⟩) 1 1, .string ⟨#[98]⟩, .int .i64 0, .slice none 0 0, .int .i64 0, .int .i64 0, .int .i64 0, .slice none 0 0, .slice none 0 0, .slice none 0 0, .slice none 0 0, .slice none 0 0, .slice none 0 0, .slice none 0 0, .slice none 0 0, .string ⟨#[]⟩, .string ⟨#[]⟩, .slice (some ⟨D1, 0, none⟩) 1 1] 41) := ⟨_, rfl⟩
  have B3 : Below W2.heap.size W2 W3 := by rw [hW3]; exact d0.alloc d0.size _
  have q3 : BoxL W3 W2.drew.heap.size ([.string ⟨#[97]⟩, .int .i64 0, .slice none 0 0, .int .i64 0, .int .i64 0, .int .i64 0, .slice none 0 0, .slice none 0 0, .slice none 0 0, .slice none 0 0, .slice none 0 0, .slice none 0 0, .slice none 0 0, .slice none 0 0, .string ⟨#[]⟩, .string ⟨#[]⟩, .slice (some ⟨D1, 0, none⟩) 1 1] ++ [.string ⟨#[98]⟩, .int .i64 0, .slice none 0 0, .int .i64 0, .int .i64 0, .int .i64 0, .slice none 0 0, .slice none 0 0, .slice none 0 0, .slice none 0 0, .slice none 0 0, .slice none 0 0, .slice none 0 0, .slice none 0 0, .string ⟨#[]⟩, .string ⟨#[]⟩, .slice (some ⟨D1, 0, none⟩) 1 1]) := by rw [hW3]; exact BoxL.new W2.drew 41 ([.string ⟨#[97]⟩, .int .i64 0, .slice none 0 0, .int .i64 0, .int .i64 0, .int .i64 0, .slice none 0 0, .slice none 0 0, .slice none 0 0, .slice none 0 0, .slice none 0 0, .slice none 0 0, .slice none 0 0, .slice none 0 0, .string ⟨#[]⟩, .string ⟨#[]⟩, .slice (some ⟨D1, 0, none⟩) 1 1] ++ [.string ⟨#[98]⟩, .int .i64 0, .slice none 0 0, .int .i64 0, .int .i64 0, .int .i64 0, .slice none 0 0, .slice none 0 0, .slice none 0 0, .slice none 0 0, .slice none 0 0, .slice none 0 0, .slice none 0 0, .slice none 0 0, .string ⟨#[]⟩, .string ⟨#[]⟩, .slice (some ⟨D1, 0, none⟩) 1 1])
  have HP : Hid (∀ u, Below W3.heap.size W3 u → SlAt RPlaced 17 320 (fun _ => True) u (some ⟨W2.heap.size, 0, none⟩) 2 2 [plD ⟨#[97]⟩, plD ⟨#[98]⟩]) := fun u hb => (sl_two9 (B := W2.heap.size) q3 (pl_at ⟨#[97]⟩ (by decide) (HL1.out _ B3)) (pl_at ⟨#[98]⟩ (by decide) (HL1.out _ B3)) rfl trivial (by decide)).on RPlaced.firm hb
  have HB3 : Hid (Below W2.heap.size W2 W3) := B3
  refine tr 12 (fun K hK => ?_)
  go_simp
  have hW3b : W3 = W2.drew.alloc (.cells #[.string ⟨#[97]⟩, .int .i64 0, .slice none 0 0, .int .i64 0, .int .i64 0, .int .i64 0, .slice none 0 0, .slice none 0 0, .slice none 0 0, .slice none 0 0, .slice none 0 0, .slice none 0 0, .slice none 0 0, .slice none 0 0, .string ⟨#[]⟩, .string ⟨#[]⟩, .slice (some ⟨D1, 0, none⟩) 1 1, .string ⟨#[98]⟩, .int .i64 0, .slice none 0 0, .int .i64 0, .int .i64 0, .int .i64 0, .slice none 0 0, .slice none 0 0, .slice none 0 0, .slice none 0 0, .slice none 0 0, .slice none 0 0, .slice none 0 0, .slice none 0 0, .string ⟨#[]⟩, .string ⟨#[]⟩, .slice (some ⟨D1, 0, none⟩) 1 1] 41) := hW3
  first | rw [← hW3] | (rw [show (W2.alloc (.cells #[.string ⟨#[97]⟩, .int .i64 0, .slice none 0 0, .int .i64 0, .int .i64 0, .int .i64 0, .slice none 0 0, .slice none 0 0, .slice none 0 0, .slice none 0 0, .slice none 0 0, .slice none 0 0, .slice none 0 0, .slice none 0 0, .string ⟨#[]⟩, .string ⟨#[]⟩, .slice (some ⟨D1, 0, none⟩) 1 1, .string ⟨#[98]⟩, .int .i64 0, .slice none 0 0, .int .i64 0, .int .i64 0, .int .i64 0, .slice none 0 0, .slice none 0 0, .slice none 0 0, .slice none 0 0, .slice none 0 0, .slice none 0 0, .slice none 0 0, .slice none 0 0, .string ⟨#[]⟩, .string ⟨#[]⟩, .slice (some ⟨D1, 0, none⟩) 1 1] 41)).drew = W3 from hW3.symm])
  refine hK.out _ _ (HM.out _ B3).1 (fun hHeld2 => ?_)
  clear hK K hHeld hW3b; have hHeld := hHeld2; clear hHeld2
  try go_frame
  refine' tk 13 ?_ ?_; rotate_left
  · intro u hu; go_simp; try with_reducible rfl
  try go_frame
  refine tz ?_
  clear hHeld q3 B3 d0 hW3
  obtain ⟨W4, hW4⟩ : ∃ W, W = (W3.alloc (.cells #[.string ⟨#[122, 111, 110, 101]⟩, .int .i64 1, .int .i64 0, .slice none 0 0] 35)).alloc (.cells #[.string ⟨#[112]⟩, .int .i64 0, .slice none 0 0, .int .i64 0, .int .i64 0, .int .i64 0, .slice none 0 0, .slice none 0 0, .slice none 0 0, .slice none 0 0, .slice none 0 0, .slice none 0 0, .slice (some ⟨W3.heap.size, 0, none⟩) 1 1, .slice none 0 0, .string ⟨#[]⟩, .string ⟨#[]⟩] 33) := ⟨_, rfl⟩
  have B4 : Below W3.heap.size W3 W4 := by rw [hW4]; go_grown
  have q4 : BoxL W4 W3.heap.size [.string ⟨#[122, 111, 110, 101]⟩, .int .i64 1, .int .i64 0, .slice none 0 0] := by rw [hW4]; exact (BoxL.new W3 35 [.string ⟨#[122, 111, 110, 101]⟩, .int .i64 1, .int .i64 0, .slice none 0 0]).on ((Below.refl _ _).alloc (Nat.le_refl _) _)
  have q5 : BoxL W4 (W3.heap.size + 1) [.string ⟨#[112]⟩, .int .i64 0, .slice none 0 0, .int .i64 0, .int .i64 0, .int .i64 0, .slice none 0 0, .slice none 0 0, .slice none 0 0, .slice none 0 0, .slice none 0 0, .slice none 0 0, .slice (some ⟨W3.heap.size, 0, none⟩) 1 1, .slice none 0 0, .string ⟨#[]⟩, .string ⟨#[]⟩] := by rw [hW4]; have h1 := BoxL.new (W3.alloc (.cells #[.string ⟨#[122, 111, 110, 101]⟩, .int .i64 1, .int .i64 0, .slice none 0 0] 35)) 33 [.string ⟨#[112]⟩, .int .i64 0, .slice none 0 0, .int .i64 0, .int .i64 0, .int .i64 0, .slice none 0 0, .slice none 0 0, .slice none 0 0, .slice none 0 0, .slice none 0 0, .slice none 0 0, .slice (some ⟨W3.heap.size, 0, none⟩) 1 1, .slice none 0 0, .string ⟨#[]⟩, .string ⟨#[]⟩]; simpa using h1
  have rs : RSpread (fun _ => True) W4 [.string ⟨#[122, 111, 110, 101]⟩, .int .i64 1, .int .i64 0, .slice none 0 0] sprD := RSpread.mk (x := sprD) (h3 := (none, 0, 0)) (show (4 : Nat) ≤ 140737488355328 by decide) (SlAt.nil _ _ _ _ (fun _ => rfl))
  have rp : RPod (fun _ => True) W4 [.string ⟨#[112]⟩, .int .i64 0, .slice none 0 0, .int .i64 0, .int .i64 0, .int .i64 0, .slice none 0 0, .slice none 0 0, .slice none 0 0, .slice none 0 0, .slice none 0 0, .slice none 0 0, .slice (some ⟨W3.heap.size, 0, none⟩) 1 1, .slice none 0 0, .string ⟨#[]⟩, .string ⟨#[]⟩] spD := RPod.mk (x := spD) (h2 := (none, 0, 0)) (h6 := (none, 0, 0)) (h7 := (none, 0, 0)) (h8 := (none, 0, 0)) (h9 := (none, 0, 0)) (h10 := (none, 0, 0)) (h11 := (none, 0, 0)) (h12 := (some ⟨W3.heap.size, 0, none⟩, 1, 1)) (h13 := (none, 0, 0)) (show (1 : Nat) ≤ 140737488355328 by decide) (SlAt.nil _ _ _ _ (fun _ => rfl)) (SlAt.nil _ _ _ _ (fun _ => rfl)) (SlAt.nil _ _ _ _ (fun _ => rfl)) (SlAt.nil _ _ _ _ (fun _ => rfl)) (SlAt.nil _ _ _ _ (fun _ => rfl)) (SlAt.nil _ _ _ _ (fun _ => rfl)) (SlAt.nil _ _ _ _ (fun _ => rfl)) (sl_one9 q4 rs trivial (by decide)) (SlAt.nil _ _ _ _ (fun _ => rfl)) (Nat.zero_le _) (Nat.zero_le _)
  have HW : Hid (∀ u, Below W4.heap.size W4 u → W9S u2.heap.size (W3.heap.size + 1) W3.heap.size D1 D2 u ∧ RPod (fun _ => True) u [.string ⟨#[112]⟩, .int .i64 0, .slice none 0 0, .int .i64 0, .int .i64 0, .int .i64 0, .slice none 0 0, .slice none 0 0, .slice none 0 0, .slice none 0 0, .slice none 0 0, .slice none 0 0, .slice (some ⟨W3.heap.size, 0, none⟩) 1 1, .slice none 0 0, .string ⟨#[]⟩, .string ⟨#[]⟩] spD ∧ RSpread (fun _ => True) u [.string ⟨#[122, 111, 110, 101]⟩, .int .i64 1, .int .i64 0, .slice none 0 0] sprD ∧ Below W2.heap.size W2 u ∧ Below W3.heap.size W3 u ∧ Below w.heap.size w u) := fun u hb => by
    have h2 : Below W2.heap.size W2 u := on2 HB3.out (on2 B4 hb)
    exact ⟨⟨q5.on hb, (HM.out u h2).1, (HM.out u h2).2, ((q5.on hb).2 12 _ rfl).1, (q4.on hb).range⟩, RPod.firm.kept rp (Kept.below hb), RSpread.firm.kept rs (Kept.below hb), h2, on2 B4 hb, on2 HB2.out h2⟩
  clear q4 q5 rs rp B4 HM HB3 HB2
  go_upto_region 4 with fail
  rw [← hW4]
  clear hW4
  have hi16 : (Tryd.prog.info? 33).map (·.size) = some ([.string ⟨#[112]⟩, .int .i64 0, .slice none 0 0, .int .i64 0, .int .i64 0, .int .i64 0, .slice none 0 0, .slice none 0 0, .slice none 0 0, .slice none 0 0, .slice none 0 0, .slice none 0 0, .slice (some ⟨W3.heap.size, 0, none⟩) 1 1, .slice none 0 0, .string ⟨#[]⟩, .string ⟨#[]⟩] : List Value).length := sizePo
  have hi4 : (Tryd.prog.info? 35).map (·.size) = some ([.string ⟨#[122, 111, 110, 101]⟩, .int .i64 1, .int .i64 0, .slice none 0 0] : List Value).length := sizeSp
  have e0 : Below W4.heap.size W4 W4.drew := (Below.refl _ _).drew
  refine t0 (W9S u2.heap.size (W3.heap.size + 1) W3.heap.size D1 D2) (HW.out _ e0).1 (fun hHeld => ?_)
  refine' tq 0 (.agg #[.string ⟨#[112]⟩, .int .i64 0, .slice none 0 0, .int .i64 0, .int .i64 0, .int .i64 0, .slice none 0 0, .slice none 0 0, .slice none 0 0, .slice none 0 0, .slice none 0 0, .slice none 0 0, .slice (some ⟨W3.heap.size, 0, none⟩) 1 1, .slice none 0 0, .string ⟨#[]⟩, .string ⟨#[]⟩]) ?_ ?_
  · exact yieldsIf_load_mid rfl 33 _ rfl (W3.heap.size + 1) 0 rfl [.string ⟨#[112]⟩, .int .i64 0, .slice none 0 0, .int .i64 0, .int .i64 0, .int .i64 0, .slice none 0 0, .slice none 0 0, .slice none 0 0, .slice none 0 0, .slice none 0 0, .slice none 0 0, .slice (some ⟨W3.heap.size, 0, none⟩) 1 1, .slice none 0 0, .string ⟨#[]⟩, .string ⟨#[]⟩] _ (fun u hu => hu.1.range) Tryd.underlying33 rfl hi16
  try go_frame
  refine' tk 1 ?_ ?_; rotate_left
  · intro u ⟨_, _, _, _, _⟩; go_simp; try with_reducible rfl
  try go_frame
  refine' tk 2 ?_ ?_; rotate_left
  · intro u ⟨_, _, _, _, _⟩; go_simp; try with_reducible rfl
  try go_frame
  refine' tk 3 ?_ ?_; rotate_left
  · intro u ⟨_, _, _, _, _⟩; go_simp; try with_reducible rfl
  try go_frame
  refine' tk 4 ?_ ?_; rotate_left
  · intro u ⟨_, _, _, _, _⟩; go_simp; try with_reducible rfl
  try go_frame
  refine' tk 5 ?_ ?_; rotate_left
  · intro u ⟨_, _, _, _, _⟩; go_simp; try with_reducible rfl
  try go_frame
  refine' tk 6 ?_ ?_; rotate_left
  · intro u ⟨_, _, _, _, _⟩; go_simp; try with_reducible rfl
  try go_frame
  have HCwk91 := pChk_calls [.string ⟨#[112]⟩, .int .i64 0, .slice none 0 0, .int .i64 0, .int .i64 0, .int .i64 0, .slice none 0 0, .slice none 0 0, .slice none 0 0, .slice none 0 0, .slice none 0 0, .slice none 0 0, .slice (some ⟨W3.heap.size, 0, none⟩) 1 1, .slice none 0 0, .string ⟨#[]⟩, .string ⟨#[]⟩] spD (some ⟨D2, 0, none⟩) 1 1 [(⟨#[122, 111, 110, 101]⟩, ⟨#[50]⟩)] (some ⟨u2.heap.size, 0, none⟩) 2 2 [zoneD ⟨#[49]⟩, zoneD ⟨#[50]⟩] (some ⟨W2.heap.size, 0, none⟩) 2 2 [plD ⟨#[97]⟩, plD ⟨#[98]⟩] W4.drew (HW.out _ e0).2.1 (HL2.out _ (HW.out _ e0).2.2.2.1) (HN.out _ (HW.out _ e0).2.2.2.1) (HP.out _ (HW.out _ e0).2.2.2.2.1)
  rw [wk91] at HCwk91
  refine tr 7 (fun K hK => ?_)
  go_simp
  refine (HCwk91).mono ?_
  rintro e x1 ⟨rfl, bx1⟩
  have ex1 : Below W4.heap.size W4 x1 := on2 e0 bx1
  go_wp2_with fail
  refine hK.out _ _ (HW.out _ ex1).1 (fun hHeld2 => ?_)
  clear hK K hHeld; have hHeld := hHeld2; clear hHeld2
  try go_frame
  refine' tk 8 ?_ ?_; rotate_left
  · intro u ⟨_, _, _, _, _⟩; go_simp; try with_reducible rfl
  try go_frame
  refine' tk 9 ?_ ?_; rotate_left
  · intro u ⟨_, _, _, _, _⟩; go_simp; try with_reducible rfl
  try go_frame
  refine' tq 10 (.agg #[.string ⟨#[112]⟩, .int .i64 0, .slice none 0 0, .int .i64 0, .int .i64 0, .int .i64 0, .slice none 0 0, .slice none 0 0, .slice none 0 0, .slice none 0 0, .slice none 0 0, .slice none 0 0, .slice (some ⟨W3.heap.size, 0, none⟩) 1 1, .slice none 0 0, .string ⟨#[]⟩, .string ⟨#[]⟩]) ?_ ?_
  · exact yieldsIf_load_mid rfl 33 _ rfl (W3.heap.size + 1) 0 rfl [.string ⟨#[112]⟩, .int .i64 0, .slice none 0 0, .int .i64 0, .int .i64 0, .int .i64 0, .slice none 0 0, .slice none 0 0, .slice none 0 0, .slice none 0 0, .slice none 0 0, .slice none 0 0, .slice (some ⟨W3.heap.size, 0, none⟩) 1 1, .slice none 0 0, .string ⟨#[]⟩, .string ⟨#[]⟩] _ (fun u hu => hu.1.range) Tryd.underlying33 rfl hi16
  try go_frame
  refine' tk 11 ?_ ?_; rotate_left
  · intro u ⟨_, _, _, _, _⟩; go_simp; try with_reducible rfl
  try go_frame
  refine' tk 12 ?_ ?_; rotate_left
  · intro u ⟨_, _, _, _, _⟩; go_simp; try with_reducible rfl
  try go_frame
  refine' tk 13 ?_ ?_; rotate_left
  · intro u ⟨_, _, _, _, _⟩; go_simp; try with_reducible rfl
  try go_frame
  refine' tk 14 ?_ ?_; rotate_left
  · intro u ⟨_, _, _, _, _⟩; go_simp; try with_reducible rfl
  try go_frame
  refine' tk 15 ?_ ?_; rotate_left
  · intro u ⟨_, _, _, _, _⟩; go_simp; try with_reducible rfl
  try go_frame
  refine' tk 16 ?_ ?_; rotate_left
  · intro u ⟨_, _, _, _, _⟩; go_simp; try with_reducible rfl
  try go_frame
  have HCwk92 := pChk_calls [.string ⟨#[112]⟩, .int .i64 0, .slice none 0 0, .int .i64 0, .int .i64 0, .int .i64 0, .slice none 0 0, .slice none 0 0, .slice none 0 0, .slice none 0 0, .slice none 0 0, .slice none 0 0, .slice (some ⟨W3.heap.size, 0, none⟩) 1 1, .slice none 0 0, .string ⟨#[]⟩, .string ⟨#[]⟩] spD (some ⟨D1, 0, none⟩) 1 1 [(⟨#[122, 111, 110, 101]⟩, ⟨#[49]⟩)] (some ⟨u2.heap.size, 0, none⟩) 2 2 [zoneD ⟨#[49]⟩, zoneD ⟨#[50]⟩] (some ⟨W2.heap.size, 0, none⟩) 2 2 [plD ⟨#[97]⟩, plD ⟨#[98]⟩] x1 (HW.out _ ex1).2.1 (HL1.out _ (HW.out _ ex1).2.2.2.1) (HN.out _ (HW.out _ ex1).2.2.2.1) (HP.out _ (HW.out _ ex1).2.2.2.2.1)
  rw [wk92] at HCwk92
  refine tr 17 (fun K hK => ?_)
  go_simp
  refine (HCwk92).mono ?_
  rintro e x2 ⟨rfl, bx2⟩
  have ex2 : Below W4.heap.size W4 x2 := on2 ex1 bx2
  go_wp2_with fail
  refine hK.out _ _ (HW.out _ ex2).1 (fun hHeld2 => ?_)
  clear hK K hHeld; have hHeld := hHeld2; clear hHeld2
  try go_frame
  refine' tk 18 ?_ ?_; rotate_left
  · intro u ⟨_, _, _, _, _⟩; go_simp; try with_reducible rfl
  try go_frame
  refine' tk 19 ?_ ?_; rotate_left
  · intro u ⟨_, _, _, _, _⟩; go_simp; try with_reducible rfl
  try go_frame
  refine' tk 20 ?_ ?_; rotate_left
  · intro u ⟨_, _, _, _, _⟩; go_simp; try with_reducible rfl
  try go_frame
  refine' tk 21 ?_ ?_; rotate_left
  · intro u ⟨_, _, _, _, _⟩; go_simp; try with_reducible rfl
  try go_frame
  refine' tk 22 ?_ ?_; rotate_left
  · intro u ⟨_, _, _, _, _⟩; go_simp; try with_reducible rfl
  try go_frame
  refine' tk 23 ?_ ?_; rotate_left
  · intro u ⟨_, _, _, _, _⟩; go_simp; try with_reducible rfl
  try go_frame
  refine' tq 24 (.agg #[.string ⟨#[122, 111, 110, 101]⟩, .int .i64 1, .int .i64 0, .slice none 0 0]) ?_ ?_
  · exact yieldsIf_load_mid rfl 35 _ rfl W3.heap.size 0 rfl [.string ⟨#[122, 111, 110, 101]⟩, .int .i64 1, .int .i64 0, .slice none 0 0] _ (fun u hu => hu.2.2.2.2) Tryd.underlying35 rfl hi4
  try go_frame
  refine' tk 25 ?_ ?_; rotate_left
  · intro u ⟨_, _, _, _, _⟩; go_simp; try with_reducible rfl
  try go_frame
  refine' tk 26 ?_ ?_; rotate_left
  · intro u ⟨_, _, _, _, _⟩; go_simp; try with_reducible rfl
  try go_frame
  have HCs := pSkew_calls [.string ⟨#[122, 111, 110, 101]⟩, .int .i64 1, .int .i64 0, .slice none 0 0] _ _ _ sprD (some ⟨u2.heap.size, 0, none⟩) 2 2 [zoneD ⟨#[49]⟩, zoneD ⟨#[50]⟩] (some ⟨W2.heap.size, 0, none⟩) 2 2 [plD ⟨#[97]⟩, plD ⟨#[98]⟩] x2 (HW.out _ ex2).2.2.1 (HN.out _ (HW.out _ ex2).2.2.2.1) (HP.out _ (HW.out _ ex2).2.2.2.2.1)
  rw [wk93] at HCs
  refine tr 27 (fun K hK => ?_)
  go_simp
  refine (HCs).mono ?_
  rintro e x3 ⟨rfl, bx3⟩
  have ex3 : Below W4.heap.size W4 x3 := on2 ex2 bx3
  go_wp2_with fail
  refine hK.out _ _ (HW.out _ ex3).1 (fun hHeld2 => ?_)
  clear hK K hHeld; have hHeld := hHeld2; clear hHeld2
  try go_frame
  refine' tk 28 ?_ ?_; rotate_left
  · intro u ⟨_, _, _, _, _⟩; go_simp; try with_reducible rfl
  try go_frame
  refine' tk 29 ?_ ?_; rotate_left
  · intro u ⟨_, _, _, _, _⟩; go_simp; try with_reducible rfl
  try go_frame
  refine' tk 30 ?_ ?_; rotate_left
  · intro u ⟨_, _, _, _, _⟩; go_simp; try with_reducible rfl
  try go_frame
  refine tz ?_
  have HF : Hid (Below w.heap.size w x3) := (HW.out _ ex3).2.2.2.2.2
  clear HW HN HP HL1 HL2 hHeld e0 ex1 ex2 ex3 bx1 bx2 bx3
  go_wp2_with fail
  go_ret
  exact ⟨rfl, HF.out⟩
end Go.Proofs.YtillkgflppabfaaDoor
namespace Go.Proofs.YtillkgflppabfaaDoor
open Go.RowKit
set_option linter.unusedSimpArgs false
set_option maxRecDepth 100000

def dropA9 (k : Nat) (a : Option Addr) (cap t : Nat) : Option Addr := match a with | none => none | some ad => if cap = t then some ad else some (ad.add (t * k))
theorem SlAt.drop9 {α : Type} [Inhabited α] {R : Rep α} {k bytes : Nat} {A : Where} {w : World} {B off n cap : Nat} {L : List α} (h : SlAt R k bytes A w (some ⟨B, off, none⟩) n cap L) {t : Nat} (ht : t ≤ n) : SlAt R k bytes A w (some ⟨B, off + t * k, none⟩) (n - t) (cap - t) (L.drop t) := by
  obtain ⟨h1, h2, h3, h4, h5⟩ := h
  refine ⟨by rw [List.length_drop]; omega, by omega, (fun h => by cases h), Nat.le_trans (Nat.mul_le_mul_right bytes (Nat.sub_le _ _)) h4, fun h0 => ?_⟩
  obtain ⟨B', off', e, hB, hA, hc⟩ := h5 (by omega)
  injection e with e
  injection e with e1 e2
  subst e1 e2
  refine ⟨B, _, rfl, hB, hA, fun i hi => ?_⟩
  obtain ⟨cs, h6, h7⟩ := hc (t + i) (by omega)
  have : (L.drop t).getD i default = L.getD (t + i) default := by
    rw [getE _ _ (show i < (L.drop t).length by rw [List.length_drop]; omega), getE _ _ (show t + i < L.length by omega), List.getElem_drop]
  rw [this]
  refine ⟨cs, h6, fun j v hj => ?_⟩
  have := h7 j v hj
  rwa [Nat.add_mul, ← Nat.add_assoc] at this
theorem sl_dropA9 {α : Type} [Inhabited α] {R : Rep α} {k bytes : Nat} {A : Where} {u : World} {a : Option Addr} {n cap t : Nat} {L : List α} (h : SlAt R k bytes A u a n cap L) (ht : t ≤ n) : SlAt R k bytes A u (dropA9 k a cap t) (n - t) (cap - t) (L.drop t) := by
  have hl := h.1
  by_cases hn : n - t = 0
  · have hd : L.drop t = [] := List.drop_eq_nil_of_le (by omega)
    rw [hn, hd]
    refine SlAt.nil _ _ _ _ (fun e => ?_)
    cases a with
    | none => have := h.2.2.1 rfl; omega
    | some ad => simp only [dropA9] at e; split at e <;> cases e
  · obtain ⟨B, off, rfl, _⟩ := h.2.2.2.2 (by omega)
    have hc : ¬ cap = t := by have := h.2.1; omega
    have e : dropA9 k (some ⟨B, off, none⟩) cap t = some ⟨B, off + t * k, none⟩ := by simp only [dropA9, hc, if_false]; rw [add_lit]
    rw [e]
    exact SlAt.drop9 h ht
theorem SlAt.take9 {α : Type} [Inhabited α] {R : Rep α} {k bytes : Nat} {A : Where} {w : World} {a : Option Addr} {n cap : Nat} {L : List α} (h : SlAt R k bytes A w a n cap L) {t : Nat} (ht : t ≤ n) : SlAt R k bytes A w a t cap (L.take t) := by
  obtain ⟨h1, h2, h3, h4, h5⟩ := h
  refine ⟨by rw [List.length_take]; omega, by omega, h3, Nat.le_trans (Nat.mul_le_mul_right bytes ht) h4, fun h0 => ?_⟩
  obtain ⟨B, off, e, hB, hA, hc⟩ := h5 (by omega)
  refine ⟨B, off, e, hB, hA, fun i hi => ?_⟩
  obtain ⟨cs, h6, h7⟩ := hc i (by omega)
  have : (L.take t).getD i default = L.getD i default := by
    rw [getE _ _ (show i < (L.take t).length by rw [List.length_take]; omega), getE _ _ (show i < L.length by omega), List.getElem_take]
  rw [this]
  exact ⟨cs, h6, h7⟩
theorem Among9_calls (n : Int) (m : Nat) (hm : 0 < m) (hml : m ≤ 140737488355328) (w : World) : Calls Tryd.prog 5 #[.int .i64 n, .int .i64 m] w fun e w' => (∃ k : Nat, e = .returned (.int .i64 k) ∧ k < m) ∧ w' = w := by
  have hw : IntKind.u64.wrap (m : Int) = (m : Int) := by simp [IntKind.wrap, IntKind.bits, IntKind.signed]; omega
  have hz : ((m : Int) == 0) = false := by rw [beq_eq_false_iff_ne]; omega
  have hz' : ¬ (m : Int) = 0 := by omega
  generalize hr : IntKind.u64.wrap n = r
  have hr0 : 0 ≤ r := by rw [← hr]; simp [IntKind.wrap, IntKind.bits, IntKind.signed]; omega
  have h1 : 0 ≤ r % (m : Int) := Int.emod_nonneg _ (by omega)
  have h2 : r % (m : Int) < (m : Int) := Int.emod_lt_of_pos _ (by omega)
  have h3 : r.tmod (m : Int) = r % (m : Int) := Int.tmod_eq_emod_of_nonneg hr0
  go_enter Tryd.func5, Tryd.ntmps5
  go_wp2
  go_ret
  refine ⟨⟨(r % (m : Int)).toNat, ?_, by omega⟩, rfl⟩
  rw [Int.toNat_of_nonneg h1]
  rfl
end Go.Proofs.YtillkgflppabfaaDoor
namespace Go.Proofs.YtillkgflppabfaaDoor
open Go.RowKit
set_option linter.unusedSimpArgs false
set_option maxRecDepth 100000

def setSpr (p : PodD) (l : List SpreadD) : PodD := (p.1, p.2.1, p.2.2.1, p.2.2.2.1, p.2.2.2.2.1, p.2.2.2.2.2.1, p.2.2.2.2.2.2.1, p.2.2.2.2.2.2.2.1, p.2.2.2.2.2.2.2.2.1, p.2.2.2.2.2.2.2.2.2.1, l, p.2.2.2.2.2.2.2.2.2.2.2)
theorem RPod.setSpr {A : Where} {w : World} {cs : List Value} {p : PodD} (h : RPod A w cs p) {g : Hd} {l : List SpreadD} (hs : SlAt RSpread 4 56 A w g.1 g.2.1 g.2.2 l) : RPod A w (cs.set 12 (.slice g.1 g.2.1 g.2.2)) (setSpr p l) := by
  obtain ⟨h2, h6, h7, h8, h9, h10, h11, h12, h13, rfl, p0, s2, s6, s7, s8, s9, s10, s11, s12, s13, q1, q2⟩ := h.out
  exact RPod.mk (x := Proofs.YtillkgflppabfaaDoor.setSpr p l) (h2 := h2) (h6 := h6) (h7 := h7) (h8 := h8) (h9 := h9) (h10 := h10) (h11 := h11) (h12 := g) (h13 := h13) p0 s2 s6 s7 s8 s9 s10 s11 hs s13 q1 q2
theorem least_open (p : PodD) (s : SpreadD) (hs : 1 ≤ s.2.1) (hl : s.2.2.1 = 0) (N : List NodeD) (l : List PlacedD) (h : domsP s.1 N ≠ []) (ho : othersN p.1 l = l) : ∃ n ∈ N, spreadP 12 (setSpr p [s]) (nLabs n) N l = 0 := by
  obtain ⟨n, hn, h1, h2⟩ := least_plain s N l h
  refine ⟨n, hn, ?_⟩
  have e1 : othersN (setSpr p [s]).1 l = l := ho
  have e2 : pSpreads (setSpr p [s]) = [s] := rfl
  have hb : badS (pLabs (setSpr p [s])) (nLabs n) N l s = false := by
    unfold badS
    rw [h1, h2, hl]
    simp only [Bool.not_true, Bool.false_or, decide_eq_false_iff_not]
    have hlen : ¬ ((domsP s.1 N).length : Int) < 0 := by omega
    rw [if_neg hlen]
    split <;> omega
  unfold spreadP
  rw [e1, e2]
  simp [hb]
theorem others_idem (nm : ByteArray) (l : List PlacedD) : othersN nm (othersN nm l) = othersN nm l := by unfold othersN; rw [List.filter_filter]; congr 1; funext x; simp
def LtS (P B o : Nat) (nm x : ByteArray) (u : World) : Prop := u.cell? ⟨P, 0, none⟩ = some (.string nm) ∧ u.cell? ⟨B, o, none⟩ = some (.string x)
def LtK (cs : List Value) (P B o : Nat) (g : Hd) (u : World) : Prop := BoxL u P cs ∧ u.cell? ⟨B, o, none⟩ = some (.slice g.1 g.2.1 g.2.2)
end Go.Proofs.YtillkgflppabfaaDoor
