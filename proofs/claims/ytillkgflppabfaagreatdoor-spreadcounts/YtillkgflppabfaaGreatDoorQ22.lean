/- The law's works of layer 9: the chapter's example. Condition: the program's contracts. The program's spread.Counts. Condition: the arguments lie as is said of them; the table of powers of ten is laid as the program's text lays it. -/
import Derived.Test.YtillkgflppabfaaGreatDoorQ21
import Derived.Lib.AppendIntMem
import Derived.Lib.ItoaLen
namespace Go.Proofs.YtillkgflppabfaaGreatDoor
open Go.RowKit
set_option linter.unusedSimpArgs false
set_option maxRecDepth 100000

def plD (nm : ByteArray) : PlacedD := ((nm, 0, [], (0, 0, 0), [], [], [], [], [], [], [], [], ⟨#[]⟩, ⟨#[]⟩), [(⟨#[122, 111, 110, 101]⟩, ⟨#[49]⟩)])
def sprD : SpreadD := (⟨#[122, 111, 110, 101]⟩, 1, 0, [])
def spD : PodD := (⟨#[112]⟩, 0, [], (0, 0, 0), [], [], [], [], [], [], [sprD], [], ⟨#[]⟩, ⟨#[]⟩)
theorem wk91 : spreadP 12 spD [(⟨#[122, 111, 110, 101]⟩, ⟨#[50]⟩)] [zoneD ⟨#[49]⟩, zoneD ⟨#[50]⟩] [plD ⟨#[97]⟩, plD ⟨#[98]⟩] = 0 := by kernel_rfl
theorem wk92 : spreadP 12 spD [(⟨#[122, 111, 110, 101]⟩, ⟨#[49]⟩)] [zoneD ⟨#[49]⟩, zoneD ⟨#[50]⟩] [plD ⟨#[97]⟩, plD ⟨#[98]⟩] = 12 := by kernel_rfl
theorem wk93 : skewP sprD [zoneD ⟨#[49]⟩, zoneD ⟨#[50]⟩] [plD ⟨#[97]⟩, plD ⟨#[98]⟩] = 2 := by kernel_rfl
theorem pl_at {A : Where} {u : World} (nm : ByteArray) (hn : nm.size ≤ 140737488355328) {D : Nat} (hs : SlAt RLabel 2 32 A u (some ⟨D, 0, none⟩) 1 1 [(⟨#[122, 111, 110, 101]⟩, ⟨#[49]⟩)]) : RPlaced A u [.string nm, .int .i64 0, .slice none 0 0, .int .i64 0, .int .i64 0, .int .i64 0, .slice none 0 0, .slice none 0 0, .slice none 0 0, .slice none 0 0, .slice none 0 0, .slice none 0 0, .slice none 0 0, .slice none 0 0, .string ⟨#[]⟩, .string ⟨#[]⟩, .slice (some ⟨D, 0, none⟩) 1 1] (plD nm) :=
  ⟨[.string nm, .int .i64 0, .slice none 0 0, .int .i64 0, .int .i64 0, .int .i64 0, .slice none 0 0, .slice none 0 0, .slice none 0 0, .slice none 0 0, .slice none 0 0, .slice none 0 0, .slice none 0 0, .slice none 0 0, .string ⟨#[]⟩, .string ⟨#[]⟩], [.slice (some ⟨D, 0, none⟩) 1 1], rfl, RPod.mk (x := (plD nm).1) (h2 := (none, 0, 0)) (h6 := (none, 0, 0)) (h7 := (none, 0, 0)) (h8 := (none, 0, 0)) (h9 := (none, 0, 0)) (h10 := (none, 0, 0)) (h11 := (none, 0, 0)) (h12 := (none, 0, 0)) (h13 := (none, 0, 0)) hn (SlAt.nil _ _ _ _ (fun _ => rfl)) (SlAt.nil _ _ _ _ (fun _ => rfl)) (SlAt.nil _ _ _ _ (fun _ => rfl)) (SlAt.nil _ _ _ _ (fun _ => rfl)) (SlAt.nil _ _ _ _ (fun _ => rfl)) (SlAt.nil _ _ _ _ (fun _ => rfl)) (SlAt.nil _ _ _ _ (fun _ => rfl)) (SlAt.nil _ _ _ _ (fun _ => rfl)) (SlAt.nil _ _ _ _ (fun _ => rfl)) (Nat.zero_le _) (Nat.zero_le _), some ⟨D, 0, none⟩, 1, 1, rfl, hs⟩
def W9S (M E G : Nat) (D1 D2 : Nat) (u : World) : Prop :=
  BoxL u E [.string ⟨#[112]⟩, .int .i64 0, .slice none 0 0, .int .i64 0, .int .i64 0, .int .i64 0, .slice none 0 0, .slice none 0 0, .slice none 0 0, .slice none 0 0, .slice none 0 0, .slice none 0 0, .slice (some ⟨G, 0, none⟩) 1 1, .slice none 0 0, .string ⟨#[]⟩, .string ⟨#[]⟩] ∧ u.cell? ⟨M, 1, none⟩ = some (.slice (some ⟨D1, 0, none⟩) 1 1) ∧ u.cell? ⟨M, 10, none⟩ = some (.slice (some ⟨D2, 0, none⟩) 1 1) ∧ u.cell? ⟨E, 12, none⟩ = some (.slice (some ⟨G, 0, none⟩) 1 1) ∧ u.rangeAt G 0 [.string ⟨#[122, 111, 110, 101]⟩, .int .i64 1, .int .i64 0, .slice none 0 0]
set_option maxHeartbeats 8000000 in
theorem works9_calls (w : World) : Calls Tryz.prog 12 #[] w fun e w' => e = .returned (.bool true) ∧ Below w.heap.size w w' := by
  go_enter Tryz.func12, Tryz.ntmps12
  go_wp2_with fail
  refine (zone9_calls ⟨#[49]⟩ (by decide) w).mono ?_
  rintro e u1 ⟨D1, rfl, n1, b1⟩
  go_wp2_with fail
  refine (zone9_calls ⟨#[50]⟩ (by decide) u1).mono ?_
  rintro e u2 ⟨D2, rfl, n2, b2⟩
  obtain ⟨W2, hW2⟩ : ∃ W, W = u2.alloc (.cells #[.string ⟨#[49]⟩, .slice (some ⟨D1, 0, none⟩) 1 1, .slice none 0 0, .bool false, .int .i64 0, .int .i64 0, .int .i64 0, .int .i64 0, .int .i64 0, .string ⟨#[50]⟩, .slice (some ⟨D2, 0, none⟩) 1 1, .slice none 0 0, .bool false, .int .i64 0, .int .i64 0, .int .i64 0, .int .i64 0, .int .i64 0] 40) := ⟨_, rfl⟩
  have B2 : Below u2.heap.size u2 W2 := by rw [hW2]; go_grown
  have q2 : BoxL W2 u2.heap.size ([.string ⟨#[49]⟩, .slice (some ⟨D1, 0, none⟩) 1 1, .slice none 0 0, .bool false, .int .i64 0, .int .i64 0, .int .i64 0, .int .i64 0, .int .i64 0] ++ [.string ⟨#[50]⟩, .slice (some ⟨D2, 0, none⟩) 1 1, .slice none 0 0, .bool false, .int .i64 0, .int .i64 0, .int .i64 0, .int .i64 0, .int .i64 0]) := by rw [hW2]; exact BoxL.new u2 40 ([.string ⟨#[49]⟩, .slice (some ⟨D1, 0, none⟩) 1 1, .slice none 0 0, .bool false, .int .i64 0, .int .i64 0, .int .i64 0, .int .i64 0, .int .i64 0] ++ [.string ⟨#[50]⟩, .slice (some ⟨D2, 0, none⟩) 1 1, .slice none 0 0, .bool false, .int .i64 0, .int .i64 0, .int .i64 0, .int .i64 0, .int .i64 0])
  have r1 := RNode.firm.kept (RNode.firm.kept n1 (Kept.below b2)) (Kept.below B2)
  have r2 := RNode.firm.kept n2 (Kept.below B2)
  have HN : Hid (∀ u, Below W2.heap.size W2 u → SlAt RNode 9 112 (fun _ => True) u (some ⟨u2.heap.size, 0, none⟩) 2 2 [zoneD ⟨#[49]⟩, zoneD ⟨#[50]⟩]) := fun u hb => (sl_two9 q2 r1 r2 rfl trivial (by decide)).on RNode.firm hb
  have HL1 : Hid (∀ u, Below W2.heap.size W2 u → SlAt RLabel 2 32 (fun _ => True) u (some ⟨D1, 0, none⟩) 1 1 [(⟨#[122, 111, 110, 101]⟩, ⟨#[49]⟩)]) := fun u hb => by obtain ⟨⟨x1, x2, x3⟩, _, e, _, s, _⟩ := r1.out; simp only [List.cons.injEq, Value.slice.injEq] at e; obtain ⟨_, ⟨rfl, rfl, rfl⟩, _⟩ := e; exact SlAt.on RLabel.firm s hb
  have HL2 : Hid (∀ u, Below W2.heap.size W2 u → SlAt RLabel 2 32 (fun _ => True) u (some ⟨D2, 0, none⟩) 1 1 [(⟨#[122, 111, 110, 101]⟩, ⟨#[50]⟩)]) := fun u hb => by obtain ⟨⟨x1, x2, x3⟩, _, e, _, s, _⟩ := r2.out; simp only [List.cons.injEq, Value.slice.injEq] at e; obtain ⟨_, ⟨rfl, rfl, rfl⟩, _⟩ := e; exact SlAt.on RLabel.firm s hb
  have HM : Hid (∀ u, Below W2.heap.size W2 u → u.cell? ⟨u2.heap.size, 1, none⟩ = some (.slice (some ⟨D1, 0, none⟩) 1 1) ∧ u.cell? ⟨u2.heap.size, 10, none⟩ = some (.slice (some ⟨D2, 0, none⟩) 1 1)) := fun u hb => ⟨((q2.on hb).2 1 _ rfl).1, ((q2.on hb).2 10 _ rfl).1⟩
  have HB2 : Hid (Below w.heap.size w W2) := on2 (on2 b1 b2) B2
  clear n1 n2 b1 b2 r1 r2 q2 B2
  go_upto_region 2 with fail
  rw [← hW2]
  clear hW2
  have d0 : Below W2.heap.size W2 W2.drew := (Below.refl _ _).drew
  refine t0 (fun u => u.cell? ⟨u2.heap.size, 1, none⟩ = some (.slice (some ⟨D1, 0, none⟩) 1 1)) (HM.out _ d0).1 (fun hHeld => ?_)
  refine' tk 0 ?_ ?_; rotate_left
  · intro u hu; go_simp; try with_reducible rfl
  try go_frame
  refine' tk 1 ?_ ?_; rotate_left
  · intro u hu; go_simp; try with_reducible rfl
  try go_frame
  refine' tk 2 ?_ ?_; rotate_left
  · intro u hu; go_simp; try with_reducible rfl
  try go_frame
  refine' tk 3 ?_ ?_; rotate_left
  · intro u hu; go_simp; try with_reducible rfl
  try go_frame
  refine' tk 4 ?_ ?_; rotate_left
  · intro u hu; go_simp; try with_reducible rfl
  try go_frame
  refine' tk 5 ?_ ?_; rotate_left
  · intro u hu; go_simp; try with_reducible rfl
  try go_frame
  refine' tk 6 ?_ ?_; rotate_left
  · intro u hu; go_simp; try with_reducible rfl
  try go_frame
  refine' tk 7 ?_ ?_; rotate_left
  · intro u hu; go_simp; try with_reducible rfl
  try go_frame
  refine' tk 8 ?_ ?_; rotate_left
  · intro u hu; go_simp; try with_reducible rfl
  try go_frame
  refine' tk 9 ?_ ?_; rotate_left
  · intro u hu; go_simp; try with_reducible rfl
  try go_frame
  refine' tk 10 ?_ ?_; rotate_left
  · intro u hu; go_simp; try with_reducible rfl
  try go_frame
  refine' tk 11 ?_ ?_; rotate_left
  · intro u hu; go_simp; try with_reducible rfl
  try go_frame
  obtain ⟨W3, hW3⟩ : ∃ W, W = W2.drew.alloc (.cells #[.string ⟨#[97]⟩, .int .i64 0, .slice none 0 0, .int .i64 0, .int .i64 0, .int .i64 0, .slice none 0 0, .slice none 0 0, .slice none 0 0, .slice none 0 0, .slice none 0 0, .slice none 0 0, .slice none 0 0, .slice none 0 0, .string ⟨#[]⟩, .string ⟨#[]⟩, .slice (some ⟨D1, 0, none⟩) 1 1, .string ⟨#[98]⟩, .int .i64 0, .slice none 0 0, .int .i64 0, .int .i64 0, .int .i64 0, .slice none 0 0, .slice none 0 0, .slice none 0 0, .slice none 0 0, .slice none 0 0, .slice none 0 0, .slice none 0 0, .slice none 0 0, .string ⟨#[]⟩, .string ⟨#[]⟩, .slice (some ⟨D1, 0, none⟩) 1 1] 52) := ⟨_, rfl⟩
  have B3 : Below W2.heap.size W2 W3 := by rw [hW3]; exact d0.alloc d0.size _
  have q3 : BoxL W3 W2.drew.heap.size ([.string ⟨#[97]⟩, .int .i64 0, .slice none 0 0, .int .i64 0, .int .i64 0, .int .i64 0, .slice none 0 0, .slice none 0 0, .slice none 0 0, .slice none 0 0, .slice none 0 0, .slice none 0 0, .slice none 0 0, .slice none 0 0, .string ⟨#[]⟩, .string ⟨#[]⟩, .slice (some ⟨D1, 0, none⟩) 1 1] ++ [.string ⟨#[98]⟩, .int .i64 0, .slice none 0 0, .int .i64 0, .int .i64 0, .int .i64 0, .slice none 0 0, .slice none 0 0, .slice none 0 0, .slice none 0 0, .slice none 0 0, .slice none 0 0, .slice none 0 0, .slice none 0 0, .string ⟨#[]⟩, .string ⟨#[]⟩, .slice (some ⟨D1, 0, none⟩) 1 1]) := by rw [hW3]; exact BoxL.new W2.drew 52 ([.string ⟨#[97]⟩, .int .i64 0, .slice none 0 0, .int .i64 0, .int .i64 0, .int .i64 0, .slice none 0 0, .slice none 0 0, .slice none 0 0, .slice none 0 0, .slice none 0 0, .slice none 0 0, .slice none 0 0, .slice none 0 0, .string ⟨#[]⟩, .string ⟨#[]⟩, .slice (some ⟨D1, 0, none⟩) 1 1] ++ [.string ⟨#[98]⟩, .int .i64 0, .slice none 0 0, .int .i64 0, .int .i64 0, .int .i64 0, .slice none 0 0, .slice none 0 0, .slice none 0 0, .slice none 0 0, .slice none 0 0, .slice none 0 0, .slice none 0 0, .slice none 0 0, .string ⟨#[]⟩, .string ⟨#[]⟩, .slice (some ⟨D1, 0, none⟩) 1 1])
  have HP : Hid (∀ u, Below W3.heap.size W3 u → SlAt RPlaced 17 320 (fun _ => True) u (some ⟨W2.heap.size, 0, none⟩) 2 2 [plD ⟨#[97]⟩, plD ⟨#[98]⟩]) := fun u hb => (sl_two9 (B := W2.heap.size) q3 (pl_at ⟨#[97]⟩ (by decide) (HL1.out _ B3)) (pl_at ⟨#[98]⟩ (by decide) (HL1.out _ B3)) rfl trivial (by decide)).on RPlaced.firm hb
  have HB3 : Hid (Below W2.heap.size W2 W3) := B3
  refine tr 12 (fun K hK => ?_)
  go_simp
  have hW3b : W3 = W2.drew.alloc (.cells #[.string ⟨#[97]⟩, .int .i64 0, .slice none 0 0, .int .i64 0, .int .i64 0, .int .i64 0, .slice none 0 0, .slice none 0 0, .slice none 0 0, .slice none 0 0, .slice none 0 0, .slice none 0 0, .slice none 0 0, .slice none 0 0, .string ⟨#[]⟩, .string ⟨#[]⟩, .slice (some ⟨D1, 0, none⟩) 1 1, .string ⟨#[98]⟩, .int .i64 0, .slice none 0 0, .int .i64 0, .int .i64 0, .int .i64 0, .slice none 0 0, .slice none 0 0, .slice none 0 0, .slice none 0 0, .slice none 0 0, .slice none 0 0, .slice none 0 0, .slice none 0 0, .string ⟨#[]⟩, .string ⟨#[]⟩, .slice (some ⟨D1, 0, none⟩) 1 1] 52) := hW3
  first | rw [← hW3] | (rw [show (W2.alloc (.cells #[.string ⟨#[97]⟩, .int .i64 0, .slice none 0 0, .int .i64 0, .int .i64 0, .int .i64 0, .slice none 0 0, .slice none 0 0, .slice none 0 0, .slice none 0 0, .slice none 0 0, .slice none 0 0, .slice none 0 0, .slice none 0 0, .string ⟨#[]⟩, .string ⟨#[]⟩, .slice (some ⟨D1, 0, none⟩) 1 1, .string ⟨#[98]⟩, .int .i64 0, .slice none 0 0, .int .i64 0, .int .i64 0, .int .i64 0, .slice none 0 0, .slice none 0 0, .slice none 0 0, .slice none 0 0, .slice none 0 0, .slice none 0 0, .slice none 0 0, .slice none 0 0, .string ⟨#[]⟩, .string ⟨#[]⟩, .slice (some ⟨D1, 0, none⟩) 1 1] 52)).drew = W3 from hW3.symm])
  refine hK.out _ _ (HM.out _ B3).1 (fun hHeld2 => ?_)
  clear hK K hHeld hW3b; have hHeld := hHeld2; clear hHeld2
  try go_frame
  refine' tk 13 ?_ ?_; rotate_left
  · intro u hu; go_simp; try with_reducible rfl
  try go_frame
  refine tz ?_
  clear hHeld q3 B3 d0 hW3
  obtain ⟨W4, hW4⟩ : ∃ W, W = (W3.alloc (.cells #[.string ⟨#[122, 111, 110, 101]⟩, .int .i64 1, .int .i64 0, .slice none 0 0] 24)).alloc (.cells #[.string ⟨#[112]⟩, .int .i64 0, .slice none 0 0, .int .i64 0, .int .i64 0, .int .i64 0, .slice none 0 0, .slice none 0 0, .slice none 0 0, .slice none 0 0, .slice none 0 0, .slice none 0 0, .slice (some ⟨W3.heap.size, 0, none⟩) 1 1, .slice none 0 0, .string ⟨#[]⟩, .string ⟨#[]⟩] 49) := ⟨_, rfl⟩
  have B4 : Below W3.heap.size W3 W4 := by rw [hW4]; go_grown
  have q4 : BoxL W4 W3.heap.size [.string ⟨#[122, 111, 110, 101]⟩, .int .i64 1, .int .i64 0, .slice none 0 0] := by rw [hW4]; exact (BoxL.new W3 24 [.string ⟨#[122, 111, 110, 101]⟩, .int .i64 1, .int .i64 0, .slice none 0 0]).on ((Below.refl _ _).alloc (Nat.le_refl _) _)
  have q5 : BoxL W4 (W3.heap.size + 1) [.string ⟨#[112]⟩, .int .i64 0, .slice none 0 0, .int .i64 0, .int .i64 0, .int .i64 0, .slice none 0 0, .slice none 0 0, .slice none 0 0, .slice none 0 0, .slice none 0 0, .slice none 0 0, .slice (some ⟨W3.heap.size, 0, none⟩) 1 1, .slice none 0 0, .string ⟨#[]⟩, .string ⟨#[]⟩] := by rw [hW4]; have h1 := BoxL.new (W3.alloc (.cells #[.string ⟨#[122, 111, 110, 101]⟩, .int .i64 1, .int .i64 0, .slice none 0 0] 24)) 49 [.string ⟨#[112]⟩, .int .i64 0, .slice none 0 0, .int .i64 0, .int .i64 0, .int .i64 0, .slice none 0 0, .slice none 0 0, .slice none 0 0, .slice none 0 0, .slice none 0 0, .slice none 0 0, .slice (some ⟨W3.heap.size, 0, none⟩) 1 1, .slice none 0 0, .string ⟨#[]⟩, .string ⟨#[]⟩]; simpa using h1
  have rs : RSpread (fun _ => True) W4 [.string ⟨#[122, 111, 110, 101]⟩, .int .i64 1, .int .i64 0, .slice none 0 0] sprD := RSpread.mk (x := sprD) (h3 := (none, 0, 0)) (show (4 : Nat) ≤ 140737488355328 by decide) (SlAt.nil _ _ _ _ (fun _ => rfl))
  have rp : RPod (fun _ => True) W4 [.string ⟨#[112]⟩, .int .i64 0, .slice none 0 0, .int .i64 0, .int .i64 0, .int .i64 0, .slice none 0 0, .slice none 0 0, .slice none 0 0, .slice none 0 0, .slice none 0 0, .slice none 0 0, .slice (some ⟨W3.heap.size, 0, none⟩) 1 1, .slice none 0 0, .string ⟨#[]⟩, .string ⟨#[]⟩] spD := RPod.mk (x := spD) (h2 := (none, 0, 0)) (h6 := (none, 0, 0)) (h7 := (none, 0, 0)) (h8 := (none, 0, 0)) (h9 := (none, 0, 0)) (h10 := (none, 0, 0)) (h11 := (none, 0, 0)) (h12 := (some ⟨W3.heap.size, 0, none⟩, 1, 1)) (h13 := (none, 0, 0)) (show (1 : Nat) ≤ 140737488355328 by decide) (SlAt.nil _ _ _ _ (fun _ => rfl)) (SlAt.nil _ _ _ _ (fun _ => rfl)) (SlAt.nil _ _ _ _ (fun _ => rfl)) (SlAt.nil _ _ _ _ (fun _ => rfl)) (SlAt.nil _ _ _ _ (fun _ => rfl)) (SlAt.nil _ _ _ _ (fun _ => rfl)) (SlAt.nil _ _ _ _ (fun _ => rfl)) (sl_one9 q4 rs trivial (by decide)) (SlAt.nil _ _ _ _ (fun _ => rfl)) (Nat.zero_le _) (Nat.zero_le _)
  have HW : Hid (∀ u, Below W4.heap.size W4 u → W9S u2.heap.size (W3.heap.size + 1) W3.heap.size D1 D2 u ∧ RPod (fun _ => True) u [.string ⟨#[112]⟩, .int .i64 0, .slice none 0 0, .int .i64 0, .int .i64 0, .int .i64 0, .slice none 0 0, .slice none 0 0, .slice none 0 0, .slice none 0 0, .slice none 0 0, .slice none 0 0, .slice (some ⟨W3.heap.size, 0, none⟩) 1 1, .slice none 0 0, .string ⟨#[]⟩, .string ⟨#[]⟩] spD ∧ RSpread (fun _ => True) u [.string ⟨#[122, 111, 110, 101]⟩, .int .i64 1, .int .i64 0, .slice none 0 0] sprD ∧ Below W2.heap.size W2 u ∧ Below W3.heap.size W3 u ∧ Below w.heap.size w u) := fun u hb => by
    have h2 : Below W2.heap.size W2 u := on2 HB3.out (on2 B4 hb)
    exact ⟨⟨q5.on hb, (HM.out u h2).1, (HM.out u h2).2, ((q5.on hb).2 12 _ rfl).1, (q4.on hb).range⟩, RPod.firm.kept rp (Kept.below hb), RSpread.firm.kept rs (Kept.below hb), h2, on2 B4 hb, on2 HB2.out h2⟩
  clear q4 q5 rs rp B4 HM HB3 HB2
  go_upto_region 4 with fail
  rw [← hW4]
  clear hW4
  have hi16 : (Tryz.prog.info? 49).map (·.size) = some ([.string ⟨#[112]⟩, .int .i64 0, .slice none 0 0, .int .i64 0, .int .i64 0, .int .i64 0, .slice none 0 0, .slice none 0 0, .slice none 0 0, .slice none 0 0, .slice none 0 0, .slice none 0 0, .slice (some ⟨W3.heap.size, 0, none⟩) 1 1, .slice none 0 0, .string ⟨#[]⟩, .string ⟨#[]⟩] : List Value).length := sizePo
  have hi4 : (Tryz.prog.info? 24).map (·.size) = some ([.string ⟨#[122, 111, 110, 101]⟩, .int .i64 1, .int .i64 0, .slice none 0 0] : List Value).length := sizeSp
  have e0 : Below W4.heap.size W4 W4.drew := (Below.refl _ _).drew
  refine t0 (W9S u2.heap.size (W3.heap.size + 1) W3.heap.size D1 D2) (HW.out _ e0).1 (fun hHeld => ?_)
  refine' tq 0 (.agg #[.string ⟨#[112]⟩, .int .i64 0, .slice none 0 0, .int .i64 0, .int .i64 0, .int .i64 0, .slice none 0 0, .slice none 0 0, .slice none 0 0, .slice none 0 0, .slice none 0 0, .slice none 0 0, .slice (some ⟨W3.heap.size, 0, none⟩) 1 1, .slice none 0 0, .string ⟨#[]⟩, .string ⟨#[]⟩]) ?_ ?_
  · exact yieldsIf_load_mid rfl 49 _ rfl (W3.heap.size + 1) 0 rfl [.string ⟨#[112]⟩, .int .i64 0, .slice none 0 0, .int .i64 0, .int .i64 0, .int .i64 0, .slice none 0 0, .slice none 0 0, .slice none 0 0, .slice none 0 0, .slice none 0 0, .slice none 0 0, .slice (some ⟨W3.heap.size, 0, none⟩) 1 1, .slice none 0 0, .string ⟨#[]⟩, .string ⟨#[]⟩] _ (fun u hu => hu.1.range) Tryz.underlying49 rfl hi16
  try go_frame
  refine' tk 1 ?_ ?_; rotate_left
  · intro u ⟨_, _, _, _, _⟩; go_simp; try with_reducible rfl
  try go_frame
  refine' tk 2 ?_ ?_; rotate_left
  · intro u ⟨_, _, _, _, _⟩; go_simp; try with_reducible rfl
  try go_frame
  refine' tk 3 ?_ ?_; rotate_left
  · intro u ⟨_, _, _, _, _⟩; go_simp; try with_reducible rfl
  try go_frame
  refine' tk 4 ?_ ?_; rotate_left
  · intro u ⟨_, _, _, _, _⟩; go_simp; try with_reducible rfl
  try go_frame
  refine' tk 5 ?_ ?_; rotate_left
  · intro u ⟨_, _, _, _, _⟩; go_simp; try with_reducible rfl
  try go_frame
  refine' tk 6 ?_ ?_; rotate_left
  · intro u ⟨_, _, _, _, _⟩; go_simp; try with_reducible rfl
  try go_frame
  have HCwk91 := pChk_calls [.string ⟨#[112]⟩, .int .i64 0, .slice none 0 0, .int .i64 0, .int .i64 0, .int .i64 0, .slice none 0 0, .slice none 0 0, .slice none 0 0, .slice none 0 0, .slice none 0 0, .slice none 0 0, .slice (some ⟨W3.heap.size, 0, none⟩) 1 1, .slice none 0 0, .string ⟨#[]⟩, .string ⟨#[]⟩] spD (some ⟨D2, 0, none⟩) 1 1 [(⟨#[122, 111, 110, 101]⟩, ⟨#[50]⟩)] (some ⟨u2.heap.size, 0, none⟩) 2 2 [zoneD ⟨#[49]⟩, zoneD ⟨#[50]⟩] (some ⟨W2.heap.size, 0, none⟩) 2 2 [plD ⟨#[97]⟩, plD ⟨#[98]⟩] W4.drew (HW.out _ e0).2.1 (HL2.out _ (HW.out _ e0).2.2.2.1) (HN.out _ (HW.out _ e0).2.2.2.1) (HP.out _ (HW.out _ e0).2.2.2.2.1)
  rw [wk91] at HCwk91
  refine tr 7 (fun K hK => ?_)
  go_simp
  refine (HCwk91).mono ?_
  rintro e x1 ⟨rfl, bx1⟩
  have ex1 : Below W4.heap.size W4 x1 := on2 e0 bx1
  go_wp2_with fail
  refine hK.out _ _ (HW.out _ ex1).1 (fun hHeld2 => ?_)
  clear hK K hHeld; have hHeld := hHeld2; clear hHeld2
  try go_frame
  refine' tk 8 ?_ ?_; rotate_left
  · intro u ⟨_, _, _, _, _⟩; go_simp; try with_reducible rfl
  try go_frame
  refine' tk 9 ?_ ?_; rotate_left
  · intro u ⟨_, _, _, _, _⟩; go_simp; try with_reducible rfl
  try go_frame
  refine' tq 10 (.agg #[.string ⟨#[112]⟩, .int .i64 0, .slice none 0 0, .int .i64 0, .int .i64 0, .int .i64 0, .slice none 0 0, .slice none 0 0, .slice none 0 0, .slice none 0 0, .slice none 0 0, .slice none 0 0, .slice (some ⟨W3.heap.size, 0, none⟩) 1 1, .slice none 0 0, .string ⟨#[]⟩, .string ⟨#[]⟩]) ?_ ?_
  · exact yieldsIf_load_mid rfl 49 _ rfl (W3.heap.size + 1) 0 rfl [.string ⟨#[112]⟩, .int .i64 0, .slice none 0 0, .int .i64 0, .int .i64 0, .int .i64 0, .slice none 0 0, .slice none 0 0, .slice none 0 0, .slice none 0 0, .slice none 0 0, .slice none 0 0, .slice (some ⟨W3.heap.size, 0, none⟩) 1 1, .slice none 0 0, .string ⟨#[]⟩, .string ⟨#[]⟩] _ (fun u hu => hu.1.range) Tryz.underlying49 rfl hi16
  try go_frame
  refine' tk 11 ?_ ?_; rotate_left
  · intro u ⟨_, _, _, _, _⟩; go_simp; try with_reducible rfl
  try go_frame
  refine' tk 12 ?_ ?_; rotate_left
  · intro u ⟨_, _, _, _, _⟩; go_simp; try with_reducible rfl
  try go_frame
  refine' tk 13 ?_ ?_; rotate_left
  · intro u ⟨_, _, _, _, _⟩; go_simp; try with_reducible rfl
  try go_frame
  refine' tk 14 ?_ ?_; rotate_left
  · intro u ⟨_, _, _, _, _⟩; go_simp; try with_reducible rfl
  try go_frame
  refine' tk 15 ?_ ?_; rotate_left
  · intro u ⟨_, _, _, _, _⟩; go_simp; try with_reducible rfl
  try go_frame
  refine' tk 16 ?_ ?_; rotate_left
  · intro u ⟨_, _, _, _, _⟩; go_simp; try with_reducible rfl
  try go_frame
  have HCwk92 := pChk_calls [.string ⟨#[112]⟩, .int .i64 0, .slice none 0 0, .int .i64 0, .int .i64 0, .int .i64 0, .slice none 0 0, .slice none 0 0, .slice none 0 0, .slice none 0 0, .slice none 0 0, .slice none 0 0, .slice (some ⟨W3.heap.size, 0, none⟩) 1 1, .slice none 0 0, .string ⟨#[]⟩, .string ⟨#[]⟩] spD (some ⟨D1, 0, none⟩) 1 1 [(⟨#[122, 111, 110, 101]⟩, ⟨#[49]⟩)] (some ⟨u2.heap.size, 0, none⟩) 2 2 [zoneD ⟨#[49]⟩, zoneD ⟨#[50]⟩] (some ⟨W2.heap.size, 0, none⟩) 2 2 [plD ⟨#[97]⟩, plD ⟨#[98]⟩] x1 (HW.out _ ex1).2.1 (HL1.out _ (HW.out _ ex1).2.2.2.1) (HN.out _ (HW.out _ ex1).2.2.2.1) (HP.out _ (HW.out _ ex1).2.2.2.2.1)
  rw [wk92] at HCwk92
  refine tr 17 (fun K hK => ?_)
  go_simp
  refine (HCwk92).mono ?_
  rintro e x2 ⟨rfl, bx2⟩
  have ex2 : Below W4.heap.size W4 x2 := on2 ex1 bx2
  go_wp2_with fail
  refine hK.out _ _ (HW.out _ ex2).1 (fun hHeld2 => ?_)
  clear hK K hHeld; have hHeld := hHeld2; clear hHeld2
  try go_frame
  refine' tk 18 ?_ ?_; rotate_left
  · intro u ⟨_, _, _, _, _⟩; go_simp; try with_reducible rfl
  try go_frame
  refine' tk 19 ?_ ?_; rotate_left
  · intro u ⟨_, _, _, _, _⟩; go_simp; try with_reducible rfl
  try go_frame
  refine' tk 20 ?_ ?_; rotate_left
  · intro u ⟨_, _, _, _, _⟩; go_simp; try with_reducible rfl
  try go_frame
  refine' tk 21 ?_ ?_; rotate_left
  · intro u ⟨_, _, _, _, _⟩; go_simp; try with_reducible rfl
  try go_frame
  refine' tk 22 ?_ ?_; rotate_left
  · intro u ⟨_, _, _, _, _⟩; go_simp; try with_reducible rfl
  try go_frame
  refine' tk 23 ?_ ?_; rotate_left
  · intro u ⟨_, _, _, _, _⟩; go_simp; try with_reducible rfl
  try go_frame
  refine' tq 24 (.agg #[.string ⟨#[122, 111, 110, 101]⟩, .int .i64 1, .int .i64 0, .slice none 0 0]) ?_ ?_
  · exact yieldsIf_load_mid rfl 24 _ rfl W3.heap.size 0 rfl [.string ⟨#[122, 111, 110, 101]⟩, .int .i64 1, .int .i64 0, .slice none 0 0] _ (fun u hu => hu.2.2.2.2) Tryz.underlying24 rfl hi4
  try go_frame
  refine' tk 25 ?_ ?_; rotate_left
  · intro u ⟨_, _, _, _, _⟩; go_simp; try with_reducible rfl
  try go_frame
  refine' tk 26 ?_ ?_; rotate_left
  · intro u ⟨_, _, _, _, _⟩; go_simp; try with_reducible rfl
  try go_frame
  have HCs := pSkew_calls [.string ⟨#[122, 111, 110, 101]⟩, .int .i64 1, .int .i64 0, .slice none 0 0] _ _ _ sprD (some ⟨u2.heap.size, 0, none⟩) 2 2 [zoneD ⟨#[49]⟩, zoneD ⟨#[50]⟩] (some ⟨W2.heap.size, 0, none⟩) 2 2 [plD ⟨#[97]⟩, plD ⟨#[98]⟩] x2 (HW.out _ ex2).2.2.1 (HN.out _ (HW.out _ ex2).2.2.2.1) (HP.out _ (HW.out _ ex2).2.2.2.2.1)
  rw [wk93] at HCs
  refine tr 27 (fun K hK => ?_)
  go_simp
  refine (HCs).mono ?_
  rintro e x3 ⟨rfl, bx3⟩
  have ex3 : Below W4.heap.size W4 x3 := on2 ex2 bx3
  go_wp2_with fail
  refine hK.out _ _ (HW.out _ ex3).1 (fun hHeld2 => ?_)
  clear hK K hHeld; have hHeld := hHeld2; clear hHeld2
  try go_frame
  refine' tk 28 ?_ ?_; rotate_left
  · intro u ⟨_, _, _, _, _⟩; go_simp; try with_reducible rfl
  try go_frame
  refine' tk 29 ?_ ?_; rotate_left
  · intro u ⟨_, _, _, _, _⟩; go_simp; try with_reducible rfl
  try go_frame
  refine' tk 30 ?_ ?_; rotate_left
  · intro u ⟨_, _, _, _, _⟩; go_simp; try with_reducible rfl
  try go_frame
  refine tz ?_
  have HF : Hid (Below w.heap.size w x3) := (HW.out _ ex3).2.2.2.2.2
  clear HW HN HP HL1 HL2 hHeld e0 ex1 ex2 ex3 bx1 bx2 bx3
  go_wp2_with fail
  go_ret
  exact ⟨rfl, HF.out⟩
end Go.Proofs.YtillkgflppabfaaGreatDoor
namespace Go.Proofs.YtillkgflppabfaaGreatDoor
open Go.RowKit Go.Maps
set_option linter.unusedSimpArgs false
set_option maxRecDepth 100000

abbrev TB9 (B : Nat) (w : World) : Prop := Lib.TabBelow Tryz.prog B w "internal/strconv.uint64pow10" .u64 Lib.pow10Tab
theorem counts_le (s : SpreadD) (N : List NodeD) (l : List PlacedD) : (countsP s N l).length ≤ N.length := by
  have h1 : (domsP s.1 N).length ≤ (valsP s.1 N).length := sortB_len _ _ _
  have h2 := vals_le s.1 N
  unfold countsP
  rw [List.length_map]
  omega
theorem itoa_dig9 (c : Nat) : Lib.itoa (c : Int) = Lib.decDigits c := by unfold Lib.itoa; rw [if_neg (by omega)]; simp
set_option maxHeartbeats 8000000 in
theorem pCts_calls (cs : List Value) (A A' A'' : Where) (s : SpreadD) (a : Option Addr) (n cap : Nat) (N : List NodeD) (b : Option Addr) (m capb : Nat) (Pl : List PlacedD) (w : World) (hs : Hid (RSpread A w cs s)) (hN : Hid (SlAt RNode 9 112 A'' w a n cap N)) (hP : Hid (SlAt RPlaced 17 320 A' w b m capb Pl)) (ht : Hid (TB9 w.heap.size w)) :
    Calls Tryz.prog 7 #[.agg cs.toArray, .slice a n cap, .slice b m capb] w fun e w' => ∃ a' cap', e = .returned (.slice a' (countsP s N Pl).length cap') ∧ SlAt RLabel 2 32 (fun _ => True) w' a' (countsP s N Pl).length cap' (countsP s N Pl) ∧ Below w.heap.size w w' := by
  obtain ⟨⟨r1, r2, r3⟩, rfl, _, sr⟩ := hs.out.out
  simp only at sr
  have hby : Hid ((countsP s N Pl).length * 32 ≤ 140737488351232) := by have h1 := counts_le s N Pl; have h2 := hN.out.1; have h3 := hN.out.2.2.2.1; rw [Hid]; omega
  have HDl : Hid (countsP s N Pl = (domsP s.1 N).map (cntL s Pl) ∧ (domsP s.1 N).length * 112 ≤ 140737488351232) := ⟨rfl, by have h1 := doms_le s.1 N; have h2 := hN.out.1; have h3 := hN.out.2.2.2.1; omega⟩
  have HCle : Hid (∀ v, cntP s v Pl ≤ 140737488351232) := fun v => by have h1 := cnt_le s v Pl; have h2 := hP.out.1; have h3 := hP.out.2.2.2.1; omega
  obtain ⟨W1, hW1⟩ : ∃ W, W = w.alloc (.cells #[.string s.1, .int .i64 s.2.1, .int .i64 s.2.2.1, .slice r1 r2 r3] 24) := ⟨_, rfl⟩
  have B1 : Below w.heap.size w W1 := by rw [hW1]; go_grown
  have qx : BoxL W1 w.heap.size [.string s.1, .int .i64 s.2.1, .int .i64 s.2.2.1, .slice r1 r2 r3] := by rw [hW1]; exact BoxL.new w 24 _
  have c0 := (qx.2 0 _ rfl).1
  have c1 := (qx.2 1 _ rfl).1
  have c2 := (qx.2 2 _ rfl).1
  have c3 := (qx.2 3 _ rfl).1
  have hC := censusOf_calls s r1 r2 r3 a n cap N b m capb 320 Pl (by decide) 17 #[] (fun _ => false) (enters_of Tryz.func17 (by kernel_rfl) rfl) W1 ((sr.weak RReq.firm (fun _ _ _ => trivial)).on RReq.firm B1) ((hN.out.weak RNode.firm (fun _ _ _ => trivial)).on RNode.firm B1) ((hP.out.weak RPlaced.firm (fun _ _ _ => trivial)).on RPlaced.firm B1) (nobody_calls W1)
  rw [left_none] at hC
  have HB : Hid (Below w.heap.size w W1) := B1
  have HTb : Hid (∀ u, Below w.heap.size w u → TB9 w.heap.size u) := fun u hb => Lib.TabBelow.on ht.out hb
  clear hs hN hP sr qx B1 ht
  go_enter Tryz.func7, Tryz.ntmps7
  go_upto_region 1 with fail
  rw [← hW1]
  clear hW1
  go_wp2_with fail
  refine hC.mono ?_
  rintro e w2 ⟨m1, m2, rfl, hcen, hb2⟩
  clear hC c0 c1 c2 c3
  obtain ⟨V0, hV0⟩ : ∃ V, V = w2.alloc (.cells #[.string ⟨#[]⟩, .int .i64 0, .int .i64 0, .slice none 0 0, .map none, .map none] 58) := ⟨_, rfl⟩
  have qv0 : BoxL V0 w2.heap.size Z6 := by rw [hV0]; exact BoxL.new w2 58 _
  obtain ⟨V, hV⟩ : ∃ V, V = V0.setCells w2.heap.size 0 (cenV s r1 r2 r3 m1 m2) := ⟨_, rfl⟩
  have bV : Below w2.heap.size w2 V := by rw [hV, hV0]; exact below_setCells ((Below.refl _ _).alloc (Nat.le_refl _) _) (Nat.le_refl _)
  have qV : BoxL V w2.heap.size (cenV s r1 r2 r3 m1 m2) := by rw [hV]; exact box_over8 qv0 rfl
  have HTh : Hid (V0.there w2.heap.size 0 (#[.string s.1, .int .i64 s.2.1, .int .i64 s.2.2.1, .slice r1 r2 r3, .map (some m1), .map (some m2)] : Array Value).size) := qv0.there
  have HWV : Hid (V = V0.setCells w2.heap.size 0 (#[.string s.1, .int .i64 s.2.1, .int .i64 s.2.2.1, .slice r1 r2 r3, .map (some m1), .map (some m2)] : Array Value).toList) := by rw [Hid, hV]
  have HV0 : Hid (V0 = w2.alloc (.cells #[.string ⟨#[]⟩, .int .i64 0, .int .i64 0, .slice none 0 0, .map none, .map none] 58)) := hV0
  have hsz6 : (Tryz.prog.info? 58).map (·.size) = some (#[.string s.1, .int .i64 s.2.1, .int .i64 s.2.2.1, .slice r1 r2 r3, .map (some m1), .map (some m2)] : Array Value).size := sizeCe
  have HOc : Hid ((#[.string s.1, .int .i64 s.2.1, .int .i64 s.2.2.1, .slice r1 r2 r3, .map (some m1), .map (some m2)] : Array Value).all (·.oneCell') = true) := by rw [Hid]; simp [Value.oneCell']
  obtain ⟨c0, c1, c2, c3, c4, c5⟩ := AdS.of qV
  have hD := domains_calls s r1 r2 r3 m1 m2 N Pl V (hcen.on bV)
  have hbl : (domsP s.1 N).length * 16 ≤ 140737488351232 := hcen.l
  have BwV : Below w.heap.size w V := on2 (on2 HB.out hb2) bV
  have HU : Hid (∀ u, Below V.heap.size V u → u.cell? ⟨w2.heap.size, 5, none⟩ = some (.map (some m2)) ∧ Below w.heap.size w u ∧ ∀ v : ByteArray, v.size ≤ 140737488355328 → (Instr.lookup 56 (.map (some m2)) (.string v) false).run Tryz.prog u = .ok (.int .i64 ((cntP s v Pl : Nat) : Int)) u) := fun u hb => by
    obtain ⟨q, k, h3, _⟩ := hcen.p
    exact ⟨((qV.on hb).2 5 _ rfl).1, on2 BwV hb, fun v hv => (h3.on (on2 bV hb)).look 56 Tryz.underlying56 hv⟩
  clear hcen hb2 qv0 qV bV hV hV0 HB BwV
  go_upto_region 3 with (first | (refine wpl_w8 HV0.out ?_; refine wpList_store_mid rfl 58 _ _ rfl w2.heap.size 0 #[.string s.1, .int .i64 s.2.1, .int .i64 s.2.2.1, .slice r1 r2 r3, .map (some m1), .map (some m2)] rfl rfl HTh.out hsz6 HOc.out ?_; refine wpl_w8 HWV.out ?_) | fail)
  clear HTh HWV HV0 HOc hsz6
  go_wp2_with fail
  refine hD.mono ?_
  rintro e w3 ⟨v, rfl, hr⟩
  obtain ⟨a3, cap3, rfl, sv⟩ := hr.slT (bytes := 16) RStr.firm hbl
  have B3 : Below V.heap.size V w3 := hr.below
  clear hD hr c0 c1 c2 c3 c4 c5
  obtain ⟨D, hD⟩ : ∃ D, D = domsP s.1 N := ⟨_, rfl⟩
  rw [← hD] at sv hbl HDl ⊢
  clear hD
  generalize hn : D.length = dl at sv hbl HDl
  have HN : Hid (D.length = dl) := hn
  clear hn
  have hlen : dl ≤ 9223372036854775807 := by omega
  have HR0 : Hid (Row RLabel 2 (fun _ => False) w3 w3 55 (.slice none 0 0) ((D.take 0).map (cntL s Pl))) := Row.nil (fun _ => False) w3 55
  have HS : Hid (∀ u, Below w3.heap.size w3 u → SlAt RStr 1 16 (fun _ => True) u a3 dl cap3 D ∧ u.cell? ⟨w2.heap.size, 5, none⟩ = some (.map (some m2)) ∧ Below w.heap.size w u ∧ ∀ v : ByteArray, v.size ≤ 140737488355328 → (Instr.lookup 56 (.map (some m2)) (.string v) false).run Tryz.prog u = .ok (.int .i64 ((cntP s v Pl : Nat) : Int)) u) := fun u hb => ⟨sv.on RStr.firm hb, HU.out u (on2 B3 hb)⟩
  clear sv B3 HU
  go_wp2_with fail
  go_loopw [8, 18] (fun t i wr => ∃ k : Nat, k ≤ dl ∧ i = .int .i64 k ∧ Hid (Row RLabel 2 (fun _ => False) w3 wr 55 t ((D.take k).map (cntL s Pl)))) (fun _ i _ => dl - (intOf i).toNat)
  case atStart => exact ⟨0, Nat.zero_le _, rfl, HR0⟩
  case round =>
    obtain ⟨k, hk, rfl, hrow⟩ := hrel
    by_cases hlt : k < dl
    · have hltz : (k : Int) < (dl : Int) := by omega
      have hkl : k < D.length := by rw [HN.out]; exact hlt
      obtain ⟨sv, c5, hbw, hlk⟩ := HS.out wr hrow.out.below
      obtain ⟨B, off, rfl, hB, _, xs, hr, hv⟩ := sv.get hlt
      obtain ⟨rfl, hsz⟩ := hr
      have d0 := hv 0 _ rfl
      rw [Nat.mul_one, Nat.add_zero] at d0
      have hlk' := hlk _ hsz
      have HT : Hid ((D.take k).map (cntL s Pl) ++ [cntL s Pl (D.getD k default)] = (D.take (k + 1)).map (cntL s Pl)) := map_take9 _ hkl
      have HLk : Hid (((D.take k).map (cntL s Pl)).length = k) := by rw [Hid, List.length_map, List.length_take]; omega
      have hcl := HCle.out (D.getD k default)
      have hIt := Tryz.strconv_Itoa ((cntP s (D.getD k default) Pl : Nat) : Int) (by omega) (by omega) wr (HTb.out wr hbw).here
      have hil := Lib.itoa_length_le ((cntP s (D.getD k default) Pl : Nat) : Int) (by omega) (by omega)
      have HTa : Hid (cntL s Pl (D.getD k default) = (D.getD k default, ⟨(Lib.itoa ((cntP s (D.getD k default) Pl : Nat) : Int)).toArray⟩)) := by rw [Hid, itoa_dig9]; rfl
      rw [HTa.out] at HT
      clear sv hlk hv HTa
      generalize D.getD k default = dv at d0 hlk' HT hsz hIt hil
      generalize ((cntP s dv Pl : Nat) : Int) = c at hlk' HT hIt hil
      have hdg : (⟨(Lib.itoa c).toArray⟩ : ByteArray).size ≤ 140737488355328 := by
        have : (⟨(Lib.itoa c).toArray⟩ : ByteArray).size = (Lib.itoa c).length := by simp [ByteArray.size]
        omega
      generalize (⟨(Lib.itoa c).toArray⟩ : ByteArray) = dg at HT hIt hdg
      go_wp2_with fail
      refine hIt.mono ?_
      rintro e w4 ⟨rfl, kk, os, h4⟩
      have b4 : Below wr.heap.size wr w4 := by rw [h4]; exact Lib.below_grow _ _ (Nat.le_refl _) _ _
      have hrow4 := hrow.out.on RLabel.firm b4
      clear h4 hIt hlk' d0 c5 hrow hbw b4 hil
      have hb5 : Below w4.heap.size w4 (w4.alloc (.cells #[.string dv, .string dg] 55)) := (Below.refl _ _).alloc (Nat.le_refl _) _
      have HR5 : Hid (Row RLabel 2 (fun _ => False) w3 (w4.alloc (.cells #[.string dv, .string dg] 55)) 55 u8 ((D.take k).map (cntL s Pl))) := hrow4.on RLabel.firm hb5
      have HE : RLabel (fun b => False ∧ Value.ownBlock u8 ≠ some b) (w4.alloc (.cells #[.string dv, .string dg] 55)) [.string dv, .string dg] (dv, dg) := RLabel.mk (x := (dv, dg)) hsz hdg
      have H1 : Hid (∀ y ∈ [Value.string dv, .string dg], y.oneCell' = true) := RLabel.firm.one HE
      have HCh : Hid (Chunks RLabel 2 (fun b => False ∧ Value.ownBlock u8 ≠ some b) (w4.alloc (.cells #[.string dv, .string dg] 55)) [.string dv, .string dg] [(dv, dg)]) := chunk_one RLabel.firm HE
      have HX : Hid (∀ j y, [Value.string dv, .string dg][j]? = some y → (w4.alloc (.cells #[.string dv, .string dg] 55)).cell? ((⟨w4.heap.size, 0, none⟩ : Addr).add j) = some y) := one_cells w4 _ 55
      have HLb2 : Hid ((((D.take k).map (cntL s Pl)).length + [(dv, dg)].length) * 32 ≤ 140737488355328) := by
        have h2 := HDl.out.2
        rw [Hid, HLk.out, List.length_singleton]; omega
      clear HE hb5 hrow4 HLk
      generalize (D.take k).map (cntL s Pl) = Pre at HT HR5 HLb2
      go_wp2_with (at_builtin; go_must (refine row_append RLabel.firm (A := (fun _ => False)) (w0 := w3) rfl _ _ 30 55 rfl _ 32 infoL9 Tryz.underlying30 rfl (by decide) (by decide) u8 Pre rfl HR5.out ⟨w4.heap.size, 0, none⟩ 1 1 _ [(dv, dg)] rfl rfl HCh.out HX.out H1.out HLb2.out ?_); intro v5 w5 hrow5 hg5)
      have HNx : Hid (Row RLabel 2 (fun _ => False) w3 w5 55 v5 ((D.take (k + 1)).map (cntL s Pl))) := by rw [Hid, ← HT.out]; exact hrow5
      clear hrow5 hg5 HT HR5 HCh HX H1
      go_roundw
      case rel => exact ⟨k + 1, by omega, by go_num, HNx⟩
      case measure => simp [intOf]; omega
    · have hk' : D.take k = D := List.take_of_length_le (by rw [HN.out]; omega)
      rw [hk', ← HDl.out.1] at hrow
      obtain ⟨a', cap', rfl, sv⟩ := hrow.out.slT (bytes := 32) RLabel.firm hby.out
      have HF : Hid (SlAt RLabel 2 32 (fun _ => True) wr a' (countsP s N Pl).length cap' (countsP s N Pl) ∧ Below w.heap.size w wr) := ⟨sv, (HS.out wr hrow.out.below).2.2.1⟩
      clear hrow sv hk'
      go_wp2_with fail
      go_ret
      exact ⟨a', cap', rfl, HF.out⟩
end Go.Proofs.YtillkgflppabfaaGreatDoor
