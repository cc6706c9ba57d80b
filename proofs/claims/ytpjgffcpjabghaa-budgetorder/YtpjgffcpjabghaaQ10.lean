/- The chapter's state. No condition. Insertion into a rising list, each once. Plain mathematics. No condition. -/
import Derived.Test.YtpjgffcpjabghaaQ08
import Derived.Test.YtpjgffcpjabghaaQ09
import Derived.Test.YtpjgffcpjabghaaQ04
namespace Go.Proofs.Ytpjgffcpjabghaa
open Go.RowKit Go.Maps
set_option linter.unusedSimpArgs false
set_option maxRecDepth 100000

def podT (nm : ByteArray) (pr : Int) : PodD := (nm, pr, [(⟨#[97, 112, 112]⟩, ⟨#[120]⟩)], (0, 0, 0), [], [], [], [], [], [], [], [], ⟨#[110]⟩, ⟨#[]⟩)
def namesT : List ByteArray := [⟨#[97]⟩, ⟨#[98]⟩, ⟨#[99]⟩]
def podsT : List PodD := [podT ⟨#[97]⟩ 0, podT ⟨#[98]⟩ 1, podT ⟨#[99]⟩ 2]
def budT : BudgetD := (⟨#[98]⟩, [(⟨#[97, 112, 112]⟩, 3, [])], 2)
def stT : StateD := (podsT, [], [], [], [], [budT])
theorem box_over18 {u : World} {D : Nat} {zs cs : List Value} (hb : BoxL u D zs) (hl : zs.length = cs.length) : BoxL (u.setCells D 0 cs) D cs := by
  have hth : u.there D 0 cs.length := hl ▸ hb.there
  have hr := World.rangeAt_setCells_same u D 0 cs hth
  have ht2 := World.there_setCells hth D 0 cs
  refine ⟨by rw [size_setCells]; exact hb.1, fun j v hj => ?_⟩
  have h1 := hr j v hj
  have h2 := (ht2 j (List.getElem?_eq_some_iff.1 hj).1).2
  rw [Nat.zero_add] at h1 h2
  exact ⟨h1, h2⟩
theorem sl_box18 {α : Type} [Inhabited α] {R : Rep α} {k bytes : Nat} {A : Where} {u : World} {B : Nat} {cs : List Value} {x : α} (hb : BoxL u B cs) (hr : R A u cs x) (hA : A B) (hs : bytes ≤ 140737488351232) : SlAt R k bytes A u (some ⟨B, 0, none⟩) 1 1 [x] := by
  refine ⟨rfl, Nat.le_refl _, fun e => (by cases e), by omega, fun _ => ⟨B, 0, rfl, hb.1, hA, fun i hi => ?_⟩⟩
  obtain rfl : i = 0 := by omega
  exact ⟨cs, hr, fun j v hj => by simpa using (hb.2 j v hj).1⟩
theorem want_yes18 {c : Prop} [Decidable c] {A B : Prop} (h : c) (k : A) : if c then A else B := by rw [if_pos h]; exact k
theorem Row.slO18 {α : Type} [Inhabited α] {R : Rep α} {k : Nat} (hR : Firm R k) {bytes : Nat} {A : Where} {w0 u : World} {e : TypeId} {v : Value} {L : List α} (h : Row R k A w0 u e v L) (hb : L.length * bytes ≤ 140737488351232) :
    ∃ a cap, v = .slice a L.length cap ∧ SlAt R k bytes (fun b => A b ∨ v.ownBlock = some b) u a L.length cap L := by
  obtain ⟨xs, h1, h2⟩ := h
  obtain ⟨a, cap, e1, h3⟩ := sl_of_owns (bytes := bytes) hR h1.2 h2 hb
  refine ⟨a, cap, e1, h3.weak hR (fun b _ hb => ?_)⟩
  rcases hb with hb | hb
  · exact .inl hb.1
  · exact .inr (by first | exact hb | (rw [e1]; exact hb) | (rw [e1] at hb ⊢; exact hb))
/-- The blocks behind the state's own. -/
def BeyT (w : World) : Where := fun x => w.heap.size + 1 + 1 + 1 + 1 < x
theorem infoPod18 : (Try.prog.info? 54).map (fun i => (i.zero, i.size, i.bytes)) = some (some (.agg #[.string ⟨#[]⟩, .int .i64 0, .slice none 0 0, .int .i64 0, .int .i64 0, .int .i64 0, .slice none 0 0, .slice none 0 0, .slice none 0 0, .slice none 0 0, .slice none 0 0, .slice none 0 0, .slice none 0 0, .slice none 0 0, .string ⟨#[]⟩, .string ⟨#[]⟩]), 16, 296) := by kernel_rfl
theorem sizeState18 : (Try.prog.info? 29).map (·.size) = some 6 := by kernel_rfl
theorem pod_step : ∀ k, k < 3 → podsT.take (k + 1) = podsT.take k ++ [podT (namesT.getD k default) (k : Int)] ∧ namesT.getD k default = namesT.getD k default := fun k hk => by
  rcases (show k = 0 ∨ k = 1 ∨ k = 2 by omega) with rfl | rfl | rfl <;> exact ⟨rfl, rfl⟩
/-- The state while it is made. -/
def ThI (w : World) (k : Nat) (z : World) : Prop :=
  ∃ v, BoxL z (w.heap.size + 1 + 1 + 1) [v, .slice none 0 0, .slice none 0 0, .slice none 0 0, .slice none 0 0, .slice (some ⟨w.heap.size + 1 + 1, 0, none⟩) 1 1] ∧ Row RPod 16 (BeyT w) w z 54 v (podsT.take k) ∧ (∀ x, v.ownBlock = some x → w.heap.size + 1 + 1 + 1 + 1 < x) ∧ BoxL z (w.heap.size) [.slice none 0 0, .slice none 0 0, .slice none 0 0, .slice none 0 0, .slice none 0 0, .slice none 0 0] ∧ BoxL z (w.heap.size + 1) [.string ⟨#[97, 112, 112]⟩, .int .i64 3, .slice none 0 0] ∧ BoxL z (w.heap.size + 1 + 1) [.string ⟨#[98]⟩, .slice (some ⟨w.heap.size + 1, 0, none⟩) 1 1, .int .i64 2] ∧ BoxL z (w.heap.size + 1 + 1 + 1 + 1) [.string ⟨#[97]⟩, .string ⟨#[98]⟩, .string ⟨#[99]⟩]
theorem pod_lies {u : World} {A : Where} {B : Nat} (q : BoxL u B [.string ⟨#[97, 112, 112]⟩, .string ⟨#[120]⟩]) (hA : A B) {y : ByteArray} (hy : y.size ≤ 10) (k : Int) : RPod A u [.string y, .int .i64 k, .slice (some ⟨B, 0, none⟩) 1 1, .int .i64 0, .int .i64 0, .int .i64 0, .slice none 0 0, .slice none 0 0, .slice none 0 0, .slice none 0 0, .slice none 0 0, .slice none 0 0, .slice none 0 0, .slice none 0 0, .string ⟨#[110]⟩, .string ⟨#[]⟩] (podT y k) :=
  RPod.mk (x := podT y k) (h2 := (some ⟨B, 0, none⟩, 1, 1)) (h6 := (none, 0, 0)) (h7 := (none, 0, 0)) (h8 := (none, 0, 0)) (h9 := (none, 0, 0)) (h10 := (none, 0, 0)) (h11 := (none, 0, 0)) (h12 := (none, 0, 0)) (h13 := (none, 0, 0)) (by show y.size ≤ _; omega) (sl_box18 q (RLabel.mk (x := (⟨#[97, 112, 112]⟩, ⟨#[120]⟩)) (by decide) (by decide)) hA (by decide)) (SlAt.nil _ _ _ _ (fun _ => rfl)) (SlAt.nil _ _ _ _ (fun _ => rfl)) (SlAt.nil _ _ _ _ (fun _ => rfl)) (SlAt.nil _ _ _ _ (fun _ => rfl)) (SlAt.nil _ _ _ _ (fun _ => rfl)) (SlAt.nil _ _ _ _ (fun _ => rfl)) (SlAt.nil _ _ _ _ (fun _ => rfl)) (SlAt.nil _ _ _ _ (fun _ => rfl)) (by show (⟨#[110]⟩ : ByteArray).size ≤ _; decide) (by show (⟨#[]⟩ : ByteArray).size ≤ _; decide)
set_option maxHeartbeats 8000000 in
theorem three_calls (w : World) : Calls Try.prog 17 #[] w fun e w' => ∃ ss, e = .returned (.agg ss.toArray) ∧ RState (Fresh w) w' ss stT ∧ Below w.heap.size w w' := by
  obtain ⟨Z0, hZ0⟩ : ∃ Z, Z = w.alloc (.cells #[.slice none 0 0, .slice none 0 0, .slice none 0 0, .slice none 0 0, .slice none 0 0, .slice none 0 0] 29) := ⟨_, rfl⟩
  have s0 : Z0.heap.size = w.heap.size + 1 := by rw [hZ0]; simp
  have c0 : Below w.heap.size w Z0 := by rw [hZ0]; exact (Below.refl _ _).alloc (Nat.le_refl _) _
  have q0 : BoxL Z0 (w.heap.size) [.slice none 0 0, .slice none 0 0, .slice none 0 0, .slice none 0 0, .slice none 0 0, .slice none 0 0] := by have h := BoxL.new w 29 [.slice none 0 0, .slice none 0 0, .slice none 0 0, .slice none 0 0, .slice none 0 0, .slice none 0 0]; rw [hZ0]; exact h
  obtain ⟨Z1, hZ1⟩ : ∃ Z, Z = Z0.alloc (.cells #[.string ⟨#[97, 112, 112]⟩, .int .i64 3, .slice none 0 0] 80) := ⟨_, rfl⟩
  have s1 : Z1.heap.size = w.heap.size + 1 + 1 := by rw [hZ1]; simp [s0]
  have c1 : Below Z0.heap.size Z0 Z1 := by rw [hZ1]; exact (Below.refl _ _).alloc (Nat.le_refl _) _
  have q1 : BoxL Z1 (w.heap.size + 1) [.string ⟨#[97, 112, 112]⟩, .int .i64 3, .slice none 0 0] := by have h := BoxL.new Z0 80 [.string ⟨#[97, 112, 112]⟩, .int .i64 3, .slice none 0 0]; rw [s0] at h; rw [hZ1]; exact h
  obtain ⟨Z2, hZ2⟩ : ∃ Z, Z = Z1.alloc (.cells #[.string ⟨#[98]⟩, .slice (some ⟨w.heap.size + 1, 0, none⟩) 1 1, .int .i64 2] 37) := ⟨_, rfl⟩
  have s2 : Z2.heap.size = w.heap.size + 1 + 1 + 1 := by rw [hZ2]; simp [s1]
  have c2 : Below Z1.heap.size Z1 Z2 := by rw [hZ2]; exact (Below.refl _ _).alloc (Nat.le_refl _) _
  have q2 : BoxL Z2 (w.heap.size + 1 + 1) [.string ⟨#[98]⟩, .slice (some ⟨w.heap.size + 1, 0, none⟩) 1 1, .int .i64 2] := by have h := BoxL.new Z1 37 [.string ⟨#[98]⟩, .slice (some ⟨w.heap.size + 1, 0, none⟩) 1 1, .int .i64 2]; rw [s1] at h; rw [hZ2]; exact h
  obtain ⟨Z3, hZ3⟩ : ∃ Z, Z = Z2.alloc (.cells #[.slice none 0 0, .slice none 0 0, .slice none 0 0, .slice none 0 0, .slice none 0 0, .slice (some ⟨w.heap.size + 1 + 1, 0, none⟩) 1 1] 29) := ⟨_, rfl⟩
  have s3 : Z3.heap.size = w.heap.size + 1 + 1 + 1 + 1 := by rw [hZ3]; simp [s2]
  have c3 : Below Z2.heap.size Z2 Z3 := by rw [hZ3]; exact (Below.refl _ _).alloc (Nat.le_refl _) _
  have q3 : BoxL Z3 (w.heap.size + 1 + 1 + 1) [.slice none 0 0, .slice none 0 0, .slice none 0 0, .slice none 0 0, .slice none 0 0, .slice (some ⟨w.heap.size + 1 + 1, 0, none⟩) 1 1] := by have h := BoxL.new Z2 29 [.slice none 0 0, .slice none 0 0, .slice none 0 0, .slice none 0 0, .slice none 0 0, .slice (some ⟨w.heap.size + 1 + 1, 0, none⟩) 1 1]; rw [s2] at h; rw [hZ3]; exact h
  obtain ⟨Z4, hZ4⟩ : ∃ Z, Z = Z3.alloc (.cells #[.string ⟨#[97]⟩, .string ⟨#[98]⟩, .string ⟨#[99]⟩] 9) := ⟨_, rfl⟩
  have s4 : Z4.heap.size = w.heap.size + 1 + 1 + 1 + 1 + 1 := by rw [hZ4]; simp [s3]
  have c4 : Below Z3.heap.size Z3 Z4 := by rw [hZ4]; exact (Below.refl _ _).alloc (Nat.le_refl _) _
  have q4 : BoxL Z4 (w.heap.size + 1 + 1 + 1 + 1) [.string ⟨#[97]⟩, .string ⟨#[98]⟩, .string ⟨#[99]⟩] := by have h := BoxL.new Z3 9 [.string ⟨#[97]⟩, .string ⟨#[98]⟩, .string ⟨#[99]⟩]; rw [s3] at h; rw [hZ4]; exact h
  have B4 : Below w.heap.size w Z4 := on2 (on2 (on2 (on2 c0 c1) c2) c3) c4
  have H0 : Hid (ThI w 0 Z4) := ⟨.slice none 0 0, q3.on c4, (Row.nil _ w _).on RPod.firm B4, (fun x e => by cases e), q0.on (on2 (on2 (on2 c1 c2) c3) c4), q1.on (on2 (on2 c2 c3) c4), q2.on (on2 c3 c4), q4⟩
  have HZ : Hid (((((w.alloc (.cells #[.slice none 0 0, .slice none 0 0, .slice none 0 0, .slice none 0 0, .slice none 0 0, .slice none 0 0] 29)).alloc (.cells #[.string ⟨#[97, 112, 112]⟩, .int .i64 3, .slice none 0 0] 80)).alloc (.cells #[.string ⟨#[98]⟩, .slice (some ⟨w.heap.size + 1, 0, none⟩) 1 1, .int .i64 2] 37)).alloc (.cells #[.slice none 0 0, .slice none 0 0, .slice none 0 0, .slice none 0 0, .slice none 0 0, .slice (some ⟨w.heap.size + 1 + 1, 0, none⟩) 1 1] 29)).alloc (.cells #[.string ⟨#[97]⟩, .string ⟨#[98]⟩, .string ⟨#[99]⟩] 9) = Z4) := by rw [Hid, hZ4, hZ3, hZ2, hZ1, hZ0]
  clear hZ0 s0 c0 q0 hZ1 s1 c1 q1 hZ2 s2 c2 q2 hZ3 s3 c3 q3 hZ4 s4 c4 q4 B4
  go_enter Try.func17, Try.ntmps17
  go_wp2_with fail
  rw [HZ.out]
  clear HZ
  obtain ⟨B, hB⟩ : ∃ B, B = w.heap.size + 1 + 1 + 1 := ⟨_, rfl⟩
  obtain ⟨NB, hNB⟩ : ∃ B, B = w.heap.size + 1 + 1 + 1 + 1 := ⟨_, rfl⟩
  have HBN : Hid (B = w.heap.size + 1 + 1 + 1 ∧ NB = w.heap.size + 1 + 1 + 1 + 1) := ⟨hB, hNB⟩
  rw [← hNB, ← hB]
  clear hB hNB
  --M1
  go_loopw [3] (fun i z => ∃ k : Nat, k ≤ 3 ∧ i = .int .i64 k ∧ Hid (ThI w k z)) (fun i _ => 3 - (intOf i).toNat)
  case atStart => exact ⟨0, by decide, rfl, H0⟩
  case round =>
    clear H0
    obtain ⟨k, hk, rfl, hrun⟩ := hrel
    obtain ⟨v, qb, hr, hv, p0, p1, p2, p4⟩ := hrun.out
    by_cases hlt : k < 3
    · have hltz : (k : Int) < 3 := by omega
      have hkz : (k : Int) < ((3 : Nat) : Int) := by omega
      rw [← HBN.out.1] at qb
      rw [← HBN.out.2] at p4
      obtain ⟨va, vn, vc, rfl⟩ := hr.headG
      have HSn := (pod_step k hlt).1
      have hyn : p4.1 = p4.1 := rfl
      obtain ⟨y, hy⟩ : ∃ y, y = namesT.getD k default := ⟨_, rfl⟩
      have hys : y.size ≤ 10 := by rw [hy]; rcases (show k = 0 ∨ k = 1 ∨ k = 2 by omega) with rfl | rfl | rfl <;> decide
      have hyc : wr.cell? ⟨NB, k, none⟩ = some (.string y) := by
        rw [hy]; rcases (show k = 0 ∨ k = 1 ∨ k = 2 by omega) with rfl | rfl | rfl
        · exact (p4.2 0 _ rfl).1
        · exact (p4.2 1 _ rfl).1
        · exact (p4.2 2 _ rfl).1
      rw [← hy] at HSn
      have HSN : Hid (podsT.take (k + 1) = podsT.take k ++ [podT y (k : Int)]) := HSn
      have HI : Hid (BoxL wr B [.slice va vn vc, .slice none 0 0, .slice none 0 0, .slice none 0 0, .slice none 0 0, .slice (some ⟨w.heap.size + 1 + 1, 0, none⟩) 1 1] ∧ Row RPod 16 (BeyT w) w wr 54 (.slice va vn vc) (podsT.take k) ∧ (∀ x, (Value.slice va vn vc).ownBlock = some x → NB < x) ∧ BoxL wr (w.heap.size) [.slice none 0 0, .slice none 0 0, .slice none 0 0, .slice none 0 0, .slice none 0 0, .slice none 0 0] ∧ BoxL wr (w.heap.size + 1) [.string ⟨#[97, 112, 112]⟩, .int .i64 3, .slice none 0 0] ∧ BoxL wr (w.heap.size + 1 + 1) [.string ⟨#[98]⟩, .slice (some ⟨w.heap.size + 1, 0, none⟩) 1 1, .int .i64 2] ∧ BoxL wr NB [.string ⟨#[97]⟩, .string ⟨#[98]⟩, .string ⟨#[99]⟩]) := ⟨qb, hr, (fun x e => by rw [HBN.out.2]; exact hv x e), p0, p1, p2, p4⟩
      have HC : Hid (∀ z, Kept (fun y => y = B ∨ y = NB) wr z → z.cell? ⟨B, 0, none⟩ = some (.slice va vn vc) ∧ z.cell? ⟨NB, k, none⟩ = some (.string y)) := fun z hz => ⟨((qb.kept hz (.inl rfl)).2 0 _ rfl).1, (hz.cell (p := ⟨NB, k, none⟩) (.inr rfl) p4.1).trans hyc⟩
      have HLn : Hid ((podsT.take k).length ≤ 3) := by rw [Hid, List.length_take]; omega
      clear hrun qb hr hv p0 p1 p2 p4 HSn hyn hy hyc
      go_upto_region 6 with fail
      --M2
      have hb0 : Below wr.heap.size wr wr.drew := (Below.refl _ _).drew
      refine u0 13 (fun z => Kept (fun y => y = B ∨ y = NB) wr z) (Kept.below hb0) (fun hHeld => ?_)
      have Hd : Hid (Below wr.heap.size wr wr.drew) := hb0
      generalize hwd : wr.drew = wd at hHeld Hd ⊢
      clear hwd hb0
      try go_frame
      refine' uk 0 ?_ ?_; rotate_left
      · intro z hz; obtain ⟨f0, f1⟩ := HC.out z hz; clear hz; go_simp; try with_reducible rfl
      try go_frame
      refine' uk 1 ?_ ?_; rotate_left
      · intro z hz; obtain ⟨f0, f1⟩ := HC.out z hz; clear hz; go_simp; try with_reducible rfl
      try go_frame
      refine' uk 2 ?_ ?_; rotate_left
      · intro z hz; obtain ⟨f0, f1⟩ := HC.out z hz; clear hz; go_simp; try with_reducible rfl
      try go_frame
      refine' uk 3 ?_ ?_; rotate_left
      · intro z hz; obtain ⟨f0, f1⟩ := HC.out z hz; clear hz; go_simp; try with_reducible rfl
      try go_frame
      refine' uk 4 ?_ ?_; rotate_left
      · intro z hz; obtain ⟨f0, f1⟩ := HC.out z hz; clear hz; go_simp; try with_reducible rfl
      try go_frame
      refine' uk 5 ?_ ?_; rotate_left
      · intro z hz; obtain ⟨f0, f1⟩ := HC.out z hz; clear hz; go_simp; try with_reducible rfl
      try go_frame
      refine' uk 6 ?_ ?_; rotate_left
      · intro z hz; obtain ⟨f0, f1⟩ := HC.out z hz; clear hz; go_simp; try with_reducible rfl
      try go_frame
      refine' uk 7 ?_ ?_; rotate_left
      · intro z hz; obtain ⟨f0, f1⟩ := HC.out z hz; clear hz; go_simp; try with_reducible rfl
      try go_frame
      --M3
      refine ur 8 (fun K hK => ?_)
      go_simp
      obtain ⟨W5, hW5⟩ : ∃ Z, Z = wd.alloc (.cells #[.string ⟨#[97, 112, 112]⟩, .string ⟨#[120]⟩] 82) := ⟨_, rfl⟩
      have b5 : Below wd.heap.size wd W5 := by rw [hW5]; exact (Below.refl _ _).alloc (Nat.le_refl _) _
      have q5 : BoxL W5 wd.heap.size [.string ⟨#[97, 112, 112]⟩, .string ⟨#[120]⟩] := by rw [hW5]; exact BoxL.new wd 82 _
      rw [← hW5]
      clear hW5
      refine hK.out _ _ (hHeld.trans (Kept.below b5)) (fun hHeld2 => ?_)
      clear hK K hHeld; have hHeld := hHeld2; clear hHeld2
      try go_frame
      refine' uk 9 ?_ ?_; rotate_left
      · intro z hz; obtain ⟨f0, f1⟩ := HC.out z hz; clear hz; go_simp; try with_reducible rfl
      try go_frame
      --M4
      refine ur 10 (fun K hK => ?_)
      go_simp
      obtain ⟨W6, hW6⟩ : ∃ Z, Z = W5.alloc (.cells #[.string y, .int .i64 (k : Int), .slice (some ⟨wd.heap.size, 0, none⟩) 1 1, .int .i64 0, .int .i64 0, .int .i64 0, .slice none 0 0, .slice none 0 0, .slice none 0 0, .slice none 0 0, .slice none 0 0, .slice none 0 0, .slice none 0 0, .slice none 0 0, .string ⟨#[110]⟩, .string ⟨#[]⟩] 54) := ⟨_, rfl⟩
      have b6 : Below W5.heap.size W5 W6 := by rw [hW6]; exact (Below.refl _ _).alloc (Nat.le_refl _) _
      have q6 : BoxL W6 W5.heap.size [.string y, .int .i64 (k : Int), .slice (some ⟨wd.heap.size, 0, none⟩) 1 1, .int .i64 0, .int .i64 0, .int .i64 0, .slice none 0 0, .slice none 0 0, .slice none 0 0, .slice none 0 0, .slice none 0 0, .slice none 0 0, .slice none 0 0, .slice none 0 0, .string ⟨#[110]⟩, .string ⟨#[]⟩] := by rw [hW6]; exact BoxL.new W5 54 _
      rw [← hW6]
      clear hW6
      refine hK.out _ _ (hHeld.trans (Kept.below b6)) (fun hHeld2 => ?_)
      clear hK K hHeld; have hHeld := hHeld2; clear hHeld2
      try go_frame
      --M5
      have B06 : Below wr.heap.size wr W6 := on2 Hd.out (on2 b5 b6)
      have hwf : BeyT w wd.heap.size := by have h1 := HI.out.2.2.2.2.2.2.1; have h2 := Hd.out.size; have h3 := HBN.out.2; unfold BeyT; omega
      have hno : (Value.slice va vn vc).ownBlock ≠ some wd.heap.size := fun e => by have h1 := (HI.out.2.1.lt e).2; have h2 := Hd.out.size; omega
      refine ur 11 (fun K hK => ?_)
      refine want_yes18 (by rfl) (row_appendP_wp RPod.firm (A := BeyT w) (w0 := w) _ _ 22 54 rfl _ 296 infoPod18 Try.underlying22 rfl (by decide) (by decide) (.slice va vn vc) (podsT.take k) rfl (HI.out.2.1.on RPod.firm B06) (some ⟨W5.heap.size, 0, none⟩) 1 1 [podT y (k : Int)] rfl (src_boxG RPod.firm q6 (pod_lies (q5.on b6) ⟨hwf, hno⟩ hys _)) (by rw [List.length_singleton]; have := HLn.out; omega) ?_)
      intro v7 w7 hrow7 hg7 hw7
      obtain ⟨v7a, v7n, v7c, rfl⟩ := hrow7.headG
      have k7 : Kept (fun x => (Value.slice va vn vc).ownBlock ≠ some x) wr w7 := (Kept.below B06).trans (Kept.grown hg7 (fun x e hx => hx e))
      refine hK.out _ _ (hHeld.trans (Kept.grown hg7 (fun x e hx => by have h1 := HI.out.2.2.1 x e; have h2 := HBN.out; rcases hx with hx | hx <;> omega))) (fun hHeld2 => ?_)
      clear hK K hHeld; have hHeld := hHeld2; clear hHeld2
      try go_frame
      refine' uk 12 ?_ ?_; rotate_left
      · intro z hz; clear hz; go_simp; try with_reducible rfl
      try go_frame
      --M6
      refine uz 13 (fun K hK => ?_)
      have hno2 : ∀ {X : Nat}, X ≤ NB → (Value.slice va vn vc).ownBlock ≠ some X := fun {X} hX e => by have := HI.out.2.2.1 X e; omega
      have x0 := HI.out.1.kept k7 (hno2 (by have hBN := HBN.out; omega))
      have x3 := HI.out.2.2.2.1.kept k7 (hno2 (by have hBN := HBN.out; omega))
      have x4 := HI.out.2.2.2.2.1.kept k7 (hno2 (by have hBN := HBN.out; omega))
      have x5 := HI.out.2.2.2.2.2.1.kept k7 (hno2 (by have hBN := HBN.out; omega))
      have x6 := HI.out.2.2.2.2.2.2.kept k7 (hno2 (by have hBN := HBN.out; omega))
      have g0 := (x0.2 0 _ rfl).1
      have g1 := (x0.2 0 _ rfl).2
      go_simp
      obtain ⟨W8, hW8⟩ : ∃ Y, Y = w7.setCell ⟨B, 0, none⟩ (.slice v7a v7n v7c) := ⟨_, rfl⟩
      rw [← hW8]
      have hv7 : ∀ x, (Value.slice v7a v7n v7c).ownBlock = some x → NB < x := fun x e => by
        rcases hw7 with h | h
        · rw [h] at e; exact HI.out.2.2.1 x e
        · rw [h] at e; have h1 := Option.some.inj e; have h2 := HI.out.2.2.2.2.2.2.1; have h3 := B06.size; omega
      have hbB : w.heap.size ≤ (⟨B, 0, none⟩ : Addr).block := by show w.heap.size ≤ B; have hBN := HBN.out; omega
      have hE : ThI w (k + 1) W8 := by
        refine ⟨.slice v7a v7n v7c, ?_, ?_, (fun x e => by rw [← HBN.out.2]; exact hv7 x e), ?_, ?_, ?_, ?_⟩
        · rw [← HBN.out.1, hW8]; exact x0.set 0 _ (by simp)
        · rw [HSN.out, hW8]; exact hrow7.keptXG RPod.firm (hrow7.below.setCell (p := ⟨B, 0, none⟩) hbB _) (Kept.set (p := ⟨B, 0, none⟩) (fun h => h.elim (fun h => by unfold BeyT at h; have h : w.heap.size + 1 + 1 + 1 + 1 < B := h; have hBN := HBN.out; omega) (fun h => by have := hv7 B h; have hBN := HBN.out; omega)) _)
        · rw [hW8]; exact x3.other (p := ⟨B, 0, none⟩) (by show B ≠ _; have hBN := HBN.out; omega) _
        · rw [hW8]; exact x4.other (p := ⟨B, 0, none⟩) (by show B ≠ _; have hBN := HBN.out; omega) _
        · rw [hW8]; exact x5.other (p := ⟨B, 0, none⟩) (by show B ≠ _; have hBN := HBN.out; omega) _
        · rw [← HBN.out.2, hW8]; exact x6.other (p := ⟨B, 0, none⟩) (by show B ≠ _; have hBN := HBN.out; omega) _
      have HE : Hid (ThI w (k + 1) W8) := hE
      refine hK.out _ (NoPanic.normal ?_)
      clear hK K hHeld hE hW8 x0 x3 x4 x5 x6 g0 g1 hrow7 hg7 hw7 k7 HI HC q5 q6 b5 b6 B06 hwf hno hno2 hv7 hbB
      --M7
      go_wp2_with fail
      go_roundw
      case rel => exact ⟨k + 1, by omega, by go_num, HE⟩
      case measure => simp [intOf]; omega
    · have hltz : ¬ (k : Int) < 3 := by omega
      have hk3 : k = 3 := by omega
      subst hk3
      rw [← HBN.out.1] at qb
      obtain ⟨va, vc, rfl, hsl⟩ := hr.slO18 RPod.firm (bytes := 296) (by decide)
      obtain ⟨ss, hss⟩ : ∃ ss : List Value, ss = [.slice va (podsT.take 3).length vc, .slice none 0 0, .slice none 0 0, .slice none 0 0, .slice none 0 0, .slice (some ⟨w.heap.size + 1 + 1, 0, none⟩) 1 1] := ⟨_, rfl⟩
      obtain ⟨W9, hW9⟩ : ∃ Z, Z = wr.setCells w.heap.size 0 ss.toArray.toList := ⟨_, rfl⟩
      have hOC : ∀ v ∈ ss, v.oneCell' = true := by rw [hss]; intro v hv; simp only [List.mem_cons, List.not_mem_nil, or_false] at hv; rcases hv with rfl | rfl | rfl | rfl | rfl | rfl <;> rfl
      have HQ : Hid (wr.rangeAt B 0 ss) := by rw [hss]; exact qb.range
      have HT : Hid (wr.there w.heap.size 0 ss.toArray.size) := by have h := p0.there; rw [Hid, hss]; exact h
      have HO : Hid (ss.toArray.all (·.oneCell') = true) := all_oneCell_toArray hOC
      have HSz : Hid ((Try.prog.info? 29).map (·.size) = some ss.length ∧ (Try.prog.info? 29).map (·.size) = some ss.toArray.size) := by rw [hss]; exact ⟨sizeState18, sizeState18⟩
      have HX : Hid (BoxL W9 w.heap.size ss) := by rw [hW9]; exact box_over18 p0 (by rw [hss]; rfl)
      have HW9 : Hid (W9 = wr.setCells w.heap.size 0 ss.toArray.toList) := hW9
      have HE : Hid (RState (Fresh w) W9 ss stT ∧ Below w.heap.size w W9) := by
        have hk : ∀ {A : Where}, ¬ A w.heap.size → Kept A wr W9 := fun {A} h => by rw [hW9]; exact kept_setCells h
        refine ⟨?_, by rw [hW9]; exact below_setCells hr.below (Nat.le_refl _)⟩
        have e1 := (hsl.kept RPod.firm (hk (fun h => h.elim (fun h => by unfold BeyT at h; omega) (fun h => by have := hv _ h; omega)))).weak RPod.firm (A' := Fresh w) (fun x _ h => by
          show w.heap.size ≤ x
          rcases h with h | h
          · unfold BeyT at h; omega
          · have := hv x h; omega)
        have e2 : SlAt RBudget 3 48 (fun x => x = w.heap.size + 1 ∨ x = w.heap.size + 1 + 1) wr (some ⟨w.heap.size + 1 + 1, 0, none⟩) 1 1 [budT] :=
          sl_box18 p2 (RBudget.mk (x := budT) (h1 := (some ⟨w.heap.size + 1, 0, none⟩, 1, 1)) (by decide) (sl_box18 p1 (RReq.mk (x := (⟨#[97, 112, 112]⟩, 3, [])) (h2 := (none, 0, 0)) (by decide) (SlAt.nil _ _ _ _ (fun _ => rfl))) (.inl rfl) (by decide))) (.inr rfl) (by decide)
        have e3 := (e2.kept RBudget.firm (hk (by omega))).weak RBudget.firm (A' := Fresh w) (fun x _ h => by show w.heap.size ≤ x; omega)
        rw [hss]
        exact RState.mk (x := stT) (h0 := (va, 3, vc)) (h1 := (none, 0, 0)) (h2 := (none, 0, 0)) (h3 := (none, 0, 0)) (h4 := (none, 0, 0)) (h5 := (some ⟨w.heap.size + 1 + 1, 0, none⟩, 1, 1)) e1 (SlAt.nil _ _ _ _ (fun _ => rfl)) (SlAt.nil _ _ _ _ (fun _ => rfl)) (SlAt.nil _ _ _ _ (fun _ => rfl)) (SlAt.nil _ _ _ _ (fun _ => rfl)) e3
      clear hrun qb hr hv p0 p1 p2 p4 hsl hss hW9 hOC
      --M8
      go_wp2_with (first | (refine wpList_load_mid rfl 29 _ rfl B 0 rfl ss _ HQ.out Try.underlying29 rfl HSz.out.1 ?_) | (refine wpList_store_mid rfl 29 _ _ rfl w.heap.size 0 ss.toArray rfl rfl HT.out HSz.out.2 HO.out ?_; refine wpl_atG HW9.out ?_) | fail)
      refine bodyPost_ret (v := .agg ss.toArray) (res_cell (p := 0) (ty := 29) rfl _ _ w.heap.size ss _ rfl HX.out.range Try.underlying29 rfl HSz.out.1) rfl ⟨ss, rfl, HE.out.1, HE.out.2⟩
end Go.Proofs.Ytpjgffcpjabghaa
namespace Go.Proofs.Ytpjgffcpjabghaa
open Go.RowKit
set_option linter.unusedSimpArgs false

def insB {α : Type} (lt eq : α → α → Bool) : List α → α → List α
  | [], s => [s]
  | x :: xs, s => if lt x s = true then x :: insB lt eq xs s else if eq x s = true then x :: xs else s :: x :: xs
def sortB {α : Type} (lt eq : α → α → Bool) (L : List α) : List α := L.foldl (insB lt eq) []
def iLt (a b : Int) : Bool := decide (a < b)
theorem insB_len {α : Type} (lt eq : α → α → Bool) (s : α) : ∀ L : List α, (insB lt eq L s).length ≤ L.length + 1
  | [] => by simp [insB]
  | x :: xs => by
    have := insB_len lt eq s xs
    unfold insB
    split
    · simp; omega
    · split <;> simp
section
variable {α : Type} [Inhabited α] (lt eq : α → α → Bool)
theorem insB_at (s : α) : ∀ (L : List α) (k : Nat), k ≤ L.length → (∀ j, j < k → lt (L.getD j default) s = true) → (k < L.length → lt (L.getD k default) s = false) →
    insB lt eq L s = if k < L.length ∧ eq (L.getD k default) s = true then L else L.take k ++ ([s] ++ L.drop k)
  | [], k, hk, _, _ => by
    obtain rfl : k = 0 := by simpa using hk
    simp [insB]
  | x :: xs, 0, _, _, h2 => by
    have h := h2 (by simp)
    simp only [List.getD_cons_zero] at h
    simp [insB, h]
  | x :: xs, k + 1, hk, h1, h2 => by
    have h := h1 0 (by omega)
    simp only [List.getD_cons_zero] at h
    have ih := insB_at s xs k (by simpa using hk) (fun j hj => by simpa using h1 (j + 1) (by omega)) (fun hl => by simpa using h2 (by simpa using hl))
    have e : (x :: xs).getD (k + 1) default = xs.getD k default := by simp
    have l : k + 1 < (x :: xs).length ↔ k < xs.length := by simp
    rw [e]
    simp only [insB, h, if_true, ih]
    by_cases c : k < xs.length ∧ eq (xs.getD k default) s = true
    · rw [if_pos c, if_pos ⟨l.2 c.1, c.2⟩]
    · rw [if_neg c, if_neg (fun h => c ⟨l.1 h.1, h.2⟩)]; simp
theorem sortB_succ (L : List α) {k : Nat} (hk : k < L.length) : sortB lt eq (L.take (k + 1)) = insB lt eq (sortB lt eq (L.take k)) (L.getD k default) := by
  rw [← take_at hk]; simp [sortB]
theorem sortB_len : ∀ (L : List α), (sortB lt eq L).length ≤ L.length := by
  intro L
  suffices H : ∀ k, k ≤ L.length → (sortB lt eq (L.take k)).length ≤ k by
    have := H L.length (Nat.le_refl _)
    rwa [List.take_of_length_le (Nat.le_refl _)] at this
  intro k
  induction k with
  | zero => intro _; simp [sortB]
  | succ k ih =>
    intro hk
    rw [sortB_succ lt eq L (by omega)]
    have := insB_len lt eq (L.getD k default) (sortB lt eq (L.take k))
    have := ih (by omega)
    omega
end
/-- The first k, and what lies behind them. -/
theorem SlAt.take {α : Type} [Inhabited α] {R : Rep α} {k bytes : Nat} {A : Where} {w : World} {a : Option Addr} {n cap : Nat} {L : List α} (h : SlAt R k bytes A w a n cap L) {t : Nat} (ht : t ≤ n) : SlAt R k bytes A w a t cap (L.take t) := by
  obtain ⟨h1, h2, h3, h4, h5⟩ := h
  refine ⟨by rw [List.length_take]; omega, by omega, h3, Nat.le_trans (Nat.mul_le_mul_right bytes ht) h4, fun h0 => ?_⟩
  obtain ⟨B, off, e, hB, hA, hc⟩ := h5 (by omega)
  refine ⟨B, off, e, hB, hA, fun i hi => ?_⟩
  obtain ⟨cs, h6, h7⟩ := hc i (by omega)
  have : (L.take t).getD i default = L.getD i default := by
    rw [getE _ _ (show i < (L.take t).length by rw [List.length_take]; omega), getE _ _ (show i < L.length by omega), List.getElem_take]
  rw [this]
  exact ⟨cs, h6, h7⟩
theorem SlAt.drop {α : Type} [Inhabited α] {R : Rep α} {k bytes : Nat} {A : Where} {w : World} {B off n cap : Nat} {L : List α} (h : SlAt R k bytes A w (some ⟨B, off, none⟩) n cap L) {t : Nat} (ht : t ≤ n) : SlAt R k bytes A w (some ⟨B, off + t * k, none⟩) (n - t) (cap - t) (L.drop t) := by
  obtain ⟨h1, h2, h3, h4, h5⟩ := h
  refine ⟨by rw [List.length_drop]; omega, by omega, (fun h => by cases h), Nat.le_trans (Nat.mul_le_mul_right bytes (Nat.sub_le _ _)) h4, fun h0 => ?_⟩
  obtain ⟨B', off', e, hB, hA, hc⟩ := h5 (by omega)
  injection e with e
  injection e with e1 e2
  subst e1 e2
  refine ⟨B, _, rfl, hB, hA, fun i hi => ?_⟩
  obtain ⟨cs, h6, h7⟩ := hc (t + i) (by omega)
  have : (L.drop t).getD i default = L.getD (t + i) default := by
    rw [getE _ _ (show i < (L.drop t).length by rw [List.length_drop]; omega), getE _ _ (show t + i < L.length by omega), List.getElem_drop]
  rw [this]
  refine ⟨cs, h6, fun j v hj => ?_⟩
  have := h7 j v hj
  rwa [Nat.add_mul, ← Nat.add_assoc] at this
end Go.Proofs.Ytpjgffcpjabghaa
