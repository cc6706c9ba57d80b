/- volume.done: something is done to the claim and the volume of each pick that an iterator gives, in turn. Conditions: the state lies as is said of it; the iterator gives its picks, and what is done does as is said of it. -/
import Derived.RangeFuncLeaves
import Derived.RangeFuncNested
import Derived.Test.YtnffafjamiffnaaGreatQ35
set_option linter.unusedSimpArgs false
set_option maxRecDepth 100000
set_option maxHeartbeats 32000000
namespace Go.Proofs.YtnffafjamiffnaaGreat
open Go.RowKit Go.Shelf Go.Maps
attribute [local go_sem] Oper.semAt_some
def DoOut (ok : ClaimD -> VolumeD -> Bool) (tc tv : ClaimD -> VolumeD -> ByteArray) (u : World) (Bc oc Bv ov : Nat) (c : ClaimD) (v : VolumeD) (e : Ending) (u' : World) : Prop :=
 ∃ z, Below u.heap.size u z /\ ((ok c v = false /\ e = .returned (.bool false) /\ u' = z) \/ (ok c v = true /\ e = .returned (.bool true) /\ u' = (z.setCell ⟨Bc, oc + 3, none⟩ (.string (tc c v))).setCell ⟨Bv, ov + 4, none⟩ (.string (tv c v))))
def DnOut (f : VC -> PickD -> Except Int VC) (S Sp : List (Nat × PickS) -> Prop) (m : Where) (w : World) (x : StateD) (e : Ending) (u : World) : Prop :=
 (∃ ys st g0 g1 g2 g3 g4 g5, S ys /\ runD f (sVs x, sCs x) (ys.map (fun y => y.2.1)) = .ok st /\ e = .returned (.tuple #[.agg #[g0, g1, g2, g3, g4, g5], .int .i64 0]) /\ DnS m w u g0 g1 g2 g3 g4 g5 x st) \/
 (∃ ys k, Sp ys /\ runD f (sVs x, sCs x) (ys.map (fun y => y.2.1)) = .error k /\ e = .returned (.tuple #[.agg Z6.toArray, .int .i64 k]) /\ (k = 2 \/ k = 5) /\ Below w.heap.size w u)
def DnA (W2 : World) (b2 : Option Addr) (k2 c2 : Nat) (b3 : Option Addr) (k3 c3 : Nat) (x : StateD) (X Y mc mv : Nat) (u : World) : Prop :=
 NmAt u mc ((sCs x).map Prod.fst) /\ NmAt u mv ((sVs x).map Prod.fst) /\ BoxL u X [.slice b3 k3 c3, .map (some mc)] /\ BoxL u Y [.slice b2 k2 c2, .map (some mv)] /\ X ≠ Y /\ X ≠ mc /\ X ≠ mv /\ Y ≠ mc /\ Y ≠ mv /\ Below W2.heap.size W2 u /\ W2.heap.size <= X /\ W2.heap.size <= Y /\ W2.heap.size <= mc /\ W2.heap.size <= mv
theorem Row.slK {α : Type} [Inhabited α] {R : Rep α} {k : Nat} (hR : Firm R k) {bytes : Nat} {A : Where} {w0 u : World} {e : TypeId} {a : Option Addr} {n c : Nat} {L : List α} (h : Row R k A w0 u e (.slice a n c) L) (hb : L.length * bytes <= 140737488351232) : SlAt R k bytes (fun b => A b \/ Fresh w0 b) u a n c L := by
 obtain ⟨a', cap, e1, h3⟩ := h.sl hR hb
 simp only [Value.slice.injEq] at e1
 obtain ⟨e1, e2, e3⟩ := e1
 rw [e1, e2, e3]
 exact h3
theorem zHV (gf fd : Nat) (lb : Array Value) (ok : ClaimD -> VolumeD -> Bool) (tc tv : ClaimD -> VolumeD -> ByteArray) (S Sp : List (Nat × PickS) -> Prop) (N : Nat) (m : Where) (cs : List Value) (x : StateD) (w : World) (hm : ∀ b, m b -> b < w.heap.size) (h : Hid (RState m w cs x))
  (hen : ∀ args w, (callFunc gf args).run Tryz.prog w = .ok (.enter gf args) w) (hed : ∀ args w, (callFunc fd args).run Tryz.prog w = .ok (.enter fd args) w)
  (hseq : Hid (∀ W, Below w.heap.size w W -> SeqStopsK Fence.wide 8 Tryz.prog gf lb encP (Below w.heap.size) S Sp N W))
  (hdo : Hid (∀ Bc oc Bv ov cs A c vs A' v u, RClaim A u cs c -> RVolume A' u vs v -> u.rangeAt Bc oc cs -> u.rangeAt Bv ov vs -> Bc < u.heap.size -> Bv < u.heap.size -> Bc ≠ Bv -> u.frozen? ⟨Bc, oc + 3, none⟩ = false -> u.frozen? ⟨Bv, ov + 4, none⟩ = false -> Calls Tryz.prog fd #[.pointer (some ⟨Bc, oc, none⟩), .pointer (some ⟨Bv, ov, none⟩)] u (DoOut ok tc tv u Bc oc Bv ov c v)))
  (hts : Hid (∀ c v, c.1.size <= 140737488355328 -> v.1.size <= 140737488355328 -> (tc c v).size <= 140737488355328 /\ (tv c v).size <= 140737488355328)) :
  Calls Tryz.prog 69 #[.agg cs.toArray, .func (.func gf) #[] lb, .func (.func fd) #[] #[]] w (DnOut (stepD ok tc tv) S Sp m w x) := by
 obtain ⟨⟨a0, n0, m0⟩, ⟨a1, n1, m1⟩, ⟨a2, n2, m2⟩, ⟨a3, n3, m3⟩, ⟨a4, n4, m4⟩, ⟨a5, n5, m5⟩, rfl, s0, s1, s2, s3, s4, s5⟩ := h.out.out
 simp only at s0 s1 s2 s3 s4 s5
 obtain ⟨W1, hW1⟩ : ∃ W, W = (((w.alloc (.cells #[.slice a0 n0 m0, .slice a1 n1 m1, .slice a2 n2 m2, .slice a3 n3 m3, .slice a4 n4 m4, .slice a5 n5 m5] 29)).alloc (.cells #[.func (.func fd) #[] #[]] 143)).alloc (.cells #[.slice none 0 0, .slice none 0 0, .slice none 0 0, .slice none 0 0, .slice none 0 0, .slice none 0 0] 29)).alloc (.cells #[.int .i64 0] 33) := ⟨_, rfl⟩
 have B1 : Below w.heap.size w W1 := by rw [hW1]; go_grown
 have HS : Hid (RState m W1 [.slice a0 n0 m0, .slice a1 n1 m1, .slice a2 n2 m2, .slice a3 n3 m3, .slice a4 n4 m4, .slice a5 n5 m5] x) := RState.firm.kept h.out (Kept.below B1)
 have hz1 : W1.heap.size = w.heap.size + 1 + 1 + 1 + 1 := by rw [hW1]; simp
 have q1 : BoxL W1 w.heap.size [.slice a0 n0 m0, .slice a1 n1 m1, .slice a2 n2 m2, .slice a3 n3 m3, .slice a4 n4 m4, .slice a5 n5 m5] := by rw [hW1]; exact (BoxL.new w 29 _).on (by go_grown)
 obtain ⟨f0, f1, f2, f3, f4, f5⟩ : W1.cell? ⟨w.heap.size, 0, none⟩ = some (.slice a0 n0 m0) /\ W1.cell? ⟨w.heap.size, 1, none⟩ = some (.slice a1 n1 m1) /\ W1.cell? ⟨w.heap.size, 2, none⟩ = some (.slice a2 n2 m2) /\ W1.cell? ⟨w.heap.size, 3, none⟩ = some (.slice a3 n3 m3) /\ W1.cell? ⟨w.heap.size, 4, none⟩ = some (.slice a4 n4 m4) /\ W1.cell? ⟨w.heap.size, 5, none⟩ = some (.slice a5 n5 m5) := ⟨(q1.2 0 _ rfl).1, (q1.2 1 _ rfl).1, (q1.2 2 _ rfl).1, (q1.2 3 _ rfl).1, (q1.2 4 _ rfl).1, (q1.2 5 _ rfl).1⟩
 have HQ : Hid (BoxL W1 w.heap.size [.slice a0 n0 m0, .slice a1 n1 m1, .slice a2 n2 m2, .slice a3 n3 m3, .slice a4 n4 m4, .slice a5 n5 m5] /\ BoxL W1 (w.heap.size + 1) [.func (.func fd) #[] #[]] /\ BoxL W1 (w.heap.size + 1 + 1) [.slice none 0 0, .slice none 0 0, .slice none 0 0, .slice none 0 0, .slice none 0 0, .slice none 0 0] /\ BoxL W1 (w.heap.size + 1 + 1 + 1) [.int .i64 0]) := by
  refine ⟨q1, ?_, ?_, ?_⟩
  ·rw [hW1]; have := (BoxL.new (w.alloc (.cells #[.slice a0 n0 m0, .slice a1 n1 m1, .slice a2 n2 m2, .slice a3 n3 m3, .slice a4 n4 m4, .slice a5 n5 m5] 29))  143 [.func (.func fd) #[] #[]]).on (((Below.refl _ _).alloc (Nat.le_refl _) (.cells #[.slice none 0 0, .slice none 0 0, .slice none 0 0, .slice none 0 0, .slice none 0 0, .slice none 0 0] 29)).alloc (by simp) (.cells #[.int .i64 0] 33)); simpa using this
  ·rw [hW1]; have := (BoxL.new ((w.alloc (.cells #[.slice a0 n0 m0, .slice a1 n1 m1, .slice a2 n2 m2, .slice a3 n3 m3, .slice a4 n4 m4, .slice a5 n5 m5] 29)).alloc (.cells #[.func (.func fd) #[] #[]] 143)) 29 [.slice none 0 0, .slice none 0 0, .slice none 0 0, .slice none 0 0, .slice none 0 0, .slice none 0 0]).on ((Below.refl _ _).alloc (Nat.le_refl _) (.cells #[.int .i64 0] 33)); simpa using this
  ·rw [hW1]; have := BoxL.new (((w.alloc (.cells #[.slice a0 n0 m0, .slice a1 n1 m1, .slice a2 n2 m2, .slice a3 n3 m3, .slice a4 n4 m4, .slice a5 n5 m5] 29)).alloc (.cells #[.func (.func fd) #[] #[]] 143)).alloc (.cells #[.slice none 0 0, .slice none 0 0, .slice none 0 0, .slice none 0 0, .slice none 0 0, .slice none 0 0] 29))  33 [.int .i64 0]; simpa using this
 have HC := zGy _ _ x W1 HS
 have hlt1 : w.heap.size < W1.heap.size := by omega
 have y2 : (sVs x).length * 72 <= 140737488351232 := by have h1 := s2.2.2.2.1; have h2 : (sVs x).length = n2 := s2.1; omega
 have y3 : (sCs x).length * 56 <= 140737488351232 := by have h1 := s3.2.2.2.1; have h2 : (sCs x).length = n3 := s3.1; omega
 clear h s0 s1 s2 s3 s4 s5 q1
 let QQ : Exit -> Act -> World -> Prop := bodyPost Tryz.prog Tryz.f69 (fun _ _ => True)
 refine (callsIn_wide (n := 9)).1 ?_
 refine callsIn_of_wp_marks Tryz.func69 rfl trivial ?_
 refine (wpIn_wide (n := 9)).2 ?_
 simp only [Tryz.ntmps69, List.size_toArray, List.length_cons, List.length_nil, Nat.reduceAdd, Nat.reduceSub, Array.replicate_succ, Array.replicate_zero, List.push_toArray, List.append_toArray, List.nil_append, List.cons_append]
 go_upto_region 1 with fail
 rw [<- hW1]
 clear hW1
 go_wp2_with fail
 refine HC.mono ?_
 rintro e u ⟨g0, g1, g2, g3, g4, g5, rfl, hSt⟩
 clear HC f0 f1 f2 f3 f4 f5
 have d1 : Below W1.heap.size W1 u := hSt.1.below
 obtain ⟨b0, k0, c0, rfl⟩ := hSt.1.head
 obtain ⟨b1, k1, c1, rfl⟩ := hSt.2.1.head
 obtain ⟨b2, k2, c2, rfl⟩ := hSt.2.2.1.head
 obtain ⟨b3, k3, c3, rfl⟩ := hSt.2.2.2.1.head
 obtain ⟨b4, k4, c4, rfl⟩ := hSt.2.2.2.2.1.head
 obtain ⟨b5, k5, c5, rfl⟩ := hSt.2.2.2.2.2.1.head
 have qu := HQ.out.1.on d1
 obtain ⟨f0, f1, f2, f3, f4, f5⟩ : (u.cell? ⟨w.heap.size, 0, none⟩ = some (.slice a0 n0 m0) /\ u.frozen? ⟨w.heap.size, 0, none⟩ = false) /\ (u.cell? ⟨w.heap.size, 1, none⟩ = some (.slice a1 n1 m1) /\ u.frozen? ⟨w.heap.size, 1, none⟩ = false) /\ (u.cell? ⟨w.heap.size, 2, none⟩ = some (.slice a2 n2 m2) /\ u.frozen? ⟨w.heap.size, 2, none⟩ = false) /\ (u.cell? ⟨w.heap.size, 3, none⟩ = some (.slice a3 n3 m3) /\ u.frozen? ⟨w.heap.size, 3, none⟩ = false) /\ (u.cell? ⟨w.heap.size, 4, none⟩ = some (.slice a4 n4 m4) /\ u.frozen? ⟨w.heap.size, 4, none⟩ = false) /\ (u.cell? ⟨w.heap.size, 5, none⟩ = some (.slice a5 n5 m5) /\ u.frozen? ⟨w.heap.size, 5, none⟩ = false) := ⟨qu.2 0 _ rfl, qu.2 1 _ rfl, qu.2 2 _ rfl, qu.2 3 _ rfl, qu.2 4 _ rfl, qu.2 5 _ rfl⟩
 have hltu : w.heap.size < u.heap.size := Nat.lt_of_lt_of_le hlt1 d1.size
 have HT : Hid (StR m W1 u (.slice b0 k0 c0) (.slice b1 k1 c1) (.slice b2 k2 c2) (.slice b3 k3 c3) (.slice b4 k4 c4) (.slice b5 k5 c5) x) := hSt
 clear hSt
 go_upto_region 2 with fail
 clear f0 f1 f2 f3 f4 f5
 obtain ⟨W2, hW2⟩ : ∃ W, W = u.setCells w.heap.size 0 [.slice b0 k0 c0, .slice b1 k1 c1, .slice b2 k2 c2, .slice b3 k3 c3, .slice b4 k4 c4, .slice b5 k5 c5] := ⟨_, rfl⟩
 have kU : Kept (fun b => b ≠ w.heap.size) u W2 := by rw [hW2]; exact zA1 (fun h => h rfl)
 have bU : Below w.heap.size w W2 := by rw [hW2]; exact zA0 (on2 B1 d1) (Nat.le_refl _)
 have p0 : BoxL W2 w.heap.size [.slice b0 k0 c0, .slice b1 k1 c1, .slice b2 k2 c2, .slice b3 k3 c3, .slice b4 k4 c4, .slice b5 k5 c5] := by rw [hW2]; exact zA2 qu rfl
 have HT2 : Hid (StR m w W2 (.slice b0 k0 c0) (.slice b1 k1 c1) (.slice b2 k2 c2) (.slice b3 k3 c3) (.slice b4 k4 c4) (.slice b5 k5 c5) x) := ⟨(HT.out.1.from RPod.firm B1 (fun b hb => ⟨hb.1, hm b hb.1⟩)).keptX RPod.firm bU (kU.weak (fun b hb e => hb.elim (fun h9 => by have := h9.2; omega) (fun h9 => by have := HT.out.1.lt h9; omega))), (HT.out.2.1.from RNode.firm B1 (fun b hb => ⟨hb.1, hm b hb.1⟩)).keptX RNode.firm bU (kU.weak (fun b hb e => hb.elim (fun h9 => by have := h9.2; omega) (fun h9 => by have := HT.out.2.1.lt h9; omega))), (HT.out.2.2.1.from RVolume.firm B1 (fun b hb => ⟨hb.1, hm b hb.1⟩)).keptX RVolume.firm bU (kU.weak (fun b hb e => hb.elim (fun h9 => by have := h9.2; omega) (fun h9 => by have := HT.out.2.2.1.lt h9; omega))), (HT.out.2.2.2.1.from RClaim.firm B1 (fun b hb => ⟨hb.1, hm b hb.1⟩)).keptX RClaim.firm bU (kU.weak (fun b hb e => hb.elim (fun h9 => by have := h9.2; omega) (fun h9 => by have := HT.out.2.2.2.1.lt h9; omega))), (HT.out.2.2.2.2.1.from RClass.firm B1 (fun b hb => ⟨hb.1, hm b hb.1⟩)).keptX RClass.firm bU (kU.weak (fun b hb e => hb.elim (fun h9 => by have := h9.2; omega) (fun h9 => by have := HT.out.2.2.2.2.1.lt h9; omega))), (HT.out.2.2.2.2.2.1.from RBudget.firm B1 (fun b hb => ⟨hb.1, hm b hb.1⟩)).keptX RBudget.firm bU (kU.weak (fun b hb e => hb.elim (fun h9 => by have := h9.2; omega) (fun h9 => by have := HT.out.2.2.2.2.2.1.lt h9; omega))), HT.out.2.2.2.2.2.2.1, HT.out.2.2.2.2.2.2.2⟩
 have HQ2 : Hid (BoxL W2 w.heap.size [.slice b0 k0 c0, .slice b1 k1 c1, .slice b2 k2 c2, .slice b3 k3 c3, .slice b4 k4 c4, .slice b5 k5 c5] /\ BoxL W2 (w.heap.size + 1) [.func (.func fd) #[] #[]] /\ BoxL W2 (w.heap.size + 1 + 1) [.slice none 0 0, .slice none 0 0, .slice none 0 0, .slice none 0 0, .slice none 0 0, .slice none 0 0] /\ BoxL W2 (w.heap.size + 1 + 1 + 1) [.int .i64 0]) := ⟨p0, (HQ.out.2.1.on d1).kept kU (by omega), (HQ.out.2.2.1.on d1).kept kU (by omega), (HQ.out.2.2.2.on d1).kept kU (by omega)⟩
 have HB2 : Hid (Below w.heap.size w W2) := bU
 have HF : Hid (∀ g ∈ [Value.slice b0 k0 c0, .slice b1 k1 c1, .slice b2 k2 c2, .slice b3 k3 c3, .slice b4 k4 c4, .slice b5 k5 c5], ∀ b, g.ownBlock = some b -> w.heap.size + 4 <= b /\ b < W2.heap.size) := by
  intro g hg b hb
  simp only [List.mem_cons, List.not_mem_nil, or_false] at hg
  rcases hg with rfl | rfl | rfl | rfl | rfl | rfl
  ·have h1 := HT.out.1.lt hb; have h2 := HT2.out.1.lt hb; omega
  ·have h1 := HT.out.2.1.lt hb; have h2 := HT2.out.2.1.lt hb; omega
  ·have h1 := HT.out.2.2.1.lt hb; have h2 := HT2.out.2.2.1.lt hb; omega
  ·have h1 := HT.out.2.2.2.1.lt hb; have h2 := HT2.out.2.2.2.1.lt hb; omega
  ·have h1 := HT.out.2.2.2.2.1.lt hb; have h2 := HT2.out.2.2.2.2.1.lt hb; omega
  ·have h1 := HT.out.2.2.2.2.2.1.lt hb; have h2 := HT2.out.2.2.2.2.2.1.lt hb; omega
 have h4W : w.heap.size + 4 <= W2.heap.size := by have := d1.size; have := kU.1; omega
 have eW : ((((((u.setCell ⟨w.heap.size, 0, none⟩ (.slice b0 k0 c0)).setCell ⟨w.heap.size, 1, none⟩ (.slice b1 k1 c1)).setCell ⟨w.heap.size, 2, none⟩ (.slice b2 k2 c2)).setCell ⟨w.heap.size, 3, none⟩ (.slice b3 k3 c3)).setCell ⟨w.heap.size, 4, none⟩ (.slice b4 k4 c4)).setCell ⟨w.heap.size, 5, none⟩ (.slice b5 k5 c5)) = W2 := hW2.symm
 rw [eW]
 clear eW hW2 HQ HT kU qu d1 hltu HS
 have hSv : Hid (∀ z, Below W2.heap.size W2 z -> SlAt RVolume 5 72 (fun b => (m b /\ b < w.heap.size) \/ Fresh w b) z b2 k2 c2 (sVs x)) := fun z hz => (HT2.out.2.2.1.slK RVolume.firm y2).on RVolume.firm hz
 have hSc : Hid (∀ z, Below W2.heap.size W2 z -> SlAt RClaim 4 56 (fun b => (m b /\ b < w.heap.size) \/ Fresh w b) z b3 k3 c3 (sCs x)) := fun z hz => (HT2.out.2.2.2.1.slK RClaim.firm y3).on RClaim.firm hz
 have HL : Hid (∀ z, Below W2.heap.size W2 z -> z.cell? ⟨w.heap.size, 2, none⟩ = some (.slice b2 k2 c2) /\ z.cell? ⟨w.heap.size, 3, none⟩ = some (.slice b3 k3 c3)) := fun z hz => ⟨((p0.on hz).2 2 _ rfl).1, ((p0.on hz).2 3 _ rfl).1⟩
 clear p0 bU
 go_cut [8, 9, 16, 17, 18, 19, 20, 21] (fun x8 x9 _ _ _ _ _ _ wx => ∃ X Y mc mv : Nat, x8 = .pointer (some ⟨X, 0, none⟩) /\ x9 = .pointer (some ⟨Y, 0, none⟩) /\ Hid (DnA W2 b2 k2 c2 b3 k3 c3 x X Y mc mv wx))
 case first =>
  refine t0 (fun z => Below W2.heap.size W2 z) (Below.refl _ _).drew (fun gH => ?_)
  have hb0 : Below W2.heap.size W2 W2.drew := (Below.refl _ _).drew
  generalize hwd : W2.drew = wd at gH hb0 |-
  clear hwd
  try go_frame
  refine' tk 0 ?_ ?_; rotate_left
  ·intro u hu; obtain ⟨f2, f3⟩ := HL.out u hu; clear hu; go_simp; try with_reducible rfl
  try go_frame
  refine' tk 1 ?_ ?_; rotate_left
  ·intro u hu; obtain ⟨f2, f3⟩ := HL.out u hu; clear hu; go_simp; try with_reducible rfl
  try go_frame
  refine' tk 3 ?_ ?_; rotate_left
  ·intro u hu; obtain ⟨f2, f3⟩ := HL.out u hu; clear hu; go_simp; try with_reducible rfl
  try go_frame
  refine' tk 4 ?_ ?_; rotate_left
  ·intro u hu; obtain ⟨f2, f3⟩ := HL.out u hu; clear hu; go_simp; try with_reducible rfl
  try go_frame
  refine t3b 2 6 7 (fun K hK => ?_) (fun K hK => ?_) (fun K hK => ?_)
  ·
   have hC := zAK b3 k3 c3 _ (sCs x) wd (hSc.out wd hb0)
   go_simp
   refine hC.mono ?_
   rintro e u1 ⟨mc, rfl, nc, loc, d1⟩
   clear hC
   have hb1 : Below W2.heap.size W2 u1 := on2 hb0 d1
   have lbc : W2.heap.size <= mc := Nat.le_trans hb0.size loc
   go_wp2_with fail
   refine hK.out _ _ hb1 (fun gI => ?_)
   clear hK K gH; have gH := gI; clear gI
   try go_frame
   clear d1 loc
   refine t3b 5 6 7 (fun K hK => ?_) (fun K hK => ?_) (fun K hK => ?_)
   ·
    have hC := zA6 b2 k2 c2 _ (sVs x) u1 (hSv.out u1 hb1)
    go_simp
    refine hC.mono ?_
    rintro e u2 ⟨mv, rfl, nv, lov, d2⟩
    clear hC
    have hb2 : Below W2.heap.size W2 u2 := on2 hb1 d2
    have lbv : W2.heap.size <= mv := Nat.le_trans hb1.size lov
    have nc := nc.on d2
    go_wp2_with fail
    refine hK.out _ _ hb2 (fun gI => ?_)
    clear hK K gH; have gH := gI; clear gI
    try go_frame
    clear d2 lov
    refine tb 6 7 (fun K hK => ?_) (fun K hK => ?_)
    ·
     go_simp
     obtain ⟨u3, hu3⟩ : ∃ u3, u3 = u2.alloc (.cells #[.slice none 0 0, .map none] 167) := ⟨_, rfl⟩
     have d3 : Below u2.heap.size u2 u3 := by rw [hu3]; exact (Below.refl _ _).alloc (Nat.le_refl _) _
     have hb3 : Below W2.heap.size W2 u3 := on2 hb2 d3
     have z0X : BoxL u3 u2.heap.size [.slice none 0 0, .map none] := by rw [hu3]; exact BoxL.new u2 167 [.slice none 0 0, .map none]
     have xc : u2.heap.size ≠ mc := by have := nc.lt; omega
     have xv : u2.heap.size ≠ mv := by have := nv.lt; omega
     have hX1 : W2.heap.size <= u2.heap.size := hb2.size
     have nc := nc.on d3
     have nv := nv.on d3
     refine hK.out _ _ (hu3 ▸ hb3) (fun gI => ?_)
     rw [<- hu3] at gI |-
     clear hK K gH; have gH := gI; clear gI
     try go_frame
     clear hu3 d3
     generalize u2.heap.size = X at z0X hX1 xc xv |-
     have zX := z0X
     clear z0X
     refine tr 7 (fun K hK => ?_)
     go_simp
     obtain ⟨u4, hu4⟩ : ∃ u4, u4 = u3.alloc (.cells #[.slice none 0 0, .map none] 171) := ⟨_, rfl⟩
     have d4 : Below u3.heap.size u3 u4 := by rw [hu4]; exact (Below.refl _ _).alloc (Nat.le_refl _) _
     have hb4 : Below W2.heap.size W2 u4 := on2 hb3 d4
     have z0Y : BoxL u4 u3.heap.size [.slice none 0 0, .map none] := by rw [hu4]; exact BoxL.new u3 171 [.slice none 0 0, .map none]
     have yc : u3.heap.size ≠ mc := by have := nc.lt; omega
     have yv : u3.heap.size ≠ mv := by have := nv.lt; omega
     have xy : X ≠ u3.heap.size := by have := zX.1; omega
     have hY1 : W2.heap.size <= u3.heap.size := hb3.size
     have nc := nc.on d4
     have nv := nv.on d4
     have zX := zX.on d4
     refine hK.out _ _ (hu4 ▸ hb4) (fun gI => ?_)
     rw [<- hu4] at gI |-
     clear hK K gH; have gH := gI; clear gI
     try go_frame
     clear hu4 d4
     generalize u3.heap.size = Y at z0Y hY1 yc yv xy |-
     have zY := z0Y
     clear z0Y
     obtain ⟨UX, hUX⟩ : ∃ U, U = u4.setCells X 0 [.slice b3 k3 c3, .map (some mc)] := ⟨_, rfl⟩
     refine ts 8 (fun K hK => ?_)
     refine zA4 (by rfl) (wp_store_mid 167 _ _ rfl X 0 #[.slice b3 k3 c3, .map (some mc)] rfl rfl zX.there (by kernel_rfl) (by simp [Value.oneCell']) ?_)
     have kUX : Kept (fun b => b ≠ X) u4 UX := by rw [hUX]; exact zA1 (fun h => h rfl)
     have bUX : Below W2.heap.size W2 UX := by rw [hUX]; exact zA0 hb4 hX1
     have zX : BoxL UX X [.slice b3 k3 c3, .map (some mc)] := by rw [hUX]; exact zA2 zX rfl
     have zY := zY.kept kUX (fun e => xy e.symm)
     have nc := nc.kept kUX (fun e => xc e.symm)
     have nv := nv.kept kUX (fun e => xv e.symm)
     have eUX : UX = u4.setCells X 0 (#[.slice b3 k3 c3, .map (some mc)] : Array Value).toList := by rw [hUX]
     rw [<- eUX]
     refine hK.out undef _ bUX (fun gI => ?_)
     clear hK K gH; have gH := gI; clear gI
     try go_frame
     clear hUX eUX kUX
     obtain ⟨UY, hUY⟩ : ∃ U, U = UX.setCells Y 0 [.slice b2 k2 c2, .map (some mv)] := ⟨_, rfl⟩
     refine ts 9 (fun K hK => ?_)
     refine zA4 (by rfl) (wp_store_mid 171 _ _ rfl Y 0 #[.slice b2 k2 c2, .map (some mv)] rfl rfl zY.there (by kernel_rfl) (by simp [Value.oneCell']) ?_)
     have kUY : Kept (fun b => b ≠ Y) UX UY := by rw [hUY]; exact zA1 (fun h => h rfl)
     have bUY : Below W2.heap.size W2 UY := by rw [hUY]; exact zA0 bUX hY1
     have zY : BoxL UY Y [.slice b2 k2 c2, .map (some mv)] := by rw [hUY]; exact zA2 zY rfl
     have zX := zX.kept kUY (fun e => xy e)
     have nc := nc.kept kUY (fun e => yc e.symm)
     have nv := nv.kept kUY (fun e => yv e.symm)
     have eUY : UY = UX.setCells Y 0 (#[.slice b2 k2 c2, .map (some mv)] : Array Value).toList := by rw [hUY]
     rw [<- eUY]
     refine hK.out undef _ bUY (fun gI => ?_)
     clear hK K gH; have gH := gI; clear gI
     try go_frame
     clear hUY eUY kUY
     refine tz ?_
     have HG : Hid (DnA W2 b2 k2 c2 b3 k3 c3 x X Y mc mv UY) := ⟨nc, nv, zX, zY, xy, xc, xv, yc, yv, bUY, hX1, hY1, lbc, lbv⟩
     clear zX zY nc nv xy xc xv yc yv bUX bUY hX1 hY1 lbc lbv gH
     go_wp2_with fail
     go_meet
     exact ⟨X, Y, mc, mv, rfl, rfl, HG⟩
    ·
     go_simp
     obtain ⟨u5, hu5⟩ : ∃ u5, u5 = u2.alloc (.cells #[.slice none 0 0, .map none] 171) := ⟨_, rfl⟩
     have d5 : Below u2.heap.size u2 u5 := by rw [hu5]; exact (Below.refl _ _).alloc (Nat.le_refl _) _
     have hb5 : Below W2.heap.size W2 u5 := on2 hb2 d5
     have z0Y : BoxL u5 u2.heap.size [.slice none 0 0, .map none] := by rw [hu5]; exact BoxL.new u2 171 [.slice none 0 0, .map none]
     have yc : u2.heap.size ≠ mc := by have := nc.lt; omega
     have yv : u2.heap.size ≠ mv := by have := nv.lt; omega
     have hY1 : W2.heap.size <= u2.heap.size := hb2.size
     have nc := nc.on d5
     have nv := nv.on d5
     refine hK.out _ _ (hu5 ▸ hb5) (fun gI => ?_)
     rw [<- hu5] at gI |-
     clear hK K gH; have gH := gI; clear gI
     try go_frame
     clear hu5 d5
     generalize u2.heap.size = Y at z0Y hY1 yc yv |-
     have zY := z0Y
     clear z0Y
     refine tr 6 (fun K hK => ?_)
     go_simp
     obtain ⟨u6, hu6⟩ : ∃ u6, u6 = u5.alloc (.cells #[.slice none 0 0, .map none] 167) := ⟨_, rfl⟩
     have d6 : Below u5.heap.size u5 u6 := by rw [hu6]; exact (Below.refl _ _).alloc (Nat.le_refl _) _
     have hb6 : Below W2.heap.size W2 u6 := on2 hb5 d6
     have z0X : BoxL u6 u5.heap.size [.slice none 0 0, .map none] := by rw [hu6]; exact BoxL.new u5 167 [.slice none 0 0, .map none]
     have xc : u5.heap.size ≠ mc := by have := nc.lt; omega
     have xv : u5.heap.size ≠ mv := by have := nv.lt; omega
     have xy : u5.heap.size ≠ Y := by have := zY.1; omega
     have hX1 : W2.heap.size <= u5.heap.size := hb5.size
     have nc := nc.on d6
     have nv := nv.on d6
     have zY := zY.on d6
     refine hK.out _ _ (hu6 ▸ hb6) (fun gI => ?_)
     rw [<- hu6] at gI |-
     clear hK K gH; have gH := gI; clear gI
     try go_frame
     clear hu6 d6
     generalize u5.heap.size = X at z0X hX1 xc xv xy |-
     have zX := z0X
     clear z0X
     obtain ⟨UX, hUX⟩ : ∃ U, U = u6.setCells X 0 [.slice b3 k3 c3, .map (some mc)] := ⟨_, rfl⟩
     refine ts 8 (fun K hK => ?_)
     refine zA4 (by rfl) (wp_store_mid 167 _ _ rfl X 0 #[.slice b3 k3 c3, .map (some mc)] rfl rfl zX.there (by kernel_rfl) (by simp [Value.oneCell']) ?_)
     have kUX : Kept (fun b => b ≠ X) u6 UX := by rw [hUX]; exact zA1 (fun h => h rfl)
     have bUX : Below W2.heap.size W2 UX := by rw [hUX]; exact zA0 hb6 hX1
     have zX : BoxL UX X [.slice b3 k3 c3, .map (some mc)] := by rw [hUX]; exact zA2 zX rfl
     have zY := zY.kept kUX (fun e => xy e.symm)
     have nc := nc.kept kUX (fun e => xc e.symm)
     have nv := nv.kept kUX (fun e => xv e.symm)
     have eUX : UX = u6.setCells X 0 (#[.slice b3 k3 c3, .map (some mc)] : Array Value).toList := by rw [hUX]
     rw [<- eUX]
     refine hK.out undef _ bUX (fun gI => ?_)
     clear hK K gH; have gH := gI; clear gI
     try go_frame
     clear hUX eUX kUX
     obtain ⟨UY, hUY⟩ : ∃ U, U = UX.setCells Y 0 [.slice b2 k2 c2, .map (some mv)] := ⟨_, rfl⟩
     refine ts 9 (fun K hK => ?_)
     refine zA4 (by rfl) (wp_store_mid 171 _ _ rfl Y 0 #[.slice b2 k2 c2, .map (some mv)] rfl rfl zY.there (by kernel_rfl) (by simp [Value.oneCell']) ?_)
     have kUY : Kept (fun b => b ≠ Y) UX UY := by rw [hUY]; exact zA1 (fun h => h rfl)
     have bUY : Below W2.heap.size W2 UY := by rw [hUY]; exact zA0 bUX hY1
     have zY : BoxL UY Y [.slice b2 k2 c2, .map (some mv)] := by rw [hUY]; exact zA2 zY rfl
     have zX := zX.kept kUY (fun e => xy e)
     have nc := nc.kept kUY (fun e => yc e.symm)
     have nv := nv.kept kUY (fun e => yv e.symm)
     have eUY : UY = UX.setCells Y 0 (#[.slice b2 k2 c2, .map (some mv)] : Array Value).toList := by rw [hUY]
     rw [<- eUY]
     refine hK.out undef _ bUY (fun gI => ?_)
     clear hK K gH; have gH := gI; clear gI
     try go_frame
     clear hUY eUY kUY
     refine tz ?_
     have HG : Hid (DnA W2 b2 k2 c2 b3 k3 c3 x X Y mc mv UY) := ⟨nc, nv, zX, zY, xy, xc, xv, yc, yv, bUY, hX1, hY1, lbc, lbv⟩
     clear zX zY nc nv xy xc xv yc yv bUX bUY hX1 hY1 lbc lbv gH
     go_wp2_with fail
     go_meet
     exact ⟨X, Y, mc, mv, rfl, rfl, HG⟩
   ·
    go_simp
    obtain ⟨u7, hu7⟩ : ∃ u7, u7 = u1.alloc (.cells #[.slice none 0 0, .map none] 167) := ⟨_, rfl⟩
    have d7 : Below u1.heap.size u1 u7 := by rw [hu7]; exact (Below.refl _ _).alloc (Nat.le_refl _) _
    have hb7 : Below W2.heap.size W2 u7 := on2 hb1 d7
    have z0X : BoxL u7 u1.heap.size [.slice none 0 0, .map none] := by rw [hu7]; exact BoxL.new u1 167 [.slice none 0 0, .map none]
    have xc : u1.heap.size ≠ mc := by have := nc.lt; omega
    have hX1 : W2.heap.size <= u1.heap.size := hb1.size
    have nc := nc.on d7
    refine hK.out _ _ (hu7 ▸ hb7) (fun gI => ?_)
    rw [<- hu7] at gI |-
    clear hK K gH; have gH := gI; clear gI
    try go_frame
    clear hu7 d7
    generalize u1.heap.size = X at z0X hX1 xc |-
    have zX := z0X
    clear z0X
    refine tb 5 7 (fun K hK => ?_) (fun K hK => ?_)
    ·
     have hC := zA6 b2 k2 c2 _ (sVs x) u7 (hSv.out u7 hb7)
     go_simp
     refine hC.mono ?_
     rintro e u8 ⟨mv, rfl, nv, lov, d8⟩
     clear hC
     have hb8 : Below W2.heap.size W2 u8 := on2 hb7 d8
     have lbv : W2.heap.size <= mv := Nat.le_trans hb7.size lov
     have xv : X ≠ mv := by have := zX.1; omega
     have zX := zX.on d8
     have nc := nc.on d8
     go_wp2_with fail
     refine hK.out _ _ hb8 (fun gI => ?_)
     clear hK K gH; have gH := gI; clear gI
     try go_frame
     clear d8 lov
     refine tr 7 (fun K hK => ?_)
     go_simp
     obtain ⟨u9, hu9⟩ : ∃ u9, u9 = u8.alloc (.cells #[.slice none 0 0, .map none] 171) := ⟨_, rfl⟩
     have d9 : Below u8.heap.size u8 u9 := by rw [hu9]; exact (Below.refl _ _).alloc (Nat.le_refl _) _
     have hb9 : Below W2.heap.size W2 u9 := on2 hb8 d9
     have z0Y : BoxL u9 u8.heap.size [.slice none 0 0, .map none] := by rw [hu9]; exact BoxL.new u8 171 [.slice none 0 0, .map none]
     have yc : u8.heap.size ≠ mc := by have := nc.lt; omega
     have yv : u8.heap.size ≠ mv := by have := nv.lt; omega
     have xy : X ≠ u8.heap.size := by have := zX.1; omega
     have hY1 : W2.heap.size <= u8.heap.size := hb8.size
     have nc := nc.on d9
     have nv := nv.on d9
     have zX := zX.on d9
     refine hK.out _ _ (hu9 ▸ hb9) (fun gI => ?_)
     rw [<- hu9] at gI |-
     clear hK K gH; have gH := gI; clear gI
     try go_frame
     clear hu9 d9
     generalize u8.heap.size = Y at z0Y hY1 yc yv xy |-
     have zY := z0Y
     clear z0Y
     obtain ⟨UX, hUX⟩ : ∃ U, U = u9.setCells X 0 [.slice b3 k3 c3, .map (some mc)] := ⟨_, rfl⟩
     refine ts 8 (fun K hK => ?_)
     refine zA4 (by rfl) (wp_store_mid 167 _ _ rfl X 0 #[.slice b3 k3 c3, .map (some mc)] rfl rfl zX.there (by kernel_rfl) (by simp [Value.oneCell']) ?_)
     have kUX : Kept (fun b => b ≠ X) u9 UX := by rw [hUX]; exact zA1 (fun h => h rfl)
     have bUX : Below W2.heap.size W2 UX := by rw [hUX]; exact zA0 hb9 hX1
     have zX : BoxL UX X [.slice b3 k3 c3, .map (some mc)] := by rw [hUX]; exact zA2 zX rfl
     have zY := zY.kept kUX (fun e => xy e.symm)
     have nc := nc.kept kUX (fun e => xc e.symm)
     have nv := nv.kept kUX (fun e => xv e.symm)
     have eUX : UX = u9.setCells X 0 (#[.slice b3 k3 c3, .map (some mc)] : Array Value).toList := by rw [hUX]
     rw [<- eUX]
     refine hK.out undef _ bUX (fun gI => ?_)
     clear hK K gH; have gH := gI; clear gI
     try go_frame
     clear hUX eUX kUX
     obtain ⟨UY, hUY⟩ : ∃ U, U = UX.setCells Y 0 [.slice b2 k2 c2, .map (some mv)] := ⟨_, rfl⟩
     refine ts 9 (fun K hK => ?_)
     refine zA4 (by rfl) (wp_store_mid 171 _ _ rfl Y 0 #[.slice b2 k2 c2, .map (some mv)] rfl rfl zY.there (by kernel_rfl) (by simp [Value.oneCell']) ?_)
     have kUY : Kept (fun b => b ≠ Y) UX UY := by rw [hUY]; exact zA1 (fun h => h rfl)
     have bUY : Below W2.heap.size W2 UY := by rw [hUY]; exact zA0 bUX hY1
     have zY : BoxL UY Y [.slice b2 k2 c2, .map (some mv)] := by rw [hUY]; exact zA2 zY rfl
     have zX := zX.kept kUY (fun e => xy e)
     have nc := nc.kept kUY (fun e => yc e.symm)
     have nv := nv.kept kUY (fun e => yv e.symm)
     have eUY : UY = UX.setCells Y 0 (#[.slice b2 k2 c2, .map (some mv)] : Array Value).toList := by rw [hUY]
     rw [<- eUY]
     refine hK.out undef _ bUY (fun gI => ?_)
     clear hK K gH; have gH := gI; clear gI
     try go_frame
     clear hUY eUY kUY
     refine tz ?_
     have HG : Hid (DnA W2 b2 k2 c2 b3 k3 c3 x X Y mc mv UY) := ⟨nc, nv, zX, zY, xy, xc, xv, yc, yv, bUY, hX1, hY1, lbc, lbv⟩
     clear zX zY nc nv xy xc xv yc yv bUX bUY hX1 hY1 lbc lbv gH
     go_wp2_with fail
     go_meet
     exact ⟨X, Y, mc, mv, rfl, rfl, HG⟩
    ·
     go_simp
     obtain ⟨u10, hu10⟩ : ∃ u10, u10 = u7.alloc (.cells #[.slice none 0 0, .map none] 171) := ⟨_, rfl⟩
     have d10 : Below u7.heap.size u7 u10 := by rw [hu10]; exact (Below.refl _ _).alloc (Nat.le_refl _) _
     have hb10 : Below W2.heap.size W2 u10 := on2 hb7 d10
     have z0Y : BoxL u10 u7.heap.size [.slice none 0 0, .map none] := by rw [hu10]; exact BoxL.new u7 171 [.slice none 0 0, .map none]
     have yc : u7.heap.size ≠ mc := by have := nc.lt; omega
     have xy : X ≠ u7.heap.size := by have := zX.1; omega
     have hY1 : W2.heap.size <= u7.heap.size := hb7.size
     have nc := nc.on d10
     have zX := zX.on d10
     refine hK.out _ _ (hu10 ▸ hb10) (fun gI => ?_)
     rw [<- hu10] at gI |-
     clear hK K gH; have gH := gI; clear gI
     try go_frame
     clear hu10 d10
     generalize u7.heap.size = Y at z0Y hY1 yc xy |-
     have zY := z0Y
     clear z0Y
     refine tr 5 (fun K hK => ?_)
     have hC := zA6 b2 k2 c2 _ (sVs x) u10 (hSv.out u10 hb10)
     go_simp
     refine hC.mono ?_
     rintro e u11 ⟨mv, rfl, nv, lov, d11⟩
     clear hC
     have hb11 : Below W2.heap.size W2 u11 := on2 hb10 d11
     have lbv : W2.heap.size <= mv := Nat.le_trans hb10.size lov
     have xv : X ≠ mv := by have := zX.1; omega
     have zX := zX.on d11
     have yv : Y ≠ mv := by have := zY.1; omega
     have zY := zY.on d11
     have nc := nc.on d11
     go_wp2_with fail
     refine hK.out _ _ hb11 (fun gI => ?_)
     clear hK K gH; have gH := gI; clear gI
     try go_frame
     clear d11 lov
     obtain ⟨UX, hUX⟩ : ∃ U, U = u11.setCells X 0 [.slice b3 k3 c3, .map (some mc)] := ⟨_, rfl⟩
     refine ts 8 (fun K hK => ?_)
     refine zA4 (by rfl) (wp_store_mid 167 _ _ rfl X 0 #[.slice b3 k3 c3, .map (some mc)] rfl rfl zX.there (by kernel_rfl) (by simp [Value.oneCell']) ?_)
     have kUX : Kept (fun b => b ≠ X) u11 UX := by rw [hUX]; exact zA1 (fun h => h rfl)
     have bUX : Below W2.heap.size W2 UX := by rw [hUX]; exact zA0 hb11 hX1
     have zX : BoxL UX X [.slice b3 k3 c3, .map (some mc)] := by rw [hUX]; exact zA2 zX rfl
     have zY := zY.kept kUX (fun e => xy e.symm)
     have nc := nc.kept kUX (fun e => xc e.symm)
     have nv := nv.kept kUX (fun e => xv e.symm)
     have eUX : UX = u11.setCells X 0 (#[.slice b3 k3 c3, .map (some mc)] : Array Value).toList := by rw [hUX]
     rw [<- eUX]
     refine hK.out undef _ bUX (fun gI => ?_)
     clear hK K gH; have gH := gI; clear gI
     try go_frame
     clear hUX eUX kUX
     obtain ⟨UY, hUY⟩ : ∃ U, U = UX.setCells Y 0 [.slice b2 k2 c2, .map (some mv)] := ⟨_, rfl⟩
     refine ts 9 (fun K hK => ?_)
     refine zA4 (by rfl) (wp_store_mid 171 _ _ rfl Y 0 #[.slice b2 k2 c2, .map (some mv)] rfl rfl zY.there (by kernel_rfl) (by simp [Value.oneCell']) ?_)
     have kUY : Kept (fun b => b ≠ Y) UX UY := by rw [hUY]; exact zA1 (fun h => h rfl)
     have bUY : Below W2.heap.size W2 UY := by rw [hUY]; exact zA0 bUX hY1
     have zY : BoxL UY Y [.slice b2 k2 c2, .map (some mv)] := by rw [hUY]; exact zA2 zY rfl
     have zX := zX.kept kUY (fun e => xy e)
     have nc := nc.kept kUY (fun e => yc e.symm)
     have nv := nv.kept kUY (fun e => yv e.symm)
     have eUY : UY = UX.setCells Y 0 (#[.slice b2 k2 c2, .map (some mv)] : Array Value).toList := by rw [hUY]
     rw [<- eUY]
     refine hK.out undef _ bUY (fun gI => ?_)
     clear hK K gH; have gH := gI; clear gI
     try go_frame
     clear hUY eUY kUY
     refine tz ?_
     have HG : Hid (DnA W2 b2 k2 c2 b3 k3 c3 x X Y mc mv UY) := ⟨nc, nv, zX, zY, xy, xc, xv, yc, yv, bUY, hX1, hY1, lbc, lbv⟩
     clear zX zY nc nv xy xc xv yc yv bUX bUY hX1 hY1 lbc lbv gH
     go_wp2_with fail
     go_meet
     exact ⟨X, Y, mc, mv, rfl, rfl, HG⟩
   ·
    go_simp
    obtain ⟨u12, hu12⟩ : ∃ u12, u12 = u1.alloc (.cells #[.slice none 0 0, .map none] 171) := ⟨_, rfl⟩
    have d12 : Below u1.heap.size u1 u12 := by rw [hu12]; exact (Below.refl _ _).alloc (Nat.le_refl _) _
    have hb12 : Below W2.heap.size W2 u12 := on2 hb1 d12
    have z0Y : BoxL u12 u1.heap.size [.slice none 0 0, .map none] := by rw [hu12]; exact BoxL.new u1 171 [.slice none 0 0, .map none]
    have yc : u1.heap.size ≠ mc := by have := nc.lt; omega
    have hY1 : W2.heap.size <= u1.heap.size := hb1.size
    have nc := nc.on d12
    refine hK.out _ _ (hu12 ▸ hb12) (fun gI => ?_)
    rw [<- hu12] at gI |-
    clear hK K gH; have gH := gI; clear gI
    try go_frame
    clear hu12 d12
    generalize u1.heap.size = Y at z0Y hY1 yc |-
    have zY := z0Y
    clear z0Y
    refine tb 5 6 (fun K hK => ?_) (fun K hK => ?_)
    ·
     have hC := zA6 b2 k2 c2 _ (sVs x) u12 (hSv.out u12 hb12)
     go_simp
     refine hC.mono ?_
     rintro e u13 ⟨mv, rfl, nv, lov, d13⟩
     clear hC
     have hb13 : Below W2.heap.size W2 u13 := on2 hb12 d13
     have lbv : W2.heap.size <= mv := Nat.le_trans hb12.size lov
     have yv : Y ≠ mv := by have := zY.1; omega
     have zY := zY.on d13
     have nc := nc.on d13
     go_wp2_with fail
     refine hK.out _ _ hb13 (fun gI => ?_)
     clear hK K gH; have gH := gI; clear gI
     try go_frame
     clear d13 lov
     refine tr 6 (fun K hK => ?_)
     go_simp
     obtain ⟨u14, hu14⟩ : ∃ u14, u14 = u13.alloc (.cells #[.slice none 0 0, .map none] 167) := ⟨_, rfl⟩
     have d14 : Below u13.heap.size u13 u14 := by rw [hu14]; exact (Below.refl _ _).alloc (Nat.le_refl _) _
     have hb14 : Below W2.heap.size W2 u14 := on2 hb13 d14
     have z0X : BoxL u14 u13.heap.size [.slice none 0 0, .map none] := by rw [hu14]; exact BoxL.new u13 167 [.slice none 0 0, .map none]
     have xc : u13.heap.size ≠ mc := by have := nc.lt; omega
     have xv : u13.heap.size ≠ mv := by have := nv.lt; omega
     have xy : u13.heap.size ≠ Y := by have := zY.1; omega
     have hX1 : W2.heap.size <= u13.heap.size := hb13.size
     have nc := nc.on d14
     have nv := nv.on d14
     have zY := zY.on d14
     refine hK.out _ _ (hu14 ▸ hb14) (fun gI => ?_)
     rw [<- hu14] at gI |-
     clear hK K gH; have gH := gI; clear gI
     try go_frame
     clear hu14 d14
     generalize u13.heap.size = X at z0X hX1 xc xv xy |-
     have zX := z0X
     clear z0X
     obtain ⟨UX, hUX⟩ : ∃ U, U = u14.setCells X 0 [.slice b3 k3 c3, .map (some mc)] := ⟨_, rfl⟩
     refine ts 8 (fun K hK => ?_)
     refine zA4 (by rfl) (wp_store_mid 167 _ _ rfl X 0 #[.slice b3 k3 c3, .map (some mc)] rfl rfl zX.there (by kernel_rfl) (by simp [Value.oneCell']) ?_)
     have kUX : Kept (fun b => b ≠ X) u14 UX := by rw [hUX]; exact zA1 (fun h => h rfl)
     have bUX : Below W2.heap.size W2 UX := by rw [hUX]; exact zA0 hb14 hX1
     have zX : BoxL UX X [.slice b3 k3 c3, .map (some mc)] := by rw [hUX]; exact zA2 zX rfl
     have zY := zY.kept kUX (fun e => xy e.symm)
     have nc := nc.kept kUX (fun e => xc e.symm)
     have nv := nv.kept kUX (fun e => xv e.symm)
     have eUX : UX = u14.setCells X 0 (#[.slice b3 k3 c3, .map (some mc)] : Array Value).toList := by rw [hUX]
     rw [<- eUX]
     refine hK.out undef _ bUX (fun gI => ?_)
     clear hK K gH; have gH := gI; clear gI
     try go_frame
     clear hUX eUX kUX
     obtain ⟨UY, hUY⟩ : ∃ U, U = UX.setCells Y 0 [.slice b2 k2 c2, .map (some mv)] := ⟨_, rfl⟩
     refine ts 9 (fun K hK => ?_)
     refine zA4 (by rfl) (wp_store_mid 171 _ _ rfl Y 0 #[.slice b2 k2 c2, .map (some mv)] rfl rfl zY.there (by kernel_rfl) (by simp [Value.oneCell']) ?_)
     have kUY : Kept (fun b => b ≠ Y) UX UY := by rw [hUY]; exact zA1 (fun h => h rfl)
     have bUY : Below W2.heap.size W2 UY := by rw [hUY]; exact zA0 bUX hY1
     have zY : BoxL UY Y [.slice b2 k2 c2, .map (some mv)] := by rw [hUY]; exact zA2 zY rfl
     have zX := zX.kept kUY (fun e => xy e)
     have nc := nc.kept kUY (fun e => yc e.symm)
     have nv := nv.kept kUY (fun e => yv e.symm)
     have eUY : UY = UX.setCells Y 0 (#[.slice b2 k2 c2, .map (some mv)] : Array Value).toList := by rw [hUY]
     rw [<- eUY]
     refine hK.out undef _ bUY (fun gI => ?_)
     clear hK K gH; have gH := gI; clear gI
     try go_frame
     clear hUY eUY kUY
     refine tz ?_
     have HG : Hid (DnA W2 b2 k2 c2 b3 k3 c3 x X Y mc mv UY) := ⟨nc, nv, zX, zY, xy, xc, xv, yc, yv, bUY, hX1, hY1, lbc, lbv⟩
     clear zX zY nc nv xy xc xv yc yv bUX bUY hX1 hY1 lbc lbv gH
     go_wp2_with fail
     go_meet
     exact ⟨X, Y, mc, mv, rfl, rfl, HG⟩
    ·
     go_simp
     obtain ⟨u15, hu15⟩ : ∃ u15, u15 = u12.alloc (.cells #[.slice none 0 0, .map none] 167) := ⟨_, rfl⟩
     have d15 : Below u12.heap.size u12 u15 := by rw [hu15]; exact (Below.refl _ _).alloc (Nat.le_refl _) _
     have hb15 : Below W2.heap.size W2 u15 := on2 hb12 d15
     have z0X : BoxL u15 u12.heap.size [.slice none 0 0, .map none] := by rw [hu15]; exact BoxL.new u12 167 [.slice none 0 0, .map none]
     have xc : u12.heap.size ≠ mc := by have := nc.lt; omega
     have xy : u12.heap.size ≠ Y := by have := zY.1; omega
     have hX1 : W2.heap.size <= u12.heap.size := hb12.size
     have nc := nc.on d15
     have zY := zY.on d15
     refine hK.out _ _ (hu15 ▸ hb15) (fun gI => ?_)
     rw [<- hu15] at gI |-
     clear hK K gH; have gH := gI; clear gI
     try go_frame
     clear hu15 d15
     generalize u12.heap.size = X at z0X hX1 xc xy |-
     have zX := z0X
     clear z0X
     refine tr 5 (fun K hK => ?_)
     have hC := zA6 b2 k2 c2 _ (sVs x) u15 (hSv.out u15 hb15)
     go_simp
     refine hC.mono ?_
     rintro e u16 ⟨mv, rfl, nv, lov, d16⟩
     clear hC
     have hb16 : Below W2.heap.size W2 u16 := on2 hb15 d16
     have lbv : W2.heap.size <= mv := Nat.le_trans hb15.size lov
     have yv : Y ≠ mv := by have := zY.1; omega
     have zY := zY.on d16
     have xv : X ≠ mv := by have := zX.1; omega
     have zX := zX.on d16
     have nc := nc.on d16
     go_wp2_with fail
     refine hK.out _ _ hb16 (fun gI => ?_)
     clear hK K gH; have gH := gI; clear gI
     try go_frame
     clear d16 lov
     obtain ⟨UX, hUX⟩ : ∃ U, U = u16.setCells X 0 [.slice b3 k3 c3, .map (some mc)] := ⟨_, rfl⟩
     refine ts 8 (fun K hK => ?_)
     refine zA4 (by rfl) (wp_store_mid 167 _ _ rfl X 0 #[.slice b3 k3 c3, .map (some mc)] rfl rfl zX.there (by kernel_rfl) (by simp [Value.oneCell']) ?_)
     have kUX : Kept (fun b => b ≠ X) u16 UX := by rw [hUX]; exact zA1 (fun h => h rfl)
     have bUX : Below W2.heap.size W2 UX := by rw [hUX]; exact zA0 hb16 hX1
     have zX : BoxL UX X [.slice b3 k3 c3, .map (some mc)] := by rw [hUX]; exact zA2 zX rfl
     have zY := zY.kept kUX (fun e => xy e.symm)
     have nc := nc.kept kUX (fun e => xc e.symm)
     have nv := nv.kept kUX (fun e => xv e.symm)
     have eUX : UX = u16.setCells X 0 (#[.slice b3 k3 c3, .map (some mc)] : Array Value).toList := by rw [hUX]
     rw [<- eUX]
     refine hK.out undef _ bUX (fun gI => ?_)
     clear hK K gH; have gH := gI; clear gI
     try go_frame
     clear hUX eUX kUX
     obtain ⟨UY, hUY⟩ : ∃ U, U = UX.setCells Y 0 [.slice b2 k2 c2, .map (some mv)] := ⟨_, rfl⟩
     refine ts 9 (fun K hK => ?_)
     refine zA4 (by rfl) (wp_store_mid 171 _ _ rfl Y 0 #[.slice b2 k2 c2, .map (some mv)] rfl rfl zY.there (by kernel_rfl) (by simp [Value.oneCell']) ?_)
     have kUY : Kept (fun b => b ≠ Y) UX UY := by rw [hUY]; exact zA1 (fun h => h rfl)
     have bUY : Below W2.heap.size W2 UY := by rw [hUY]; exact zA0 bUX hY1
     have zY : BoxL UY Y [.slice b2 k2 c2, .map (some mv)] := by rw [hUY]; exact zA2 zY rfl
     have zX := zX.kept kUY (fun e => xy e)
     have nc := nc.kept kUY (fun e => yc e.symm)
     have nv := nv.kept kUY (fun e => yv e.symm)
     have eUY : UY = UX.setCells Y 0 (#[.slice b2 k2 c2, .map (some mv)] : Array Value).toList := by rw [hUY]
     rw [<- eUY]
     refine hK.out undef _ bUY (fun gI => ?_)
     clear hK K gH; have gH := gI; clear gI
     try go_frame
     clear hUY eUY kUY
     refine tz ?_
     have HG : Hid (DnA W2 b2 k2 c2 b3 k3 c3 x X Y mc mv UY) := ⟨nc, nv, zX, zY, xy, xc, xv, yc, yv, bUY, hX1, hY1, lbc, lbv⟩
     clear zX zY nc nv xy xc xv yc yv bUX bUY hX1 hY1 lbc lbv gH
     go_wp2_with fail
     go_meet
     exact ⟨X, Y, mc, mv, rfl, rfl, HG⟩
  ·
   go_simp
   obtain ⟨u17, hu17⟩ : ∃ u17, u17 = wd.alloc (.cells #[.slice none 0 0, .map none] 167) := ⟨_, rfl⟩
   have d17 : Below wd.heap.size wd u17 := by rw [hu17]; exact (Below.refl _ _).alloc (Nat.le_refl _) _
   have hb17 : Below W2.heap.size W2 u17 := on2 hb0 d17
   have z0X : BoxL u17 wd.heap.size [.slice none 0 0, .map none] := by rw [hu17]; exact BoxL.new wd 167 [.slice none 0 0, .map none]
   have hX1 : W2.heap.size <= wd.heap.size := hb0.size
   refine hK.out _ _ (hu17 ▸ hb17) (fun gI => ?_)
   rw [<- hu17] at gI |-
   clear hK K gH; have gH := gI; clear gI
   try go_frame
   clear hu17 d17
   generalize wd.heap.size = X at z0X hX1  |-
   have zX := z0X
   clear z0X
   refine tb 2 7 (fun K hK => ?_) (fun K hK => ?_)
   ·
    have hC := zAK b3 k3 c3 _ (sCs x) u17 (hSc.out u17 hb17)
    go_simp
    refine hC.mono ?_
    rintro e u18 ⟨mc, rfl, nc, loc, d18⟩
    clear hC
    have hb18 : Below W2.heap.size W2 u18 := on2 hb17 d18
    have lbc : W2.heap.size <= mc := Nat.le_trans hb17.size loc
    have xc : X ≠ mc := by have := zX.1; omega
    have zX := zX.on d18
    go_wp2_with fail
    refine hK.out _ _ hb18 (fun gI => ?_)
    clear hK K gH; have gH := gI; clear gI
    try go_frame
    clear d18 loc
    refine tb 5 7 (fun K hK => ?_) (fun K hK => ?_)
    ·
     have hC := zA6 b2 k2 c2 _ (sVs x) u18 (hSv.out u18 hb18)
     go_simp
     refine hC.mono ?_
     rintro e u19 ⟨mv, rfl, nv, lov, d19⟩
     clear hC
     have hb19 : Below W2.heap.size W2 u19 := on2 hb18 d19
     have lbv : W2.heap.size <= mv := Nat.le_trans hb18.size lov
     have xv : X ≠ mv := by have := zX.1; omega
     have zX := zX.on d19
     have nc := nc.on d19
     go_wp2_with fail
     refine hK.out _ _ hb19 (fun gI => ?_)
     clear hK K gH; have gH := gI; clear gI
     try go_frame
     clear d19 lov
     refine tr 7 (fun K hK => ?_)
     go_simp
     obtain ⟨u20, hu20⟩ : ∃ u20, u20 = u19.alloc (.cells #[.slice none 0 0, .map none] 171) := ⟨_, rfl⟩
     have d20 : Below u19.heap.size u19 u20 := by rw [hu20]; exact (Below.refl _ _).alloc (Nat.le_refl _) _
     have hb20 : Below W2.heap.size W2 u20 := on2 hb19 d20
     have z0Y : BoxL u20 u19.heap.size [.slice none 0 0, .map none] := by rw [hu20]; exact BoxL.new u19 171 [.slice none 0 0, .map none]
     have yc : u19.heap.size ≠ mc := by have := nc.lt; omega
     have yv : u19.heap.size ≠ mv := by have := nv.lt; omega
     have xy : X ≠ u19.heap.size := by have := zX.1; omega
     have hY1 : W2.heap.size <= u19.heap.size := hb19.size
     have nc := nc.on d20
     have nv := nv.on d20
     have zX := zX.on d20
     refine hK.out _ _ (hu20 ▸ hb20) (fun gI => ?_)
     rw [<- hu20] at gI |-
     clear hK K gH; have gH := gI; clear gI
     try go_frame
     clear hu20 d20
     generalize u19.heap.size = Y at z0Y hY1 yc yv xy |-
     have zY := z0Y
     clear z0Y
     obtain ⟨UX, hUX⟩ : ∃ U, U = u20.setCells X 0 [.slice b3 k3 c3, .map (some mc)] := ⟨_, rfl⟩
     refine ts 8 (fun K hK => ?_)
     refine zA4 (by rfl) (wp_store_mid 167 _ _ rfl X 0 #[.slice b3 k3 c3, .map (some mc)] rfl rfl zX.there (by kernel_rfl) (by simp [Value.oneCell']) ?_)
     have kUX : Kept (fun b => b ≠ X) u20 UX := by rw [hUX]; exact zA1 (fun h => h rfl)
     have bUX : Below W2.heap.size W2 UX := by rw [hUX]; exact zA0 hb20 hX1
     have zX : BoxL UX X [.slice b3 k3 c3, .map (some mc)] := by rw [hUX]; exact zA2 zX rfl
     have zY := zY.kept kUX (fun e => xy e.symm)
     have nc := nc.kept kUX (fun e => xc e.symm)
     have nv := nv.kept kUX (fun e => xv e.symm)
     have eUX : UX = u20.setCells X 0 (#[.slice b3 k3 c3, .map (some mc)] : Array Value).toList := by rw [hUX]
     rw [<- eUX]
     refine hK.out undef _ bUX (fun gI => ?_)
     clear hK K gH; have gH := gI; clear gI
     try go_frame
     clear hUX eUX kUX
     obtain ⟨UY, hUY⟩ : ∃ U, U = UX.setCells Y 0 [.slice b2 k2 c2, .map (some mv)] := ⟨_, rfl⟩
     refine ts 9 (fun K hK => ?_)
     refine zA4 (by rfl) (wp_store_mid 171 _ _ rfl Y 0 #[.slice b2 k2 c2, .map (some mv)] rfl rfl zY.there (by kernel_rfl) (by simp [Value.oneCell']) ?_)
     have kUY : Kept (fun b => b ≠ Y) UX UY := by rw [hUY]; exact zA1 (fun h => h rfl)
     have bUY : Below W2.heap.size W2 UY := by rw [hUY]; exact zA0 bUX hY1
     have zY : BoxL UY Y [.slice b2 k2 c2, .map (some mv)] := by rw [hUY]; exact zA2 zY rfl
     have zX := zX.kept kUY (fun e => xy e)
     have nc := nc.kept kUY (fun e => yc e.symm)
     have nv := nv.kept kUY (fun e => yv e.symm)
     have eUY : UY = UX.setCells Y 0 (#[.slice b2 k2 c2, .map (some mv)] : Array Value).toList := by rw [hUY]
     rw [<- eUY]
     refine hK.out undef _ bUY (fun gI => ?_)
     clear hK K gH; have gH := gI; clear gI
     try go_frame
     clear hUY eUY kUY
     refine tz ?_
     have HG : Hid (DnA W2 b2 k2 c2 b3 k3 c3 x X Y mc mv UY) := ⟨nc, nv, zX, zY, xy, xc, xv, yc, yv, bUY, hX1, hY1, lbc, lbv⟩
     clear zX zY nc nv xy xc xv yc yv bUX bUY hX1 hY1 lbc lbv gH
     go_wp2_with fail
     go_meet
     exact ⟨X, Y, mc, mv, rfl, rfl, HG⟩
    ·
     go_simp
     obtain ⟨u21, hu21⟩ : ∃ u21, u21 = u18.alloc (.cells #[.slice none 0 0, .map none] 171) := ⟨_, rfl⟩
     have d21 : Below u18.heap.size u18 u21 := by rw [hu21]; exact (Below.refl _ _).alloc (Nat.le_refl _) _
     have hb21 : Below W2.heap.size W2 u21 := on2 hb18 d21
     have z0Y : BoxL u21 u18.heap.size [.slice none 0 0, .map none] := by rw [hu21]; exact BoxL.new u18 171 [.slice none 0 0, .map none]
     have yc : u18.heap.size ≠ mc := by have := nc.lt; omega
     have xy : X ≠ u18.heap.size := by have := zX.1; omega
     have hY1 : W2.heap.size <= u18.heap.size := hb18.size
     have nc := nc.on d21
     have zX := zX.on d21
     refine hK.out _ _ (hu21 ▸ hb21) (fun gI => ?_)
     rw [<- hu21] at gI |-
     clear hK K gH; have gH := gI; clear gI
     try go_frame
     clear hu21 d21
     generalize u18.heap.size = Y at z0Y hY1 yc xy |-
     have zY := z0Y
     clear z0Y
     refine tr 5 (fun K hK => ?_)
     have hC := zA6 b2 k2 c2 _ (sVs x) u21 (hSv.out u21 hb21)
     go_simp
     refine hC.mono ?_
     rintro e u22 ⟨mv, rfl, nv, lov, d22⟩
     clear hC
     have hb22 : Below W2.heap.size W2 u22 := on2 hb21 d22
     have lbv : W2.heap.size <= mv := Nat.le_trans hb21.size lov
     have xv : X ≠ mv := by have := zX.1; omega
     have zX := zX.on d22
     have yv : Y ≠ mv := by have := zY.1; omega
     have zY := zY.on d22
     have nc := nc.on d22
     go_wp2_with fail
     refine hK.out _ _ hb22 (fun gI => ?_)
     clear hK K gH; have gH := gI; clear gI
     try go_frame
     clear d22 lov
     obtain ⟨UX, hUX⟩ : ∃ U, U = u22.setCells X 0 [.slice b3 k3 c3, .map (some mc)] := ⟨_, rfl⟩
     refine ts 8 (fun K hK => ?_)
     refine zA4 (by rfl) (wp_store_mid 167 _ _ rfl X 0 #[.slice b3 k3 c3, .map (some mc)] rfl rfl zX.there (by kernel_rfl) (by simp [Value.oneCell']) ?_)
     have kUX : Kept (fun b => b ≠ X) u22 UX := by rw [hUX]; exact zA1 (fun h => h rfl)
     have bUX : Below W2.heap.size W2 UX := by rw [hUX]; exact zA0 hb22 hX1
     have zX : BoxL UX X [.slice b3 k3 c3, .map (some mc)] := by rw [hUX]; exact zA2 zX rfl
     have zY := zY.kept kUX (fun e => xy e.symm)
     have nc := nc.kept kUX (fun e => xc e.symm)
     have nv := nv.kept kUX (fun e => xv e.symm)
     have eUX : UX = u22.setCells X 0 (#[.slice b3 k3 c3, .map (some mc)] : Array Value).toList := by rw [hUX]
     rw [<- eUX]
     refine hK.out undef _ bUX (fun gI => ?_)
     clear hK K gH; have gH := gI; clear gI
     try go_frame
     clear hUX eUX kUX
     obtain ⟨UY, hUY⟩ : ∃ U, U = UX.setCells Y 0 [.slice b2 k2 c2, .map (some mv)] := ⟨_, rfl⟩
     refine ts 9 (fun K hK => ?_)
     refine zA4 (by rfl) (wp_store_mid 171 _ _ rfl Y 0 #[.slice b2 k2 c2, .map (some mv)] rfl rfl zY.there (by kernel_rfl) (by simp [Value.oneCell']) ?_)
     have kUY : Kept (fun b => b ≠ Y) UX UY := by rw [hUY]; exact zA1 (fun h => h rfl)
     have bUY : Below W2.heap.size W2 UY := by rw [hUY]; exact zA0 bUX hY1
     have zY : BoxL UY Y [.slice b2 k2 c2, .map (some mv)] := by rw [hUY]; exact zA2 zY rfl
     have zX := zX.kept kUY (fun e => xy e)
     have nc := nc.kept kUY (fun e => yc e.symm)
     have nv := nv.kept kUY (fun e => yv e.symm)
     have eUY : UY = UX.setCells Y 0 (#[.slice b2 k2 c2, .map (some mv)] : Array Value).toList := by rw [hUY]
     rw [<- eUY]
     refine hK.out undef _ bUY (fun gI => ?_)
     clear hK K gH; have gH := gI; clear gI
     try go_frame
     clear hUY eUY kUY
     refine tz ?_
     have HG : Hid (DnA W2 b2 k2 c2 b3 k3 c3 x X Y mc mv UY) := ⟨nc, nv, zX, zY, xy, xc, xv, yc, yv, bUY, hX1, hY1, lbc, lbv⟩
     clear zX zY nc nv xy xc xv yc yv bUX bUY hX1 hY1 lbc lbv gH
     go_wp2_with fail
     go_meet
     exact ⟨X, Y, mc, mv, rfl, rfl, HG⟩
   ·
    go_simp
    obtain ⟨u23, hu23⟩ : ∃ u23, u23 = u17.alloc (.cells #[.slice none 0 0, .map none] 171) := ⟨_, rfl⟩
    have d23 : Below u17.heap.size u17 u23 := by rw [hu23]; exact (Below.refl _ _).alloc (Nat.le_refl _) _
    have hb23 : Below W2.heap.size W2 u23 := on2 hb17 d23
    have z0Y : BoxL u23 u17.heap.size [.slice none 0 0, .map none] := by rw [hu23]; exact BoxL.new u17 171 [.slice none 0 0, .map none]
    have xy : X ≠ u17.heap.size := by have := zX.1; omega
    have hY1 : W2.heap.size <= u17.heap.size := hb17.size
    have zX := zX.on d23
    refine hK.out _ _ (hu23 ▸ hb23) (fun gI => ?_)
    rw [<- hu23] at gI |-
    clear hK K gH; have gH := gI; clear gI
    try go_frame
    clear hu23 d23
    generalize u17.heap.size = Y at z0Y hY1 xy |-
    have zY := z0Y
    clear z0Y
    refine tr 2 (fun K hK => ?_)
    have hC := zAK b3 k3 c3 _ (sCs x) u23 (hSc.out u23 hb23)
    go_simp
    refine hC.mono ?_
    rintro e u24 ⟨mc, rfl, nc, loc, d24⟩
    clear hC
    have hb24 : Below W2.heap.size W2 u24 := on2 hb23 d24
    have lbc : W2.heap.size <= mc := Nat.le_trans hb23.size loc
    have xc : X ≠ mc := by have := zX.1; omega
    have zX := zX.on d24
    have yc : Y ≠ mc := by have := zY.1; omega
    have zY := zY.on d24
    go_wp2_with fail
    refine hK.out _ _ hb24 (fun gI => ?_)
    clear hK K gH; have gH := gI; clear gI
    try go_frame
    clear d24 loc
    refine tr 5 (fun K hK => ?_)
    have hC := zA6 b2 k2 c2 _ (sVs x) u24 (hSv.out u24 hb24)
    go_simp
    refine hC.mono ?_
    rintro e u25 ⟨mv, rfl, nv, lov, d25⟩
    clear hC
    have hb25 : Below W2.heap.size W2 u25 := on2 hb24 d25
    have lbv : W2.heap.size <= mv := Nat.le_trans hb24.size lov
    have xv : X ≠ mv := by have := zX.1; omega
    have zX := zX.on d25
    have yv : Y ≠ mv := by have := zY.1; omega
    have zY := zY.on d25
    have nc := nc.on d25
    go_wp2_with fail
    refine hK.out _ _ hb25 (fun gI => ?_)
    clear hK K gH; have gH := gI; clear gI
    try go_frame
    clear d25 lov
    obtain ⟨UX, hUX⟩ : ∃ U, U = u25.setCells X 0 [.slice b3 k3 c3, .map (some mc)] := ⟨_, rfl⟩
    refine ts 8 (fun K hK => ?_)
    refine zA4 (by rfl) (wp_store_mid 167 _ _ rfl X 0 #[.slice b3 k3 c3, .map (some mc)] rfl rfl zX.there (by kernel_rfl) (by simp [Value.oneCell']) ?_)
    have kUX : Kept (fun b => b ≠ X) u25 UX := by rw [hUX]; exact zA1 (fun h => h rfl)
    have bUX : Below W2.heap.size W2 UX := by rw [hUX]; exact zA0 hb25 hX1
    have zX : BoxL UX X [.slice b3 k3 c3, .map (some mc)] := by rw [hUX]; exact zA2 zX rfl
    have zY := zY.kept kUX (fun e => xy e.symm)
    have nc := nc.kept kUX (fun e => xc e.symm)
    have nv := nv.kept kUX (fun e => xv e.symm)
    have eUX : UX = u25.setCells X 0 (#[.slice b3 k3 c3, .map (some mc)] : Array Value).toList := by rw [hUX]
    rw [<- eUX]
    refine hK.out undef _ bUX (fun gI => ?_)
    clear hK K gH; have gH := gI; clear gI
    try go_frame
    clear hUX eUX kUX
    obtain ⟨UY, hUY⟩ : ∃ U, U = UX.setCells Y 0 [.slice b2 k2 c2, .map (some mv)] := ⟨_, rfl⟩
    refine ts 9 (fun K hK => ?_)
    refine zA4 (by rfl) (wp_store_mid 171 _ _ rfl Y 0 #[.slice b2 k2 c2, .map (some mv)] rfl rfl zY.there (by kernel_rfl) (by simp [Value.oneCell']) ?_)
    have kUY : Kept (fun b => b ≠ Y) UX UY := by rw [hUY]; exact zA1 (fun h => h rfl)
    have bUY : Below W2.heap.size W2 UY := by rw [hUY]; exact zA0 bUX hY1
    have zY : BoxL UY Y [.slice b2 k2 c2, .map (some mv)] := by rw [hUY]; exact zA2 zY rfl
    have zX := zX.kept kUY (fun e => xy e)
    have nc := nc.kept kUY (fun e => yc e.symm)
    have nv := nv.kept kUY (fun e => yv e.symm)
    have eUY : UY = UX.setCells Y 0 (#[.slice b2 k2 c2, .map (some mv)] : Array Value).toList := by rw [hUY]
    rw [<- eUY]
    refine hK.out undef _ bUY (fun gI => ?_)
    clear hK K gH; have gH := gI; clear gI
    try go_frame
    clear hUY eUY kUY
    refine tz ?_
    have HG : Hid (DnA W2 b2 k2 c2 b3 k3 c3 x X Y mc mv UY) := ⟨nc, nv, zX, zY, xy, xc, xv, yc, yv, bUY, hX1, hY1, lbc, lbv⟩
    clear zX zY nc nv xy xc xv yc yv bUX bUY hX1 hY1 lbc lbv gH
    go_wp2_with fail
    go_meet
    exact ⟨X, Y, mc, mv, rfl, rfl, HG⟩
  ·
   go_simp
   obtain ⟨u26, hu26⟩ : ∃ u26, u26 = wd.alloc (.cells #[.slice none 0 0, .map none] 171) := ⟨_, rfl⟩
   have d26 : Below wd.heap.size wd u26 := by rw [hu26]; exact (Below.refl _ _).alloc (Nat.le_refl _) _
   have hb26 : Below W2.heap.size W2 u26 := on2 hb0 d26
   have z0Y : BoxL u26 wd.heap.size [.slice none 0 0, .map none] := by rw [hu26]; exact BoxL.new wd 171 [.slice none 0 0, .map none]
   have hY1 : W2.heap.size <= wd.heap.size := hb0.size
   refine hK.out _ _ (hu26 ▸ hb26) (fun gI => ?_)
   rw [<- hu26] at gI |-
   clear hK K gH; have gH := gI; clear gI
   try go_frame
   clear hu26 d26
   generalize wd.heap.size = Y at z0Y hY1  |-
   have zY := z0Y
   clear z0Y
   refine tb 2 6 (fun K hK => ?_) (fun K hK => ?_)
   ·
    have hC := zAK b3 k3 c3 _ (sCs x) u26 (hSc.out u26 hb26)
    go_simp
    refine hC.mono ?_
    rintro e u27 ⟨mc, rfl, nc, loc, d27⟩
    clear hC
    have hb27 : Below W2.heap.size W2 u27 := on2 hb26 d27
    have lbc : W2.heap.size <= mc := Nat.le_trans hb26.size loc
    have yc : Y ≠ mc := by have := zY.1; omega
    have zY := zY.on d27
    go_wp2_with fail
    refine hK.out _ _ hb27 (fun gI => ?_)
    clear hK K gH; have gH := gI; clear gI
    try go_frame
    clear d27 loc
    refine tb 5 6 (fun K hK => ?_) (fun K hK => ?_)
    ·
     have hC := zA6 b2 k2 c2 _ (sVs x) u27 (hSv.out u27 hb27)
     go_simp
     refine hC.mono ?_
     rintro e u28 ⟨mv, rfl, nv, lov, d28⟩
     clear hC
     have hb28 : Below W2.heap.size W2 u28 := on2 hb27 d28
     have lbv : W2.heap.size <= mv := Nat.le_trans hb27.size lov
     have yv : Y ≠ mv := by have := zY.1; omega
     have zY := zY.on d28
     have nc := nc.on d28
     go_wp2_with fail
     refine hK.out _ _ hb28 (fun gI => ?_)
     clear hK K gH; have gH := gI; clear gI
     try go_frame
     clear d28 lov
     refine tr 6 (fun K hK => ?_)
     go_simp
     obtain ⟨u29, hu29⟩ : ∃ u29, u29 = u28.alloc (.cells #[.slice none 0 0, .map none] 167) := ⟨_, rfl⟩
     have d29 : Below u28.heap.size u28 u29 := by rw [hu29]; exact (Below.refl _ _).alloc (Nat.le_refl _) _
     have hb29 : Below W2.heap.size W2 u29 := on2 hb28 d29
     have z0X : BoxL u29 u28.heap.size [.slice none 0 0, .map none] := by rw [hu29]; exact BoxL.new u28 167 [.slice none 0 0, .map none]
     have xc : u28.heap.size ≠ mc := by have := nc.lt; omega
     have xv : u28.heap.size ≠ mv := by have := nv.lt; omega
     have xy : u28.heap.size ≠ Y := by have := zY.1; omega
     have hX1 : W2.heap.size <= u28.heap.size := hb28.size
     have nc := nc.on d29
     have nv := nv.on d29
     have zY := zY.on d29
     refine hK.out _ _ (hu29 ▸ hb29) (fun gI => ?_)
     rw [<- hu29] at gI |-
     clear hK K gH; have gH := gI; clear gI
     try go_frame
     clear hu29 d29
     generalize u28.heap.size = X at z0X hX1 xc xv xy |-
     have zX := z0X
     clear z0X
     obtain ⟨UX, hUX⟩ : ∃ U, U = u29.setCells X 0 [.slice b3 k3 c3, .map (some mc)] := ⟨_, rfl⟩
     refine ts 8 (fun K hK => ?_)
     refine zA4 (by rfl) (wp_store_mid 167 _ _ rfl X 0 #[.slice b3 k3 c3, .map (some mc)] rfl rfl zX.there (by kernel_rfl) (by simp [Value.oneCell']) ?_)
     have kUX : Kept (fun b => b ≠ X) u29 UX := by rw [hUX]; exact zA1 (fun h => h rfl)
     have bUX : Below W2.heap.size W2 UX := by rw [hUX]; exact zA0 hb29 hX1
     have zX : BoxL UX X [.slice b3 k3 c3, .map (some mc)] := by rw [hUX]; exact zA2 zX rfl
     have zY := zY.kept kUX (fun e => xy e.symm)
     have nc := nc.kept kUX (fun e => xc e.symm)
     have nv := nv.kept kUX (fun e => xv e.symm)
     have eUX : UX = u29.setCells X 0 (#[.slice b3 k3 c3, .map (some mc)] : Array Value).toList := by rw [hUX]
     rw [<- eUX]
     refine hK.out undef _ bUX (fun gI => ?_)
     clear hK K gH; have gH := gI; clear gI
     try go_frame
     clear hUX eUX kUX
     obtain ⟨UY, hUY⟩ : ∃ U, U = UX.setCells Y 0 [.slice b2 k2 c2, .map (some mv)] := ⟨_, rfl⟩
     refine ts 9 (fun K hK => ?_)
     refine zA4 (by rfl) (wp_store_mid 171 _ _ rfl Y 0 #[.slice b2 k2 c2, .map (some mv)] rfl rfl zY.there (by kernel_rfl) (by simp [Value.oneCell']) ?_)
     have kUY : Kept (fun b => b ≠ Y) UX UY := by rw [hUY]; exact zA1 (fun h => h rfl)
     have bUY : Below W2.heap.size W2 UY := by rw [hUY]; exact zA0 bUX hY1
     have zY : BoxL UY Y [.slice b2 k2 c2, .map (some mv)] := by rw [hUY]; exact zA2 zY rfl
     have zX := zX.kept kUY (fun e => xy e)
     have nc := nc.kept kUY (fun e => yc e.symm)
     have nv := nv.kept kUY (fun e => yv e.symm)
     have eUY : UY = UX.setCells Y 0 (#[.slice b2 k2 c2, .map (some mv)] : Array Value).toList := by rw [hUY]
     rw [<- eUY]
     refine hK.out undef _ bUY (fun gI => ?_)
     clear hK K gH; have gH := gI; clear gI
     try go_frame
     clear hUY eUY kUY
     refine tz ?_
     have HG : Hid (DnA W2 b2 k2 c2 b3 k3 c3 x X Y mc mv UY) := ⟨nc, nv, zX, zY, xy, xc, xv, yc, yv, bUY, hX1, hY1, lbc, lbv⟩
     clear zX zY nc nv xy xc xv yc yv bUX bUY hX1 hY1 lbc lbv gH
     go_wp2_with fail
     go_meet
     exact ⟨X, Y, mc, mv, rfl, rfl, HG⟩
    ·
     go_simp
     obtain ⟨u30, hu30⟩ : ∃ u30, u30 = u27.alloc (.cells #[.slice none 0 0, .map none] 167) := ⟨_, rfl⟩
     have d30 : Below u27.heap.size u27 u30 := by rw [hu30]; exact (Below.refl _ _).alloc (Nat.le_refl _) _
     have hb30 : Below W2.heap.size W2 u30 := on2 hb27 d30
     have z0X : BoxL u30 u27.heap.size [.slice none 0 0, .map none] := by rw [hu30]; exact BoxL.new u27 167 [.slice none 0 0, .map none]
     have xc : u27.heap.size ≠ mc := by have := nc.lt; omega
     have xy : u27.heap.size ≠ Y := by have := zY.1; omega
     have hX1 : W2.heap.size <= u27.heap.size := hb27.size
     have nc := nc.on d30
     have zY := zY.on d30
     refine hK.out _ _ (hu30 ▸ hb30) (fun gI => ?_)
     rw [<- hu30] at gI |-
     clear hK K gH; have gH := gI; clear gI
     try go_frame
     clear hu30 d30
     generalize u27.heap.size = X at z0X hX1 xc xy |-
     have zX := z0X
     clear z0X
     refine tr 5 (fun K hK => ?_)
     have hC := zA6 b2 k2 c2 _ (sVs x) u30 (hSv.out u30 hb30)
     go_simp
     refine hC.mono ?_
     rintro e u31 ⟨mv, rfl, nv, lov, d31⟩
     clear hC
     have hb31 : Below W2.heap.size W2 u31 := on2 hb30 d31
     have lbv : W2.heap.size <= mv := Nat.le_trans hb30.size lov
     have yv : Y ≠ mv := by have := zY.1; omega
     have zY := zY.on d31
     have xv : X ≠ mv := by have := zX.1; omega
     have zX := zX.on d31
     have nc := nc.on d31
     go_wp2_with fail
     refine hK.out _ _ hb31 (fun gI => ?_)
     clear hK K gH; have gH := gI; clear gI
     try go_frame
     clear d31 lov
     obtain ⟨UX, hUX⟩ : ∃ U, U = u31.setCells X 0 [.slice b3 k3 c3, .map (some mc)] := ⟨_, rfl⟩
     refine ts 8 (fun K hK => ?_)
     refine zA4 (by rfl) (wp_store_mid 167 _ _ rfl X 0 #[.slice b3 k3 c3, .map (some mc)] rfl rfl zX.there (by kernel_rfl) (by simp [Value.oneCell']) ?_)
     have kUX : Kept (fun b => b ≠ X) u31 UX := by rw [hUX]; exact zA1 (fun h => h rfl)
     have bUX : Below W2.heap.size W2 UX := by rw [hUX]; exact zA0 hb31 hX1
     have zX : BoxL UX X [.slice b3 k3 c3, .map (some mc)] := by rw [hUX]; exact zA2 zX rfl
     have zY := zY.kept kUX (fun e => xy e.symm)
     have nc := nc.kept kUX (fun e => xc e.symm)
     have nv := nv.kept kUX (fun e => xv e.symm)
     have eUX : UX = u31.setCells X 0 (#[.slice b3 k3 c3, .map (some mc)] : Array Value).toList := by rw [hUX]
     rw [<- eUX]
     refine hK.out undef _ bUX (fun gI => ?_)
     clear hK K gH; have gH := gI; clear gI
     try go_frame
     clear hUX eUX kUX
     obtain ⟨UY, hUY⟩ : ∃ U, U = UX.setCells Y 0 [.slice b2 k2 c2, .map (some mv)] := ⟨_, rfl⟩
     refine ts 9 (fun K hK => ?_)
     refine zA4 (by rfl) (wp_store_mid 171 _ _ rfl Y 0 #[.slice b2 k2 c2, .map (some mv)] rfl rfl zY.there (by kernel_rfl) (by simp [Value.oneCell']) ?_)
     have kUY : Kept (fun b => b ≠ Y) UX UY := by rw [hUY]; exact zA1 (fun h => h rfl)
     have bUY : Below W2.heap.size W2 UY := by rw [hUY]; exact zA0 bUX hY1
     have zY : BoxL UY Y [.slice b2 k2 c2, .map (some mv)] := by rw [hUY]; exact zA2 zY rfl
     have zX := zX.kept kUY (fun e => xy e)
     have nc := nc.kept kUY (fun e => yc e.symm)
     have nv := nv.kept kUY (fun e => yv e.symm)
     have eUY : UY = UX.setCells Y 0 (#[.slice b2 k2 c2, .map (some mv)] : Array Value).toList := by rw [hUY]
     rw [<- eUY]
     refine hK.out undef _ bUY (fun gI => ?_)
     clear hK K gH; have gH := gI; clear gI
     try go_frame
     clear hUY eUY kUY
     refine tz ?_
     have HG : Hid (DnA W2 b2 k2 c2 b3 k3 c3 x X Y mc mv UY) := ⟨nc, nv, zX, zY, xy, xc, xv, yc, yv, bUY, hX1, hY1, lbc, lbv⟩
     clear zX zY nc nv xy xc xv yc yv bUX bUY hX1 hY1 lbc lbv gH
     go_wp2_with fail
     go_meet
     exact ⟨X, Y, mc, mv, rfl, rfl, HG⟩
   ·
    go_simp
    obtain ⟨u32, hu32⟩ : ∃ u32, u32 = u26.alloc (.cells #[.slice none 0 0, .map none] 167) := ⟨_, rfl⟩
    have d32 : Below u26.heap.size u26 u32 := by rw [hu32]; exact (Below.refl _ _).alloc (Nat.le_refl _) _
    have hb32 : Below W2.heap.size W2 u32 := on2 hb26 d32
    have z0X : BoxL u32 u26.heap.size [.slice none 0 0, .map none] := by rw [hu32]; exact BoxL.new u26 167 [.slice none 0 0, .map none]
    have xy : u26.heap.size ≠ Y := by have := zY.1; omega
    have hX1 : W2.heap.size <= u26.heap.size := hb26.size
    have zY := zY.on d32
    refine hK.out _ _ (hu32 ▸ hb32) (fun gI => ?_)
    rw [<- hu32] at gI |-
    clear hK K gH; have gH := gI; clear gI
    try go_frame
    clear hu32 d32
    generalize u26.heap.size = X at z0X hX1 xy |-
    have zX := z0X
    clear z0X
    refine tr 2 (fun K hK => ?_)
    have hC := zAK b3 k3 c3 _ (sCs x) u32 (hSc.out u32 hb32)
    go_simp
    refine hC.mono ?_
    rintro e u33 ⟨mc, rfl, nc, loc, d33⟩
    clear hC
    have hb33 : Below W2.heap.size W2 u33 := on2 hb32 d33
    have lbc : W2.heap.size <= mc := Nat.le_trans hb32.size loc
    have yc : Y ≠ mc := by have := zY.1; omega
    have zY := zY.on d33
    have xc : X ≠ mc := by have := zX.1; omega
    have zX := zX.on d33
    go_wp2_with fail
    refine hK.out _ _ hb33 (fun gI => ?_)
    clear hK K gH; have gH := gI; clear gI
    try go_frame
    clear d33 loc
    refine tr 5 (fun K hK => ?_)
    have hC := zA6 b2 k2 c2 _ (sVs x) u33 (hSv.out u33 hb33)
    go_simp
    refine hC.mono ?_
    rintro e u34 ⟨mv, rfl, nv, lov, d34⟩
    clear hC
    have hb34 : Below W2.heap.size W2 u34 := on2 hb33 d34
    have lbv : W2.heap.size <= mv := Nat.le_trans hb33.size lov
    have yv : Y ≠ mv := by have := zY.1; omega
    have zY := zY.on d34
    have xv : X ≠ mv := by have := zX.1; omega
    have zX := zX.on d34
    have nc := nc.on d34
    go_wp2_with fail
    refine hK.out _ _ hb34 (fun gI => ?_)
    clear hK K gH; have gH := gI; clear gI
    try go_frame
    clear d34 lov
    obtain ⟨UX, hUX⟩ : ∃ U, U = u34.setCells X 0 [.slice b3 k3 c3, .map (some mc)] := ⟨_, rfl⟩
    refine ts 8 (fun K hK => ?_)
    refine zA4 (by rfl) (wp_store_mid 167 _ _ rfl X 0 #[.slice b3 k3 c3, .map (some mc)] rfl rfl zX.there (by kernel_rfl) (by simp [Value.oneCell']) ?_)
    have kUX : Kept (fun b => b ≠ X) u34 UX := by rw [hUX]; exact zA1 (fun h => h rfl)
    have bUX : Below W2.heap.size W2 UX := by rw [hUX]; exact zA0 hb34 hX1
    have zX : BoxL UX X [.slice b3 k3 c3, .map (some mc)] := by rw [hUX]; exact zA2 zX rfl
    have zY := zY.kept kUX (fun e => xy e.symm)
    have nc := nc.kept kUX (fun e => xc e.symm)
    have nv := nv.kept kUX (fun e => xv e.symm)
    have eUX : UX = u34.setCells X 0 (#[.slice b3 k3 c3, .map (some mc)] : Array Value).toList := by rw [hUX]
    rw [<- eUX]
    refine hK.out undef _ bUX (fun gI => ?_)
    clear hK K gH; have gH := gI; clear gI
    try go_frame
    clear hUX eUX kUX
    obtain ⟨UY, hUY⟩ : ∃ U, U = UX.setCells Y 0 [.slice b2 k2 c2, .map (some mv)] := ⟨_, rfl⟩
    refine ts 9 (fun K hK => ?_)
    refine zA4 (by rfl) (wp_store_mid 171 _ _ rfl Y 0 #[.slice b2 k2 c2, .map (some mv)] rfl rfl zY.there (by kernel_rfl) (by simp [Value.oneCell']) ?_)
    have kUY : Kept (fun b => b ≠ Y) UX UY := by rw [hUY]; exact zA1 (fun h => h rfl)
    have bUY : Below W2.heap.size W2 UY := by rw [hUY]; exact zA0 bUX hY1
    have zY : BoxL UY Y [.slice b2 k2 c2, .map (some mv)] := by rw [hUY]; exact zA2 zY rfl
    have zX := zX.kept kUY (fun e => xy e)
    have nc := nc.kept kUY (fun e => yc e.symm)
    have nv := nv.kept kUY (fun e => yv e.symm)
    have eUY : UY = UX.setCells Y 0 (#[.slice b2 k2 c2, .map (some mv)] : Array Value).toList := by rw [hUY]
    rw [<- eUY]
    refine hK.out undef _ bUY (fun gI => ?_)
    clear hK K gH; have gH := gI; clear gI
    try go_frame
    clear hUY eUY kUY
    refine tz ?_
    have HG : Hid (DnA W2 b2 k2 c2 b3 k3 c3 x X Y mc mv UY) := ⟨nc, nv, zX, zY, xy, xc, xv, yc, yv, bUY, hX1, hY1, lbc, lbv⟩
    clear zX zY nc nv xy xc xv yc yv bUX bUY hX1 hY1 lbc lbv gH
    go_wp2_with fail
    go_meet
    exact ⟨X, Y, mc, mv, rfl, rfl, HG⟩
 case rest =>
  obtain ⟨X, Y, mc, mv, rfl, rfl, HA⟩ := hcut
  obtain ⟨nc, nv, zX, zY, _, _, _, _, _, bV, hX1, hY1, lbc, lbv⟩ := HA.out
  obtain ⟨T0, T1, T2, T3, T4, T5, T6, T7⟩ := HT2.out
  have F : DnF w W2.heap.size wc.heap.size (.slice b0 k0 c0) (.slice b1 k1 c1) (.slice b2 k2 c2) (.slice b3 k3 c3) (.slice b4 k4 c4) (.slice b5 k5 c5) X Y mc mv := ⟨HF.out, T6, T7, h4W, ⟨hX1, zX.1⟩, ⟨hY1, zY.1⟩, ⟨lbc, nc.lt⟩, ⟨lbv, nv.lt⟩⟩
  have bV0 : Below w.heap.size w wc := on2 HB2.out bV
  have I0 : DnI m w (.slice b0 k0 c0) (.slice b1 k1 c1) (.slice b2 k2 c2) (.slice b3 k3 c3) (.slice b4 k4 c4) (.slice b5 k5 c5) x X Y mc mv fd (sVs x, sCs x) wc := ⟨⟨(T2.from RVolume.firm (Below.refl _ _) (fun b hb => hb.1)).on RVolume.firm bV, (T3.from RClaim.firm (Below.refl _ _) (fun b hb => hb.1)).on RClaim.firm bV, fun b hb => (T6 b hb).2.2.1, hm⟩, ⟨(T0.from RPod.firm (Below.refl _ _) (fun b hb => hb.1)).on RPod.firm bV, (T1.from RNode.firm (Below.refl _ _) (fun b hb => hb.1)).on RNode.firm bV, (T4.from RClass.firm (Below.refl _ _) (fun b hb => hb.1)).on RClass.firm bV, (T5.from RBudget.firm (Below.refl _ _) (fun b hb => hb.1)).on RBudget.firm bV⟩, ⟨nc, nv⟩, ⟨zX, zY⟩, ⟨HQ2.out.1.on bV, HQ2.out.2.1.on bV⟩, bV0⟩
  have J0 : DnB w wc := ⟨HQ2.out.2.2.1.on bV, HQ2.out.2.2.2.on bV⟩
  have HI0 : Hid (DnI m w (.slice b0 k0 c0) (.slice b1 k1 c1) (.slice b2 k2 c2) (.slice b3 k3 c3) (.slice b4 k4 c4) (.slice b5 k5 c5) x X Y mc mv fd (sVs x, sCs x) wc /\ DnB w wc) := ⟨I0, J0⟩
  have HFF : Hid (DnF w W2.heap.size wc.heap.size (.slice b0 k0 c0) (.slice b1 k1 c1) (.slice b2 k2 c2) (.slice b3 k3 c3) (.slice b4 k4 c4) (.slice b5 k5 c5) X Y mc mv) := F
  have hsq := hseq.out wc bV0
  have hwl : w.heap.size <= wc.heap.size := bV0.size
  have hbx : w.heap.size + 4 < wc.heap.size := by have := zX.1; omega
  have hyl : Hid ((sVs x).length * 72 <= 140737488351232 /\ (sCs x).length * 56 <= 140737488351232) := ⟨y2, y3⟩
  have hsl : W2.heap.size <= wc.heap.size := bV.size
  clear I0 J0 F T0 T1 T2 T3 T4 T5 T6 T7 nc nv zX zY bV bV0 hX1 hY1 lbc lbv HA HF h4W HT2 HQ2 HB2 hseq hSv hSc HL y2 y3 B1 hz1 hlt1
  go_wp2_with fail
  refine (wpIn_wide (n := 9)).1 ?_
  refine wpIn_rangeFunc_ownH rfl (by decide) (gf := gf) (lb := lb) rfl trivial hen hsq belowK_t (belowK_b hwl) (Below.refl _ _) (fun _ => rfl)
   (fun pre W => ∃ st, runD (stepD ok tc tv) (sVs x, sCs x) (pre.map (fun y => y.2.1)) = .ok st /\ DnI m w (.slice b0 k0 c0) (.slice b1 k1 c1) (.slice b2 k2 c2) (.slice b3 k3 c3) (.slice b4 k4 c4) (.slice b5 k5 c5) x X Y mc mv fd st W /\ DnB w W /\ wc.heap.size <= W.heap.size)
   (fun c pre W => c = .ret /\ ∃ k, runD (stepD ok tc tv) (sVs x, sCs x) (pre.map (fun y => y.2.1)) = .error k /\ (k = 2 \/ k = 5) /\ BoxL W (w.heap.size + 1 + 1) Z6 /\ BoxL W (w.heap.size + 1 + 1 + 1) [.int .i64 k] /\ Below w.heap.size w W)
   ?own ?ownx ⟨_, rfl, HI0.out.1, HI0.out.2, Nat.le_refl _⟩
   (fun y a' W => ∃ D, wc.heap.size <= D /\ BoxL W D [.string y.2.1.1, .string y.2.1.2] /\ a' = { tmps := List.toArray ((.agg #[.slice a0 n0 m0, .slice a1 n1 m1, .slice a2 n2 m2, .slice a3 n3 m3, .slice a4 n4 m4, .slice a5 n5 m5] : Value) :: .func (.func gf) #[] lb :: .func (.func fd) #[] #[] :: .pointer (some ⟨w.heap.size, 0, none⟩) :: undef :: .pointer (some ⟨w.heap.size + 1, 0, none⟩) :: .pointer (some ⟨w.heap.size + 1 + 1, 0, none⟩) :: .pointer (some ⟨w.heap.size + 1 + 1 + 1, 0, none⟩) :: .pointer (some ⟨X, 0, none⟩) :: .pointer (some ⟨Y, 0, none⟩) :: undef :: .pointer (some ⟨D, 0, none⟩) :: undef :: undef :: u14 :: u15 :: u16 :: u17 :: u18 :: u19 :: u20 :: u21 :: .func (.func gf) #[] lb :: .int .i64 y.1 :: .agg #[.string y.2.1.1, .string y.2.1.2] :: u25 :: u26 :: u27 :: u28 :: u29 :: u30 :: u31 :: u32 :: u33 :: u34 :: u35 :: u36 :: u37 :: u38 :: u39 :: u40 :: u41 :: u42 :: u43 :: u44 :: u45 :: u46 :: []), defers := [] })
   ?ax ?assign ?body ?done ?stop
  case own =>
   rintro pre W W' row ⟨st, h1, h2, h3, h5⟩ hg hr
   have hk : Kept (fun b => b < wc.heap.size) W W' := Kept.grown hg (fun k e hk => by have := (hr k e).1; omega)
   exact ⟨st, h1, h2.kept HFF.out (h2.2.2.2.2.2.grown hg h2.2.2.2.2.2.size (fun k e => by have := (hr k e).1; omega)) hk, h3.kept HFF.out hk, Nat.le_trans h5 hk.1⟩
  case ownx =>
   rintro c pre W W' row ⟨hc, k, h1, h2, z1, z2, hb⟩ hg hr
   have hk : Kept (fun b => b < wc.heap.size) W W' := Kept.grown hg (fun k e hk => by have := (hr k e).1; omega)
   exact ⟨hc, k, h1, h2, z1.kept hk (by omega), z2.kept hk (by omega), hb.grown hg hb.size (fun k e => by have := (hr k e).1; omega)⟩
  case ax =>
   rintro y a' u W W' row ⟨D, h1, h2, h3⟩ hg hr
   refine ⟨D, h1, h2.kept (A := fun b => b = D) (Kept.grown hg (fun k e hk => ?_)) rfl, h3⟩
   obtain ⟨_, o, ho, hc⟩ := hr k e
   have hk : k = D := hk
   subst hk
   have := h2.cells ho
   rw [this] at hc
   cases hc
  case assign =>
   rintro l pre y W K ⟨st, h1, h2, h3, h5⟩ hK
   have hWs : w.heap.size <= W.heap.size := h2.2.2.2.2.2.size
   gi_wp2
   have bA : Below W.heap.size W (W.alloc (.cells #[.string y.2.1.1, .string y.2.1.2] 127)) := (Below.refl _ _).alloc (Nat.le_refl _) _
   exact hK _ _ (zAj bA) (bA.mono hWs) ⟨st, h1, h2.on HFF.out bA, h3.on bA, Nat.le_trans h5 bA.size⟩ ⟨W.heap.size, h5, BoxL.new W 127 _, rfl⟩
  case body =>
   rintro l pre ⟨yi, ⟨⟨s1, s2⟩, hs1, hs2⟩⟩ a' W hl hrec ⟨st, h1, h2, h3, h5⟩ ⟨D, hD, zD, rfl⟩ hlt
   simp only at zD hs1 hs2
   have hln := zGi h1
   simp only at hln
   have hWs : w.heap.size <= W.heap.size := h2.2.2.2.2.2.size
   have HS : Hid (∀ z, Below W.heap.size W z -> (z.cell? ⟨X, 0, none⟩ = some (.slice b3 k3 c3) /\ z.cell? ⟨X, 1, none⟩ = some (.map (some mc))) /\ (z.cell? ⟨Y, 0, none⟩ = some (.slice b2 k2 c2) /\ z.cell? ⟨Y, 1, none⟩ = some (.map (some mv))) /\ z.cell? ⟨D, 0, none⟩ = some (.string s1) /\ z.cell? ⟨D, 1, none⟩ = some (.string s2)) := fun z hz => ⟨⟨((h2.2.2.2.1.1.on hz).2 0 _ rfl).1, ((h2.2.2.2.1.1.on hz).2 1 _ rfl).1⟩, ⟨((h2.2.2.2.1.2.on hz).2 0 _ rfl).1, ((h2.2.2.2.1.2.on hz).2 1 _ rfl).1⟩, ((zD.on hz).2 0 _ rfl).1, ((zD.on hz).2 1 _ rfl).1⟩
   have HC : Hid (∀ z, Below W.heap.size W z -> Calls Tryz.prog 89 #[.agg #[.slice b3 k3 c3, .map (some mc)], .string s1] z fun e w' => e = .returned (.pointer (pAt 4 b3 (fI (st.2.map Prod.fst) s1))) /\ Below z.heap.size z w') := fun z hz => zBX b3 k3 c3 _ st.2 mc s1 z ((h2.1.2.1.slK RClaim.firm (by rw [hln.2]; exact hyl.out.2)).on RClaim.firm hz) (h2.2.2.1.1.on hz) hs1
   have HV : Hid (∀ z, Below W.heap.size W z -> Calls Tryz.prog 90 #[.agg #[.slice b2 k2 c2, .map (some mv)], .string s2] z fun e w' => e = .returned (.pointer (pAt 5 b2 (fI (st.1.map Prod.fst) s2))) /\ Below z.heap.size z w') := fun z hz => zB9 b2 k2 c2 _ st.1 mv s2 z ((h2.1.1.slK RVolume.firm (by rw [hln.1]; exact hyl.out.1)).on RVolume.firm hz) (h2.2.2.1.2.on hz) hs2
   obtain ⟨pc, hpc⟩ : ∃ p, pAt 4 b3 (fI (st.2.map Prod.fst) s1) = p := ⟨_, rfl⟩
   obtain ⟨pv, hpv⟩ : ∃ p, pAt 5 b2 (fI (st.1.map Prod.fst) s2) = p := ⟨_, rfl⟩
   rw [hpc] at HC
   rw [hpv] at HV
   have HPC : Hid (pAt 4 b3 (fI (st.2.map Prod.fst) s1) = pc /\ pAt 5 b2 (fI (st.1.map Prod.fst) s2) = pv) := ⟨hpc, hpv⟩
   have HN : Hid (runD (stepD ok tc tv) (sVs x, sCs x) ((pre ++ [(yi, (⟨(s1, s2), hs1, hs2⟩ : PickS))]).map (fun y => y.2.1)) = stepD ok tc tv st (s1, s2)) := by
    show _ = _
    rw [List.map_append, List.map_cons, List.map_nil, zFA, h1]
   have HX : Hid (∀ z k, Below W.heap.size W z -> (k = 2 \/ k = 5) -> stepD ok tc tv st (s1, s2) = .error k -> KeepsFrom wc.heap.size W ((z.setCells (w.heap.size + 1 + 1) 0 Z6).setCell ⟨w.heap.size + 1 + 1 + 1, 0, none⟩ (.int .i64 k)) /\ BoxL ((z.setCells (w.heap.size + 1 + 1) 0 Z6).setCell ⟨w.heap.size + 1 + 1 + 1, 0, none⟩ (.int .i64 k)) (w.heap.size + 1 + 1) Z6 /\ BoxL ((z.setCells (w.heap.size + 1 + 1) 0 Z6).setCell ⟨w.heap.size + 1 + 1 + 1, 0, none⟩ (.int .i64 k)) (w.heap.size + 1 + 1 + 1) [.int .i64 k] /\ Below w.heap.size w ((z.setCells (w.heap.size + 1 + 1) 0 Z6).setCell ⟨w.heap.size + 1 + 1 + 1, 0, none⟩ (.int .i64 k))) := by
    intro z k hz hk he
    have q1 := zA2 (h3.1.on hz) (cs := Z6) rfl
    have K1 : Kept (fun b => b ≠ w.heap.size + 1 + 1) z (z.setCells (w.heap.size + 1 + 1) 0 Z6) := zA1 (fun h => h rfl)
    have q2 := (h3.2.on hz).kept K1 (by omega)
    have K2 : Kept (fun b => b ≠ w.heap.size + 1 + 1 + 1) (z.setCells (w.heap.size + 1 + 1) 0 Z6) ((z.setCells (w.heap.size + 1 + 1) 0 Z6).setCell ⟨w.heap.size + 1 + 1 + 1, 0, none⟩ (.int .i64 k)) := Kept.set (p := ⟨w.heap.size + 1 + 1 + 1, 0, none⟩) (fun h => h rfl) _
    have q3 := q2.set 0 (.int .i64 k) (by simp)
    exact ⟨(zAj hz).trans (zBb ((K1.weak (fun b (hb : b ≠ w.heap.size + 1 + 1 /\ b ≠ w.heap.size + 1 + 1 + 1) => hb.1)).trans (K2.weak (fun b hb => hb.2))) (by omega) (by omega)), q1.kept K2 (by omega), q3, (zA0 (on2 h2.2.2.2.2.2 hz) (by omega)).setCell (by simp; omega) _⟩
   have HR : Hid (∀ z, Below W.heap.size W z -> BoxL z (w.heap.size + 1 + 1) Z6 /\ BoxL z (w.heap.size + 1 + 1 + 1) [.int .i64 0] /\ z.cell? ⟨w.heap.size + 1, 0, none⟩ = some (.func (.func fd) #[] #[])) := fun z hz => ⟨h3.1.on hz, h3.2.on hz, ((h2.2.2.2.2.1.2.on hz).2 0 _ rfl).1⟩
   have HI : Hid (DnI m w (.slice b0 k0 c0) (.slice b1 k1 c1) (.slice b2 k2 c2) (.slice b3 k3 c3) (.slice b4 k4 c4) (.slice b5 k5 c5) x X Y mc mv fd st W /\ DnB w W) := ⟨h2, h3⟩
   clear h2 h3 zD hpc hpv hsq HI0 hln
   dsimp only
   refine wpIn_block ?_
   refine wpIn_seq_k (fun K1 hK1 => ?_)
   refine t0R (fun z => Below W.heap.size W z) ?lets (Below.refl _ _).drew (fun gH => ?_)
   case lets => rintro ⟨a, w, h⟩; exact h
   have hb0 : Below W.heap.size W W.drew := (Below.refl _ _).drew
   generalize hwd : W.drew = wd at gH hb0 |-
   clear hwd
   try go_frame
   refine' tk 0 ?_ ?_; rotate_left
   ·intro u hu; obtain ⟨⟨f0, f1⟩, ⟨f2, f3⟩, f4, f5⟩ := HS.out u hu; clear hu; go_simp; try with_reducible rfl
   try go_frame
   refine' tk 1 ?_ ?_; rotate_left
   ·intro u hu; obtain ⟨⟨f0, f1⟩, ⟨f2, f3⟩, f4, f5⟩ := HS.out u hu; clear hu; go_simp; try with_reducible rfl
   try go_frame
   refine' tk 2 ?_ ?_; rotate_left
   ·intro u hu; obtain ⟨⟨f0, f1⟩, ⟨f2, f3⟩, f4, f5⟩ := HS.out u hu; clear hu; go_simp; try with_reducible rfl
   try go_frame
   refine' tk 4 ?_ ?_; rotate_left
   ·intro u hu; obtain ⟨⟨f0, f1⟩, ⟨f2, f3⟩, f4, f5⟩ := HS.out u hu; clear hu; go_simp; try with_reducible rfl
   try go_frame
   refine' tk 5 ?_ ?_; rotate_left
   ·intro u hu; obtain ⟨⟨f0, f1⟩, ⟨f2, f3⟩, f4, f5⟩ := HS.out u hu; clear hu; go_simp; try with_reducible rfl
   try go_frame
   refine' tk 6 ?_ ?_; rotate_left
   ·intro u hu; obtain ⟨⟨f0, f1⟩, ⟨f2, f3⟩, f4, f5⟩ := HS.out u hu; clear hu; go_simp; try with_reducible rfl
   try go_frame
   refine tr 3 (fun K hK => ?_)
   have hC1 := HC.out wd hb0
   go_simp
   refine hC1.mono ?_
   rintro e z1 ⟨rfl, d1⟩
   clear hC1
   have hb1 : Below W.heap.size W z1 := on2 hb0 d1
   go_wp2_with fail
   refine hK.out _ _ hb1 (fun gI => ?_)
   clear hK K gH; have gH := gI; clear gI
   try go_frame
   refine tr 7 (fun K hK => ?_)
   have hC2 := HV.out z1 hb1
   go_simp
   refine hC2.mono ?_
   rintro e z2 ⟨rfl, d2⟩
   clear hC2
   have hb2 : Below W.heap.size W z2 := on2 hb1 d2
   go_wp2_with fail
   refine hK.out _ _ hb2 (fun gI => ?_)
   clear hK K gH; have gH := gI; clear gI
   try go_frame
   refine' tk 8 ?_ ?_; rotate_left
   ·intro u hu; go_simp; try with_reducible rfl
   try go_frame
   refine' tk 9 ?_ ?_; rotate_left
   ·intro u hu; go_simp; try with_reducible rfl
   try go_frame
   refine tz ?_
   refine hK1 _ _ ?_
   clear hK1 K1 gH HS HC HV d1 d2 hb0 hb1
   cases hfc : fI (st.2.map Prod.fst) s1 with
   | none =>
    have hp : pc = none := by rw [<- HPC.out.1, hfc]; cases b3 <;> rfl
    have he := zGp (ok := ok) (tc := tc) (tv := tv) (st := st) (pk := (s1, s2)) (.inl hfc)
    subst hp
    clear hfc HPC HI hdo hts
    have hx := HX.out z2 5 hb2 (.inr rfl) he
    have HXE : Hid (KeepsFrom wc.heap.size W ((z2.setCells (w.heap.size + 1 + 1) 0 Z6).setCell ⟨w.heap.size + 1 + 1 + 1, 0, none⟩ (.int .i64 5)) /\ _) := ⟨hx.1, hx.2⟩
    obtain ⟨bz, bn, cf⟩ := HR.out z2 hb2
    have e0 := bz.2 0 _ rfl
    have e1 := bz.2 1 _ rfl
    have e2 := bz.2 2 _ rfl
    have e3 := bz.2 3 _ rfl
    have e4 := bz.2 4 _ rfl
    have e5 := bz.2 5 _ rfl
    have e6 := bn.2 0 _ rfl
    have l1 := bz.1
    have l2 := bn.1
    clear bz bn hx HX HR
    gi_wp2
    exact ⟨HXE.out.1, rfl, 5, by rw [HN.out]; exact he, (.inr rfl), HXE.out.2.1, HXE.out.2.2.1, HXE.out.2.2.2⟩
   | some c =>
    have hc := (zAD hfc).1
    rw [List.length_map] at hc
    cases hfv : fI (st.1.map Prod.fst) s2 with
    | none =>
     obtain ⟨g, cc, cs, eg, _⟩ := HI.out.1.1.2.1.get11 RClaim.firm hc
     simp only [Value.slice.injEq] at eg
     have hp : pc = some ⟨g, c * 4, none⟩ := by rw [<- HPC.out.1, hfc, eg.1]; simp [pAt]
     have hq : pv = none := by rw [<- HPC.out.2, hfv]; cases b2 <;> rfl
     have he := zGp (ok := ok) (tc := tc) (tv := tv) (st := st) (pk := (s1, s2)) (.inr hfv)
     subst hp
     subst hq
     clear hfc hfv HPC HI hdo hts eg hc
     have hx := HX.out z2 5 hb2 (.inr rfl) he
     have HXE : Hid (KeepsFrom wc.heap.size W ((z2.setCells (w.heap.size + 1 + 1) 0 Z6).setCell ⟨w.heap.size + 1 + 1 + 1, 0, none⟩ (.int .i64 5)) /\ _) := ⟨hx.1, hx.2⟩
     obtain ⟨bz, bn, cf⟩ := HR.out z2 hb2
     have e0 := bz.2 0 _ rfl
     have e1 := bz.2 1 _ rfl
     have e2 := bz.2 2 _ rfl
     have e3 := bz.2 3 _ rfl
     have e4 := bz.2 4 _ rfl
     have e5 := bz.2 5 _ rfl
     have e6 := bn.2 0 _ rfl
     have l1 := bz.1
     have l2 := bn.1
     clear bz bn hx HX HR
     gi_wp2
     exact ⟨HXE.out.1, rfl, 5, by rw [HN.out]; exact he, (.inr rfl), HXE.out.2.1, HXE.out.2.2.1, HXE.out.2.2.2⟩
    | some v =>
     have hv := (zAD hfv).1
     rw [List.length_map] at hv
     have hI2 := HI.out.1.on HFF.out hb2
     have hB2 : Below w.heap.size w z2 := hI2.2.2.2.2.2
     obtain ⟨Bc, capc, Bv, capv, cs, vs, A, A', g3e, g2e, q1, q2, q3, q4, q5, q6, q7, q8, q9, q10, q11, q12, q13, hS⟩ := hI2.step HFF.out hc hv
     simp only [Value.slice.injEq] at g3e g2e
     have hp : pc = some ⟨Bc, c * 4, none⟩ := by rw [<- HPC.out.1, hfc, g3e.1]; simp [pAt]
     have hq : pv = some ⟨Bv, v * 5, none⟩ := by rw [<- HPC.out.2, hfv, g2e.1]; simp [pAt]
     have hCall := hdo.out Bc (c * 4) Bv (v * 5) cs A _ vs A' _ z2 q1 q2 q3 q4 q5 q6 q7 q8 q9
     have hsz := hts.out _ _ q1.head10.2 q2.head10.2
     have HE : Hid (∀ z, Below z2.heap.size z2 z -> ok (st.2.getD c default) (st.1.getD v default) = false -> stepD ok tc tv st (s1, s2) = .error 2) := fun _ _ h => stepD_not hfc hfv h
     have HY : Hid (∀ z u, Below z2.heap.size z2 z -> ok (st.2.getD c default) (st.1.getD v default) = true -> u = (z.setCell ⟨Bc, c * 4 + 3, none⟩ (.string (tc (st.2.getD c default) (st.1.getD v default)))).setCell ⟨Bv, v * 5 + 4, none⟩ (.string (tv (st.2.getD c default) (st.1.getD v default))) -> KeepsFrom wc.heap.size W u /\ Below w.heap.size W u /\ ∃ st', stepD ok tc tv st (s1, s2) = .ok st' /\ DnI m w (.slice b0 k0 c0) (.slice b1 k1 c1) (.slice b2 k2 c2) (.slice b3 k3 c3) (.slice b4 k4 c4) (.slice b5 k5 c5) x X Y mc mv fd st' u /\ DnB w u /\ wc.heap.size <= u.heap.size) := by
      intro z u hz hok hu
      obtain ⟨t1, t2⟩ := hS z _ _ hz hsz.1 hsz.2
      rw [<- hu] at t1 t2
      have hWz := on2 hb2 hz
      refine ⟨(zAj hWz).trans (zBb t2 q11 q13), ?_, _, stepD_yes hfc hfv hok, t1, ⟨(HI.out.2.1.on hWz).kept t2 ⟨by omega, by omega⟩, (HI.out.2.2.on hWz).kept t2 ⟨by omega, by omega⟩⟩, Nat.le_trans h5 (Nat.le_trans hWz.size t2.1)⟩
      rw [hu]
      exact ((hWz.mono hWs).setCell (by simp; omega) _).setCell (by simp; omega) _
     subst hp
     subst hq
     obtain ⟨_, _, cf⟩ := HR.out z2 hb2
     have HBZ : Hid (Below W.heap.size W z2) := hb2
     clear hfc hfv HPC HI hdo hts g3e g2e hc hv hS q1 q2 q3 q4 q7 q8 q9 hI2 hB2 hsz q10 q11 q12 q13 hb2
     gi_wp2_with fail
     refine ⟨trivial, (zD0 hCall).mono ?_⟩
     rintro e z3 ⟨z4, hz4, hz⟩
     have hb4 : Below W.heap.size W z4 := on2 HBZ.out hz4
     rcases hz with ⟨hok, rfl, rfl⟩ | ⟨hok, rfl, hu⟩
     ·have he := HE.out _ hz4 hok
      clear HE HY hz4 hok hCall cf q5 q6
      have hx := HX.out z3 2 hb4 (.inl rfl) he
      have HXE : Hid (KeepsFrom wc.heap.size W ((z3.setCells (w.heap.size + 1 + 1) 0 Z6).setCell ⟨w.heap.size + 1 + 1 + 1, 0, none⟩ (.int .i64 2)) /\ _) := ⟨hx.1, hx.2⟩
      obtain ⟨bz, bn, cf⟩ := HR.out z3 hb4
      have e0 := bz.2 0 _ rfl
      have e1 := bz.2 1 _ rfl
      have e2 := bz.2 2 _ rfl
      have e3 := bz.2 3 _ rfl
      have e4 := bz.2 4 _ rfl
      have e5 := bz.2 5 _ rfl
      have e6 := bn.2 0 _ rfl
      have l1 := bz.1
      have l2 := bn.1
      clear bz bn hx HX HR
      gi_wp2
      exact ⟨HXE.out.1, rfl, 2, by rw [HN.out]; exact he, (.inl rfl), HXE.out.2.1, HXE.out.2.2.1, HXE.out.2.2.2⟩
     ·have hy := HY.out z4 z3 hz4 hok hu
      clear HE HX HR hok hCall cf hu hz4 hb4 q5 q6
      have HYE : Hid (KeepsFrom wc.heap.size W z3 /\ _) := ⟨hy.1, hy.2⟩
      clear hy HY
      gi_wp2
      obtain ⟨r1, r2, st', r3, r4, r5, r6⟩ := HYE.out
      exact ⟨r1, r2, st', by rw [HN.out]; exact r3, r4, r5, r6⟩
  case stop =>
   rintro D c pre W hD hSp ⟨rfl, k, h1, h2, z1, z2, hb⟩ hDf
   have KP : Kept (fun b => b ≠ D) W (W.putObj D (.deferred none)) := Kept.grown (grownBy_putObj' W D _) (fun k e hk => hk (by cases e; rfl))
   have y1 := z1.kept KP (by omega)
   have y2 := z2.kept KP (by omega)
   have e0 := (y1.2 0 _ rfl).1
   have e1 := (y1.2 1 _ rfl).1
   have e2 := (y1.2 2 _ rfl).1
   have e3 := (y1.2 3 _ rfl).1
   have e4 := (y1.2 4 _ rfl).1
   have e5 := (y1.2 5 _ rfl).1
   have e6 := (y2.2 0 _ rfl).1
   have HB9 : Hid (Below w.heap.size w (W.putObj D (.deferred none))) := hb.trans (belowK_b (w := wc) hwl W D _ _ hD hDf rfl rfl)
   have HDf : Hid ((Instr.takeDeferred D).run Tryz.prog W = .ok [] (W.putObj D (.deferred none))) := run_takeDeferred hDf
   clear KP z1 z2 hb hDf
   generalize W.putObj D (.deferred none) = WP at y1 y2 e0 e1 e2 e3 e4 e5 e6 HB9 HDf
   clear y1 y2
   gi_wp2
   refine ⟨by simp, .inl ⟨D, WP, rfl, HDf.out, ?_⟩⟩
   refine ⟨.tuple #[.agg Z6.toArray, .int .i64 k], by simp [results, Tryz.results69, go_sem, e0, e1, e2, e3, e4, e5, e6], ?_⟩
   exact .inr ⟨pre, k, hSp, h1, rfl, h2, HB9.out⟩
  case done =>
   rintro D ys W hD hSy ⟨st, h1, h2, h3, h5⟩ hDf
   have a0' := (h2.2.2.2.2.1.1.2 0 _ rfl).1
   have a1' := (h2.2.2.2.2.1.1.2 1 _ rfl).1
   have a2' := (h2.2.2.2.2.1.1.2 2 _ rfl).1
   have a3' := (h2.2.2.2.2.1.1.2 3 _ rfl).1
   have a4' := (h2.2.2.2.2.1.1.2 4 _ rfl).1
   have a5' := (h2.2.2.2.2.1.1.2 5 _ rfl).1
   have t0' := h3.1.2 0 _ rfl
   have t1' := h3.1.2 1 _ rfl
   have t2' := h3.1.2 2 _ rfl
   have t3' := h3.1.2 3 _ rfl
   have t4' := h3.1.2 4 _ rfl
   have t5' := h3.1.2 5 _ rfl
   have t6' := h3.2.2 0 _ rfl
   have l0 := h2.2.2.2.2.1.1.1
   have l1 := h3.1.1
   have l2 := h3.2.1
   have HI9 : Hid (DnI m w (.slice b0 k0 c0) (.slice b1 k1 c1) (.slice b2 k2 c2) (.slice b3 k3 c3) (.slice b4 k4 c4) (.slice b5 k5 c5) x X Y mc mv fd st W /\ DnB w W) := ⟨h2, h3⟩
   have HDf : Hid (W.heap[D]? = some (.deferred (some []))) := hDf
   clear h2 h3 hDf hsq HI0
   go_wp2_with fail
   obtain ⟨W5, hW5⟩ : ∃ W5, W5 = (W.setCells (w.heap.size + 1 + 1) 0 [.slice b0 k0 c0, .slice b1 k1 c1, .slice b2 k2 c2, .slice b3 k3 c3, .slice b4 k4 c4, .slice b5 k5 c5]).setCell ⟨w.heap.size + 1 + 1 + 1, 0, none⟩ (.int .i64 0) := ⟨_, rfl⟩
   have eW : ((((((W.setCell ⟨w.heap.size + 1 + 1, 0, none⟩ (.slice b0 k0 c0)).setCell ⟨w.heap.size + 1 + 1, 1, none⟩ (.slice b1 k1 c1)).setCell ⟨w.heap.size + 1 + 1, 2, none⟩ (.slice b2 k2 c2)).setCell ⟨w.heap.size + 1 + 1, 3, none⟩ (.slice b3 k3 c3)).setCell ⟨w.heap.size + 1 + 1, 4, none⟩ (.slice b4 k4 c4)).setCell ⟨w.heap.size + 1 + 1, 5, none⟩ (.slice b5 k5 c5)).setCell ⟨w.heap.size + 1 + 1 + 1, 0, none⟩ (.int .i64 0) = W5 := hW5.symm
   rw [eW]
   clear eW a0' a1' a2' a3' a4' a5' t0' t1' t2' t3' t4' t5' t6' l0 l1 l2
   have q1 := zA2 HI9.out.2.1 (cs := [.slice b0 k0 c0, .slice b1 k1 c1, .slice b2 k2 c2, .slice b3 k3 c3, .slice b4 k4 c4, .slice b5 k5 c5]) rfl
   have K1 : Kept (fun b => b ≠ w.heap.size + 1 + 1) W (W.setCells (w.heap.size + 1 + 1) 0 [.slice b0 k0 c0, .slice b1 k1 c1, .slice b2 k2 c2, .slice b3 k3 c3, .slice b4 k4 c4, .slice b5 k5 c5]) := zA1 (fun h => h rfl)
   have q2 := HI9.out.2.2.kept K1 (by omega)
   have K2 : Kept (fun b => b ≠ w.heap.size + 1 + 1 + 1) (W.setCells (w.heap.size + 1 + 1) 0 [.slice b0 k0 c0, .slice b1 k1 c1, .slice b2 k2 c2, .slice b3 k3 c3, .slice b4 k4 c4, .slice b5 k5 c5]) ((W.setCells (w.heap.size + 1 + 1) 0 [.slice b0 k0 c0, .slice b1 k1 c1, .slice b2 k2 c2, .slice b3 k3 c3, .slice b4 k4 c4, .slice b5 k5 c5]).setCell ⟨w.heap.size + 1 + 1 + 1, 0, none⟩ (.int .i64 0)) := Kept.set (p := ⟨w.heap.size + 1 + 1 + 1, 0, none⟩) (fun h => h rfl) _
   have q3 := q2.set 0 (.int .i64 0) (by simp)
   have q1' := q1.kept K2 (by omega)
   have KW : Kept (fun b => b ≠ w.heap.size + 1 + 1 /\ b ≠ w.heap.size + 1 + 1 + 1) W W5 := by rw [hW5]; exact (K1.weak (fun b hb => hb.1)).trans (K2.weak (fun b hb => hb.2))
   have bW5 : Below w.heap.size w W5 := by rw [hW5]; exact (zA0 HI9.out.1.2.2.2.2.2 (by omega)).setCell (by simp; omega) _
   rw [<- hW5] at q1' q3
   have hDf5 : W5.heap[D]? = some (.deferred (some [])) := (KW.2 D ⟨by omega, by omega⟩ (Array.getElem?_eq_some_iff.1 HDf.out).1).trans HDf.out
   have KP : Kept (fun b => b ≠ D) W5 (W5.putObj D (.deferred none)) := Kept.grown (grownBy_putObj' W5 D _) (fun k e hk => hk (by cases e; rfl))
   have y1 := q1'.kept KP (by omega)
   have y2 := q3.kept KP (by omega)
   have HB9 : Below w.heap.size w (W5.putObj D (.deferred none)) := bW5.trans (belowK_b (w := wc) hwl W5 D _ _ hD hDf5 rfl rfl)
   have KA : Kept (fun b => (b ≠ w.heap.size + 1 + 1 /\ b ≠ w.heap.size + 1 + 1 + 1) /\ b < wc.heap.size) W (W5.putObj D (.deferred none)) := (KW.weak (fun b hb => hb.1)).trans (KP.weak (fun b hb e => by omega))
   have HTK : Hid ((Instr.takeDeferred D).run Tryz.prog W5 = .ok [] (W5.putObj D (.deferred none))) := run_takeDeferred hDf5
   have HSE : DnS m w (W5.putObj D (.deferred none)) (.slice b0 k0 c0) (.slice b1 k1 c1) (.slice b2 k2 c2) (.slice b3 k3 c3) (.slice b4 k4 c4) (.slice b5 k5 c5) x st := HI9.out.1.toS HFF.out HB9 KA
   generalize W5.putObj D (.deferred none) = WP at y1 y2 HB9 HTK HSE
   have e0 := (y1.2 0 _ rfl).1
   have e1 := (y1.2 1 _ rfl).1
   have e2 := (y1.2 2 _ rfl).1
   have e3 := (y1.2 3 _ rfl).1
   have e4 := (y1.2 4 _ rfl).1
   have e5 := (y1.2 5 _ rfl).1
   have e6 := (y2.2 0 _ rfl).1
   refine ⟨by simp, .inl ⟨D, WP, rfl, HTK.out, ?_⟩⟩
   refine ⟨.tuple #[.agg #[.slice b0 k0 c0, .slice b1 k1 c1, .slice b2 k2 c2, .slice b3 k3 c3, .slice b4 k4 c4, .slice b5 k5 c5], .int .i64 0], by simp [results, Tryz.results69, go_sem, e0, e1, e2, e3, e4, e5, e6], ?_⟩
   exact .inl ⟨ys, st, _, _, _, _, _, _, hSy, h1, rfl, HSE⟩
end Go.Proofs.YtnffafjamiffnaaGreat
