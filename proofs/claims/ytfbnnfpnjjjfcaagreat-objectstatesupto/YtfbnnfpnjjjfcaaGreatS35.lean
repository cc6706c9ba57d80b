/- Objects made of one member, and their cells, and its like. No condition beyond what each says. -/
import Derived.Laws.Cover1
import Derived.Great.BuildSlice
import Derived.Test.YtfbnnfpnjjjfcaaGreatS34
namespace Go.Proofs.YtfbnnfpnjjjfcaaGreat
set_option maxHeartbeats 16000000
set_option maxRecDepth 100000
open Tryz Go.RowKit
set_option linter.unusedSimpArgs false
def dPod : PodD := (⟨#[]⟩, 0, [], (0, 0, 0), [], [], [], [], [], [], [], [], ⟨#[]⟩, ⟨#[]⟩)
def dNode : NodeD := (⟨#[]⟩, [], [], false, (0, 0, 0), 0, 0)
def dVolume : VolumeD := (⟨#[]⟩, 0, ⟨#[]⟩, [], ⟨#[]⟩)
def dClaim : ClaimD := (⟨#[]⟩, 0, ⟨#[]⟩, ⟨#[]⟩)
def dClass : ClassD := (⟨#[]⟩, false)
def dBudget : BudgetD := (⟨#[]⟩, [], 0)
theorem zPod_rep (A : Where) (w : World) : RPod A w zPod dPod := RPod.mk (x := dPod) (h2 := (none, 0, 0)) (h6 := (none, 0, 0)) (h7 := (none, 0, 0)) (h8 := (none, 0, 0)) (h9 := (none, 0, 0)) (h10 := (none, 0, 0)) (h11 := (none, 0, 0)) (h12 := (none, 0, 0)) (h13 := (none, 0, 0)) (Nat.zero_le _) (SlAt.nil _ _ none 0 (fun _ => rfl)) (SlAt.nil _ _ none 0 (fun _ => rfl)) (SlAt.nil _ _ none 0 (fun _ => rfl)) (SlAt.nil _ _ none 0 (fun _ => rfl)) (SlAt.nil _ _ none 0 (fun _ => rfl)) (SlAt.nil _ _ none 0 (fun _ => rfl)) (SlAt.nil _ _ none 0 (fun _ => rfl)) (SlAt.nil _ _ none 0 (fun _ => rfl)) (SlAt.nil _ _ none 0 (fun _ => rfl)) (Nat.zero_le _) (Nat.zero_le _)
theorem zClaim_rep (A : Where) (w : World) : RClaim A w zClaim dClaim := RClaim.mk (x := dClaim) (Nat.zero_le _) (Nat.zero_le _) (Nat.zero_le _)
theorem zClass_rep (A : Where) (w : World) : RClass A w zClass dClass := RClass.mk (x := dClass) (Nat.zero_le _)
def oPod (y : PodD) : ObjectD := (1, y, dNode, dVolume, dClaim, dClass, dBudget)
def cPod (p : List Value) : List Value := [Value.int .i64 1] ++ (p ++ (zNode ++ (zVolume ++ (zClaim ++ (zClass ++ (zBudget))))))
theorem oPod_rep {A : Where} {w : World} {p : List Value} {y : PodD} (h : RPod A w p y) : RObject A w (cPod p) (oPod y) := obj_mk (x := oPod y) h (zNode_rep A w) (zVolume_rep A w) (zClaim_rep A w) (zClass_rep A w) (zBudget_rep A w)
theorem bPod_run {A : Where} {w : World} {p : List Value} {y : PodD} (h : RPod A w p y) (u : World) : (Instr.build 46 #[(0, .int .i64 1), (1, .agg p.toArray)]).run prog u = .ok (.agg (cPod p).toArray) u := by
 obtain ⟨_, _, _, _, _, _, _, _, _, rfl, _⟩ := h.out
 exact run_build u _ _ _ (by kernel_rfl)
theorem foPod {A : Where} {w : World} {p : List Value} {y : PodD} (h : RPod A w p y) : Instr.fill (fun i => some (i * 40, 40)) ((Array.range (1 * 40)).map ((Value.agg (zC 0).toArray).cells[· % (Value.agg (zC 0).toArray).cells.size]!)) [(0, .agg (cPod p).toArray)] = some (cPod p).toArray := by
 obtain ⟨_, _, _, _, _, _, _, _, _, rfl, _⟩ := h.out
 kernel_rfl
def oNode (y : NodeD) : ObjectD := (2, dPod, y, dVolume, dClaim, dClass, dBudget)
def cNode (n : List Value) : List Value := [Value.int .i64 2] ++ (zPod ++ (n ++ (zVolume ++ (zClaim ++ (zClass ++ (zBudget))))))
theorem oNode_rep {A : Where} {w : World} {n : List Value} {y : NodeD} (h : RNode A w n y) : RObject A w (cNode n) (oNode y) := obj_mk (x := oNode y) (zPod_rep A w) h (zVolume_rep A w) (zClaim_rep A w) (zClass_rep A w) (zBudget_rep A w)
theorem bNode_run {A : Where} {w : World} {n : List Value} {y : NodeD} (h : RNode A w n y) (u : World) : (Instr.build 46 #[(0, .int .i64 2), (2, .agg n.toArray)]).run prog u = .ok (.agg (cNode n).toArray) u := by
 obtain ⟨_, _, rfl, _⟩ := h.out
 exact run_build u _ _ _ (by kernel_rfl)
theorem foNode {A : Where} {w : World} {n : List Value} {y : NodeD} (h : RNode A w n y) : Instr.fill (fun i => some (i * 40, 40)) ((Array.range (1 * 40)).map ((Value.agg (zC 0).toArray).cells[· % (Value.agg (zC 0).toArray).cells.size]!)) [(0, .agg (cNode n).toArray)] = some (cNode n).toArray := by
 obtain ⟨_, _, rfl, _⟩ := h.out
 kernel_rfl
def oVolume (y : VolumeD) : ObjectD := (3, dPod, dNode, y, dClaim, dClass, dBudget)
def cVolume (v : List Value) : List Value := [Value.int .i64 3] ++ (zPod ++ (zNode ++ (v ++ (zClaim ++ (zClass ++ (zBudget))))))
theorem oVolume_rep {A : Where} {w : World} {v : List Value} {y : VolumeD} (h : RVolume A w v y) : RObject A w (cVolume v) (oVolume y) := obj_mk (x := oVolume y) (zPod_rep A w) (zNode_rep A w) h (zClaim_rep A w) (zClass_rep A w) (zBudget_rep A w)
theorem bVolume_run {A : Where} {w : World} {v : List Value} {y : VolumeD} (h : RVolume A w v y) (u : World) : (Instr.build 46 #[(0, .int .i64 3), (3, .agg v.toArray)]).run prog u = .ok (.agg (cVolume v).toArray) u := by
 obtain ⟨_, rfl, _⟩ := h.out
 exact run_build u _ _ _ (by kernel_rfl)
theorem foVolume {A : Where} {w : World} {v : List Value} {y : VolumeD} (h : RVolume A w v y) : Instr.fill (fun i => some (i * 40, 40)) ((Array.range (1 * 40)).map ((Value.agg (zC 0).toArray).cells[· % (Value.agg (zC 0).toArray).cells.size]!)) [(0, .agg (cVolume v).toArray)] = some (cVolume v).toArray := by
 obtain ⟨_, rfl, _⟩ := h.out
 kernel_rfl
def oClaim (y : ClaimD) : ObjectD := (4, dPod, dNode, dVolume, y, dClass, dBudget)
def cClaim (m : List Value) : List Value := [Value.int .i64 4] ++ (zPod ++ (zNode ++ (zVolume ++ (m ++ (zClass ++ (zBudget))))))
theorem oClaim_rep {A : Where} {w : World} {m : List Value} {y : ClaimD} (h : RClaim A w m y) : RObject A w (cClaim m) (oClaim y) := obj_mk (x := oClaim y) (zPod_rep A w) (zNode_rep A w) (zVolume_rep A w) h (zClass_rep A w) (zBudget_rep A w)
theorem bClaim_run {A : Where} {w : World} {m : List Value} {y : ClaimD} (h : RClaim A w m y) (u : World) : (Instr.build 46 #[(0, .int .i64 4), (4, .agg m.toArray)]).run prog u = .ok (.agg (cClaim m).toArray) u := by
 obtain ⟨rfl, _⟩ := h.out
 exact run_build u _ _ _ (by kernel_rfl)
theorem foClaim {A : Where} {w : World} {m : List Value} {y : ClaimD} (h : RClaim A w m y) : Instr.fill (fun i => some (i * 40, 40)) ((Array.range (1 * 40)).map ((Value.agg (zC 0).toArray).cells[· % (Value.agg (zC 0).toArray).cells.size]!)) [(0, .agg (cClaim m).toArray)] = some (cClaim m).toArray := by
 obtain ⟨rfl, _⟩ := h.out
 kernel_rfl
def oClass (y : ClassD) : ObjectD := (5, dPod, dNode, dVolume, dClaim, y, dBudget)
def cClass (l : List Value) : List Value := [Value.int .i64 5] ++ (zPod ++ (zNode ++ (zVolume ++ (zClaim ++ (l ++ (zBudget))))))
theorem oClass_rep {A : Where} {w : World} {l : List Value} {y : ClassD} (h : RClass A w l y) : RObject A w (cClass l) (oClass y) := obj_mk (x := oClass y) (zPod_rep A w) (zNode_rep A w) (zVolume_rep A w) (zClaim_rep A w) h (zBudget_rep A w)
theorem bClass_run {A : Where} {w : World} {l : List Value} {y : ClassD} (h : RClass A w l y) (u : World) : (Instr.build 46 #[(0, .int .i64 5), (5, .agg l.toArray)]).run prog u = .ok (.agg (cClass l).toArray) u := by
 obtain ⟨rfl, _⟩ := h.out
 exact run_build u _ _ _ (by kernel_rfl)
theorem foClass {A : Where} {w : World} {l : List Value} {y : ClassD} (h : RClass A w l y) : Instr.fill (fun i => some (i * 40, 40)) ((Array.range (1 * 40)).map ((Value.agg (zC 0).toArray).cells[· % (Value.agg (zC 0).toArray).cells.size]!)) [(0, .agg (cClass l).toArray)] = some (cClass l).toArray := by
 obtain ⟨rfl, _⟩ := h.out
 kernel_rfl
def oBudget (y : BudgetD) : ObjectD := (6, dPod, dNode, dVolume, dClaim, dClass, y)
def cBudget (b : List Value) : List Value := [Value.int .i64 6] ++ (zPod ++ (zNode ++ (zVolume ++ (zClaim ++ (zClass ++ (b))))))
theorem oBudget_rep {A : Where} {w : World} {b : List Value} {y : BudgetD} (h : RBudget A w b y) : RObject A w (cBudget b) (oBudget y) := obj_mk (x := oBudget y) (zPod_rep A w) (zNode_rep A w) (zVolume_rep A w) (zClaim_rep A w) (zClass_rep A w) h
theorem bBudget_run {A : Where} {w : World} {b : List Value} {y : BudgetD} (h : RBudget A w b y) (u : World) : (Instr.build 46 #[(0, .int .i64 6), (6, .agg b.toArray)]).run prog u = .ok (.agg (cBudget b).toArray) u := by
 obtain ⟨_, rfl, _⟩ := h.out
 exact run_build u _ _ _ (by kernel_rfl)
theorem foBudget {A : Where} {w : World} {b : List Value} {y : BudgetD} (h : RBudget A w b y) : Instr.fill (fun i => some (i * 40, 40)) ((Array.range (1 * 40)).map ((Value.agg (zC 0).toArray).cells[· % (Value.agg (zC 0).toArray).cells.size]!)) [(0, .agg (cBudget b).toArray)] = some (cBudget b).toArray := by
 obtain ⟨_, rfl, _⟩ := h.out
 kernel_rfl
theorem infoObj3 : (prog.info? 46).map (fun i => (i.zero, i.size, i.bytes)) = some (some (.agg (zC 0).toArray), 40, 624) := by kernel_rfl
theorem Row.ownge {α : Type} [Inhabited α] {R : Rep α} {k : Nat} {A : Where} {w0 u : World} {e : TypeId} {v : Value} {L : List α} {b : Nat} (h : Row R k A w0 u e v L) (hb : v.ownBlock = some b) : w0.heap.size ≤ b := by
 obtain ⟨xs, h1, _⟩ := h
 exact (h1.2.lt b hb).1
theorem wp_build2 {P : Program} {o : Oper} {a : Act} {w : World} {K : Act → World → Prop} {Q : Exit → Act → World → Prop} (t : TypeId) (parts : Array (Nat × Operand)) (ho : o.op = .build t parts) (vals : Array (Nat × Value)) (hv : (parts.map fun (i, x) => (i, a.eval x)) = vals) (cells : Array Value) (hb : ∀ w, (Instr.build t vals).run P w = .ok (.agg cells) w) (h : K (a.put o.dst (.agg cells)) w) : o.wp P a w K Q := by
 unfold Oper.wp execOp
 simp only [ho, Sem.run_bind, hv, hb, Result.andThen_ok]
 exact h
def putL {α : Type} (nm : α → ByteArray) (L : List α) (o : α) : Option (List α × Bool) :=
 if L.findIdx (fun x => sEq (nm x) (nm o)) < L.length then some (L.take (L.findIdx fun x => sEq (nm x) (nm o)) ++ o :: L.drop ((L.findIdx fun x => sEq (nm x) (nm o)) + 1), true)
 else if 256 ≤ L.length then none
 else some (L.take (L.findIdx fun x => sGt (nm x) (nm o)) ++ o :: L.drop (L.findIdx fun x => sGt (nm x) (nm o)), false)
theorem findIdx_is {α : Type} [Inhabited α] {L : List α} {p : α → Bool} {i : Nat} (hi : i < L.length) (hy : p (L.getD i default) = true) (hn : ∀ j, j < i → p (L.getD j default) = false) : L.findIdx p = i := by
 rw [List.findIdx_eq hi]
 refine ⟨by rw [getE _ _ hi] at hy; exact hy, fun j hj => ?_⟩
 have := hn j hj
 rwa [getE _ _ (by omega)] at this
theorem findIdx_none {α : Type} [Inhabited α] {L : List α} {p : α → Bool} (hn : ∀ j, j < L.length → p (L.getD j default) = false) : L.findIdx p = L.length := by
 rw [List.findIdx_eq_length]
 intro x hx
 obtain ⟨i, hi, rfl⟩ := List.mem_iff_getElem.1 hx
 have := hn i hi
 rwa [getE _ _ hi] at this
def withLClass (x : StateD) (L : List ClassD) : StateD := (x.1, x.2.1, x.2.2.1, x.2.2.2.1, L, x.2.2.2.2.2)
def putSClass (x : StateD) (o : ClassD) : StateD × Bool × Int := match putL (fun y : ClassD => y.1) x.2.2.2.2.1 o with | some r => (withLClass x r.1, r.2, 0) | none => (noState, false, 3)
def StTup (A : Where) (w : World) (r : StateD × Bool × Int) (e : Ending) (w' : World) : Prop := ∃ g0 g1 g2 g3 g4 g5 : Hd, e = .returned (.tuple #[.agg #[J g0, J g1, J g2, J g3, J g4, J g5], .bool r.2.1, .int .i64 r.2.2]) ∧ OwnSt (Lo A w) w w' (J g0) (J g1) (J g2) (J g3) (J g4) (J g5) r.1 ∧ Below w.heap.size w w'
def StTup2 (A : Where) (w : World) (r : StateD × Bool) (e : Ending) (w' : World) : Prop := ∃ g0 g1 g2 g3 g4 g5 : Hd, e = .returned (.tuple #[.agg #[J g0, J g1, J g2, J g3, J g4, J g5], .bool r.2]) ∧ OwnSt (Lo A w) w w' (J g0) (J g1) (J g2) (J g3) (J g4) (J g5) r.1 ∧ Below w.heap.size w w'
def Room (b n : Nat) (u : World) : Prop := u.there b 0 n ∧ b < u.heap.size
theorem Room.on {b n : Nat} {u u' : World} (h : Room b n u) (hb : Below u.heap.size u u') : Room b n u' := ⟨there_on h.1 hb h.2, Nat.lt_of_lt_of_le h.2 hb.size⟩
theorem Held.grown {w u u' : World} {L : List (Nat × List Value)} {M : List (Nat × Nat)} {row : Option Nat} (h : Held w L M u) (hg : u.grownBy u' row) (hr : ∀ b, row = some b → w.heap.size ≤ b ∧ (∀ x ∈ L, x.1 ≠ b) ∧ ∀ y ∈ M, y.1 ≠ b) : Held w L M u' := by
 refine ⟨h.1.grown hg h.1.size (fun k e => (hr k e).1), fun x hx => ?_, fun y hy => ?_⟩
 ·
  obtain ⟨g1, g2, g3, g4⟩ := h.2.1 x hx
  have hk := hg.block x.1 g2 (fun e => (hr x.1 e.symm).2.1 x hx rfl)
  exact ⟨g1, Nat.lt_of_lt_of_le g2 hg.size, fun j v hj => (World.cell?_of_block (w := u) (a := ⟨x.1, 0 + j, none⟩) hk).trans (g3 j v hj), fun j hj => by rw [World.cell?_of_block (w := u) (a := ⟨x.1, 0 + j, none⟩) hk, World.frozen?_of_block (w := u) (a := ⟨x.1, 0 + j, none⟩) hk]; exact g4 j hj⟩
 ·
  obtain ⟨g1, g2, g3⟩ := h.2.2 y hy
  have hk := hg.block y.1 g2 (fun e => (hr y.1 e.symm).2.2 y hy rfl)
  exact ⟨g1, Nat.lt_of_lt_of_le g2 hg.size, fun j hj => by rw [World.cell?_of_block (w := u) (a := ⟨y.1, 0 + j, none⟩) hk, World.frozen?_of_block (w := u) (a := ⟨y.1, 0 + j, none⟩) hk]; exact g3 j hj⟩
theorem Held.other {w u : World} {L : List (Nat × List Value)} {M : List (Nat × Nat)} {b o : Nat} {cs : List Value} (h : Held w L M u) (hb : w.heap.size ≤ b) (hL : ∀ x ∈ L, x.1 ≠ b) : Held w L M (u.setCells b o cs) := by
 refine ⟨below_setCells h.1 hb, fun x hx => ?_, fun y hy => ?_⟩
 ·
  obtain ⟨g1, g2, g3, g4⟩ := h.2.1 x hx
  exact ⟨g1, by rw [size_setCells]; exact g2, World.rangeAt_setCells_apart g3 b o cs (.inl (hL x hx)), World.there_setCells g4 b o cs⟩
 ·
  obtain ⟨g1, g2, g3⟩ := h.2.2 y hy
  exact ⟨g1, by rw [size_setCells]; exact g2, World.there_setCells g3 b o cs⟩
section
variable {α : Type} [Inhabited α] {R : Rep α} {k : Nat}
theorem Row.slG (hR : Firm R k) {bytes : Nat} {A : Where} {w0 u : World} {e : TypeId} {g : Hd} {L : List α} (h : Row R k A w0 u e (J g) L) (hb : L.length * bytes ≤ 140737488351232) : SlAt R k bytes (fun b => A b ∨ Fresh w0 b) u g.1 g.2.1 g.2.2 L := by
 obtain ⟨a, cap, e1, h3⟩ := h.sl hR hb
 simp only [Value.slice.injEq] at e1
 obtain ⟨e1, e2, e3⟩ := e1
 rw [e1, e2, e3]
 exact h3
theorem Row.put (hR : Firm R k) {A : Where} {w0 u : World} {e : TypeId} {g cap i : Nat} {L : List α} {c : List Value} {x : α} (h : Row R k A w0 u e (.slice (some ⟨g, 0, none⟩) L.length cap) L) (hi : i < L.length) (hx : R A u c x) (hA : ∀ b, A b → b ≠ g) : Row R k A w0 (u.setCells g (i * k) c) e (.slice (some ⟨g, 0, none⟩) L.length cap) (L.take i ++ x :: L.drop (i + 1)) := by
 have hlen : (L.take i ++ x :: L.drop (i + 1)).length = L.length := by simp; omega
 have hcl := hR.len hx
 obtain ⟨xs, ⟨hb, hl, ⟨e1, _⟩ | ⟨g', cap', cur, e1, hBg, hg, hcp, hcm, hsz, htk⟩⟩, hch⟩ := h
 ·
  cases e1
 ·
  simp only [Value.slice.injEq, Option.some.injEq, Addr.mk.injEq, and_true, true_and] at e1
  obtain ⟨rfl, rfl⟩ := e1
  have hkn : (i + 1) * k ≤ L.length * k := Nat.mul_le_mul_right k hi
  have hkc : L.length * k ≤ cap * k := Nat.mul_le_mul_right k hcp
  rw [Nat.add_mul, Nat.one_mul] at hkn
  have hxl : xs.length = L.length * k := hl
  obtain ⟨cur', hg', hs', ht'⟩ := row_setCells g e c (i * k) u cur hg (by rw [hcl, hsz]; omega)
  have c1 := (hch.take i (by omega)).append ((chunk_one hR (hR.weak hx (A' := fun b => A b ∧ Value.ownBlock (.slice (some ⟨g, 0, none⟩) L.length cap) ≠ some b) (fun b _ h => ⟨h, by simp only [Value.ownBlock, ne_eq, Option.some.injEq]; exact fun e => hA b h e.symm⟩))).append (hch.drop (i + 1)))
  refine ⟨xs.take (i * k) ++ (c ++ xs.drop ((i + 1) * k)), ⟨below_setCells hb hBg, ?_⟩, ?_⟩
  ·
   rw [hlen]
   refine ⟨by simp only [List.length_append, List.length_take, List.length_drop, hcl, hxl, Nat.add_mul, Nat.one_mul]; omega, .inr ⟨g, cap, cur', rfl, hBg, hg', hcp, hcm, by rw [hs', hsz], ?_⟩⟩
   have e0 : cur.toList.take (i * k) = xs.take (i * k) := by rw [← htk, List.take_take]; congr 1; omega
   have e2 : (cur.toList.drop (i * k + k)).take (L.length * k - (i * k + k)) = xs.drop ((i + 1) * k) := by rw [← htk, List.drop_take, Nat.add_mul, Nat.one_mul]
   have hcL : cur.toList.length = cap * k := by rw [Array.length_toList, hsz]
   have l1 : (xs.take (i * k) ++ c).length = i * k + k := by simp only [List.length_append, List.length_take, hcl, hxl]; omega
   rw [ht', hcl, e0, ← List.append_assoc]
   rw [← e2]
   conv => lhs; rw [show L.length * k = (xs.take (i * k) ++ c).length + (L.length * k - (i * k + k)) by rw [l1]; omega]
   rw [List.take_length_add_append]
  ·
   have k1 : Kept (fun b => A b ∧ Value.ownBlock (.slice (some ⟨g, 0, none⟩) L.length cap) ≠ some b) u (u.setCells g (i * k) c) := kept_setCells (fun h => h.2 rfl)
   have c2 := c1.kept hR k1
   simpa using c2
end
theorem ns_of {v0 v1 v2 v3 v4 v5 : Value} (h : [v0, v1, v2, v3, v4, v5].Pairwise NoShare) : NoShare v0 v1 ∧ NoShare v0 v2 ∧ NoShare v0 v3 ∧ NoShare v0 v4 ∧ NoShare v0 v5 ∧ NoShare v1 v2 ∧ NoShare v1 v3 ∧ NoShare v1 v4 ∧ NoShare v1 v5 ∧ NoShare v2 v3 ∧ NoShare v2 v4 ∧ NoShare v2 v5 ∧ NoShare v3 v4 ∧ NoShare v3 v5 ∧ NoShare v4 v5 := by
 simp only [List.pairwise_cons, List.mem_cons, List.not_mem_nil, or_false, forall_eq_or_imp, forall_eq, List.Pairwise.nil, and_true, false_implies, implies_true] at h
 obtain ⟨⟨a1, a2, a3, a4, a5⟩, ⟨b2, b3, b4, b5⟩, ⟨c3, c4, c5⟩, ⟨d4, d5⟩, e5⟩ := h
 exact ⟨a1, a2, a3, a4, a5, b2, b3, b4, b5, c3, c4, c5, d4, d5, e5⟩
theorem kgr {A : Where} {w u ui : World} {old : Option Nat} {P : Nat → Prop} (hgr : u.grownBy ui old) (hB : ∀ b, old = some b → w.heap.size ≤ b) (hP : ∀ b, P b → old = some b → False) : Kept (fun b => Lo A w b ∨ P b) u ui :=
 Kept.grown hgr (fun b e h => by
  rcases h with h | h
  ·
   have h1 := h.2; have h2 := hB b e; omega
  ·
   exact hP b h e)
theorem pnw {v old : Option Nat} {n : Nat} {P : Nat → Prop} (h5 : v = old ∨ v = some n) (h1 : ∀ b, P b → old = some b → False) (h2 : ∀ b, P b → b < n) : ∀ b, P b → v = some b → False := fun b hb hb2 => by
 rcases h5 with h5 | h5
 ·
  rw [h5] at hb2; exact h1 b hb hb2
 ·
  rw [h5] at hb2; have h6 := h2 b hb; have h7 : n = b := (by simpa using hb2); omega
end Go.Proofs.YtfbnnfpnjjjfcaaGreat

