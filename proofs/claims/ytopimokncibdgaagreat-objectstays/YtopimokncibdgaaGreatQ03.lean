/- Steps of a region that draws its order, in short, and its like. No condition beyond what each says. -/
import Derived.Maps.RangeWalk
import Derived.Lib.Overlaps
import Derived.Lib.AppendZerosOnto
import Derived.Lib.SliceRun
import Derived.Lib.JoinLaws
import Derived.Laws.Externs
import Derived.Laws.IdiomCopy
import Derived.Deep.RegionLaw
import Derived.Maps.AppendAt
import Derived.Deep.MidRow
import Derived.Test.YtopimokncibdgaaGreatQ02
namespace Go.Proofs.YtopimokncibdgaaGreat
set_option maxHeartbeats 16000000
set_option maxRecDepth 100000
open Go.RowKit
set_option linter.unusedSimpArgs false
section
variable {P : Program} {md : Region.Mode} {ops : Array Oper} {Q : Exit → Act → World → Prop} {S : World → Prop} {oi : Oper} {d fuel : Nat} {listed : Array Bool} {a : Act} {w : World}
theorem tq (i : Nat) (v : Value) (hy : YieldsIf P ops S oi v a) (h : wpAnyH P md ops (NoPanic Q) S fuel (listed.setIfInBounds i true) (a.put (some d) v) w)
  (hi : ops[i]? = some oi := by rfl) (hd : oi.dst = some d := by rfl) (hb : (Region.noSelect ops && (Region.free md ops listed i && (Region.ready md ops listed).contains i)) = true := by kernel_rfl) (hS : S w := by assumption) : wpAnyH P md ops (NoPanic Q) S (fuel + 1) listed a w :=
 wpAnyH_take hi (Bool.and_eq_true _ _ ▸ hb).1 (Bool.and_eq_true _ _ ▸ (Bool.and_eq_true _ _ ▸ hb).2).1 (Bool.and_eq_true _ _ ▸ (Bool.and_eq_true _ _ ▸ hb).2).2 (fun _ _ _ h => h) hy hS (hd ▸ h)
theorem tk (i : Nat) {v : Value} (hy : ∀ u, S u → (execOp a.eval oi).run P u = .ok (.value v) u) (h : wpAnyH P md ops (NoPanic Q) S fuel (listed.setIfInBounds i true) (a.put (some d) v) w)
  (hi : ops[i]? = some oi := by rfl) (hd : oi.dst = some d := by rfl) (hb : (Region.noSelect ops && (Region.free md ops listed i && (Region.ready md ops listed).contains i)) = true := by kernel_rfl) (hw : Region.wanted oi (yielded ops a.tmps) = true := by rfl) (hS : S w := by assumption) : wpAnyH P md ops (NoPanic Q) S (fuel + 1) listed a w :=
 tq i v (.inl ⟨hw, hy⟩) h hi hd hb hS
theorem tp (i : Nat) {v : Value} (h : wpAnyH P md ops (NoPanic Q) S fuel (listed.setIfInBounds i true) (a.put (some d) v) w)
  (hi : ops[i]? = some oi := by rfl) (hd : oi.dst = some d := by rfl) (hb : (Region.noSelect ops && (Region.free md ops listed i && (Region.ready md ops listed).contains i)) = true := by kernel_rfl) (hw : Region.wanted oi (yielded ops a.tmps) = true := by rfl)
  (hy : ∀ u, (execOp a.eval oi).run P u = .ok (.value v) u := by intro u; go_simp; try with_reducible rfl) (hS : S w := by assumption) : wpAnyH P md ops (NoPanic Q) S (fuel + 1) listed a w :=
 tk i (fun u _ => hy u) h hi hd hb hw hS
theorem tr (i : Nat) (h : ∀ K' : Act → World → Prop, Shut (∀ v w, S w → (S w → wpAnyH P md ops Q S fuel (listed.setIfInBounds i true) (a.put (some d) v) w) → K' (a.put oi.dst v) w) → if Region.wanted oi (yielded ops a.tmps) = true then Oper.wp P oi a w K' Q else K' (a.put oi.dst undef) w)
  (hi : ops[i]? = some oi := by rfl) (hd : oi.dst = some d := by rfl) (hr : Region.ready md ops listed = [i] := by kernel_rfl) : wpAnyH P md ops Q S (fuel + 1) listed a w :=
 wpAnyH_ready hr (by simp) (AllReadyH.cons hi (fun K' hK => h K' (fun v w h1 h2 => hK.out _ w h1 (fun h3 => hd ▸ h2 h3))) AllReadyH.nil)
theorem ts (i : Nat) (h : ∀ K' : Act → World → Prop, Shut (∀ v w, S w → (S w → wpAnyH P md ops Q S fuel (listed.setIfInBounds i true) a w) → K' (a.put oi.dst v) w) → if Region.wanted oi (yielded ops a.tmps) = true then Oper.wp P oi a w K' Q else K' (a.put oi.dst undef) w)
  (hi : ops[i]? = some oi := by rfl) (hd : oi.dst = none := by rfl) (hr : Region.ready md ops listed = [i] := by kernel_rfl) : wpAnyH P md ops Q S (fuel + 1) listed a w :=
 wpAnyH_ready hr (by simp) (AllReadyH.cons hi (fun K' hK => h K' (fun v w h1 h2 => hK.out _ w h1 (fun h3 => by rw [hd]; exact h2 h3))) AllReadyH.nil)
end
abbrev J (g : Hd) : Value := .slice g.1 g.2.1 g.2.2
abbrev Z : Value := .slice none 0 0
def Held (w : World) (L : List (Nat × List Value)) (M : List (Nat × Nat)) (u : World) : Prop :=
 Below w.heap.size w u ∧ (∀ x ∈ L, w.heap.size ≤ x.1 ∧ x.1 < u.heap.size ∧ u.rangeAt x.1 0 x.2 ∧ u.there x.1 0 x.2.length) ∧ (∀ y ∈ M, w.heap.size ≤ y.1 ∧ y.1 < u.heap.size ∧ u.there y.1 0 y.2)
section
variable {w u : World} {L : List (Nat × List Value)} {M : List (Nat × Nat)}
theorem Held.start (w : World) : Held w [] [] w := ⟨Below.refl _ _, (fun _ h => by cases h), (fun _ h => by cases h)⟩
theorem Held.below (h : Held w L M u) : Below w.heap.size w u := h.1
theorem Held.on {u' : World} (h : Held w L M u) (hb : Below u.heap.size u u') : Held w L M u' :=
 ⟨on2 h.1 hb, fun x hx => by
  obtain ⟨h1, h2, h3, h4⟩ := h.2.1 x hx
  exact ⟨h1, Nat.lt_of_lt_of_le h2 hb.size, range_on h3 hb h2, there_on h4 hb h2⟩, fun y hy => by
  obtain ⟨h1, h2, h3⟩ := h.2.2 y hy
  exact ⟨h1, Nat.lt_of_lt_of_le h2 hb.size, there_on h3 hb h2⟩⟩
theorem Held.drew (h : Held w L M u) : Held w L M u.drew := h.on (Below.refl _ u).drew
theorem Held.push (h : Held w L M u) {b : Nat} (hb : u.heap.size = b) (c : List Value) (T : TypeId) : Held w ((b, c) :: L) M (u.alloc (.cells c.toArray T)) := by
 subst hb
 have hB : Below u.heap.size u (u.alloc (.cells c.toArray T)) := (Below.refl _ u).alloc (Nat.le_refl _) _
 refine ⟨on2 h.1 hB, fun x hx => ?_, (h.on hB).2.2⟩
 rcases List.mem_cons.1 hx with rfl | hx
 ·
  exact ⟨h.1.size, by simp, range_all rfl, there_new rfl (by simp)⟩
 ·
  exact (h.on hB).2.1 x hx
theorem Held.room (h : Held w L M u) {b : Nat} (hb : u.heap.size = b) (c : Array Value) (T : TypeId) : Held w L ((b, c.size) :: M) (u.alloc (.cells c T)) := by
 subst hb
 have hB : Below u.heap.size u (u.alloc (.cells c T)) := (Below.refl _ u).alloc (Nat.le_refl _) _
 refine ⟨on2 h.1 hB, (h.on hB).2.1, fun y hy => ?_⟩
 rcases List.mem_cons.1 hy with rfl | hy
 ·
  exact ⟨h.1.size, by simp, there_new rfl rfl⟩
 ·
  exact (h.on hB).2.2 y hy
theorem Held.get (h : Held w L M u) (i : Nat) {b : Nat} {c : List Value} (hi : L[i]? = some (b, c)) : u.rangeAt b 0 c := (h.2.1 _ (List.mem_of_getElem? hi)).2.2.1
theorem Held.cell (h : Held w L M u) (i : Nat) {b : Nat} {c : List Value} (hi : L[i]? = some (b, c)) (j : Nat) {v : Value} (hj : c[j]? = some v) : u.cell? ⟨b, j, none⟩ = some v := by
 have := h.get i hi j v hj
 simpa using this
theorem Held.frozen (h : Held w L M u) (i : Nat) {b : Nat} {c : List Value} (hi : L[i]? = some (b, c)) (j : Nat) (hj : j < c.length) : u.frozen? ⟨b, j, none⟩ = false := by
 have := ((h.2.1 _ (List.mem_of_getElem? hi)).2.2.2 j hj).2
 simpa using this
theorem Held.lt (h : Held w L M u) (i : Nat) {b : Nat} {c : List Value} (hi : L[i]? = some (b, c)) : b < u.heap.size := (h.2.1 _ (List.mem_of_getElem? hi)).2.1
theorem Held.there (h : Held w L M u) (i : Nat) {b n : Nat} (hi : M[i]? = some (b, n)) : u.there b 0 n := (h.2.2 _ (List.mem_of_getElem? hi)).2.2
theorem Held.ltM (h : Held w L M u) (i : Nat) {b n : Nat} (hi : M[i]? = some (b, n)) : b < u.heap.size := (h.2.2 _ (List.mem_of_getElem? hi)).2.1
theorem Held.less {L' : List (Nat × List Value)} {M' : List (Nat × Nat)} (h : Held w L M u) (hL : ∀ x ∈ L', x ∈ L) (hM : ∀ y ∈ M', y ∈ M) : Held w L' M' u := ⟨h.1, fun x hx => h.2.1 x (hL x hx), fun y hy => h.2.2 y (hM y hy)⟩
theorem Held.free {b : Nat} {c : List Value} (h : Held w ((b, c) :: L) M u) : Held w L ((b, c.length) :: M) u :=
 ⟨h.1, fun x hx => h.2.1 x (by simp [hx]), fun y hy => by
  rcases List.mem_cons.1 hy with rfl | hy
  ·
   obtain ⟨h1, h2, _, h4⟩ := h.2.1 (b, c) (by simp)
   exact ⟨h1, h2, h4⟩
  ·
   exact h.2.2 y hy⟩
theorem Held.store {b n : Nat} {c : List Value} (h : Held w L ((b, n) :: M) u) (hl : c.length = n) (hL : ∀ x ∈ L, x.1 ≠ b) : Held w ((b, c) :: L) M (u.setCells b 0 c) := by
 obtain ⟨h1, h2, h4⟩ := h.2.2 (b, n) (by simp)
 subst hl
 refine ⟨below_setCells h.1 h1, fun x hx => ?_, fun y hy => ?_⟩
 ·
  rcases List.mem_cons.1 hx with rfl | hx
  ·
   exact ⟨h1, by rw [size_setCells]; exact h2, World.rangeAt_setCells_same u b 0 c h4, World.there_setCells h4 b 0 c⟩
  ·
   obtain ⟨g1, g2, g3, g4⟩ := h.2.1 x hx
   exact ⟨g1, by rw [size_setCells]; exact g2, World.rangeAt_setCells_apart g3 b 0 c (.inl (hL x hx)), World.there_setCells g4 b 0 c⟩
 ·
  obtain ⟨g1, g2, g3⟩ := h.2.2 y (by simp [hy])
  exact ⟨g1, by rw [size_setCells]; exact g2, World.there_setCells g3 b 0 c⟩
theorem Held.wrote {b n : Nat} {c : List Value} (h : Held w L M u) (i : Nat) (hi : M[i]? = some (b, n)) (hL : ∀ x ∈ L, x.1 ≠ b) : Held w L M (u.setCells b 0 c) := by
 obtain ⟨h1, h2, h4⟩ := h.2.2 (b, n) (List.mem_of_getElem? hi)
 refine ⟨below_setCells h.1 h1, fun x hx => ?_, fun y hy => ?_⟩
 ·
  obtain ⟨g1, g2, g3, g4⟩ := h.2.1 x hx
  exact ⟨g1, by rw [size_setCells]; exact g2, World.rangeAt_setCells_apart g3 b 0 c (.inl (hL x hx)), World.there_setCells g4 b 0 c⟩
 ·
  obtain ⟨g1, g2, g3⟩ := h.2.2 y hy
  exact ⟨g1, by rw [size_setCells]; exact g2, World.there_setCells g3 b 0 c⟩
end
theorem at_world {K : Act → World → Prop} {a : Act} {u W : World} (h : W = u) (k : K a W) : K a u := h ▸ k
theorem want_yes {c : Prop} [Decidable c] {A B : Prop} (h : c) (k : A) : if c then A else B := by rw [if_pos h]; exact k
theorem call_enter {P : Program} {o : Oper} {a : Act} {u : World} {K : Act → World → Prop} {Q : Exit → Act → World → Prop} {f : Nat} {args : Array Value} (hr : (execOp a.eval o).run P u = .ok (.enter f args) u) {post : Ending → World → Prop} (hc : Calls P f args u post) (h : ∀ e u', post e u' → ∃ v, e = .returned v ∧ K (a.put o.dst v) u') : o.wp P a u K Q := by
 unfold Oper.wp
 rw [hr]
 refine Calls.mono hc fun e u' he => ?_
 obtain ⟨v, rfl, hk⟩ := h e u' he
 exact hk
theorem run_copy_k {P : Program} (w : World) (dT sT ty elem : TypeId) (k b o dLen dCap : Nat) (a : Addr) (sLen sCap : Nat) (cs : List Value)
  (hu : P.underlying dT = some (.slice elem)) (hs : (P.info? elem).map (·.size) = some k) (hn : cs.length = Nat.min sLen dLen * k)
  (hsrc : ∀ j v, cs[j]? = some v → w.cell? (a.add j) = some v) (hc : ∀ j, j < cs.length → (w.cell? ⟨b, o + j, none⟩).isSome = true) (hf : ∀ j, j < cs.length → w.frozen? ⟨b, o + j, none⟩ = false) (h1 : ∀ v ∈ cs, v.oneCell' = true) :
  (Builtin.copy_ #[dT, sT] ty #[.slice (some ⟨b, o, none⟩) dLen dCap, .slice (some a) sLen sCap]).run P w = .ok (goInt (Nat.min sLen dLen)) (w.setCells b o cs) := by
 have hl := run_loadCells_list (P := P) w a cs hsrc
 have hst := run_storeCells_cells (P := P) b o cs 0 w (by simpa using hc) (by simpa using hf) h1
 cases hq : P.info? elem with
 | none => simp [hq] at hs
 | some i =>
  have hi : i.size = k := by simpa [hq] using hs
  simp [Builtin.copy_, run_underlying hu, Builtin.lenOf, Builtin.firstCells, sizeOf, typeInfo, hq, hi, ← hn, hl, hst]
theorem run_clear_k {P : Program} (w : World) (t e ty : TypeId) (z : Value) (ht : P.underlying t = some (.slice e)) (hv : ∀ w, (zeroValue e).run P w = .ok z w) (h1 : ∀ v ∈ (Builtin.zeroCells z.cells 1).toList, v.oneCell' = true) (b o c : Nat)
  (hc : ∀ j, j < (Builtin.zeroCells z.cells 1).toList.length → (w.cell? ⟨b, o + j, none⟩).isSome = true) (hf : ∀ j, j < (Builtin.zeroCells z.cells 1).toList.length → w.frozen? ⟨b, o + j, none⟩ = false) :
  (Builtin.clear_ #[t] ty #[.slice (some ⟨b, o, none⟩) 1 c]).run P w = .ok (.tuple #[]) (w.setCells b o (Builtin.zeroCells z.cells 1).toList) := by
 have hst := run_storeCells_cells (P := P) b o (Builtin.zeroCells z.cells 1).toList 0 w (by simpa using hc) (by simpa using hf) h1
 simp only [Nat.add_zero] at hst
 simp [Builtin.clear_, run_underlying ht, hv, hst]
theorem row_setCells (g : Nat) (T : TypeId) : ∀ (vs : List Value) (o : Nat) (w : World) (cur : Array Value), w.heap[g]? = some (.cells cur T (0, 0)) → o + vs.length ≤ cur.size →
  ∃ cur' : Array Value, (w.setCells g o vs).heap[g]? = some (.cells cur' T (0, 0)) ∧ cur'.size = cur.size ∧ cur'.toList = cur.toList.take o ++ vs ++ cur.toList.drop (o + vs.length)
 | [], o, w, cur, hg, _ => ⟨cur, hg, rfl, by simp⟩
 | v :: r, o, w, cur, hg, hl => by
  simp only [List.length_cons] at hl
  have hg1 := heap_setCell_same w g o cur T v hg
  obtain ⟨cur', h1, h2, h3⟩ := row_setCells g T r (o + 1) _ _ hg1 (by simp; omega)
  refine ⟨cur', h1, by simpa using h2, ?_⟩
  rw [h3]
  have ho : o < cur.toList.length := by simp; omega
  simp only [Array.toList_setIfInBounds, List.length_cons]
  rw [List.take_add_one, List.getElem?_set]
  simp only [ho, if_true]
  rw [List.take_set_of_le (Nat.le_refl _), List.drop_set_of_lt (by omega)]
  simp [Nat.add_assoc, Nat.add_comm 1]
theorem grown_setCells {w : World} {g : Nat} : ∀ (vs : List Value) (o : Nat), w.grownBy (w.setCells g o vs) (some g) := fun vs o =>
 have h : ∀ (vs : List Value) (o : Nat) (u : World), w.grownBy u (some g) → w.grownBy (u.setCells g o vs) (some g) := fun vs => by
  induction vs with
  | nil => intro o u hu; exact hu
  | cons v r ih =>
   intro o u hu
   rw [World.setCells]
   refine ih _ _ ⟨hu.os, hu.tape, hu.output, by simpa using hu.size, fun k hk hne => ?_⟩
   rw [heap_setCell_other u ⟨g, o, none⟩ k v (fun e => hne (by simp [e]))]
   exact hu.block k hk hne
 h vs o w ⟨rfl, rfl, rfl, Nat.le_refl _, fun _ _ _ => rfl⟩
theorem grown_trans {u v w : World} {row : Option Nat} (h : u.grownBy v row) (k : v.grownBy w row) : u.grownBy w row :=
 ⟨k.os.trans h.os, k.tape.trans h.tape, k.output.trans h.output, Nat.le_trans h.size k.size, fun b hb hne => (k.block b (Nat.lt_of_lt_of_le hb h.size) hne).trans (h.block b hb hne)⟩
theorem grown_drew {w : World} {row : Option Nat} : w.grownBy w.drew row := ⟨rfl, rfl, rfl, Nat.le_refl _, fun _ _ _ => rfl⟩
theorem row_cell {w : World} {g j : Nat} {cur : Array Value} {T : TypeId} (hg : w.heap[g]? = some (.cells cur T (0, 0))) : w.cell? ⟨g, j, none⟩ = cur.toList[j]? := by simp [World.cell?, hg]
theorem row_frozen {w : World} {g j : Nat} {cur : Array Value} {T : TypeId} (hg : w.heap[g]? = some (.cells cur T (0, 0))) : w.frozen? ⟨g, j, none⟩ = false := by simp [World.frozen?, hg]
theorem shape_cells {w : World} {g : Nat} {cur : Array Value} {T : TypeId} {fr : Nat × Nat} (hg : w.heap[g]? = some (.cells cur T fr)) : w.shape? g = some (T, cur.size) := by simp [World.shape?, hg]
theorem lt_of_heap {w : World} {g : Nat} {o : Obj} (h : w.heap[g]? = some o) : g < w.heap.size := by
 rcases Nat.lt_or_ge g w.heap.size with h1 | h1
 ·
  exact h1
 ·
  rw [Array.getElem?_eq_none h1] at h; cases h
theorem wp_copy_run {P : Program} (w : World) {o : Oper} {a : Act} {K : Act → World → Prop} {Q : Exit → Act → World → Prop} (d s : Operand) (t t' : TypeId)
  (ho : o.op = .call { callee := .builtin .copy, args := #[d, s], argTypes := #[t, t'] }) (v u : Value) (hd : a.eval d = v) (hs : a.eval s = u) {v' : Value} {w' : World}
  (hr : (Builtin.copy_ #[t, t'] o.type #[v, u]).run P w = .ok v' w') (h : K (a.put o.dst v') w') : o.wp P a w K Q := by
 unfold Oper.wp execOp
 simp only [ho, resolve, invoke, builtin, Sem.run_bind, Sem.run_pure, Result.andThen_ok, List.map_toArray, List.map_cons, List.map_nil, hd, hs, hr]
 exact h
theorem wp_append_run {P : Program} (w : World) {o : Oper} {a : Act} {K : Act → World → Prop} {Q : Exit → Act → World → Prop} (d s : Operand) (t t' : TypeId)
  (ho : o.op = .call { callee := .builtin .append, args := #[d, s], argTypes := #[t, t'] }) (v u : Value) (hd : a.eval d = v) (hs : a.eval s = u) {v' : Value} {w' : World}
  (hr : (Builtin.append_ #[t, t'] o.type #[v, u]).run P w = .ok v' w') (h : K (a.put o.dst v') w') : o.wp P a w K Q := by
 unfold Oper.wp execOp
 simp only [ho, resolve, invoke, builtin, Sem.run_bind, Sem.run_pure, Result.andThen_ok, List.map_toArray, List.map_cons, List.map_nil, hd, hs, hr]
 exact h
theorem wpList_append_run' {P : Program} (w : World) {ops : Array Oper} {rest : List Oper} {o : Oper} {a : Act} {Q : Exit → Act → World → Prop} (hgd : o.guard = none) (d s : Operand) (t t' : TypeId)
  (ho : o.op = .call { callee := .builtin .append, args := #[d, s], argTypes := #[t, t'] }) (v u : Value) (hd : a.eval d = v) (hs : a.eval s = u) {v' : Value} {w' : World}
  (hr : (Builtin.append_ #[t, t'] o.type #[v, u]).run P w = .ok v' w') (h : wpList P ops Q rest (a.put o.dst v') w') : wpList P ops Q (o :: rest) a w :=
 wpList_plain hgd fun _ hK => wp_append_run w d s t t' ho v u hd hs hr (hK _ _ h)
def Lo (A : Where) (w : World) : Where := fun b => A b ∧ b < w.heap.size
def NoShare (v v' : Value) : Prop := ∀ b, v.ownBlock = some b → v'.ownBlock ≠ some b
section
variable {α : Type} [Inhabited α] {R : Rep α} {k : Nat}
theorem Chunks.take {A : Where} {u : World} {xs : List Value} {L : List α} (h : Chunks R k A u xs L) (m : Nat) (hm : m ≤ L.length) : Chunks R k A u (xs.take (m * k)) (L.take m) := by
 have hmk : m * k ≤ L.length * k := Nat.mul_le_mul_right k hm
 refine ⟨by rw [List.length_take, List.length_take, h.1, Nat.min_eq_left hmk, Nat.min_eq_left hm], fun i hi => ?_⟩
 rw [List.length_take] at hi
 have hi' : i < L.length := by omega
 obtain ⟨cs, h1, h2⟩ := h.2 i hi'
 have e : (L.take m).getD i default = L.getD i default := by rw [getE _ _ (by rw [List.length_take]; omega), getE _ _ hi']; simp
 refine ⟨cs, by rw [e]; exact h1, fun j hj => ?_⟩
 have : (i + 1) * k ≤ m * k := Nat.mul_le_mul_right k (by omega)
 rw [Nat.add_mul] at this
 rw [List.getElem?_take, if_pos (by omega)]
 exact h2 j hj
theorem Chunks.drop {A : Where} {u : World} {xs : List Value} {L : List α} (h : Chunks R k A u xs L) (m : Nat) : Chunks R k A u (xs.drop (m * k)) (L.drop m) := by
 refine ⟨by rw [List.length_drop, List.length_drop, h.1, Nat.sub_mul], fun i hi => ?_⟩
 rw [List.length_drop] at hi
 have hi' : m + i < L.length := by omega
 obtain ⟨cs, h1, h2⟩ := h.2 (m + i) hi'
 have e : (L.drop m).getD i default = L.getD (m + i) default := by rw [getE _ _ (by rw [List.length_drop]; omega), getE _ _ hi']; simp
 refine ⟨cs, by rw [e]; exact h1, fun j hj => ?_⟩
 have := h2 j hj
 rw [Nat.add_mul] at this
 rw [List.getElem?_drop, show m * k + (i * k + j) = m * k + i * k + j by omega]
 exact this
theorem Chunks.append {A : Where} {u : World} {xs ys : List Value} {L M : List α} (h : Chunks R k A u xs L) (g : Chunks R k A u ys M) : Chunks R k A u (xs ++ ys) (L ++ M) := by
 obtain ⟨l1, c1⟩ := h
 obtain ⟨l2, c2⟩ := g
 refine ⟨by rw [List.length_append, List.length_append, l1, l2, Nat.add_mul], fun i hi => ?_⟩
 rcases Nat.lt_or_ge i L.length with h' | h'
 ·
  obtain ⟨cs, q1, q2⟩ := c1 i h'
  have e : (L ++ M).getD i default = L.getD i default := by rw [getE _ _ hi, getE _ _ h', List.getElem_append_left h']
  refine ⟨cs, by rw [e]; exact q1, fun j hj => ?_⟩
  rw [List.getElem?_append_left (by have : (i + 1) * k ≤ L.length * k := Nat.mul_le_mul_right k h'; rw [Nat.add_mul] at this; omega)]
  exact q2 j hj
 ·
  have h'' : i - L.length < M.length := by rw [List.length_append] at hi; omega
  obtain ⟨cs, q1, q2⟩ := c2 (i - L.length) h''
  have e : (L ++ M).getD i default = M.getD (i - L.length) default := by rw [getE _ _ hi, getE _ _ h'', List.getElem_append_right h']
  refine ⟨cs, by rw [e]; exact q1, fun j hj => ?_⟩
  have hle : L.length * k ≤ i * k := Nat.mul_le_mul_right k h'
  rw [List.getElem?_append_right (by omega), l1, idx_part i L.length k j h']
  exact q2 j hj
theorem Chunks.one (hR : Firm R k) {A : Where} {u : World} {xs : List Value} {L : List α} (h : Chunks R k A u xs L) : ∀ y ∈ xs, y.oneCell' = true := by
 intro y hy
 obtain ⟨j, hj, rfl⟩ := List.mem_iff_getElem.1 hy
 rcases Nat.eq_zero_or_pos k with h0 | h0
 ·
  subst h0; have := h.1; rw [Nat.mul_zero] at this; omega
 ·
  have hi : j / k < L.length := by rw [Nat.div_lt_iff_lt_mul h0, ← h.1]; exact hj
  have hm : j % k < k := Nat.mod_lt _ h0
  have ej : j / k * k + j % k = j := by rw [Nat.mul_comm]; exact Nat.div_add_mod j k
  obtain ⟨cs, h1, h2⟩ := h.2 _ hi
  have := h2 _ hm
  rw [ej, List.getElem?_eq_getElem hj] at this
  exact hR.one h1 _ (List.mem_of_getElem? this.symm)
theorem Chunks.cells {A : Where} {u : World} {xs : List Value} {L : List α} (h : Chunks R k A u xs L) {i : Nat} (hi : i < L.length) : ∃ cs, R A u cs (L.getD i default) ∧ ∀ j, j < k → xs[i * k + j]? = cs[j]? := h.2 i hi
theorem own_kept {w0 u u' : World} {e : TypeId} {v : Value} {n : Nat} {xs : List Value} (h : Own w0 u e k v n xs) (hb : Below w0.heap.size w0 u') (hk : Kept (fun b => v.ownBlock = some b) u u') : Own w0 u' e k v n xs := by
 obtain ⟨_, hl, h0 | ⟨g, cap, cur, rfl, h1, h2, h3⟩⟩ := h
 ·
  exact ⟨hb, hl, .inl h0⟩
 ·
  exact ⟨hb, hl, .inr ⟨g, cap, cur, rfl, h1, by rw [hk.2 g rfl (lt_of_heap h2)]; exact h2, h3⟩⟩
theorem Row.kept (hR : Firm R k) {A : Where} {w0 u u' : World} {e : TypeId} {v : Value} {L : List α} (h : Row R k A w0 u e v L) (hb : Below w0.heap.size w0 u') (hk : Kept (fun b => A b ∨ v.ownBlock = some b) u u') : Row R k A w0 u' e v L := by
 obtain ⟨xs, h1, h2⟩ := h
 exact ⟨xs, own_kept h1 hb (hk.weak (fun b hb => .inr hb)), h2.kept hR (hk.weak (fun b hb => .inl hb.1))⟩
theorem Row.lt {A : Where} {w0 u : World} {e : TypeId} {v : Value} {L : List α} (h : Row R k A w0 u e v L) {b : Nat} (hb : v.ownBlock = some b) : w0.heap.size ≤ b ∧ b < u.heap.size := by
 obtain ⟨xs, ⟨_, _, ⟨rfl, _⟩ | ⟨g, cap, cur, rfl, h1, h2, _⟩⟩, _⟩ := h
 ·
  cases hb
 ·
  have : g = b := by simpa [Value.ownBlock] using hb
  subst this
  exact ⟨h1, lt_of_heap h2⟩
theorem Row.hd {A : Where} {w0 u : World} {e : TypeId} {v : Value} {L : List α} (h : Row R k A w0 u e v L) : ∃ h : Hd, v = J h ∧ h.2.1 = L.length := by
 obtain ⟨xs, ⟨_, _, ⟨rfl, h0⟩ | ⟨g, cap, cur, rfl, _⟩⟩, _⟩ := h
 ·
  exact ⟨(none, 0, 0), rfl, h0.symm⟩
 ·
  exact ⟨(some ⟨g, 0, none⟩, L.length, cap), rfl, rfl⟩
theorem Row.one {A : Where} {w0 u : World} {e : TypeId} {v : Value} {L : List α} (h : Row R k A w0 u e v L) : v.oneCell' = true := by
 obtain ⟨h, rfl, _⟩ := h.hd; rfl
theorem Row.grew (hR : Firm R k) {A : Where} {w0 u u' : World} {e : TypeId} {v v' : Value} {L M : List α} {xs ys : List Value} (hown : Own w0 u e k v L.length xs) (hch : Chunks R k (fun b => A b ∧ v.ownBlock ≠ some b) u ys M) (ho : u'.ownsRow w0.heap.size e k v' M.length ys) (hg : u.grownBy u' v.ownBlock) (h5 : v'.ownBlock = v.ownBlock ∨ v'.ownBlock = some u.heap.size) : Row R k A w0 u' e v' M := by
 refine ⟨ys, ⟨hown.row hg, ho⟩, ?_⟩
 have c1 := hch.weak hR (A' := fun b => (A b ∧ v.ownBlock ≠ some b) ∧ b < u.heap.size) (fun b hb h => ⟨h, hb⟩)
 have c2 := c1.kept hR (Kept.grown hg (fun b e => fun h => h.1.2 e))
 refine c2.weak hR (fun b _ h => ⟨h.1.1, fun e => ?_⟩)
 rcases h5 with h5 | h5
 ·
  rw [h5] at e; exact h.1.2 e
 ·
  rw [h5] at e
  have : u.heap.size = b := by simpa using e
  exact absurd h.2 (by omega)
end
def Flat {α : Type} (R : Rep α) : Prop := ∀ (A A' : Where) (w w' : World) (cs : List Value) (x : α), R A w cs x → R A' w' cs x
theorem Flat.pair {α β : Type} {R : Rep α} {S : Rep β} (hR : Flat R) (hS : Flat S) : Flat (RPair R S) := by
 rintro A A' w w' cs x ⟨c, d, e, h1, h2⟩
 exact ⟨c, d, e, hR _ _ _ _ _ _ h1, hS _ _ _ _ _ _ h2⟩
theorem sl_none {α : Type} [Inhabited α] {R : Rep α} {k bytes : Nat} {A : Where} {w : World} {n cap : Nat} {L : List α} (h : SlAt R k bytes A w none n cap L) : n = 0 ∧ cap = 0 ∧ L = [] := by
 have h0 : cap = 0 := h.2.2.1 rfl
 have h1 := h.2.1
 exact ⟨by omega, h0, List.length_eq_zero_iff.1 (by rw [h.1]; omega)⟩
theorem SlAt.len {α : Type} [Inhabited α] {R : Rep α} {k bytes : Nat} {A : Where} {w : World} {a : Option Addr} {n cap : Nat} {L : List α} (h : SlAt R k bytes A w a n cap L) (hb : 1 ≤ bytes) : n ≤ 140737488351232 := by
 have := h.2.2.2.1
 have h2 : n * 1 ≤ n * bytes := Nat.mul_le_mul_left _ hb
 omega
end Go.Proofs.YtopimokncibdgaaGreat

namespace Go.Proofs.YtopimokncibdgaaGreat
set_option maxHeartbeats 16000000
set_option maxRecDepth 100000
open Tryz Go.RowKit
set_option linter.unusedSimpArgs false
theorem infcPod : (prog.info? 33).map (fun i => (i.zero, i.size, i.bytes)) = some (some (.agg #[.string ⟨#[]⟩, .int .i64 0, Z, .int .i64 0, .int .i64 0, .int .i64 0, Z, Z, Z, Z, Z, Z, Z, Z, .string ⟨#[]⟩, .string ⟨#[]⟩]), 16, 296) := by kernel_rfl
theorem ClonePod (a : Option Addr) (n cap : Nat) (A : Where) (L : List PodD) (w : World) (hL : SlAt RPod 16 296 A w a n cap L) : Calls prog 69 #[.slice a n cap] w fun e w' => ∃ v, e = .returned v ∧ Row RPod 16 (Lo A w) w w' 33 v L := by
 have hb0 : Below w.heap.size w (w.alloc (.cells #[] 33)) := by go_grown
 rcases a with _ | ad
 ·
  have hE := fun w => Lib.run_eql_slice_nil (P := prog) w 54 33 none 0 0 0 0 underlying54
  obtain ⟨rfl, rfl, rfl⟩ := sl_none hL
  have HP : Hid (Row RPod 16 (Lo A w) w w 33 (Z) ([] : List PodD)) := Row.nil _ _ _
  clear hL
  go_enter func69, ntmps69
  go_wp2_with fail
  go_ret
  exact ⟨_, rfl, HP.out⟩
 ·
  have hE := fun w => Lib.run_eql_slice_nil (P := prog) w 54 33 (some ad) n cap 0 0 underlying54
  have hL' : SlAt RPod 16 296 (Lo A w) w (some ad) n cap L := hL.weak RPod.firm (fun b hb h => ⟨h, hb⟩)
  obtain ⟨xs, hc, hcell, hone⟩ := (hL'.on RPod.firm hb0).chunks RPod.firm
  have hn := hL.1
  have hbb := hL.2.2.2.1
  subst hn
  have HR : Hid (Row RPod 16 (Lo A w) w (w.alloc (.cells #[] 33)) 33 (.slice (some ⟨w.heap.size, 0, none⟩) 0 0) ([] : List PodD)) := Row.start _ w w _ (Below.refl _ _)
  have HC : Hid (Chunks RPod 16 (fun b => Lo A w b ∧ Value.ownBlock (.slice (some ⟨w.heap.size, 0, none⟩) 0 0) ≠ some b) (w.alloc (.cells #[] 33)) xs L) := hc.weak RPod.firm (fun b _ h => ⟨h, by simp only [Value.ownBlock, ne_eq, Option.some.injEq]; have := h.2; omega⟩)
  have HX : Hid (∀ j y, xs[j]? = some y → (w.alloc (.cells #[] 33)).cell? (ad.add j) = some y) := hcell
  have HO : Hid (∀ y ∈ xs, y.oneCell' = true) := hone
  clear hc hcell hone hL hL'
  go_enter func69, ntmps69
  go_wp2_with (at_builtin; go_must (refine row_append RPod.firm (A := Lo A w) (w0 := w) rfl _ _ 54 33 rfl _ 296 infcPod underlying54 rfl (by decide) (by decide) _ [] rfl HR.out ad L.length cap xs L rfl rfl HC.out HX.out HO.out (by simp; omega) ?_); intro v1 w1 hrow1 hg1)
  go_ret
  exact ⟨_, rfl, by simpa using hrow1⟩
theorem infcNode : (prog.info? 36).map (fun i => (i.zero, i.size, i.bytes)) = some (some (.agg #[.string ⟨#[]⟩, Z, Z, .bool false, .int .i64 0, .int .i64 0, .int .i64 0, .int .i64 0, .int .i64 0]), 9, 112) := by kernel_rfl
theorem CloneNode (a : Option Addr) (n cap : Nat) (A : Where) (L : List NodeD) (w : World) (hL : SlAt RNode 9 112 A w a n cap L) : Calls prog 70 #[.slice a n cap] w fun e w' => ∃ v, e = .returned v ∧ Row RNode 9 (Lo A w) w w' 36 v L := by
 have hb0 : Below w.heap.size w (w.alloc (.cells #[] 36)) := by go_grown
 rcases a with _ | ad
 ·
  have hE := fun w => Lib.run_eql_slice_nil (P := prog) w 55 36 none 0 0 0 0 underlying55
  obtain ⟨rfl, rfl, rfl⟩ := sl_none hL
  have HP : Hid (Row RNode 9 (Lo A w) w w 36 (Z) ([] : List NodeD)) := Row.nil _ _ _
  clear hL
  go_enter func70, ntmps70
  go_wp2_with fail
  go_ret
  exact ⟨_, rfl, HP.out⟩
 ·
  have hE := fun w => Lib.run_eql_slice_nil (P := prog) w 55 36 (some ad) n cap 0 0 underlying55
  have hL' : SlAt RNode 9 112 (Lo A w) w (some ad) n cap L := hL.weak RNode.firm (fun b hb h => ⟨h, hb⟩)
  obtain ⟨xs, hc, hcell, hone⟩ := (hL'.on RNode.firm hb0).chunks RNode.firm
  have hn := hL.1
  have hbb := hL.2.2.2.1
  subst hn
  have HR : Hid (Row RNode 9 (Lo A w) w (w.alloc (.cells #[] 36)) 36 (.slice (some ⟨w.heap.size, 0, none⟩) 0 0) ([] : List NodeD)) := Row.start _ w w _ (Below.refl _ _)
  have HC : Hid (Chunks RNode 9 (fun b => Lo A w b ∧ Value.ownBlock (.slice (some ⟨w.heap.size, 0, none⟩) 0 0) ≠ some b) (w.alloc (.cells #[] 36)) xs L) := hc.weak RNode.firm (fun b _ h => ⟨h, by simp only [Value.ownBlock, ne_eq, Option.some.injEq]; have := h.2; omega⟩)
  have HX : Hid (∀ j y, xs[j]? = some y → (w.alloc (.cells #[] 36)).cell? (ad.add j) = some y) := hcell
  have HO : Hid (∀ y ∈ xs, y.oneCell' = true) := hone
  clear hc hcell hone hL hL'
  go_enter func70, ntmps70
  go_wp2_with (at_builtin; go_must (refine row_append RNode.firm (A := Lo A w) (w0 := w) rfl _ _ 55 36 rfl _ 112 infcNode underlying55 rfl (by decide) (by decide) _ [] rfl HR.out ad L.length cap xs L rfl rfl HC.out HX.out HO.out (by simp; omega) ?_); intro v1 w1 hrow1 hg1)
  go_ret
  exact ⟨_, rfl, by simpa using hrow1⟩
theorem infcVolume : (prog.info? 38).map (fun i => (i.zero, i.size, i.bytes)) = some (some (.agg #[.string ⟨#[]⟩, .int .i64 0, .string ⟨#[]⟩, Z, .string ⟨#[]⟩]), 5, 80) := by kernel_rfl
theorem CloneVolume (a : Option Addr) (n cap : Nat) (A : Where) (L : List VolumeD) (w : World) (hL : SlAt RVolume 5 80 A w a n cap L) : Calls prog 71 #[.slice a n cap] w fun e w' => ∃ v, e = .returned v ∧ Row RVolume 5 (Lo A w) w w' 38 v L := by
 have hb0 : Below w.heap.size w (w.alloc (.cells #[] 38)) := by go_grown
 rcases a with _ | ad
 ·
  have hE := fun w => Lib.run_eql_slice_nil (P := prog) w 56 38 none 0 0 0 0 underlying56
  obtain ⟨rfl, rfl, rfl⟩ := sl_none hL
  have HP : Hid (Row RVolume 5 (Lo A w) w w 38 (Z) ([] : List VolumeD)) := Row.nil _ _ _
  clear hL
  go_enter func71, ntmps71
  go_wp2_with fail
  go_ret
  exact ⟨_, rfl, HP.out⟩
 ·
  have hE := fun w => Lib.run_eql_slice_nil (P := prog) w 56 38 (some ad) n cap 0 0 underlying56
  have hL' : SlAt RVolume 5 80 (Lo A w) w (some ad) n cap L := hL.weak RVolume.firm (fun b hb h => ⟨h, hb⟩)
  obtain ⟨xs, hc, hcell, hone⟩ := (hL'.on RVolume.firm hb0).chunks RVolume.firm
  have hn := hL.1
  have hbb := hL.2.2.2.1
  subst hn
  have HR : Hid (Row RVolume 5 (Lo A w) w (w.alloc (.cells #[] 38)) 38 (.slice (some ⟨w.heap.size, 0, none⟩) 0 0) ([] : List VolumeD)) := Row.start _ w w _ (Below.refl _ _)
  have HC : Hid (Chunks RVolume 5 (fun b => Lo A w b ∧ Value.ownBlock (.slice (some ⟨w.heap.size, 0, none⟩) 0 0) ≠ some b) (w.alloc (.cells #[] 38)) xs L) := hc.weak RVolume.firm (fun b _ h => ⟨h, by simp only [Value.ownBlock, ne_eq, Option.some.injEq]; have := h.2; omega⟩)
  have HX : Hid (∀ j y, xs[j]? = some y → (w.alloc (.cells #[] 38)).cell? (ad.add j) = some y) := hcell
  have HO : Hid (∀ y ∈ xs, y.oneCell' = true) := hone
  clear hc hcell hone hL hL'
  go_enter func71, ntmps71
  go_wp2_with (at_builtin; go_must (refine row_append RVolume.firm (A := Lo A w) (w0 := w) rfl _ _ 56 38 rfl _ 80 infcVolume underlying56 rfl (by decide) (by decide) _ [] rfl HR.out ad L.length cap xs L rfl rfl HC.out HX.out HO.out (by simp; omega) ?_); intro v1 w1 hrow1 hg1)
  go_ret
  exact ⟨_, rfl, by simpa using hrow1⟩
theorem infcClaim : (prog.info? 40).map (fun i => (i.zero, i.size, i.bytes)) = some (some (.agg #[.string ⟨#[]⟩, .int .i64 0, .string ⟨#[]⟩, .string ⟨#[]⟩]), 4, 56) := by kernel_rfl
theorem CloneClaim (a : Option Addr) (n cap : Nat) (A : Where) (L : List ClaimD) (w : World) (hL : SlAt RClaim 4 56 A w a n cap L) : Calls prog 72 #[.slice a n cap] w fun e w' => ∃ v, e = .returned v ∧ Row RClaim 4 (Lo A w) w w' 40 v L := by
 have hb0 : Below w.heap.size w (w.alloc (.cells #[] 40)) := by go_grown
 rcases a with _ | ad
 ·
  have hE := fun w => Lib.run_eql_slice_nil (P := prog) w 57 40 none 0 0 0 0 underlying57
  obtain ⟨rfl, rfl, rfl⟩ := sl_none hL
  have HP : Hid (Row RClaim 4 (Lo A w) w w 40 (Z) ([] : List ClaimD)) := Row.nil _ _ _
  clear hL
  go_enter func72, ntmps72
  go_wp2_with fail
  go_ret
  exact ⟨_, rfl, HP.out⟩
 ·
  have hE := fun w => Lib.run_eql_slice_nil (P := prog) w 57 40 (some ad) n cap 0 0 underlying57
  have hL' : SlAt RClaim 4 56 (Lo A w) w (some ad) n cap L := hL.weak RClaim.firm (fun b hb h => ⟨h, hb⟩)
  obtain ⟨xs, hc, hcell, hone⟩ := (hL'.on RClaim.firm hb0).chunks RClaim.firm
  have hn := hL.1
  have hbb := hL.2.2.2.1
  subst hn
  have HR : Hid (Row RClaim 4 (Lo A w) w (w.alloc (.cells #[] 40)) 40 (.slice (some ⟨w.heap.size, 0, none⟩) 0 0) ([] : List ClaimD)) := Row.start _ w w _ (Below.refl _ _)
  have HC : Hid (Chunks RClaim 4 (fun b => Lo A w b ∧ Value.ownBlock (.slice (some ⟨w.heap.size, 0, none⟩) 0 0) ≠ some b) (w.alloc (.cells #[] 40)) xs L) := hc.weak RClaim.firm (fun b _ h => ⟨h, by simp only [Value.ownBlock, ne_eq, Option.some.injEq]; have := h.2; omega⟩)
  have HX : Hid (∀ j y, xs[j]? = some y → (w.alloc (.cells #[] 40)).cell? (ad.add j) = some y) := hcell
  have HO : Hid (∀ y ∈ xs, y.oneCell' = true) := hone
  clear hc hcell hone hL hL'
  go_enter func72, ntmps72
  go_wp2_with (at_builtin; go_must (refine row_append RClaim.firm (A := Lo A w) (w0 := w) rfl _ _ 57 40 rfl _ 56 infcClaim underlying57 rfl (by decide) (by decide) _ [] rfl HR.out ad L.length cap xs L rfl rfl HC.out HX.out HO.out (by simp; omega) ?_); intro v1 w1 hrow1 hg1)
  go_ret
  exact ⟨_, rfl, by simpa using hrow1⟩
theorem infcClass : (prog.info? 42).map (fun i => (i.zero, i.size, i.bytes)) = some (some (.agg #[.string ⟨#[]⟩, .bool false]), 2, 24) := by kernel_rfl
theorem CloneClass (a : Option Addr) (n cap : Nat) (A : Where) (L : List ClassD) (w : World) (hL : SlAt RClass 2 24 A w a n cap L) : Calls prog 73 #[.slice a n cap] w fun e w' => ∃ v, e = .returned v ∧ Row RClass 2 (Lo A w) w w' 42 v L := by
 have hb0 : Below w.heap.size w (w.alloc (.cells #[] 42)) := by go_grown
 rcases a with _ | ad
 ·
  have hE := fun w => Lib.run_eql_slice_nil (P := prog) w 58 42 none 0 0 0 0 underlying58
  obtain ⟨rfl, rfl, rfl⟩ := sl_none hL
  have HP : Hid (Row RClass 2 (Lo A w) w w 42 (Z) ([] : List ClassD)) := Row.nil _ _ _
  clear hL
  go_enter func73, ntmps73
  go_wp2_with fail
  go_ret
  exact ⟨_, rfl, HP.out⟩
 ·
  have hE := fun w => Lib.run_eql_slice_nil (P := prog) w 58 42 (some ad) n cap 0 0 underlying58
  have hL' : SlAt RClass 2 24 (Lo A w) w (some ad) n cap L := hL.weak RClass.firm (fun b hb h => ⟨h, hb⟩)
  obtain ⟨xs, hc, hcell, hone⟩ := (hL'.on RClass.firm hb0).chunks RClass.firm
  have hn := hL.1
  have hbb := hL.2.2.2.1
  subst hn
  have HR : Hid (Row RClass 2 (Lo A w) w (w.alloc (.cells #[] 42)) 42 (.slice (some ⟨w.heap.size, 0, none⟩) 0 0) ([] : List ClassD)) := Row.start _ w w _ (Below.refl _ _)
  have HC : Hid (Chunks RClass 2 (fun b => Lo A w b ∧ Value.ownBlock (.slice (some ⟨w.heap.size, 0, none⟩) 0 0) ≠ some b) (w.alloc (.cells #[] 42)) xs L) := hc.weak RClass.firm (fun b _ h => ⟨h, by simp only [Value.ownBlock, ne_eq, Option.some.injEq]; have := h.2; omega⟩)
  have HX : Hid (∀ j y, xs[j]? = some y → (w.alloc (.cells #[] 42)).cell? (ad.add j) = some y) := hcell
  have HO : Hid (∀ y ∈ xs, y.oneCell' = true) := hone
  clear hc hcell hone hL hL'
  go_enter func73, ntmps73
  go_wp2_with (at_builtin; go_must (refine row_append RClass.firm (A := Lo A w) (w0 := w) rfl _ _ 58 42 rfl _ 24 infcClass underlying58 rfl (by decide) (by decide) _ [] rfl HR.out ad L.length cap xs L rfl rfl HC.out HX.out HO.out (by simp; omega) ?_); intro v1 w1 hrow1 hg1)
  go_ret
  exact ⟨_, rfl, by simpa using hrow1⟩
theorem infcBudget : (prog.info? 44).map (fun i => (i.zero, i.size, i.bytes)) = some (some (.agg #[.string ⟨#[]⟩, Z, .int .i64 0]), 3, 48) := by kernel_rfl
theorem CloneBudget (a : Option Addr) (n cap : Nat) (A : Where) (L : List BudgetD) (w : World) (hL : SlAt RBudget 3 48 A w a n cap L) : Calls prog 74 #[.slice a n cap] w fun e w' => ∃ v, e = .returned v ∧ Row RBudget 3 (Lo A w) w w' 44 v L := by
 have hb0 : Below w.heap.size w (w.alloc (.cells #[] 44)) := by go_grown
 rcases a with _ | ad
 ·
  have hE := fun w => Lib.run_eql_slice_nil (P := prog) w 59 44 none 0 0 0 0 underlying59
  obtain ⟨rfl, rfl, rfl⟩ := sl_none hL
  have HP : Hid (Row RBudget 3 (Lo A w) w w 44 (Z) ([] : List BudgetD)) := Row.nil _ _ _
  clear hL
  go_enter func74, ntmps74
  go_wp2_with fail
  go_ret
  exact ⟨_, rfl, HP.out⟩
 ·
  have hE := fun w => Lib.run_eql_slice_nil (P := prog) w 59 44 (some ad) n cap 0 0 underlying59
  have hL' : SlAt RBudget 3 48 (Lo A w) w (some ad) n cap L := hL.weak RBudget.firm (fun b hb h => ⟨h, hb⟩)
  obtain ⟨xs, hc, hcell, hone⟩ := (hL'.on RBudget.firm hb0).chunks RBudget.firm
  have hn := hL.1
  have hbb := hL.2.2.2.1
  subst hn
  have HR : Hid (Row RBudget 3 (Lo A w) w (w.alloc (.cells #[] 44)) 44 (.slice (some ⟨w.heap.size, 0, none⟩) 0 0) ([] : List BudgetD)) := Row.start _ w w _ (Below.refl _ _)
  have HC : Hid (Chunks RBudget 3 (fun b => Lo A w b ∧ Value.ownBlock (.slice (some ⟨w.heap.size, 0, none⟩) 0 0) ≠ some b) (w.alloc (.cells #[] 44)) xs L) := hc.weak RBudget.firm (fun b _ h => ⟨h, by simp only [Value.ownBlock, ne_eq, Option.some.injEq]; have := h.2; omega⟩)
  have HX : Hid (∀ j y, xs[j]? = some y → (w.alloc (.cells #[] 44)).cell? (ad.add j) = some y) := hcell
  have HO : Hid (∀ y ∈ xs, y.oneCell' = true) := hone
  clear hc hcell hone hL hL'
  go_enter func74, ntmps74
  go_wp2_with (at_builtin; go_must (refine row_append RBudget.firm (A := Lo A w) (w0 := w) rfl _ _ 59 44 rfl _ 48 infcBudget underlying59 rfl (by decide) (by decide) _ [] rfl HR.out ad L.length cap xs L rfl rfl HC.out HX.out HO.out (by simp; omega) ?_); intro v1 w1 hrow1 hg1)
  go_ret
  exact ⟨_, rfl, by simpa using hrow1⟩
theorem Pod_name (s : ByteArray) (r : List Value) (w : World) : Calls prog 96 #[.agg #[], .agg (.string s :: r).toArray] w fun e w' => e = .returned (.string s) ∧ Below w.heap.size w w' := by
 go_enter func96, ntmps96
 go_wp2_with fail
 go_ret
 exact ⟨rfl, by go_grown⟩
theorem Pod_list (v0 v1 v2 v3 v4 v5 : Value) (w : World) : Calls prog 339 #[.agg #[], .agg #[v0, v1, v2, v3, v4, v5]] w fun e w' => e = .returned v0 ∧ Below w.heap.size w w' := by
 go_enter func339, ntmps339
 go_wp2_with fail
 go_ret
 exact ⟨rfl, by go_grown⟩
theorem Node_name (s : ByteArray) (r : List Value) (w : World) : Calls prog 180 #[.agg #[], .agg (.string s :: r).toArray] w fun e w' => e = .returned (.string s) ∧ Below w.heap.size w w' := by
 go_enter func180, ntmps180
 go_wp2_with fail
 go_ret
 exact ⟨rfl, by go_grown⟩
theorem Node_list (v0 v1 v2 v3 v4 v5 : Value) (w : World) : Calls prog 178 #[.agg #[], .agg #[v0, v1, v2, v3, v4, v5]] w fun e w' => e = .returned v1 ∧ Below w.heap.size w w' := by
 go_enter func178, ntmps178
 go_wp2_with fail
 go_ret
 exact ⟨rfl, by go_grown⟩
theorem Volume_name (s : ByteArray) (r : List Value) (w : World) : Calls prog 217 #[.agg #[], .agg (.string s :: r).toArray] w fun e w' => e = .returned (.string s) ∧ Below w.heap.size w w' := by
 go_enter func217, ntmps217
 go_wp2_with fail
 go_ret
 exact ⟨rfl, by go_grown⟩
theorem Volume_list (v0 v1 v2 v3 v4 v5 : Value) (w : World) : Calls prog 215 #[.agg #[], .agg #[v0, v1, v2, v3, v4, v5]] w fun e w' => e = .returned v2 ∧ Below w.heap.size w w' := by
 go_enter func215, ntmps215
 go_wp2_with fail
 go_ret
 exact ⟨rfl, by go_grown⟩
theorem Claim_name (s : ByteArray) (r : List Value) (w : World) : Calls prog 248 #[.agg #[], .agg (.string s :: r).toArray] w fun e w' => e = .returned (.string s) ∧ Below w.heap.size w w' := by
 go_enter func248, ntmps248
 go_wp2_with fail
 go_ret
 exact ⟨rfl, by go_grown⟩
theorem Claim_list (v0 v1 v2 v3 v4 v5 : Value) (w : World) : Calls prog 246 #[.agg #[], .agg #[v0, v1, v2, v3, v4, v5]] w fun e w' => e = .returned v3 ∧ Below w.heap.size w w' := by
 go_enter func246, ntmps246
 go_wp2_with fail
 go_ret
 exact ⟨rfl, by go_grown⟩
theorem Class_name (s : ByteArray) (r : List Value) (w : World) : Calls prog 279 #[.agg #[], .agg (.string s :: r).toArray] w fun e w' => e = .returned (.string s) ∧ Below w.heap.size w w' := by
 go_enter func279, ntmps279
 go_wp2_with fail
 go_ret
 exact ⟨rfl, by go_grown⟩
theorem Class_list (v0 v1 v2 v3 v4 v5 : Value) (w : World) : Calls prog 277 #[.agg #[], .agg #[v0, v1, v2, v3, v4, v5]] w fun e w' => e = .returned v4 ∧ Below w.heap.size w w' := by
 go_enter func277, ntmps277
 go_wp2_with fail
 go_ret
 exact ⟨rfl, by go_grown⟩
theorem Budget_name (s : ByteArray) (r : List Value) (w : World) : Calls prog 310 #[.agg #[], .agg (.string s :: r).toArray] w fun e w' => e = .returned (.string s) ∧ Below w.heap.size w w' := by
 go_enter func310, ntmps310
 go_wp2_with fail
 go_ret
 exact ⟨rfl, by go_grown⟩
theorem Budget_list (v0 v1 v2 v3 v4 v5 : Value) (w : World) : Calls prog 308 #[.agg #[], .agg #[v0, v1, v2, v3, v4, v5]] w fun e w' => e = .returned v5 ∧ Below w.heap.size w w' := by
 go_enter func308, ntmps308
 go_wp2_with fail
 go_ret
 exact ⟨rfl, by go_grown⟩
theorem infoObj : (prog.info? 46).map (·.size) = some 40 := by kernel_rfl
theorem infoSta : (prog.info? 61).map (·.size) = some 6 := by kernel_rfl
end Go.Proofs.YtopimokncibdgaaGreat

