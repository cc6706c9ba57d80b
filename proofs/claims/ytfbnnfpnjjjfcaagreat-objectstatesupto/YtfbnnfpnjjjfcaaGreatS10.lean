/- A row of one's own, and the blocks of struct variables beside it; an append of a whole slice, empty or not; facts that stay while a variable's block is written, and its like. No condition beyond what each says. -/
import Derived.Deep.MidRow
import Derived.Test.YtfbnnfpnjjjfcaaGreatS09
namespace Go.Proofs.YtfbnnfpnjjjfcaaGreat
set_option maxHeartbeats 16000000
set_option maxRecDepth 100000
open Tryz Go.RowKit
set_option linter.unusedSimpArgs false
theorem below_both {w u : World} (h : Below w.heap.size w u) {p : Addr} (hp : p.block < w.heap.size) (x : Value) : Below (w.setCell p x).heap.size (w.setCell p x) (u.setCell p x) := by
 refine ⟨h.os, h.tape, h.output, by simpa using h.size, fun k hk => ?_⟩
 have hk' : k < w.heap.size := by simpa using hk
 by_cases e : k = p.block
 ·
  subst e
  have := h.block p.block hp
  simp only [World.setCell, Array.getElem?_modify, if_true]
  rw [this]
 ·
  rw [Below.heap_setCell _ _ _ _ e, Below.heap_setCell _ _ _ _ e]
  exact h.block k hk'
section
variable {α : Type} [Inhabited α] {R : Rep α} {k : Nat}
theorem Row.both (hR : Firm R k) {A : Where} {w u : World} {e : TypeId} {v : Value} {L : List α} (h : Row R k A w u e v L) {p : Addr} (hp : p.block < w.heap.size) (hA : ¬ A p.block) (x : Value) : Row R k A (w.setCell p x) (u.setCell p x) e v L := by
 obtain ⟨xs, h1, h2⟩ := h
 refine ⟨xs, ⟨below_both h1.1 hp x, ?_⟩, h2.kept hR (Kept.set (fun h => hA h.1) _)⟩
 have := ownsRow_setCell_below h1.2 hp x
 simpa using this
theorem Fresh.setCell (w : World) (p : Addr) (x : Value) : Fresh (w.setCell p x) = Fresh w := by funext b; simp [Fresh]
theorem Row.bothF (hR : Firm R k) {w u : World} {e : TypeId} {v : Value} {L : List α} (h : Row R k (Fresh w) w u e v L) {p : Addr} (hp : p.block < w.heap.size) (x : Value) : Row R k (Fresh (w.setCell p x)) (w.setCell p x) (u.setCell p x) e v L := by
 rw [Fresh.setCell]; exact h.both hR hp (Fresh.not hp) x
def Src (R : Rep α) (k : Nat) (A : Where) (u : World) (a : Option Addr) (m : Nat) (N : List α) : Prop :=
 N.length = m ∧ ((a = none ∧ N = []) ∨ ∃ ad xs, a = some ad ∧ Chunks R k A u xs N ∧ (∀ j y, xs[j]? = some y → u.cell? (ad.add j) = some y) ∧ ∀ y ∈ xs, y.oneCell' = true)
theorem SlAt.src (hR : Firm R k) {bytes : Nat} {A : Where} {u : World} {a : Option Addr} {m c : Nat} {N : List α} (h : SlAt R k bytes A u a m c N) : Src R k A u a m N := by
 cases a with
 | none => obtain ⟨_, _, h3⟩ := sl_none h; exact ⟨h.1, .inl ⟨rfl, h3⟩⟩
 | some ad => obtain ⟨xs, h1, h2, h3⟩ := h.chunks hR; exact ⟨h.1, .inr ⟨ad, xs, rfl, h1, h2, h3⟩⟩
theorem Src.flat (hF : Flat R) {A A' : Where} {u : World} {a : Option Addr} {m : Nat} {N : List α} (h : Src R k A u a m N) : Src R k A' u a m N := by
 obtain ⟨h1, h2⟩ := h
 refine ⟨h1, ?_⟩
 rcases h2 with h2 | ⟨ad, xs, e, h3, h4, h5⟩
 ·
  exact .inl h2
 ·
  exact .inr ⟨ad, xs, e, h3.flat hF, h4, h5⟩
theorem Src.weak (hR : Firm R k) {A A' : Where} {u : World} {a : Option Addr} {m : Nat} {N : List α} (h : Src R k A u a m N) (hA : ∀ b, b < u.heap.size → A b → A' b) : Src R k A' u a m N := by
 obtain ⟨h1, h2⟩ := h
 refine ⟨h1, ?_⟩
 rcases h2 with h2 | ⟨ad, xs, e, h3, h4, h5⟩
 ·
  exact .inl h2
 ·
  exact .inr ⟨ad, xs, e, h3.weak hR hA, h4, h5⟩
theorem row_appendS_wp (hR : Firm R k) {o : Oper} {a : Act} {K : Act → World → Prop} {Q : Exit → Act → World → Prop} {A : Where} {w0 u : World} (s x : Operand) (t e : TypeId)
  (ho : o.op = .call { callee := .builtin .append, args := #[s, x], argTypes := #[t, t] }) (z : Value) (bytes : Nat) (hinfo : (prog.info? e).map (fun i => (i.zero, i.size, i.bytes)) = some (some z, k, bytes)) (ht : prog.underlying t = some (.slice e)) (hzs : z.cells.size = k) (hk0 : 0 < k) (hby : 1 ≤ bytes)
  (v : Value) (L : List α) (hs : a.eval s = v) (hrow : Row R k A w0 u e v L)
  (ad : Option Addr) (m c : Nat) (N : List α) (hx : a.eval x = .slice ad m c) (hN : Src R k (fun b => A b ∧ v.ownBlock ≠ some b) u ad m N) (hb : (L.length + N.length) * bytes ≤ 140737488355328)
  (h : ∀ v' u', Row R k A w0 u' e v' (L ++ N) → u.grownBy u' v.ownBlock → K (a.put o.dst v') u') : o.wp prog a u K Q := by
 obtain ⟨hm, hN⟩ := hN
 rcases hN with ⟨rfl, rfl⟩ | ⟨ad, xs, rfl, h1, h2, h3⟩
 ·
  obtain rfl : m = 0 := by simpa using hm.symm
  obtain ⟨i0, hi, hz0, hz1, hz2⟩ := info_parts hinfo
  have hr : ∀ ty, (Builtin.append_ #[t, t] ty #[v, .slice none 0 c]).run prog u = .ok v u := by
   intro ty
   obtain ⟨xs, hown, _⟩ := hrow
   rcases hown.2.2 with ⟨rfl, _⟩ | ⟨g, cap, cur, rfl, _, hg, hnc, _⟩
   ·
    simp [Builtin.append_, run_underlying ht, sizeOf, typeInfo, hi, Builtin.lenOf, Builtin.firstCells, loadCells, loadCellsFrom]
   ·
    simp [Builtin.append_, run_underlying ht, sizeOf, typeInfo, hi, Builtin.lenOf, Builtin.firstCells, loadCells, loadCellsFrom, hnc, storeCells]
  unfold Oper.wp execOp
  simp only [ho, resolve, invoke, builtin, Sem.run_bind, Sem.run_pure, Result.andThen_ok, List.map_toArray, List.map_cons, List.map_nil, hs, hx, hr]
  exact h v u (by simpa using hrow) ⟨rfl, rfl, rfl, Nat.le_refl _, fun _ _ _ => rfl⟩
 ·
  exact row_append_wp hR s x t e ho z bytes hinfo ht hzs hk0 hby v L hs hrow ad m c xs N hm hx h1 h2 h3 hb h
theorem row_appendS (hR : Firm R k) {ops : Array Oper} {rest : List Oper} {o : Oper} {a : Act} {Q : Exit → Act → World → Prop} {A : Where} {w0 u : World} (hgd : Region.wanted o (yielded ops a.tmps) = true) (s x : Operand) (t e : TypeId)
  (ho : o.op = .call { callee := .builtin .append, args := #[s, x], argTypes := #[t, t] }) (z : Value) (bytes : Nat) (hinfo : (prog.info? e).map (fun i => (i.zero, i.size, i.bytes)) = some (some z, k, bytes)) (ht : prog.underlying t = some (.slice e)) (hzs : z.cells.size = k) (hk0 : 0 < k) (hby : 1 ≤ bytes)
  (v : Value) (L : List α) (hs : a.eval s = v) (hrow : Row R k A w0 u e v L)
  (ad : Option Addr) (m c : Nat) (N : List α) (hx : a.eval x = .slice ad m c) (hN : Src R k (fun b => A b ∧ v.ownBlock ≠ some b) u ad m N) (hb : (L.length + N.length) * bytes ≤ 140737488355328)
  (h : ∀ v' u', Row R k A w0 u' e v' (L ++ N) → u.grownBy u' v.ownBlock → wpList prog ops Q rest (a.put o.dst v') u') : wpList prog ops Q (o :: rest) a u :=
 BigFrame.wpList_want hgd (fun _ hK => row_appendS_wp hR s x t e ho z bytes hinfo ht hzs hk0 hby v L hs hrow ad m c N hx hN hb (fun v' u' h2 h3 => hK _ _ (h v' u' h2 h3)))
end
theorem BoxL.range {u : World} {D : Nat} {cs : List Value} (h : BoxL u D cs) : u.rangeAt D 0 cs := fun j v hj => by rw [Nat.zero_add]; exact (h.2 j v hj).1
theorem BoxL.there {u : World} {D : Nat} {cs : List Value} (h : BoxL u D cs) : u.there D 0 cs.length := fun j hj => by
 have := h.2 j cs[j] (List.getElem?_eq_getElem hj)
 rw [Nat.zero_add, this.1, this.2]
 exact ⟨rfl, rfl⟩
def Stays (W : World) (G : World → Prop) : Prop := ∀ u u', G u → Kept (Fresh W) u u' → G u'
theorem Stays.none (W : World) : Stays W (fun _ => True) := fun _ _ _ _ => trivial
theorem Stays.add {α : Type} [Inhabited α] {R : Rep α} {k bytes : Nat} {W u : World} {G : World → Prop} (hG : Stays W G) (hg : G u) (hR : Firm R k) {a : Option Addr} {n c : Nat} {L : List α} (hs : SlAt R k bytes (Fresh W) u a n c L) :
  ∃ G', Stays W G' ∧ G' u ∧ (∀ v, G' v → G v) ∧ ∀ v, G' v → SlAt R k bytes (Fresh W) v a n c L :=
 ⟨fun v => G v ∧ SlAt R k bytes (Fresh W) v a n c L, fun _ _ h k => ⟨hG _ _ h.1 k, h.2.kept hR k⟩, ⟨hg, hs⟩, fun _ h => h.1, fun _ h => h.2⟩
theorem emptyL_nil {α : Type} [DecidableEq α] (L : List α) : decide (L = []) = emptyL L := by cases L <;> simp [emptyL]
def scal (x : PodD) : Bool := sNil x.1 && (x.2.1 == 0) && resZ x.2.2.2.1 && sNil x.2.2.2.2.2.2.2.2.2.2.2.2.1 && sNil x.2.2.2.2.2.2.2.2.2.2.2.2.2
theorem Hid.mk_ {p : Prop} (h : p) : Hid p := h
theorem range_mid {w : World} {b o : Nat} {l1 l2 l3 : List Value} (h : w.rangeAt b 0 (l1 ++ (l2 ++ l3))) (ho : l1.length = o) : w.rangeAt b o l2 := fun j v hj => by
 have hlt : j < l2.length := (List.getElem?_eq_some_iff.1 hj).1
 have := h (l1.length + j) v (by rw [List.getElem?_append_right (by omega), Nat.add_sub_cancel_left, List.getElem?_append_left hlt]; exact hj)
 rw [← ho]
 simpa using this
structure ObjR (u : World) (D : Nat) (k : Int) (p n v m l b : List Value) : Prop where
 k : u.cell? ⟨D, 0, none⟩ = some (.int .i64 k)
 p : u.rangeAt D 1 p
 n : u.rangeAt D 17 n
 v : u.rangeAt D 26 v
 m : u.rangeAt D 31 m
 l : u.rangeAt D 35 l
 b : u.rangeAt D 37 b
structure ObjL (p n v m l b : List Value) : Prop where
 p : p.length = 16
 n : n.length = 9
 v : v.length = 5
 m : m.length = 4
 l : l.length = 2
 b : b.length = 3
theorem ObjL.all {k : Int} {p n v m l b : List Value} (h : ObjL p n v m l b) : ([Value.int .i64 k] ++ (p ++ (n ++ (v ++ (m ++ (l ++ b)))))).length = 40 := by
 simp only [List.length_append, List.length_cons, List.length_nil, h.p, h.n, h.v, h.m, h.l, h.b]
theorem objR {u : World} {D : Nat} {k : Int} {p n v m l b : List Value} (h : u.rangeAt D 0 ([Value.int .i64 k] ++ (p ++ (n ++ (v ++ (m ++ (l ++ b))))))) (hl : ObjL p n v m l b) : ObjR u D k p n v m l b := by
 have e := hl
 refine ⟨?_, range_mid h rfl, range_mid (l1 := [Value.int .i64 k] ++ p) (l3 := v ++ (m ++ (l ++ b))) ?_ ?_, range_mid (l1 := [Value.int .i64 k] ++ p ++ n) (l3 := m ++ (l ++ b)) ?_ ?_, range_mid (l1 := [Value.int .i64 k] ++ p ++ n ++ v) (l3 := l ++ b) ?_ ?_, range_mid (l1 := [Value.int .i64 k] ++ p ++ n ++ v ++ m) (l3 := b) ?_ ?_, range_mid (l1 := [Value.int .i64 k] ++ p ++ n ++ v ++ m ++ l) (l3 := []) ?_ ?_⟩
 ·
  have := h 0 (.int .i64 k) rfl
  simpa using this
 all_goals first | (simpa only [List.append_assoc, List.append_nil] using h) | (simp only [List.length_append, List.length_cons, List.length_nil, e.p, e.n, e.v, e.m, e.l])
theorem info_of {T : TypeId} {n : Nat} {c : List Value} (h : (prog.info? T).map (·.size) = some n) (hc : c.length = n) : (prog.info? T).map (·.size) = some c.length := by rw [hc]; exact h
theorem iszPod : (prog.info? 33).map (·.size) = some 16 := by kernel_rfl
theorem iszNode : (prog.info? 36).map (·.size) = some 9 := by kernel_rfl
theorem iszVolume : (prog.info? 38).map (·.size) = some 5 := by kernel_rfl
theorem iszClaim : (prog.info? 40).map (·.size) = some 4 := by kernel_rfl
theorem iszClass : (prog.info? 42).map (·.size) = some 2 := by kernel_rfl
theorem iszBudget : (prog.info? 44).map (·.size) = some 3 := by kernel_rfl
theorem SameObject_of (k k' : Int) (p n v m l b p' n' v' m' l' b' : List Value) (hl : ObjL p n v m l b) (hl' : ObjL p' n' v' m' l' b') (w : World) (t0 t1 t2 t3 t4 t5 t6 : Bool) (h0 : (k == k') = t0) (Hp : Hid (∀ u, Below w.heap.size w u → Calls prog 41 #[.agg p.toArray, .agg p'.toArray] u fun e w' => e = .returned (.bool t1) ∧ Below u.heap.size u w')) (Hn : Hid (∀ u, Below w.heap.size w u → Calls prog 42 #[.agg n.toArray, .agg n'.toArray] u fun e w' => e = .returned (.bool t2) ∧ Below u.heap.size u w')) (Hv : Hid (∀ u, Below w.heap.size w u → Calls prog 43 #[.agg v.toArray, .agg v'.toArray] u fun e w' => e = .returned (.bool t3) ∧ Below u.heap.size u w')) (Hm : ∀ u, Sem.run prog (binOp .eql 40 (.agg m.toArray) (.agg m'.toArray)) u = .ok (.bool t4) u) (Hl : ∀ u, Sem.run prog (binOp .eql 42 (.agg l.toArray) (.agg l'.toArray)) u = .ok (.bool t5) u) (Hb : Hid (∀ u, Below w.heap.size w u → Calls prog 44 #[.agg b.toArray, .agg b'.toArray] u fun e w' => e = .returned (.bool t6) ∧ Below u.heap.size u w')) : Calls prog 13 #[.agg ([Value.int .i64 k] ++ (p ++ (n ++ (v ++ (m ++ (l ++ b)))))).toArray, .agg ([Value.int .i64 k'] ++ (p' ++ (n' ++ (v' ++ (m' ++ (l' ++ b')))))).toArray] w fun e w' => e = .returned (.bool (t0 && t1 && t2 && t3 && t4 && t5 && t6)) ∧ Below w.heap.size w w' := by
 have H0 : Hid (Held w [(w.heap.size + 1, [Value.int .i64 k'] ++ (p' ++ (n' ++ (v' ++ (m' ++ (l' ++ b')))))), (w.heap.size, [Value.int .i64 k] ++ (p ++ (n ++ (v ++ (m ++ (l ++ b))))))] [] ((w.alloc (.cells ([Value.int .i64 k] ++ (p ++ (n ++ (v ++ (m ++ (l ++ b)))))).toArray 46)).alloc (.cells ([Value.int .i64 k'] ++ (p' ++ (n' ++ (v' ++ (m' ++ (l' ++ b')))))).toArray 46))) := ((Held.start w).push rfl _ _).push (by simp) _ _
 have hip := info_of iszPod hl.p
 have hip' := info_of iszPod hl'.p
 have hin := info_of iszNode hl.n
 have hin' := info_of iszNode hl'.n
 have hiv := info_of iszVolume hl.v
 have hiv' := info_of iszVolume hl'.v
 have him := info_of iszClaim hl.m
 have him' := info_of iszClaim hl'.m
 have hil := info_of iszClass hl.l
 have hil' := info_of iszClass hl'.l
 have hib := info_of iszBudget hl.b
 have hib' := info_of iszBudget hl'.b
 have HR : Hid (∀ u, Held w [(w.heap.size + 1, [Value.int .i64 k'] ++ (p' ++ (n' ++ (v' ++ (m' ++ (l' ++ b')))))), (w.heap.size, [Value.int .i64 k] ++ (p ++ (n ++ (v ++ (m ++ (l ++ b))))))] [] u → ObjR u w.heap.size k p n v m l b ∧ ObjR u (w.heap.size + 1) k' p' n' v' m' l' b') := fun u hu => ⟨objR (hu.get 1 rfl) hl, objR (hu.get 0 rfl) hl'⟩
 obtain ⟨cs, hcs⟩ : ∃ c, c = [Value.int .i64 k] ++ (p ++ (n ++ (v ++ (m ++ (l ++ b))))) := ⟨_, rfl⟩
 obtain ⟨ds, hds⟩ : ∃ c, c = [Value.int .i64 k'] ++ (p' ++ (n' ++ (v' ++ (m' ++ (l' ++ b'))))) := ⟨_, rfl⟩
 rw [← hcs, ← hds] at H0 HR ⊢
 clear hcs hds hl hl'
 obtain ⟨W2, hW2⟩ : ∃ W2, W2 = ((w.alloc (.cells cs.toArray 46)).alloc (.cells ds.toArray 46)) := ⟨_, rfl⟩
 rw [← hW2] at H0
 have hgC := guardC
 have hgM := guardM
 go_enter func13, ntmps13
 go_upto_region 1 with fail
 rw [← hW2]
 clear hW2
 have r := HR.out _ H0.out
 have kl := H0.out.lt 0 rfl
 have kl2 := H0.out.lt 1 rfl
 have z0 := r.1.k
 have z1 := r.2.k
 have Gp := Hid.mk_ r.1.p
 have Gp2 := Hid.mk_ r.2.p
 clear r
 cases t0
 ·
  go_wp2_with fail
  go_ret
  exact ⟨retb (by simp), H0.out.below⟩
 go_wp2_with (first | (refine BigFrame.wpList_want rfl (fun _ hKK => wp_load_mid 33 _ rfl (w.heap.size) 1 rfl p _ Gp.out underlying33 rfl hip (hKK _ _ ?_))) | (refine BigFrame.wpList_want rfl (fun _ hKK => wp_load_mid 33 _ rfl (w.heap.size + 1) 1 rfl p' _ Gp2.out underlying33 rfl hip' (hKK _ _ ?_))) | fail)
 clear Gp Gp2 z0 z1 kl kl2
 refine (Hp.out _ H0.out.below).mono ?_
 rintro e u1 ⟨rfl, hb⟩
 have H1 : Hid (Held w [(w.heap.size + 1, ds), (w.heap.size, cs)] [] u1) := H0.out.on hb
 clear hb H0 Hp
 cases t1
 ·
  go_wp2_with fail
  go_ret
  exact ⟨retb (by simp), H1.out.below⟩
 have r := HR.out _ H1.out
 have kl := H1.out.lt 0 rfl
 have kl2 := H1.out.lt 1 rfl
 have Gn := Hid.mk_ r.1.n
 have Gn2 := Hid.mk_ r.2.n
 clear r
 go_wp2_with (first | (refine BigFrame.wpList_want rfl (fun _ hKK => wp_load_mid 36 _ rfl (w.heap.size) 17 rfl n _ Gn.out underlying36 rfl hin (hKK _ _ ?_))) | (refine BigFrame.wpList_want rfl (fun _ hKK => wp_load_mid 36 _ rfl (w.heap.size + 1) 17 rfl n' _ Gn2.out underlying36 rfl hin' (hKK _ _ ?_))) | fail)
 clear Gn Gn2 kl kl2
 refine (Hn.out _ H1.out.below).mono ?_
 rintro e u2 ⟨rfl, hb⟩
 have H2 : Hid (Held w [(w.heap.size + 1, ds), (w.heap.size, cs)] [] u2) := H1.out.on hb
 clear hb H1 Hn
 cases t2
 ·
  go_wp2_with fail
  go_ret
  exact ⟨retb (by simp), H2.out.below⟩
 have r := HR.out _ H2.out
 have kl := H2.out.lt 0 rfl
 have kl2 := H2.out.lt 1 rfl
 have Gv := Hid.mk_ r.1.v
 have Gv2 := Hid.mk_ r.2.v
 clear r
 go_wp2_with (first | (refine BigFrame.wpList_want rfl (fun _ hKK => wp_load_mid 38 _ rfl (w.heap.size) 26 rfl v _ Gv.out underlying38 rfl hiv (hKK _ _ ?_))) | (refine BigFrame.wpList_want rfl (fun _ hKK => wp_load_mid 38 _ rfl (w.heap.size + 1) 26 rfl v' _ Gv2.out underlying38 rfl hiv' (hKK _ _ ?_))) | fail)
 clear Gv Gv2 kl kl2
 refine (Hv.out _ H2.out.below).mono ?_
 rintro e u3 ⟨rfl, hb⟩
 have H3 : Hid (Held w [(w.heap.size + 1, ds), (w.heap.size, cs)] [] u3) := H2.out.on hb
 clear hb H2 Hv
 cases t3
 ·
  go_wp2_with fail
  go_ret
  exact ⟨retb (by simp), H3.out.below⟩
 have r := HR.out _ H3.out
 have kl := H3.out.lt 0 rfl
 have kl2 := H3.out.lt 1 rfl
 have Gm := Hid.mk_ r.1.m
 have Gm2 := Hid.mk_ r.2.m
 have Gl := Hid.mk_ r.1.l
 have Gl2 := Hid.mk_ r.2.l
 have Gb := Hid.mk_ r.1.b
 have Gb2 := Hid.mk_ r.2.b
 clear r
 cases t4
 ·
  go_wp2_with (first | (refine BigFrame.wpList_want rfl (fun _ hKK => wp_load_mid 40 _ rfl (w.heap.size) 31 rfl m _ Gm.out underlying40 rfl him (hKK _ _ ?_))) | (refine BigFrame.wpList_want rfl (fun _ hKK => wp_load_mid 40 _ rfl (w.heap.size + 1) 31 rfl m' _ Gm2.out underlying40 rfl him' (hKK _ _ ?_))) | fail)
  go_ret
  exact ⟨retb (by simp), H3.out.below⟩
 cases t5
 ·
  go_wp2_with (first | (refine BigFrame.wpList_want rfl (fun _ hKK => wp_load_mid 40 _ rfl (w.heap.size) 31 rfl m _ Gm.out underlying40 rfl him (hKK _ _ ?_))) | (refine BigFrame.wpList_want rfl (fun _ hKK => wp_load_mid 40 _ rfl (w.heap.size + 1) 31 rfl m' _ Gm2.out underlying40 rfl him' (hKK _ _ ?_))) | (refine BigFrame.wpList_want rfl (fun _ hKK => wp_load_mid 42 _ rfl (w.heap.size) 35 rfl l _ Gl.out underlying42 rfl hil (hKK _ _ ?_))) | (refine BigFrame.wpList_want rfl (fun _ hKK => wp_load_mid 42 _ rfl (w.heap.size + 1) 35 rfl l' _ Gl2.out underlying42 rfl hil' (hKK _ _ ?_))) | fail)
  go_ret
  exact ⟨retb (by simp), H3.out.below⟩
 go_wp2_with (first | (refine BigFrame.wpList_want rfl (fun _ hKK => wp_load_mid 40 _ rfl (w.heap.size) 31 rfl m _ Gm.out underlying40 rfl him (hKK _ _ ?_))) | (refine BigFrame.wpList_want rfl (fun _ hKK => wp_load_mid 40 _ rfl (w.heap.size + 1) 31 rfl m' _ Gm2.out underlying40 rfl him' (hKK _ _ ?_))) | (refine BigFrame.wpList_want rfl (fun _ hKK => wp_load_mid 42 _ rfl (w.heap.size) 35 rfl l _ Gl.out underlying42 rfl hil (hKK _ _ ?_))) | (refine BigFrame.wpList_want rfl (fun _ hKK => wp_load_mid 42 _ rfl (w.heap.size + 1) 35 rfl l' _ Gl2.out underlying42 rfl hil' (hKK _ _ ?_))) | (refine BigFrame.wpList_want rfl (fun _ hKK => wp_load_mid 44 _ rfl (w.heap.size) 37 rfl b _ Gb.out underlying44 rfl hib (hKK _ _ ?_))) | (refine BigFrame.wpList_want rfl (fun _ hKK => wp_load_mid 44 _ rfl (w.heap.size + 1) 37 rfl b' _ Gb2.out underlying44 rfl hib' (hKK _ _ ?_))) | fail)
 refine (Hb.out _ H3.out.below).mono ?_
 rintro e u6 ⟨rfl, hb⟩
 have hb6 := on2 H3.out.below hb
 go_wp2_with fail
 go_ret
 exact ⟨retb (by simp), hb6⟩
theorem SamePod_zeroa (c : List Value) (A : Where) (x : PodD) (w : World) (h : Hid (RPod A w c x)) (hs : Hid (scal x = false)) : Calls prog 41 #[.agg c.toArray, .agg #[.string ⟨#[]⟩, .int .i64 0, Z, .int .i64 0, .int .i64 0, .int .i64 0, Z, Z, Z, Z, Z, Z, Z, Z, .string ⟨#[]⟩, .string ⟨#[]⟩]] w fun e w' => e = .returned (.bool (blankPod x)) ∧ Below w.heap.size w w' := by
 obtain ⟨nm, pri, lab, ⟨wa, wb, wc⟩, brs, ask, prf, prt, nea, apa, spr, clm, nod, hop⟩ := x
 obtain ⟨⟨a2, n2, m2⟩, ⟨a6, n6, m6⟩, ⟨a7, n7, m7⟩, ⟨a8, n8, m8⟩, ⟨a9, n9, m9⟩, ⟨a10, n10, m10⟩, ⟨a11, n11, m11⟩, ⟨a12, n12, m12⟩, ⟨a13, n13, m13⟩, rfl, _, s2, s6, s7, s8, s9, s10, s11, s12, s13, _, _⟩ := h.out.out
 simp only at s2 s6 s7 s8 s9 s10 s11 s12 s13 ⊢
 clear h
 generalize hR : blankPod (nm, pri, lab, (wa, wb, wc), brs, ask, prf, prt, nea, apa, spr, clm, nod, hop) = RES
 obtain ⟨b0, e_b0⟩ : ∃ b : Bool, sNil nm = b := ⟨_, rfl⟩
 obtain ⟨b1, e_b1⟩ : ∃ b : Bool, (pri == 0) = b := ⟨_, rfl⟩
 obtain ⟨b3, e_b3⟩ : ∃ b : Bool, resZ (wa, wb, wc) = b := ⟨_, rfl⟩
 obtain ⟨b14, e_b14⟩ : ∃ b : Bool, sNil nod = b := ⟨_, rfl⟩
 obtain ⟨b15, e_b15⟩ : ∃ b : Bool, sNil hop = b := ⟨_, rfl⟩
 obtain ⟨b2, e_b2⟩ : ∃ b : Bool, emptyL lab = b := ⟨_, rfl⟩
 obtain ⟨b6, e_b6⟩ : ∃ b : Bool, emptyL brs = b := ⟨_, rfl⟩
 obtain ⟨b7, e_b7⟩ : ∃ b : Bool, emptyL ask = b := ⟨_, rfl⟩
 obtain ⟨b8, e_b8⟩ : ∃ b : Bool, emptyL prf = b := ⟨_, rfl⟩
 obtain ⟨b9, e_b9⟩ : ∃ b : Bool, emptyL prt = b := ⟨_, rfl⟩
 obtain ⟨b10, e_b10⟩ : ∃ b : Bool, emptyL nea = b := ⟨_, rfl⟩
 obtain ⟨b11, e_b11⟩ : ∃ b : Bool, emptyL apa = b := ⟨_, rfl⟩
 obtain ⟨b12, e_b12⟩ : ∃ b : Bool, emptyL spr = b := ⟨_, rfl⟩
 obtain ⟨b13, e_b13⟩ : ∃ b : Bool, emptyL clm = b := ⟨_, rfl⟩
 have HSC : Hid ((b0 && b1 && b3 && b14 && b15) = false) := by rw [Hid, ← e_b0, ← e_b1, ← e_b3, ← e_b14, ← e_b15]; exact hs.out
 clear hs
 have HF : Hid (RES = (b0 && b1 && b3 && b14 && b15 && b2 && b7 && b9 && b10 && b11 && b13 && b6 && b8 && b12)) := by
  rw [Hid, ← hR, blankPod, ← e_b0, ← e_b1, ← e_b3, ← e_b14, ← e_b15, ← e_b2, ← e_b7, ← e_b9, ← e_b10, ← e_b11, ← e_b13, ← e_b6, ← e_b8, ← e_b12]
  dsimp only
  ac_rfl
 clear hR
 have C2 : Hid (∀ u, Below w.heap.size w u → Calls prog 63 #[.slice a2 n2 m2, Z] u fun e w' => e = .returned (.bool b2) ∧ Below u.heap.size u w') := fun u hu => by
  refine (SameLabels_calls a2 n2 m2 A lab none 0 0 A [] u (s2.on RLabel.firm hu) (SlAt.nil _ _ _ _ (fun _ => rfl))).mono fun e w' ⟨h1, q, hq⟩ => ⟨?_, ?_⟩
  ·
   rw [h1, ← e_b2, emptyL_nil]
  ·
   rw [hq]; exact below_drewN (Below.refl _ _) _
 have C7 : Hid (∀ u, Below w.heap.size w u → Calls prog 64 #[.slice a7 n7 m7, Z] u fun e w' => e = .returned (.bool b7) ∧ Below u.heap.size u w') := fun u hu => by
  refine (SameReqs_calls a7 n7 m7 A ask none 0 0 A [] u (s7.on RReq.firm hu) (SlAt.nil _ _ _ _ (fun _ => rfl))).mono fun e w' ⟨h1, q, hq⟩ => ⟨?_, ?_⟩
  ·
   rw [h1, ← e_b7, emptyL_nil]
  ·
   rw [hq]; exact below_drewN (Below.refl _ _) _
 have C9 : Hid (∀ u, Below w.heap.size w u → Calls prog 65 #[.slice a9 n9 m9, Z] u fun e w' => e = .returned (.bool b9) ∧ Below u.heap.size u w') := fun u hu => by
  refine (SameInts_calls a9 n9 m9 A prt none 0 0 A [] u (s9.on RInt.firm hu) (SlAt.nil _ _ _ _ (fun _ => rfl))).mono fun e w' ⟨h1, q, hq⟩ => ⟨?_, ?_⟩
  ·
   rw [h1, ← e_b9, emptyL_nil]
  ·
   rw [hq]; exact below_drewN (Below.refl _ _) _
 have C10 : Hid (∀ u, Below w.heap.size w u → Calls prog 66 #[.slice a10 n10 m10, Z] u fun e w' => e = .returned (.bool b10) ∧ Below u.heap.size u w') := fun u hu => by
  refine (sameTerms_calls a10 n10 m10 A nea none 0 0 A [] u (s10.on RTerm.firm hu) (SlAt.nil _ _ _ _ (fun _ => rfl))).mono fun e w' ⟨h1, q, hq⟩ => ⟨?_, ?_⟩
  ·
   rw [h1, ← e_b10, emptyL_nil]
  ·
   rw [hq]; exact below_drewN (Below.refl _ _) _
 have C11 : Hid (∀ u, Below w.heap.size w u → Calls prog 66 #[.slice a11 n11 m11, Z] u fun e w' => e = .returned (.bool b11) ∧ Below u.heap.size u w') := fun u hu => by
  refine (sameTerms_calls a11 n11 m11 A apa none 0 0 A [] u (s11.on RTerm.firm hu) (SlAt.nil _ _ _ _ (fun _ => rfl))).mono fun e w' ⟨h1, q, hq⟩ => ⟨?_, ?_⟩
  ·
   rw [h1, ← e_b11, emptyL_nil]
  ·
   rw [hq]; exact below_drewN (Below.refl _ _) _
 have C13 : Hid (∀ u, Below w.heap.size w u → Calls prog 67 #[.slice a13 n13 m13, Z] u fun e w' => e = .returned (.bool b13) ∧ Below u.heap.size u w') := fun u hu => by
  refine (SameTexts_calls a13 n13 m13 A clm none 0 0 A [] u (s13.on RStr.firm hu) (SlAt.nil _ _ _ _ (fun _ => rfl))).mono fun e w' ⟨h1, q, hq⟩ => ⟨?_, ?_⟩
  ·
   rw [h1, ← e_b13, emptyL_nil]
  ·
   rw [hq]; exact below_drewN (Below.refl _ _) _
 have t0 : (nm.toList == []) = b0 := by rw [← e_b0, sNil]; cases nm.toList <;> rfl
 have t0s : nm.toList.isEmpty = b0 := e_b0
 have t14 : (nod.toList == []) = b14 := by rw [← e_b14, sNil]; cases nod.toList <;> rfl
 have t14s : nod.toList.isEmpty = b14 := e_b14
 have t15 : (hop.toList == []) = b15 := by rw [← e_b15, sNil]; cases hop.toList <;> rfl
 have t15s : hop.toList.isEmpty = b15 := e_b15
 have t1 : (pri != 0) = !b1 := by rw [← e_b1]; rfl
 have nR := neqR (wa, wb, wc) (0, 0, 0)
 have e3 : ((wa == 0) && ((wb == 0) && (wc == 0))) = b3 := e_b3
 simp only [e3] at nR
 have t6 : ((n6 : Int) != 0) = !b6 := by rw [← e_b6, emptyL, s6.1, Bool.eq_iff_iff]; simp
 have t8 : ((n8 : Int) != 0) = !b8 := by rw [← e_b8, emptyL, s8.1, Bool.eq_iff_iff]; simp
 have t12 : ((n12 : Int) != 0) = !b12 := by rw [← e_b12, emptyL, s12.1, Bool.eq_iff_iff]; simp
 clear e3 e_b0 e_b1 e_b3 e_b14 e_b15 e_b2 e_b7 e_b9 e_b10 e_b11 e_b13 e_b6 e_b8 e_b12 s2 s6 s7 s8 s9 s10 s11 s12 s13
 have HH0 : Hid (Held w [(w.heap.size + 1, [.string ⟨#[]⟩, .int .i64 0, Z, .int .i64 0, .int .i64 0, .int .i64 0, Z, Z, Z, Z, Z, Z, Z, Z, .string ⟨#[]⟩, .string ⟨#[]⟩]), (w.heap.size, [.string nm, .int .i64 pri, .slice a2 n2 m2, .int .i64 wa, .int .i64 wb, .int .i64 wc, .slice a6 n6 m6, .slice a7 n7 m7, .slice a8 n8 m8, .slice a9 n9 m9, .slice a10 n10 m10, .slice a11 n11 m11, .slice a12 n12 m12, .slice a13 n13 m13, .string nod, .string hop])] [] ((w.alloc (.cells #[.string nm, .int .i64 pri, .slice a2 n2 m2, .int .i64 wa, .int .i64 wb, .int .i64 wc, .slice a6 n6 m6, .slice a7 n7 m7, .slice a8 n8 m8, .slice a9 n9 m9, .slice a10 n10 m10, .slice a11 n11 m11, .slice a12 n12 m12, .slice a13 n13 m13, .string nod, .string hop] 33)).alloc (.cells #[.string ⟨#[]⟩, .int .i64 0, Z, .int .i64 0, .int .i64 0, .int .i64 0, Z, Z, Z, Z, Z, Z, Z, Z, .string ⟨#[]⟩, .string ⟨#[]⟩] 33))) := ((Held.start w).push rfl [.string nm, .int .i64 pri, .slice a2 n2 m2, .int .i64 wa, .int .i64 wb, .int .i64 wc, .slice a6 n6 m6, .slice a7 n7 m7, .slice a8 n8 m8, .slice a9 n9 m9, .slice a10 n10 m10, .slice a11 n11 m11, .slice a12 n12 m12, .slice a13 n13 m13, .string nod, .string hop] 33).push (by simp) [.string ⟨#[]⟩, .int .i64 0, Z, .int .i64 0, .int .i64 0, .int .i64 0, Z, Z, Z, Z, Z, Z, Z, Z, .string ⟨#[]⟩, .string ⟨#[]⟩] 33
 have hgr := guardR
 obtain ⟨W2, hW2⟩ : ∃ W2, W2 = ((w.alloc (.cells #[.string nm, .int .i64 pri, .slice a2 n2 m2, .int .i64 wa, .int .i64 wb, .int .i64 wc, .slice a6 n6 m6, .slice a7 n7 m7, .slice a8 n8 m8, .slice a9 n9 m9, .slice a10 n10 m10, .slice a11 n11 m11, .slice a12 n12 m12, .slice a13 n13 m13, .string nod, .string hop] 33)).alloc (.cells #[.string ⟨#[]⟩, .int .i64 0, Z, .int .i64 0, .int .i64 0, .int .i64 0, Z, Z, Z, Z, Z, Z, Z, Z, .string ⟨#[]⟩, .string ⟨#[]⟩] 33)) := ⟨_, rfl⟩
 rw [← hW2] at HH0
 go_enter func41, ntmps41
 go_upto_region 1 with fail
 rw [← hW2]
 clear hW2
 have p0 := HH0.out.cell 1 (b := w.heap.size) rfl 0 rfl
 have y0 := HH0.out.cell 0 (b := w.heap.size + 1) rfl 0 rfl
 have p1 := HH0.out.cell 1 (b := w.heap.size) rfl 1 rfl
 have y1 := HH0.out.cell 0 (b := w.heap.size + 1) rfl 1 rfl
 have p2 := HH0.out.cell 1 (b := w.heap.size) rfl 2 rfl
 have y2 := HH0.out.cell 0 (b := w.heap.size + 1) rfl 2 rfl
 have p3 := HH0.out.cell 1 (b := w.heap.size) rfl 3 rfl
 have y3 := HH0.out.cell 0 (b := w.heap.size + 1) rfl 3 rfl
 have p4 := HH0.out.cell 1 (b := w.heap.size) rfl 4 rfl
 have y4 := HH0.out.cell 0 (b := w.heap.size + 1) rfl 4 rfl
 have p5 := HH0.out.cell 1 (b := w.heap.size) rfl 5 rfl
 have y5 := HH0.out.cell 0 (b := w.heap.size + 1) rfl 5 rfl
 have p14 := HH0.out.cell 1 (b := w.heap.size) rfl 14 rfl
 have y14 := HH0.out.cell 0 (b := w.heap.size + 1) rfl 14 rfl
 have p15 := HH0.out.cell 1 (b := w.heap.size) rfl 15 rfl
 have y15 := HH0.out.cell 0 (b := w.heap.size + 1) rfl 15 rfl
 have kl := HH0.out.lt 0 rfl
 have kl2 := HH0.out.lt 1 rfl
 cases b0
 ·
  skip
  clear C2 C7 C9 C10 C11 C13
  go_wp2_with fail
  go_ret
  exact ⟨retb (by rw [HF.out] <;> simp), HH0.out.below⟩
 cases b1
 ·
  simp only [Bool.not_false] at t1
  clear C2 C7 C9 C10 C11 C13
  go_wp2_with fail
  go_ret
  exact ⟨retb (by rw [HF.out] <;> simp), HH0.out.below⟩
 simp only [Bool.not_true] at t1
 cases b3
 ·
  simp only [Bool.not_false] at nR
  clear C2 C7 C9 C10 C11 C13
  go_wp2_with fail
  go_ret
  exact ⟨retb (by rw [HF.out] <;> simp), HH0.out.below⟩
 simp only [Bool.not_true] at nR
 cases b14
 ·
  skip
  clear C2 C7 C9 C10 C11 C13
  go_wp2_with fail
  go_ret
  exact ⟨retb (by rw [HF.out] <;> simp), HH0.out.below⟩
 cases b15
 ·
  skip
  clear C2 C7 C9 C10 C11 C13
  go_wp2_with fail
  go_ret
  exact ⟨retb (by rw [HF.out] <;> simp), HH0.out.below⟩
 exact absurd HSC.out (by decide)
end Go.Proofs.YtfbnnfpnjjjfcaaGreat

