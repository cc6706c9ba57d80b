/- base.Pod gives a copy of its own. Condition: the argument lies as is said of it. Several rows of one's own side by side: an append to one leaves the others. Plain facts on worlds. No condition. The document's Check of layer 9. Condition: the arguments lie as is said of them. base.Node gives a copy of its own. Condition: the argument lies as is said of it. The law's copies of nodes. Condition: the slice lies as is said of it. The law's many: copies of what is placed. Condition: the slice lies as is said of it. base.SameReqs, sameTerms tell whether two slices hold the same; they change nothing but the count of draws. Condition: the slices hold what is said of them. base.SameVolume, SameBudget tell whether two structs hold the same, and change nothing that was there. Condition: the arguments lie as is said of them. base.SameNode tells whether two nodes hold the same, and changes nothing that was there. Condition: the arguments lie as is said of them. base.SamePod says yes of two pods that hold the same, and changes nothing that was there. Condition: the arguments lie as is said of them. The law's kept says yes of lists that hold the same. Condition: the slices lie as is said of them. Nothing of its own: what quant's texts stand on. The document's own Itoa returns the digits, and changes nothing that was there. Condition: an amount. The document's Counts of layer 9. Condition: the arguments lie as is said of them. -/
import Derived.Test.YtillkgflppabfaaDoorQ11
import Derived.Test.YtillkgflppabfaaDoorQ05
import Derived.Test.YtillkgflppabfaaDoorQ10
import Derived.Test.YtillkgflppabfaaDoorQ04
import Derived.Test.YtillkgflppabfaaDoorQ01
import Derived.Lib.ItoaNum
import Derived.Lib.ItoaLen
import Derived.Lib.AppendIntMem
namespace Go.Proofs.YtillkgflppabfaaDoor
open Go.RowKit
set_option linter.unusedSimpArgs false
set_option maxRecDepth 100000

theorem infoBear : (Tryd.prog.info? 139).map (fun i => (i.zero, i.size, i.bytes)) = some (some (.agg #[.string ⟨#[]⟩, .string ⟨#[]⟩, .bool false, .int .i64 0]), 4, 48) := by kernel_rfl
theorem infoPrefer : (Tryd.prog.info? 141).map (fun i => (i.zero, i.size, i.bytes)) = some (some (.agg #[.slice none 0 0, .int .i64 0]), 2, 32) := by kernel_rfl
theorem infoSpread : (Tryd.prog.info? 35).map (fun i => (i.zero, i.size, i.bytes)) = some (some (.agg #[.string ⟨#[]⟩, .int .i64 0, .int .i64 0, .slice none 0 0]), 4, 56) := by kernel_rfl
/-- The blocks of the parameter, of the result and of the variable. -/
structure PB (w u : World) (P Z Q : List Value) : Prop where
  p : BoxL u w.heap.size P
  z : BoxL u (w.heap.size + 1) Z
  q : BoxL u (w.heap.size + 1 + 1) Q
  b : Below w.heap.size w u
theorem PB.on {w u u' : World} {P Z Q : List Value} (h : PB w u P Z Q) (hb : Below u.heap.size u u') : PB w u' P Z Q :=
  ⟨h.p.on hb, h.z.on hb, h.q.on hb, on2 h.b hb⟩
theorem PB.set {w u : World} {P Z Q : List Value} (h : PB w u P Z Q) (i : Nat) (v : Value) (hi : i < Q.length) : PB w (u.setCell ⟨w.heap.size + 1 + 1, i, none⟩ v) P Z (Q.set i v) :=
  ⟨h.p.other (by simp; omega) v, h.z.other (by simp) v, h.q.set i v hi, h.b.setCell (by simp; omega) v⟩
theorem PB.sz {w u : World} {P Z Q : List Value} (h : PB w u P Z Q) : w.heap.size + 1 + 1 < u.heap.size := h.q.1
theorem PB.fr {w u W : World} {P Z Q : List Value} (h : PB w u P Z Q) (hW : W.heap.size = w.heap.size + 1 + 1 + 1) : ∀ b, Fresh u b → Fresh W b := fun b hb => show W.heap.size ≤ b by have h1 : u.heap.size ≤ b := hb; have := h.sz; omega

def PfS (w : World) (D off k : Nat) (hp v h0 h1 : Value) (u : World) : Prop :=
  u.cell? ⟨w.heap.size, 8, none⟩ = some hp ∧ u.cell? ⟨w.heap.size + 1 + 1, 8, none⟩ = some v ∧ u.frozen? ⟨w.heap.size + 1 + 1, 8, none⟩ = false ∧ u.cell? ⟨D, off + k * 2, none⟩ = some h0 ∧ u.cell? ⟨D, off + k * 2 + 1, none⟩ = some h1
def TwS (w : World) (h10 h11 : Value) (u : World) : Prop := u.cell? ⟨w.heap.size, 10, none⟩ = some h10 ∧ u.cell? ⟨w.heap.size, 11, none⟩ = some h11

end Go.Proofs.YtillkgflppabfaaDoor
namespace Go.Proofs.YtillkgflppabfaaDoor
open Go.RowKit
set_option linter.unusedSimpArgs false

section
variable {α : Type} [Inhabited α] {R : Rep α} {k : Nat}
theorem Row.lt {A : Where} {w0 u : World} {e : TypeId} {v : Value} {L : List α} (h : Row R k A w0 u e v L) {b : Nat} (hb : v.ownBlock = some b) : w0.heap.size ≤ b ∧ b < u.heap.size := by
  obtain ⟨xs, h1, _⟩ := h
  exact h1.2.lt b hb
theorem Row.grown (hR : Firm R k) {A : Where} {w0 u u' : World} {row : Option Nat} {e : TypeId} {v : Value} {L : List α} (h : Row R k A w0 u e v L) (hg : u.grownBy u' row) (hn : ∀ b, row = some b → w0.heap.size ≤ b ∧ v.ownBlock ≠ some b ∧ ¬ A b) : Row R k A w0 u' e v L := by
  obtain ⟨xs, ⟨h1, h0, h2⟩, h3⟩ := h
  refine ⟨xs, ⟨?_, h0, ?_⟩, h3.kept hR (Kept.grown hg (fun b hb h => (hn b hb).2.2 h.1))⟩
  · exact Below.grown h1 hg h1.size (fun b hb => (hn b hb).1)
  · rcases h2 with h2 | ⟨g, cap, cur, hv, hg0, hh, r⟩
    · exact .inl h2
    · refine .inr ⟨g, cap, cur, hv, hg0, ?_, r⟩
      rw [hg.block g ?_ ?_]
      · exact hh
      · rcases Nat.lt_or_ge g u.heap.size with h | h
        · exact h
        · rw [Array.getElem?_eq_none h] at hh; cases hh
      · intro e1
        have := (hn g e1.symm).2.1
        rw [hv] at this
        exact this rfl
/-- An append of what lies in a slice, or in none, with the place of the new row. -/
theorem row_appendP_wp (hR : Firm R k) {o : Oper} {a : Act} {K : Act → World → Prop} {Q : Exit → Act → World → Prop} {A : Where} {w0 u : World} (s x : Operand) (t e : TypeId)
    (ho : o.op = .call { callee := .builtin .append, args := #[s, x], argTypes := #[t, t] }) (z : Value) (bytes : Nat) (hinfo : (Tryd.prog.info? e).map (fun i => (i.zero, i.size, i.bytes)) = some (some z, k, bytes)) (ht : Tryd.prog.underlying t = some (.slice e)) (hzs : z.cells.size = k) (hk0 : 0 < k) (hby : 1 ≤ bytes)
    (v : Value) (L : List α) (hs : a.eval s = v) (hrow : Row R k A w0 u e v L)
    (ad : Option Addr) (m c : Nat) (N : List α) (hx : a.eval x = .slice ad m c) (hN : Src R k (fun b => A b ∧ v.ownBlock ≠ some b) u ad m N) (hb : (L.length + N.length) * bytes ≤ 140737488355328)
    (h : ∀ v' u', Row R k A w0 u' e v' (L ++ N) → u.grownBy u' v.ownBlock → (v'.ownBlock = v.ownBlock ∨ v'.ownBlock = some u.heap.size) → K (a.put o.dst v') u') : o.wp Tryd.prog a u K Q := by
  obtain ⟨hm, hN⟩ := hN
  rcases hN with ⟨rfl, rfl⟩ | ⟨ad, news, rfl, hN, hcells, h1⟩
  · obtain rfl : m = 0 := by simpa using hm.symm
    obtain ⟨i0, hi, hz0, hz1, hz2⟩ := info_parts hinfo
    have hr : ∀ ty, (Builtin.append_ #[t, t] ty #[v, .slice none 0 c]).run Tryd.prog u = .ok v u := by
      intro ty
      obtain ⟨xs, hown, _⟩ := hrow
      rcases hown.2.2 with ⟨rfl, _⟩ | ⟨g, cap, cur, rfl, _, hg, hnc, _⟩
      · simp [Builtin.append_, run_underlying ht, sizeOf, typeInfo, hi, Builtin.lenOf, Builtin.firstCells, loadCells, loadCellsFrom]
      · simp [Builtin.append_, run_underlying ht, sizeOf, typeInfo, hi, Builtin.lenOf, Builtin.firstCells, loadCells, loadCellsFrom, hnc, storeCells]
    unfold Oper.wp execOp
    simp only [ho, resolve, invoke, builtin, Sem.run_bind, Sem.run_pure, Result.andThen_ok, List.map_toArray, List.map_cons, List.map_nil, hs, hx, hr]
    exact h v u (by simpa using hrow) ⟨rfl, rfl, rfl, Nat.le_refl _, fun _ _ _ => rfl⟩ (.inl rfl)
  · subst hm
    obtain ⟨i0, hi, hz0, hz1, hz2⟩ := info_parts hinfo
    obtain ⟨xs, hown, hch⟩ := hrow
    have hmul : (L.length + N.length) * 1 ≤ (L.length + N.length) * bytes := Nat.mul_le_mul_left _ hby
    obtain ⟨v', u', hr, h2, h3, h4, h5⟩ := run_append_own_at (P := Tryd.prog) u w0.heap.size t o.type e i0 z k bytes ht hi hz0 hz1 hz2 hzs hk0 v L.length xs hown.2 ad N.length c news hN.1 hcells h1 (by unfold maxLen; omega) hb hown.1.size
    unfold Oper.wp execOp
    simp only [ho, resolve, invoke, builtin, Sem.run_bind, Sem.run_pure, Result.andThen_ok, List.map_toArray, List.map_cons, List.map_nil, hs, hx, hr]
    refine (h v' u' ⟨xs ++ news, ⟨hown.row h3, by rw [List.length_append]; exact h2⟩, ?_⟩ h3 h5)
    have put : ∀ {ys : List Value} {M : List α}, Chunks R k (fun b => A b ∧ v.ownBlock ≠ some b) u ys M → Chunks R k (fun b => A b ∧ v'.ownBlock ≠ some b) u' ys M := fun {ys M} hc => by
      have c1 := hc.weak hR (A' := fun b => (A b ∧ v.ownBlock ≠ some b) ∧ b < u.heap.size) (fun b hb h => ⟨h, hb⟩)
      have c2 := c1.kept hR (Kept.grown h3 (fun b e => fun h => h.1.2 e))
      refine c2.weak hR (fun b _ h => ⟨h.1.1, fun e => ?_⟩)
      rcases h5 with h5 | h5
      · rw [h5] at e; exact h.1.2 e
      · rw [h5] at e
        have : u.heap.size = b := by simpa using e
        exact absurd h.2 (by omega)
    obtain ⟨l1, c1⟩ := put hch
    obtain ⟨l2, c2⟩ := put hN
    refine ⟨by rw [List.length_append, List.length_append, l1, l2, Nat.add_mul], fun i hi => ?_⟩
    rcases Nat.lt_or_ge i L.length with h' | h'
    · obtain ⟨cs, q1, q2⟩ := c1 i h'
      have e : (L ++ N).getD i default = L.getD i default := by rw [getE _ _ hi, getE _ _ h', List.getElem_append_left h']
      refine ⟨cs, by rw [e]; exact q1, fun j hj => ?_⟩
      rw [List.getElem?_append_left (by have : (i + 1) * k ≤ L.length * k := Nat.mul_le_mul_right k h'; rw [Nat.add_mul] at this; omega)]
      exact q2 j hj
    · have h'' : i - L.length < N.length := by simp at hi; omega
      obtain ⟨cs, q1, q2⟩ := c2 (i - L.length) h''
      have e : (L ++ N).getD i default = N.getD (i - L.length) default := by rw [getE _ _ hi, getE _ _ h'', List.getElem_append_right h']
      refine ⟨cs, by rw [e]; exact q1, fun j hj => ?_⟩
      have hle : L.length * k ≤ i * k := Nat.mul_le_mul_right k h'
      rw [List.getElem?_append_right (by omega), l1, idx_part i L.length k j h', ← q2 j hj]
/-- At a plain region's list of operations. -/
theorem row_appendP (hR : Firm R k) {ops : Array Oper} {rest : List Oper} {o : Oper} {a : Act} {Q : Exit → Act → World → Prop} {A : Where} {w0 u : World} (hgd : Region.wanted o (yielded ops a.tmps) = true) (s x : Operand) (t e : TypeId)
    (ho : o.op = .call { callee := .builtin .append, args := #[s, x], argTypes := #[t, t] }) (z : Value) (bytes : Nat) (hinfo : (Tryd.prog.info? e).map (fun i => (i.zero, i.size, i.bytes)) = some (some z, k, bytes)) (ht : Tryd.prog.underlying t = some (.slice e)) (hzs : z.cells.size = k) (hk0 : 0 < k) (hby : 1 ≤ bytes)
    (v : Value) (L : List α) (hs : a.eval s = v) (hrow : Row R k A w0 u e v L)
    (ad : Option Addr) (m c : Nat) (N : List α) (hx : a.eval x = .slice ad m c) (hN : Src R k (fun b => A b ∧ v.ownBlock ≠ some b) u ad m N) (hb : (L.length + N.length) * bytes ≤ 140737488355328)
    (h : ∀ v' u', Row R k A w0 u' e v' (L ++ N) → u.grownBy u' v.ownBlock → (v'.ownBlock = v.ownBlock ∨ v'.ownBlock = some u.heap.size) → wpList Tryd.prog ops Q rest (a.put o.dst v') u') : wpList Tryd.prog ops Q (o :: rest) a u :=
  BigFrame.wpList_want hgd (fun _ hK => row_appendP_wp hR s x t e ho z bytes hinfo ht hzs hk0 hby v L hs hrow ad m c N hx hN hb (fun v' u' h2 h3 h4 => hK _ _ (h v' u' h2 h3 h4)))
end
end Go.Proofs.YtillkgflppabfaaDoor
namespace Go.Proofs.YtillkgflppabfaaDoor
open Go.RowKit
set_option linter.unusedSimpArgs false
set_option maxRecDepth 100000

theorem RPod.reads9 {A : Where} {w : World} {cs : List Value} {p : PodD} (h : RPod A w cs p) : ∃ h2 h12 : Hd, cs[0]? = some (.string p.1) ∧ cs[2]? = some (.slice h2.1 h2.2.1 h2.2.2) ∧ cs[12]? = some (.slice h12.1 h12.2.1 h12.2.2) ∧ SlAt RLabel 2 32 A w h2.1 h2.2.1 h2.2.2 (pLabs p) ∧ SlAt RSpread 4 56 A w h12.1 h12.2.1 h12.2.2 (pSpreads p) := by
  obtain ⟨h2, h6, h7, h8, h9, h10, h11, h12, h13, rfl, _, s2, _, _, _, _, _, _, s12, _⟩ := h.out
  exact ⟨h2, h12, rfl, rfl, rfl, s2, s12⟩
theorem Row.slO9 {α : Type} [Inhabited α] {R : Rep α} {k : Nat} (hR : Firm R k) {bytes : Nat} {A : Where} {w0 u : World} {e : TypeId} {v : Value} {L : List α} (h : Row R k A w0 u e v L) (hb : L.length * bytes ≤ 140737488351232) :
    ∃ a cap, v = .slice a L.length cap ∧ SlAt R k bytes (fun _ => True) u a L.length cap L := by
  obtain ⟨xs, h1, h2⟩ := h
  obtain ⟨a, cap, e1, h3⟩ := sl_of_owns (bytes := bytes) hR h1.2 h2 hb
  exact ⟨a, cap, e1, h3.weak hR (fun b _ _ => trivial)⟩
theorem any_take9 {α : Type} [Inhabited α] (f : α → Bool) {L : List α} {k : Nat} (h : k < L.length) (h0 : (L.take k).any f = false) (h1 : f (L.getD k default) = false) : (L.take (k + 1)).any f = false := by
  rw [← take_at9 h, List.any_append, h0]
  generalize L.getD k default = y at h1 ⊢
  simp [h1]
theorem any_at9 {α : Type} [Inhabited α] (f : α → Bool) {L : List α} {k : Nat} (h : k < L.length) (h1 : f (L.getD k default) = true) : L.any f = true := by
  rw [List.any_eq_true]
  exact ⟨L.getD k default, by rw [List.getD_eq_getElem?_getD, List.getElem?_eq_getElem h]; exact List.getElem_mem h, h1⟩
/-- What lies behind the calls. -/
def ScAt (w : World) (cs : List Value) (p : PodD) (h2 h12 : Hd) (la : Option Addr) (ln lc : Nat) (Lb : List Lab) (a : Option Addr) (n cap : Nat) (N : List NodeD) (av : Option Addr) (q cv : Nat) (Q : List PlacedD) (u : World) : Prop :=
  BoxL u w.heap.size cs ∧ SlAt RLabel 2 32 (fun _ => True) u h2.1 h2.2.1 h2.2.2 (pLabs p) ∧ SlAt RSpread 4 56 (fun _ => True) u h12.1 h12.2.1 h12.2.2 (pSpreads p) ∧ SlAt RLabel 2 32 (fun _ => True) u la ln lc Lb ∧ SlAt RNode 9 112 (fun _ => True) u a n cap N ∧ SlAt RPlaced 17 320 (fun _ => True) u av q cv Q ∧ Below w.heap.size w u
theorem ScAt.on {w : World} {cs : List Value} {p : PodD} {h2 h12 : Hd} {la : Option Addr} {ln lc : Nat} {Lb : List Lab} {a : Option Addr} {n cap : Nat} {N : List NodeD} {av : Option Addr} {q cv : Nat} {Q : List PlacedD} {u u' : World} (h : ScAt w cs p h2 h12 la ln lc Lb a n cap N av q cv Q u) (hb : Below u.heap.size u u') : ScAt w cs p h2 h12 la ln lc Lb a n cap N av q cv Q u' :=
  ⟨h.1.on hb, h.2.1.on RLabel.firm hb, h.2.2.1.on RSpread.firm hb, h.2.2.2.1.on RLabel.firm hb, h.2.2.2.2.1.on RNode.firm hb, h.2.2.2.2.2.1.on RPlaced.firm hb, on2 h.2.2.2.2.2.2 hb⟩
end Go.Proofs.YtillkgflppabfaaDoor
namespace Go.Proofs.YtillkgflppabfaaDoor
open Go.RowKit
set_option linter.unusedSimpArgs false

theorem infoTaint : (Tryd.prog.info? 145).map (fun i => (i.zero, i.size, i.bytes)) = some (some (.agg #[.string ⟨#[]⟩, .string ⟨#[]⟩, .int .i64 0]), 3, 40) := by kernel_rfl
end Go.Proofs.YtillkgflppabfaaDoor
namespace Go.Proofs.YtillkgflppabfaaDoor
open Go.RowKit
set_option linter.unusedSimpArgs false
set_option maxRecDepth 100000

theorem sizeNd : (Tryd.prog.info? 46).map (·.size) = some 9 := by kernel_rfl
theorem infoNd : (Tryd.prog.info? 46).map (fun i => (i.zero, i.size, i.bytes)) = some (some (.agg #[.string ⟨#[]⟩, .slice none 0 0, .slice none 0 0, .bool false, .int .i64 0, .int .i64 0, .int .i64 0, .int .i64 0, .int .i64 0]), 9, 112) := by kernel_rfl
theorem RNode.lit {A : Where} {w : World} {cs : List Value} {x : NodeD} (h : RNode A w cs x) : ∃ v0 v1 v2 v3 v4 v5 v6 v7 v8 : Value, cs = [v0, v1, v2, v3, v4, v5, v6, v7, v8] := by
  obtain ⟨_, _, rfl, _⟩ := h.out
  exact ⟨_, _, _, _, _, _, _, _, _, rfl⟩
end Go.Proofs.YtillkgflppabfaaDoor
namespace Go.Proofs.YtillkgflppabfaaDoor
open Go.RowKit
set_option linter.unusedSimpArgs false
set_option maxRecDepth 100000

theorem RPlaced.parts9 {A : Where} {w : World} {xs : List Value} {x : PlacedD} (h : RPlaced A w xs x) : ∃ (ps : List Value) (g : Hd), xs = ps ++ [.slice g.1 g.2.1 g.2.2] ∧ RPod A w ps x.1 ∧ ps.length = 16 ∧ SlAt RLabel 2 32 A w g.1 g.2.1 g.2.2 x.2 := by
  obtain ⟨ps, qs, rfl, h1, h2⟩ := h
  obtain ⟨a, n, c, rfl, h3⟩ := h2
  exact ⟨ps, (a, n, c), rfl, h1, RPod.firm.len h1, h3⟩
theorem range_fst9 {u : World} {B o : Nat} {ps : List Value} {v : Value} (h : u.rangeAt B o (ps ++ [v])) : u.rangeAt B o ps := fun j y hj => h j y (by rw [List.getElem?_append_left (List.getElem?_eq_some_iff.1 hj).1]; exact hj)
theorem range_lst9 {u : World} {B o : Nat} {ps : List Value} {v : Value} (hl : ps.length = 16) (h : u.rangeAt B o (ps ++ [v])) : u.cell? ⟨B, o + 16, none⟩ = some v := h 16 v (by rw [List.getElem?_append_right (by omega), hl]; rfl)
theorem range_on10 {u u' : World} {B o M : Nat} {c : List Value} (hB : B < M) (hb : Below M u u') (h : u.rangeAt B o c) : u'.rangeAt B o c := fun j v hj => (hb.cell (p := ⟨B, o + j, none⟩) hB).trans (h j v hj)
theorem RPod.lit9 {A : Where} {w : World} {cs : List Value} {x : PodD} (h : RPod A w cs x) : ∃ v0 v1 v2 v3 v4 v5 v6 v7 v8 v9 v10 v11 v12 v13 v14 v15 : Value, cs = [v0, v1, v2, v3, v4, v5, v6, v7, v8, v9, v10, v11, v12, v13, v14, v15] := by
  obtain ⟨_, _, _, _, _, _, _, _, _, rfl, _⟩ := h.out
  exact ⟨_, _, _, _, _, _, _, _, _, _, _, _, _, _, _, _, rfl⟩
end Go.Proofs.YtillkgflppabfaaDoor
namespace Go.Proofs.YtillkgflppabfaaDoor
open Go.RowKit
set_option linter.unusedSimpArgs false

end Go.Proofs.YtillkgflppabfaaDoor
namespace Go.Proofs.YtillkgflppabfaaDoor
open Go.RowKit
set_option linter.unusedSimpArgs false

/-- A call's end tells whether the two are one. -/
def TellsEq {α : Type} (e : Ending) (x y : α) : Prop := ∃ r, e = .returned (.bool r) ∧ (r = true ↔ x = y)
theorem tells {α : Type} {x y : α} {r : Bool} (h : r = true ↔ x = y) : TellsEq (.returned (.bool r)) x y := ⟨r, rfl, h⟩

end Go.Proofs.YtillkgflppabfaaDoor
namespace Go.Proofs.YtillkgflppabfaaDoor
open Go.RowKit
set_option linter.unusedSimpArgs false

theorem guardR : Tryd.prog.eqGuardType Tryd.prog.depth 24 = false := by kernel_rfl
theorem guardTn : Tryd.prog.eqGuardType Tryd.prog.depth 145 = false := by kernel_rfl
theorem neqR (x y : ResD) (w : World) : Sem.run Tryd.prog (binOp .neq 24 (.agg #[.int .i64 x.1, .int .i64 x.2.1, .int .i64 x.2.2]) (.agg #[.int .i64 y.1, .int .i64 y.2.1, .int .i64 y.2.2])) w = .ok (.bool (!((x.1 == y.1) && ((x.2.1 == y.2.1) && (x.2.2 == y.2.2))))) w := by
  have u3 := Tryd.underlying3
  have a3 := Tryd.isAgg3
  have z3 := Tryd.sizeOf3
  have hS : Tryd.prog.underlying 24 = some (.struct (Tryd.prog.fieldsOf 24)) := by kernel_rfl
  have hp : Tryd.prog.stoodInHeld 24 = false := by kernel_rfl
  rw [run_neq_struct, show (10000 : Nat) = 9999 + 1 from rfl, run_equalIn_agg w 9999 24 _ _ hS hp]
  simp only [Program.fieldsOf, Tryd.underlying24]
  go_simp
  by_cases h1 : x.1 = y.1 <;> by_cases h2 : x.2.1 = y.2.1 <;> by_cases h3 : x.2.2 = y.2.2 <;> simp [h1, h2, h3]
theorem neqTn (x y : Tnt) (w : World) : Sem.run Tryd.prog (binOp .neq 145 (.agg #[.string x.1, .string x.2.1, .int .i64 x.2.2]) (.agg #[.string y.1, .string y.2.1, .int .i64 y.2.2])) w = .ok (.bool (!tEq x y)) w := by
  have u3 := Tryd.underlying3
  have a3 := Tryd.isAgg3
  have z3 := Tryd.sizeOf3
  have u9 := Tryd.underlying9
  have a9 := Tryd.isAgg9
  have z9 := Tryd.sizeOf9
  have hS : Tryd.prog.underlying 145 = some (.struct (Tryd.prog.fieldsOf 145)) := by kernel_rfl
  have hp : Tryd.prog.stoodInHeld 145 = false := by kernel_rfl
  rw [run_neq_struct, show (10000 : Nat) = 9999 + 1 from rfl, run_equalIn_agg w 9999 145 _ _ hS hp]
  simp only [Program.fieldsOf, Tryd.underlying145]
  go_simp
  simp only [tEq, sEq]
  by_cases h1 : x.1.toList = y.1.toList <;> by_cases h2 : x.2.1.toList = y.2.1.toList <;> by_cases h3 : x.2.2 = y.2.2 <;> simp [h1, h2, h3]
theorem tEq_iff (x y : Tnt) : tEq x y = true ↔ x = y := by
  simp only [tEq, Bool.and_eq_true, sEq_iff, beq_iff_eq, Prod.ext_iff]
theorem res_iff (x y : ResD) : ((x.1 == y.1) && ((x.2.1 == y.2.1) && (x.2.2 == y.2.2))) = true ↔ x = y := by
  simp only [Bool.and_eq_true, beq_iff_eq, Prod.ext_iff]
theorem list_same {α : Type} [Inhabited α] {L M : List α} (hl : L.length = M.length) (h : ∀ j, j < L.length → L.getD j default = M.getD j default) : L = M := by
  apply List.ext_getElem hl
  intro i h1 h2
  have := h i h1
  rwa [getE _ _ h1, getE _ _ h2] at this

end Go.Proofs.YtillkgflppabfaaDoor
namespace Go.Proofs.YtillkgflppabfaaDoor
open Go.RowKit
set_option linter.unusedSimpArgs false
set_option maxRecDepth 100000

theorem guardBe : Tryd.prog.eqGuardType Tryd.prog.depth 139 = false := by kernel_rfl
theorem neqR_same (a b c : Int) (w : World) : Sem.run Tryd.prog (binOp .neq 24 (.agg #[.int .i64 a, .int .i64 b, .int .i64 c]) (.agg #[.int .i64 a, .int .i64 b, .int .i64 c])) w = .ok (.bool false) w := by
  have := neqR (a, b, c) (a, b, c) w
  simpa using this
theorem neqBe_same (a b : ByteArray) (c : Bool) (d : Int) (w : World) : Sem.run Tryd.prog (binOp .neq 139 (.agg #[.string a, .string b, .bool c, .int .i64 d]) (.agg #[.string a, .string b, .bool c, .int .i64 d])) w = .ok (.bool false) w := by
  have u3 := Tryd.underlying3
  have a3 := Tryd.isAgg3
  have z3 := Tryd.sizeOf3
  have u9 := Tryd.underlying9
  have a9 := Tryd.isAgg9
  have z9 := Tryd.sizeOf9
  have u4 := Tryd.underlying4
  have a4 := Tryd.isAgg4
  have z4 := Tryd.sizeOf4
  have hS : Tryd.prog.underlying 139 = some (.struct (Tryd.prog.fieldsOf 139)) := by kernel_rfl
  have hp : Tryd.prog.stoodInHeld 139 = false := by kernel_rfl
  rw [run_neq_struct, show (10000 : Nat) = 9999 + 1 from rfl, run_equalIn_agg w 9999 139 _ _ hS hp]
  simp only [Program.fieldsOf, Tryd.underlying139]
  go_simp
/-- The blocks of the two parameters. -/
structure PB2 (w u : World) (P Y : List Value) : Prop where
  p : BoxL u w.heap.size P
  y : BoxL u (w.heap.size + 1) Y
  b : Below w.heap.size w u
theorem PB2.on {w u u' : World} {P Y : List Value} (h : PB2 w u P Y) (hb : Below u.heap.size u u') : PB2 w u' P Y := ⟨h.p.on hb, h.y.on hb, on2 h.b hb⟩

end Go.Proofs.YtillkgflppabfaaDoor
namespace Go.Proofs.YtillkgflppabfaaDoor
open Go.RowKit
set_option linter.unusedSimpArgs false
set_option maxRecDepth 100000

def KpN (B o : Nat) (ps : List Value) (B' o' : Nat) (qs : List Value) (u : World) : Prop := u.rangeAt B o ps ∧ u.rangeAt B' o' qs
def KpW (B o : Nat) (ps : List Value) (g : Hd) (B' o' : Nat) (qs : List Value) (h : Hd) (u : World) : Prop :=
  u.rangeAt B o ps ∧ u.cell? ⟨B, o + 16, none⟩ = some (.slice g.1 g.2.1 g.2.2) ∧ u.rangeAt B' o' qs ∧ u.cell? ⟨B', o' + 16, none⟩ = some (.slice h.1 h.2.1 h.2.2)
end Go.Proofs.YtillkgflppabfaaDoor
namespace Go.Proofs.YtillkgflppabfaaDoor
end Go.Proofs.YtillkgflppabfaaDoor
namespace Go.Proofs.YtillkgflppabfaaDoor
open Go.RowKit
set_option maxRecDepth 100000

theorem ret_str {a b : ByteArray} (h : a = b) : Ending.returned (.string a) = .returned (.string b) := by rw [h]
theorem itoa_nat {n : Int} (h : 0 ≤ n) : Lib.itoa n = Lib.decDigits n.toNat := by unfold Lib.itoa; rw [if_neg (by omega)]
def decZ (m : Nat) : List UInt8 := if m = 0 then [] else Lib.decDigits m
theorem decZ_zero : decZ 0 = [] := rfl
theorem decDigits_step (u : Nat) (h : ¬ u < 10) : Lib.decDigits u = Lib.decDigits (u / 10) ++ [UInt8.ofNat (48 + u % 10)] := by
  rw [Lib.decDigits, dif_neg h]
theorem decZ_step (m : Nat) (h : m ≠ 0) : decZ m = decZ (m / 10) ++ [UInt8.ofNat (48 + m % 10)] := by
  unfold decZ
  rw [if_neg h]
  by_cases h10 : m < 10
  · rw [if_pos (by omega), Lib.decDigits_one h10, Nat.mod_eq_of_lt h10]
    rfl
  · rw [if_neg (by omega), decDigits_step m h10]

theorem bytes_cons (c : UInt8) (l : List UInt8) : ({ data := #[c] } ++ { data := l.toArray } : ByteArray) = { data := (c :: l).toArray } := by
  apply ByteArray.ext
  simp
theorem dig_int (m : Nat) : 48 + (m : Int) % 10 = ((UInt8.ofNat (48 + m % 10)).toNat : Int) := by
  rw [UInt8.toNat_ofNat']
  omega

theorem conv_one (w : World) (v : Int) (c : UInt8) (hv : v = (c.toNat : Int)) :
    Sem.run Tryd.prog (convert 85 9 (Value.slice (some { block := w.heap.size, off := 0 }) 1 1)) (w.alloc (Obj.cells #[Value.int IntKind.u8 v] 5)) =
      .ok (.string ⟨#[c]⟩) (w.alloc (Obj.cells #[Value.int IntKind.u8 v] 5)) := by
  refine run_convert_bytes_back _ 85 9 5 ⟨w.heap.size, 0, none⟩ 1 [c] Tryd.underlying85 Tryd.underlying5 Tryd.underlying9 ?_
  intro j hj
  obtain rfl : j = 0 := by simpa using hj
  show (w.alloc _).cell? ⟨w.heap.size, 0, none⟩ = _
  rw [World.cell?_alloc_new, hv]
  rfl

theorem decDigits_le (n : Int) (h0 : 0 ≤ n) (h1 : n ≤ 1125899906842624) : (Lib.decDigits n.toNat).length ≤ 21 := by
  have h := Lib.itoa_length_le n (by omega) (by omega)
  rwa [itoa_nat h0] at h
end Go.Proofs.YtillkgflppabfaaDoor
namespace Go.Proofs.YtillkgflppabfaaDoor
open Go.RowKit
set_option linter.unusedSimpArgs false
set_option maxRecDepth 100000

/-- A domain, with the digits of its count. -/
def cntL (s : SpreadD) (l : List PlacedD) (v : ByteArray) : Lab := (v, ⟨(Lib.decDigits (cntP s v l)).toArray⟩)
def countsP (s : SpreadD) (N : List NodeD) (l : List PlacedD) : List Lab := (domsP s.1 N).map (cntL s l)
theorem map_take9 {α β : Type} [Inhabited α] (f : α → β) {L : List α} {k : Nat} (h : k < L.length) : (L.take k).map f ++ [f (L.getD k default)] = (L.take (k + 1)).map f := by
  rw [← take_at9 h, List.map_append]
  rfl
theorem infoL9 : (Tryd.prog.info? 59).map (fun i => (i.zero, i.size, i.bytes)) = some (some (.agg #[.string ⟨#[]⟩, .string ⟨#[]⟩]), 2, 32) := by kernel_rfl
end Go.Proofs.YtillkgflppabfaaDoor
