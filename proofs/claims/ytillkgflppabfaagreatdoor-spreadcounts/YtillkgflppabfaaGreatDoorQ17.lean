/- Several rows of one's own side by side: an append to one leaves the others. Plain facts on worlds. No condition. The document's Check of layer 9. Condition: the arguments lie as is said of them. base.Node gives a copy of its own. Condition: the argument lies as is said of it. The law's copies of nodes. Condition: the slice lies as is said of it. -/
import Derived.Test.YtillkgflppabfaaGreatDoorQ06
import Derived.Test.YtillkgflppabfaaGreatDoorQ15
import Derived.Test.YtillkgflppabfaaGreatDoorQ16
import Derived.Test.YtillkgflppabfaaGreatDoorQ04
namespace Go.Proofs.YtillkgflppabfaaGreatDoor
open Go.RowKit
set_option linter.unusedSimpArgs false

section
variable {α : Type} [Inhabited α] {R : Rep α} {k : Nat}
theorem Row.lt {A : Where} {w0 u : World} {e : TypeId} {v : Value} {L : List α} (h : Row R k A w0 u e v L) {b : Nat} (hb : v.ownBlock = some b) : w0.heap.size ≤ b ∧ b < u.heap.size := by
  obtain ⟨xs, h1, _⟩ := h
  exact h1.2.lt b hb
theorem Row.grown (hR : Firm R k) {A : Where} {w0 u u' : World} {row : Option Nat} {e : TypeId} {v : Value} {L : List α} (h : Row R k A w0 u e v L) (hg : u.grownBy u' row) (hn : ∀ b, row = some b → w0.heap.size ≤ b ∧ v.ownBlock ≠ some b ∧ ¬ A b) : Row R k A w0 u' e v L := by
  obtain ⟨xs, ⟨h1, h0, h2⟩, h3⟩ := h
  refine ⟨xs, ⟨?_, h0, ?_⟩, h3.kept hR (Kept.grown hg (fun b hb h => (hn b hb).2.2 h.1))⟩
  · exact Below.grown h1 hg h1.size (fun b hb => (hn b hb).1)
  · rcases h2 with h2 | ⟨g, cap, cur, hv, hg0, hh, r⟩
    · exact .inl h2
    · refine .inr ⟨g, cap, cur, hv, hg0, ?_, r⟩
      rw [hg.block g ?_ ?_]
      · exact hh
      · rcases Nat.lt_or_ge g u.heap.size with h | h
        · exact h
        · rw [Array.getElem?_eq_none h] at hh; cases hh
      · intro e1
        have := (hn g e1.symm).2.1
        rw [hv] at this
        exact this rfl
/-- An append of what lies in a slice, or in none, with the place of the new row. -/
theorem row_appendP_wp (hR : Firm R k) {o : Oper} {a : Act} {K : Act → World → Prop} {Q : Exit → Act → World → Prop} {A : Where} {w0 u : World} (s x : Operand) (t e : TypeId)
    (ho : o.op = .call { callee := .builtin .append, args := #[s, x], argTypes := #[t, t] }) (z : Value) (bytes : Nat) (hinfo : (Tryz.prog.info? e).map (fun i => (i.zero, i.size, i.bytes)) = some (some z, k, bytes)) (ht : Tryz.prog.underlying t = some (.slice e)) (hzs : z.cells.size = k) (hk0 : 0 < k) (hby : 1 ≤ bytes)
    (v : Value) (L : List α) (hs : a.eval s = v) (hrow : Row R k A w0 u e v L)
    (ad : Option Addr) (m c : Nat) (N : List α) (hx : a.eval x = .slice ad m c) (hN : Src R k (fun b => A b ∧ v.ownBlock ≠ some b) u ad m N) (hb : (L.length + N.length) * bytes ≤ 140737488355328)
    (h : ∀ v' u', Row R k A w0 u' e v' (L ++ N) → u.grownBy u' v.ownBlock → (v'.ownBlock = v.ownBlock ∨ v'.ownBlock = some u.heap.size) → K (a.put o.dst v') u') : o.wp Tryz.prog a u K Q := by
  obtain ⟨hm, hN⟩ := hN
  rcases hN with ⟨rfl, rfl⟩ | ⟨ad, news, rfl, hN, hcells, h1⟩
  · obtain rfl : m = 0 := by simpa using hm.symm
    obtain ⟨i0, hi, hz0, hz1, hz2⟩ := info_parts hinfo
    have hr : ∀ ty, (Builtin.append_ #[t, t] ty #[v, .slice none 0 c]).run Tryz.prog u = .ok v u := by
      intro ty
      obtain ⟨xs, hown, _⟩ := hrow
      rcases hown.2.2 with ⟨rfl, _⟩ | ⟨g, cap, cur, rfl, _, hg, hnc, _⟩
      · simp [Builtin.append_, run_underlying ht, sizeOf, typeInfo, hi, Builtin.lenOf, Builtin.firstCells, loadCells, loadCellsFrom]
      · simp [Builtin.append_, run_underlying ht, sizeOf, typeInfo, hi, Builtin.lenOf, Builtin.firstCells, loadCells, loadCellsFrom, hnc, storeCells]
    unfold Oper.wp execOp
    simp only [ho, resolve, invoke, builtin, Sem.run_bind, Sem.run_pure, Result.andThen_ok, List.map_toArray, List.map_cons, List.map_nil, hs, hx, hr]
    exact h v u (by simpa using hrow) ⟨rfl, rfl, rfl, Nat.le_refl _, fun _ _ _ => rfl⟩ (.inl rfl)
  · subst hm
    obtain ⟨i0, hi, hz0, hz1, hz2⟩ := info_parts hinfo
    obtain ⟨xs, hown, hch⟩ := hrow
    have hmul : (L.length + N.length) * 1 ≤ (L.length + N.length) * bytes := Nat.mul_le_mul_left _ hby
    obtain ⟨v', u', hr, h2, h3, h4, h5⟩ := run_append_own_at (P := Tryz.prog) u w0.heap.size t o.type e i0 z k bytes ht hi hz0 hz1 hz2 hzs hk0 v L.length xs hown.2 ad N.length c news hN.1 hcells h1 (by unfold maxLen; omega) hb hown.1.size
    unfold Oper.wp execOp
    simp only [ho, resolve, invoke, builtin, Sem.run_bind, Sem.run_pure, Result.andThen_ok, List.map_toArray, List.map_cons, List.map_nil, hs, hx, hr]
    refine (h v' u' ⟨xs ++ news, ⟨hown.row h3, by rw [List.length_append]; exact h2⟩, ?_⟩ h3 h5)
    have put : ∀ {ys : List Value} {M : List α}, Chunks R k (fun b => A b ∧ v.ownBlock ≠ some b) u ys M → Chunks R k (fun b => A b ∧ v'.ownBlock ≠ some b) u' ys M := fun {ys M} hc => by
      have c1 := hc.weak hR (A' := fun b => (A b ∧ v.ownBlock ≠ some b) ∧ b < u.heap.size) (fun b hb h => ⟨h, hb⟩)
      have c2 := c1.kept hR (Kept.grown h3 (fun b e => fun h => h.1.2 e))
      refine c2.weak hR (fun b _ h => ⟨h.1.1, fun e => ?_⟩)
      rcases h5 with h5 | h5
      · rw [h5] at e; exact h.1.2 e
      · rw [h5] at e
        have : u.heap.size = b := by simpa using e
        exact absurd h.2 (by omega)
    obtain ⟨l1, c1⟩ := put hch
    obtain ⟨l2, c2⟩ := put hN
    refine ⟨by rw [List.length_append, List.length_append, l1, l2, Nat.add_mul], fun i hi => ?_⟩
    rcases Nat.lt_or_ge i L.length with h' | h'
    · obtain ⟨cs, q1, q2⟩ := c1 i h'
      have e : (L ++ N).getD i default = L.getD i default := by rw [getE _ _ hi, getE _ _ h', List.getElem_append_left h']
      refine ⟨cs, by rw [e]; exact q1, fun j hj => ?_⟩
      rw [List.getElem?_append_left (by have : (i + 1) * k ≤ L.length * k := Nat.mul_le_mul_right k h'; rw [Nat.add_mul] at this; omega)]
      exact q2 j hj
    · have h'' : i - L.length < N.length := by simp at hi; omega
      obtain ⟨cs, q1, q2⟩ := c2 (i - L.length) h''
      have e : (L ++ N).getD i default = N.getD (i - L.length) default := by rw [getE _ _ hi, getE _ _ h'', List.getElem_append_right h']
      refine ⟨cs, by rw [e]; exact q1, fun j hj => ?_⟩
      have hle : L.length * k ≤ i * k := Nat.mul_le_mul_right k h'
      rw [List.getElem?_append_right (by omega), l1, idx_part i L.length k j h', ← q2 j hj]
/-- At a plain region's list of operations. -/
theorem row_appendP (hR : Firm R k) {ops : Array Oper} {rest : List Oper} {o : Oper} {a : Act} {Q : Exit → Act → World → Prop} {A : Where} {w0 u : World} (hgd : Region.wanted o (yielded ops a.tmps) = true) (s x : Operand) (t e : TypeId)
    (ho : o.op = .call { callee := .builtin .append, args := #[s, x], argTypes := #[t, t] }) (z : Value) (bytes : Nat) (hinfo : (Tryz.prog.info? e).map (fun i => (i.zero, i.size, i.bytes)) = some (some z, k, bytes)) (ht : Tryz.prog.underlying t = some (.slice e)) (hzs : z.cells.size = k) (hk0 : 0 < k) (hby : 1 ≤ bytes)
    (v : Value) (L : List α) (hs : a.eval s = v) (hrow : Row R k A w0 u e v L)
    (ad : Option Addr) (m c : Nat) (N : List α) (hx : a.eval x = .slice ad m c) (hN : Src R k (fun b => A b ∧ v.ownBlock ≠ some b) u ad m N) (hb : (L.length + N.length) * bytes ≤ 140737488355328)
    (h : ∀ v' u', Row R k A w0 u' e v' (L ++ N) → u.grownBy u' v.ownBlock → (v'.ownBlock = v.ownBlock ∨ v'.ownBlock = some u.heap.size) → wpList Tryz.prog ops Q rest (a.put o.dst v') u') : wpList Tryz.prog ops Q (o :: rest) a u :=
  BigFrame.wpList_want hgd (fun _ hK => row_appendP_wp hR s x t e ho z bytes hinfo ht hzs hk0 hby v L hs hrow ad m c N hx hN hb (fun v' u' h2 h3 h4 => hK _ _ (h v' u' h2 h3 h4)))
end
end Go.Proofs.YtillkgflppabfaaGreatDoor
namespace Go.Proofs.YtillkgflppabfaaGreatDoor
open Go.RowKit
set_option linter.unusedSimpArgs false
set_option maxRecDepth 100000

theorem RPod.reads9 {A : Where} {w : World} {cs : List Value} {p : PodD} (h : RPod A w cs p) : ∃ h2 h12 : Hd, cs[0]? = some (.string p.1) ∧ cs[2]? = some (.slice h2.1 h2.2.1 h2.2.2) ∧ cs[12]? = some (.slice h12.1 h12.2.1 h12.2.2) ∧ SlAt RLabel 2 32 A w h2.1 h2.2.1 h2.2.2 (pLabs p) ∧ SlAt RSpread 4 56 A w h12.1 h12.2.1 h12.2.2 (pSpreads p) := by
  obtain ⟨h2, h6, h7, h8, h9, h10, h11, h12, h13, rfl, _, s2, _, _, _, _, _, _, s12, _⟩ := h.out
  exact ⟨h2, h12, rfl, rfl, rfl, s2, s12⟩
theorem Row.slO9 {α : Type} [Inhabited α] {R : Rep α} {k : Nat} (hR : Firm R k) {bytes : Nat} {A : Where} {w0 u : World} {e : TypeId} {v : Value} {L : List α} (h : Row R k A w0 u e v L) (hb : L.length * bytes ≤ 140737488351232) :
    ∃ a cap, v = .slice a L.length cap ∧ SlAt R k bytes (fun _ => True) u a L.length cap L := by
  obtain ⟨xs, h1, h2⟩ := h
  obtain ⟨a, cap, e1, h3⟩ := sl_of_owns (bytes := bytes) hR h1.2 h2 hb
  exact ⟨a, cap, e1, h3.weak hR (fun b _ _ => trivial)⟩
theorem any_take9 {α : Type} [Inhabited α] (f : α → Bool) {L : List α} {k : Nat} (h : k < L.length) (h0 : (L.take k).any f = false) (h1 : f (L.getD k default) = false) : (L.take (k + 1)).any f = false := by
  rw [← take_at9 h, List.any_append, h0]
  generalize L.getD k default = y at h1 ⊢
  simp [h1]
theorem any_at9 {α : Type} [Inhabited α] (f : α → Bool) {L : List α} {k : Nat} (h : k < L.length) (h1 : f (L.getD k default) = true) : L.any f = true := by
  rw [List.any_eq_true]
  exact ⟨L.getD k default, by rw [List.getD_eq_getElem?_getD, List.getElem?_eq_getElem h]; exact List.getElem_mem h, h1⟩
/-- What lies behind the calls. -/
def ScAt (w : World) (cs : List Value) (p : PodD) (h2 h12 : Hd) (la : Option Addr) (ln lc : Nat) (Lb : List Lab) (a : Option Addr) (n cap : Nat) (N : List NodeD) (av : Option Addr) (q cv : Nat) (Q : List PlacedD) (u : World) : Prop :=
  BoxL u w.heap.size cs ∧ SlAt RLabel 2 32 (fun _ => True) u h2.1 h2.2.1 h2.2.2 (pLabs p) ∧ SlAt RSpread 4 56 (fun _ => True) u h12.1 h12.2.1 h12.2.2 (pSpreads p) ∧ SlAt RLabel 2 32 (fun _ => True) u la ln lc Lb ∧ SlAt RNode 9 112 (fun _ => True) u a n cap N ∧ SlAt RPlaced 17 320 (fun _ => True) u av q cv Q ∧ Below w.heap.size w u
theorem ScAt.on {w : World} {cs : List Value} {p : PodD} {h2 h12 : Hd} {la : Option Addr} {ln lc : Nat} {Lb : List Lab} {a : Option Addr} {n cap : Nat} {N : List NodeD} {av : Option Addr} {q cv : Nat} {Q : List PlacedD} {u u' : World} (h : ScAt w cs p h2 h12 la ln lc Lb a n cap N av q cv Q u) (hb : Below u.heap.size u u') : ScAt w cs p h2 h12 la ln lc Lb a n cap N av q cv Q u' :=
  ⟨h.1.on hb, h.2.1.on RLabel.firm hb, h.2.2.1.on RSpread.firm hb, h.2.2.2.1.on RLabel.firm hb, h.2.2.2.2.1.on RNode.firm hb, h.2.2.2.2.2.1.on RPlaced.firm hb, on2 h.2.2.2.2.2.2 hb⟩
end Go.Proofs.YtillkgflppabfaaGreatDoor
namespace Go.Proofs.YtillkgflppabfaaGreatDoor
open Go.RowKit
set_option linter.unusedSimpArgs false

theorem infoTaint : (Tryz.prog.info? 89).map (fun i => (i.zero, i.size, i.bytes)) = some (some (.agg #[.string ⟨#[]⟩, .string ⟨#[]⟩, .int .i64 0]), 3, 40) := by kernel_rfl
set_option maxHeartbeats 4000000 in
theorem Node_copy (cs : List Value) (A : Where) (x : NodeD) (w : World) (h : Hid (RNode A w cs x)) : Calls Tryz.prog 13 #[.agg cs.toArray] w fun e w' => ∃ cs', e = .returned (.agg cs'.toArray) ∧ RNode (Fresh w) w' cs' x ∧ Below w.heap.size w w' := by
  obtain ⟨h1, ⟨a2, n2, m2⟩, rfl, p0, p1, p2⟩ := h.out.out
  simp only at p2 ⊢
  clear h
  have hb0 : Below w.heap.size w (((w.alloc (.cells #[.string x.1, .slice h1.1 h1.2.1 h1.2.2, .slice a2 n2 m2, .bool x.2.2.2.1, .int .i64 x.2.2.2.2.1.1, .int .i64 x.2.2.2.2.1.2.1, .int .i64 x.2.2.2.2.1.2.2, .int .i64 x.2.2.2.2.2.1, .int .i64 x.2.2.2.2.2.2] 40)).alloc (.cells #[.string ⟨#[]⟩, .slice none 0 0, .slice none 0 0, .bool false, .int .i64 0, .int .i64 0, .int .i64 0, .int .i64 0, .int .i64 0] 40)).alloc (.cells #[.string x.1, .slice h1.1 h1.2.1 h1.2.2, .slice a2 n2 m2, .bool x.2.2.2.1, .int .i64 x.2.2.2.2.1.1, .int .i64 x.2.2.2.2.1.2.1, .int .i64 x.2.2.2.2.1.2.2, .int .i64 x.2.2.2.2.2.1, .int .i64 x.2.2.2.2.2.2] 40)) := by go_grown
  have hB2 : BoxL (((w.alloc (.cells #[.string x.1, .slice h1.1 h1.2.1 h1.2.2, .slice a2 n2 m2, .bool x.2.2.2.1, .int .i64 x.2.2.2.2.1.1, .int .i64 x.2.2.2.2.1.2.1, .int .i64 x.2.2.2.2.1.2.2, .int .i64 x.2.2.2.2.2.1, .int .i64 x.2.2.2.2.2.2] 40)).alloc (.cells #[.string ⟨#[]⟩, .slice none 0 0, .slice none 0 0, .bool false, .int .i64 0, .int .i64 0, .int .i64 0, .int .i64 0, .int .i64 0] 40)).alloc (.cells #[.string x.1, .slice h1.1 h1.2.1 h1.2.2, .slice a2 n2 m2, .bool x.2.2.2.1, .int .i64 x.2.2.2.2.1.1, .int .i64 x.2.2.2.2.1.2.1, .int .i64 x.2.2.2.2.1.2.2, .int .i64 x.2.2.2.2.2.1, .int .i64 x.2.2.2.2.2.2] 40)) (w.heap.size + 1) [.string ⟨#[]⟩, .slice none 0 0, .slice none 0 0, .bool false, .int .i64 0, .int .i64 0, .int .i64 0, .int .i64 0, .int .i64 0] := by
    have := ((BoxL.new (w.alloc (.cells #[.string x.1, .slice h1.1 h1.2.1 h1.2.2, .slice a2 n2 m2, .bool x.2.2.2.1, .int .i64 x.2.2.2.2.1.1, .int .i64 x.2.2.2.2.1.2.1, .int .i64 x.2.2.2.2.1.2.2, .int .i64 x.2.2.2.2.2.1, .int .i64 x.2.2.2.2.2.2] 40)) 40 [.string ⟨#[]⟩, .slice none 0 0, .slice none 0 0, .bool false, .int .i64 0, .int .i64 0, .int .i64 0, .int .i64 0, .int .i64 0]).on ((Below.refl _ _).alloc (Nat.le_refl _) (.cells #[.string x.1, .slice h1.1 h1.2.1 h1.2.2, .slice a2 n2 m2, .bool x.2.2.2.1, .int .i64 x.2.2.2.2.1.1, .int .i64 x.2.2.2.2.1.2.1, .int .i64 x.2.2.2.2.1.2.2, .int .i64 x.2.2.2.2.2.1, .int .i64 x.2.2.2.2.2.2] 40)))
    simpa using this
  have hB3 : BoxL (((w.alloc (.cells #[.string x.1, .slice h1.1 h1.2.1 h1.2.2, .slice a2 n2 m2, .bool x.2.2.2.1, .int .i64 x.2.2.2.2.1.1, .int .i64 x.2.2.2.2.1.2.1, .int .i64 x.2.2.2.2.1.2.2, .int .i64 x.2.2.2.2.2.1, .int .i64 x.2.2.2.2.2.2] 40)).alloc (.cells #[.string ⟨#[]⟩, .slice none 0 0, .slice none 0 0, .bool false, .int .i64 0, .int .i64 0, .int .i64 0, .int .i64 0, .int .i64 0] 40)).alloc (.cells #[.string x.1, .slice h1.1 h1.2.1 h1.2.2, .slice a2 n2 m2, .bool x.2.2.2.1, .int .i64 x.2.2.2.2.1.1, .int .i64 x.2.2.2.2.1.2.1, .int .i64 x.2.2.2.2.1.2.2, .int .i64 x.2.2.2.2.2.1, .int .i64 x.2.2.2.2.2.2] 40)) (w.heap.size + 1 + 1) [.string x.1, .slice h1.1 h1.2.1 h1.2.2, .slice a2 n2 m2, .bool x.2.2.2.1, .int .i64 x.2.2.2.2.1.1, .int .i64 x.2.2.2.2.1.2.1, .int .i64 x.2.2.2.2.1.2.2, .int .i64 x.2.2.2.2.2.1, .int .i64 x.2.2.2.2.2.2] := by
    have := BoxL.new ((w.alloc (.cells #[.string x.1, .slice h1.1 h1.2.1 h1.2.2, .slice a2 n2 m2, .bool x.2.2.2.1, .int .i64 x.2.2.2.2.1.1, .int .i64 x.2.2.2.2.1.2.1, .int .i64 x.2.2.2.2.1.2.2, .int .i64 x.2.2.2.2.2.1, .int .i64 x.2.2.2.2.2.2] 40)).alloc (.cells #[.string ⟨#[]⟩, .slice none 0 0, .slice none 0 0, .bool false, .int .i64 0, .int .i64 0, .int .i64 0, .int .i64 0, .int .i64 0] 40)) 40 [.string x.1, .slice h1.1 h1.2.1 h1.2.2, .slice a2 n2 m2, .bool x.2.2.2.1, .int .i64 x.2.2.2.2.1.1, .int .i64 x.2.2.2.2.1.2.1, .int .i64 x.2.2.2.2.1.2.2, .int .i64 x.2.2.2.2.2.1, .int .i64 x.2.2.2.2.2.2]
    simpa using this
  have hB1 : BoxL (((w.alloc (.cells #[.string x.1, .slice h1.1 h1.2.1 h1.2.2, .slice a2 n2 m2, .bool x.2.2.2.1, .int .i64 x.2.2.2.2.1.1, .int .i64 x.2.2.2.2.1.2.1, .int .i64 x.2.2.2.2.1.2.2, .int .i64 x.2.2.2.2.2.1, .int .i64 x.2.2.2.2.2.2] 40)).alloc (.cells #[.string ⟨#[]⟩, .slice none 0 0, .slice none 0 0, .bool false, .int .i64 0, .int .i64 0, .int .i64 0, .int .i64 0, .int .i64 0] 40)).alloc (.cells #[.string x.1, .slice h1.1 h1.2.1 h1.2.2, .slice a2 n2 m2, .bool x.2.2.2.1, .int .i64 x.2.2.2.2.1.1, .int .i64 x.2.2.2.2.1.2.1, .int .i64 x.2.2.2.2.1.2.2, .int .i64 x.2.2.2.2.2.1, .int .i64 x.2.2.2.2.2.2] 40)) w.heap.size [.string x.1, .slice h1.1 h1.2.1 h1.2.2, .slice a2 n2 m2, .bool x.2.2.2.1, .int .i64 x.2.2.2.2.1.1, .int .i64 x.2.2.2.2.1.2.1, .int .i64 x.2.2.2.2.1.2.2, .int .i64 x.2.2.2.2.2.1, .int .i64 x.2.2.2.2.2.2] := (BoxL.new w 40 [.string x.1, .slice h1.1 h1.2.1 h1.2.2, .slice a2 n2 m2, .bool x.2.2.2.1, .int .i64 x.2.2.2.2.1.1, .int .i64 x.2.2.2.2.1.2.1, .int .i64 x.2.2.2.2.1.2.2, .int .i64 x.2.2.2.2.2.1, .int .i64 x.2.2.2.2.2.2]).on (((Below.refl _ _).alloc (Nat.le_refl _) (.cells #[.string ⟨#[]⟩, .slice none 0 0, .slice none 0 0, .bool false, .int .i64 0, .int .i64 0, .int .i64 0, .int .i64 0, .int .i64 0] 40)).alloc (by simp) (.cells #[.string x.1, .slice h1.1 h1.2.1 h1.2.2, .slice a2 n2 m2, .bool x.2.2.2.1, .int .i64 x.2.2.2.2.1.1, .int .i64 x.2.2.2.2.1.2.1, .int .i64 x.2.2.2.2.1.2.2, .int .i64 x.2.2.2.2.2.1, .int .i64 x.2.2.2.2.2.2] 40))
  have hC := Labels_copy h1.1 h1.2.1 h1.2.2 A x.2.1 (((w.alloc (.cells #[.string x.1, .slice h1.1 h1.2.1 h1.2.2, .slice a2 n2 m2, .bool x.2.2.2.1, .int .i64 x.2.2.2.2.1.1, .int .i64 x.2.2.2.2.1.2.1, .int .i64 x.2.2.2.2.1.2.2, .int .i64 x.2.2.2.2.2.1, .int .i64 x.2.2.2.2.2.2] 40)).alloc (.cells #[.string ⟨#[]⟩, .slice none 0 0, .slice none 0 0, .bool false, .int .i64 0, .int .i64 0, .int .i64 0, .int .i64 0, .int .i64 0] 40)).alloc (.cells #[.string x.1, .slice h1.1 h1.2.1 h1.2.2, .slice a2 n2 m2, .bool x.2.2.2.1, .int .i64 x.2.2.2.2.1.1, .int .i64 x.2.2.2.2.1.2.1, .int .i64 x.2.2.2.2.1.2.2, .int .i64 x.2.2.2.2.2.1, .int .i64 x.2.2.2.2.2.2] 40)) (SlAt.on RLabel.firm p1 hb0)
  obtain ⟨W3, hW3⟩ : ∃ W3, W3 = (((w.alloc (.cells #[.string x.1, .slice h1.1 h1.2.1 h1.2.2, .slice a2 n2 m2, .bool x.2.2.2.1, .int .i64 x.2.2.2.2.1.1, .int .i64 x.2.2.2.2.1.2.1, .int .i64 x.2.2.2.2.1.2.2, .int .i64 x.2.2.2.2.2.1, .int .i64 x.2.2.2.2.2.2] 40)).alloc (.cells #[.string ⟨#[]⟩, .slice none 0 0, .slice none 0 0, .bool false, .int .i64 0, .int .i64 0, .int .i64 0, .int .i64 0, .int .i64 0] 40)).alloc (.cells #[.string x.1, .slice h1.1 h1.2.1 h1.2.2, .slice a2 n2 m2, .bool x.2.2.2.1, .int .i64 x.2.2.2.2.1.1, .int .i64 x.2.2.2.2.1.2.1, .int .i64 x.2.2.2.2.1.2.2, .int .i64 x.2.2.2.2.2.1, .int .i64 x.2.2.2.2.2.2] 40)) := ⟨_, rfl⟩
  have hsz : Hid (W3.heap.size = w.heap.size + 1 + 1 + 1) := by rw [Hid, hW3]; simp
  go_enter Tryz.func13, Tryz.ntmps13
  go_wp2_with fail
  rw [← hW3] at hb0 hB1 hB2 hB3 hC ⊢
  clear hW3
  refine hC.mono ?_
  rintro e w4 ⟨a4, c4, rfl, hS4, hb4⟩
  clear hC
  have hsz4 : w.heap.size + 1 + 1 + 1 ≤ w4.heap.size := by have := hb4.size; rw [hsz.out] at this; exact this
  have hne0 : w.heap.size ≠ w4.heap.size := by omega
  have hne1 : w.heap.size + 1 ≠ w4.heap.size := by omega
  have hne2 : w.heap.size + 1 + 1 ≠ w4.heap.size := by omega
  have hlt0 : w.heap.size < w4.heap.size := by omega
  obtain ⟨c1_2, _⟩ := (hB1.on hb4).2 2 _ rfl
  have k2 := hB2.on hb4
  have k3 := hB3.on hb4
  have HW := hsz
  have hS4' : Hid (SlAt RLabel 2 32 (Fresh W3) w4 a4 h1.2.1 c4 x.2.1) := hS4
  clear hsz hS4 hB1 hB2 hB3
  have k2' : BoxL (w4.setCell ⟨w.heap.size + 1 + 1, 1, none⟩ (.slice a4 h1.2.1 c4)) (w.heap.size + 1) [.string ⟨#[]⟩, .slice none 0 0, .slice none 0 0, .bool false, .int .i64 0, .int .i64 0, .int .i64 0, .int .i64 0, .int .i64 0] := k2.other (by simp) _
  have k3' : BoxL (w4.setCell ⟨w.heap.size + 1 + 1, 1, none⟩ (.slice a4 h1.2.1 c4)) (w.heap.size + 1 + 1) [.string x.1, .slice a4 h1.2.1 c4, .slice a2 n2 m2, .bool x.2.2.2.1, .int .i64 x.2.2.2.2.1.1, .int .i64 x.2.2.2.2.1.2.1, .int .i64 x.2.2.2.2.1.2.2, .int .i64 x.2.2.2.2.2.1, .int .i64 x.2.2.2.2.2.2] := k3.set 1 _ (by simp)
  have K2 : Hid (BoxL (w4.setCell ⟨w.heap.size + 1 + 1, 1, none⟩ (.slice a4 h1.2.1 c4)) (w.heap.size + 1) [.string ⟨#[]⟩, .slice none 0 0, .slice none 0 0, .bool false, .int .i64 0, .int .i64 0, .int .i64 0, .int .i64 0, .int .i64 0]) := k2'
  have K3 : Hid (BoxL (w4.setCell ⟨w.heap.size + 1 + 1, 1, none⟩ (.slice a4 h1.2.1 c4)) (w.heap.size + 1 + 1) [.string x.1, .slice a4 h1.2.1 c4, .slice a2 n2 m2, .bool x.2.2.2.1, .int .i64 x.2.2.2.2.1.1, .int .i64 x.2.2.2.2.1.2.1, .int .i64 x.2.2.2.2.1.2.2, .int .i64 x.2.2.2.2.2.1, .int .i64 x.2.2.2.2.2.2]) := k3'
  have hbU : Below w.heap.size w ((w4.setCell ⟨w.heap.size + 1 + 1, 1, none⟩ (.slice a4 h1.2.1 c4)).alloc (.cells #[] 89)) := ((on2 hb0 hb4).setCell (by simp <;> omega) _).alloc (by simp; omega) _
  obtain ⟨c3_1, f3_1⟩ := k3.2 1 _ rfl
  clear k2 k3 k2' k3'
  match a2 with
  | none =>
    obtain ⟨rfl, rfl, hnil⟩ := sl_none p2
    have hbn : Below (w4.setCell ⟨w.heap.size + 1 + 1, 1, none⟩ (.slice a4 h1.2.1 c4)).heap.size (w4.setCell ⟨w.heap.size + 1 + 1, 1, none⟩ (.slice a4 h1.2.1 c4)) ((w4.setCell ⟨w.heap.size + 1 + 1, 1, none⟩ (.slice a4 h1.2.1 c4)).alloc (.cells #[] 89)) := (Below.refl _ _).alloc (Nat.le_refl _) _
    have q2 := K2.out.on hbn
    have q3 := K3.out.on hbn
    clear K2 K3
    obtain ⟨c2_0, f2_0⟩ := q2.2 0 _ rfl
    obtain ⟨c2_1, f2_1⟩ := q2.2 1 _ rfl
    obtain ⟨c2_2, f2_2⟩ := q2.2 2 _ rfl
    obtain ⟨c2_3, f2_3⟩ := q2.2 3 _ rfl
    obtain ⟨c2_4, f2_4⟩ := q2.2 4 _ rfl
    obtain ⟨c2_5, f2_5⟩ := q2.2 5 _ rfl
    obtain ⟨c2_6, f2_6⟩ := q2.2 6 _ rfl
    obtain ⟨c2_7, f2_7⟩ := q2.2 7 _ rfl
    obtain ⟨c2_8, f2_8⟩ := q2.2 8 _ rfl
    obtain ⟨c3_0, f3_0⟩ := q3.2 0 _ rfl
    obtain ⟨c3_1, f3_1⟩ := q3.2 1 _ rfl
    obtain ⟨c3_2, f3_2⟩ := q3.2 2 _ rfl
    obtain ⟨c3_3, f3_3⟩ := q3.2 3 _ rfl
    obtain ⟨c3_4, f3_4⟩ := q3.2 4 _ rfl
    obtain ⟨c3_5, f3_5⟩ := q3.2 5 _ rfl
    obtain ⟨c3_6, f3_6⟩ := q3.2 6 _ rfl
    obtain ⟨c3_7, f3_7⟩ := q3.2 7 _ rfl
    obtain ⟨c3_8, f3_8⟩ := q3.2 8 _ rfl
    clear q2 q3
    have hS5' : Hid (SlAt RTaint 3 40 (Fresh (w4.setCell ⟨w.heap.size + 1 + 1, 1, none⟩ (.slice a4 h1.2.1 c4))) ((w4.setCell ⟨w.heap.size + 1 + 1, 1, none⟩ (.slice a4 h1.2.1 c4)).alloc (.cells #[] 89)) (some ⟨w4.heap.size, 0, none⟩) 0 0 x.2.2.1) := by rw [hnil]; exact SlAt.nil _ _ _ _ (fun h => by cases h)
    go_wp2_with fail
    refine bodyPost_ret (v := .agg #[.string x.1, .slice a4 h1.2.1 c4, .slice (some ⟨w4.heap.size, 0, none⟩) 0 0, .bool x.2.2.2.1, .int .i64 x.2.2.2.2.1.1, .int .i64 x.2.2.2.2.1.2.1, .int .i64 x.2.2.2.2.1.2.2, .int .i64 x.2.2.2.2.2.1, .int .i64 x.2.2.2.2.2.2]) (by simp [results, Tryz.results13, go_sem, c2_0, c2_1, c2_2, c2_3, c2_4, c2_5, c2_6, c2_7, c2_8, c3_0, c3_1, c3_2, c3_3, c3_4, c3_5, c3_6, c3_7, c3_8]) rfl ⟨[.string x.1, .slice a4 h1.2.1 c4, .slice (some ⟨w4.heap.size, 0, none⟩) 0 0, .bool x.2.2.2.1, .int .i64 x.2.2.2.2.1.1, .int .i64 x.2.2.2.2.1.2.1, .int .i64 x.2.2.2.2.1.2.2, .int .i64 x.2.2.2.2.2.1, .int .i64 x.2.2.2.2.2.2], rfl, ?_, ?_⟩
    · have hS4 := hS4'.out
      have hS5 := hS5'.out
      have hsW := HW.out
      refine RNode.mk (h1 := (a4, h1.2.1, c4)) (h2 := ((some ⟨w4.heap.size, 0, none⟩ : Option Addr), 0, 0)) p0 (SlAt.weak RLabel.firm (A := Fresh W3) (SlAt.kept RLabel.firm hS4 ?kp) (fun b _ hb => show w.heap.size ≤ b by have hb1 : W3.heap.size ≤ b := hb; have := hb0.size; omega)) (SlAt.weak RTaint.firm (A := Fresh (w4.setCell ⟨w.heap.size + 1 + 1, 1, none⟩ (.slice a4 h1.2.1 c4))) (SlAt.kept RTaint.firm hS5 ?kq) (fun b _ hb => show w.heap.size ≤ b by have hb1 : (w4.setCell ⟨w.heap.size + 1 + 1, 1, none⟩ (.slice a4 h1.2.1 c4)).heap.size ≤ b := hb; simp at hb1; omega))
      case kp =>
        repeat (refine Kept.trans ?_ (Kept.set (Fresh.not (by simp <;> omega)) _))
        exact (Kept.set (Fresh.not (by simp <;> omega)) _).trans (Kept.below hbn)
      case kq =>
        repeat (refine Kept.trans ?_ (Kept.set (Fresh.not (by simp <;> omega)) _))
        exact Kept.refl _ _
    · repeat (refine Below.setCell ?_ (by simp <;> omega) _)
      exact on2 ((on2 hb0 hb4).setCell (by simp <;> omega) _) hbn
  | some ad =>
    obtain ⟨xs, hc, hcell, hone⟩ := (p2.on RTaint.firm hbU).chunks RTaint.firm
    have hn := p2.1
    have hbb := p2.2.2.2.1
    subst hn
    have HR : Hid (Row RTaint 3 (Fresh (w4.setCell ⟨w.heap.size + 1 + 1, 1, none⟩ (.slice a4 h1.2.1 c4))) (w4.setCell ⟨w.heap.size + 1 + 1, 1, none⟩ (.slice a4 h1.2.1 c4)) ((w4.setCell ⟨w.heap.size + 1 + 1, 1, none⟩ (.slice a4 h1.2.1 c4)).alloc (.cells #[] 89)) 89 (.slice (some ⟨w4.heap.size, 0, none⟩) 0 0) []) := by
      have := Row.start (R := RTaint) (k := 3) (Fresh (w4.setCell ⟨w.heap.size + 1 + 1, 1, none⟩ (.slice a4 h1.2.1 c4))) (w4.setCell ⟨w.heap.size + 1 + 1, 1, none⟩ (.slice a4 h1.2.1 c4)) (w4.setCell ⟨w.heap.size + 1 + 1, 1, none⟩ (.slice a4 h1.2.1 c4)) 89 (Below.refl _ _)
      unfold Hid
      simpa using this
    have HC : Hid (Chunks RTaint 3 (fun b => Fresh (w4.setCell ⟨w.heap.size + 1 + 1, 1, none⟩ (.slice a4 h1.2.1 c4)) b ∧ Value.ownBlock (.slice (some ⟨w4.heap.size, 0, none⟩) 0 0) ≠ some b) ((w4.setCell ⟨w.heap.size + 1 + 1, 1, none⟩ (.slice a4 h1.2.1 c4)).alloc (.cells #[] 89)) xs x.2.2.1) := hc.flat RTaint.flat
    have HX : Hid (∀ j y, xs[j]? = some y → ((w4.setCell ⟨w.heap.size + 1 + 1, 1, none⟩ (.slice a4 h1.2.1 c4)).alloc (.cells #[] 89)).cell? (ad.add j) = some y) := hcell
    have HO : Hid (∀ y ∈ xs, y.oneCell' = true) := hone
    clear hc hcell hone
    have HBB : Hid (x.2.2.1.length * 40 ≤ 140737488351232) := hbb
    go_wp2_with (at_builtin; go_must (refine row_append RTaint.firm (A := Fresh (w4.setCell ⟨w.heap.size + 1 + 1, 1, none⟩ (.slice a4 h1.2.1 c4))) (w0 := (w4.setCell ⟨w.heap.size + 1 + 1, 1, none⟩ (.slice a4 h1.2.1 c4))) rfl _ _ 36 89 rfl _ 40 infoTaint Tryz.underlying36 rfl (by decide) (by decide) _ [] rfl HR.out ad x.2.2.1.length m2 xs x.2.2.1 rfl rfl HC.out HX.out HO.out (by have := HBB.out; simp; omega) ?_); intro v5 w5 hrow5 hg5; obtain ⟨a5, c5, rfl, hS5⟩ := hrow5.slF (bytes := 40) RTaint.firm (by simpa using HBB.out); have hb5 := hrow5.below; have q2 := K2.out.on hb5; have q3 := K3.out.on hb5; clear c3_1 f3_1; obtain ⟨c2_0, f2_0⟩ := q2.2 0 _ rfl; obtain ⟨c2_1, f2_1⟩ := q2.2 1 _ rfl; obtain ⟨c2_2, f2_2⟩ := q2.2 2 _ rfl; obtain ⟨c2_3, f2_3⟩ := q2.2 3 _ rfl; obtain ⟨c2_4, f2_4⟩ := q2.2 4 _ rfl; obtain ⟨c2_5, f2_5⟩ := q2.2 5 _ rfl; obtain ⟨c2_6, f2_6⟩ := q2.2 6 _ rfl; obtain ⟨c2_7, f2_7⟩ := q2.2 7 _ rfl; obtain ⟨c2_8, f2_8⟩ := q2.2 8 _ rfl; obtain ⟨c3_0, f3_0⟩ := q3.2 0 _ rfl; obtain ⟨c3_1, f3_1⟩ := q3.2 1 _ rfl; obtain ⟨c3_2, f3_2⟩ := q3.2 2 _ rfl; obtain ⟨c3_3, f3_3⟩ := q3.2 3 _ rfl; obtain ⟨c3_4, f3_4⟩ := q3.2 4 _ rfl; obtain ⟨c3_5, f3_5⟩ := q3.2 5 _ rfl; obtain ⟨c3_6, f3_6⟩ := q3.2 6 _ rfl; obtain ⟨c3_7, f3_7⟩ := q3.2 7 _ rfl; obtain ⟨c3_8, f3_8⟩ := q3.2 8 _ rfl; clear q2 q3 hrow5 hg5; simp only [List.nil_append] at hS5 ⊢)
    have hS5' : Hid (SlAt RTaint 3 40 (Fresh (w4.setCell ⟨w.heap.size + 1 + 1, 1, none⟩ (.slice a4 h1.2.1 c4))) w5 a5 x.2.2.1.length c5 x.2.2.1) := hS5
    clear hS5
    refine bodyPost_ret (v := .agg #[.string x.1, .slice a4 h1.2.1 c4, .slice a5 x.2.2.1.length c5, .bool x.2.2.2.1, .int .i64 x.2.2.2.2.1.1, .int .i64 x.2.2.2.2.1.2.1, .int .i64 x.2.2.2.2.1.2.2, .int .i64 x.2.2.2.2.2.1, .int .i64 x.2.2.2.2.2.2]) (by simp [results, Tryz.results13, go_sem, c2_0, c2_1, c2_2, c2_3, c2_4, c2_5, c2_6, c2_7, c2_8, c3_0, c3_1, c3_2, c3_3, c3_4, c3_5, c3_6, c3_7, c3_8]) rfl ⟨[.string x.1, .slice a4 h1.2.1 c4, .slice a5 x.2.2.1.length c5, .bool x.2.2.2.1, .int .i64 x.2.2.2.2.1.1, .int .i64 x.2.2.2.2.1.2.1, .int .i64 x.2.2.2.2.1.2.2, .int .i64 x.2.2.2.2.2.1, .int .i64 x.2.2.2.2.2.2], rfl, ?_, ?_⟩
    · have hS4 := hS4'.out
      have hS5 := hS5'.out
      have hsW := HW.out
      refine RNode.mk (h1 := (a4, h1.2.1, c4)) (h2 := (a5, x.2.2.1.length, c5)) p0 (SlAt.weak RLabel.firm (A := Fresh W3) (SlAt.kept RLabel.firm hS4 ?kp) (fun b _ hb => show w.heap.size ≤ b by have hb1 : W3.heap.size ≤ b := hb; have := hb0.size; omega)) (SlAt.weak RTaint.firm (A := Fresh (w4.setCell ⟨w.heap.size + 1 + 1, 1, none⟩ (.slice a4 h1.2.1 c4))) (SlAt.kept RTaint.firm hS5 ?kq) (fun b _ hb => show w.heap.size ≤ b by have hb1 : (w4.setCell ⟨w.heap.size + 1 + 1, 1, none⟩ (.slice a4 h1.2.1 c4)).heap.size ≤ b := hb; simp at hb1; omega))
      case kp =>
        repeat (refine Kept.trans ?_ (Kept.set (Fresh.not (by simp <;> omega)) _))
        exact (Kept.set (Fresh.not (by simp <;> omega)) _).trans (Kept.below hb5)
      case kq =>
        repeat (refine Kept.trans ?_ (Kept.set (Fresh.not (by simp <;> omega)) _))
        exact Kept.refl _ _
    · repeat (refine Below.setCell ?_ (by simp <;> omega) _)
      exact on2 ((on2 hb0 hb4).setCell (by simp <;> omega) _) hb5
end Go.Proofs.YtillkgflppabfaaGreatDoor
namespace Go.Proofs.YtillkgflppabfaaGreatDoor
open Go.RowKit
set_option linter.unusedSimpArgs false
set_option maxRecDepth 100000

theorem sizeNd : (Tryz.prog.info? 40).map (·.size) = some 9 := by kernel_rfl
theorem infoNd : (Tryz.prog.info? 40).map (fun i => (i.zero, i.size, i.bytes)) = some (some (.agg #[.string ⟨#[]⟩, .slice none 0 0, .slice none 0 0, .bool false, .int .i64 0, .int .i64 0, .int .i64 0, .int .i64 0, .int .i64 0]), 9, 112) := by kernel_rfl
theorem RNode.lit {A : Where} {w : World} {cs : List Value} {x : NodeD} (h : RNode A w cs x) : ∃ v0 v1 v2 v3 v4 v5 v6 v7 v8 : Value, cs = [v0, v1, v2, v3, v4, v5, v6, v7, v8] := by
  obtain ⟨_, _, rfl, _⟩ := h.out
  exact ⟨_, _, _, _, _, _, _, _, _, rfl⟩
set_option maxHeartbeats 4000000 in
theorem copies_calls (a : Option Addr) (n cap : Nat) (A : Where) (L : List NodeD) (w : World) (hL : Hid (SlAt RNode 9 112 A w a n cap L)) : Calls Tryz.prog 4 #[.slice a n cap] w fun e w' => ∃ v, e = .returned v ∧ Row RNode 9 (Fresh w) w w' 40 v L := by
  have hlen := hL.out.len (by decide)
  have hn : Hid (L.length = n) := hL.out.1
  have hbb : Hid (n * 112 ≤ 140737488351232) := hL.out.2.2.2.1
  have HR0 : Hid (Row RNode 9 (Fresh w) w (w.alloc (.cells #[] 40)) 40 (.slice (some ⟨w.heap.size, 0, none⟩) 0 0) (L.take 0)) := Row.start _ w w _ (Below.refl _ _)
  go_enter Tryz.func4, Tryz.ntmps4
  go_wp2_with fail
  go_loopw [3, 4] (fun s i wr => ∃ k : Nat, k ≤ n ∧ i = .int .i64 k ∧ Hid (Row RNode 9 (Fresh w) w wr 40 s (L.take k))) (fun _ i _ => n - (intOf i).toNat)
  case atStart => exact ⟨0, Nat.zero_le _, rfl, HR0⟩
  case round =>
    obtain ⟨k, hk, rfl, hrow⟩ := hrel
    by_cases hlt : k < n
    · have hltz : (k : Int) < (n : Int) := by omega
      have hkl : Hid (k < L.length) := by rw [Hid, hn.out]; exact hlt
      have hbw : Below w.heap.size w wr := hrow.out.below
      obtain ⟨B, off, rfl, hB, _, cs, hr, hv⟩ := (hL.out.on RNode.firm hbw).get hlt
      have HV : Hid (wr.rangeAt B (off + k * 9) cs) := hv
      have hi : (Tryz.prog.info? 40).map (·.size) = some cs.length := by rw [RNode.firm.len hr]; exact sizeNd
      have HT : Hid (L.take k ++ [L.getD k default] = L.take (k + 1)) := take_at hkl.out
      have HC := Node_copy cs A (L.getD k default) wr hr
      have HLb : Hid (((L.take k).length + [L.getD k default].length) * 112 ≤ 140737488355328) := by
        have := bytes_le hbb.out hlt
        rw [Hid, List.length_take, hn.out, List.length_singleton, Nat.min_eq_left (by omega)]
        exact this
      clear hr hv
      generalize L.getD k default = x at HT HC HLb
      go_wp2_with (first | (refine wpList_load_mid rfl 40 _ rfl B (off + k * 9) rfl cs _ HV.out Tryz.underlying40 rfl hi ?_) | fail)
      refine HC.mono ?_
      rintro e w2 ⟨cs2, rfl, hr2, hb2⟩
      clear HC
      obtain ⟨v0, v1, v2, v3, v4, v5, v6, v7, v8, rfl⟩ := RNode.lit hr2
      have hb3 : Below wr.heap.size wr (w2.alloc (.cells #[v0, v1, v2, v3, v4, v5, v6, v7, v8] 40)) := hb2.alloc hb2.size _
      have HR3 : Hid (Row RNode 9 (Fresh w) w (w2.alloc (.cells #[v0, v1, v2, v3, v4, v5, v6, v7, v8] 40)) 40 u3 (L.take k)) := hrow.out.on RNode.firm hb3
      have HE : RNode (fun b => Fresh w b ∧ Value.ownBlock u3 ≠ some b) (w2.alloc (.cells #[v0, v1, v2, v3, v4, v5, v6, v7, v8] 40)) [v0, v1, v2, v3, v4, v5, v6, v7, v8] x := RNode.firm.weak (RNode.firm.kept hr2 (Kept.alloc _ _ _)) (fun b _ hb => hrow.out.apart (u' := wr) (Nat.le_refl _) b hb)
      have H1 : Hid (∀ y ∈ [v0, v1, v2, v3, v4, v5, v6, v7, v8], y.oneCell' = true) := RNode.firm.one HE
      have HCh : Hid (Chunks RNode 9 (fun b => Fresh w b ∧ Value.ownBlock u3 ≠ some b) (w2.alloc (.cells #[v0, v1, v2, v3, v4, v5, v6, v7, v8] 40)) [v0, v1, v2, v3, v4, v5, v6, v7, v8] [x]) := chunk_one RNode.firm HE
      have HX : Hid (∀ j y, [v0, v1, v2, v3, v4, v5, v6, v7, v8][j]? = some y → (w2.alloc (.cells #[v0, v1, v2, v3, v4, v5, v6, v7, v8] 40)).cell? ((⟨w2.heap.size, 0, none⟩ : Addr).add j) = some y) := one_cells w2 _ 40
      clear HE hb3 hr2 hrow HV
      go_wp2_with (at_builtin; go_must (refine row_append RNode.firm (A := Fresh w) (w0 := w) rfl _ _ 25 40 rfl _ 112 infoNd Tryz.underlying25 rfl (by decide) (by decide) u3 (L.take k) rfl HR3.out ⟨w2.heap.size, 0, none⟩ 1 1 _ [x] rfl rfl HCh.out HX.out H1.out HLb.out ?_); intro v4 w4 hrow4 hg4)
      rw [HT.out] at hrow4
      go_roundw
      case rel => exact ⟨k + 1, by omega, by go_num, hrow4⟩
      case measure => simp [intOf]; omega
    · have hk' : L.take k = L := List.take_of_length_le (by rw [hn.out]; omega)
      rw [hk'] at hrow
      have h9 : Hid (Row RNode 9 (Fresh w) w wr 40 u3 L) := hrow
      clear hrow
      go_wp2_with fail
      go_ret
      exact ⟨_, rfl, h9.out⟩
end Go.Proofs.YtillkgflppabfaaGreatDoor
