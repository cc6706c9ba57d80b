/- The plan as the program makes it, in plain words: the volumes that can be had on a node lie on a shelf, and the smallest that suits is taken off it; it is the document's plan where names stand once. Plain mathematics. No condition. Several rows of one's own side by side: an append to one leaves the others. Plain facts on worlds. No condition. The plan as it lies in memory while it is made: what stays, the shelf, the picks. Plain facts on worlds. No condition. Structs that lie in memory, whatever their cells: read and written whole; results that are structs; what stays. Plain laws of the model's worlds. No condition. A struct variable written over as a whole. Plain facts on worlds. No condition. -/
import Derived.Test.YtmnldngojgldiaaGreatQ07
import Derived.Test.YtmnldngojgldiaaGreatQ13
import Derived.Test.YtmnldngojgldiaaGreatQ03
import Derived.Deep.MidRow
namespace Go.Proofs.YtmnldngojgldiaaGreat
set_option linter.unusedSimpArgs false

theorem tot10 {a b : ByteArray} (h1 : sLt a b = false) (h2 : sLt b a = false) : a = b := by
  rw [sLt_false] at h1 h2
  rcases cb_tri a.data.toList b.data.toList with ⟨p, _⟩ | ⟨_, e⟩ | ⟨_, p⟩
  · exact absurd p h1
  · cases a; cases b; simpa using e
  · exact absurd p h2
theorem lessV_iff {v w : VolumeD} : lessV v w = true ↔ v.2.1 < w.2.1 ∨ (v.2.1 = w.2.1 ∧ sLt v.1 w.1 = true) := by
  unfold lessV
  simp
theorem lessV_trans {u v w : VolumeD} (h1 : lessV u v = true) (h2 : lessV v w = true) : lessV u w = true := by
  rw [lessV_iff] at *
  rcases h1 with h1 | ⟨h1, h1'⟩ <;> rcases h2 with h2 | ⟨h2, h2'⟩
  · exact .inl (by omega)
  · exact .inl (by omega)
  · exact .inl (by omega)
  · exact .inr ⟨by omega, sLt_trans h1' h2'⟩
/-- Neither is less: they have one name, and one size. -/
theorem lessV_tot {v w : VolumeD} (h1 : lessV v w = false) (h2 : lessV w v = false) : v.1 = w.1 := by
  rw [← Bool.not_eq_true, lessV_iff] at h1 h2
  simp only [not_or, not_and, Bool.not_eq_true] at h1 h2
  have e : v.2.1 = w.2.1 := by omega
  exact tot10 (h1.2 e) (h2.2 e.symm)
theorem best_min {fit : VolumeD → Bool} {V : List VolumeD} : ∀ {k b : Nat}, bestF fit V k = some b → ∀ j, j < k → fit (V.getD j default) = true → lessV (V.getD j default) (V.getD b default) = false
  | 0, b, h, _, _, _ => by cases h
  | k + 1, b, h, j, hj, hf => by
    unfold bestF at h
    by_cases hk : fit (V.getD k default) = true
    · rw [if_pos hk] at h
      cases e : bestF fit V k with
      | none =>
        rw [e] at h
        simp only [Option.some.injEq] at h
        subst h
        rcases Nat.lt_succ_iff_lt_or_eq.1 hj with h1 | rfl
        · rw [best_none e j h1] at hf; cases hf
        · cases hl : lessV (V.getD j default) (V.getD j default) with
          | false => rfl
          | true =>
            rw [lessV_iff] at hl
            rcases hl with hl | ⟨_, hl⟩
            · omega
            · rw [sLt_iff, cb_self] at hl; omega
      | some a =>
        rw [e] at h
        simp only at h
        have hm := best_min e
        by_cases hl : lessV (V.getD k default) (V.getD a default) = true
        · rw [if_pos hl] at h
          simp only [Option.some.injEq] at h
          subst h
          rcases Nat.lt_succ_iff_lt_or_eq.1 hj with h1 | rfl
          · have h2 := hm j h1 hf
            cases h3 : lessV (V.getD j default) (V.getD k default) with
            | false => rfl
            | true => rw [lessV_trans h3 hl] at h2; cases h2
          · cases h3 : lessV (V.getD j default) (V.getD j default) with
            | false => rfl
            | true =>
              rw [lessV_iff] at h3
              rcases h3 with h3 | ⟨_, h3⟩
              · omega
              · rw [sLt_iff, cb_self] at h3; omega
        · rw [if_neg hl] at h
          simp only [Option.some.injEq] at h
          subst h
          rcases Nat.lt_succ_iff_lt_or_eq.1 hj with h1 | rfl
          · exact hm j h1 hf
          · simpa using hl
    · rw [if_neg hk] at h
      rcases Nat.lt_succ_iff_lt_or_eq.1 hj with h1 | rfl
      · exact best_min h j h1 hf
      · exact absurd hf hk
/-- What can be had on the node, and is not picked. -/
def hadV (NL : List Lab) (v : VolumeD) : Bool := sEq (vCl v) B0 && matchL NL (vRq v)
def leftP (NL : List Lab) (V : List VolumeD) (picked : List ByteArray) : List VolumeD := V.filter (fun v => hadV NL v && !hasB sEq picked v.1)
def suitP (c : ClaimD) (v : VolumeD) : Bool := sEq v.2.2.1 c.2.2.1 && decide (c.2.1 ≤ v.2.1)
/-- The places of those that suit, of the first k. -/
def suitI (c : ClaimD) (L : List VolumeD) (k : Nat) : List Nat := (List.range k).filter (fun i => suitP c (L.getD i default))
/-- The least of a list of places, as far as k. -/
def minT (lt : Nat → Nat → Bool) (l : List Nat) : Nat → Nat
  | 0 => l.getD 0 default
  | k + 1 => if lt (l.getD (k + 1) default) (minT lt l k) = true then l.getD (k + 1) default else minT lt l k
abbrev ltAt (L : List VolumeD) (a b : Nat) : Bool := lessV (L.getD a default) (L.getD b default)
theorem minT_mem {lt : Nat → Nat → Bool} {l : List Nat} : ∀ {k : Nat}, k < l.length → minT lt l k ∈ l
  | 0, h => by
    unfold minT
    rw [List.getD_eq_getElem?_getD, List.getElem?_eq_getElem h]
    exact List.getElem_mem h
  | k + 1, h => by
    unfold minT
    split
    · rw [List.getD_eq_getElem?_getD, List.getElem?_eq_getElem h]
      exact List.getElem_mem h
    · exact minT_mem (by omega)
theorem lessV_irr (v : VolumeD) : lessV v v = false := by
  cases h : lessV v v with
  | false => rfl
  | true =>
    rw [lessV_iff] at h
    rcases h with h | ⟨_, h⟩
    · omega
    · rw [sLt_iff, cb_self] at h; omega
theorem minT_min {L : List VolumeD} {l : List Nat} : ∀ {k : Nat}, ∀ j, j ≤ k → ltAt L (l.getD j default) (minT (ltAt L) l k) = false
  | 0, j, hj => by
    obtain rfl : j = 0 := by omega
    exact lessV_irr _
  | k + 1, j, hj => by
    unfold minT
    split
    · rename_i hl
      rcases Nat.lt_or_ge j (k + 1) with h1 | h1
      · have h2 := minT_min (L := L) (l := l) (k := k) j (by omega)
        cases h3 : ltAt L (l.getD j default) (l.getD (k + 1) default) with
        | false => rfl
        | true => rw [show ltAt L (l.getD j default) (minT (ltAt L) l k) = true from lessV_trans h3 hl] at h2; cases h2
      · obtain rfl : j = k + 1 := by omega
        exact lessV_irr _
    · rename_i hl
      rcases Nat.lt_or_ge j (k + 1) with h1 | h1
      · exact minT_min j (by omega)
      · obtain rfl : j = k + 1 := by omega
        simpa using hl
theorem mem_suitI {c : ClaimD} {L : List VolumeD} {k i : Nat} : i ∈ suitI c L k ↔ i < k ∧ suitP c (L.getD i default) = true := by
  unfold suitI
  rw [List.mem_filter, List.mem_range]
theorem fit_left (c : ClaimD) (NL : List Lab) (picked : List ByteArray) (v : VolumeD) : fitV c NL picked v = ((hadV NL v && !hasB sEq picked v.1) && suitP c v) := by
  unfold fitV hadV suitP
  have : (!decide (v.2.1 < c.2.1)) = decide (c.2.1 ≤ v.2.1) := by
    by_cases h : v.2.1 < c.2.1 <;> simp [h] <;> omega
  rw [this]
  cases sEq (vCl v) B0 <;> cases hasB sEq picked v.1 <;> cases sEq v.2.2.1 c.2.2.1 <;> cases decide (c.2.1 ≤ v.2.1) <;> cases matchL NL (vRq v) <;> rfl
theorem getD_mem10 {α : Type} [Inhabited α] {l : List α} {i : Nat} (h : i < l.length) : l.getD i default ∈ l := by
  rw [List.getD_eq_getElem?_getD, List.getElem?_eq_getElem h]
  exact List.getElem_mem h
theorem mem_getD10 {α : Type} [Inhabited α] {l : List α} {x : α} (h : x ∈ l) : ∃ i, i < l.length ∧ l.getD i default = x := by
  obtain ⟨i, h1, h2⟩ := List.mem_iff_getElem.1 h
  exact ⟨i, h1, by rw [List.getD_eq_getElem?_getD, List.getElem?_eq_getElem h1]; exact h2⟩
/-- Nothing suits on the shelf: there is none. -/
theorem pick_none {c : ClaimD} {NL : List Lab} {V : List VolumeD} {picked : List ByteArray} (h : suitI c (leftP NL V picked) (leftP NL V picked).length = []) : bestP c NL V picked = none := by
  cases e : bestP c NL V picked with
  | none => rfl
  | some j =>
    exfalso
    obtain ⟨h1, h2⟩ := best_some e
    rw [fit_left, Bool.and_eq_true] at h2
    have hm : V.getD j default ∈ leftP NL V picked := List.mem_filter.2 ⟨getD_mem10 h1, h2.1⟩
    obtain ⟨i, i1, i2⟩ := mem_getD10 hm
    have : i ∈ suitI c (leftP NL V picked) (leftP NL V picked).length := mem_suitI.2 ⟨i1, by rw [i2]; exact h2.2⟩
    rw [h] at this
    cases this
/-- The least that suits on the shelf is the best one. -/
theorem pick_some {c : ClaimD} {NL : List Lab} {V : List VolumeD} {picked : List ByteArray} {l : List Nat} (hl : suitI c (leftP NL V picked) (leftP NL V picked).length = l) (hne : 0 < l.length) {at' : Nat} (ha : at' = minT (ltAt (leftP NL V picked)) l (l.length - 1)) :
    at' < (leftP NL V picked).length ∧ ∃ j, bestP c NL V picked = some j ∧ (V.getD j default).1 = ((leftP NL V picked).getD at' default).1 := by
  have hin : at' ∈ l := by rw [ha]; exact minT_mem (by omega)
  have hin' := hin
  rw [← hl, mem_suitI] at hin'
  obtain ⟨h1, h2⟩ := hin'
  refine ⟨h1, ?_⟩
  have hm := getD_mem10 h1
  obtain ⟨m1, m2⟩ := List.mem_filter.1 hm
  obtain ⟨jm, jm1, jm2⟩ := mem_getD10 m1
  cases e : bestP c NL V picked with
  | none =>
    exfalso
    have := best_none e jm jm1
    rw [jm2, fit_left, m2, h2] at this
    cases this
  | some j =>
    refine ⟨j, rfl, ?_⟩
    obtain ⟨b1, b2⟩ := best_some e
    have x1 : lessV ((leftP NL V picked).getD at' default) (V.getD j default) = false := by
      have := best_min e jm jm1 (by rw [jm2, fit_left, m2, h2]; rfl)
      rwa [jm2] at this
    have x2 : lessV (V.getD j default) ((leftP NL V picked).getD at' default) = false := by
      rw [fit_left, Bool.and_eq_true] at b2
      have hm2 : V.getD j default ∈ leftP NL V picked := List.mem_filter.2 ⟨getD_mem10 b1, b2.1⟩
      obtain ⟨i, i1, i2⟩ := mem_getD10 hm2
      have hil : i ∈ l := by rw [← hl]; exact mem_suitI.2 ⟨i1, by rw [i2]; exact b2.2⟩
      obtain ⟨q, q1, q2⟩ := mem_getD10 hil
      have := minT_min (L := leftP NL V picked) (l := l) (k := l.length - 1) q (by omega)
      rw [q2, ← ha] at this
      rw [← i2]
      exact this
    exact lessV_tot x2 x1
theorem erase_filter {L : List VolumeD} (hn : (vNs L).Nodup) : ∀ {k : Nat}, k < L.length → L.eraseIdx k = L.filter (fun v => !sEq (L.getD k default).1 v.1) := by
  induction L with
  | nil => intro k h; simp at h
  | cons a L ih =>
    intro k h
    rw [show vNs (a :: L) = a.1 :: vNs L from rfl, List.nodup_cons] at hn
    cases k with
    | zero =>
      rw [List.eraseIdx_cons_zero, List.getD_cons_zero, List.filter_cons]
      rw [(sEq_iff a.1 a.1).2 rfl]
      simp only [Bool.not_true, Bool.false_eq_true, if_false]
      symm
      rw [List.filter_eq_self]
      intro v hv
      rw [Bool.not_eq_true', sEq_ne9]
      exact fun e => hn.1 (e ▸ List.mem_map.2 ⟨v, hv, rfl⟩)
    | succ k =>
      have h' : k < L.length := by simpa using h
      rw [List.eraseIdx_cons_succ, List.getD_cons_succ, List.filter_cons, ih hn.2 h']
      have : sEq (L.getD k default).1 a.1 = false := by
        rw [sEq_ne9]
        exact fun e => hn.1 (e ▸ List.mem_map.2 ⟨_, getD_mem10 h', rfl⟩)
      rw [this]
      rfl
/-- What was taken off the shelf is picked. -/
theorem left_erase {NL : List Lab} {V : List VolumeD} (hn : (vNs V).Nodup) {picked : List ByteArray} {k : Nat} (h : k < (leftP NL V picked).length) :
    (leftP NL V picked).eraseIdx k = leftP NL V (picked ++ [((leftP NL V picked).getD k default).1]) := by
  have hs : (vNs (leftP NL V picked)).Nodup := List.Nodup.sublist (List.Sublist.map _ List.filter_sublist) hn
  rw [erase_filter hs h]
  generalize ((leftP NL V picked).getD k default).1 = s
  unfold leftP
  rw [List.filter_filter]
  congr 1
  funext v
  unfold hasB
  rw [List.any_append]
  simp only [List.any_cons, List.any_nil, Bool.or_false, Bool.not_or]
  cases hadV NL v <;> cases picked.any (fun w => sEq w v.1) <;> cases sEq s v.1 <;> rfl
end Go.Proofs.YtmnldngojgldiaaGreat
namespace Go.Proofs.YtmnldngojgldiaaGreat
open Go.RowKit
set_option linter.unusedSimpArgs false

section
variable {α : Type} [Inhabited α] {R : Rep α} {k : Nat}
theorem Row.lt {A : Where} {w0 u : World} {e : TypeId} {v : Value} {L : List α} (h : Row R k A w0 u e v L) {b : Nat} (hb : v.ownBlock = some b) : w0.heap.size ≤ b ∧ b < u.heap.size := by
  obtain ⟨xs, h1, _⟩ := h
  exact h1.2.lt b hb
theorem Row.grown (hR : Firm R k) {A : Where} {w0 u u' : World} {row : Option Nat} {e : TypeId} {v : Value} {L : List α} (h : Row R k A w0 u e v L) (hg : u.grownBy u' row) (hn : ∀ b, row = some b → w0.heap.size ≤ b ∧ v.ownBlock ≠ some b ∧ ¬ A b) : Row R k A w0 u' e v L := by
  obtain ⟨xs, ⟨h1, h0, h2⟩, h3⟩ := h
  refine ⟨xs, ⟨?_, h0, ?_⟩, h3.kept hR (Kept.grown hg (fun b hb h => (hn b hb).2.2 h.1))⟩
  · exact Below.grown h1 hg h1.size (fun b hb => (hn b hb).1)
  · rcases h2 with h2 | ⟨g, cap, cur, hv, hg0, hh, r⟩
    · exact .inl h2
    · refine .inr ⟨g, cap, cur, hv, hg0, ?_, r⟩
      rw [hg.block g ?_ ?_]
      · exact hh
      · rcases Nat.lt_or_ge g u.heap.size with h | h
        · exact h
        · rw [Array.getElem?_eq_none h] at hh; cases hh
      · intro e1
        have := (hn g e1.symm).2.1
        rw [hv] at this
        exact this rfl
/-- An append of what lies in a slice, or in none, with the place of the new row. -/
theorem row_appendP_wp (hR : Firm R k) {o : Oper} {a : Act} {K : Act → World → Prop} {Q : Exit → Act → World → Prop} {A : Where} {w0 u : World} (s x : Operand) (t e : TypeId)
    (ho : o.op = .call { callee := .builtin .append, args := #[s, x], argTypes := #[t, t] }) (z : Value) (bytes : Nat) (hinfo : (Tryz.prog.info? e).map (fun i => (i.zero, i.size, i.bytes)) = some (some z, k, bytes)) (ht : Tryz.prog.underlying t = some (.slice e)) (hzs : z.cells.size = k) (hk0 : 0 < k) (hby : 1 ≤ bytes)
    (v : Value) (L : List α) (hs : a.eval s = v) (hrow : Row R k A w0 u e v L)
    (ad : Option Addr) (m c : Nat) (N : List α) (hx : a.eval x = .slice ad m c) (hN : Src R k (fun b => A b ∧ v.ownBlock ≠ some b) u ad m N) (hb : (L.length + N.length) * bytes ≤ 140737488355328)
    (h : ∀ v' u', Row R k A w0 u' e v' (L ++ N) → u.grownBy u' v.ownBlock → (v'.ownBlock = v.ownBlock ∨ v'.ownBlock = some u.heap.size) → K (a.put o.dst v') u') : o.wp Tryz.prog a u K Q := by
  obtain ⟨hm, hN⟩ := hN
  rcases hN with ⟨rfl, rfl⟩ | ⟨ad, news, rfl, hN, hcells, h1⟩
  · obtain rfl : m = 0 := by simpa using hm.symm
    obtain ⟨i0, hi, hz0, hz1, hz2⟩ := info_parts hinfo
    have hr : ∀ ty, (Builtin.append_ #[t, t] ty #[v, .slice none 0 c]).run Tryz.prog u = .ok v u := by
      intro ty
      obtain ⟨xs, hown, _⟩ := hrow
      rcases hown.2.2 with ⟨rfl, _⟩ | ⟨g, cap, cur, rfl, _, hg, hnc, _⟩
      · simp [Builtin.append_, run_underlying ht, sizeOf, typeInfo, hi, Builtin.lenOf, Builtin.firstCells, loadCells, loadCellsFrom]
      · simp [Builtin.append_, run_underlying ht, sizeOf, typeInfo, hi, Builtin.lenOf, Builtin.firstCells, loadCells, loadCellsFrom, hnc, storeCells]
    unfold Oper.wp execOp
    simp only [ho, resolve, invoke, builtin, Sem.run_bind, Sem.run_pure, Result.andThen_ok, List.map_toArray, List.map_cons, List.map_nil, hs, hx, hr]
    exact h v u (by simpa using hrow) ⟨rfl, rfl, rfl, Nat.le_refl _, fun _ _ _ => rfl⟩ (.inl rfl)
  · subst hm
    obtain ⟨i0, hi, hz0, hz1, hz2⟩ := info_parts hinfo
    obtain ⟨xs, hown, hch⟩ := hrow
    have hmul : (L.length + N.length) * 1 ≤ (L.length + N.length) * bytes := Nat.mul_le_mul_left _ hby
    obtain ⟨v', u', hr, h2, h3, h4, h5⟩ := run_append_own_at (P := Tryz.prog) u w0.heap.size t o.type e i0 z k bytes ht hi hz0 hz1 hz2 hzs hk0 v L.length xs hown.2 ad N.length c news hN.1 hcells h1 (by unfold maxLen; omega) hb hown.1.size
    unfold Oper.wp execOp
    simp only [ho, resolve, invoke, builtin, Sem.run_bind, Sem.run_pure, Result.andThen_ok, List.map_toArray, List.map_cons, List.map_nil, hs, hx, hr]
    refine (h v' u' ⟨xs ++ news, ⟨hown.row h3, by rw [List.length_append]; exact h2⟩, ?_⟩ h3 h5)
    have put : ∀ {ys : List Value} {M : List α}, Chunks R k (fun b => A b ∧ v.ownBlock ≠ some b) u ys M → Chunks R k (fun b => A b ∧ v'.ownBlock ≠ some b) u' ys M := fun {ys M} hc => by
      have c1 := hc.weak hR (A' := fun b => (A b ∧ v.ownBlock ≠ some b) ∧ b < u.heap.size) (fun b hb h => ⟨h, hb⟩)
      have c2 := c1.kept hR (Kept.grown h3 (fun b e => fun h => h.1.2 e))
      refine c2.weak hR (fun b _ h => ⟨h.1.1, fun e => ?_⟩)
      rcases h5 with h5 | h5
      · rw [h5] at e; exact h.1.2 e
      · rw [h5] at e
        have : u.heap.size = b := by simpa using e
        exact absurd h.2 (by omega)
    obtain ⟨l1, c1⟩ := put hch
    obtain ⟨l2, c2⟩ := put hN
    refine ⟨by rw [List.length_append, List.length_append, l1, l2, Nat.add_mul], fun i hi => ?_⟩
    rcases Nat.lt_or_ge i L.length with h' | h'
    · obtain ⟨cs, q1, q2⟩ := c1 i h'
      have e : (L ++ N).getD i default = L.getD i default := by rw [getE _ _ hi, getE _ _ h', List.getElem_append_left h']
      refine ⟨cs, by rw [e]; exact q1, fun j hj => ?_⟩
      rw [List.getElem?_append_left (by have : (i + 1) * k ≤ L.length * k := Nat.mul_le_mul_right k h'; rw [Nat.add_mul] at this; omega)]
      exact q2 j hj
    · have h'' : i - L.length < N.length := by simp at hi; omega
      obtain ⟨cs, q1, q2⟩ := c2 (i - L.length) h''
      have e : (L ++ N).getD i default = N.getD (i - L.length) default := by rw [getE _ _ hi, getE _ _ h'', List.getElem_append_right h']
      refine ⟨cs, by rw [e]; exact q1, fun j hj => ?_⟩
      have hle : L.length * k ≤ i * k := Nat.mul_le_mul_right k h'
      rw [List.getElem?_append_right (by omega), l1, idx_part i L.length k j h', ← q2 j hj]
/-- At a plain region's list of operations. -/
theorem row_appendP (hR : Firm R k) {ops : Array Oper} {rest : List Oper} {o : Oper} {a : Act} {Q : Exit → Act → World → Prop} {A : Where} {w0 u : World} (hgd : Region.wanted o (yielded ops a.tmps) = true) (s x : Operand) (t e : TypeId)
    (ho : o.op = .call { callee := .builtin .append, args := #[s, x], argTypes := #[t, t] }) (z : Value) (bytes : Nat) (hinfo : (Tryz.prog.info? e).map (fun i => (i.zero, i.size, i.bytes)) = some (some z, k, bytes)) (ht : Tryz.prog.underlying t = some (.slice e)) (hzs : z.cells.size = k) (hk0 : 0 < k) (hby : 1 ≤ bytes)
    (v : Value) (L : List α) (hs : a.eval s = v) (hrow : Row R k A w0 u e v L)
    (ad : Option Addr) (m c : Nat) (N : List α) (hx : a.eval x = .slice ad m c) (hN : Src R k (fun b => A b ∧ v.ownBlock ≠ some b) u ad m N) (hb : (L.length + N.length) * bytes ≤ 140737488355328)
    (h : ∀ v' u', Row R k A w0 u' e v' (L ++ N) → u.grownBy u' v.ownBlock → (v'.ownBlock = v.ownBlock ∨ v'.ownBlock = some u.heap.size) → wpList Tryz.prog ops Q rest (a.put o.dst v') u') : wpList Tryz.prog ops Q (o :: rest) a u :=
  BigFrame.wpList_want hgd (fun _ hK => row_appendP_wp hR s x t e ho z bytes hinfo ht hzs hk0 hby v L hs hrow ad m c N hx hN hb (fun v' u' h2 h3 h4 => hK _ _ (h v' u' h2 h3 h4)))
end
end Go.Proofs.YtmnldngojgldiaaGreat
namespace Go.Proofs.YtmnldngojgldiaaGreat
open Go.RowKit Go.Maps
set_option linter.unusedSimpArgs false
set_option maxRecDepth 100000

/-- The plan's cells. -/
abbrev plC (la : Option Addr) (ln lc : Nat) (ca : Option Addr) (cn cc cm : Nat) (va : Option Addr) (vn vc vm : Nat) (ka : Option Addr) (kn kc km : Nat) (lv pv : Value) : List Value :=
  [.slice la ln lc, .slice ca cn cc, .map (some cm), .slice va vn vc, .map (some vm), .slice ka kn kc, .map (some km), lv, pv]
/-- Blocks that stay. -/
abbrev Old10 (Wp : World) (X : Nat) (lv0 : Value) : Where := fun b => b < Wp.heap.size ∧ b ≠ X ∧ lv0.ownBlock ≠ some b
/-- What stays while the plan is made. -/
structure PlC (w Wp : World) (X : Nat) (lv0 : Value) (la : Option Addr) (ln lc : Nat) (ca : Option Addr) (cn cc cm : Nat) (va : Option Addr) (vn vc vm : Nat) (ka : Option Addr) (kn kc km : Nat) (NL : List Lab) (CL : List ClaimD) (V : List VolumeD) (K : List ClassD) : Prop where
  bw : Below w.heap.size w Wp
  l : SlAt RLabel 2 32 (fun b => b < w.heap.size) Wp la ln lc NL
  c : SlAt RClaim 4 56 (fun b => b < w.heap.size) Wp ca cn cc CL
  v : SlAt RVolume 5 72 (fun b => b < w.heap.size) Wp va vn vc V
  k : SlAt RClass 2 24 (fun b => b < w.heap.size) Wp ka kn kc K
  mc : NmAt Wp cm (cNs CL) ∧ Old10 Wp X lv0 cm
  mv : NmAt Wp vm (vNs V) ∧ Old10 Wp X lv0 vm
  ms : NmAt Wp km (K.map Prod.fst) ∧ Old10 Wp X lv0 km
  x : w.heap.size ≤ X ∧ X < Wp.heap.size
  g : ∀ b, lv0.ownBlock = some b → w.heap.size ≤ b ∧ b < Wp.heap.size ∧ b ≠ X
  hv : V.length * 80 ≤ 140737488355328
/-- How far the plan has come: what is off the shelf, what is picked. -/
structure PlS (w Wp : World) (X : Nat) (lv0 : Value) (C : List Value) (NL : List Lab) (V : List VolumeD) (M : Nat) (u : World) (lv pv : Value) (off : List ByteArray) (out : List PickD) : Prop where
  kp : Kept (Old10 Wp X lv0) Wp u
  bw : Below w.heap.size w u
  bx : BoxL u X (C ++ [lv, pv])
  lf : Row RVolume 5 (fun b => b < w.heap.size) w u 49 lv (leftP NL V off)
  lo : lv.ownBlock = lv0.ownBlock
  pk : Row RLabel 2 (fun _ => False) w u 39 pv out
  po : ∀ b, pv.ownBlock = some b → Wp.heap.size ≤ b
  ln : out.length + (leftP NL V off).length ≤ M
  cl : C.length = 7
  gx : ∀ b, lv0.ownBlock = some b → w.heap.size ≤ b ∧ b < Wp.heap.size ∧ b ≠ X
  xx : w.heap.size ≤ X ∧ X < Wp.heap.size
section
variable {α : Type} [Inhabited α] {R : Rep α} {k : Nat}
theorem Row.keptX (hR : Firm R k) {A : Where} {w0 u u' : World} {e : TypeId} {v : Value} {L : List α} (h : Row R k A w0 u e v L) (hb : Below w0.heap.size w0 u') (hk : Kept (fun b => A b ∨ v.ownBlock = some b) u u') : Row R k A w0 u' e v L := by
  obtain ⟨xs, h1, h2⟩ := h
  refine ⟨xs, ⟨hb, ?_⟩, h2.kept hR (hk.weak (fun b hb => .inl hb.1))⟩
  obtain ⟨hl, h0 | ⟨g, cap, cur, rfl, hg, hh, r⟩⟩ := h1.2
  · exact ⟨hl, .inl h0⟩
  · exact ⟨hl, .inr ⟨g, cap, cur, rfl, hg, (hk.2 g (.inr rfl) (Array.getElem?_eq_some_iff.1 hh).1).trans hh, r⟩⟩
/-- Where a row that holds something lies. -/
theorem Row.place {A : Where} {w0 u : World} {e : TypeId} {v : Value} {L : List α} (h : Row R k A w0 u e v L) (h0 : 0 < L.length) : ∃ g cap, v = .slice (some ⟨g, 0, none⟩) L.length cap := by
  obtain ⟨xs, h1, _⟩ := h
  obtain ⟨_, ⟨_, h2⟩ | ⟨g, cap, cur, rfl, _⟩⟩ := h1.2
  · omega
  · exact ⟨g, cap, rfl⟩
theorem Row.head {A : Where} {w0 u : World} {e : TypeId} {v : Value} {L : List α} (h : Row R k A w0 u e v L) : ∃ a n c, v = .slice a n c := by
  obtain ⟨xs, h1, _⟩ := h
  obtain ⟨_, ⟨rfl, _⟩ | ⟨g, cap, cur, rfl, _⟩⟩ := h1.2
  · exact ⟨_, _, _, rfl⟩
  · exact ⟨_, _, _, rfl⟩
end
section
variable {w Wp : World} {X : Nat} {lv0 : Value} {la : Option Addr} {ln lc : Nat} {ca : Option Addr} {cn cc cm : Nat} {va : Option Addr} {vn vc vm : Nat} {ka : Option Addr} {kn kc km : Nat} {NL : List Lab} {CL : List ClaimD} {V : List VolumeD} {K : List ClassD}
/-- In a later world. -/
theorem PlC.at (h : PlC w Wp X lv0 la ln lc ca cn cc cm va vn vc vm ka kn kc km NL CL V K) {u : World} (hk : Kept (Old10 Wp X lv0) Wp u) :
    SlAt RLabel 2 32 (fun b => b < w.heap.size) u la ln lc NL ∧ SlAt RClaim 4 56 (fun b => b < w.heap.size) u ca cn cc CL ∧ SlAt RVolume 5 72 (fun b => b < w.heap.size) u va vn vc V ∧ SlAt RClass 2 24 (fun b => b < w.heap.size) u ka kn kc K ∧ NmAt u cm (cNs CL) ∧ NmAt u vm (vNs V) ∧ NmAt u km (K.map Prod.fst) := by
  have hk' : Kept (fun b => b < w.heap.size) Wp u := hk.weak (fun b hb => ⟨Nat.lt_of_lt_of_le hb h.bw.size, by have := h.x.1; omega, fun e => by have := (h.g b e).1; omega⟩)
  exact ⟨h.l.kept RLabel.firm hk', h.c.kept RClaim.firm hk', h.v.kept RVolume.firm hk', h.k.kept RClass.firm hk', h.mc.1.kept hk h.mc.2, h.mv.1.kept hk h.mv.2, h.ms.1.kept hk h.ms.2⟩
variable {C : List Value} {u : World} {lv pv : Value} {out : List PickD}
theorem PlS.on {M : Nat} {off : List ByteArray} (h : PlS w Wp X lv0 C NL V M u lv pv off out) {u' : World} (hb : Below u.heap.size u u') : PlS w Wp X lv0 C NL V M u' lv pv off out :=
  ⟨h.kp.trans (Kept.below hb), on2 h.bw hb, h.bx.on hb, h.lf.on RVolume.firm hb, h.lo, h.pk.on RLabel.firm hb, h.po, h.ln, h.cl, h.gx, h.xx⟩
/-- A pick more. -/
theorem PlS.app {M : Nat} {off : List ByteArray} (h : PlS w Wp X lv0 C NL V M u lv pv off out) {u' : World} {pv' : Value} {p : PickD} (hg : u.grownBy u' pv.ownBlock) (hr : Row RLabel 2 (fun _ => False) w u' 39 pv' (out ++ [p])) (hw : pv'.ownBlock = pv.ownBlock ∨ pv'.ownBlock = some u.heap.size) :
    PlS w Wp X lv0 C NL V (M + 1) (u'.setCell ⟨X, 8, none⟩ pv') lv pv' off (out ++ [p]) := by
  have hx := h.xx
  have hWu : Wp.heap.size ≤ u.heap.size := h.kp.1
  have hpo : ∀ b, pv'.ownBlock = some b → Wp.heap.size ≤ b := fun b hb => by
    rcases hw with hw | hw
    · exact h.po b (hw ▸ hb)
    · rw [hw] at hb; injection hb with hb; omega
  have bu' : Below w.heap.size w u' := h.bw.grown hg h.bw.size (fun b e => by have := h.po b e; omega)
  refine ⟨(h.kp.trans (Kept.grown hg (fun b e hb => by have := h.po b e; have := hb.1; omega))).trans (Kept.set (p := ⟨X, 8, none⟩) (fun hb => hb.2.1 rfl) _), bu'.setCell (p := ⟨X, 8, none⟩) hx.1 _, ?_, ?_, h.lo, ?_, hpo, by have := h.ln; rw [List.length_append, List.length_singleton]; omega, h.cl, h.gx, h.xx⟩
  · have h1 : BoxL u' X (C ++ [lv, pv]) := h.bx.kept (A := fun b => b = X) (Kept.grown hg (fun b e hb => by have := h.po b e; omega)) rfl
    have h2 := h1.set 8 pv' (by rw [List.length_append, h.cl]; simp)
    rwa [show (C ++ [lv, pv]).set 8 pv' = C ++ [lv, pv'] by rw [List.set_append_right _ _ (by rw [h.cl]; decide), h.cl]; rfl] at h2
  · have h1 : Row RVolume 5 (fun b => b < w.heap.size) w u' 49 lv (leftP NL V off) := h.lf.grown RVolume.firm hg (fun b e => ⟨by have := h.po b e; omega, fun e2 => by rw [h.lo] at e2; have := (h.gx b e2).2.1; have := h.po b e; omega, fun hb => by have := h.po b e; omega⟩)
    refine h1.keptX RVolume.firm (bu'.setCell (p := ⟨X, 8, none⟩) hx.1 _) (Kept.set (p := ⟨X, 8, none⟩) (fun hb => ?_) _)
    rcases hb with hb | hb
    · have : X < w.heap.size := hb; omega
    · rw [h.lo] at hb; exact (h.gx X hb).2.2 rfl
  · refine hr.keptX RLabel.firm (bu'.setCell (p := ⟨X, 8, none⟩) hx.1 _) (Kept.set (p := ⟨X, 8, none⟩) (fun hb => ?_) _)
    rcases hb with hb | hb
    · exact hb
    · have := hpo X hb; omega
/-- A volume off the shelf. -/
theorem PlS.cut {M : Nat} {off off' : List ByteArray} {g n cap n' : Nat} (h : PlS w Wp X lv0 C NL V (M + 1) u (.slice (some ⟨g, 0, none⟩) n cap) pv off out) {u' : World} (hk : Kept (fun b => b ≠ g) u u') (hr : Row RVolume 5 (fun b => b < w.heap.size) w u' 49 (.slice (some ⟨g, 0, none⟩) n' cap) (leftP NL V off')) (hl : (leftP NL V off').length + 1 = (leftP NL V off).length) :
    PlS w Wp X lv0 C NL V M (u'.setCell ⟨X, 7, none⟩ (.slice (some ⟨g, 0, none⟩) n' cap)) (.slice (some ⟨g, 0, none⟩) n' cap) pv off' out := by
  have hx := h.xx
  have hg0 : lv0.ownBlock = some g := h.lo.symm
  obtain ⟨g1, g2, g3⟩ := h.gx g hg0
  have bu' : Below w.heap.size w u' := hr.below
  refine ⟨(h.kp.trans (hk.weak (fun b hb e => hb.2.2 (by rw [e]; exact hg0)))).trans (Kept.set (p := ⟨X, 7, none⟩) (fun hb => hb.2.1 rfl) _), bu'.setCell (p := ⟨X, 7, none⟩) hx.1 _, ?_, ?_, hg0.symm, ?_, h.po, by have := h.ln; omega, h.cl, h.gx, h.xx⟩
  · have h1 : BoxL u' X (C ++ [.slice (some ⟨g, 0, none⟩) n cap, pv]) := h.bx.kept hk (fun e => g3 e.symm)
    have h2 := h1.set 7 (.slice (some ⟨g, 0, none⟩) n' cap) (by rw [List.length_append, h.cl]; simp)
    rwa [show (C ++ [.slice (some ⟨g, 0, none⟩) n cap, pv]).set 7 (.slice (some ⟨g, 0, none⟩) n' cap) = C ++ [.slice (some ⟨g, 0, none⟩) n' cap, pv] by rw [List.set_append_right _ _ (by rw [h.cl]; decide), h.cl]; rfl] at h2
  · refine hr.keptX RVolume.firm (bu'.setCell (p := ⟨X, 7, none⟩) hx.1 _) (Kept.set (p := ⟨X, 7, none⟩) (fun hb => ?_) _)
    rcases hb with hb | hb
    · have : X < w.heap.size := hb; omega
    · have : g = X := by simpa [Value.ownBlock] using hb
      exact g3 this
  · have h1 : Row RLabel 2 (fun _ => False) w u' 39 pv out := h.pk.keptX RLabel.firm bu' (hk.weak (fun b hb e => by
      rcases hb with hb | hb
      · exact hb
      · have := h.po b hb; omega))
    refine h1.keptX RLabel.firm (bu'.setCell (p := ⟨X, 7, none⟩) hx.1 _) (Kept.set (p := ⟨X, 7, none⟩) (fun hb => ?_) _)
    rcases hb with hb | hb
    · exact hb
    · have := h.po X hb; omega
end
end Go.Proofs.YtmnldngojgldiaaGreat
namespace Go.Proofs.YtmnldngojgldiaaGreat
open Go.RowKit
set_option linter.unusedSimpArgs false

theorem range_new {u : World} {T : TypeId} {b o : Nat} {p c q : List Value} (hb : u.heap.size = b) (ho : p.length = o) : (u.alloc (.cells (p ++ (c ++ q)).toArray T)).rangeAt b o c := by
  subst hb ho
  intro j v hj
  have : (u.alloc (.cells (p ++ (c ++ q)).toArray T)).heap[u.heap.size]? = some (.cells (p ++ (c ++ q)).toArray T) := heap_new u _ _ rfl
  generalize u.alloc (.cells (p ++ (c ++ q)).toArray T) = u' at this ⊢
  have hl : j < c.length := (List.getElem?_eq_some_iff.1 hj).1
  simp only [World.cell?, this]
  rw [List.getElem?_toArray, List.getElem?_append_right (by omega), show p.length + j - p.length = j by omega, List.getElem?_append_left hl]
  exact hj
theorem range_all {u : World} {T : TypeId} {b : Nat} {c : List Value} (hb : u.heap.size = b) : (u.alloc (.cells c.toArray T)).rangeAt b 0 c := by
  have := range_new (u := u) (T := T) (p := []) (c := c) (q := []) hb rfl
  simpa using this
theorem there_new {u : World} {T : TypeId} {b n : Nat} {c : Array Value} (hb : u.heap.size = b) (hn : c.size = n) : (u.alloc (.cells c T)).there b 0 n := by
  subst hb hn
  intro j hj
  have : (u.alloc (.cells c T)).heap[u.heap.size]? = some (.cells c T) := heap_new u _ _ rfl
  generalize u.alloc (.cells c T) = u' at this ⊢
  simp [World.cell?, World.frozen?, this, hj]
theorem range_on {w w' : World} {B b o : Nat} {c : List Value} (h : w.rangeAt b o c) (hb : Below B w w') (hB : b < B) : w'.rangeAt b o c := fun j v hj => (hb.cell (p := ⟨b, o + j, none⟩) hB).trans (h j v hj)
theorem there_on {w w' : World} {B b o n : Nat} (h : w.there b o n) (hb : Below B w w') (hB : b < B) : w'.there b o n := fun j hj => by
  rw [hb.cell (p := ⟨b, o + j, none⟩) hB, hb.frozen (p := ⟨b, o + j, none⟩) hB]; exact h j hj
theorem below_setCells {B b : Nat} {a : World} : ∀ {vs : List Value} {o : Nat} {u : World}, Below B a u → B ≤ b → Below B a (u.setCells b o vs)
  | [], _, _, h, _ => h
  | v :: r, o, u, h, hb => by
    rw [World.setCells]
    exact below_setCells (h.setCell (p := ⟨b, o, none⟩) hb v) hb
theorem size_setCells {b : Nat} : ∀ {vs : List Value} {o : Nat} {u : World}, (u.setCells b o vs).heap.size = u.heap.size
  | [], _, _ => rfl
  | v :: r, o, u => by rw [World.setCells, size_setCells]; simp
theorem kept_setCells {A : Where} {b : Nat} (h : ¬ A b) : ∀ {vs : List Value} {o : Nat} {u : World}, Kept A u (u.setCells b o vs)
  | [], _, u => Kept.refl A u
  | v :: r, o, u => by
    rw [World.setCells]
    exact (Kept.set (p := ⟨b, o, none⟩) h v).trans (kept_setCells h)

/-- One result, a struct that lies in memory. -/
theorem res_cell {P : Program} {fn : Func} {p : Tmp} {ty : TypeId} (h : fn.results = #[.cell p ty]) (tmps : Array Value) (w : World) (b : Nat) (cs : List Value) (d : TypeDesc)
    (hp : tmps.getD p undef = .pointer (some ⟨b, 0, none⟩)) (hr : w.rangeAt b 0 cs) (hu : P.underlying ty = some d) (hd : d.isRow = true) (hi : (P.info? ty).map (·.size) = some cs.length) :
    (results fn tmps).run P w = .ok (.agg cs.toArray) w := by
  have hp' : tmps[p]?.getD undef = .pointer (some ⟨b, 0, none⟩) := by simpa using hp
  simp [results, h, hp', asAddr, run_loadVar_mid w b 0 ty cs d hr hu hd hi]
/-- Two results, the first a struct that lies in memory. -/
theorem res_cell2 {P : Program} {fn : Func} {p q : Tmp} {ty : TypeId} (h : fn.results = #[.cell p ty, .tmp q]) (tmps : Array Value) (w : World) (b : Nat) (cs : List Value) (d : TypeDesc) (y : Value)
    (hp : tmps.getD p undef = .pointer (some ⟨b, 0, none⟩)) (hq : tmps.getD q undef = y) (hr : w.rangeAt b 0 cs) (hu : P.underlying ty = some d) (hd : d.isRow = true) (hi : (P.info? ty).map (·.size) = some cs.length) :
    (results fn tmps).run P w = .ok (.tuple #[.agg cs.toArray, y]) w := by
  have hp' : tmps[p]?.getD undef = .pointer (some ⟨b, 0, none⟩) := by simpa using hp
  have hq' : tmps[q]?.getD undef = y := by simpa using hq
  simp [results, h, hp', hq', asAddr, run_loadVar_mid w b 0 ty cs d hr hu hd hi]
/-- Three results, the first a struct that lies in memory. -/
theorem res_cell3 {P : Program} {fn : Func} {p q r : Tmp} {ty : TypeId} (h : fn.results = #[.cell p ty, .tmp q, .tmp r]) (tmps : Array Value) (w : World) (b : Nat) (cs : List Value) (d : TypeDesc) (y z : Value)
    (hp : tmps.getD p undef = .pointer (some ⟨b, 0, none⟩)) (hq : tmps.getD q undef = y) (hz : tmps.getD r undef = z) (hr : w.rangeAt b 0 cs) (hu : P.underlying ty = some d) (hd : d.isRow = true) (hi : (P.info? ty).map (·.size) = some cs.length) :
    (results fn tmps).run P w = .ok (.tuple #[.agg cs.toArray, y, z]) w := by
  have hp' : tmps[p]?.getD undef = .pointer (some ⟨b, 0, none⟩) := by simpa using hp
  have hq' : tmps[q]?.getD undef = y := by simpa using hq
  have hz' : tmps[r]?.getD undef = z := by simpa using hz
  simp [results, h, hp', hq', hz', asAddr, run_loadVar_mid w b 0 ty cs d hr hu hd hi]
end Go.Proofs.YtmnldngojgldiaaGreat
namespace Go.Proofs.YtmnldngojgldiaaGreat
open Go.RowKit
set_option linter.unusedSimpArgs false

theorem wpl_w8 {P : Program} {ops : Array Oper} {Q : Exit → Act → World → Prop} {rest : List Oper} {a : Act} {u W : World} (h : W = u) (k : wpList P ops Q rest a W) : wpList P ops Q rest a u := h ▸ k
theorem box_over8 {u : World} {D : Nat} {zs cs : List Value} (hb : BoxL u D zs) (hl : zs.length = cs.length) : BoxL (u.setCells D 0 cs) D cs := by
  have hth : u.there D 0 cs.length := hl ▸ hb.there
  have hr := World.rangeAt_setCells_same u D 0 cs hth
  have ht2 := World.there_setCells hth D 0 cs
  refine ⟨Nat.lt_of_lt_of_le hb.1 (kept_setCells (A := fun _ => False) (b := D) (fun h => h) (vs := cs) (o := 0) (u := u)).1, fun j v hj => ?_⟩
  have h1 := hr j v hj
  have h2 := (ht2 j (List.getElem?_eq_some_iff.1 hj).1).2
  rw [Nat.zero_add] at h1 h2
  exact ⟨h1, h2⟩
end Go.Proofs.YtmnldngojgldiaaGreat
