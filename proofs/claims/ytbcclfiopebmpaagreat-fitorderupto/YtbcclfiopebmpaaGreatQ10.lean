/- Sorted and each once: what slices.Sort and slices.Compact leave is the document's rising list. Plain mathematics. No condition. The law's 'spoil' writes into the info's own lists alone. Condition: the info lies as is said of it, and its lists may be written. A list that begins as a piece of another one without room: what is appended comes into room of its own; then sorted, each once. Plain facts on worlds. No condition. slices.Sort at texts and at numbers: the library's contracts, at this program's numbers. Condition: the row holds what is said of it. info.joined at texts and at numbers: rising, each once, in room of its own. Condition: the slices lie as is said of them, and are together within what an append may ask. -/
import Derived.Test.YtbcclfiopebmpaaGreatQ06
import Derived.Lib.SlicesCompact
import Derived.Test.YtbcclfiopebmpaaGreatQ05
import Derived.Sort.OwnSortedInts
import Derived.Lib.OwnBridge
import Derived.Test.YtbcclfiopebmpaaGreatShelf
namespace Go.Proofs.YtbcclfiopebmpaaGreat
open Go.RowKit
set_option linter.unusedSimpArgs false

theorem compact_up {α : Type} [DecidableEq α] [Inhabited α] {lt : α → α → Prop} (tr : ∀ a b c, lt a b → lt b c → lt a c) (d : Array α) (hs : ∀ i j, i < j → j < d.size → d[i]! = d[j]! ∨ lt d[i]! d[j]!) :
    ∀ m, m ≤ d.size → (Lib.compactUpTo d m).Pairwise lt ∧ ∀ x, x ∈ Lib.compactUpTo d m ↔ ∃ j, j < m ∧ d[j]! = x := by
  intro m
  induction m with
  | zero => intro _; exact ⟨by simp [Lib.compactUpTo], fun x => by simp [Lib.compactUpTo]⟩
  | succ m ih =>
    intro hm
    obtain ⟨h1, h2⟩ := ih (by omega)
    rw [Lib.compactUpTo_succ]
    cases hk : Lib.keeps d m with
    | false =>
      have hd : 0 < m ∧ d[m]! = d[m - 1]! := by
        simp only [Lib.keeps, decide_eq_false_iff_not] at hk
        refine ⟨by omega, ?_⟩
        by_cases e : d[m]! = d[m - 1]!
        · exact e
        · exact absurd (Or.inr e) hk
      simp only [Bool.false_eq_true, if_false, List.append_nil]
      refine ⟨h1, fun x => ?_⟩
      rw [h2]
      constructor
      · rintro ⟨j, hj, e⟩; exact ⟨j, by omega, e⟩
      · rintro ⟨j, hj, e⟩
        by_cases e1 : j = m
        · subst e1; exact ⟨j - 1, by omega, hd.2 ▸ e⟩
        · exact ⟨j, by omega, e⟩
    | true =>
      have hd : m = 0 ∨ d[m]! ≠ d[m - 1]! := by simpa [Lib.keeps] using hk
      simp only [if_true]
      refine ⟨?_, fun x => ?_⟩
      · rw [List.pairwise_append]
        refine ⟨h1, by simp, fun x hx y hy => ?_⟩
        simp only [List.mem_singleton] at hy
        subst hy
        obtain ⟨j, hj, rfl⟩ := (h2 x).1 hx
        rcases hd with hd | hd
        · omega
        have hlast : lt d[m - 1]! d[m]! := by
          rcases hs (m - 1) m (by omega) (by omega) with h | h
          · exact absurd h.symm hd
          · exact h
        by_cases e : j = m - 1
        · subst e; exact hlast
        · rcases hs j (m - 1) (by omega) (by omega) with h | h
          · rw [h]; exact hlast
          · exact tr _ _ _ h hlast
      · rw [List.mem_append, h2, List.mem_singleton]
        constructor
        · rintro (⟨j, hj, e⟩ | e)
          · exact ⟨j, by omega, e⟩
          · exact ⟨m, by omega, e.symm⟩
        · rintro ⟨j, hj, e⟩
          by_cases e1 : j = m
          · subst e1; exact .inr e.symm
          · exact .inl ⟨j, by omega, e⟩
theorem compact_list {α : Type} [DecidableEq α] [Inhabited α] {lt : α → α → Prop} (tr : ∀ a b c, lt a b → lt b c → lt a c) (zs : List α) (hs : zs.Pairwise (fun a b => a = b ∨ lt a b)) :
    (Lib.compact zs).Pairwise lt ∧ ∀ x, x ∈ Lib.compact zs ↔ x ∈ zs := by
  have := compact_up tr zs.toArray (fun i j hij hj => by
    have hj' : j < zs.length := by simpa using hj
    have h := List.pairwise_iff_getElem.1 hs i j (by omega) hj' hij
    simpa [show i < zs.length by omega, hj'] using h) zs.length (by simp)
  refine ⟨this.1, fun x => ?_⟩
  rw [show Lib.compact zs = Lib.compactUpTo zs.toArray zs.length from rfl, this.2]
  constructor
  · rintro ⟨j, hj, rfl⟩
    simp [hj]
  · intro h
    obtain ⟨j, hj, rfl⟩ := List.getElem_of_mem h
    exact ⟨j, hj, by simp [hj]⟩
theorem sortI (zs : List Int) : Lib.compact (zs.mergeSort fun x y => decide (x ≤ y)) = sortB iLt iEq zs := by
  have hs : (zs.mergeSort fun x y => decide (x ≤ y)).Pairwise (fun a b => a = b ∨ a < b) := by
    refine (List.pairwise_mergeSort (le := fun x y : Int => decide (x ≤ y)) ?_ ?_ zs).imp ?_
    · intro a b c; simp only [decide_eq_true_eq]; omega
    · intro a b; simp only [Bool.or_eq_true, decide_eq_true_eq]; omega
    · intro a b; simp only [decide_eq_true_eq]; omega
  obtain ⟨h1, h2⟩ := compact_list (lt := fun a b : Int => a < b) (by intro a b c; omega) _ hs
  refine UpB.one ordI _ _ (h1.imp (by intro a b; simp [iLt])) (UpB.sort ordI zs) (fun x => ?_)
  rw [h2, List.mem_mergeSort, mem_sortB (fun a b h => (iEq_iff a b).1 h)]
theorem bl_lt : ∀ (x y : List UInt8), Op.bytesLess x y = true ↔ x < y
  | [], [] => by simp [Op.bytesLess]
  | _ :: _, [] => by simp [Op.bytesLess]
  | [], _ :: _ => by simp [Op.bytesLess]
  | a :: x, b :: y => by
    have ih := bl_lt x y
    rw [Op.bytesLess, List.cons_lt_cons_iff, ← ih]
    simp
theorem ordL : OrdB Op.bytesLess (fun a b : List UInt8 => a == b) := ⟨fun a b => by simp, bl_irr, bl_trans, fun a b h => by
  have := bl_tot a b h
  cases h1 : Op.bytesLess a b
  · right; rw [this, h1]; rfl
  · left; rfl⟩
theorem le_or (a b : List UInt8) : a ≤ b ↔ a = b ∨ a < b := by
  rw [← bl_lt]
  constructor
  · intro h
    by_cases e : a = b
    · exact .inl e
    · rcases ordL.tot a b e with h1 | h1
      · exact .inr h1
      · exact absurd ((bl_lt b a).1 h1) (List.not_lt.2 h)
  · rintro (rfl | h)
    · exact List.le_refl a
    · refine List.not_lt.1 (fun k => ?_)
      have k1 := (bl_lt b a).2 k
      have := bl_trans a b a h k1
      rw [bl_irr] at this
      cases this
theorem sortS (L : List ByteArray) : Lib.compact ((L.map ByteArray.toList).mergeSort fun x y => decide (x ≤ y)) = (sortB sLt sEq L).map ByteArray.toList := by
  have hs : ((L.map ByteArray.toList).mergeSort fun x y => decide (x ≤ y)).Pairwise (fun a b => a = b ∨ a < b) := by
    refine (List.pairwise_mergeSort (le := fun x y : List UInt8 => decide (x ≤ y)) ?_ ?_ _).imp ?_
    · intro a b c; simp only [decide_eq_true_eq]; exact List.le_trans
    · intro a b; simp only [Bool.or_eq_true, decide_eq_true_eq]; exact List.le_total a b
    · intro a b; simp only [decide_eq_true_eq]; exact (le_or a b).1
  obtain ⟨h1, h2⟩ := compact_list (lt := fun a b : List UInt8 => a < b) (fun a b c h k => (bl_lt a c).1 (bl_trans a b c ((bl_lt a b).2 h) ((bl_lt b c).2 k))) _ hs
  refine UpB.one ordL _ _ (h1.imp (fun {a b} h => (bl_lt a b).2 h)) ?_ (fun x => ?_)
  · exact List.pairwise_map.2 (UpB.sort ordS L)
  · rw [h2, List.mem_mergeSort, List.mem_map, List.mem_map]
    constructor
    · rintro ⟨a, ha, e⟩; exact ⟨a, (mem_sorted a L).2 ha, e⟩
    · rintro ⟨a, ha, e⟩; exact ⟨a, (mem_sorted a L).1 ha, e⟩
end Go.Proofs.YtbcclfiopebmpaaGreat
namespace Go.Proofs.YtbcclfiopebmpaaGreat
open Go.RowKit
set_option linter.unusedSimpArgs false
set_option maxRecDepth 100000

/-- Only the blocks that F names may have turned. -/
def Turned (F : Where) (w w' : World) : Prop := Kept (fun b => ¬ F b) w w' ∧ Below 0 w w'
theorem Turned.refl (F : Where) (w : World) : Turned F w w := ⟨Kept.refl _ _, Below.refl _ _⟩
theorem Turned.trans {F : Where} {u v w : World} (h : Turned F u v) (k : Turned F v w) : Turned F u w := ⟨h.1.trans k.1, h.2.trans k.2⟩
theorem Turned.of_below {F : Where} {w w' : World} (h : Below w.heap.size w w') : Turned F w w' := ⟨Kept.below h, h.mono (Nat.zero_le _)⟩
theorem Turned.set {F : Where} (w : World) {p : Addr} (h : F p.block) (v : Value) : Turned F w (w.setCell p v) := ⟨Kept.set (fun k => k h) v, (Below.refl _ _).setCell (Nat.zero_le _) v⟩
theorem Turned.below {F : Where} {w w' : World} (h : Turned F w w') {B : Nat} (hF : ∀ b, F b → B ≤ b) (hB : B ≤ w.heap.size) : Below B w w' :=
  ⟨h.2.os, h.2.tape, h.2.output, h.2.size, fun k hk => h.1.2 k (fun hf => absurd (hF k hf) (by omega)) (by omega)⟩
/-- A slice whose cells may be written. -/
def Thr (u : World) (a : Option Addr) (n : Nat) : Prop := ∀ B off, a = some ⟨B, off, none⟩ → u.there B off n
theorem there_set {u : World} {b o n : Nat} (h : u.there b o n) (p : Nat) (q : Nat) (v : Value) : (u.setCell ⟨p, q, none⟩ v).there b o n := World.there_setCells h p q [v]
theorem Thr.set {u : World} {a : Option Addr} {n : Nat} (h : Thr u a n) (p q : Nat) (v : Value) : Thr (u.setCell ⟨p, q, none⟩ v) a n := fun B off e => there_set (h B off e) p q v
theorem Thr.on {u u' : World} {a : Option Addr} {n : Nat} (h : Thr u a n) (hb : Below u.heap.size u u') : Thr u' a n := fun B off e j hj => by
  have h1 := h B off e j hj
  obtain ⟨v, hv⟩ := Option.isSome_iff_exists.1 h1.1
  have hB : B < u.heap.size := World.block_lt_of_cell? u ⟨B, off + j, none⟩ hv
  rw [hb.cell (p := ⟨B, off + j, none⟩) hB, hb.frozen (p := ⟨B, off + j, none⟩) hB]
  exact h1
theorem Thr.kept {A : Where} {u u' : World} {a : Option Addr} {n : Nat} (h : Thr u a n) (hk : Kept A u u') (hA : ∀ B off, a = some ⟨B, off, none⟩ → A B) : Thr u' a n := fun B off e j hj => by
  have h1 := h B off e j hj
  obtain ⟨v, hv⟩ := Option.isSome_iff_exists.1 h1.1
  have hB : B < u.heap.size := World.block_lt_of_cell? u ⟨B, off + j, none⟩ hv
  rw [hk.cell (p := ⟨B, off + j, none⟩) (hA B off e) hB, World.frozen?_of_block (w := u) (hk.2 B (hA B off e) hB)]
  exact h1
theorem Row.thr {α : Type} [Inhabited α] {R : Rep α} {A : Where} {w0 u : World} {e : TypeId} {a : Option Addr} {n c : Nat} {L : List α} (h : Row R 1 A w0 u e (.slice a n c) L) : Thr u a n := by
  obtain ⟨xs, h1, _⟩ := h
  intro B off ea j hj
  rcases h1.2.2 with ⟨e1, _⟩ | ⟨g, cap, cur, e1, _, hg, hnc, _, hcs, _⟩
  · injection e1 with e1 e2; subst e2; omega
  · injection e1 with e1 e2 e3
    subst e2 e3
    rw [e1] at ea
    injection ea with ea
    injection ea with ea eo
    subst ea eo
    have hl : j < cur.size := by rw [hcs]; omega
    simp [World.cell?, World.frozen?, hg, hl]
end Go.Proofs.YtbcclfiopebmpaaGreat
namespace Go.Proofs.YtbcclfiopebmpaaGreat
open Go.RowKit Go.Sort Go.Lib
set_option linter.unusedSimpArgs false

section
variable {α : Type} [Inhabited α] {R : Rep α} {k : Nat}
/-- Nothing, in a piece without room; or a row of one's own. -/
def OutR (R : Rep α) (k : Nat) (w0 u : World) (e : TypeId) (v : Value) (L : List α) : Prop :=
  (L = [] ∧ (∃ b, v = .slice b 0 0) ∧ Below w0.heap.size w0 u) ∨ Row R k (fun _ => False) w0 u e v L
theorem OutR.below {w0 u : World} {e : TypeId} {v : Value} {L : List α} (h : OutR R k w0 u e v L) : Below w0.heap.size w0 u := by
  rcases h with ⟨_, _, h⟩ | h
  · exact h
  · exact h.below
theorem OutR.nil (w : World) (e : TypeId) (b : Option Addr) : OutR R k w w e (.slice b 0 0) ([] : List α) := .inl ⟨rfl, ⟨b, rfl⟩, Below.refl _ _⟩
theorem app_out_wp (hR : Firm R k) (hF : Flat R) {o : Oper} {a : Act} {K : Act → World → Prop} {Q : Exit → Act → World → Prop} {A : Where} {w0 u : World} (s x : Operand) (t e : TypeId)
    (ho : o.op = .call { callee := .builtin .append, args := #[s, x], argTypes := #[t, t] }) (z : Value) (bytes : Nat) (hinfo : (Tryz.prog.info? e).map (fun i => (i.zero, i.size, i.bytes)) = some (some z, k, bytes)) (ht : Tryz.prog.underlying t = some (.slice e)) (hzs : z.cells.size = k) (hk0 : 0 < k) (hby : 1 ≤ bytes)
    (v : Value) (L : List α) (hs : a.eval s = v) (hrow : OutR R k w0 u e v L)
    (ad : Option Addr) (m c : Nat) (N : List α) (hx : a.eval x = .slice ad m c) (hN : Src R k A u ad m N) (hb : (L.length + N.length) * bytes ≤ 140737488355328)
    (h : ∀ v' u', OutR R k w0 u' e v' (L ++ N) → K (a.put o.dst v') u') : o.wp Tryz.prog a u K Q := by
  rcases hrow with ⟨rfl, ⟨b, rfl⟩, hbel⟩ | hrow
  · obtain ⟨hm, hN⟩ := hN
    obtain ⟨i0, hi, hz0, hz1, hz2⟩ := info_parts hinfo
    by_cases hN0 : N = []
    · subst hN0
      obtain rfl : m = 0 := by simpa using hm.symm
      have hr : ∀ ty, (Builtin.append_ #[t, t] ty #[.slice b 0 0, .slice ad 0 c]).run Tryz.prog u = .ok (.slice b 0 0) u := by
        intro ty
        cases ad <;> cases b <;> simp [Builtin.append_, run_underlying ht, sizeOf, typeInfo, hi, Builtin.lenOf, Builtin.firstCells, loadCells, loadCellsFrom, storeCells]
      unfold Oper.wp execOp
      simp only [ho, resolve, invoke, builtin, Sem.run_bind, Sem.run_pure, Result.andThen_ok, List.map_toArray, List.map_cons, List.map_nil, hs, hx, hr]
      exact h _ _ (.inl ⟨rfl, ⟨b, rfl⟩, hbel⟩)
    · rcases hN with ⟨_, e0⟩ | ⟨ad, news, rfl, hN, hcells, h1⟩
      · exact absurd e0 hN0
      · subst hm
        have hpos : 0 < N.length := List.length_pos_iff.2 hN0
        have hmul : N.length * 1 ≤ N.length * bytes := Nat.mul_le_mul_left _ hby
        simp only [List.length_nil, Nat.zero_add] at hb
        obtain ⟨v', u', hr, h2, h3, h4, h5⟩ := run_append_own_at (P := Tryz.prog) u w0.heap.size t o.type e i0 z k bytes ht hi hz0 hz1 hz2 hzs hk0 (.slice none 0 0) 0 [] ⟨by simp, .inl ⟨rfl, rfl⟩⟩ ad N.length c news hN.1 hcells h1 (by unfold maxLen; omega) (by simpa using hb) hbel.size
        have hr2 : (Builtin.append_ #[t, t] o.type #[.slice b 0 0, .slice (some ad) N.length c]).run Tryz.prog u = .ok v' u' := by
          cases b with
          | none => exact hr
          | some bd =>
            have e1 := run_append_nil (P := Tryz.prog) u t o.type e i0 z ht hi hz0 ad N.length c news (by rw [hz1]; exact hN.1) hcells (by omega) (by omega) (by rw [hz2]; omega)
            have e2 := run_append_grow (P := Tryz.prog) u t o.type e i0 z ht hi hz0 bd 0 0 [] (by simp) (by simp) ad N.length c news (by rw [hz1]; exact hN.1) hcells (by omega) (by omega) (growslice_fits (by omega) (by rw [hz2]; simpa using hb))
            rw [← hr, e1, e2]
            simp
        unfold Oper.wp execOp
        simp only [ho, resolve, invoke, builtin, Sem.run_bind, Sem.run_pure, Result.andThen_ok, List.map_toArray, List.map_cons, List.map_nil, hs, hx, hr2]
        refine h v' u' (.inr ⟨news, ⟨Below.grown hbel h3 hbel.size (fun j hj => by cases hj), by simpa using h2⟩, ?_⟩)
        exact hN.flat hF
  · refine row_appendP_wp hR (A := fun _ => False) (w0 := w0) s x t e ho z bytes hinfo ht hzs hk0 hby v L hs hrow ad m c N hx (hN.flat hF) hb (fun v' u' h1 _ _ => h v' u' (.inr h1))
theorem app_out (hR : Firm R k) (hF : Flat R) {ops : Array Oper} {rest : List Oper} {o : Oper} {a : Act} {Q : Exit → Act → World → Prop} {A : Where} {w0 u : World} (hgd : Region.wanted o (yielded ops a.tmps) = true) (s x : Operand) (t e : TypeId)
    (ho : o.op = .call { callee := .builtin .append, args := #[s, x], argTypes := #[t, t] }) (z : Value) (bytes : Nat) (hinfo : (Tryz.prog.info? e).map (fun i => (i.zero, i.size, i.bytes)) = some (some z, k, bytes)) (ht : Tryz.prog.underlying t = some (.slice e)) (hzs : z.cells.size = k) (hk0 : 0 < k) (hby : 1 ≤ bytes)
    (v : Value) (L : List α) (hs : a.eval s = v) (hrow : OutR R k w0 u e v L)
    (ad : Option Addr) (m c : Nat) (N : List α) (hx : a.eval x = .slice ad m c) (hN : Src R k A u ad m N) (hb : (L.length + N.length) * bytes ≤ 140737488355328)
    (h : ∀ v' u', OutR R k w0 u' e v' (L ++ N) → wpList Tryz.prog ops Q rest (a.put o.dst v') u') : wpList Tryz.prog ops Q (o :: rest) a u :=
  BigFrame.wpList_want hgd (fun _ hK => app_out_wp hR hF s x t e ho z bytes hinfo ht hzs hk0 hby v L hs hrow ad m c N hx hN hb (fun v' u' h2 => hK _ _ (h v' u' h2)))
theorem OutR.empty {w0 u : World} {e : TypeId} {v : Value} (h : OutR R k w0 u e v ([] : List α)) : ∃ b c, v = .slice b 0 c ∧ (b = none → c = 0) := by
  rcases h with ⟨_, ⟨b, rfl⟩, _⟩ | ⟨xs, h1, _⟩
  · exact ⟨b, 0, rfl, fun _ => rfl⟩
  · rcases h1.2.2 with ⟨rfl, _⟩ | ⟨g, cap, cur, rfl, _⟩
    · exact ⟨none, 0, rfl, fun _ => rfl⟩
    · exact ⟨_, _, rfl, fun h => by cases h⟩
end
theorem chunks_str {A : Where} {u : World} {xs : List Value} {L : List ByteArray} (h : Chunks RStr 1 A u xs L) : xs = (L.map ByteArray.toList).map encStr ∧ ∀ s ∈ L, s.size ≤ 140737488355328 := by
  refine ⟨List.ext_getElem? (fun i => ?_), fun s hs => ?_⟩
  · by_cases hi : i < L.length
    · obtain ⟨cs, ⟨e, _⟩, h2⟩ := h.2 i hi
      have := h2 0 (by decide)
      rw [Nat.mul_one, Nat.add_zero, e] at this
      rw [this, List.getElem?_map, List.getElem?_map, List.getElem?_eq_getElem hi, getE _ _ hi]
      simp [encStr, ByteArray.toList_eq]
    · rw [List.getElem?_eq_none (by rw [h.1]; omega), List.getElem?_eq_none (by simp; omega)]
  · obtain ⟨i, hi, rfl⟩ := List.getElem_of_mem hs
    obtain ⟨cs, ⟨_, e⟩, _⟩ := h.2 i hi
    rwa [getE _ _ hi] at e
theorem str_chunks (A : Where) (u : World) {L : List ByteArray} (hs : ∀ s ∈ L, s.size ≤ 140737488355328) : Chunks RStr 1 A u ((L.map ByteArray.toList).map encStr) L := by
  refine ⟨by simp, fun i hi => ⟨[.string (L.getD i default)], ⟨rfl, ?_⟩, fun j hj => ?_⟩⟩
  · rw [getE _ _ hi]; exact hs _ (List.getElem_mem hi)
  · obtain rfl : j = 0 := by omega
    rw [Nat.mul_one, Nat.add_zero, List.getElem?_map, List.getElem?_map, List.getElem?_eq_getElem hi, getE _ _ hi]
    simp [encStr, ByteArray.toList_eq]
theorem chunks_int {A : Where} {u : World} {xs : List Value} {L : List Int} (h : Chunks RInt 1 A u xs L) : xs = L.map (Value.int .i64) := by
  refine List.ext_getElem? (fun i => ?_)
  by_cases hi : i < L.length
  · obtain ⟨cs, e, h2⟩ := h.2 i hi
    have := h2 0 (by decide)
    rw [Nat.mul_one, Nat.add_zero, e] at this
    rw [this, List.getElem?_map, List.getElem?_eq_getElem hi, getE _ _ hi]
    simp
  · rw [List.getElem?_eq_none (by rw [h.1]; omega), List.getElem?_eq_none (by simp; omega)]
theorem int_chunks (A : Where) (u : World) (L : List Int) : Chunks RInt 1 A u (L.map (Value.int .i64)) L := by
  refine ⟨by simp, fun i hi => ⟨[.int .i64 (L.getD i default)], rfl, fun j hj => ?_⟩⟩
  obtain rfl : j = 0 := by omega
  rw [Nat.mul_one, Nat.add_zero, List.getElem?_map, List.getElem?_eq_getElem hi, getE _ _ hi]
  simp

/-- Where such a row lies, and what the sort and the making each once leave of it. -/
theorem sortedS {w u : World} {e : TypeId} {v : Value} {N : List ByteArray} (hN : N ≠ []) (h : Row RStr 1 (fun _ => False) w u e v N) :
    ∃ g cap, v = .slice (some ⟨g, 0, none⟩) N.length cap ∧ g < u.heap.size ∧ N.length ≤ cap ∧ Holds encStr u g 0 (N.map ByteArray.toList).toArray ∧
      ∀ n os, Holds encStr (grow (putRow encStr (Sort.ahead u n) g 0 ((N.map ByteArray.toList).mergeSort fun x y => decide (x ≤ y)).toArray) os) g 0 ((N.map ByteArray.toList).mergeSort fun x y => decide (x ≤ y)).toArray ∧
        ∀ q, Row RStr 1 (fun _ => False) w (putRow encStr (Sort.ahead (grow (putRow encStr (Sort.ahead u n) g 0 ((N.map ByteArray.toList).mergeSort fun x y => decide (x ≤ y)).toArray) os) q) g 0 (Lib.compact ((N.map ByteArray.toList).mergeSort fun x y => decide (x ≤ y)) ++ List.replicate (((N.map ByteArray.toList).mergeSort fun x y => decide (x ≤ y)).length - (Lib.compact ((N.map ByteArray.toList).mergeSort fun x y => decide (x ≤ y))).length) []).toArray) e (.slice (some ⟨g, 0, none⟩) (sortB sLt sEq N).length cap) (sortB sLt sEq N) := by
  obtain ⟨xs, ⟨hb, hown⟩, hch⟩ := h
  have hx := chunks_str hch
  obtain ⟨hx, hsz⟩ := hx
  subst hx
  have hne : v ≠ .slice none 0 0 := by
    rintro rfl
    rcases hown.2 with ⟨_, h0⟩ | ⟨g, cap, cur, h0, _⟩
    · exact hN (List.length_eq_zero_iff.1 h0)
    · cases h0
  obtain ⟨g, cap, rfl, hbg, hg, hnc, hcm, hl, hH⟩ := holds_of_ownsRow hown hne
  have hl2 : ((N.map ByteArray.toList).mergeSort fun x y => decide (x ≤ y)).length = N.length := by rw [List.length_mergeSort]; simp
  have hcl : (Lib.compact ((N.map ByteArray.toList).mergeSort fun x y => decide (x ≤ y))).length ≤ N.length := by rw [← hl2]; exact Lib.compact_length_le _
  have hS : Lib.compact ((N.map ByteArray.toList).mergeSort fun x y => decide (x ≤ y)) = ((sortB sLt sEq N).map ByteArray.toList) := sortS N
  have hSl : (sortB sLt sEq N).length = (Lib.compact ((N.map ByteArray.toList).mergeSort fun x y => decide (x ≤ y))).length := by rw [hS]; simp
  refine ⟨g, cap, rfl, hg, hnc, hH, fun n os => ?_⟩
  rcases hown.2 with ⟨h0, _⟩ | ⟨g', cap', cur, hv, hbase, hcur, h1, h2, h3, h4⟩
  · cases h0
  cases hv
  have hs := ownsRow_sorted (n := n) (os := os) (ts := ((N.map ByteArray.toList).mergeSort fun x y => decide (x ≤ y))) (ss := (N.map ByteArray.toList)) (base := w.heap.size) (by rw [hl2]; simp) hbase hcur (by simpa using h1) h2 h3
  have eN : (N.map ByteArray.toList).length = N.length := by simp
  rw [eN] at hs
  obtain ⟨g2, c2, e2, _, _, _, _, _, hH2⟩ := holds_of_ownsRow hs (by intro h; cases h)
  injection e2 with e2 _ _
  injection e2 with e2
  injection e2 with e2
  subst e2
  refine ⟨hH2, fun q => ?_⟩
  have hc := Lib.ownsRow_putRow (q := q) (k := (Lib.compact ((N.map ByteArray.toList).mergeSort fun x y => decide (x ≤ y))).length) (ys := Lib.compact ((N.map ByteArray.toList).mergeSort fun x y => decide (x ≤ y)) ++ List.replicate (((N.map ByteArray.toList).mergeSort fun x y => decide (x ≤ y)).length - (Lib.compact ((N.map ByteArray.toList).mergeSort fun x y => decide (x ≤ y))).length) []) hs (by rw [List.length_append, List.length_replicate, hl2]; omega) hcl
  rw [List.take_left] at hc
  refine ⟨_, ⟨Lib.below_putRow (hb.grown (grownBy_sorted _) hb.size (fun j hj => by cases hj; exact hbase)) hbase, by rw [hSl]; exact hc⟩, ?_⟩
  rw [hS]
  exact str_chunks _ _ (fun s hs => hsz s ((mem_sorted s N).1 hs))
/-- Where such a row lies, and what the sort and the making each once leave of it. -/
theorem sortedI {w u : World} {e : TypeId} {v : Value} {N : List Int} (hN : N ≠ []) (h : Row RInt 1 (fun _ => False) w u e v N) :
    ∃ g cap, v = .slice (some ⟨g, 0, none⟩) N.length cap ∧ g < u.heap.size ∧ N.length ≤ cap ∧ Holds (Value.int .i64) u g 0 N.toArray ∧
      ∀ n os, Holds (Value.int .i64) (grow (putRow (Value.int .i64) (Sort.ahead u n) g 0 (N.mergeSort fun x y => decide (x ≤ y)).toArray) os) g 0 (N.mergeSort fun x y => decide (x ≤ y)).toArray ∧
        ∀ q, Row RInt 1 (fun _ => False) w (putRow (Value.int .i64) (Sort.ahead (grow (putRow (Value.int .i64) (Sort.ahead u n) g 0 (N.mergeSort fun x y => decide (x ≤ y)).toArray) os) q) g 0 (Lib.compact (N.mergeSort fun x y => decide (x ≤ y)) ++ List.replicate ((N.mergeSort fun x y => decide (x ≤ y)).length - (Lib.compact (N.mergeSort fun x y => decide (x ≤ y))).length) 0).toArray) e (.slice (some ⟨g, 0, none⟩) (sortB iLt iEq N).length cap) (sortB iLt iEq N) := by
  obtain ⟨xs, ⟨hb, hown⟩, hch⟩ := h
  have hx := chunks_int hch
  
  subst hx
  have hne : v ≠ .slice none 0 0 := by
    rintro rfl
    rcases hown.2 with ⟨_, h0⟩ | ⟨g, cap, cur, h0, _⟩
    · exact hN (List.length_eq_zero_iff.1 h0)
    · cases h0
  obtain ⟨g, cap, rfl, hbg, hg, hnc, hcm, hl, hH⟩ := holds_of_ownsRow hown hne
  have hl2 : (N.mergeSort fun x y => decide (x ≤ y)).length = N.length := by rw [List.length_mergeSort]
  have hcl : (Lib.compact (N.mergeSort fun x y => decide (x ≤ y))).length ≤ N.length := by rw [← hl2]; exact Lib.compact_length_le _
  have hS : Lib.compact (N.mergeSort fun x y => decide (x ≤ y)) = (sortB iLt iEq N) := sortI N
  have hSl : (sortB iLt iEq N).length = (Lib.compact (N.mergeSort fun x y => decide (x ≤ y))).length := by rw [hS]
  refine ⟨g, cap, rfl, hg, hnc, hH, fun n os => ?_⟩
  rcases hown.2 with ⟨h0, _⟩ | ⟨g', cap', cur, hv, hbase, hcur, h1, h2, h3, h4⟩
  · cases h0
  cases hv
  have hs := ownsRow_sortedI (n := n) (os := os) (ts := (N.mergeSort fun x y => decide (x ≤ y))) (ss := N) (base := w.heap.size) (by rw [hl2]) hbase hcur (by simpa using h1) h2 h3
  have eN : N.length = N.length := by simp
  rw [eN] at hs
  obtain ⟨g2, c2, e2, _, _, _, _, _, hH2⟩ := holds_of_ownsRow hs (by intro h; cases h)
  injection e2 with e2 _ _
  injection e2 with e2
  injection e2 with e2
  subst e2
  refine ⟨hH2, fun q => ?_⟩
  have hc := Lib.ownsRow_putRow (q := q) (k := (Lib.compact (N.mergeSort fun x y => decide (x ≤ y))).length) (ys := Lib.compact (N.mergeSort fun x y => decide (x ≤ y)) ++ List.replicate ((N.mergeSort fun x y => decide (x ≤ y)).length - (Lib.compact (N.mergeSort fun x y => decide (x ≤ y))).length) 0) hs (by rw [List.length_append, List.length_replicate, hl2]; omega) hcl
  rw [List.take_left] at hc
  refine ⟨_, ⟨Lib.below_putRow (hb.grown (grownBy_sortedI _) hb.size (fun j hj => by cases hj; exact hbase)) hbase, by rw [hSl]; exact hc⟩, ?_⟩
  rw [hS]
  exact int_chunks _ _ _
end Go.Proofs.YtbcclfiopebmpaaGreat
namespace Go.Proofs.YtbcclfiopebmpaaGreat
open Go.RowKit Go.Sort Go.Lib

theorem nS : Tryz.laysSortS_ren.f 54 = 38 := rfl
theorem nI : Tryz.laysSortI_ren.f 53 = 42 := rfl
theorem SortS (blk off cap : Nat) (ss : List (List UInt8)) (w : World) (hH : Holds encStr w blk off ss.toArray) (hblk : blk < w.heap.size) (hsz : ss.length < 4611686018427387904) :
    Calls Tryz.prog 38 #[.slice (some ⟨blk, off, none⟩) ss.length cap] w fun e w' =>
      e = .returned (.tuple #[]) ∧ ∃ n os, w' = grow (putRow encStr (Sort.ahead w n) blk off (ss.mergeSort fun x y => decide (x ≤ y)).toArray) os := by
  have h := AnyG.slices_Sort_string Tryz.laysSortS blk off cap ss w hH hblk hsz
  rw [nS] at h
  exact h
theorem SortS_none (p : Option Addr) (cap : Nat) (w : World) : Calls Tryz.prog 38 #[.slice p 0 cap] w fun e w' => e = .returned (.tuple #[]) ∧ w' = w := by
  have h := AnyG.slices_Sort_string_none Tryz.laysSortS p cap w
  rw [nS] at h
  exact h
theorem SortI (blk off cap : Nat) (ss : List Int) (w : World) (hH : Holds (Value.int .i64) w blk off ss.toArray) (hblk : blk < w.heap.size) (hsz : ss.length < 4611686018427387904) :
    Calls Tryz.prog 42 #[.slice (some ⟨blk, off, none⟩) ss.length cap] w fun e w' =>
      e = .returned (.tuple #[]) ∧ ∃ n os, w' = grow (putRow (Value.int .i64) (Sort.ahead w n) blk off (ss.mergeSort fun x y => decide (x ≤ y)).toArray) os := by
  have h := AnyG.slices_Sort_int Tryz.laysSortI blk off cap ss w hH hblk hsz
  rw [nI] at h
  exact h
theorem SortI_none (p : Option Addr) (cap : Nat) (w : World) : Calls Tryz.prog 42 #[.slice p 0 cap] w fun e w' => e = .returned (.tuple #[]) ∧ w' = w := by
  have h := AnyG.slices_Sort_int_none Tryz.laysSortI p cap w
  rw [nI] at h
  exact h
end Go.Proofs.YtbcclfiopebmpaaGreat
namespace Go.Proofs.YtbcclfiopebmpaaGreat
open Go.RowKit Go.Sort Go.Lib
set_option linter.unusedSimpArgs false
set_option maxRecDepth 100000

set_option maxHeartbeats 4000000 in
theorem joinedS0 (a : Option Addr) (n cap : Nat) (A : Where) (L : List ByteArray) (a' : Option Addr) (n' cap' : Nat) (A' : Where) (M N : List ByteArray) (hN : N = L ++ M) (w : World) (hL : Hid (SlAt RStr 1 16 A w a n cap L)) (hM : Hid (SlAt RStr 1 16 A' w a' n' cap' M)) (hF : Hid ((L.length + M.length) * 16 ≤ 140737488351232)) : Calls Tryz.prog 23 #[.slice a n cap, .slice a' n' cap'] w fun e w' => ∃ b c, e = .returned (.slice b (sortB sLt sEq N).length c) ∧ SlAt RStr 1 16 (Fresh w) w' b (sortB sLt sEq N).length c (sortB sLt sEq N) ∧ Thr w' b (sortB sLt sEq N).length ∧ Below w.heap.size w w' := by
  have HN1 : Hid (Src RStr 1 A w a n L) := hL.out.src RStr.firm
  have HN2 : Hid (∀ u, Below w.heap.size w u → Src RStr 1 A' u a' n' M) := fun u hb => (hM.out.on RStr.firm hb).src RStr.firm
  have HB1 : Hid ((([] : List ByteArray).length + L.length) * 16 ≤ 140737488355328) := by have h1 := hF.out; rw [Hid]; simp only [List.length_nil]; omega
  have HB2 : Hid ((L.length + M.length) * 16 ≤ 140737488355328) := by have h1 := hF.out; rw [Hid]; omega
  have hNl : Hid (N.length * 16 ≤ 140737488351232) := by rw [Hid, hN, List.length_append]; exact hF.out
  have hcap : a = none → cap = 0 := hL.out.2.2.1
  clear hL hM hF
  rcases a with _ | ad
  · obtain rfl := hcap rfl
    clear hcap
    go_enter Tryz.func23, Tryz.ntmps23
    go_wp2_with (at_builtin; first | (refine app_out RStr.firm RStr.flat (w0 := w) rfl _ _ 31 9 rfl _ 16 infostr Tryz.underlying31 rfl (by decide) (by decide) _ [] rfl (OutR.nil w 9 none) none n 0 L rfl HN1.out HB1.out ?_; intro v1 u1 hr1; rw [List.nil_append] at hr1) | (go_must (refine app_out RStr.firm RStr.flat (w0 := w) rfl _ _ 31 9 rfl _ 16 infostr Tryz.underlying31 rfl (by decide) (by decide) _ L rfl hr1 a' n' cap' M rfl (HN2.out u1 hr1.below) HB2.out ?_); intro v2 u2 hr2))
    clear hr1 HN1 HN2 HB1 HB2
    rw [← hN] at hr2
    clear hN
    by_cases hE : N = []
    · subst hE
      obtain ⟨b, c, rfl, hbc⟩ := hr2.empty
      have hbel : Hid (Below w.heap.size w u2) := hr2.below
      have hbc2 : Hid (b = none → c = 0) := hbc
      clear hr2 hbc
      refine (SortS_none b c u2).mono ?_
      rintro e w' ⟨rfl, rfl⟩
      go_wp2_with fail
      refine (Tryz.slices_Compact_string_empty b c w').mono ?_
      rintro e w2 ⟨rfl, rfl⟩
      go_wp2_with fail
      go_ret
      exact ⟨b, c, rfl, SlAt.nil _ _ _ _ hbc2.out, fun B off _ j hj => absurd hj (Nat.not_lt_zero j), hbel.out⟩
    · have hrow : Row RStr 1 (fun _ => False) w u2 9 v2 N := by
        rcases hr2 with ⟨h0, _⟩ | h
        · exact absurd h0 hE
        · exact h
      clear hr2
      obtain ⟨g, c, rfl, hg, hnc, hH, hrest⟩ := sortedS hE hrow
      clear hrow
      have hlen : N.length ≤ 140737488351232 := by have := hNl.out; omega
      have hS := SortS g 0 c (N.map ByteArray.toList) u2 hH hg (by rw [List.length_map]; omega)
      rw [List.length_map] at hS
      have hml : ((N.map ByteArray.toList).mergeSort fun x y => decide (x ≤ y)).length = N.length := by rw [List.length_mergeSort, List.length_map]
      have hcl : (Lib.compact ((N.map ByteArray.toList).mergeSort fun x y => decide (x ≤ y))).length = (sortB sLt sEq N).length := by rw [sortS, List.length_map]
      clear hH
      have HR0 : Hid (∀ n os, Holds encStr (grow (putRow encStr (Sort.ahead u2 n) g 0 ((N.map ByteArray.toList).mergeSort fun x y => decide (x ≤ y)).toArray) os) g 0 ((N.map ByteArray.toList).mergeSort fun x y => decide (x ≤ y)).toArray ∧ ∀ q, Row RStr 1 (fun _ => False) w (putRow encStr (Sort.ahead (grow (putRow encStr (Sort.ahead u2 n) g 0 ((N.map ByteArray.toList).mergeSort fun x y => decide (x ≤ y)).toArray) os) q) g 0 (Lib.compact ((N.map ByteArray.toList).mergeSort fun x y => decide (x ≤ y)) ++ List.replicate (((N.map ByteArray.toList).mergeSort fun x y => decide (x ≤ y)).length - (Lib.compact ((N.map ByteArray.toList).mergeSort fun x y => decide (x ≤ y))).length) []).toArray) 9 (.slice (some ⟨g, 0, none⟩) (sortB sLt sEq N).length c) (sortB sLt sEq N)) := hrest
      clear hrest
      have HM : Hid (((N.map ByteArray.toList).mergeSort fun x y => decide (x ≤ y)).length = N.length) := hml
      have HC : Hid ((Lib.compact ((N.map ByteArray.toList).mergeSort fun x y => decide (x ≤ y))).length = (sortB sLt sEq N).length) := hcl
      clear hml hcl
      refine hS.mono ?_
      rintro e u3 ⟨rfl, k, os, hu3⟩
      have HU : Hid (u3 = grow (putRow encStr (Sort.ahead u2 k) g 0 ((N.map ByteArray.toList).mergeSort fun x y => decide (x ≤ y)).toArray) os) := hu3
      clear hS hu3
      go_wp2_with fail
      have hu3 := HU.out
      obtain ⟨H2, H3⟩ := HR0.out k os
      rw [← hu3] at H2 H3
      clear HR0 hu3 HU
      have hC := Tryz.slices_Compact_string g 0 c ((N.map ByteArray.toList).mergeSort fun x y => decide (x ≤ y)) u3 H2 (by rw [HM.out]; omega) (by rw [HM.out]; omega)
      rw [HM.out] at hC
      have H4 : Hid (∀ q, Row RStr 1 (fun _ => False) w (putRow encStr (Sort.ahead u3 q) g 0 (Lib.compact ((N.map ByteArray.toList).mergeSort fun x y => decide (x ≤ y)) ++ List.replicate (N.length - (Lib.compact ((N.map ByteArray.toList).mergeSort fun x y => decide (x ≤ y))).length) []).toArray) 9 (.slice (some ⟨g, 0, none⟩) (sortB sLt sEq N).length c) (sortB sLt sEq N)) := fun q => by have := H3 q; rw [HM.out] at this; exact this
      clear H2 H3
      refine hC.mono ?_
      rintro e u4 ⟨he, q, hu4⟩
      rw [HC.out] at he
      subst he
      have H5 : Row RStr 1 (fun _ => False) w u4 9 (.slice (some ⟨g, 0, none⟩) (sortB sLt sEq N).length c) (sortB sLt sEq N) := by rw [hu4]; exact H4.out q
      have H6 : Hid (SlAt RStr 1 16 (Fresh w) u4 (some ⟨g, 0, none⟩) (sortB sLt sEq N).length c (sortB sLt sEq N) ∧ Thr u4 (some ⟨g, 0, none⟩) (sortB sLt sEq N).length ∧ Below w.heap.size w u4) := by
        obtain ⟨a2, c2, e2, s2⟩ := H5.sl (bytes := 16) RStr.firm (by have h1 := sortB_len sLt sEq N; have h2 := hNl.out; exact Nat.le_trans (Nat.mul_le_mul_right 16 h1) h2)
        injection e2 with e3 e4 e5
        subst e3 e5
        exact ⟨s2.weak RStr.firm (fun b _ h => by rcases h with h | h; exact absurd h id; exact h), H5.thr, H5.below⟩
      clear H5 H4 hC hu4
      go_wp2_with fail
      go_ret
      exact ⟨_, _, rfl, H6.out.1, H6.out.2.1, H6.out.2.2⟩
  · clear hcap
    go_enter Tryz.func23, Tryz.ntmps23
    go_wp2_with (at_builtin; first | (refine app_out RStr.firm RStr.flat (w0 := w) rfl _ _ 31 9 rfl _ 16 infostr Tryz.underlying31 rfl (by decide) (by decide) _ [] rfl (OutR.nil w 9 (some ad)) (some ad) n cap L rfl HN1.out HB1.out ?_; intro v1 u1 hr1; rw [List.nil_append] at hr1) | (go_must (refine app_out RStr.firm RStr.flat (w0 := w) rfl _ _ 31 9 rfl _ 16 infostr Tryz.underlying31 rfl (by decide) (by decide) _ L rfl hr1 a' n' cap' M rfl (HN2.out u1 hr1.below) HB2.out ?_); intro v2 u2 hr2))
    clear hr1 HN1 HN2 HB1 HB2
    rw [← hN] at hr2
    clear hN
    by_cases hE : N = []
    · subst hE
      obtain ⟨b, c, rfl, hbc⟩ := hr2.empty
      have hbel : Hid (Below w.heap.size w u2) := hr2.below
      have hbc2 : Hid (b = none → c = 0) := hbc
      clear hr2 hbc
      refine (SortS_none b c u2).mono ?_
      rintro e w' ⟨rfl, rfl⟩
      go_wp2_with fail
      refine (Tryz.slices_Compact_string_empty b c w').mono ?_
      rintro e w2 ⟨rfl, rfl⟩
      go_wp2_with fail
      go_ret
      exact ⟨b, c, rfl, SlAt.nil _ _ _ _ hbc2.out, fun B off _ j hj => absurd hj (Nat.not_lt_zero j), hbel.out⟩
    · have hrow : Row RStr 1 (fun _ => False) w u2 9 v2 N := by
        rcases hr2 with ⟨h0, _⟩ | h
        · exact absurd h0 hE
        · exact h
      clear hr2
      obtain ⟨g, c, rfl, hg, hnc, hH, hrest⟩ := sortedS hE hrow
      clear hrow
      have hlen : N.length ≤ 140737488351232 := by have := hNl.out; omega
      have hS := SortS g 0 c (N.map ByteArray.toList) u2 hH hg (by rw [List.length_map]; omega)
      rw [List.length_map] at hS
      have hml : ((N.map ByteArray.toList).mergeSort fun x y => decide (x ≤ y)).length = N.length := by rw [List.length_mergeSort, List.length_map]
      have hcl : (Lib.compact ((N.map ByteArray.toList).mergeSort fun x y => decide (x ≤ y))).length = (sortB sLt sEq N).length := by rw [sortS, List.length_map]
      clear hH
      have HR0 : Hid (∀ n os, Holds encStr (grow (putRow encStr (Sort.ahead u2 n) g 0 ((N.map ByteArray.toList).mergeSort fun x y => decide (x ≤ y)).toArray) os) g 0 ((N.map ByteArray.toList).mergeSort fun x y => decide (x ≤ y)).toArray ∧ ∀ q, Row RStr 1 (fun _ => False) w (putRow encStr (Sort.ahead (grow (putRow encStr (Sort.ahead u2 n) g 0 ((N.map ByteArray.toList).mergeSort fun x y => decide (x ≤ y)).toArray) os) q) g 0 (Lib.compact ((N.map ByteArray.toList).mergeSort fun x y => decide (x ≤ y)) ++ List.replicate (((N.map ByteArray.toList).mergeSort fun x y => decide (x ≤ y)).length - (Lib.compact ((N.map ByteArray.toList).mergeSort fun x y => decide (x ≤ y))).length) []).toArray) 9 (.slice (some ⟨g, 0, none⟩) (sortB sLt sEq N).length c) (sortB sLt sEq N)) := hrest
      clear hrest
      have HM : Hid (((N.map ByteArray.toList).mergeSort fun x y => decide (x ≤ y)).length = N.length) := hml
      have HC : Hid ((Lib.compact ((N.map ByteArray.toList).mergeSort fun x y => decide (x ≤ y))).length = (sortB sLt sEq N).length) := hcl
      clear hml hcl
      refine hS.mono ?_
      rintro e u3 ⟨rfl, k, os, hu3⟩
      have HU : Hid (u3 = grow (putRow encStr (Sort.ahead u2 k) g 0 ((N.map ByteArray.toList).mergeSort fun x y => decide (x ≤ y)).toArray) os) := hu3
      clear hS hu3
      go_wp2_with fail
      have hu3 := HU.out
      obtain ⟨H2, H3⟩ := HR0.out k os
      rw [← hu3] at H2 H3
      clear HR0 hu3 HU
      have hC := Tryz.slices_Compact_string g 0 c ((N.map ByteArray.toList).mergeSort fun x y => decide (x ≤ y)) u3 H2 (by rw [HM.out]; omega) (by rw [HM.out]; omega)
      rw [HM.out] at hC
      have H4 : Hid (∀ q, Row RStr 1 (fun _ => False) w (putRow encStr (Sort.ahead u3 q) g 0 (Lib.compact ((N.map ByteArray.toList).mergeSort fun x y => decide (x ≤ y)) ++ List.replicate (N.length - (Lib.compact ((N.map ByteArray.toList).mergeSort fun x y => decide (x ≤ y))).length) []).toArray) 9 (.slice (some ⟨g, 0, none⟩) (sortB sLt sEq N).length c) (sortB sLt sEq N)) := fun q => by have := H3 q; rw [HM.out] at this; exact this
      clear H2 H3
      refine hC.mono ?_
      rintro e u4 ⟨he, q, hu4⟩
      rw [HC.out] at he
      subst he
      have H5 : Row RStr 1 (fun _ => False) w u4 9 (.slice (some ⟨g, 0, none⟩) (sortB sLt sEq N).length c) (sortB sLt sEq N) := by rw [hu4]; exact H4.out q
      have H6 : Hid (SlAt RStr 1 16 (Fresh w) u4 (some ⟨g, 0, none⟩) (sortB sLt sEq N).length c (sortB sLt sEq N) ∧ Thr u4 (some ⟨g, 0, none⟩) (sortB sLt sEq N).length ∧ Below w.heap.size w u4) := by
        obtain ⟨a2, c2, e2, s2⟩ := H5.sl (bytes := 16) RStr.firm (by have h1 := sortB_len sLt sEq N; have h2 := hNl.out; exact Nat.le_trans (Nat.mul_le_mul_right 16 h1) h2)
        injection e2 with e3 e4 e5
        subst e3 e5
        exact ⟨s2.weak RStr.firm (fun b _ h => by rcases h with h | h; exact absurd h id; exact h), H5.thr, H5.below⟩
      clear H5 H4 hC hu4
      go_wp2_with fail
      go_ret
      exact ⟨_, _, rfl, H6.out.1, H6.out.2.1, H6.out.2.2⟩
theorem joinedS (a : Option Addr) (n cap : Nat) (A : Where) (L : List ByteArray) (a' : Option Addr) (n' cap' : Nat) (A' : Where) (M : List ByteArray) (w : World) (hL : Hid (SlAt RStr 1 16 A w a n cap L)) (hM : Hid (SlAt RStr 1 16 A' w a' n' cap' M)) (hF : Hid ((L.length + M.length) * 16 ≤ 140737488351232)) : Calls Tryz.prog 23 #[.slice a n cap, .slice a' n' cap'] w fun e w' => ∃ b c, e = .returned (.slice b (sortB sLt sEq (L ++ M)).length c) ∧ SlAt RStr 1 16 (Fresh w) w' b (sortB sLt sEq (L ++ M)).length c (sortB sLt sEq (L ++ M)) ∧ Thr w' b (sortB sLt sEq (L ++ M)).length ∧ Below w.heap.size w w' :=
  joinedS0 a n cap A L a' n' cap' A' M _ rfl w hL hM hF
set_option maxHeartbeats 4000000 in
theorem joinedI0 (a : Option Addr) (n cap : Nat) (A : Where) (L : List Int) (a' : Option Addr) (n' cap' : Nat) (A' : Where) (M N : List Int) (hN : N = L ++ M) (w : World) (hL : Hid (SlAt RInt 1 8 A w a n cap L)) (hM : Hid (SlAt RInt 1 8 A' w a' n' cap' M)) (hF : Hid ((L.length + M.length) * 8 ≤ 140737488351232)) : Calls Tryz.prog 25 #[.slice a n cap, .slice a' n' cap'] w fun e w' => ∃ b c, e = .returned (.slice b (sortB iLt iEq N).length c) ∧ SlAt RInt 1 8 (Fresh w) w' b (sortB iLt iEq N).length c (sortB iLt iEq N) ∧ Thr w' b (sortB iLt iEq N).length ∧ Below w.heap.size w w' := by
  have HN1 : Hid (Src RInt 1 A w a n L) := hL.out.src RInt.firm
  have HN2 : Hid (∀ u, Below w.heap.size w u → Src RInt 1 A' u a' n' M) := fun u hb => (hM.out.on RInt.firm hb).src RInt.firm
  have HB1 : Hid ((([] : List Int).length + L.length) * 8 ≤ 140737488355328) := by have h1 := hF.out; rw [Hid]; simp only [List.length_nil]; omega
  have HB2 : Hid ((L.length + M.length) * 8 ≤ 140737488355328) := by have h1 := hF.out; rw [Hid]; omega
  have hNl : Hid (N.length * 8 ≤ 140737488351232) := by rw [Hid, hN, List.length_append]; exact hF.out
  have hcap : a = none → cap = 0 := hL.out.2.2.1
  clear hL hM hF
  rcases a with _ | ad
  · obtain rfl := hcap rfl
    clear hcap
    go_enter Tryz.func25, Tryz.ntmps25
    go_wp2_with (at_builtin; first | (refine app_out RInt.firm RInt.flat (w0 := w) rfl _ _ 28 3 rfl _ 8 infoint Tryz.underlying28 rfl (by decide) (by decide) _ [] rfl (OutR.nil w 3 none) none n 0 L rfl HN1.out HB1.out ?_; intro v1 u1 hr1; rw [List.nil_append] at hr1) | (go_must (refine app_out RInt.firm RInt.flat (w0 := w) rfl _ _ 28 3 rfl _ 8 infoint Tryz.underlying28 rfl (by decide) (by decide) _ L rfl hr1 a' n' cap' M rfl (HN2.out u1 hr1.below) HB2.out ?_); intro v2 u2 hr2))
    clear hr1 HN1 HN2 HB1 HB2
    rw [← hN] at hr2
    clear hN
    by_cases hE : N = []
    · subst hE
      obtain ⟨b, c, rfl, hbc⟩ := hr2.empty
      have hbel : Hid (Below w.heap.size w u2) := hr2.below
      have hbc2 : Hid (b = none → c = 0) := hbc
      clear hr2 hbc
      refine (SortI_none b c u2).mono ?_
      rintro e w' ⟨rfl, rfl⟩
      go_wp2_with fail
      refine (Tryz.slices_Compact_int_empty b c w').mono ?_
      rintro e w2 ⟨rfl, rfl⟩
      go_wp2_with fail
      go_ret
      exact ⟨b, c, rfl, SlAt.nil _ _ _ _ hbc2.out, fun B off _ j hj => absurd hj (Nat.not_lt_zero j), hbel.out⟩
    · have hrow : Row RInt 1 (fun _ => False) w u2 3 v2 N := by
        rcases hr2 with ⟨h0, _⟩ | h
        · exact absurd h0 hE
        · exact h
      clear hr2
      obtain ⟨g, c, rfl, hg, hnc, hH, hrest⟩ := sortedI hE hrow
      clear hrow
      have hlen : N.length ≤ 140737488351232 := by have := hNl.out; omega
      have hS := SortI g 0 c N u2 hH hg (by omega)
      have hml : (N.mergeSort fun x y => decide (x ≤ y)).length = N.length := by rw [List.length_mergeSort]
      have hcl : (Lib.compact (N.mergeSort fun x y => decide (x ≤ y))).length = (sortB iLt iEq N).length := by rw [sortI]
      clear hH
      have HR0 : Hid (∀ n os, Holds (Value.int .i64) (grow (putRow (Value.int .i64) (Sort.ahead u2 n) g 0 (N.mergeSort fun x y => decide (x ≤ y)).toArray) os) g 0 (N.mergeSort fun x y => decide (x ≤ y)).toArray ∧ ∀ q, Row RInt 1 (fun _ => False) w (putRow (Value.int .i64) (Sort.ahead (grow (putRow (Value.int .i64) (Sort.ahead u2 n) g 0 (N.mergeSort fun x y => decide (x ≤ y)).toArray) os) q) g 0 (Lib.compact (N.mergeSort fun x y => decide (x ≤ y)) ++ List.replicate ((N.mergeSort fun x y => decide (x ≤ y)).length - (Lib.compact (N.mergeSort fun x y => decide (x ≤ y))).length) 0).toArray) 3 (.slice (some ⟨g, 0, none⟩) (sortB iLt iEq N).length c) (sortB iLt iEq N)) := hrest
      clear hrest
      have HM : Hid ((N.mergeSort fun x y => decide (x ≤ y)).length = N.length) := hml
      have HC : Hid ((Lib.compact (N.mergeSort fun x y => decide (x ≤ y))).length = (sortB iLt iEq N).length) := hcl
      clear hml hcl
      refine hS.mono ?_
      rintro e u3 ⟨rfl, k, os, hu3⟩
      have HU : Hid (u3 = grow (putRow (Value.int .i64) (Sort.ahead u2 k) g 0 (N.mergeSort fun x y => decide (x ≤ y)).toArray) os) := hu3
      clear hS hu3
      go_wp2_with fail
      have hu3 := HU.out
      obtain ⟨H2, H3⟩ := HR0.out k os
      rw [← hu3] at H2 H3
      clear HR0 hu3 HU
      have hC := Tryz.slices_Compact_int g 0 c (N.mergeSort fun x y => decide (x ≤ y)) u3 H2 (by rw [HM.out]; omega) (by rw [HM.out]; omega)
      rw [HM.out] at hC
      have H4 : Hid (∀ q, Row RInt 1 (fun _ => False) w (putRow (Value.int .i64) (Sort.ahead u3 q) g 0 (Lib.compact (N.mergeSort fun x y => decide (x ≤ y)) ++ List.replicate (N.length - (Lib.compact (N.mergeSort fun x y => decide (x ≤ y))).length) 0).toArray) 3 (.slice (some ⟨g, 0, none⟩) (sortB iLt iEq N).length c) (sortB iLt iEq N)) := fun q => by have := H3 q; rw [HM.out] at this; exact this
      clear H2 H3
      refine hC.mono ?_
      rintro e u4 ⟨he, q, hu4⟩
      rw [HC.out] at he
      subst he
      have H5 : Row RInt 1 (fun _ => False) w u4 3 (.slice (some ⟨g, 0, none⟩) (sortB iLt iEq N).length c) (sortB iLt iEq N) := by rw [hu4]; exact H4.out q
      have H6 : Hid (SlAt RInt 1 8 (Fresh w) u4 (some ⟨g, 0, none⟩) (sortB iLt iEq N).length c (sortB iLt iEq N) ∧ Thr u4 (some ⟨g, 0, none⟩) (sortB iLt iEq N).length ∧ Below w.heap.size w u4) := by
        obtain ⟨a2, c2, e2, s2⟩ := H5.sl (bytes := 8) RInt.firm (by have h1 := sortB_len iLt iEq N; have h2 := hNl.out; exact Nat.le_trans (Nat.mul_le_mul_right 8 h1) h2)
        injection e2 with e3 e4 e5
        subst e3 e5
        exact ⟨s2.weak RInt.firm (fun b _ h => by rcases h with h | h; exact absurd h id; exact h), H5.thr, H5.below⟩
      clear H5 H4 hC hu4
      go_wp2_with fail
      go_ret
      exact ⟨_, _, rfl, H6.out.1, H6.out.2.1, H6.out.2.2⟩
  · clear hcap
    go_enter Tryz.func25, Tryz.ntmps25
    go_wp2_with (at_builtin; first | (refine app_out RInt.firm RInt.flat (w0 := w) rfl _ _ 28 3 rfl _ 8 infoint Tryz.underlying28 rfl (by decide) (by decide) _ [] rfl (OutR.nil w 3 (some ad)) (some ad) n cap L rfl HN1.out HB1.out ?_; intro v1 u1 hr1; rw [List.nil_append] at hr1) | (go_must (refine app_out RInt.firm RInt.flat (w0 := w) rfl _ _ 28 3 rfl _ 8 infoint Tryz.underlying28 rfl (by decide) (by decide) _ L rfl hr1 a' n' cap' M rfl (HN2.out u1 hr1.below) HB2.out ?_); intro v2 u2 hr2))
    clear hr1 HN1 HN2 HB1 HB2
    rw [← hN] at hr2
    clear hN
    by_cases hE : N = []
    · subst hE
      obtain ⟨b, c, rfl, hbc⟩ := hr2.empty
      have hbel : Hid (Below w.heap.size w u2) := hr2.below
      have hbc2 : Hid (b = none → c = 0) := hbc
      clear hr2 hbc
      refine (SortI_none b c u2).mono ?_
      rintro e w' ⟨rfl, rfl⟩
      go_wp2_with fail
      refine (Tryz.slices_Compact_int_empty b c w').mono ?_
      rintro e w2 ⟨rfl, rfl⟩
      go_wp2_with fail
      go_ret
      exact ⟨b, c, rfl, SlAt.nil _ _ _ _ hbc2.out, fun B off _ j hj => absurd hj (Nat.not_lt_zero j), hbel.out⟩
    · have hrow : Row RInt 1 (fun _ => False) w u2 3 v2 N := by
        rcases hr2 with ⟨h0, _⟩ | h
        · exact absurd h0 hE
        · exact h
      clear hr2
      obtain ⟨g, c, rfl, hg, hnc, hH, hrest⟩ := sortedI hE hrow
      clear hrow
      have hlen : N.length ≤ 140737488351232 := by have := hNl.out; omega
      have hS := SortI g 0 c N u2 hH hg (by omega)
      have hml : (N.mergeSort fun x y => decide (x ≤ y)).length = N.length := by rw [List.length_mergeSort]
      have hcl : (Lib.compact (N.mergeSort fun x y => decide (x ≤ y))).length = (sortB iLt iEq N).length := by rw [sortI]
      clear hH
      have HR0 : Hid (∀ n os, Holds (Value.int .i64) (grow (putRow (Value.int .i64) (Sort.ahead u2 n) g 0 (N.mergeSort fun x y => decide (x ≤ y)).toArray) os) g 0 (N.mergeSort fun x y => decide (x ≤ y)).toArray ∧ ∀ q, Row RInt 1 (fun _ => False) w (putRow (Value.int .i64) (Sort.ahead (grow (putRow (Value.int .i64) (Sort.ahead u2 n) g 0 (N.mergeSort fun x y => decide (x ≤ y)).toArray) os) q) g 0 (Lib.compact (N.mergeSort fun x y => decide (x ≤ y)) ++ List.replicate ((N.mergeSort fun x y => decide (x ≤ y)).length - (Lib.compact (N.mergeSort fun x y => decide (x ≤ y))).length) 0).toArray) 3 (.slice (some ⟨g, 0, none⟩) (sortB iLt iEq N).length c) (sortB iLt iEq N)) := hrest
      clear hrest
      have HM : Hid ((N.mergeSort fun x y => decide (x ≤ y)).length = N.length) := hml
      have HC : Hid ((Lib.compact (N.mergeSort fun x y => decide (x ≤ y))).length = (sortB iLt iEq N).length) := hcl
      clear hml hcl
      refine hS.mono ?_
      rintro e u3 ⟨rfl, k, os, hu3⟩
      have HU : Hid (u3 = grow (putRow (Value.int .i64) (Sort.ahead u2 k) g 0 (N.mergeSort fun x y => decide (x ≤ y)).toArray) os) := hu3
      clear hS hu3
      go_wp2_with fail
      have hu3 := HU.out
      obtain ⟨H2, H3⟩ := HR0.out k os
      rw [← hu3] at H2 H3
      clear HR0 hu3 HU
      have hC := Tryz.slices_Compact_int g 0 c (N.mergeSort fun x y => decide (x ≤ y)) u3 H2 (by rw [HM.out]; omega) (by rw [HM.out]; omega)
      rw [HM.out] at hC
      have H4 : Hid (∀ q, Row RInt 1 (fun _ => False) w (putRow (Value.int .i64) (Sort.ahead u3 q) g 0 (Lib.compact (N.mergeSort fun x y => decide (x ≤ y)) ++ List.replicate (N.length - (Lib.compact (N.mergeSort fun x y => decide (x ≤ y))).length) 0).toArray) 3 (.slice (some ⟨g, 0, none⟩) (sortB iLt iEq N).length c) (sortB iLt iEq N)) := fun q => by have := H3 q; rw [HM.out] at this; exact this
      clear H2 H3
      refine hC.mono ?_
      rintro e u4 ⟨he, q, hu4⟩
      rw [HC.out] at he
      subst he
      have H5 : Row RInt 1 (fun _ => False) w u4 3 (.slice (some ⟨g, 0, none⟩) (sortB iLt iEq N).length c) (sortB iLt iEq N) := by rw [hu4]; exact H4.out q
      have H6 : Hid (SlAt RInt 1 8 (Fresh w) u4 (some ⟨g, 0, none⟩) (sortB iLt iEq N).length c (sortB iLt iEq N) ∧ Thr u4 (some ⟨g, 0, none⟩) (sortB iLt iEq N).length ∧ Below w.heap.size w u4) := by
        obtain ⟨a2, c2, e2, s2⟩ := H5.sl (bytes := 8) RInt.firm (by have h1 := sortB_len iLt iEq N; have h2 := hNl.out; exact Nat.le_trans (Nat.mul_le_mul_right 8 h1) h2)
        injection e2 with e3 e4 e5
        subst e3 e5
        exact ⟨s2.weak RInt.firm (fun b _ h => by rcases h with h | h; exact absurd h id; exact h), H5.thr, H5.below⟩
      clear H5 H4 hC hu4
      go_wp2_with fail
      go_ret
      exact ⟨_, _, rfl, H6.out.1, H6.out.2.1, H6.out.2.2⟩
theorem joinedI (a : Option Addr) (n cap : Nat) (A : Where) (L : List Int) (a' : Option Addr) (n' cap' : Nat) (A' : Where) (M : List Int) (w : World) (hL : Hid (SlAt RInt 1 8 A w a n cap L)) (hM : Hid (SlAt RInt 1 8 A' w a' n' cap' M)) (hF : Hid ((L.length + M.length) * 8 ≤ 140737488351232)) : Calls Tryz.prog 25 #[.slice a n cap, .slice a' n' cap'] w fun e w' => ∃ b c, e = .returned (.slice b (sortB iLt iEq (L ++ M)).length c) ∧ SlAt RInt 1 8 (Fresh w) w' b (sortB iLt iEq (L ++ M)).length c (sortB iLt iEq (L ++ M)) ∧ Thr w' b (sortB iLt iEq (L ++ M)).length ∧ Below w.heap.size w w' :=
  joinedI0 a n cap A L a' n' cap' A' M _ rfl w hL hM hF
theorem joinedS1 (a : Option Addr) (n cap : Nat) (A : Where) (L : List ByteArray) (w : World) (hL : Hid (SlAt RStr 1 16 A w a n cap L)) : Calls Tryz.prog 23 #[.slice a n cap, .slice none 0 0] w fun e w' => ∃ b c, e = .returned (.slice b (sortB sLt sEq L).length c) ∧ SlAt RStr 1 16 (Fresh w) w' b (sortB sLt sEq L).length c (sortB sLt sEq L) ∧ Thr w' b (sortB sLt sEq L).length ∧ Below w.heap.size w w' :=
  joinedS0 a n cap A L none 0 0 A [] L (by simp) w hL (SlAt.nil _ _ _ _ (fun _ => rfl)) (by have h1 := hL.out.1; have h2 := hL.out.2.2.2.1; rw [Hid, h1]; simpa using h2)
theorem joinedI1 (a : Option Addr) (n cap : Nat) (A : Where) (L : List Int) (w : World) (hL : Hid (SlAt RInt 1 8 A w a n cap L)) : Calls Tryz.prog 25 #[.slice a n cap, .slice none 0 0] w fun e w' => ∃ b c, e = .returned (.slice b (sortB iLt iEq L).length c) ∧ SlAt RInt 1 8 (Fresh w) w' b (sortB iLt iEq L).length c (sortB iLt iEq L) ∧ Thr w' b (sortB iLt iEq L).length ∧ Below w.heap.size w w' :=
  joinedI0 a n cap A L none 0 0 A [] L (by simp) w hL (SlAt.nil _ _ _ _ (fun _ => rfl)) (by have h1 := hL.out.1; have h2 := hL.out.2.2.2.1; rw [Hid, h1]; simpa using h2)
end Go.Proofs.YtbcclfiopebmpaaGreat
