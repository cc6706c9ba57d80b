/- Functions of the program, each walked under the conditions that its theorem names. -/
import Derived.Laws.StructEq
import Derived.Lib.Small
import Derived.Laws.OwnMore
import Derived.Maps.OwnSet
import Derived.Test.YtnffafjamiffnaaGreatQ06
set_option linter.unusedSimpArgs false
set_option maxRecDepth 100000
set_option maxHeartbeats 32000000
namespace Go.Proofs.YtnffafjamiffnaaGreat
open Go.RowKit
section
variable {α : Type} [Inhabited α] {R : Rep α} {k : Nat}
theorem Row.lt {A : Where} {w0 u : World} {e : TypeId} {v : Value} {L : List α} (h : Row R k A w0 u e v L) {b : Nat} (hb : v.ownBlock = some b) : w0.heap.size <= b /\ b < u.heap.size := by
 obtain ⟨xs, h1, _⟩ := h
 exact h1.2.lt b hb
theorem Row.grown (hR : Firm R k) {A : Where} {w0 u u' : World} {row : Option Nat} {e : TypeId} {v : Value} {L : List α} (h : Row R k A w0 u e v L) (hg : u.grownBy u' row) (hn : ∀ b, row = some b -> w0.heap.size <= b /\ v.ownBlock ≠ some b /\ ¬ A b) : Row R k A w0 u' e v L := by
 obtain ⟨xs, ⟨h1, h0, h2⟩, h3⟩ := h
 refine ⟨xs, ⟨?_, h0, ?_⟩, h3.kept hR (Kept.grown hg (fun b hb h => (hn b hb).2.2 h.1))⟩
 ·exact Below.grown h1 hg h1.size (fun b hb => (hn b hb).1)
 ·rcases h2 with h2 | ⟨g, cap, cur, hv, hg0, hh, r⟩
  ·exact .inl h2
  ·refine .inr ⟨g, cap, cur, hv, hg0, ?_, r⟩
   rw [hg.block g ?_ ?_]
   ·exact hh
   ·rcases Nat.lt_or_ge g u.heap.size with h | h
    ·exact h
    ·rw [Array.getElem?_eq_none h] at hh; cases hh
   ·intro e1
    have := (hn g e1.symm).2.1
    rw [hv] at this
    exact this rfl
theorem zAX (hR : Firm R k) {o : Oper} {a : Act} {K : Act -> World -> Prop} {Q : Exit -> Act -> World -> Prop} {A : Where} {w0 u : World} (s x : Operand) (t e : TypeId)
  (ho : o.op = .call { callee := .builtin .append, args := #[s, x], argTypes := #[t, t] }) (z : Value) (bytes : Nat) (hinfo : (Tryz.prog.info? e).map (fun i => (i.zero, i.size, i.bytes)) = some (some z, k, bytes)) (ht : Tryz.prog.underlying t = some (.slice e)) (hzs : z.cells.size = k) (hk0 : 0 < k) (hby : 1 <= bytes)
  (v : Value) (L : List α) (hs : a.eval s = v) (hrow : Row R k A w0 u e v L)
  (ad : Option Addr) (m c : Nat) (N : List α) (hx : a.eval x = .slice ad m c) (hN : Src R k (fun b => A b /\ v.ownBlock ≠ some b) u ad m N) (hb : (L.length + N.length) * bytes <= 140737488355328)
  (h : ∀ v' u', Row R k A w0 u' e v' (L ++ N) -> u.grownBy u' v.ownBlock -> (v'.ownBlock = v.ownBlock \/ v'.ownBlock = some u.heap.size) -> K (a.put o.dst v') u') : o.wp Tryz.prog a u K Q := by
 obtain ⟨hm, hN⟩ := hN
 rcases hN with ⟨rfl, rfl⟩ | ⟨ad, news, rfl, hN, hcells, h1⟩
 ·obtain rfl : m = 0 := by simpa using hm.symm
  obtain ⟨i0, hi, hz0, hz1, hz2⟩ := info_parts hinfo
  have hr : ∀ ty, (Builtin.append_ #[t, t] ty #[v, .slice none 0 c]).run Tryz.prog u = .ok v u := by
   intro ty
   obtain ⟨xs, hown, _⟩ := hrow
   rcases hown.2.2 with ⟨rfl, _⟩ | ⟨g, cap, cur, rfl, _, hg, hnc, _⟩
   ·simp [Builtin.append_, run_underlying ht, sizeOf, typeInfo, hi, Builtin.lenOf, Builtin.firstCells, loadCells, loadCellsFrom]
   ·simp [Builtin.append_, run_underlying ht, sizeOf, typeInfo, hi, Builtin.lenOf, Builtin.firstCells, loadCells, loadCellsFrom, hnc, storeCells]
  unfold Oper.wp execOp
  simp only [ho, resolve, invoke, builtin, Sem.run_bind, Sem.run_pure, Result.andThen_ok, List.map_toArray, List.map_cons, List.map_nil, hs, hx, hr]
  exact h v u (by simpa using hrow) ⟨rfl, rfl, rfl, Nat.le_refl _, fun _ _ _ => rfl⟩ (.inl rfl)
 ·subst hm
  obtain ⟨i0, hi, hz0, hz1, hz2⟩ := info_parts hinfo
  obtain ⟨xs, hown, hch⟩ := hrow
  have hmul : (L.length + N.length) * 1 <= (L.length + N.length) * bytes := Nat.mul_le_mul_left _ hby
  obtain ⟨v', u', hr, h2, h3, h4, h5⟩ := run_append_own_at (P := Tryz.prog) u w0.heap.size t o.type e i0 z k bytes ht hi hz0 hz1 hz2 hzs hk0 v L.length xs hown.2 ad N.length c news hN.1 hcells h1 (by unfold maxLen; omega) hb hown.1.size
  unfold Oper.wp execOp
  simp only [ho, resolve, invoke, builtin, Sem.run_bind, Sem.run_pure, Result.andThen_ok, List.map_toArray, List.map_cons, List.map_nil, hs, hx, hr]
  refine (h v' u' ⟨xs ++ news, ⟨hown.row h3, by rw [List.length_append]; exact h2⟩, ?_⟩ h3 h5)
  have put : ∀ {ys : List Value} {M : List α}, Chunks R k (fun b => A b /\ v.ownBlock ≠ some b) u ys M -> Chunks R k (fun b => A b /\ v'.ownBlock ≠ some b) u' ys M := fun {ys M} hc => by
   have c1 := hc.weak hR (A' := fun b => (A b /\ v.ownBlock ≠ some b) /\ b < u.heap.size) (fun b hb h => ⟨h, hb⟩)
   have c2 := c1.kept hR (Kept.grown h3 (fun b e => fun h => h.1.2 e))
   refine c2.weak hR (fun b _ h => ⟨h.1.1, fun e => ?_⟩)
   rcases h5 with h5 | h5
   ·rw [h5] at e; exact h.1.2 e
   ·rw [h5] at e
    have : u.heap.size = b := by simpa using e
    exact absurd h.2 (by omega)
  obtain ⟨l1, c1⟩ := put hch
  obtain ⟨l2, c2⟩ := put hN
  refine ⟨by rw [List.length_append, List.length_append, l1, l2, Nat.add_mul], fun i hi => ?_⟩
  rcases Nat.lt_or_ge i L.length with h' | h'
  ·obtain ⟨cs, q1, q2⟩ := c1 i h'
   have e : (L ++ N).getD i default = L.getD i default := by rw [zB5 _ _ hi, zB5 _ _ h', List.getElem_append_left h']
   refine ⟨cs, by rw [e]; exact q1, fun j hj => ?_⟩
   rw [List.getElem?_append_left (by have : (i + 1) * k <= L.length * k := Nat.mul_le_mul_right k h'; rw [Nat.add_mul] at this; omega)]
   exact q2 j hj
  ·have h'' : i - L.length < N.length := by simp at hi; omega
   obtain ⟨cs, q1, q2⟩ := c2 (i - L.length) h''
   have e : (L ++ N).getD i default = N.getD (i - L.length) default := by rw [zB5 _ _ hi, zB5 _ _ h'', List.getElem_append_right h']
   refine ⟨cs, by rw [e]; exact q1, fun j hj => ?_⟩
   have hle : L.length * k <= i * k := Nat.mul_le_mul_right k h'
   rw [List.getElem?_append_right (by omega), l1, zDt i L.length k j h', <- q2 j hj]
theorem zAL (hR : Firm R k) {ops : Array Oper} {rest : List Oper} {o : Oper} {a : Act} {Q : Exit -> Act -> World -> Prop} {A : Where} {w0 u : World} (hgd : Region.wanted o (yielded ops a.tmps) = true) (s x : Operand) (t e : TypeId)
  (ho : o.op = .call { callee := .builtin .append, args := #[s, x], argTypes := #[t, t] }) (z : Value) (bytes : Nat) (hinfo : (Tryz.prog.info? e).map (fun i => (i.zero, i.size, i.bytes)) = some (some z, k, bytes)) (ht : Tryz.prog.underlying t = some (.slice e)) (hzs : z.cells.size = k) (hk0 : 0 < k) (hby : 1 <= bytes)
  (v : Value) (L : List α) (hs : a.eval s = v) (hrow : Row R k A w0 u e v L)
  (ad : Option Addr) (m c : Nat) (N : List α) (hx : a.eval x = .slice ad m c) (hN : Src R k (fun b => A b /\ v.ownBlock ≠ some b) u ad m N) (hb : (L.length + N.length) * bytes <= 140737488355328)
  (h : ∀ v' u', Row R k A w0 u' e v' (L ++ N) -> u.grownBy u' v.ownBlock -> (v'.ownBlock = v.ownBlock \/ v'.ownBlock = some u.heap.size) -> wpList Tryz.prog ops Q rest (a.put o.dst v') u') : wpList Tryz.prog ops Q (o :: rest) a u :=
 BigFrame.wpList_want hgd (fun _ hK => zAX hR s x t e ho z bytes hinfo ht hzs hk0 hby v L hs hrow ad m c N hx hN hb (fun v' u' h2 h3 h4 => hK _ _ (h v' u' h2 h3 h4)))
end
theorem zAN {P : Program} {ops : Array Oper} {Q : Exit -> Act -> World -> Prop} {rest : List Oper} {a : Act} {u W : World} (h : W = u) (k : wpList P ops Q rest a W) : wpList P ops Q rest a u := h ▸ k
theorem zA2 {u : World} {D : Nat} {zs cs : List Value} (hb : BoxL u D zs) (hl : zs.length = cs.length) : BoxL (u.setCells D 0 cs) D cs := by
 have hth : u.there D 0 cs.length := hl ▸ hb.there
 have hr := World.rangeAt_setCells_same u D 0 cs hth
 have ht2 := World.there_setCells hth D 0 cs
 refine ⟨Nat.lt_of_lt_of_le hb.1 (zA1 (A := fun _ => False) (b := D) (fun h => h) (vs := cs) (o := 0) (u := u)).1, fun j v hj => ?_⟩
 have h1 := hr j v hj
 have h2 := (ht2 j (List.getElem?_eq_some_iff.1 hj).1).2
 rw [Nat.zero_add] at h1 h2
 exact ⟨h1, h2⟩
theorem ret_sb {a c : ByteArray} {b d : Bool} (h : a = c /\ b = d) : Ending.returned (.tuple #[.string a, .bool b]) = .returned (.tuple #[.string c, .bool d]) := by rw [h.1, h.2]
theorem getL_no {L : List Lab} {key : ByteArray} (h : ∀ j, j < L.length -> sEq (L.getD j default).1 key = false) : getL L key = (default, false) := by
 have : L.find? (fun x => sEq x.1 key) = none := by
  rw [List.find?_eq_none]
  intro x hx
  obtain ⟨j, hj, rfl⟩ := List.mem_iff_getElem.1 hx
  have := h j hj
  rw [List.getD_eq_getElem?_getD, List.getElem?_eq_getElem hj] at this
  simpa using this
 simp only [getL, this]
theorem getL_yes {L : List Lab} {key : ByteArray} {k : Nat} (hk : k < L.length) (h : ∀ j, j < k -> sEq (L.getD j default).1 key = false) (hy : sEq (L.getD k default).1 key = true) : getL L key = ((L.getD k default).2, true) := by
 have : L.find? (fun x => sEq x.1 key) = some (L.getD k default) := by
  rw [List.getD_eq_getElem?_getD, List.getElem?_eq_getElem hk] at hy |-
  rw [List.find?_eq_some_iff_getElem]
  refine ⟨hy, k, hk, rfl, fun j hj => ?_⟩
  have := h j hj
  rw [List.getD_eq_getElem?_getD, List.getElem?_eq_getElem (by omega)] at this
  simpa using this
 simp only [getL, this]
theorem zAU (a : Option Addr) (cap : Nat) (L : List Lab) (key : ByteArray) (w : World) (hL : Hid (LabsAt w a L)) : Calls Tryz.prog 169 #[.slice a L.length cap, .string key] w fun e w' => e = .returned (.tuple #[.string (getL L key).1, .bool (getL L key).2]) /\ Below w.heap.size w w' := by
 have hlen := hL.out.1
 go_enter Tryz.func169, Tryz.ntmps169
 go_wp2
 go_loopw [10] (fun i wr => ∃ k : Nat, k <= L.length /\ i = .int .i64 k /\ Below w.heap.size w wr /\ Hid (∀ j, j < k -> sEq (L.getD j default).1 key = false)) (fun i _ => L.length - (intOf i).toNat)
 case atStart => exact ⟨0, Nat.zero_le _, rfl, Below.refl _ _, fun j hj => absurd hj (Nat.not_lt_zero _)⟩
 case round =>
  obtain ⟨k, hk, rfl, hbel, hall⟩ := hrel
  by_cases hlt : k < L.length
  ·obtain ⟨B, off, rfl, hB, c0, c1, s0, s1⟩ := hL.out.get hlt
   have d0 := (hbel.cell (p := ⟨B, off + k * 2, none⟩) hB).trans c0
   have d1 := (hbel.cell (p := ⟨B, off + k * 2 + 1, none⟩) hB).trans c1
   clear c0 c1
   cases hv : sEq (L.getD k default).1 key
   ·have HG : Hid (∀ j, j < k + 1 -> sEq (L.getD j default).1 key = false) := fun j hj => by
     rcases Nat.lt_succ_iff_lt_or_eq.1 hj with h | rfl
     ·exact hall.out j h
     ·exact hv
    unfold sEq at hv
    clear hall
    generalize L.getD k default = x at hv d0 d1 s0 s1
    go_wp2
    go_roundw
    case rel => exact ⟨k + 1, by omega, by go_num, on2 hbel (by go_grown), HG⟩
    case measure => simp [intOf]; omega
   ·have HF : Hid (getL L key = ((L.getD k default).2, true)) := getL_yes hlt hall.out hv
    unfold sEq at hv
    clear hall
    generalize L.getD k default = x at hv d0 d1 s0 s1 HF
    go_wp2
    go_ret2
    exact ⟨ret_sb (by rw [HF.out]; exact ⟨rfl, rfl⟩), on2 hbel (by go_grown)⟩
  ·have HF : Hid (getL L key = (default, false)) := getL_no (fun j hj => hall.out j (by omega))
   go_wp2
   go_ret2
   exact ⟨ret_sb (by rw [HF.out]; exact ⟨rfl, rfl⟩), hbel⟩
def hasB {α : Type} (eq : α -> α -> Bool) (V : List α) (s : α) : Bool := V.any fun v => eq v s
theorem zFU {α : Type} [Inhabited α] (eq : α -> α -> Bool) (L : List α) (s : α) {k : Nat} (hk : k < L.length) : hasB eq (L.take (k + 1)) s = (hasB eq (L.take k) s || eq (L.getD k default) s) := by
 rw [<- zAo hk]; simp [hasB]
theorem zDj {α : Type} [Inhabited α] (eq : α -> α -> Bool) (L : List α) (s : α) {k : Nat} (hk : k < L.length) (h : eq (L.getD k default) s = true) : hasB eq L s = true := by
 simp only [hasB, List.any_eq_true]
 exact ⟨L.getD k default, by rw [zB5 _ _ hk]; exact List.getElem_mem hk, h⟩
def iEq (a b : Int) : Bool := a == b
structure PB (w u : World) (P Z Q : List Value) : Prop where
 p : BoxL u w.heap.size P
 z : BoxL u (w.heap.size + 1) Z
 q : BoxL u (w.heap.size + 1 + 1) Q
 b : Below w.heap.size w u
theorem PB.on {w u u' : World} {P Z Q : List Value} (h : PB w u P Z Q) (hb : Below u.heap.size u u') : PB w u' P Z Q :=
 ⟨h.p.on hb, h.z.on hb, h.q.on hb, on2 h.b hb⟩
theorem PB.set {w u : World} {P Z Q : List Value} (h : PB w u P Z Q) (i : Nat) (v : Value) (hi : i < Q.length) : PB w (u.setCell ⟨w.heap.size + 1 + 1, i, none⟩ v) P Z (Q.set i v) :=
 ⟨h.p.other (by simp; omega) v, h.z.other (by simp) v, h.q.set i v hi, h.b.setCell (by simp; omega) v⟩
theorem PB.sz {w u : World} {P Z Q : List Value} (h : PB w u P Z Q) : w.heap.size + 1 + 1 < u.heap.size := h.q.1
end Go.Proofs.YtnffafjamiffnaaGreat
namespace Go.Proofs.YtnffafjamiffnaaGreat
def valL : List UInt8 -> Nat
 | [] => 0
 | c :: cs => (c.toNat - 48) * 10 ^ cs.length + valL cs
theorem zFE : ∀ (l : List UInt8) (c : UInt8), valL (l ++ [c]) = 10 * valL l + (c.toNat - 48)
 | [], c => by simp [valL]
 | x :: l, c => by
  simp only [List.cons_append, valL, zFE l c, List.length_append, List.length_singleton, Nat.pow_succ]
  rw [Nat.mul_add, <- Nat.mul_assoc, Nat.mul_comm _ 10]
  omega
theorem zDl (s : ByteArray) : ∀ k, k <= s.size -> numTo s k = valL (s.data.toList.take k)
 | 0, _ => by simp [numTo, valL]
 | k + 1, h => by
  have hk : k < s.data.toList.length := by simp; omega
  rw [numTo, zDl s k (by omega), List.take_add_one, List.getElem?_eq_getElem hk, Option.toList_some, zFE]
  congr 2
  unfold byteAt
  rw [List.getD_eq_getElem?_getD, List.getElem?_eq_getElem hk]
  rfl
theorem zBD (s : ByteArray) : numN s = valL s.data.toList := by
 rw [numN, zDl s s.size (Nat.le_refl _), List.take_of_length_le (by simp)]
theorem zDB : ∀ (l : List UInt8), (∀ c ∈ l, isDig c = true) -> valL l < 10 ^ l.length
 | [], _ => by simp [valL]
 | c :: l, h => by
  have ih := zDB l (fun x hx => h x (by simp [hx]))
  have hd := (zAx c).1 (h c (by simp))
  simp only [valL, List.length_cons, Nat.pow_succ]
  have : (c.toNat - 48) * 10 ^ l.length <= 9 * 10 ^ l.length := Nat.mul_le_mul_right _ (by omega)
  omega
theorem zGW : ∀ (l m : List UInt8), l.length = m.length -> (∀ c ∈ l, isDig c = true) -> (∀ c ∈ m, isDig c = true) ->
  (Lib.compareBytes l m = -1 /\ valL l < valL m) \/ (Lib.compareBytes l m = 0 /\ valL l = valL m) \/ (Lib.compareBytes l m = 1 /\ valL m < valL l)
 | [], [], _, _, _ => .inr (.inl ⟨rfl, rfl⟩)
 | [], _ :: _, h, _, _ => by simp at h
 | _ :: _, [], h, _, _ => by simp at h
 | a :: l, b :: m, h, hl, hm => by
  have hlen : l.length = m.length := by simpa using h
  have ih := zGW l m hlen (fun x hx => hl x (by simp [hx])) (fun x hx => hm x (by simp [hx]))
  have b1 := zDB l (fun x hx => hl x (by simp [hx]))
  have b2 := zDB m (fun x hx => hm x (by simp [hx]))
  have ha := (zAx a).1 (hl a (by simp))
  have hb := (zAx b).1 (hm b (by simp))
  simp only [Lib.compareBytes, valL]
  rw [hlen] at b1 |-
  have key : ∀ x y : Nat, x < y -> x * 10 ^ m.length + 10 ^ m.length <= y * 10 ^ m.length := fun x y hxy => by
   have := Nat.mul_le_mul_right (10 ^ m.length) (show x + 1 <= y from hxy)
   rw [Nat.add_mul, Nat.one_mul] at this
   exact this
  by_cases h1 : a < b
  ·have h1' : a.toNat < b.toNat := h1
   have := key (a.toNat - 48) (b.toNat - 48) (by omega)
   rw [if_pos h1]
   exact .inl ⟨rfl, by omega⟩
  ·rw [if_neg h1]
   by_cases h2 : b < a
   ·have h2' : b.toNat < a.toNat := h2
    have := key (b.toNat - 48) (a.toNat - 48) (by omega)
    rw [if_pos h2]
    exact .inr (.inr ⟨rfl, by omega⟩)
   ·rw [if_neg h2]
    have h1' : ¬ a.toNat < b.toNat := h1
    have h2' : ¬ b.toNat < a.toNat := h2
    have : a.toNat = b.toNat := by omega
    rw [this]
    rcases ih with ⟨e, hh⟩ | ⟨e, hh⟩ | ⟨e, hh⟩
    ·exact .inl ⟨e, by omega⟩
    ·exact .inr (.inl ⟨e, by omega⟩)
    ·exact .inr (.inr ⟨e, by omega⟩)
theorem zC9 {s : ByteArray} (h : numB s = true) : 1 <= s.size /\ s.size <= 15 /\ ¬(1 < s.size /\ (byteAt s 0).toNat = 48) /\ ∀ c ∈ s.data.toList, isDig c = true := by
 simp only [numB, Bool.and_eq_true, decide_eq_true_eq, Bool.not_eq_true', Bool.and_eq_false_iff, decide_eq_false_iff_not] at h
 obtain ⟨⟨⟨h1, h2⟩, h3⟩, h4⟩ := h
 refine ⟨h1, h2, by omega, fun c hc => ?_⟩
 obtain ⟨j, hj, rfl⟩ := List.mem_iff_getElem.1 hc
 have := allTo_iff.1 h4 j (by simpa using hj)
 unfold byteAt at this
 rwa [List.getD_eq_getElem?_getD, List.getElem?_eq_getElem hj] at this
theorem zFJ {s : ByteArray} (h : numB s = true) (h1 : 1 < s.size) : 10 ^ (s.size - 1) <= numN s := by
 obtain ⟨_, _, h3, h4⟩ := zC9 h
 have h0 : (byteAt s 0).toNat ≠ 48 := fun e => h3 ⟨h1, e⟩
 rw [zBD]
 have hl : s.data.toList.length = s.size := by simp
 unfold byteAt at h0
 generalize s.data.toList = l at *
 match l, hl with
 | [], hl => simp at hl; omega
 | c :: cs, hl =>
  have hd := (zAx c).1 (h4 c (by simp))
  simp only [List.getD_cons_zero] at h0
  have e : s.size - 1 = cs.length := by simp at hl; omega
  rw [e, valL]
  have := Nat.mul_le_mul_right (10 ^ cs.length) (show 1 <= c.toNat - 48 by omega)
  omega
def cmpN (a b : ByteArray) : Int := if Lib.compareInt a.size b.size ≠ 0 then Lib.compareInt a.size b.size else Lib.compareBytes a.data.toList b.data.toList
theorem zDb {a b : ByteArray} (ha : numB a = true) (hb : numB b = true) : (cmpN a b < 0 /\ numN a < numN b) \/ (cmpN a b = 0 /\ numN a = numN b) \/ (0 < cmpN a b /\ numN b < numN a) := by
 obtain ⟨a1, a2, a3, a4⟩ := zC9 ha
 obtain ⟨b1, b2, b3, b4⟩ := zC9 hb
 have la : a.data.toList.length = a.size := by simp
 have lb : b.data.toList.length = b.size := by simp
 have va := zDB _ a4
 have vb := zDB _ b4
 rw [<- zBD, la] at va
 rw [<- zBD, lb] at vb
 unfold cmpN Lib.compareInt
 by_cases h1 : (a.size : Int) < b.size
 ·have := zFJ hb (by omega)
  have h2 := Nat.pow_le_pow_right (n := 10) (by omega) (show a.size <= b.size - 1 by omega)
  simp only [h1, if_true]
  exact .inl ⟨by simp, by omega⟩
 ·by_cases h2 : (a.size : Int) > b.size
  ·have := zFJ ha (by omega)
   have h3 := Nat.pow_le_pow_right (n := 10) (by omega) (show b.size <= a.size - 1 by omega)
   simp only [h1, if_false, h2, if_true]
   exact .inr (.inr ⟨by simp, by omega⟩)
  ·simp only [h1, h2, if_false, ne_eq, not_true]
   rw [zBD, zBD]
   rcases zGW _ _ (by omega) a4 b4 with ⟨e, h⟩ | ⟨e, h⟩ | ⟨e, h⟩ <;> rw [e] <;> simp [h]
theorem zHG {a b : ByteArray} (ha : numB a = true) (hb : numB b = true) : decide (0 < cmpN a b) = decide (numN b < numN a) := by
 rcases zDb ha hb with h | h | h <;> (rw [Bool.eq_iff_iff]; simp; omega)
theorem zHl {a b : ByteArray} (ha : numB a = true) (hb : numB b = true) : decide (cmpN a b < 0) = decide (numN a < numN b) := by
 rcases zDb ha hb with h | h | h <;> (rw [Bool.eq_iff_iff]; simp; omega)
end Go.Proofs.YtnffafjamiffnaaGreat
namespace Go.Proofs.YtnffafjamiffnaaGreat
open Go.RowKit
def Roomy (v : Value) (n t : Nat) : Prop := (v = .slice none 0 0 /\ t = 0) \/ ∃ g cap, v = .slice (some ⟨g, 0, none⟩) n cap /\ t <= cap
section
variable {α : Type} [Inhabited α] {R : Rep α} {k : Nat}
theorem zE8 (t ty e : TypeId) (i : TypeInfo) (ht : Tryz.prog.underlying t = some (.slice e)) (hi : Tryz.prog.info? e = some i) (ad : Option Addr) (c : Nat) (u : World) : (Builtin.append_ #[t, t] ty #[.slice none 0 0, .slice ad 0 c]).run Tryz.prog u = .ok (.slice none 0 0) u := by
 cases ad with
 | none => simp [Builtin.append_, run_underlying ht, sizeOf, typeInfo, hi, Builtin.lenOf, Builtin.firstCells]
 | some a =>
  have hf := run_firstCells_some (P := Tryz.prog) u i.size 0 a 0 c [] (by simp) (by simp)
  simp [Builtin.append_, run_underlying ht, sizeOf, typeInfo, hi, Builtin.lenOf, hf]
theorem zDT (hR : Firm R k) {o : Oper} {a : Act} {K : Act -> World -> Prop} {Q : Exit -> Act -> World -> Prop} {A : Where} {w0 u : World} (s x : Operand) (t e : TypeId)
  (ho : o.op = .call { callee := .builtin .append, args := #[s, x], argTypes := #[t, t] }) (z : Value) (bytes : Nat) (hinfo : (Tryz.prog.info? e).map (fun i => (i.zero, i.size, i.bytes)) = some (some z, k, bytes)) (ht : Tryz.prog.underlying t = some (.slice e))
  (v : Value) (L : List α) (T : Nat) (hs : a.eval s = v) (hrow : Row R k A w0 u e v L) (hT : Roomy v L.length T)
  (ad : Option Addr) (m c : Nat) (N : List α) (hx : a.eval x = .slice ad m c) (hN : Src R k (fun b => A b /\ v.ownBlock ≠ some b) u ad m N) (hb : L.length + N.length <= T)
  (h : ∀ v' u', Row R k A w0 u' e v' (L ++ N) -> u.grownBy u' v.ownBlock -> v'.ownBlock = v.ownBlock -> Roomy v' (L ++ N).length T -> K (a.put o.dst v') u') : o.wp Tryz.prog a u K Q := by
 obtain ⟨i0, hi, hz0, hz1, hz2⟩ := info_parts hinfo
 have stay : ∀ (hNe : N = []) (hr : ∀ ty, (Builtin.append_ #[t, t] ty #[v, .slice ad m c]).run Tryz.prog u = .ok v u), o.wp Tryz.prog a u K Q := fun hNe hr => by
  unfold Oper.wp execOp
  simp only [ho, resolve, invoke, builtin, Sem.run_bind, Sem.run_pure, Result.andThen_ok, List.map_toArray, List.map_cons, List.map_nil, hs, hx, hr]
  exact h v u (by rw [hNe]; simpa using hrow) ⟨rfl, rfl, rfl, Nat.le_refl _, fun _ _ _ => rfl⟩ rfl (by rw [hNe]; simpa using hT)
 obtain ⟨hm, hN⟩ := hN
 rcases hT with ⟨rfl, rfl⟩ | ⟨g, cap, rfl, hcap⟩
 ·obtain rfl : N = [] := List.eq_nil_of_length_eq_zero (by omega)
  obtain rfl : m = 0 := by simpa using hm.symm
  exact stay rfl (fun ty => zE8 t ty e i0 ht hi ad c u)
 ·rcases hN with ⟨rfl, rfl⟩ | ⟨ad, news, rfl, hN, hcells, h1⟩
  ·obtain rfl : m = 0 := by simpa using hm.symm
   refine stay rfl (fun ty => ?_)
   obtain ⟨xs, hown, _⟩ := hrow
   rcases hown.2.2 with ⟨hv, _⟩ | ⟨g', cap', cur, hv, _, hg, hnc, _⟩
   ·cases hv
   ·have hv' : g = g' /\ cap = cap' := by simpa using hv
    obtain ⟨rfl, rfl⟩ := hv'
    simp [Builtin.append_, run_underlying ht, sizeOf, typeInfo, hi, Builtin.lenOf, Builtin.firstCells, loadCells, loadCellsFrom, hnc, storeCells]
  ·subst hm
   obtain ⟨xs, hown, hch⟩ := hrow
   obtain ⟨u', hr, h2, h3⟩ := run_append_fits (P := Tryz.prog) u w0.heap.size t o.type e i0 k ht hi hz1 g L.length cap xs hown.2 ad N.length c news hN.1 hcells h1 (by omega)
   unfold Oper.wp execOp
   simp only [ho, resolve, invoke, builtin, Sem.run_bind, Sem.run_pure, Result.andThen_ok, List.map_toArray, List.map_cons, List.map_nil, hs, hx, hr]
   have h3' : u.grownBy u' (Value.slice (some ⟨g, 0, none⟩) L.length cap).ownBlock := h3
   refine h _ u' ⟨xs ++ news, ⟨hown.row h3', by rw [List.length_append]; exact h2⟩, ?_⟩ h3' rfl (.inr ⟨g, cap, by rw [List.length_append], hcap⟩)
   have put : ∀ {ys : List Value} {M : List α}, Chunks R k (fun b => A b /\ (Value.slice (some ⟨g, 0, none⟩) L.length cap).ownBlock ≠ some b) u ys M -> Chunks R k (fun b => A b /\ (Value.slice (some ⟨g, 0, none⟩) (L.length + N.length) cap).ownBlock ≠ some b) u' ys M := fun {ys M} hc => by
    have c2 := hc.kept hR (Kept.grown h3' (fun b e => fun h => h.2 e))
    exact c2.weak hR (fun b _ h => ⟨h.1, h.2⟩)
   obtain ⟨l1, c1⟩ := put hch
   obtain ⟨l2, c2⟩ := put hN
   refine ⟨by rw [List.length_append, List.length_append, l1, l2, Nat.add_mul], fun i hi => ?_⟩
   rcases Nat.lt_or_ge i L.length with h' | h'
   ·obtain ⟨cs, q1, q2⟩ := c1 i h'
    have e : (L ++ N).getD i default = L.getD i default := by rw [zB5 _ _ hi, zB5 _ _ h', List.getElem_append_left h']
    refine ⟨cs, by rw [e]; exact q1, fun j hj => ?_⟩
    rw [List.getElem?_append_left (by have : (i + 1) * k <= L.length * k := Nat.mul_le_mul_right k h'; rw [Nat.add_mul] at this; omega)]
    exact q2 j hj
   ·have h'' : i - L.length < N.length := by simp at hi; omega
    obtain ⟨cs, q1, q2⟩ := c2 (i - L.length) h''
    have e : (L ++ N).getD i default = N.getD (i - L.length) default := by rw [zB5 _ _ hi, zB5 _ _ h'', List.getElem_append_right h']
    refine ⟨cs, by rw [e]; exact q1, fun j hj => ?_⟩
    have hle : L.length * k <= i * k := Nat.mul_le_mul_right k h'
    rw [List.getElem?_append_right (by omega), l1, zDt i L.length k j h', <- q2 j hj]
theorem zCu (hR : Firm R k) {ops : Array Oper} {rest : List Oper} {o : Oper} {a : Act} {Q : Exit -> Act -> World -> Prop} {A : Where} {w0 u : World} (hgd : Region.wanted o (yielded ops a.tmps) = true) (s x : Operand) (t e : TypeId)
  (ho : o.op = .call { callee := .builtin .append, args := #[s, x], argTypes := #[t, t] }) (z : Value) (bytes : Nat) (hinfo : (Tryz.prog.info? e).map (fun i => (i.zero, i.size, i.bytes)) = some (some z, k, bytes)) (ht : Tryz.prog.underlying t = some (.slice e))
  (v : Value) (L : List α) (T : Nat) (hs : a.eval s = v) (hrow : Row R k A w0 u e v L) (hT : Roomy v L.length T)
  (ad : Option Addr) (m c : Nat) (N : List α) (hx : a.eval x = .slice ad m c) (hN : Src R k (fun b => A b /\ v.ownBlock ≠ some b) u ad m N) (hb : L.length + N.length <= T)
  (h : ∀ v' u', Row R k A w0 u' e v' (L ++ N) -> u.grownBy u' v.ownBlock -> v'.ownBlock = v.ownBlock -> Roomy v' (L ++ N).length T -> wpList Tryz.prog ops Q rest (a.put o.dst v') u') : wpList Tryz.prog ops Q (o :: rest) a u :=
 BigFrame.wpList_want hgd (fun _ hK => zDT hR s x t e ho z bytes hinfo ht v L T hs hrow hT ad m c N hx hN hb (fun v' u' h2 h3 h4 h5 => hK _ _ (h v' u' h2 h3 h4 h5)))
end
end Go.Proofs.YtnffafjamiffnaaGreat
namespace Go.Proofs.YtnffafjamiffnaaGreat
open Go.RowKit Go.Maps
def kS (s : ByteArray) : Lit := .string s.data.toList
theorem zGm {s : ByteArray} (h : s.size <= 140737488355328) : keyOf Tryz.prog 9 (.string s) = some (kS s) := WideMaps.keyOf_string_mk Tryz.underlying9 (Nat.le_trans h (by unfold maxLen; omega))
theorem kS_is (s : ByteArray) : WideAt.IsKeyLit (kS s) := by unfold kS; trivial
theorem kS_inj {s t : ByteArray} (h : kS s = kS t) : s = t := by
 unfold kS at h
 injection h with h
 cases s; cases t
 simp only [ByteArray.mk.injEq] at h |-
 exact Array.toList_inj.1 h
theorem zAk (n : Int) (w : World) : (Instr.makeMap 145 (some (.int .i64 n))).run Tryz.prog w = .ok (.map (some w.heap.size)) (w.alloc (.map #[] 0)) := by
 simp [Instr.makeMap, run_underlying Tryz.underlying145, asInt, newObj, asIntOf, Result.andThen]
 rfl
theorem lawS : Keyed Tryz.prog 9 := string_keyed Tryz.underlying9
theorem zeroU (w : World) : (zeroValue 146).run Tryz.prog w = .ok (.agg #[]) w := by kernel_rfl
def SetAt (w : World) (mb n : Nat) (q : ByteArray -> Bool) : Prop :=
 ∃ D : DataW Unit, w.ownsMap Tryz.prog 9 unitElem mb n D /\ ∀ s, Maps.has D (kS s) = q s
theorem SetAt.lt {w : World} {mb n : Nat} {q : ByteArray -> Bool} (h : SetAt w mb n q) : mb < w.heap.size := by
 obtain ⟨D, ⟨es, ck, hb, _⟩, _⟩ := h
 rcases Nat.lt_or_ge mb w.heap.size with h | h
 ·exact h
 ·rw [Array.getElem?_eq_none h] at hb; cases hb
theorem SetAt.same {w w' : World} {mb n : Nat} {q : ByteArray -> Bool} (h : SetAt w mb n q) (hb : w'.heap[mb]? = w.heap[mb]?) : SetAt w' mb n q := by
 obtain ⟨D, ⟨es, ck, h1, h2⟩, h3⟩ := h
 exact ⟨D, ⟨es, ck, hb.trans h1, h2⟩, h3⟩
theorem SetAt.on {w w' : World} {mb n : Nat} {q : ByteArray -> Bool} (h : SetAt w mb n q) (hb : Below w.heap.size w w') : SetAt w' mb n q := h.same (hb.block mb h.lt)
theorem SetAt.grown {w w' : World} {mb n : Nat} {q : ByteArray -> Bool} {row : Option Nat} (h : SetAt w mb n q) (hg : w.grownBy w' row) (hr : row ≠ some mb) : SetAt w' mb n q := h.same (hg.block mb h.lt (fun e => hr e.symm))
theorem SetAt.made (w : World) : SetAt (w.alloc (.map #[] 0)) w.heap.size 0 (fun _ => false) := ⟨.map [], World.ownsMap_made _ _ _ _, fun _ => rfl⟩
theorem SetAt.mono {w : World} {mb n n' : Nat} {q : ByteArray -> Bool} (h : SetAt w mb n q) (hn : n <= n') : SetAt w mb n' q := by
 obtain ⟨D, h1, h2⟩ := h
 exact ⟨D, h1.mono hn, h2⟩
theorem SetAt.as {w : World} {mb n : Nat} {q q' : ByteArray -> Bool} (h : SetAt w mb n q) (e : ∀ s, q s = q' s) : SetAt w mb n q' := by
 obtain ⟨D, h1, h2⟩ := h
 exact ⟨D, h1, fun s => (h2 s).trans (e s)⟩
section
variable {α : Type} [Inhabited α] {R : Rep α} {k : Nat}
theorem Row.ne_set {A : Where} {w0 u : World} {e : TypeId} {v : Value} {L : List α} (h : Row R k A w0 u e v L) {mb n : Nat} {q : ByteArray -> Bool} (hs : SetAt u mb n q) : v.ownBlock ≠ some mb := by
 intro hv
 obtain ⟨xs, ⟨_, _, h2⟩, _⟩ := h
 obtain ⟨D, ⟨es, ck, h3, _⟩, _⟩ := hs
 rcases h2 with ⟨rfl, _⟩ | ⟨g, cap, cur, rfl, _, hg, _⟩
 ·simp [Value.ownBlock] at hv
 ·have e : g = mb := by simpa [Value.ownBlock] using hv
  subst e
  rw [hg] at h3
  cases h3
end
section
variable {ops : Array Oper} {rest : List Oper} {o : Oper} {a : Act} {Q : Exit -> Act -> World -> Prop} {w : World}
theorem zAZ (hg : o.guard = none) (m x : Operand) (t : TypeId) (hop : o.op = Op.lookup t m x true) (ht : Tryz.prog.underlying t = some (.map 9 146)) (mb n : Nat) (q : ByteArray -> Bool) (s : ByteArray) (hsz : s.size <= 140737488355328)
  (hm : a.eval m = .map (some mb)) (hown : SetAt w mb n q) (hx : a.eval x = .string s) (b : Bool) (hq : q s = b) (hK : wpList Tryz.prog ops Q rest (a.put o.dst (.tuple #[.agg #[], .bool b])) w) : wpList Tryz.prog ops Q (o :: rest) a w := by
 subst hq
 obtain ⟨D, h1, h2⟩ := hown
 refine wpList_lookup_own_unit (H := Unit) w hg m x t hop 9 146 lawS ht (zeroU _) mb n D hm h1 _ (kS s) hx (zGm hsz) ?_
 rw [h2]
 exact hK
theorem zCh (hg : o.guard = none) (m x v : Operand) (t : TypeId) (hop : o.op = Op.mapUpdate t m x v) (ht : Tryz.prog.underlying t = some (.map 9 146)) (mb n : Nat) (q : ByteArray -> Bool) (s : ByteArray) (hsz : s.size <= 140737488355328) (hn : n < 140737488355328)
  (hm : a.eval m = .map (some mb)) (hown : SetAt w mb n q) (hx : a.eval x = .string s) (hv : a.eval v = .agg #[])
  (hK : ∀ w', SetAt w' mb (n + 1) (fun t => q t || sEq t s) -> w.grownBy w' (some mb) -> wpList Tryz.prog ops Q rest (a.put o.dst undef) w') : wpList Tryz.prog ops Q (o :: rest) a w := by
 obtain ⟨D, h1, h2⟩ := hown
 refine wpList_mapUpdate_in (H := Unit) w hg m x v t hop 9 146 lawS ht unitElem mb n D hm h1 (by unfold maxLen; omega) _ _ (kS s) hx hv (zGm hsz) _ _ unitElem_mk ?_
 intro w' h3 h4
 refine hK w' ⟨_, h3, fun t => ?_⟩ h4.grown
 by_cases e : t = s
 ·subst e; rw [has_put_same h1.isMap (kS_is _)]; simp [zCQ]
 ·rw [has_put_other (fun h => e (kS_inj h)), h2]; simp [zFZ e]
end
end Go.Proofs.YtnffafjamiffnaaGreat
namespace Go.Proofs.YtnffafjamiffnaaGreat
open Go.RowKit
theorem zE3 : (Tryz.prog.info? 49).map (fun i => (i.zero, i.size, i.bytes)) = some (some (.agg #[.string ⟨#[]⟩, .int .i64 0, .slice none 0 0, .int .i64 0, .int .i64 0, .int .i64 0, .slice none 0 0, .slice none 0 0, .slice none 0 0, .slice none 0 0, .slice none 0 0, .slice none 0 0, .slice none 0 0, .slice none 0 0, .string ⟨#[]⟩, .string ⟨#[]⟩]), 16, 296) := by kernel_rfl
theorem zAM : (Tryz.prog.info? 49).map (·.size) = some 16 := by kernel_rfl
def insB {α : Type} (lt eq : α -> α -> Bool) : List α -> α -> List α
 | [], s => [s]
 | x :: xs, s => if lt x s = true then x :: insB lt eq xs s else if eq x s = true then x :: xs else s :: x :: xs
def sortB {α : Type} (lt eq : α -> α -> Bool) (L : List α) : List α := L.foldl (insB lt eq) []
def iLt (a b : Int) : Bool := decide (a < b)
theorem zGo {α : Type} (lt eq : α -> α -> Bool) (s : α) : ∀ L : List α, (insB lt eq L s).length <= L.length + 1
 | [] => by simp [insB]
 | x :: xs => by
  have := zGo lt eq s xs
  unfold insB
  split
  ·simp; omega
  ·split <;> simp
section
variable {α : Type} [Inhabited α] (lt eq : α -> α -> Bool)
theorem zHO (L : List α) {k : Nat} (hk : k < L.length) : sortB lt eq (L.take (k + 1)) = insB lt eq (sortB lt eq (L.take k)) (L.getD k default) := by
 rw [<- zAo hk]; simp [sortB]
theorem zBE : ∀ (L : List α), (sortB lt eq L).length <= L.length := by
 intro L
 suffices H : ∀ k, k <= L.length -> (sortB lt eq (L.take k)).length <= k by
  have := H L.length (Nat.le_refl _)
  rwa [List.take_of_length_le (Nat.le_refl _)] at this
 intro k
 induction k with
 | zero => intro _; simp [sortB]
 | succ k ih =>
  intro hk
  rw [zHO lt eq L (by omega)]
  have := zGo lt eq (L.getD k default) (sortB lt eq (L.take k))
  have := ih (by omega)
  omega
end
end Go.Proofs.YtnffafjamiffnaaGreat
