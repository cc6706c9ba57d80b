/- Functions of the program, each walked under the conditions that its theorem names. -/
import Derived.Deep.CutBlock
import Derived.BigQuiet
import Derived.Deep.QuietTactic
import Derived.Test.YtnffafjamiffnaaGreatQ10
set_option linter.unusedSimpArgs false
set_option maxRecDepth 100000
set_option maxHeartbeats 32000000
namespace Go.Proofs.YtnffafjamiffnaaGreat
open Go.RowKit
theorem fI_not {l : List ByteArray} {nm : ByteArray} (h : ∀ j, j < l.length -> l.getD j default ≠ nm) : fI l nm = none := by
 cases e : fI l nm with
 | none => rfl
 | some i => obtain ⟨h1, h2, _⟩ := zAD e; exact absurd h2 (h i h1)
abbrev sVs (x : StateD) : List VolumeD := x.2.2.1
abbrev sCs (x : StateD) : List ClaimD := x.2.2.2.1
abbrev sKs (x : StateD) : List ClassD := x.2.2.2.2.1
end Go.Proofs.YtnffafjamiffnaaGreat
namespace Go.Proofs.YtnffafjamiffnaaGreat
theorem tot10 {a b : ByteArray} (h1 : sLt a b = false) (h2 : sLt b a = false) : a = b := by
 rw [zBC] at h1 h2
 rcases zEz a.data.toList b.data.toList with ⟨p, _⟩ | ⟨_, e⟩ | ⟨_, p⟩
 ·exact absurd p h1
 ·cases a; cases b; simpa using e
 ·exact absurd p h2
theorem zAq {v w : VolumeD} : lessV v w = true ↔ v.2.1 < w.2.1 \/ (v.2.1 = w.2.1 /\ sLt v.1 w.1 = true) := by
 unfold lessV
 simp
theorem zCY {u v w : VolumeD} (h1 : lessV u v = true) (h2 : lessV v w = true) : lessV u w = true := by
 rw [zAq] at *
 rcases h1 with h1 | ⟨h1, h1'⟩ <;> rcases h2 with h2 | ⟨h2, h2'⟩
 ·exact .inl (by omega)
 ·exact .inl (by omega)
 ·exact .inl (by omega)
 ·exact .inr ⟨by omega, zFF h1' h2'⟩
theorem lessV_tot {v w : VolumeD} (h1 : lessV v w = false) (h2 : lessV w v = false) : v.1 = w.1 := by
 rw [<- Bool.not_eq_true, zAq] at h1 h2
 simp only [not_or, not_and, Bool.not_eq_true] at h1 h2
 have e : v.2.1 = w.2.1 := by omega
 exact tot10 (h1.2 e) (h2.2 e.symm)
theorem zE6 {fit : VolumeD -> Bool} {V : List VolumeD} : ∀ {k b : Nat}, bestF fit V k = some b -> ∀ j, j < k -> fit (V.getD j default) = true -> lessV (V.getD j default) (V.getD b default) = false
 | 0, b, h, _, _, _ => by cases h
 | k + 1, b, h, j, hj, hf => by
  unfold bestF at h
  by_cases hk : fit (V.getD k default) = true
  ·rw [if_pos hk] at h
   cases e : bestF fit V k with
   | none =>
    rw [e] at h
    simp only [Option.some.injEq] at h
    subst h
    rcases Nat.lt_succ_iff_lt_or_eq.1 hj with h1 | rfl
    ·rw [zCy e j h1] at hf; cases hf
    ·cases hl : lessV (V.getD j default) (V.getD j default) with
     | false => rfl
     | true =>
      rw [zAq] at hl
      rcases hl with hl | ⟨_, hl⟩
      ·omega
      ·rw [zAl, zC7] at hl; omega
   | some a =>
    rw [e] at h
    simp only at h
    have hm := zE6 e
    by_cases hl : lessV (V.getD k default) (V.getD a default) = true
    ·rw [if_pos hl] at h
     simp only [Option.some.injEq] at h
     subst h
     rcases Nat.lt_succ_iff_lt_or_eq.1 hj with h1 | rfl
     ·have h2 := hm j h1 hf
      cases h3 : lessV (V.getD j default) (V.getD k default) with
      | false => rfl
      | true => rw [zCY h3 hl] at h2; cases h2
     ·cases h3 : lessV (V.getD j default) (V.getD j default) with
      | false => rfl
      | true =>
       rw [zAq] at h3
       rcases h3 with h3 | ⟨_, h3⟩
       ·omega
       ·rw [zAl, zC7] at h3; omega
    ·rw [if_neg hl] at h
     simp only [Option.some.injEq] at h
     subst h
     rcases Nat.lt_succ_iff_lt_or_eq.1 hj with h1 | rfl
     ·exact hm j h1 hf
     ·simpa using hl
  ·rw [if_neg hk] at h
   rcases Nat.lt_succ_iff_lt_or_eq.1 hj with h1 | rfl
   ·exact zE6 h j h1 hf
   ·exact absurd hf hk
def hadV (NL : List Lab) (v : VolumeD) : Bool := sEq (vCl v) B0 && matchL NL (vRq v)
def leftP (NL : List Lab) (V : List VolumeD) (picked : List ByteArray) : List VolumeD := V.filter (fun v => hadV NL v && !hasB sEq picked v.1)
def suitP (c : ClaimD) (v : VolumeD) : Bool := sEq v.2.2.1 c.2.2.1 && decide (c.2.1 <= v.2.1)
def suitI (c : ClaimD) (L : List VolumeD) (k : Nat) : List Nat := (List.range k).filter (fun i => suitP c (L.getD i default))
def minT (lt : Nat -> Nat -> Bool) (l : List Nat) : Nat -> Nat
 | 0 => l.getD 0 default
 | k + 1 => if lt (l.getD (k + 1) default) (minT lt l k) = true then l.getD (k + 1) default else minT lt l k
abbrev ltAt (L : List VolumeD) (a b : Nat) : Bool := lessV (L.getD a default) (L.getD b default)
theorem zE2 {lt : Nat -> Nat -> Bool} {l : List Nat} : ∀ {k : Nat}, k < l.length -> minT lt l k ∈ l
 | 0, h => by
  unfold minT
  rw [List.getD_eq_getElem?_getD, List.getElem?_eq_getElem h]
  exact List.getElem_mem h
 | k + 1, h => by
  unfold minT
  split
  ·rw [List.getD_eq_getElem?_getD, List.getElem?_eq_getElem h]
   exact List.getElem_mem h
  ·exact zE2 (by omega)
theorem zEf (v : VolumeD) : lessV v v = false := by
 cases h : lessV v v with
 | false => rfl
 | true =>
  rw [zAq] at h
  rcases h with h | ⟨_, h⟩
  ·omega
  ·rw [zAl, zC7] at h; omega
theorem zET {L : List VolumeD} {l : List Nat} : ∀ {k : Nat}, ∀ j, j <= k -> ltAt L (l.getD j default) (minT (ltAt L) l k) = false
 | 0, j, hj => by
  obtain rfl : j = 0 := by omega
  exact zEf _
 | k + 1, j, hj => by
  unfold minT
  split
  ·rename_i hl
   rcases Nat.lt_or_ge j (k + 1) with h1 | h1
   ·have h2 := zET (L := L) (l := l) (k := k) j (by omega)
    cases h3 : ltAt L (l.getD j default) (l.getD (k + 1) default) with
    | false => rfl
    | true => rw [show ltAt L (l.getD j default) (minT (ltAt L) l k) = true from zCY h3 hl] at h2; cases h2
   ·obtain rfl : j = k + 1 := by omega
    exact zEf _
  ·rename_i hl
   rcases Nat.lt_or_ge j (k + 1) with h1 | h1
   ·exact zET j (by omega)
   ·obtain rfl : j = k + 1 := by omega
    simpa using hl
theorem zBk {c : ClaimD} {L : List VolumeD} {k i : Nat} : i ∈ suitI c L k ↔ i < k /\ suitP c (L.getD i default) = true := by
 unfold suitI
 rw [List.mem_filter, List.mem_range]
theorem zCR (c : ClaimD) (NL : List Lab) (picked : List ByteArray) (v : VolumeD) : fitV c NL picked v = ((hadV NL v && !hasB sEq picked v.1) && suitP c v) := by
 unfold fitV hadV suitP
 have : (!decide (v.2.1 < c.2.1)) = decide (c.2.1 <= v.2.1) := by
  by_cases h : v.2.1 < c.2.1 <;> simp [h] <;> omega
 rw [this]
 cases sEq (vCl v) B0 <;> cases hasB sEq picked v.1 <;> cases sEq v.2.2.1 c.2.2.1 <;> cases decide (c.2.1 <= v.2.1) <;> cases matchL NL (vRq v) <;> rfl
theorem zAh {α : Type} [Inhabited α] {l : List α} {i : Nat} (h : i < l.length) : l.getD i default ∈ l := by
 rw [List.getD_eq_getElem?_getD, List.getElem?_eq_getElem h]
 exact List.getElem_mem h
theorem zAu {α : Type} [Inhabited α] {l : List α} {x : α} (h : x ∈ l) : ∃ i, i < l.length /\ l.getD i default = x := by
 obtain ⟨i, h1, h2⟩ := List.mem_iff_getElem.1 h
 exact ⟨i, h1, by rw [List.getD_eq_getElem?_getD, List.getElem?_eq_getElem h1]; exact h2⟩
theorem pick_none {c : ClaimD} {NL : List Lab} {V : List VolumeD} {picked : List ByteArray} (h : suitI c (leftP NL V picked) (leftP NL V picked).length = []) : bestP c NL V picked = none := by
 cases e : bestP c NL V picked with
 | none => rfl
 | some j =>
  exfalso
  obtain ⟨h1, h2⟩ := zC2 e
  rw [zCR, Bool.and_eq_true] at h2
  have hm : V.getD j default ∈ leftP NL V picked := List.mem_filter.2 ⟨zAh h1, h2.1⟩
  obtain ⟨i, i1, i2⟩ := zAu hm
  have : i ∈ suitI c (leftP NL V picked) (leftP NL V picked).length := zBk.2 ⟨i1, by rw [i2]; exact h2.2⟩
  rw [h] at this
  cases this
theorem pick_some {c : ClaimD} {NL : List Lab} {V : List VolumeD} {picked : List ByteArray} {l : List Nat} (hl : suitI c (leftP NL V picked) (leftP NL V picked).length = l) (hne : 0 < l.length) {at' : Nat} (ha : at' = minT (ltAt (leftP NL V picked)) l (l.length - 1)) :
  at' < (leftP NL V picked).length /\ ∃ j, bestP c NL V picked = some j /\ (V.getD j default).1 = ((leftP NL V picked).getD at' default).1 := by
 have hin : at' ∈ l := by rw [ha]; exact zE2 (by omega)
 have hin' := hin
 rw [<- hl, zBk] at hin'
 obtain ⟨h1, h2⟩ := hin'
 refine ⟨h1, ?_⟩
 have hm := zAh h1
 obtain ⟨m1, m2⟩ := List.mem_filter.1 hm
 obtain ⟨jm, jm1, jm2⟩ := zAu m1
 cases e : bestP c NL V picked with
 | none =>
  exfalso
  have := zCy e jm jm1
  rw [jm2, zCR, m2, h2] at this
  cases this
 | some j =>
  refine ⟨j, rfl, ?_⟩
  obtain ⟨b1, b2⟩ := zC2 e
  have x1 : lessV ((leftP NL V picked).getD at' default) (V.getD j default) = false := by
   have := zE6 e jm jm1 (by rw [jm2, zCR, m2, h2]; rfl)
   rwa [jm2] at this
  have x2 : lessV (V.getD j default) ((leftP NL V picked).getD at' default) = false := by
   rw [zCR, Bool.and_eq_true] at b2
   have hm2 : V.getD j default ∈ leftP NL V picked := List.mem_filter.2 ⟨zAh b1, b2.1⟩
   obtain ⟨i, i1, i2⟩ := zAu hm2
   have hil : i ∈ l := by rw [<- hl]; exact zBk.2 ⟨i1, by rw [i2]; exact b2.2⟩
   obtain ⟨q, q1, q2⟩ := zAu hil
   have := zET (L := leftP NL V picked) (l := l) (k := l.length - 1) q (by omega)
   rw [q2, <- ha] at this
   rw [<- i2]
   exact this
  exact lessV_tot x2 x1
theorem zFL {L : List VolumeD} (hn : (vNs L).Nodup) : ∀ {k : Nat}, k < L.length -> L.eraseIdx k = L.filter (fun v => !sEq (L.getD k default).1 v.1) := by
 induction L with
 | nil => intro k h; simp at h
 | cons a L ih =>
  intro k h
  rw [show vNs (a :: L) = a.1 :: vNs L from rfl, List.nodup_cons] at hn
  cases k with
  | zero =>
   rw [List.eraseIdx_cons_zero, List.getD_cons_zero, List.filter_cons]
   rw [(zA7 a.1 a.1).2 rfl]
   simp only [Bool.not_true, Bool.false_eq_true, if_false]
   symm
   rw [List.filter_eq_self]
   intro v hv
   rw [Bool.not_eq_true', sEq_ne9]
   exact fun e => hn.1 (e ▸ List.mem_map.2 ⟨v, hv, rfl⟩)
  | succ k =>
   have h' : k < L.length := by simpa using h
   rw [List.eraseIdx_cons_succ, List.getD_cons_succ, List.filter_cons, ih hn.2 h']
   have : sEq (L.getD k default).1 a.1 = false := by
    rw [sEq_ne9]
    exact fun e => hn.1 (e ▸ List.mem_map.2 ⟨_, zAh h', rfl⟩)
   rw [this]
   rfl
theorem zHe {NL : List Lab} {V : List VolumeD} (hn : (vNs V).Nodup) {picked : List ByteArray} {k : Nat} (h : k < (leftP NL V picked).length) :
  (leftP NL V picked).eraseIdx k = leftP NL V (picked ++ [((leftP NL V picked).getD k default).1]) := by
 have hs : (vNs (leftP NL V picked)).Nodup := List.Nodup.sublist (List.Sublist.map _ List.filter_sublist) hn
 rw [zFL hs h]
 generalize ((leftP NL V picked).getD k default).1 = s
 unfold leftP
 rw [List.filter_filter]
 congr 1
 funext v
 unfold hasB
 rw [List.any_append]
 simp only [List.any_cons, List.any_nil, Bool.or_false, Bool.not_or]
 cases hadV NL v <;> cases picked.any (fun w => sEq w v.1) <;> cases sEq s v.1 <;> rfl
end Go.Proofs.YtnffafjamiffnaaGreat
namespace Go.Proofs.YtnffafjamiffnaaGreat
open Go.RowKit
structure OfSt (w X u : World) (N Z Q : List Value) (s6 s7 s8 : Value) (A6 : List ByteArray) (A7 : List Int) (A8 : List ByteArray) : Prop where
 b : PB w X N Z Q
 r6 : Row RStr 1 (fun _ => False) X u 9 s6 A6
 r7 : Row RInt 1 (fun _ => False) X u 3 s7 A7
 r8 : Row RStr 1 (fun _ => False) X u 9 s8 A8
 d67 : ∀ b, s6.ownBlock = some b -> s7.ownBlock ≠ some b
 d68 : ∀ b, s6.ownBlock = some b -> s8.ownBlock ≠ some b
 d78 : ∀ b, s7.ownBlock = some b -> s8.ownBlock ≠ some b
section
variable {w X u : World} {N Z Q : List Value} {s6 s7 s8 : Value} {A6 : List ByteArray} {A7 : List Int} {A8 : List ByteArray}
theorem OfSt.on (h : OfSt w X u N Z Q s6 s7 s8 A6 A7 A8) {u' : World} (hb : Below u.heap.size u u') : OfSt w X u' N Z Q s6 s7 s8 A6 A7 A8 :=
 ⟨h.b, h.r6.on RStr.firm hb, h.r7.on RInt.firm hb, h.r8.on RStr.firm hb, h.d67, h.d68, h.d78⟩
theorem OfSt.box (h : OfSt w X u N Z Q s6 s7 s8 A6 A7 A8) : PB w u N Z Q := h.b.on h.r6.below
theorem OfSt.app6 (h : OfSt w X u N Z Q s6 s7 s8 A6 A7 A8) {u' : World} {v : Value} {B : List ByteArray} (hr : Row RStr 1 (fun _ => False) X u' 9 v B) (hg : u.grownBy u' s6.ownBlock) (hp : v.ownBlock = s6.ownBlock \/ v.ownBlock = some u.heap.size) : OfSt w X u' N Z Q v s7 s8 B A7 A8 := by
 refine ⟨h.b, hr, h.r7.grown RInt.firm hg (fun b hb => ⟨(h.r6.lt hb).1, h.d67 b hb, id⟩), h.r8.grown RStr.firm hg (fun b hb => ⟨(h.r6.lt hb).1, h.d68 b hb, id⟩), fun b hb => ?_, fun b hb => ?_, h.d78⟩
 ·rcases hp with hp | hp
  ·exact h.d67 b (hp ▸ hb)
  ·intro h7; have := (h.r7.lt h7).2; rw [hp] at hb; injection hb with hb; omega
 ·rcases hp with hp | hp
  ·exact h.d68 b (hp ▸ hb)
  ·intro h7; have := (h.r8.lt h7).2; rw [hp] at hb; injection hb with hb; omega
theorem OfSt.app7 (h : OfSt w X u N Z Q s6 s7 s8 A6 A7 A8) {u' : World} {v : Value} {B : List Int} (hr : Row RInt 1 (fun _ => False) X u' 3 v B) (hg : u.grownBy u' s7.ownBlock) (hp : v.ownBlock = s7.ownBlock \/ v.ownBlock = some u.heap.size) : OfSt w X u' N Z Q s6 v s8 A6 B A8 := by
 refine ⟨h.b, h.r6.grown RStr.firm hg (fun b hb => ⟨(h.r7.lt hb).1, fun e => h.d67 b e hb, id⟩), hr, h.r8.grown RStr.firm hg (fun b hb => ⟨(h.r7.lt hb).1, h.d78 b hb, id⟩), fun b hb h7 => ?_, h.d68, fun b hb => ?_⟩
 ·rcases hp with hp | hp
  ·exact h.d67 b hb (hp ▸ h7)
  ·have := (h.r6.lt hb).2; rw [hp] at h7; injection h7 with h7; omega
 ·rcases hp with hp | hp
  ·exact h.d78 b (hp ▸ hb)
  ·intro h7; have := (h.r8.lt h7).2; rw [hp] at hb; injection hb with hb; omega
theorem OfSt.app8 (h : OfSt w X u N Z Q s6 s7 s8 A6 A7 A8) {u' : World} {v : Value} {B : List ByteArray} (hr : Row RStr 1 (fun _ => False) X u' 9 v B) (hg : u.grownBy u' s8.ownBlock) (hp : v.ownBlock = s8.ownBlock \/ v.ownBlock = some u.heap.size) : OfSt w X u' N Z Q s6 s7 v A6 A7 B := by
 refine ⟨h.b, h.r6.grown RStr.firm hg (fun b hb => ⟨(h.r8.lt hb).1, fun e => h.d68 b e hb, id⟩), h.r7.grown RInt.firm hg (fun b hb => ⟨(h.r8.lt hb).1, fun e => h.d78 b e hb, id⟩), hr, h.d67, fun b hb h7 => ?_, fun b hb h7 => ?_⟩
 ·rcases hp with hp | hp
  ·exact h.d68 b hb (hp ▸ h7)
  ·have := (h.r6.lt hb).2; rw [hp] at h7; injection h7 with h7; omega
 ·rcases hp with hp | hp
  ·exact h.d78 b hb (hp ▸ h7)
  ·have := (h.r7.lt hb).2; rw [hp] at h7; injection h7 with h7; omega
theorem OfSt.set (h : OfSt w X u N Z Q s6 s7 s8 A6 A7 A8) (i : Nat) (v : Value) (hi : i < Q.length) : OfSt w (X.setCell ⟨w.heap.size + 1 + 1, i, none⟩ v) (u.setCell ⟨w.heap.size + 1 + 1, i, none⟩ v) N Z (Q.set i v) s6 s7 s8 A6 A7 A8 :=
 ⟨h.b.set i v hi, h.r6.both RStr.firm h.b.sz id v, h.r7.both RInt.firm h.b.sz id v, h.r8.both RStr.firm h.b.sz id v, h.d67, h.d68, h.d78⟩
end
def Thr (u : World) (a : Option Addr) (n : Nat) : Prop := ∀ B off, a = some ⟨B, off, none⟩ -> u.there B off n
theorem Thr.on {u u' : World} {a : Option Addr} {n : Nat} (h : Thr u a n) (hb : Below u.heap.size u u') : Thr u' a n := fun B off e j hj => by
 have h1 := h B off e j hj
 obtain ⟨v, hv⟩ := Option.isSome_iff_exists.1 h1.1
 have hB : B < u.heap.size := World.block_lt_of_cell? u ⟨B, off + j, none⟩ hv
 rw [hb.cell (p := ⟨B, off + j, none⟩) hB, hb.frozen (p := ⟨B, off + j, none⟩) hB]
 exact h1
theorem Row.thr {α : Type} [Inhabited α] {R : Rep α} {A : Where} {w0 u : World} {e : TypeId} {a : Option Addr} {n c : Nat} {L : List α} (h : Row R 1 A w0 u e (.slice a n c) L) : Thr u a n := by
 obtain ⟨xs, h1, _⟩ := h
 intro B off ea j hj
 rcases h1.2.2 with ⟨e1, _⟩ | ⟨g, cap, cur, e1, _, hg, hnc, _, hcs, _⟩
 ·injection e1 with e1 e2; subst e2; omega
 ·injection e1 with e1 e2 e3
  subst e2 e3
  rw [e1] at ea
  injection ea with ea
  injection ea with ea eo
  subst ea eo
  have hl : j < cur.size := by rw [hcs]; omega
  simp [World.cell?, World.frozen?, hg, hl]
theorem zBF (u : World) (n : Nat) : Below u.heap.size u (u.drewN n) := ⟨rfl, rfl, rfl, Nat.le_refl _, fun _ _ => rfl⟩
theorem isE9 (a : ByteArray) : a.toList.isEmpty = sEq a B0 := by
 unfold sEq
 rw [show (B0 : ByteArray).toList = [] by rw [ByteArray.toList_eq]]
 cases a.toList <;> rfl
theorem zG0 (a : Option Addr) (cap : Nat) (L : List Lab) (key : ByteArray) (op : Int) (b : Option Addr) (cap' : Nat) (V : List ByteArray) (w : World) (hL : Hid (LabsAt w a L)) (hV : Hid (StrsAt w b V)) : Calls Tryz.prog 194 #[.slice a L.length cap, .agg #[.string key, .int .i64 op, .slice b V.length cap']] w fun e w' => e = .returned (.bool (meetsL L ⟨key, op, V⟩)) /\ Below w.heap.size w w' := by
 rcases op_paths op with rfl | rfl | rfl | rfl | rfl | rfl | ⟨h1, h2, h3, h4, h5, h6⟩
 ·exact Meets_in a cap L key b cap' V w hL hV
 ·exact zGD a cap L key b cap' V w hL hV
 ·exact zF2 a cap L key b cap' V w hL hV
 ·exact zFp a cap L key b cap' V w hL hV
 ·exact zGE a cap L key b cap' V w hL hV
 ·exact zG4 a cap L key b cap' V w hL hV
 ·exact zG2 a cap L key op b cap' V w hL hV h1 h2 h3 h4 h5 h6
theorem zFz (a : Option Addr) (cap : Nat) (L : List Lab) (b : Option Addr) (cap' : Nat) (R : List Ask) (w : World) (hL : Hid (LabsAt w a L)) (hR : Hid (AsksAt w b R)) : Calls Tryz.prog 162 #[.slice a L.length cap, .slice b R.length cap'] w fun e w' => e = .returned (.bool (matchL L R)) /\ Below w.heap.size w w' := by
 have hlen := hR.out.1
 go_enter Tryz.func162, Tryz.ntmps162
 go_wp2
 go_loopw [9] (fun i wr => ∃ k : Nat, k <= R.length /\ i = .int .i64 k /\ Below w.heap.size w wr /\ Hid (∀ j, j < k -> meetsL L (R.getD j default) = true)) (fun i _ => R.length - (intOf i).toNat)
 case atStart => exact ⟨0, Nat.zero_le _, rfl, Below.refl _ _, fun j hj => absurd hj (Nat.not_lt_zero _)⟩
 case round =>
  obtain ⟨k, hk, rfl, hbel, hall⟩ := hrel
  by_cases hlt : k < R.length
  ·obtain ⟨B, off, rfl, hB, c0, c1, ⟨a', capv, c2, hv⟩, s0⟩ := hR.out.get hlt
   have d0 := (hbel.cell (p := ⟨B, off + k * 3, none⟩) hB).trans c0
   have d1 := (hbel.cell (p := ⟨B, off + k * 3 + 1, none⟩) hB).trans c1
   have d2 := (hbel.cell (p := ⟨B, off + k * 3 + 2, none⟩) hB).trans c2
   have HM : Hid (∀ u, Below wr.heap.size wr u -> Calls Tryz.prog 194 #[.slice a L.length cap, .agg #[.string (R.getD k default).key, .int .i64 (R.getD k default).op, .slice a' (R.getD k default).vals.length capv]] u fun e w' => e = .returned (.bool (meetsL L (R.getD k default))) /\ Below u.heap.size u w') :=
    fun u hu => zG0 a cap L _ _ a' capv _ u (hL.out.on (on2 hbel hu)) (hv.on (on2 hbel hu))
   clear c0 c1 c2 hv
   cases hm : meetsL L (R.getD k default)
   ·have HF : Hid (matchL L R = false) := zD4 hlt hm
    rw [hm] at HM
    clear hm hall
    generalize R.getD k default = r at d0 d1 d2 s0 HM
    go_wp2_with fail
    refine (HM.out _ (by go_grown)).mono ?_
    rintro e w1 ⟨rfl, hb⟩
    have hb' := on2 hbel (on2 (by go_grown) hb)
    clear HM d0 d1 d2
    go_wp2_with fail
    go_ret
    exact ⟨zDL HF.out.symm, hb'⟩
   ·have HG : Hid (∀ j, j < k + 1 -> meetsL L (R.getD j default) = true) := fun j hj => by
     rcases Nat.lt_succ_iff_lt_or_eq.1 hj with h | rfl
     ·exact hall.out j h
     ·exact hm
    rw [hm] at HM
    clear hm hall
    generalize R.getD k default = r at d0 d1 d2 s0 HM
    go_wp2_with fail
    refine (HM.out _ (by go_grown)).mono ?_
    rintro e w1 ⟨rfl, hb⟩
    have hb' := on2 hbel (on2 (by go_grown) hb)
    clear HM d0 d1 d2
    go_wp2_with fail
    go_roundw
    case rel => exact ⟨k + 1, by omega, by go_num, hb', HG⟩
    case measure => simp [intOf]; omega
  ·have HF : Hid (matchL L R = true) := zDh (fun j hj => hall.out j (by omega))
   go_wp2
   go_ret
   exact ⟨zDL HF.out.symm, hbel⟩
theorem zFx {α : Type} [Inhabited α] (p : α -> Bool) (L : List α) {k : Nat} (hk : k < L.length) : (L.take (k + 1)).filter p = (L.take k).filter p ++ (if p (L.getD k default) = true then [L.getD k default] else []) := by
 rw [<- zAo hk, List.filter_append]
 congr 1
 simp only [List.filter_cons, List.filter_nil]
theorem strs_of {A : Where} {w : World} {a : Option Addr} {n cap : Nat} {L : List ByteArray} (h : SlAt RStr 1 16 A w a n cap L) : StrsAt w a L := by
 have hl := h.len (by decide)
 obtain ⟨hn, h2, h3, h4, h5⟩ := h
 refine ⟨by omega, fun x hx => ?_, fun hne => ?_⟩
 ·obtain ⟨i, hi, rfl⟩ := List.mem_iff_getElem.1 hx
  obtain ⟨B, off, _, _, _, hc⟩ := h5 (by omega)
  obtain ⟨cs, hr, _⟩ := hc i (by omega)
  have := hr.2
  rwa [zB5 _ _ hi] at this
 ·have hpos : 0 < n := by have := List.length_pos_iff.2 hne; omega
  obtain ⟨B, off, e, hB, _, hc⟩ := h5 hpos
  refine ⟨B, off, e, hB, fun i hi => ?_⟩
  obtain ⟨cs, ⟨rfl, _⟩, hv⟩ := hc i (by omega)
  have := hv 0 _ rfl
  simpa using this
theorem zDy {A : Where} {w : World} {a : Option Addr} {n cap : Nat} {L : List Lab} (h : SlAt RLabel 2 32 A w a n cap L) : LabsAt w a L := by
 have hl := h.len (by decide)
 obtain ⟨hn, h2, h3, h4, h5⟩ := h
 refine ⟨by omega, fun x hx => ?_, fun hne => ?_⟩
 ·obtain ⟨i, hi, rfl⟩ := List.mem_iff_getElem.1 hx
  obtain ⟨B, off, _, _, _, hc⟩ := h5 (by omega)
  obtain ⟨cs, hr, _⟩ := hc i (by omega)
  have := hr.out.2
  rwa [zB5 _ _ hi] at this
 ·have hpos : 0 < n := by have := List.length_pos_iff.2 hne; omega
  obtain ⟨B, off, e, hB, _, hc⟩ := h5 hpos
  refine ⟨B, off, e, hB, fun i hi => ?_⟩
  obtain ⟨cs, hr, hv⟩ := hc i (by omega)
  obtain ⟨rfl, _⟩ := hr.out
  exact ⟨hv 0 _ rfl, hv 1 _ rfl⟩
theorem asks_of {A : Where} {w : World} {a : Option Addr} {n cap : Nat} {L : List Ask} (h : SlAt RReq 3 48 A w a n cap L) : AsksAt w a L := by
 have hl := h.len (by decide)
 obtain ⟨hn, h2, h3, h4, h5⟩ := h
 refine ⟨by omega, fun x hx => ?_, fun hne => ?_⟩
 ·obtain ⟨i, hi, rfl⟩ := List.mem_iff_getElem.1 hx
  obtain ⟨B, off, _, _, _, hc⟩ := h5 (by omega)
  obtain ⟨cs, hr, _⟩ := hc i (by omega)
  obtain ⟨_, _, this, _⟩ := hr.out
  rwa [zB5 _ _ hi] at this
 ·have hpos : 0 < n := by have := List.length_pos_iff.2 hne; omega
  obtain ⟨B, off, e, hB, _, hc⟩ := h5 hpos
  refine ⟨B, off, e, hB, fun i hi => ?_⟩
  obtain ⟨cs, hr, hv⟩ := hc i (by omega)
  obtain ⟨hd, rfl, _, hs⟩ := hr.out
  refine ⟨hv 0 _ rfl, hv 1 _ rfl, hd.1, hd.2.2, ?_, strs_of hs⟩
  have := hv 2 _ rfl
  rw [<- hs.1] at this
  exact this
theorem zB3 (a : Option Addr) (n cap : Nat) (A : Where) (L : List Lab) (b : Option Addr) (m capb : Nat) (A' : Where) (R : List Ask) (w : World) (hL : Hid (SlAt RLabel 2 32 A w a n cap L)) (hR : Hid (SlAt RReq 3 48 A' w b m capb R)) : Calls Tryz.prog 162 #[.slice a n cap, .slice b m capb] w fun e w' => e = .returned (.bool (matchL L R)) /\ Below w.heap.size w w' := by
 have h := zFz a cap L b capb R w (zDy hL.out) (asks_of hR.out)
 rw [hL.out.1, hR.out.1] at h
 exact h
theorem Kept_sl (a : Option Addr) (n cap : Nat) (A : Where) (L : List Tnt) (b : Option Addr) (m capb : Nat) (A' : Where) (R : List Bear) (w : World) (hL : Hid (SlAt RTaint 3 40 A w a n cap L)) (hR : Hid (SlAt RBear 4 48 A' w b m capb R)) : Calls Tryz.prog 192 #[.slice a n cap, .slice b m capb] w fun e w' => e = .returned (.tuple #[.agg #[.string (keptT L R).1.1, .string (keptT L R).1.2.1, .int .i64 (keptT L R).1.2.2], .bool (keptT L R).2]) /\ Below w.heap.size w w' := by
 have h := zH0 a cap L b capb R w (tnts_of hL.out) (bears_of hR.out)
 rw [hL.out.1, hR.out.1] at h
 exact h
theorem zHY (cs : List Value) (A : Where) (x : InfoD) (w : World) (h : Hid (RInfo A w cs x)) : Calls Tryz.prog 151 #[.agg cs.toArray] w fun e w' => e = .returned (.agg #[.int .i64 (freeP x).1, .int .i64 (freeP x).2.1, .int .i64 (freeP x).2.2]) /\ Below w.heap.size w w' := by
 obtain ⟨⟨nn, nl, nt, no, ⟨ga, gb, gc⟩, np, nd⟩, nms, ⟨ua, ub, uc⟩, pts, dks⟩ := x
 obtain ⟨⟨a1, n1, m1⟩, ⟨a2, n2, m2⟩, ⟨a9, n9, m9⟩, ⟨a13, n13, m13⟩, ⟨a14, n14, m14⟩, rfl, _⟩ := h.out.out
 simp only [freeP, minusR]
 clear h
 obtain ⟨W2, hW2⟩ : ∃ W2, W2 = (w.alloc (.cells #[.string nn, .slice a1 n1 m1, .slice a2 n2 m2, .bool no, .int .i64 ga, .int .i64 gb, .int .i64 gc, .int .i64 np, .int .i64 nd, .slice a9 n9 m9, .int .i64 ua, .int .i64 ub, .int .i64 uc, .slice a13 n13 m13, .slice a14 n14 m14] 63)).alloc (.cells #[.int .i64 0, .int .i64 0, .int .i64 0] 41) := ⟨_, rfl⟩
 have B2 : PB2 w W2 [.string nn, .slice a1 n1 m1, .slice a2 n2 m2, .bool no, .int .i64 ga, .int .i64 gb, .int .i64 gc, .int .i64 np, .int .i64 nd, .slice a9 n9 m9, .int .i64 ua, .int .i64 ub, .int .i64 uc, .slice a13 n13 m13, .slice a14 n14 m14] [.int .i64 0, .int .i64 0, .int .i64 0] := by
  rw [hW2]
  refine ⟨(BoxL.new w 63 [.string nn, .slice a1 n1 m1, .slice a2 n2 m2, .bool no, .int .i64 ga, .int .i64 gb, .int .i64 gc, .int .i64 np, .int .i64 nd, .slice a9 n9 m9, .int .i64 ua, .int .i64 ub, .int .i64 uc, .slice a13 n13 m13, .slice a14 n14 m14]).on ((Below.refl _ _).alloc (Nat.le_refl _) _), ?_, by go_grown⟩
  have := BoxL.new (w.alloc (.cells #[.string nn, .slice a1 n1 m1, .slice a2 n2 m2, .bool no, .int .i64 ga, .int .i64 gb, .int .i64 gc, .int .i64 np, .int .i64 nd, .slice a9 n9 m9, .int .i64 ua, .int .i64 ub, .int .i64 uc, .slice a13 n13 m13, .slice a14 n14 m14] 63)) 41 [.int .i64 0, .int .i64 0, .int .i64 0]
  simpa using this
 have HB2 : Hid (PB2 w W2 [.string nn, .slice a1 n1 m1, .slice a2 n2 m2, .bool no, .int .i64 ga, .int .i64 gb, .int .i64 gc, .int .i64 np, .int .i64 nd, .slice a9 n9 m9, .int .i64 ua, .int .i64 ub, .int .i64 uc, .slice a13 n13 m13, .slice a14 n14 m14] [.int .i64 0, .int .i64 0, .int .i64 0]) := B2
 clear B2
 go_enter Tryz.func151, Tryz.ntmps151
 go_wp2_with fail
 rw [<- hW2]
 clear hW2
 refine (zFk ga gb gc ua ub uc W2).mono ?_
 rintro e w3 ⟨rfl, hb3⟩
 have C := HB2.out.on hb3
 obtain ⟨z0, f0⟩ := C.y.2 0 _ rfl
 obtain ⟨z1, f1⟩ := C.y.2 1 _ rfl
 obtain ⟨z2, f2⟩ := C.y.2 2 _ rfl
 have hb : Hid (Below w.heap.size w w3) := C.b
 clear C HB2 hb3
 go_wp2_with fail
 refine bodyPost_ret (v := .agg #[.int .i64 (subI ga ua), .int .i64 (subI gb ub), .int .i64 (subI gc uc)]) (by simp [results, Tryz.results151, go_sem, z0, z1, z2]) rfl ⟨rfl, ?_⟩
 exact ((hb.out.setCell (by simp) _).setCell (by simp) _).setCell (by simp) _
theorem clashFn (D : Nat) (a : Option Addr) (n cap : Nat) (A : Where) (V : List Int) (p : Int) (w : World) (hc : w.cell? ⟨D, 13, none⟩ = some (.slice a n cap)) (hV : Hid (SlAt RInt 1 8 A w a n cap V)) : Calls Tryz.prog 214 (#[.int .i64 p] ++ #[.pointer (some ⟨D, 0, none⟩)]) w fun e w' => e = .returned (.bool (hasB iEq V p)) /\ Below w.heap.size w w' := by
 show Calls Tryz.prog 214 #[.int .i64 p, .pointer (some ⟨D, 0, none⟩)] w _
 go_enter Tryz.func214, Tryz.ntmps214
 go_wp2_with fail
 refine (ContainsI a n cap A V p w hV).mono ?_
 rintro e w1 ⟨rfl, rfl⟩
 go_wp2_with fail
 go_ret
 exact ⟨rfl, Below.refl _ _⟩
theorem zGM (cs ds : List Value) (A A' : Where) (x : InfoD) (y : PodD) (w : World) (h : Hid (RInfo A w cs x)) (h' : Hid (RPod A' w ds y)) : Calls Tryz.prog 193 #[.agg cs.toArray, .agg ds.toArray] w fun e w' => e = .returned (.bool (clashP x y)) /\ Below w.heap.size w w' := by
 obtain ⟨⟨nn, nl, nt, no, ⟨ga, gb, gc⟩, np, nd⟩, nms, ⟨ua, ub, uc⟩, pts, dks⟩ := x
 obtain ⟨⟨a1, n1, m1⟩, ⟨a2, n2, m2⟩, ⟨a9, n9, m9⟩, ⟨a13, n13, m13⟩, ⟨a14, n14, m14⟩, rfl, _, _, _, _, s13, _⟩ := h.out.out
 obtain ⟨g2, g6, g7, g8, ⟨b9, l9, k9⟩, g10, g11, g12, g13, rfl, _, _, _, _, _, t9, _⟩ := h'.out.out
 simp only at s13 t9
 have S13 : Hid (SlAt RInt 1 8 A w a13 n13 m13 pts) := s13
 have T9 : Hid (SlAt RInt 1 8 A' w b9 l9 k9 (pPorts y)) := t9
 have hE : Hid (clashP ((nn, nl, nt, no, (ga, gb, gc), np, nd), nms, (ua, ub, uc), pts, dks) y = (pPorts y).any (fun q => hasB iEq pts q)) := rfl
 rw [hE.out]
 generalize hpp : pPorts y = prt at T9
 have hlen := T9.out.len (by decide)
 have hn : Hid (prt.length = l9) := T9.out.1
 clear h h' s13 t9 hE hpp
 obtain ⟨W2, hW2⟩ : ∃ W2, W2 = (w.alloc (.cells #[.string nn, .slice a1 n1 m1, .slice a2 n2 m2, .bool no, .int .i64 ga, .int .i64 gb, .int .i64 gc, .int .i64 np, .int .i64 nd, .slice a9 n9 m9, .int .i64 ua, .int .i64 ub, .int .i64 uc, .slice a13 n13 m13, .slice a14 n14 m14] 63)).alloc (.cells #[.string y.1, .int .i64 y.2.1, .slice g2.1 g2.2.1 g2.2.2, .int .i64 y.2.2.2.1.1, .int .i64 y.2.2.2.1.2.1, .int .i64 y.2.2.2.1.2.2, .slice g6.1 g6.2.1 g6.2.2, .slice g7.1 g7.2.1 g7.2.2, .slice g8.1 g8.2.1 g8.2.2, .slice b9 l9 k9, .slice g10.1 g10.2.1 g10.2.2, .slice g11.1 g11.2.1 g11.2.2, .slice g12.1 g12.2.1 g12.2.2, .slice g13.1 g13.2.1 g13.2.2, .string y.2.2.2.2.2.2.2.2.2.2.2.2.1, .string y.2.2.2.2.2.2.2.2.2.2.2.2.2] 49) := ⟨_, rfl⟩
 have B2 : Hid (PB2 w W2 [.string nn, .slice a1 n1 m1, .slice a2 n2 m2, .bool no, .int .i64 ga, .int .i64 gb, .int .i64 gc, .int .i64 np, .int .i64 nd, .slice a9 n9 m9, .int .i64 ua, .int .i64 ub, .int .i64 uc, .slice a13 n13 m13, .slice a14 n14 m14] [.string y.1, .int .i64 y.2.1, .slice g2.1 g2.2.1 g2.2.2, .int .i64 y.2.2.2.1.1, .int .i64 y.2.2.2.1.2.1, .int .i64 y.2.2.2.1.2.2, .slice g6.1 g6.2.1 g6.2.2, .slice g7.1 g7.2.1 g7.2.2, .slice g8.1 g8.2.1 g8.2.2, .slice b9 l9 k9, .slice g10.1 g10.2.1 g10.2.2, .slice g11.1 g11.2.1 g11.2.2, .slice g12.1 g12.2.1 g12.2.2, .slice g13.1 g13.2.1 g13.2.2, .string y.2.2.2.2.2.2.2.2.2.2.2.2.1, .string y.2.2.2.2.2.2.2.2.2.2.2.2.2]) := by
  rw [hW2]
  refine ⟨(BoxL.new w 63 [.string nn, .slice a1 n1 m1, .slice a2 n2 m2, .bool no, .int .i64 ga, .int .i64 gb, .int .i64 gc, .int .i64 np, .int .i64 nd, .slice a9 n9 m9, .int .i64 ua, .int .i64 ub, .int .i64 uc, .slice a13 n13 m13, .slice a14 n14 m14]).on ((Below.refl _ _).alloc (Nat.le_refl _) _), ?_, by go_grown⟩
  have := BoxL.new (w.alloc (.cells #[.string nn, .slice a1 n1 m1, .slice a2 n2 m2, .bool no, .int .i64 ga, .int .i64 gb, .int .i64 gc, .int .i64 np, .int .i64 nd, .slice a9 n9 m9, .int .i64 ua, .int .i64 ub, .int .i64 uc, .slice a13 n13 m13, .slice a14 n14 m14] 63)) 49 [.string y.1, .int .i64 y.2.1, .slice g2.1 g2.2.1 g2.2.2, .int .i64 y.2.2.2.1.1, .int .i64 y.2.2.2.1.2.1, .int .i64 y.2.2.2.1.2.2, .slice g6.1 g6.2.1 g6.2.2, .slice g7.1 g7.2.1 g7.2.2, .slice g8.1 g8.2.1 g8.2.2, .slice b9 l9 k9, .slice g10.1 g10.2.1 g10.2.2, .slice g11.1 g11.2.1 g11.2.2, .slice g12.1 g12.2.1 g12.2.2, .slice g13.1 g13.2.1 g13.2.2, .string y.2.2.2.2.2.2.2.2.2.2.2.2.1, .string y.2.2.2.2.2.2.2.2.2.2.2.2.2]
  simpa using this
 have HP : Hid (PredI 214 #[.pointer (some ⟨w.heap.size, 0, none⟩)] (fun q => hasB iEq pts q) W2) := fun W p hb => clashFn w.heap.size a13 n13 m13 A pts p W ((B2.out.on hb).p.2 13 _ rfl).1 (S13.out.on RInt.firm (B2.out.on hb).b)
 have eg : ∀ args w, (callFunc 214 args).run Tryz.prog w = .ok (.enter 214 args) w := by intro args w; rfl
 obtain ⟨p9, _⟩ := B2.out.y.2 9 _ rfl
 have hb2 : Hid (Below w.heap.size w W2) := B2.out.b
 rw [hW2] at p9
 have HW : Hid (W2 = _) := hW2
 clear hW2
 go_enter Tryz.func193, Tryz.ntmps193
 go_wp2_with fail
 rw [<- HW.out]
 refine (zE1 b9 l9 k9 A' prt W2 (T9.out.on RInt.firm hb2.out) (fun q => hasB iEq pts q) 214 #[.pointer (some ⟨w.heap.size, 0, none⟩)] eg HP).mono ?_
 rintro e w3 ⟨rfl, hb3⟩
 go_wp2_with fail
 go_ret
 exact ⟨rfl, on2 hb2.out hb3⟩
theorem zE9 : (Tryz.prog.info? 9).map (fun i => (i.zero, i.size, i.bytes)) = some (some (.string ⟨#[]⟩), 1, 16) := by kernel_rfl
theorem want_yes {c : Prop} [Decidable c] {A B : Prop} (h : c) (k : A) : if c then A else B := by rw [if_pos h]; exact k
theorem at_world {K : Act -> World -> Prop} {a : Act} {u W : World} (h : W = u) (k : K a W) : K a u := h ▸ k
theorem zCS {α : Type} [Inhabited α] {L : List α} {k : Nat} (h : k < L.length) : L.take k ++ [L.getD k default] = L.take (k + 1) := by
 rw [List.getD_eq_getElem?_getD, List.getElem?_eq_getElem h]
 simp
theorem vals_le (key : ByteArray) (N : List NodeD) : (valsP key N).length <= N.length := by
 unfold valsP
 rw [List.length_map]
 exact List.length_filter_le _ _
theorem zD3 {A : Where} {w : World} {a : Option Addr} {n cap : Nat} {L : List Lab} (h : SlAt RLabel 2 32 A w a n cap L) (key : ByteArray) : (getL L key).1.size <= 140737488355328 := by
 unfold getL
 split
 ·rename_i x hx
  have hm := List.mem_of_find?_eq_some hx
  obtain ⟨i, hi, rfl⟩ := List.mem_iff_getElem.1 hm
  have hl := h.1
  obtain ⟨B, off, _, _, _, cs, hr, _⟩ := h.get (i := i) (by omega)
  rw [List.getD_eq_getElem?_getD, List.getElem?_eq_getElem hi] at hr
  obtain ⟨_, _, _, _, hz⟩ := hr
  exact hz.2
 ·exact Nat.zero_le _
theorem Get_sl (a : Option Addr) (n cap : Nat) (A : Where) (L : List Lab) (key : ByteArray) (w : World) (hL : Hid (SlAt RLabel 2 32 A w a n cap L)) : Calls Tryz.prog 169 #[.slice a n cap, .string key] w fun e w' => e = .returned (.tuple #[.string (getL L key).1, .bool (getL L key).2]) /\ Below w.heap.size w w' := by
 have h := zAU a cap L key w (zDy hL.out)
 rw [hL.out.1] at h
 exact h
theorem zBL (a : Option Addr) (n cap : Nat) (A : Where) (L : List Lab) (key : ByteArray) (w : World) (hL : Hid (SlAt RLabel 2 32 A w a n cap L)) : Calls Tryz.prog 195 #[.slice a n cap, .string key] w fun e w' => e = .returned (.tuple #[.agg #[.string key, .string (getL L key).1], .bool (getL L key).2]) /\ Below w.heap.size w w' := by
 have HG : Hid (∀ u, Below w.heap.size w u -> Calls Tryz.prog 169 #[.slice a n cap, .string key] u fun e w' => e = .returned (.tuple #[.string (getL L key).1, .bool (getL L key).2]) /\ Below u.heap.size u w') := fun u hb => Get_sl a n cap A L key u (hL.out.on RLabel.firm hb)
 clear hL
 generalize (getL L key).1 = v at HG
 generalize (getL L key).2 = t at HG
 go_enter Tryz.func195, Tryz.ntmps195
 go_wp2_with fail
 refine (HG.out _ (by go_grown)).mono ?_
 rintro e w1 ⟨rfl, hb1⟩
 have hb : Below w.heap.size w w1 := on2 (by go_grown) hb1
 have q := (BoxL.new w 161 [.string ⟨#[]⟩, .string ⟨#[]⟩]).on hb1
 have c0 := q.2 0 _ rfl
 have c1 := q.2 1 _ rfl
 have hlt : w.heap.size < w1.heap.size := q.1
 have q1 := q.set 0 (.string key) (by simp)
 have q2 := q1.set 1 (.string v) (by simp)
 have E0 : Hid _ := ((q1.2 0 (.string key) rfl).1)
 have E1 : Hid _ := ((q2.2 1 (.string v) rfl).1)
 clear q1 q2
 obtain ⟨c0, f0⟩ := c0
 obtain ⟨c1, f1⟩ := c1
 clear HG q hb1
 go_wp2_with fail
 refine bodyPost_ret (v := .tuple #[.agg #[.string key, .string v], .bool t]) (by simp [results, Tryz.results195, go_sem, hlt, E0.out, E1.out, Result.andThen]) rfl ⟨rfl, ?_⟩
 exact (hb.setCell (Nat.le_refl _) _).setCell (Nat.le_refl _) _
abbrev iLabs (i : InfoD) : List Lab := i.1.2.1
theorem RInfo.labs10 {A : Where} {w : World} {cs : List Value} {i : InfoD} (h : RInfo A w cs i) : ∃ h1 h14 : Hd, cs[1]? = some (.slice h1.1 h1.2.1 h1.2.2) /\ cs[8]? = some (.int .i64 i.1.2.2.2.2.2.2) /\ cs[14]? = some (.slice h14.1 h14.2.1 h14.2.2) /\ SlAt RLabel 2 32 A w h1.1 h1.2.1 h1.2.2 (iLabs i) /\ SlAt RStr 1 16 A w h14.1 h14.2.1 h14.2.2 i.2.2.2.2 := by
 obtain ⟨h1, h2, h9, h13, h14, rfl, _, s1, _, _, _, s14⟩ := h.out
 exact ⟨h1, h14, rfl, rfl, rfl, s1, s14⟩
end Go.Proofs.YtnffafjamiffnaaGreat
