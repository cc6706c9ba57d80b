/- What a right taint, and something right to bear, is, as plain functions, and its like. No condition beyond what each says. -/
import Derived.Deep.MidRow
import Derived.Maps.RangeWalk
import Derived.Test.YtfbnnfpnjjjfcaaGreatS03
namespace Go.Proofs.YtfbnnfpnjjjfcaaGreat.Tn
set_option maxHeartbeats 16000000
set_option maxRecDepth 100000
open Tryz Go.RowKit
def twinB (L : List Tnt) (t : Tnt) : Bool := L.any fun x => sEq x.1 t.1 && (x.2.2 == t.2.2)
def effB (e : Int) : Bool := (e == 1) || (e == 2)
def taintOk (x : Tnt) : Bool := wordB x.1 && valB x.2.1 && effB x.2.2
def tOk (L : List Tnt) (i : Nat) : Bool := taintOk (L.getD i default) && !twinB (L.take i) (L.getD i default)
def checkT (L : List Tnt) : Int := if 64 < L.length then 3 else if allTo L.length (tOk L) then 0 else 30
def bearOk (b : Bear) : Bool := (b.2.2.2 == 0 || effB b.2.2.2) && (if b.2.2.1 then valB b.1 && sNil b.2.1 else wordB b.1 && valB b.2.1)
def checkBr (L : List Bear) : Int := if 64 < L.length then 3 else if allTo L.length (fun i => bearOk (L.getD i default)) then 0 else 30
theorem reti {a b : Int} (h : a = b) : Ending.returned (.int .i64 a) = .returned (.int .i64 b) := by rw [h]
theorem checkT_long {L : List Tnt} (h : 64 < L.length) : checkT L = 3 := if_pos h
theorem checkT_bad {L : List Tnt} {k : Nat} (h : ¬ 64 < L.length) (hk : k < L.length) (hb : tOk L k = false) : checkT L = 30 := by
 unfold checkT; rw [if_neg h, allTo_false hk hb]; rfl
theorem checkT_ok {L : List Tnt} (h : ¬ 64 < L.length) (hall : ∀ j, j < L.length → tOk L j = true) : checkT L = 0 := by
 unfold checkT; rw [if_neg h, allTo_true hall]; rfl
theorem checkBr_long {L : List Bear} (h : 64 < L.length) : checkBr L = 3 := if_pos h
theorem checkBr_bad {L : List Bear} {k : Nat} (h : ¬ 64 < L.length) (hk : k < L.length) (hb : bearOk (L.getD k default) = false) : checkBr L = 30 := by
 unfold checkBr; rw [if_neg h, allTo_false hk hb]; rfl
theorem checkBr_ok {L : List Bear} (h : ¬ 64 < L.length) (hall : ∀ j, j < L.length → bearOk (L.getD j default) = true) : checkBr L = 0 := by
 unfold checkBr; rw [if_neg h, allTo_true hall]; rfl
theorem getD_take {α : Type} [Inhabited α] (L : List α) (m i : Nat) (h : i < m) (hl : i < L.length) : (L.take m).getD i default = L.getD i default := by
 rw [getE _ _ (by rw [List.length_take]; omega), getE _ _ hl]; simp
end Go.Proofs.YtfbnnfpnjjjfcaaGreat.Tn

namespace Go.Proofs.YtfbnnfpnjjjfcaaGreat
set_option maxHeartbeats 16000000
set_option maxRecDepth 100000
open Tryz Go.RowKit
set_option linter.unusedSimpArgs false
def amountB (n : Int) : Bool := decide (0 ≤ n) && decide (n ≤ 1125899906842624)
def withinB (n lo hi : Int) : Bool := decide (lo ≤ n) && decide (n ≤ hi)
def nameNone (s : ByteArray) : Bool := sNil s || wordB s
def reqsB (R : List Ask) : Bool := checkR R == 0
def resB (r : ResD) : Bool := amountB r.1 && amountB r.2.1 && amountB r.2.2
def preferB (p : PreferD) : Bool := reqsB p.1 && withinB p.2 1 100
def portB (n : Int) : Bool := withinB n 1 65535
def termB (t : TermD) : Bool := reqsB t.1 && wordB t.2
def spreadB (s : SpreadD) : Bool := wordB s.1 && withinB s.2.1 1 1000 && withinB s.2.2.1 0 1000 && reqsB s.2.2.2
def itemsB {α : Type} (p : α → Bool) (L : List α) : Bool := decide (L.length ≤ 64) && L.all p
def risesBy {α β : Type} [Inhabited α] (lt : β → β → Bool) (f : α → β) (L : List α) : Bool := allTo L.length fun i => decide (i = 0) || lt (f (L.getD (i - 1) default)) (f (L.getD i default))
def iLt (a b : Int) : Bool := decide (a < b)
def sGt (a b : ByteArray) : Bool := !sLt a b && !sEq a b
def rightClass (x : ClassD) : Bool := wordB x.1
def rightClaim (x : ClaimD) : Bool := wordB x.1 && amountB x.2.1 && wordB x.2.2.1 && nameNone x.2.2.2
def rightVolume (x : VolumeD) : Bool := wordB x.1 && amountB x.2.1 && wordB x.2.2.1 && reqsB x.2.2.2.1 && nameNone x.2.2.2.2
def rightBudget (x : BudgetD) : Bool := wordB x.1 && reqsB x.2.1 && withinB x.2.2 0 1000
def rightNode (x : NodeD) : Bool := wordB x.1 && (checkI x.2.1 == 0) && (Tn.checkT x.2.2.1 == 0) && resB x.2.2.2.2.1 && withinB x.2.2.2.2.2.1 0 1000 && withinB x.2.2.2.2.2.2 0 1000
def rightPod (x : PodD) : Bool :=
 wordB x.1 && withinB x.2.1 (-1073741824) 1073741824 && (checkI x.2.2.1 == 0) && reqsB x.2.2.2.2.2.1 && (Tn.checkBr x.2.2.2.2.1 == 0) && resB x.2.2.2.1 && itemsB preferB x.2.2.2.2.2.2.1 && itemsB portB x.2.2.2.2.2.2.2.1 && risesBy iLt id x.2.2.2.2.2.2.2.1 && itemsB termB x.2.2.2.2.2.2.2.2.1 && itemsB termB x.2.2.2.2.2.2.2.2.2.1 && itemsB spreadB x.2.2.2.2.2.2.2.2.2.2.1 && itemsB wordB x.2.2.2.2.2.2.2.2.2.2.2.1 && risesBy sLt id x.2.2.2.2.2.2.2.2.2.2.2.1 && nameNone x.2.2.2.2.2.2.2.2.2.2.2.2.1 && nameNone x.2.2.2.2.2.2.2.2.2.2.2.2.2
theorem range_new {u : World} {T : TypeId} {b o : Nat} {p c q : List Value} (hb : u.heap.size = b) (ho : p.length = o) : (u.alloc (.cells (p ++ (c ++ q)).toArray T)).rangeAt b o c := by
 subst hb ho
 intro j v hj
 have : (u.alloc (.cells (p ++ (c ++ q)).toArray T)).heap[u.heap.size]? = some (.cells (p ++ (c ++ q)).toArray T) := heap_new u _ _ rfl
 generalize u.alloc (.cells (p ++ (c ++ q)).toArray T) = u' at this ⊢
 have hl : j < c.length := (List.getElem?_eq_some_iff.1 hj).1
 simp only [World.cell?, this]
 rw [List.getElem?_toArray, List.getElem?_append_right (by omega), show p.length + j - p.length = j by omega, List.getElem?_append_left hl]
 exact hj
theorem range_all {u : World} {T : TypeId} {b : Nat} {c : List Value} (hb : u.heap.size = b) : (u.alloc (.cells c.toArray T)).rangeAt b 0 c := by
 have := range_new (u := u) (T := T) (p := []) (c := c) (q := []) hb rfl
 simpa using this
theorem there_new {u : World} {T : TypeId} {b n : Nat} {c : Array Value} (hb : u.heap.size = b) (hn : c.size = n) : (u.alloc (.cells c T)).there b 0 n := by
 subst hb hn
 intro j hj
 have : (u.alloc (.cells c T)).heap[u.heap.size]? = some (.cells c T) := heap_new u _ _ rfl
 generalize u.alloc (.cells c T) = u' at this ⊢
 simp [World.cell?, World.frozen?, this, hj]
theorem range_on {w w' : World} {B b o : Nat} {c : List Value} (h : w.rangeAt b o c) (hb : Below B w w') (hB : b < B) : w'.rangeAt b o c := fun j v hj => (hb.cell (p := ⟨b, o + j, none⟩) hB).trans (h j v hj)
theorem there_on {w w' : World} {B b o n : Nat} (h : w.there b o n) (hb : Below B w w') (hB : b < B) : w'.there b o n := fun j hj => by
 rw [hb.cell (p := ⟨b, o + j, none⟩) hB, hb.frozen (p := ⟨b, o + j, none⟩) hB]; exact h j hj
theorem below_setCells {B b : Nat} {a : World} : ∀ {vs : List Value} {o : Nat} {u : World}, Below B a u → B ≤ b → Below B a (u.setCells b o vs)
 | [], _, _, h, _ => h
 | v :: r, o, u, h, hb => by
  rw [World.setCells]
  exact below_setCells (h.setCell (p := ⟨b, o, none⟩) hb v) hb
theorem size_setCells {b : Nat} : ∀ {vs : List Value} {o : Nat} {u : World}, (u.setCells b o vs).heap.size = u.heap.size
 | [], _, _ => rfl
 | v :: r, o, u => by rw [World.setCells, size_setCells]; simp
theorem kept_setCells {A : Where} {b : Nat} (h : ¬ A b) : ∀ {vs : List Value} {o : Nat} {u : World}, Kept A u (u.setCells b o vs)
 | [], _, u => Kept.refl A u
 | v :: r, o, u => by
  rw [World.setCells]
  exact (Kept.set (p := ⟨b, o, none⟩) h v).trans (kept_setCells h)
theorem res_cell {P : Program} {fn : Func} {p : Tmp} {ty : TypeId} (h : fn.results = #[.cell p ty]) (tmps : Array Value) (w : World) (b : Nat) (cs : List Value) (d : TypeDesc)
  (hp : tmps.getD p undef = .pointer (some ⟨b, 0, none⟩)) (hr : w.rangeAt b 0 cs) (hu : P.underlying ty = some d) (hd : d.isRow = true) (hi : (P.info? ty).map (·.size) = some cs.length) :
  (results fn tmps).run P w = .ok (.agg cs.toArray) w := by
 have hp' : tmps[p]?.getD undef = .pointer (some ⟨b, 0, none⟩) := by simpa using hp
 simp [results, h, hp', asAddr, run_loadVar_mid w b 0 ty cs d hr hu hd hi]
theorem res_cell3 {P : Program} {fn : Func} {p q r : Tmp} {ty : TypeId} (h : fn.results = #[.cell p ty, .tmp q, .tmp r]) (tmps : Array Value) (w : World) (b : Nat) (cs : List Value) (d : TypeDesc) (y z : Value)
  (hp : tmps.getD p undef = .pointer (some ⟨b, 0, none⟩)) (hq : tmps.getD q undef = y) (hz : tmps.getD r undef = z) (hr : w.rangeAt b 0 cs) (hu : P.underlying ty = some d) (hd : d.isRow = true) (hi : (P.info? ty).map (·.size) = some cs.length) :
  (results fn tmps).run P w = .ok (.tuple #[.agg cs.toArray, y, z]) w := by
 have hp' : tmps[p]?.getD undef = .pointer (some ⟨b, 0, none⟩) := by simpa using hp
 have hq' : tmps[q]?.getD undef = y := by simpa using hq
 have hz' : tmps[r]?.getD undef = z := by simpa using hz
 simp [results, h, hp', hq', hz', asAddr, run_loadVar_mid w b 0 ty cs d hr hu hd hi]
section
variable {P : Program} {md : Region.Mode} {ops : Array Oper} {Q : Exit → Act → World → Prop} {S : World → Prop} {oi : Oper} {d fuel : Nat} {listed : Array Bool} {a : Act} {w : World}
theorem tq (i : Nat) (v : Value) (hy : YieldsIf P ops S oi v a) (h : wpAnyH P md ops (NoPanic Q) S fuel (listed.setIfInBounds i true) (a.put (some d) v) w)
  (hi : ops[i]? = some oi := by rfl) (hd : oi.dst = some d := by rfl) (hb : (Region.noSelect ops && (Region.free md ops listed i && (Region.ready md ops listed).contains i)) = true := by kernel_rfl) (hS : S w := by assumption) : wpAnyH P md ops (NoPanic Q) S (fuel + 1) listed a w :=
 wpAnyH_take hi (Bool.and_eq_true _ _ ▸ hb).1 (Bool.and_eq_true _ _ ▸ (Bool.and_eq_true _ _ ▸ hb).2).1 (Bool.and_eq_true _ _ ▸ (Bool.and_eq_true _ _ ▸ hb).2).2 (fun _ _ _ h => h) hy hS (hd ▸ h)
theorem tk (i : Nat) {v : Value} (hy : ∀ u, S u → (execOp a.eval oi).run P u = .ok (.value v) u) (h : wpAnyH P md ops (NoPanic Q) S fuel (listed.setIfInBounds i true) (a.put (some d) v) w)
  (hi : ops[i]? = some oi := by rfl) (hd : oi.dst = some d := by rfl) (hb : (Region.noSelect ops && (Region.free md ops listed i && (Region.ready md ops listed).contains i)) = true := by kernel_rfl) (hw : Region.wanted oi (yielded ops a.tmps) = true := by rfl) (hS : S w := by assumption) : wpAnyH P md ops (NoPanic Q) S (fuel + 1) listed a w :=
 tq i v (.inl ⟨hw, hy⟩) h hi hd hb hS
theorem tn (i : Nat) (h : wpAnyH P md ops (NoPanic Q) S fuel (listed.setIfInBounds i true) (a.put (some d) undef) w)
  (hi : ops[i]? = some oi := by rfl) (hd : oi.dst = some d := by rfl) (hb : (Region.noSelect ops && (Region.free md ops listed i && (Region.ready md ops listed).contains i)) = true := by kernel_rfl) (hw : Region.wanted oi (yielded ops a.tmps) = false := by rfl) (hS : S w := by assumption) : wpAnyH P md ops (NoPanic Q) S (fuel + 1) listed a w :=
 tq i undef (.inr ⟨hw, rfl⟩) h hi hd hb hS
theorem tp (i : Nat) {v : Value} (h : wpAnyH P md ops (NoPanic Q) S fuel (listed.setIfInBounds i true) (a.put (some d) v) w)
  (hi : ops[i]? = some oi := by rfl) (hd : oi.dst = some d := by rfl) (hb : (Region.noSelect ops && (Region.free md ops listed i && (Region.ready md ops listed).contains i)) = true := by kernel_rfl) (hw : Region.wanted oi (yielded ops a.tmps) = true := by rfl)
  (hy : ∀ u, (execOp a.eval oi).run P u = .ok (.value v) u := by intro u; go_simp; try with_reducible rfl) (hS : S w := by assumption) : wpAnyH P md ops (NoPanic Q) S (fuel + 1) listed a w :=
 tk i (fun u _ => hy u) h hi hd hb hw hS
theorem tr (i : Nat) (h : ∀ K' : Act → World → Prop, Shut (∀ v w, S w → (S w → wpAnyH P md ops Q S fuel (listed.setIfInBounds i true) (a.put (some d) v) w) → K' (a.put oi.dst v) w) → if Region.wanted oi (yielded ops a.tmps) = true then Oper.wp P oi a w K' Q else K' (a.put oi.dst undef) w)
  (hi : ops[i]? = some oi := by rfl) (hd : oi.dst = some d := by rfl) (hr : Region.ready md ops listed = [i] := by kernel_rfl) : wpAnyH P md ops Q S (fuel + 1) listed a w :=
 wpAnyH_ready hr (by simp) (AllReadyH.cons hi (fun K' hK => h K' (fun v w h1 h2 => hK.out _ w h1 (fun h3 => hd ▸ h2 h3))) AllReadyH.nil)
theorem ts (i : Nat) (h : ∀ K' : Act → World → Prop, Shut (∀ v w, S w → (S w → wpAnyH P md ops Q S fuel (listed.setIfInBounds i true) a w) → K' (a.put oi.dst v) w) → if Region.wanted oi (yielded ops a.tmps) = true then Oper.wp P oi a w K' Q else K' (a.put oi.dst undef) w)
  (hi : ops[i]? = some oi := by rfl) (hd : oi.dst = none := by rfl) (hr : Region.ready md ops listed = [i] := by kernel_rfl) : wpAnyH P md ops Q S (fuel + 1) listed a w :=
 wpAnyH_ready hr (by simp) (AllReadyH.cons hi (fun K' hK => h K' (fun v w h1 h2 => hK.out _ w h1 (fun h3 => by rw [hd]; exact h2 h3))) AllReadyH.nil)
theorem tz (h : Q .normal a w) (hr : Region.ready md ops listed = [] := by kernel_rfl) : wpAnyH P md ops (NoPanic Q) S fuel listed a w := wpAnyH_done hr (NoPanic.normal h) _
theorem t0 {id : Nat} (S : World → Prop) (hS : S w.drew) (h : S w.drew → wpAnyH P .any ops (NoPanic Q) S ops.size (Array.replicate ops.size false) a w.drew) (hm : P.follows .mixedOrders = true := by kernel_rfl) : (Code.region id ops true).wp P Q a w :=
 wp_region_noPanic (wp_region_held_drew hm hS h)
end
abbrev J (g : Hd) : Value := .slice g.1 g.2.1 g.2.2
abbrev Z : Value := .slice none 0 0
def Held (w : World) (L : List (Nat × List Value)) (M : List (Nat × Nat)) (u : World) : Prop :=
 Below w.heap.size w u ∧ (∀ x ∈ L, w.heap.size ≤ x.1 ∧ x.1 < u.heap.size ∧ u.rangeAt x.1 0 x.2 ∧ u.there x.1 0 x.2.length) ∧ (∀ y ∈ M, w.heap.size ≤ y.1 ∧ y.1 < u.heap.size ∧ u.there y.1 0 y.2)
section
variable {w u : World} {L : List (Nat × List Value)} {M : List (Nat × Nat)}
theorem Held.start (w : World) : Held w [] [] w := ⟨Below.refl _ _, (fun _ h => by cases h), (fun _ h => by cases h)⟩
theorem Held.below (h : Held w L M u) : Below w.heap.size w u := h.1
theorem Held.on {u' : World} (h : Held w L M u) (hb : Below u.heap.size u u') : Held w L M u' :=
 ⟨on2 h.1 hb, fun x hx => by
  obtain ⟨h1, h2, h3, h4⟩ := h.2.1 x hx
  exact ⟨h1, Nat.lt_of_lt_of_le h2 hb.size, range_on h3 hb h2, there_on h4 hb h2⟩, fun y hy => by
  obtain ⟨h1, h2, h3⟩ := h.2.2 y hy
  exact ⟨h1, Nat.lt_of_lt_of_le h2 hb.size, there_on h3 hb h2⟩⟩
theorem Held.drew (h : Held w L M u) : Held w L M u.drew := h.on (Below.refl _ u).drew
theorem Held.push (h : Held w L M u) {b : Nat} (hb : u.heap.size = b) (c : List Value) (T : TypeId) : Held w ((b, c) :: L) M (u.alloc (.cells c.toArray T)) := by
 subst hb
 have hB : Below u.heap.size u (u.alloc (.cells c.toArray T)) := (Below.refl _ u).alloc (Nat.le_refl _) _
 refine ⟨on2 h.1 hB, fun x hx => ?_, (h.on hB).2.2⟩
 rcases List.mem_cons.1 hx with rfl | hx
 ·
  exact ⟨h.1.size, by simp, range_all rfl, there_new rfl (by simp)⟩
 ·
  exact (h.on hB).2.1 x hx
theorem Held.room (h : Held w L M u) {b : Nat} (hb : u.heap.size = b) (c : Array Value) (T : TypeId) : Held w L ((b, c.size) :: M) (u.alloc (.cells c T)) := by
 subst hb
 have hB : Below u.heap.size u (u.alloc (.cells c T)) := (Below.refl _ u).alloc (Nat.le_refl _) _
 refine ⟨on2 h.1 hB, (h.on hB).2.1, fun y hy => ?_⟩
 rcases List.mem_cons.1 hy with rfl | hy
 ·
  exact ⟨h.1.size, by simp, there_new rfl rfl⟩
 ·
  exact (h.on hB).2.2 y hy
theorem Held.get (h : Held w L M u) (i : Nat) {b : Nat} {c : List Value} (hi : L[i]? = some (b, c)) : u.rangeAt b 0 c := (h.2.1 _ (List.mem_of_getElem? hi)).2.2.1
theorem Held.cell (h : Held w L M u) (i : Nat) {b : Nat} {c : List Value} (hi : L[i]? = some (b, c)) (j : Nat) {v : Value} (hj : c[j]? = some v) : u.cell? ⟨b, j, none⟩ = some v := by
 have := h.get i hi j v hj
 simpa using this
theorem Held.frozen (h : Held w L M u) (i : Nat) {b : Nat} {c : List Value} (hi : L[i]? = some (b, c)) (j : Nat) (hj : j < c.length) : u.frozen? ⟨b, j, none⟩ = false := by
 have := ((h.2.1 _ (List.mem_of_getElem? hi)).2.2.2 j hj).2
 simpa using this
theorem Held.lt (h : Held w L M u) (i : Nat) {b : Nat} {c : List Value} (hi : L[i]? = some (b, c)) : b < u.heap.size := (h.2.1 _ (List.mem_of_getElem? hi)).2.1
theorem Held.there (h : Held w L M u) (i : Nat) {b n : Nat} (hi : M[i]? = some (b, n)) : u.there b 0 n := (h.2.2 _ (List.mem_of_getElem? hi)).2.2
theorem Held.ltM (h : Held w L M u) (i : Nat) {b n : Nat} (hi : M[i]? = some (b, n)) : b < u.heap.size := (h.2.2 _ (List.mem_of_getElem? hi)).2.1
theorem Held.less {L' : List (Nat × List Value)} {M' : List (Nat × Nat)} (h : Held w L M u) (hL : ∀ x ∈ L', x ∈ L) (hM : ∀ y ∈ M', y ∈ M) : Held w L' M' u := ⟨h.1, fun x hx => h.2.1 x (hL x hx), fun y hy => h.2.2 y (hM y hy)⟩
theorem Held.free {b : Nat} {c : List Value} (h : Held w ((b, c) :: L) M u) : Held w L ((b, c.length) :: M) u :=
 ⟨h.1, fun x hx => h.2.1 x (by simp [hx]), fun y hy => by
  rcases List.mem_cons.1 hy with rfl | hy
  ·
   obtain ⟨h1, h2, _, h4⟩ := h.2.1 (b, c) (by simp)
   exact ⟨h1, h2, h4⟩
  ·
   exact h.2.2 y hy⟩
theorem Held.store {b n : Nat} {c : List Value} (h : Held w L ((b, n) :: M) u) (hl : c.length = n) (hL : ∀ x ∈ L, x.1 ≠ b) : Held w ((b, c) :: L) M (u.setCells b 0 c) := by
 obtain ⟨h1, h2, h4⟩ := h.2.2 (b, n) (by simp)
 subst hl
 refine ⟨below_setCells h.1 h1, fun x hx => ?_, fun y hy => ?_⟩
 ·
  rcases List.mem_cons.1 hx with rfl | hx
  ·
   exact ⟨h1, by rw [size_setCells]; exact h2, World.rangeAt_setCells_same u b 0 c h4, World.there_setCells h4 b 0 c⟩
  ·
   obtain ⟨g1, g2, g3, g4⟩ := h.2.1 x hx
   exact ⟨g1, by rw [size_setCells]; exact g2, World.rangeAt_setCells_apart g3 b 0 c (.inl (hL x hx)), World.there_setCells g4 b 0 c⟩
 ·
  obtain ⟨g1, g2, g3⟩ := h.2.2 y (by simp [hy])
  exact ⟨g1, by rw [size_setCells]; exact g2, World.there_setCells g3 b 0 c⟩
theorem Held.wrote {b n : Nat} {c : List Value} (h : Held w L M u) (i : Nat) (hi : M[i]? = some (b, n)) (hL : ∀ x ∈ L, x.1 ≠ b) : Held w L M (u.setCells b 0 c) := by
 obtain ⟨h1, h2, h4⟩ := h.2.2 (b, n) (List.mem_of_getElem? hi)
 refine ⟨below_setCells h.1 h1, fun x hx => ?_, fun y hy => ?_⟩
 ·
  obtain ⟨g1, g2, g3, g4⟩ := h.2.1 x hx
  exact ⟨g1, by rw [size_setCells]; exact g2, World.rangeAt_setCells_apart g3 b 0 c (.inl (hL x hx)), World.there_setCells g4 b 0 c⟩
 ·
  obtain ⟨g1, g2, g3⟩ := h.2.2 y hy
  exact ⟨g1, by rw [size_setCells]; exact g2, World.there_setCells g3 b 0 c⟩
end
theorem at_world {K : Act → World → Prop} {a : Act} {u W : World} (h : W = u) (k : K a W) : K a u := h ▸ k
theorem want_yes {c : Prop} [Decidable c] {A B : Prop} (h : c) (k : A) : if c then A else B := by rw [if_pos h]; exact k
theorem call_enter {P : Program} {o : Oper} {a : Act} {u : World} {K : Act → World → Prop} {Q : Exit → Act → World → Prop} {f : Nat} {args : Array Value} (hr : (execOp a.eval o).run P u = .ok (.enter f args) u) {post : Ending → World → Prop} (hc : Calls P f args u post) (h : ∀ e u', post e u' → ∃ v, e = .returned v ∧ K (a.put o.dst v) u') : o.wp P a u K Q := by
 unfold Oper.wp
 rw [hr]
 refine Calls.mono hc fun e u' he => ?_
 obtain ⟨v, rfl, hk⟩ := h e u' he
 exact hk
theorem retb {a b : Bool} (h : a = b) : Ending.returned (.bool a) = .returned (.bool b) := by rw [h]
theorem isDig_iff (c : UInt8) : isDig c = true ↔ 48 ≤ c.toNat ∧ c.toNat ≤ 57 := by simp [isDig]
theorem isDig_no {c : UInt8} (h : ¬(48 ≤ c.toNat ∧ c.toNat ≤ 57)) : isDig c = false := by
 cases e : isDig c
 ·
  rfl
 ·
  exact absurd ((isDig_iff c).1 e) h
theorem isDigit_calls (c : UInt8) (w : World) : Calls prog 129 #[.int .u8 (c.toNat : Int)] w fun e w' => e = .returned (.bool (isDig c)) ∧ w' = w := by
 by_cases h1 : (48 : Int) ≤ (c.toNat : Int)
 ·
  by_cases h2 : (c.toNat : Int) ≤ 57
  ·
   have HF : Hid (isDig c = true) := (isDig_iff c).2 ⟨by omega, by omega⟩
   go_enter func129, ntmps129
   go_wp2
   go_ret
   exact ⟨retb HF.out.symm, rfl⟩
  ·
   have HF : Hid (isDig c = false) := isDig_no (by omega)
   go_enter func129, ntmps129
   go_wp2
   go_ret
   exact ⟨retb HF.out.symm, rfl⟩
 ·
  have HF : Hid (isDig c = false) := isDig_no (by omega)
  go_enter func129, ntmps129
  go_wp2
  go_ret
  exact ⟨retb HF.out.symm, rfl⟩
theorem wChar_low {c : UInt8} (h : (97 : Int) ≤ c.toNat) (h2 : (c.toNat : Int) ≤ 122) : wChar c = true := by
 have : decide (97 ≤ c.toNat) = true := by simp; omega
 have h3 : decide (c.toNat ≤ 122) = true := by simp; omega
 simp [wChar, this, h3]
theorem wChar_else {c : UInt8} (h : ¬((97 : Int) ≤ c.toNat ∧ (c.toNat : Int) ≤ 122)) : wChar c = (isDig c || decide (c.toNat = 45) || decide (c.toNat = 46) || decide (c.toNat = 47)) := by
 have : (decide (97 ≤ c.toNat) && decide (c.toNat ≤ 122)) = false := by simp; omega
 simp [wChar, this]
theorem inWord_calls (c : UInt8) (w : World) : Calls prog 115 #[.int .u8 (c.toNat : Int)] w fun e w' => e = .returned (.bool (wChar c)) ∧ w' = w := by
 have H : ((97 : Int) ≤ c.toNat ∧ (c.toNat : Int) ≤ 122 ∧ Hid (wChar c = true)) ∨ ((¬ (97 : Int) ≤ c.toNat ∨ ((97 : Int) ≤ c.toNat ∧ ¬ (c.toNat : Int) ≤ 122)) ∧ Hid (wChar c = (isDig c || decide (c.toNat = 45) || decide (c.toNat = 46) || decide (c.toNat = 47)))) := by
  by_cases h1 : (97 : Int) ≤ (c.toNat : Int)
  ·
   by_cases h2 : (c.toNat : Int) ≤ 122
   ·
    exact .inl ⟨h1, h2, wChar_low h1 h2⟩
   ·
    exact .inr ⟨.inr ⟨h1, h2⟩, wChar_else (by omega)⟩
  ·
   exact .inr ⟨.inl h1, wChar_else (by omega)⟩
 rcases H with ⟨h1, h2, HF⟩ | ⟨H, HF⟩
 ·
  go_enter func115, ntmps115
  go_wp2
  go_ret
  exact ⟨retb HF.out.symm, rfl⟩
 ·
  have hdig := isDigit_calls c
  have HG : ∃ d e f g : Bool, isDig c = d ∧ ((c.toNat : Int) == 45) = e ∧ ((c.toNat : Int) == 46) = f ∧ ((c.toNat : Int) == 47) = g ∧ Hid (wChar c = (d || e || f || g)) := by
   refine ⟨_, _, _, _, rfl, rfl, rfl, rfl, ?_⟩
   refine HF.out.trans ?_
   have e1 : decide (c.toNat = 45) = ((c.toNat : Int) == 45) := by rw [Bool.eq_iff_iff]; simp; omega
   have e2 : decide (c.toNat = 46) = ((c.toNat : Int) == 46) := by rw [Bool.eq_iff_iff]; simp; omega
   have e3 : decide (c.toNat = 47) = ((c.toNat : Int) == 47) := by rw [Bool.eq_iff_iff]; simp; omega
   rw [e1, e2, e3]
  obtain ⟨d, e, f, g, hd, he, hf, hg, HV⟩ := HG
  clear HF
  rw [hd] at hdig
  clear hd
  rcases H with h1 | ⟨h1, h2⟩ <;> cases d <;> cases e <;> cases f <;> cases g <;>
  ·
   go_enter func115, ntmps115
   go_wp2_with (go_at_call 129; refine (hdig _).mono ?_; rintro e w' ⟨rfl, rfl⟩)
   go_ret
   exact ⟨retb HV.out.symm, rfl⟩
theorem wordB_no {s : ByteArray} (h : ¬(1 ≤ s.size ∧ s.size ≤ 32)) : wordB s = false := by
 have : (decide (1 ≤ s.size) && decide (s.size ≤ 32)) = false := by simp; omega
 simp [wordB, this]
theorem wordB_rest {s : ByteArray} (h1 : 1 ≤ s.size) (h2 : s.size ≤ 32) : wordB s = allTo s.size fun i => wChar (byteAt s i) := by
 simp [wordB, h1, h2]
theorem Word_calls (s : ByteArray) (w : World) : Calls prog 97 #[.string s] w fun e w' => e = .returned (.bool (wordB s)) ∧ w' = w := by
 by_cases h0 : (s.size : Int) = 0
 ·
  have HF : Hid (wordB s = false) := wordB_no (by omega)
  have h0' : ((s.size : Int) == 0) = true := beq_iff_eq.2 h0
  go_enter func97, ntmps97
  go_wp2
  go_ret
  exact ⟨retb HF.out.symm, rfl⟩
 ·
  have h0' : ((s.size : Int) == 0) = false := beq_eq_false_iff_ne.2 h0
  by_cases h1 : (32 : Int) < (s.size : Int)
  ·
   have HF : Hid (wordB s = false) := wordB_no (by omega)
   go_enter func97, ntmps97
   go_wp2
   go_ret
   exact ⟨retb HF.out.symm, rfl⟩
  ·
   have HN : Hid (wordB s = allTo s.size fun i => wChar (byteAt s i)) := wordB_rest (by omega) (by omega)
   go_enter func97, ntmps97
   go_wp2
   go_loop [14] (fun i => ∃ k : Nat, k ≤ s.size ∧ i = .int .i64 k ∧ Hid (∀ j, j < k → wChar (byteAt s j) = true)) (fun i => s.size - (intOf i).toNat)
   case atStart => exact ⟨0, Nat.zero_le _, rfl, fun j hj => absurd hj (Nat.not_lt_zero _)⟩
   case round =>
    obtain ⟨k, hk, rfl, hall⟩ := hrel
    by_cases hlt : k < s.size
    ·
     have hin := inWord_calls s[k]
     cases hc : wChar s[k]
     ·
      rw [hc] at hin
      have HF : Hid (wordB s = false) := HN.out.trans (allTo_false hlt (by rw [byteAt_get s k hlt]; exact hc))
      clear hc
      go_wp2_with (go_at_call 115; refine (hin _).mono ?_; rintro e w' ⟨rfl, rfl⟩)
      go_ret
      exact ⟨retb HF.out.symm, rfl⟩
     ·
      rw [hc] at hin
      have HS : Hid (wChar (byteAt s k) = true) := by rw [Hid, byteAt_get s k hlt]; exact hc
      clear hc
      go_wp2_with (go_at_call 115; refine (hin _).mono ?_; rintro e w' ⟨rfl, rfl⟩)
      go_round
      case rel => exact ⟨k + 1, by omega, by go_num, fun j hj => by rcases Nat.lt_succ_iff_lt_or_eq.1 hj with h | rfl; exact hall.out j h; exact HS.out⟩
      case measure => simp [intOf]; omega
    ·
     have HF : Hid (wordB s = true) := HN.out.trans (allTo_true (fun j hj => hall.out j (by omega)))
     go_wp2
     go_ret
     exact ⟨retb HF.out.symm, rfl⟩
end Go.Proofs.YtfbnnfpnjjjfcaaGreat

