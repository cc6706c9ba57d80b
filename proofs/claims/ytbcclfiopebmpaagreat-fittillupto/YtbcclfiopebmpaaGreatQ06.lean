/- base.SameReqs, sameTerms tell whether two slices hold the same; they change nothing but the count of draws. Condition: the slices hold what is said of them. base.SameVolume, SameBudget tell whether two structs hold the same, and change nothing that was there. Condition: the arguments lie as is said of them. base.SameNode tells whether two nodes hold the same, and changes nothing that was there. Condition: the arguments lie as is said of them. base.SamePod says yes of two pods that hold the same, and changes nothing that was there. Condition: the arguments lie as is said of them. How an info lies: its node in one place, its lists in another; base.SameInfo says yes of two that hold the same. Condition: the arguments lie as is said of them. base.terms gives a slice of its own, what it asks copied too, that holds the same. Condition: the slice holds what is said of it. Structs that lie in memory, whatever their cells: read and written whole; results that are structs; what stays. Plain laws of the model's worlds. No condition. base.Pod gives a copy of its own. Condition: the argument lies as is said of it. Nothing of its own: what quant's texts stand on. quant's arithmetic over numbers: Clamp, Add, Sub of the program return what plain integers say, and change nothing; so do the document's own. No condition. quant's split and join of an amount of several things, and the two methods over members: what they return, and that they change nothing that was there. No condition. The document's own Plus, Minus and Fits of amounts of several things: what they return, and that they change nothing that was there. No condition. The document's Of: what a node has of pods. Condition: the arguments lie as is said of them; the pods' ports and claims together are within what an append may ask. The law's 'pods' gives copies of its own. Condition: the slice lies as is said of it. The document's Drop. Condition: the arguments lie as is said of them; the pods' ports and claims together are within what an append may ask. base.Texts and base.Ints give rows of their own. Condition: the slice lies as is said of it. The document's Add. Condition: the arguments lie as is said of them; the lists with what comes are within what an append may ask. What came and went leaves the info as it was. Plain mathematics. No condition. Pods that come one by one, in whatever order: the info of all. Plain mathematics. No condition. Why a pod may not stand on a node, and how many like it may, as plain functions; what follows of them. No condition. The document's Free and Clash. Condition: the arguments lie as is said of them. -/
import Derived.Test.YtbcclfiopebmpaaGreatQ05
import Derived.Test.YtbcclfiopebmpaaGreatQ02
import Derived.Deep.MidRow
import Derived.Test.YtbcclfiopebmpaaGreatQ01
import Derived.Lib.ItoaNum
import Derived.WalkLawsBesides
import Derived.Deep.QuietTactic
import Derived.BigQuiet
import Derived.BigRegion
import Derived.Deep.RegionHeld3
import Derived.Deep.DeepCutAuto
import Derived.Outline
import Derived.Handy
namespace Go.Proofs.YtbcclfiopebmpaaGreat
open Go.RowKit
set_option linter.unusedSimpArgs false

end Go.Proofs.YtbcclfiopebmpaaGreat
namespace Go.Proofs.YtbcclfiopebmpaaGreat
open Go.RowKit
set_option linter.unusedSimpArgs false

/-- A call's end tells whether the two are one. -/
def TellsEq {α : Type} (e : Ending) (x y : α) : Prop := ∃ r, e = .returned (.bool r) ∧ (r = true ↔ x = y)
theorem tells {α : Type} {x y : α} {r : Bool} (h : r = true ↔ x = y) : TellsEq (.returned (.bool r)) x y := ⟨r, rfl, h⟩

end Go.Proofs.YtbcclfiopebmpaaGreat
namespace Go.Proofs.YtbcclfiopebmpaaGreat
open Go.RowKit
set_option linter.unusedSimpArgs false

theorem guardR : Tryz.prog.eqGuardType Tryz.prog.depth 24 = false := by kernel_rfl
theorem guardTn : Tryz.prog.eqGuardType Tryz.prog.depth 88 = false := by kernel_rfl
theorem neqR (x y : ResD) (w : World) : Sem.run Tryz.prog (binOp .neq 24 (.agg #[.int .i64 x.1, .int .i64 x.2.1, .int .i64 x.2.2]) (.agg #[.int .i64 y.1, .int .i64 y.2.1, .int .i64 y.2.2])) w = .ok (.bool (!((x.1 == y.1) && ((x.2.1 == y.2.1) && (x.2.2 == y.2.2))))) w := by
  have u3 := Tryz.underlying3
  have a3 := Tryz.isAgg3
  have z3 := Tryz.sizeOf3
  have hS : Tryz.prog.underlying 24 = some (.struct (Tryz.prog.fieldsOf 24)) := by kernel_rfl
  have hp : Tryz.prog.stoodInHeld 24 = false := by kernel_rfl
  rw [run_neq_struct, show (10000 : Nat) = 9999 + 1 from rfl, run_equalIn_agg w 9999 24 _ _ hS hp]
  simp only [Program.fieldsOf, Tryz.underlying24]
  go_simp
  by_cases h1 : x.1 = y.1 <;> by_cases h2 : x.2.1 = y.2.1 <;> by_cases h3 : x.2.2 = y.2.2 <;> simp [h1, h2, h3]
theorem neqTn (x y : Tnt) (w : World) : Sem.run Tryz.prog (binOp .neq 88 (.agg #[.string x.1, .string x.2.1, .int .i64 x.2.2]) (.agg #[.string y.1, .string y.2.1, .int .i64 y.2.2])) w = .ok (.bool (!tEq x y)) w := by
  have u3 := Tryz.underlying3
  have a3 := Tryz.isAgg3
  have z3 := Tryz.sizeOf3
  have u9 := Tryz.underlying9
  have a9 := Tryz.isAgg9
  have z9 := Tryz.sizeOf9
  have hS : Tryz.prog.underlying 88 = some (.struct (Tryz.prog.fieldsOf 88)) := by kernel_rfl
  have hp : Tryz.prog.stoodInHeld 88 = false := by kernel_rfl
  rw [run_neq_struct, show (10000 : Nat) = 9999 + 1 from rfl, run_equalIn_agg w 9999 88 _ _ hS hp]
  simp only [Program.fieldsOf, Tryz.underlying88]
  go_simp
  simp only [tEq, sEq]
  by_cases h1 : x.1.toList = y.1.toList <;> by_cases h2 : x.2.1.toList = y.2.1.toList <;> by_cases h3 : x.2.2 = y.2.2 <;> simp [h1, h2, h3]
theorem tEq_iff (x y : Tnt) : tEq x y = true ↔ x = y := by
  simp only [tEq, Bool.and_eq_true, sEq_iff, beq_iff_eq, Prod.ext_iff]
theorem res_iff (x y : ResD) : ((x.1 == y.1) && ((x.2.1 == y.2.1) && (x.2.2 == y.2.2))) = true ↔ x = y := by
  simp only [Bool.and_eq_true, beq_iff_eq, Prod.ext_iff]
theorem list_same {α : Type} [Inhabited α] {L M : List α} (hl : L.length = M.length) (h : ∀ j, j < L.length → L.getD j default = M.getD j default) : L = M := by
  apply List.ext_getElem hl
  intro i h1 h2
  have := h i h1
  rwa [getE _ _ h1, getE _ _ h2] at this

end Go.Proofs.YtbcclfiopebmpaaGreat
namespace Go.Proofs.YtbcclfiopebmpaaGreat
open Go.RowKit
set_option linter.unusedSimpArgs false
set_option maxRecDepth 100000

theorem guardBe : Tryz.prog.eqGuardType Tryz.prog.depth 148 = false := by kernel_rfl
theorem neqR_same (a b c : Int) (w : World) : Sem.run Tryz.prog (binOp .neq 24 (.agg #[.int .i64 a, .int .i64 b, .int .i64 c]) (.agg #[.int .i64 a, .int .i64 b, .int .i64 c])) w = .ok (.bool false) w := by
  have := neqR (a, b, c) (a, b, c) w
  simpa using this
theorem neqBe_same (a b : ByteArray) (c : Bool) (d : Int) (w : World) : Sem.run Tryz.prog (binOp .neq 148 (.agg #[.string a, .string b, .bool c, .int .i64 d]) (.agg #[.string a, .string b, .bool c, .int .i64 d])) w = .ok (.bool false) w := by
  have u3 := Tryz.underlying3
  have a3 := Tryz.isAgg3
  have z3 := Tryz.sizeOf3
  have u9 := Tryz.underlying9
  have a9 := Tryz.isAgg9
  have z9 := Tryz.sizeOf9
  have u4 := Tryz.underlying4
  have a4 := Tryz.isAgg4
  have z4 := Tryz.sizeOf4
  have hS : Tryz.prog.underlying 148 = some (.struct (Tryz.prog.fieldsOf 148)) := by kernel_rfl
  have hp : Tryz.prog.stoodInHeld 148 = false := by kernel_rfl
  rw [run_neq_struct, show (10000 : Nat) = 9999 + 1 from rfl, run_equalIn_agg w 9999 148 _ _ hS hp]
  simp only [Program.fieldsOf, Tryz.underlying148]
  go_simp
/-- The blocks of the two parameters. -/
structure PB2 (w u : World) (P Y : List Value) : Prop where
  p : BoxL u w.heap.size P
  y : BoxL u (w.heap.size + 1) Y
  b : Below w.heap.size w u
theorem PB2.on {w u u' : World} {P Y : List Value} (h : PB2 w u P Y) (hb : Below u.heap.size u u') : PB2 w u' P Y := ⟨h.p.on hb, h.y.on hb, on2 h.b hb⟩

end Go.Proofs.YtbcclfiopebmpaaGreat
namespace Go.Proofs.YtbcclfiopebmpaaGreat
open Go.RowKit
set_option linter.unusedSimpArgs false
set_option maxRecDepth 100000

/-- An info: its node's lists lie where A says, its own where F says. -/
def InfoAt (A F : Where) (w : World) (cs : List Value) (x : InfoD) : Prop :=
  ∃ c d, cs = c ++ d ∧ RNode A w c x.1 ∧ RPair (RSl RStr 1 16) (RPair RRes (RPair (RSl RInt 1 8) (RSl RStr 1 16))) F w d x.2
theorem InfoAt.info {A F : Where} {w : World} {cs : List Value} {x : InfoD} (h : InfoAt A F w cs x) : RInfo (fun b => A b ∨ F b) w cs x := by
  obtain ⟨c, d, e, h1, h2⟩ := h
  exact ⟨c, d, e, RNode.firm.weak h1 (fun _ _ h => .inl h), (Firm.pair (RSl.firm RStr.firm) (Firm.pair RRes.firm (Firm.pair (RSl.firm RInt.firm) (RSl.firm RStr.firm)))).weak h2 (fun _ _ h => .inr h)⟩
theorem InfoAt.kept {A F : Where} {w w' : World} {cs : List Value} {x : InfoD} (h : InfoAt A F w cs x) (hA : Kept A w w') (hF : Kept F w w') : InfoAt A F w' cs x := by
  obtain ⟨c, d, e, h1, h2⟩ := h
  exact ⟨c, d, e, RNode.firm.kept h1 hA, (Firm.pair (RSl.firm RStr.firm) (Firm.pair RRes.firm (Firm.pair (RSl.firm RInt.firm) (RSl.firm RStr.firm)))).kept h2 hF⟩
theorem InfoAt.weak {A A' F F' : Where} {w : World} {cs : List Value} {x : InfoD} (h : InfoAt A F w cs x) (hA : ∀ b, b < w.heap.size → A b → A' b) (hF : ∀ b, b < w.heap.size → F b → F' b) : InfoAt A' F' w cs x := by
  obtain ⟨c, d, e, h1, h2⟩ := h
  exact ⟨c, d, e, RNode.firm.weak h1 hA, (Firm.pair (RSl.firm RStr.firm) (Firm.pair RRes.firm (Firm.pair (RSl.firm RInt.firm) (RSl.firm RStr.firm)))).weak h2 hF⟩
theorem InfoAt.on {A F : Where} {w w' : World} {cs : List Value} {x : InfoD} (h : InfoAt A F w cs x) (hb : Below w.heap.size w w') : InfoAt A F w' cs x := h.kept (Kept.below hb) (Kept.below hb)
theorem InfoAt.len {A F : Where} {w : World} {cs : List Value} {x : InfoD} (h : InfoAt A F w cs x) : cs.length = 15 := RInfo.firm.len h.info
theorem InfoAt.one {A F : Where} {w : World} {cs : List Value} {x : InfoD} (h : InfoAt A F w cs x) : ∀ u ∈ cs, u.oneCell' = true := RInfo.firm.one h.info
theorem eqR_same (a b c : Int) (w : World) : Sem.run Tryz.prog (binOp .eql 24 (.agg #[.int .i64 a, .int .i64 b, .int .i64 c]) (.agg #[.int .i64 a, .int .i64 b, .int .i64 c])) w = .ok (.bool true) w := by
  have u3 := Tryz.underlying3
  have a3 := Tryz.isAgg3
  have z3 := Tryz.sizeOf3
  have hS : Tryz.prog.underlying 24 = some (.struct (Tryz.prog.fieldsOf 24)) := by kernel_rfl
  have hp : Tryz.prog.stoodInHeld 24 = false := by kernel_rfl
  rw [run_eql_struct, show (10000 : Nat) = 9999 + 1 from rfl, run_equalIn_agg w 9999 24 _ _ hS hp]
  simp only [Program.fieldsOf, Tryz.underlying24]
  go_simp
theorem tells_yes {α : Type} {e : Ending} {x : α} (h : TellsEq e x x) : e = .returned (.bool true) := by
  obtain ⟨r, rfl, h⟩ := h
  rw [h.2 rfl]
end Go.Proofs.YtbcclfiopebmpaaGreat
namespace Go.Proofs.YtbcclfiopebmpaaGreat
open Go.RowKit
set_option linter.unusedSimpArgs false

theorem infoTerm : (Tryz.prog.info? 180).map (fun i => (i.zero, i.size, i.bytes)) = some (some (.agg #[.slice none 0 0, .string ⟨#[]⟩]), 2, 40) := by kernel_rfl
/-- The row's place holds what it held, and nothing that was there has turned. -/
def TmS (w : World) (D off k : Nat) (h : Hd) (s : ByteArray) (u : World) : Prop :=
  Below w.heap.size w u ∧ u.cell? ⟨D, off + k * 2, none⟩ = some (.slice h.1 h.2.1 h.2.2) ∧ u.cell? ⟨D, off + k * 2 + 1, none⟩ = some (.string s)

end Go.Proofs.YtbcclfiopebmpaaGreat
namespace Go.Proofs.YtbcclfiopebmpaaGreat
open Go.RowKit
set_option linter.unusedSimpArgs false

theorem range_new {u : World} {T : TypeId} {b o : Nat} {p c q : List Value} (hb : u.heap.size = b) (ho : p.length = o) : (u.alloc (.cells (p ++ (c ++ q)).toArray T)).rangeAt b o c := by
  subst hb ho
  intro j v hj
  have : (u.alloc (.cells (p ++ (c ++ q)).toArray T)).heap[u.heap.size]? = some (.cells (p ++ (c ++ q)).toArray T) := heap_new u _ _ rfl
  generalize u.alloc (.cells (p ++ (c ++ q)).toArray T) = u' at this ⊢
  have hl : j < c.length := (List.getElem?_eq_some_iff.1 hj).1
  simp only [World.cell?, this]
  rw [List.getElem?_toArray, List.getElem?_append_right (by omega), show p.length + j - p.length = j by omega, List.getElem?_append_left hl]
  exact hj
theorem range_all {u : World} {T : TypeId} {b : Nat} {c : List Value} (hb : u.heap.size = b) : (u.alloc (.cells c.toArray T)).rangeAt b 0 c := by
  have := range_new (u := u) (T := T) (p := []) (c := c) (q := []) hb rfl
  simpa using this
theorem there_new {u : World} {T : TypeId} {b n : Nat} {c : Array Value} (hb : u.heap.size = b) (hn : c.size = n) : (u.alloc (.cells c T)).there b 0 n := by
  subst hb hn
  intro j hj
  have : (u.alloc (.cells c T)).heap[u.heap.size]? = some (.cells c T) := heap_new u _ _ rfl
  generalize u.alloc (.cells c T) = u' at this ⊢
  simp [World.cell?, World.frozen?, this, hj]
theorem range_on {w w' : World} {B b o : Nat} {c : List Value} (h : w.rangeAt b o c) (hb : Below B w w') (hB : b < B) : w'.rangeAt b o c := fun j v hj => (hb.cell (p := ⟨b, o + j, none⟩) hB).trans (h j v hj)
theorem there_on {w w' : World} {B b o n : Nat} (h : w.there b o n) (hb : Below B w w') (hB : b < B) : w'.there b o n := fun j hj => by
  rw [hb.cell (p := ⟨b, o + j, none⟩) hB, hb.frozen (p := ⟨b, o + j, none⟩) hB]; exact h j hj
theorem below_setCells {B b : Nat} {a : World} : ∀ {vs : List Value} {o : Nat} {u : World}, Below B a u → B ≤ b → Below B a (u.setCells b o vs)
  | [], _, _, h, _ => h
  | v :: r, o, u, h, hb => by
    rw [World.setCells]
    exact below_setCells (h.setCell (p := ⟨b, o, none⟩) hb v) hb
theorem size_setCells {b : Nat} : ∀ {vs : List Value} {o : Nat} {u : World}, (u.setCells b o vs).heap.size = u.heap.size
  | [], _, _ => rfl
  | v :: r, o, u => by rw [World.setCells, size_setCells]; simp
theorem kept_setCells {A : Where} {b : Nat} (h : ¬ A b) : ∀ {vs : List Value} {o : Nat} {u : World}, Kept A u (u.setCells b o vs)
  | [], _, u => Kept.refl A u
  | v :: r, o, u => by
    rw [World.setCells]
    exact (Kept.set (p := ⟨b, o, none⟩) h v).trans (kept_setCells h)

/-- One result, a struct that lies in memory. -/
theorem res_cell {P : Program} {fn : Func} {p : Tmp} {ty : TypeId} (h : fn.results = #[.cell p ty]) (tmps : Array Value) (w : World) (b : Nat) (cs : List Value) (d : TypeDesc)
    (hp : tmps.getD p undef = .pointer (some ⟨b, 0, none⟩)) (hr : w.rangeAt b 0 cs) (hu : P.underlying ty = some d) (hd : d.isRow = true) (hi : (P.info? ty).map (·.size) = some cs.length) :
    (results fn tmps).run P w = .ok (.agg cs.toArray) w := by
  have hp' : tmps[p]?.getD undef = .pointer (some ⟨b, 0, none⟩) := by simpa using hp
  simp [results, h, hp', asAddr, run_loadVar_mid w b 0 ty cs d hr hu hd hi]
/-- Two results, the first a struct that lies in memory. -/
theorem res_cell2 {P : Program} {fn : Func} {p q : Tmp} {ty : TypeId} (h : fn.results = #[.cell p ty, .tmp q]) (tmps : Array Value) (w : World) (b : Nat) (cs : List Value) (d : TypeDesc) (y : Value)
    (hp : tmps.getD p undef = .pointer (some ⟨b, 0, none⟩)) (hq : tmps.getD q undef = y) (hr : w.rangeAt b 0 cs) (hu : P.underlying ty = some d) (hd : d.isRow = true) (hi : (P.info? ty).map (·.size) = some cs.length) :
    (results fn tmps).run P w = .ok (.tuple #[.agg cs.toArray, y]) w := by
  have hp' : tmps[p]?.getD undef = .pointer (some ⟨b, 0, none⟩) := by simpa using hp
  have hq' : tmps[q]?.getD undef = y := by simpa using hq
  simp [results, h, hp', hq', asAddr, run_loadVar_mid w b 0 ty cs d hr hu hd hi]
/-- Three results, the first a struct that lies in memory. -/
theorem res_cell3 {P : Program} {fn : Func} {p q r : Tmp} {ty : TypeId} (h : fn.results = #[.cell p ty, .tmp q, .tmp r]) (tmps : Array Value) (w : World) (b : Nat) (cs : List Value) (d : TypeDesc) (y z : Value)
    (hp : tmps.getD p undef = .pointer (some ⟨b, 0, none⟩)) (hq : tmps.getD q undef = y) (hz : tmps.getD r undef = z) (hr : w.rangeAt b 0 cs) (hu : P.underlying ty = some d) (hd : d.isRow = true) (hi : (P.info? ty).map (·.size) = some cs.length) :
    (results fn tmps).run P w = .ok (.tuple #[.agg cs.toArray, y, z]) w := by
  have hp' : tmps[p]?.getD undef = .pointer (some ⟨b, 0, none⟩) := by simpa using hp
  have hq' : tmps[q]?.getD undef = y := by simpa using hq
  have hz' : tmps[r]?.getD undef = z := by simpa using hz
  simp [results, h, hp', hq', hz', asAddr, run_loadVar_mid w b 0 ty cs d hr hu hd hi]
end Go.Proofs.YtbcclfiopebmpaaGreat
namespace Go.Proofs.YtbcclfiopebmpaaGreat
open Go.RowKit
set_option linter.unusedSimpArgs false
set_option maxRecDepth 100000

theorem infoBear : (Tryz.prog.info? 148).map (fun i => (i.zero, i.size, i.bytes)) = some (some (.agg #[.string ⟨#[]⟩, .string ⟨#[]⟩, .bool false, .int .i64 0]), 4, 48) := by kernel_rfl
theorem infoPrefer : (Tryz.prog.info? 178).map (fun i => (i.zero, i.size, i.bytes)) = some (some (.agg #[.slice none 0 0, .int .i64 0]), 2, 32) := by kernel_rfl
theorem infoSpread : (Tryz.prog.info? 182).map (fun i => (i.zero, i.size, i.bytes)) = some (some (.agg #[.string ⟨#[]⟩, .int .i64 0, .int .i64 0, .slice none 0 0]), 4, 56) := by kernel_rfl
/-- The blocks of the parameter, of the result and of the variable. -/
structure PB (w u : World) (P Z Q : List Value) : Prop where
  p : BoxL u w.heap.size P
  z : BoxL u (w.heap.size + 1) Z
  q : BoxL u (w.heap.size + 1 + 1) Q
  b : Below w.heap.size w u
theorem PB.on {w u u' : World} {P Z Q : List Value} (h : PB w u P Z Q) (hb : Below u.heap.size u u') : PB w u' P Z Q :=
  ⟨h.p.on hb, h.z.on hb, h.q.on hb, on2 h.b hb⟩
theorem PB.set {w u : World} {P Z Q : List Value} (h : PB w u P Z Q) (i : Nat) (v : Value) (hi : i < Q.length) : PB w (u.setCell ⟨w.heap.size + 1 + 1, i, none⟩ v) P Z (Q.set i v) :=
  ⟨h.p.other (by simp; omega) v, h.z.other (by simp) v, h.q.set i v hi, h.b.setCell (by simp; omega) v⟩
theorem PB.sz {w u : World} {P Z Q : List Value} (h : PB w u P Z Q) : w.heap.size + 1 + 1 < u.heap.size := h.q.1
theorem PB.fr {w u W : World} {P Z Q : List Value} (h : PB w u P Z Q) (hW : W.heap.size = w.heap.size + 1 + 1 + 1) : ∀ b, Fresh u b → Fresh W b := fun b hb => show W.heap.size ≤ b by have h1 : u.heap.size ≤ b := hb; have := h.sz; omega

def PfS (w : World) (D off k : Nat) (hp v h0 h1 : Value) (u : World) : Prop :=
  u.cell? ⟨w.heap.size, 8, none⟩ = some hp ∧ u.cell? ⟨w.heap.size + 1 + 1, 8, none⟩ = some v ∧ u.frozen? ⟨w.heap.size + 1 + 1, 8, none⟩ = false ∧ u.cell? ⟨D, off + k * 2, none⟩ = some h0 ∧ u.cell? ⟨D, off + k * 2 + 1, none⟩ = some h1
def TwS (w : World) (h10 h11 : Value) (u : World) : Prop := u.cell? ⟨w.heap.size, 10, none⟩ = some h10 ∧ u.cell? ⟨w.heap.size, 11, none⟩ = some h11

end Go.Proofs.YtbcclfiopebmpaaGreat
namespace Go.Proofs.YtbcclfiopebmpaaGreat
end Go.Proofs.YtbcclfiopebmpaaGreat
namespace Go.Proofs.YtbcclfiopebmpaaGreat
open Go.RowKit

theorem ret_int {k : IntKind} {a b : Int} (h : a = b) : Ending.returned (.int k a) = .returned (.int k b) := by rw [h]

set_option maxHeartbeats 400000 in
theorem clamp_calls (a : Int) (w : World) : Calls Tryz.prog 72 #[.int .i64 a] w fun e w' => e = .returned (.int .i64 (clampI a)) ∧ w' = w := by
  go_enter Tryz.func72, Tryz.ntmps72
  go_wp2
  all_goals (go_ret; exact ⟨ret_int (by unfold clampI; omega), rfl⟩)
set_option maxHeartbeats 400000 in
theorem add_calls (a b : Int) (w : World) : Calls Tryz.prog 52 #[.int .i64 a, .int .i64 b] w fun e w' => e = .returned (.int .i64 (addI a b)) ∧ w' = w := by
  have h1 := clampI_ge a; have h2 := clampI_ge b; have h3 := clampI_le a; have h4 := clampI_le b
  go_enter Tryz.func52, Tryz.ntmps52
  go_wp2_with (go_at_call 72; refine (clamp_calls _ _).mono ?_; rintro e w' ⟨rfl, rfl⟩)
  go_ret
  exact ⟨rfl, rfl⟩
set_option maxHeartbeats 400000 in
theorem sub_calls (a b : Int) (w : World) : Calls Tryz.prog 82 #[.int .i64 a, .int .i64 b] w fun e w' => e = .returned (.int .i64 (subI a b)) ∧ w' = w := by
  have h1 := clampI_ge a; have h2 := clampI_ge b; have h3 := clampI_le a; have h4 := clampI_le b
  go_enter Tryz.func82, Tryz.ntmps82
  go_wp2_with (go_at_call 72; refine (clamp_calls _ _).mono ?_; rintro e w' ⟨rfl, rfl⟩)
  go_ret
  exact ⟨rfl, rfl⟩
end Go.Proofs.YtbcclfiopebmpaaGreat
namespace Go.Proofs.YtbcclfiopebmpaaGreat
open Go.RowKit

abbrev res (a b c : Int) : Value := .agg #[.int .i64 a, .int .i64 b, .int .i64 c]

set_option maxHeartbeats 1000000 in
theorem split_calls (a b c : Int) (w : World) : Calls Tryz.prog 50 #[.agg #[.int .i64 a, .int .i64 b, .int .i64 c]] w fun e w' => e = .returned (.agg #[.int .i64 a, .int .i64 b, .int .i64 c]) ∧ w' = ((w.alloc (.cells #[.int .i64 a, .int .i64 b, .int .i64 c] 24)).alloc (.cells #[.int .i64 a, .int .i64 b, .int .i64 c] 97)) := by
  go_enter Tryz.func50, Tryz.ntmps50
  go_wp2
  exact bodyPost_ret (v := .agg #[.int .i64 a, .int .i64 b, .int .i64 c]) (by simp [results, Tryz.results50, go_sem]) rfl ⟨rfl, rfl⟩
set_option maxHeartbeats 1000000 in
theorem join_calls (a b c : Int) (w : World) : Calls Tryz.prog 51 #[.agg #[.int .i64 a, .int .i64 b, .int .i64 c]] w fun e w' => e = .returned (.agg #[.int .i64 a, .int .i64 b, .int .i64 c]) ∧ w' = ((w.alloc (.cells #[.int .i64 a, .int .i64 b, .int .i64 c] 97)).alloc (.cells #[.int .i64 a, .int .i64 b, .int .i64 c] 24)) := by
  go_enter Tryz.func51, Tryz.ntmps51
  go_wp2
  exact bodyPost_ret (v := .agg #[.int .i64 a, .int .i64 b, .int .i64 c]) (by simp [results, Tryz.results51, go_sem]) rfl ⟨rfl, rfl⟩

theorem join_below (a b c : Int) (w : World) : Calls Tryz.prog 51 #[.agg #[.int .i64 a, .int .i64 b, .int .i64 c]] w fun e w' => e = .returned (.agg #[.int .i64 a, .int .i64 b, .int .i64 c]) ∧ Below w.heap.size w w' :=
  (join_calls a b c w).mono fun e w' ⟨he, hw⟩ => ⟨he, by rw [hw]; exact ((Below.refl _ _).alloc (Nat.le_refl _) _).alloc (by simp) _⟩

set_option maxHeartbeats 400000 in
theorem plus_calls (a b : Int) (w : World) : Calls Tryz.prog 41 #[.int .i64 a, .int .i64 b] w fun e w' => e = .returned (.int .i64 (addI a b)) ∧ w' = w := by
  go_enter Tryz.func41, Tryz.ntmps41
  go_wp2_with (go_at_call 52; refine (add_calls _ _ _).mono ?_; rintro e w' ⟨rfl, rfl⟩)
  go_ret
  exact ⟨rfl, rfl⟩
set_option maxHeartbeats 400000 in
theorem minus_calls (a b : Int) (w : World) : Calls Tryz.prog 54 #[.int .i64 a, .int .i64 b] w fun e w' => e = .returned (.int .i64 (subI a b)) ∧ w' = w := by
  go_enter Tryz.func54, Tryz.ntmps54
  go_wp2_with (go_at_call 82; refine (sub_calls _ _ _).mono ?_; rintro e w' ⟨rfl, rfl⟩)
  go_ret
  exact ⟨rfl, rfl⟩

/-- block B of the world holds just these three numbers -/
def Holds3 (w : World) (B : Nat) (a b c : Int) : Prop := w.cell? ⟨B, 0, none⟩ = some (.int .i64 a) ∧ w.cell? ⟨B, 1, none⟩ = some (.int .i64 b) ∧ w.cell? ⟨B, 2, none⟩ = some (.int .i64 c)

end Go.Proofs.YtbcclfiopebmpaaGreat
namespace Go.Proofs.YtbcclfiopebmpaaGreat
open Go.RowKit
set_option maxRecDepth 100000

theorem ret_b {a b : Bool} (h : a = b) : Ending.returned (.bool a) = .returned (.bool b) := by rw [h]
/-- no member of the first is above the second's -/
def fitsB (a b c x y z : Int) : Bool := decide (clampI a ≤ clampI x) && decide (clampI b ≤ clampI y) && decide (clampI c ≤ clampI z)

end Go.Proofs.YtbcclfiopebmpaaGreat
namespace Go.Proofs.YtbcclfiopebmpaaGreat
open Go.RowKit
set_option linter.unusedSimpArgs false
set_option maxRecDepth 100000

/-- The blocks, and the three rows. -/
structure OfSt (w X u : World) (N Z Q : List Value) (s6 s7 s8 : Value) (A6 : List ByteArray) (A7 : List Int) (A8 : List ByteArray) : Prop where
  b : PB w X N Z Q
  r6 : Row RStr 1 (fun _ => False) X u 9 s6 A6
  r7 : Row RInt 1 (fun _ => False) X u 3 s7 A7
  r8 : Row RStr 1 (fun _ => False) X u 9 s8 A8
  d67 : ∀ b, s6.ownBlock = some b → s7.ownBlock ≠ some b
  d68 : ∀ b, s6.ownBlock = some b → s8.ownBlock ≠ some b
  d78 : ∀ b, s7.ownBlock = some b → s8.ownBlock ≠ some b
section
variable {w X u : World} {N Z Q : List Value} {s6 s7 s8 : Value} {A6 : List ByteArray} {A7 : List Int} {A8 : List ByteArray}
theorem OfSt.on (h : OfSt w X u N Z Q s6 s7 s8 A6 A7 A8) {u' : World} (hb : Below u.heap.size u u') : OfSt w X u' N Z Q s6 s7 s8 A6 A7 A8 :=
  ⟨h.b, h.r6.on RStr.firm hb, h.r7.on RInt.firm hb, h.r8.on RStr.firm hb, h.d67, h.d68, h.d78⟩
theorem OfSt.box (h : OfSt w X u N Z Q s6 s7 s8 A6 A7 A8) : PB w u N Z Q := h.b.on h.r6.below
theorem OfSt.app6 (h : OfSt w X u N Z Q s6 s7 s8 A6 A7 A8) {u' : World} {v : Value} {B : List ByteArray} (hr : Row RStr 1 (fun _ => False) X u' 9 v B) (hg : u.grownBy u' s6.ownBlock) (hp : v.ownBlock = s6.ownBlock ∨ v.ownBlock = some u.heap.size) : OfSt w X u' N Z Q v s7 s8 B A7 A8 := by
  refine ⟨h.b, hr, h.r7.grown RInt.firm hg (fun b hb => ⟨(h.r6.lt hb).1, h.d67 b hb, id⟩), h.r8.grown RStr.firm hg (fun b hb => ⟨(h.r6.lt hb).1, h.d68 b hb, id⟩), fun b hb => ?_, fun b hb => ?_, h.d78⟩
  · rcases hp with hp | hp
    · exact h.d67 b (hp ▸ hb)
    · intro h7; have := (h.r7.lt h7).2; rw [hp] at hb; injection hb with hb; omega
  · rcases hp with hp | hp
    · exact h.d68 b (hp ▸ hb)
    · intro h7; have := (h.r8.lt h7).2; rw [hp] at hb; injection hb with hb; omega
theorem OfSt.app7 (h : OfSt w X u N Z Q s6 s7 s8 A6 A7 A8) {u' : World} {v : Value} {B : List Int} (hr : Row RInt 1 (fun _ => False) X u' 3 v B) (hg : u.grownBy u' s7.ownBlock) (hp : v.ownBlock = s7.ownBlock ∨ v.ownBlock = some u.heap.size) : OfSt w X u' N Z Q s6 v s8 A6 B A8 := by
  refine ⟨h.b, h.r6.grown RStr.firm hg (fun b hb => ⟨(h.r7.lt hb).1, fun e => h.d67 b e hb, id⟩), hr, h.r8.grown RStr.firm hg (fun b hb => ⟨(h.r7.lt hb).1, h.d78 b hb, id⟩), fun b hb h7 => ?_, h.d68, fun b hb => ?_⟩
  · rcases hp with hp | hp
    · exact h.d67 b hb (hp ▸ h7)
    · have := (h.r6.lt hb).2; rw [hp] at h7; injection h7 with h7; omega
  · rcases hp with hp | hp
    · exact h.d78 b (hp ▸ hb)
    · intro h7; have := (h.r8.lt h7).2; rw [hp] at hb; injection hb with hb; omega
theorem OfSt.app8 (h : OfSt w X u N Z Q s6 s7 s8 A6 A7 A8) {u' : World} {v : Value} {B : List ByteArray} (hr : Row RStr 1 (fun _ => False) X u' 9 v B) (hg : u.grownBy u' s8.ownBlock) (hp : v.ownBlock = s8.ownBlock ∨ v.ownBlock = some u.heap.size) : OfSt w X u' N Z Q s6 s7 v A6 A7 B := by
  refine ⟨h.b, h.r6.grown RStr.firm hg (fun b hb => ⟨(h.r8.lt hb).1, fun e => h.d68 b e hb, id⟩), h.r7.grown RInt.firm hg (fun b hb => ⟨(h.r8.lt hb).1, fun e => h.d78 b e hb, id⟩), hr, h.d67, fun b hb h7 => ?_, fun b hb h7 => ?_⟩
  · rcases hp with hp | hp
    · exact h.d68 b hb (hp ▸ h7)
    · have := (h.r6.lt hb).2; rw [hp] at h7; injection h7 with h7; omega
  · rcases hp with hp | hp
    · exact h.d78 b hb (hp ▸ h7)
    · have := (h.r7.lt hb).2; rw [hp] at h7; injection h7 with h7; omega
theorem OfSt.set (h : OfSt w X u N Z Q s6 s7 s8 A6 A7 A8) (i : Nat) (v : Value) (hi : i < Q.length) : OfSt w (X.setCell ⟨w.heap.size + 1 + 1, i, none⟩ v) (u.setCell ⟨w.heap.size + 1 + 1, i, none⟩ v) N Z (Q.set i v) s6 s7 s8 A6 A7 A8 :=
  ⟨h.b.set i v hi, h.r6.both RStr.firm h.b.sz id v, h.r7.both RInt.firm h.b.sz id v, h.r8.both RStr.firm h.b.sz id v, h.d67, h.d68, h.d78⟩
end
def UsS (w : World) (D off : Nat) (ua ub uc wa wb wc : Int) (u : World) : Prop :=
  u.cell? ⟨w.heap.size + 1 + 1, 10, none⟩ = some (.int .i64 ua) ∧ u.cell? ⟨w.heap.size + 1 + 1, 11, none⟩ = some (.int .i64 ub) ∧ u.cell? ⟨w.heap.size + 1 + 1, 12, none⟩ = some (.int .i64 uc) ∧ u.cell? ⟨D, off + 3, none⟩ = some (.int .i64 wa) ∧ u.cell? ⟨D, off + 4, none⟩ = some (.int .i64 wb) ∧ u.cell? ⟨D, off + 5, none⟩ = some (.int .i64 wc)
end Go.Proofs.YtbcclfiopebmpaaGreat
namespace Go.Proofs.YtbcclfiopebmpaaGreat
open Go.RowKit
set_option linter.unusedSimpArgs false
set_option maxRecDepth 100000

theorem infoPod : (Tryz.prog.info? 33).map (fun i => (i.zero, i.size, i.bytes)) = some (some (.agg #[.string ⟨#[]⟩, .int .i64 0, .slice none 0 0, .int .i64 0, .int .i64 0, .int .i64 0, .slice none 0 0, .slice none 0 0, .slice none 0 0, .slice none 0 0, .slice none 0 0, .slice none 0 0, .slice none 0 0, .slice none 0 0, .string ⟨#[]⟩, .string ⟨#[]⟩]), 16, 296) := by kernel_rfl
theorem sizePod : (Tryz.prog.info? 33).map (·.size) = some 16 := by kernel_rfl
theorem RPod.lit {A : Where} {w : World} {cs : List Value} {x : PodD} (h : RPod A w cs x) : ∃ v0 v1 v2 v3 v4 v5 v6 v7 v8 v9 v10 v11 v12 v13 v14 v15 : Value, cs = [v0, v1, v2, v3, v4, v5, v6, v7, v8, v9, v10, v11, v12, v13, v14, v15] := by
  obtain ⟨_, _, _, _, _, _, _, _, _, rfl, _⟩ := h.out
  exact ⟨_, _, _, _, _, _, _, _, _, _, _, _, _, _, _, _, rfl⟩
end Go.Proofs.YtbcclfiopebmpaaGreat
namespace Go.Proofs.YtbcclfiopebmpaaGreat
open Go.RowKit
set_option linter.unusedSimpArgs false
set_option maxRecDepth 100000

def zeroInfo : InfoD := ((⟨#[]⟩, [], [], false, (0, 0, 0), 0, 0), [], (0, 0, 0), [], [])
def dropP (i : InfoD) (p : PodD) (rest : List PodD) : InfoD × Int := if hasB sEq i.2.1 p.1 = true then (ofP i.1 (restP i p rest), 0) else (zeroInfo, 5)
def keepP (i : InfoD) (p q : PodD) : Bool := !sEq q.1 p.1 && hasB sEq i.2.1 q.1
theorem zeroInfo_at (A F : Where) (w : World) : InfoAt A F w [.string ⟨#[]⟩, .slice none 0 0, .slice none 0 0, .bool false, .int .i64 0, .int .i64 0, .int .i64 0, .int .i64 0, .int .i64 0, .slice none 0 0, .int .i64 0, .int .i64 0, .int .i64 0, .slice none 0 0, .slice none 0 0] zeroInfo := by
  have z : ∀ {α : Type} [Inhabited α] (Rr : Rep α) (k by_ : Nat) (B : Where), RSl Rr k by_ B w [.slice none 0 0] [] := fun Rr k by_ B => ⟨none, 0, 0, rfl, SlAt.nil _ _ _ _ (fun _ => rfl)⟩
  exact ⟨[.string ⟨#[]⟩, .slice none 0 0, .slice none 0 0, .bool false, .int .i64 0, .int .i64 0, .int .i64 0, .int .i64 0, .int .i64 0], [.slice none 0 0, .int .i64 0, .int .i64 0, .int .i64 0, .slice none 0 0, .slice none 0 0], rfl,
    RNode.mk (x := (⟨#[]⟩, [], [], false, (0, 0, 0), 0, 0)) (h1 := (none, 0, 0)) (h2 := (none, 0, 0)) (by decide) (SlAt.nil _ _ _ _ (fun _ => rfl)) (SlAt.nil _ _ _ _ (fun _ => rfl)),
    ⟨[.slice none 0 0], _, rfl, z RStr 1 16 F, ⟨[.int .i64 0, .int .i64 0, .int .i64 0], _, rfl, RRes.mk (x := (0, 0, 0)), ⟨[.slice none 0 0], _, rfl, z RInt 1 8 F, z RStr 1 16 F⟩⟩⟩⟩
theorem sumBy_filter {α : Type} (f : α → Nat) (p : α → Bool) (L : List α) : sumBy f (L.filter p) ≤ sumBy f L := by
  induction L with
  | nil => simp [sumBy]
  | cons a L ih =>
    simp only [sumBy, List.filter_cons, List.map_cons, List.sum_cons] at ih ⊢
    split
    · simp only [List.map_cons, List.sum_cons]; omega
    · omega
theorem FitsP.filter {L : List PodD} (h : FitsP L) (p : PodD → Bool) : FitsP (L.filter p) := by
  have h1 := sumBy_filter (fun p => (pPorts p).length) p L
  have h2 := sumBy_filter (fun p => (pClaims p).length) p L
  obtain ⟨h3, h4⟩ := h
  exact ⟨by omega, by omega⟩
theorem filter_succ {α : Type} [Inhabited α] (p : α → Bool) (L : List α) {k : Nat} (hk : k < L.length) : (L.take (k + 1)).filter p = (L.take k).filter p ++ (if p (L.getD k default) = true then [L.getD k default] else []) := by
  rw [← take_at hk, List.filter_append]
  congr 1
  simp only [List.filter_cons, List.filter_nil]
/-- The blocks of two parameters and of the result. -/
structure PB3 (w u : World) (P Y Z : List Value) : Prop where
  p : BoxL u w.heap.size P
  y : BoxL u (w.heap.size + 1) Y
  z : BoxL u (w.heap.size + 1 + 1) Z
  b : Below w.heap.size w u
theorem PB3.on {w u u' : World} {P Y Z : List Value} (h : PB3 w u P Y Z) (hb : Below u.heap.size u u') : PB3 w u' P Y Z := ⟨h.p.on hb, h.y.on hb, h.z.on hb, on2 h.b hb⟩
theorem PB3.sz {w u : World} {P Y Z : List Value} (h : PB3 w u P Y Z) : w.heap.size + 1 + 1 < u.heap.size := h.z.1
end Go.Proofs.YtbcclfiopebmpaaGreat
namespace Go.Proofs.YtbcclfiopebmpaaGreat
open Go.RowKit
set_option linter.unusedSimpArgs false
set_option maxRecDepth 100000

end Go.Proofs.YtbcclfiopebmpaaGreat
namespace Go.Proofs.YtbcclfiopebmpaaGreat
open Go.RowKit
set_option linter.unusedSimpArgs false
set_option maxRecDepth 100000

theorem want_yes {c : Prop} [Decidable c] {A B : Prop} (h : c) (k : A) : if c then A else B := by rw [if_pos h]; exact k
theorem at_world {K : Act → World → Prop} {a : Act} {u W : World} (h : W = u) (k : K a W) : K a u := h ▸ k
def addE (i : InfoD) (p : PodD) : InfoD × Int := if hasB sEq i.2.1 p.1 = true then (zeroInfo, 6) else (addP i p, 0)
def FitsA (i : InfoD) (p : PodD) : Prop := (i.2.1.length + 1) * 16 ≤ 140737488351232 ∧ (i.2.2.2.1.length + (pPorts p).length) * 8 ≤ 140737488351232 ∧ (i.2.2.2.2.length + (pClaims p).length) * 16 ≤ 140737488351232
def AdS (w : World) (P Y : List Value) (u : World) : Prop := BoxL u w.heap.size P ∧ BoxL u (w.heap.size + 1) Y
end Go.Proofs.YtbcclfiopebmpaaGreat
namespace Go.Proofs.YtbcclfiopebmpaaGreat
open Go.RowKit
set_option linter.unusedSimpArgs false

theorem mem_insB {α : Type} {lt eq : α → α → Bool} (he : ∀ a b, eq a b = true → a = b) (s x : α) : ∀ L : List α, x ∈ insB lt eq L s ↔ x ∈ L ∨ x = s
  | [] => by simp [insB]
  | y :: L => by
    have ih := mem_insB (lt := lt) he s x L
    unfold insB
    split
    · simp only [List.mem_cons, ih]
      constructor
      · rintro (h | h | h)
        · exact .inl (.inl h)
        · exact .inl (.inr h)
        · exact .inr h
      · rintro ((h | h) | h)
        · exact .inl h
        · exact .inr (.inl h)
        · exact .inr (.inr h)
    · split
      · rename_i h1 h2
        have := he _ _ h2
        subst this
        simp only [List.mem_cons]
        constructor
        · intro h; exact .inl h
        · rintro (h | h)
          · exact h
          · exact .inl h
      · simp only [List.mem_cons]
        constructor
        · rintro (h | h | h)
          · exact .inr h
          · exact .inl (.inl h)
          · exact .inl (.inr h)
        · rintro ((h | h) | h)
          · exact .inr (.inl h)
          · exact .inr (.inr h)
          · exact .inl h
theorem mem_foldB {α : Type} {lt eq : α → α → Bool} (he : ∀ a b, eq a b = true → a = b) (x : α) : ∀ (L M : List α), x ∈ L.foldl (insB lt eq) M ↔ x ∈ M ∨ x ∈ L
  | [], M => by simp
  | y :: L, M => by
    rw [List.foldl_cons, mem_foldB he x L (insB lt eq M y), mem_insB he]
    simp only [List.mem_cons]
    constructor
    · rintro ((h | h) | h)
      · exact .inl h
      · exact .inr (.inl h)
      · exact .inr (.inr h)
    · rintro (h | h | h)
      · exact .inl (.inl h)
      · exact .inl (.inr h)
      · exact .inr h
theorem mem_sortB {α : Type} {lt eq : α → α → Bool} (he : ∀ a b, eq a b = true → a = b) (x : α) (L : List α) : x ∈ sortB lt eq L ↔ x ∈ L := by
  unfold sortB; rw [mem_foldB he]; simp
theorem hasB_iff {α : Type} {eq : α → α → Bool} (he : ∀ a b, eq a b = true ↔ a = b) (L : List α) (s : α) : hasB eq L s = true ↔ s ∈ L := by
  unfold hasB
  rw [List.any_eq_true]
  constructor
  · rintro ⟨x, h1, h2⟩; rw [← (he x s).1 h2]; exact h1
  · intro h; exact ⟨s, h, (he s s).2 rfl⟩
theorem hasS_iff (L : List ByteArray) (s : ByteArray) : hasB sEq L s = true ↔ s ∈ L := hasB_iff sEq_iff L s
theorem iEq_iff (a b : Int) : iEq a b = true ↔ a = b := by simp [iEq]
theorem mem_sorted (x : ByteArray) (L : List ByteArray) : x ∈ sortB sLt sEq L ↔ x ∈ L := mem_sortB (fun a b h => (sEq_iff a b).1 h) x L
theorem acc_names (s : ByteArray) : ∀ (L : List PodD) (a : AccD), s ∈ (L.foldl ofStep a).1 ↔ s ∈ a.1 ∨ ∃ p ∈ L, p.1 = s
  | [], a => by simp
  | p :: L, a => by
    rw [List.foldl_cons, acc_names s L (ofStep a p)]
    have h : s ∈ (ofStep a p).1 ↔ s ∈ a.1 ∨ p.1 = s := by
      unfold ofStep
      split
      · rename_i h
        rw [hasS_iff] at h
        constructor
        · exact .inl
        · rintro (h1 | h1)
          · exact h1
          · rw [← h1]; exact h
      · simp only [List.mem_append, List.mem_singleton]
        constructor
        · rintro (h1 | h1)
          · exact .inl h1
          · exact .inr h1.symm
        · rintro (h1 | h1)
          · exact .inl h1
          · exact .inr h1.symm
    rw [h]
    simp only [List.mem_cons, exists_eq_or_imp, or_assoc]
theorem of_names (n : NodeD) (L : List PodD) (s : ByteArray) : hasB sEq (ofP n L).2.1 s = true ↔ ∃ p ∈ L, p.1 = s := by
  rw [hasS_iff]
  show s ∈ sortB sLt sEq (ofAcc L).1 ↔ _
  rw [mem_sorted]
  unfold ofAcc
  rw [acc_names]
  simp
theorem add_names (i : InfoD) (p : PodD) (s : ByteArray) : hasB sEq (addP i p).2.1 s = true ↔ hasB sEq i.2.1 s = true ∨ s = p.1 := by
  rw [hasS_iff, hasS_iff]
  show s ∈ sortB sLt sEq (i.2.1 ++ [p.1]) ↔ _
  rw [mem_sorted]
  simp
/-- Those that are left are those that were there. -/
theorem rest_back (n : NodeD) (L : List PodD) (p : PodD) (h : hasB sEq (ofP n L).2.1 p.1 = false) : restP (addP (ofP n L) p) p (L ++ [p]) = L := by
  unfold restP
  rw [List.filter_append]
  have h1 : [p].filter (fun q => !sEq q.1 p.1 && hasB sEq (addP (ofP n L) p).2.1 q.1) = [] := by simp [sEq_self]
  rw [h1, List.append_nil]
  rw [List.filter_eq_self]
  intro q hq
  have h2 : hasB sEq (ofP n L).2.1 q.1 = true := (of_names n L q.1).2 ⟨q, hq, rfl⟩
  have h3 : sEq q.1 p.1 = false := by
    rw [← Bool.not_eq_true, sEq_iff]
    intro e
    rw [e] at h2
    rw [h2] at h
    cases h
  rw [h3, (add_names _ _ _).2 (.inl h2)]
  rfl
theorem back_plain (n : NodeD) (L : List PodD) (p : PodD) (h : hasB sEq (ofP n L).2.1 p.1 = false) : dropP (addP (ofP n L) p) p (L ++ [p]) = (ofP n L, 0) := by
  have h1 : hasB sEq (addP (ofP n L) p).2.1 p.1 = true := (add_names _ _ _).2 (.inr rfl)
  unfold dropP
  rw [if_pos h1, rest_back n L p h]
  rfl
end Go.Proofs.YtbcclfiopebmpaaGreat
namespace Go.Proofs.YtbcclfiopebmpaaGreat
open Go.RowKit
set_option linter.unusedSimpArgs false

theorem bl_irr : ∀ a : List UInt8, Op.bytesLess a a = false
  | [] => rfl
  | a :: x => by simp [Op.bytesLess, bl_irr x]
theorem bl_tot : ∀ a b : List UInt8, a ≠ b → Op.bytesLess b a = !Op.bytesLess a b
  | [], [], h => absurd rfl h
  | [], _ :: _, _ => rfl
  | _ :: _, [], _ => rfl
  | a :: x, b :: y, h => by
    by_cases e : a = b
    · subst e
      have ih := bl_tot x y (fun e => h (by rw [e]))
      simp [Op.bytesLess, ih]
    · have hne : a.toNat ≠ b.toNat := fun h' => e (UInt8.toNat_inj.1 h')
      by_cases hl : a < b
      · have h1 : ¬ b < a := fun h' => by have p : a.toNat < b.toNat := hl; have q : b.toNat < a.toNat := h'; omega
        have e2 : ¬ b = a := fun e' => e e'.symm
        simp [Op.bytesLess, hl, h1, e2]
      · have h1 : b < a := by
          show b.toNat < a.toNat
          have : ¬ a.toNat < b.toNat := hl
          omega
        simp [Op.bytesLess, hl, h1, e]
theorem bl_trans : ∀ a b c : List UInt8, Op.bytesLess a b = true → Op.bytesLess b c = true → Op.bytesLess a c = true
  | _, [], _, h, _ => by simp [Op.bytesLess] at h
  | _, _ :: _, [], _, h => by simp [Op.bytesLess] at h
  | [], _ :: _, _ :: _, _, _ => rfl
  | a :: x, b :: y, c :: z, h1, h2 => by
    simp only [Op.bytesLess, Bool.or_eq_true, Bool.and_eq_true, decide_eq_true_eq, beq_iff_eq] at h1 h2 ⊢
    rcases h1 with h1 | ⟨rfl, h1⟩ <;> rcases h2 with h2 | ⟨rfl, h2⟩
    · exact .inl (UInt8.lt_trans h1 h2)
    · exact .inl h1
    · exact .inl h2
    · exact .inr ⟨rfl, bl_trans x y z h1 h2⟩
section
variable {α : Type} {lt eq : α → α → Bool}
structure OrdB (lt eq : α → α → Bool) : Prop where
  eqi : ∀ a b, eq a b = true ↔ a = b
  irr : ∀ a, lt a a = false
  tr : ∀ a b c, lt a b = true → lt b c = true → lt a c = true
  tot : ∀ a b, a ≠ b → lt a b = true ∨ lt b a = true
def UpB (lt : α → α → Bool) (L : List α) : Prop := L.Pairwise (fun a b => lt a b = true)
theorem UpB.ins (h : OrdB lt eq) (s : α) : ∀ L : List α, UpB lt L → UpB lt (insB lt eq L s)
  | [], _ => by simp [insB, UpB]
  | x :: xs, hL => by
    obtain ⟨h1, h2⟩ := List.pairwise_cons.1 hL
    unfold insB
    split
    · rename_i h3
      refine List.pairwise_cons.2 ⟨fun y hy => ?_, UpB.ins h s xs h2⟩
      rcases (mem_insB (fun a b e => (h.eqi a b).1 e) s y xs).1 hy with h4 | h4
      · exact h1 y h4
      · rw [h4]; exact h3
    · split
      · exact hL
      · rename_i h3 h4
        have hne : x ≠ s := fun e => h4 ((h.eqi x s).2 e)
        have hlt : lt s x = true := (h.tot x s hne).resolve_left h3
        refine List.pairwise_cons.2 ⟨fun y hy => ?_, hL⟩
        rcases List.mem_cons.1 hy with h5 | h5
        · rw [h5]; exact hlt
        · exact h.tr s x y hlt (h1 y h5)
theorem UpB.sort (h : OrdB lt eq) (L : List α) : UpB lt (sortB lt eq L) := by
  unfold sortB
  suffices H : ∀ (L M : List α), UpB lt M → UpB lt (L.foldl (insB lt eq) M) from H L [] List.Pairwise.nil
  intro L
  induction L with
  | nil => intro M hM; exact hM
  | cons x L ih => intro M hM; exact ih _ (UpB.ins h x M hM)
theorem UpB.one (h : OrdB lt eq) : ∀ L M : List α, UpB lt L → UpB lt M → (∀ x, x ∈ L ↔ x ∈ M) → L = M
  | [], [], _, _, _ => rfl
  | [], y :: ys, _, _, hm => absurd ((hm y).2 List.mem_cons_self) (by simp)
  | x :: xs, [], _, _, hm => absurd ((hm x).1 List.mem_cons_self) (by simp)
  | x :: xs, y :: ys, hL, hM, hm => by
    obtain ⟨a1, a2⟩ := List.pairwise_cons.1 hL
    obtain ⟨b1, b2⟩ := List.pairwise_cons.1 hM
    have e : x = y := by
      rcases List.mem_cons.1 ((hm x).1 List.mem_cons_self) with h1 | h1
      · exact h1
      · rcases List.mem_cons.1 ((hm y).2 List.mem_cons_self) with h2 | h2
        · exact h2.symm
        · have := h.tr x y x (a1 y h2) (b1 x h1)
          rw [h.irr] at this
          cases this
    subst e
    have ne : ∀ z, lt x z = true → z ≠ x := fun z hz e => by rw [e, h.irr] at hz; cases hz
    rw [UpB.one h xs ys a2 b2 (fun z => ⟨fun hz => ?_, fun hz => ?_⟩)]
    · exact (List.mem_cons.1 ((hm z).1 (List.mem_cons_of_mem _ hz))).resolve_left (ne z (a1 z hz))
    · exact (List.mem_cons.1 ((hm z).2 (List.mem_cons_of_mem _ hz))).resolve_left (ne z (b1 z hz))
theorem sort_eq (h : OrdB lt eq) {L M : List α} (hm : ∀ x, x ∈ L ↔ x ∈ M) : sortB lt eq L = sortB lt eq M :=
  UpB.one h _ _ (UpB.sort h L) (UpB.sort h M) (fun x => by rw [mem_sortB (fun a b e => (h.eqi a b).1 e), mem_sortB (fun a b e => (h.eqi a b).1 e)]; exact hm x)
end
theorem ordI : OrdB iLt iEq := ⟨iEq_iff, by simp [iLt], by simp only [iLt, decide_eq_true_eq]; omega, by simp only [iLt, decide_eq_true_eq]; omega⟩
theorem toList_inj {a b : ByteArray} (h : a.toList = b.toList) : a = b := (sEq_iff a b).1 (by simp [sEq, h])
theorem ordS : OrdB sLt sEq := ⟨sEq_iff, fun a => bl_irr _, fun a b c h1 h2 => bl_trans _ _ _ h1 h2, fun a b h => by
  have := bl_tot a.toList b.toList (fun e => h (toList_inj e))
  unfold sLt
  cases h1 : Op.bytesLess a.toList b.toList
  · right; rw [this, h1]; rfl
  · left; rfl⟩
def wantSum (u : ResD) (L : List PodD) : ResD := L.foldl (fun u p => plusR u (pWant p)) u
/-- All of them, each for itself. -/
def allP (n : NodeD) (L : List PodD) : InfoD := (n, sortB sLt sEq (L.map (·.1)), wantSum (0, 0, 0) L, sortB iLt iEq (L.flatMap pPorts), sortB sLt sEq (L.flatMap pClaims))
theorem add_all (n : NodeD) (L : List PodD) (p : PodD) : addP (allP n L) p = allP n (L ++ [p]) := by
  have h1 : sortB sLt sEq (sortB sLt sEq (L.map (·.1)) ++ [p.1]) = sortB sLt sEq ((L ++ [p]).map (·.1)) := sort_eq ordS (fun x => by simp [mem_sorted])
  have h2 : sortB iLt iEq (sortB iLt iEq (L.flatMap pPorts) ++ pPorts p) = sortB iLt iEq ((L ++ [p]).flatMap pPorts) := sort_eq ordI (fun x => by simp [mem_sortB (fun a b e => (iEq_iff a b).1 e)])
  have h3 : sortB sLt sEq (sortB sLt sEq (L.flatMap pClaims) ++ pClaims p) = sortB sLt sEq ((L ++ [p]).flatMap pClaims) := sort_eq ordS (fun x => by simp [mem_sorted])
  show ((n, sortB sLt sEq (sortB sLt sEq (L.map (·.1)) ++ [p.1]), plusR (wantSum (0, 0, 0) L) (pWant p), sortB iLt iEq (sortB iLt iEq (L.flatMap pPorts) ++ pPorts p), sortB sLt sEq (sortB sLt sEq (L.flatMap pClaims) ++ pClaims p)) : InfoD) = allP n (L ++ [p])
  rw [h1, h2, h3]
  unfold allP
  simp [wantSum]
theorem of_nil (n : NodeD) : ofP n [] = allP n [] := rfl
theorem fold_add (n : NodeD) : ∀ (P Q : List PodD), P.foldl addP (allP n Q) = allP n (Q ++ P)
  | [], Q => by simp
  | p :: P, Q => by rw [List.foldl_cons, add_all, fold_add n P]; simp
theorem acc_each : ∀ (L : List PodD) (a : AccD), (L.map (·.1)).Nodup → (∀ p ∈ L, p.1 ∉ a.1) → L.foldl ofStep a = (a.1 ++ L.map (·.1), wantSum a.2.1 L, a.2.2.1 ++ L.flatMap pPorts, a.2.2.2 ++ L.flatMap pClaims)
  | [], a, _, _ => by simp [wantSum]
  | p :: L, a, hn, hd => by
    simp only [List.map_cons, List.nodup_cons, List.mem_map, not_exists, not_and] at hn
    have hno : ¬ hasB sEq a.1 p.1 = true := by rw [hasS_iff]; exact hd p List.mem_cons_self
    have e : ofStep a p = (a.1 ++ [p.1], plusR a.2.1 (pWant p), a.2.2.1 ++ pPorts p, a.2.2.2 ++ pClaims p) := by unfold ofStep; rw [if_neg hno]
    rw [List.foldl_cons, e, acc_each L _ hn.2 (fun q hq => by
      simp only [List.mem_append, List.mem_singleton, not_or]
      exact ⟨hd q (List.mem_cons_of_mem _ hq), hn.1 q hq⟩)]
    simp [wantSum]
theorem of_all (n : NodeD) (L : List PodD) (hn : (L.map (·.1)).Nodup) : ofP n L = allP n L := by
  have := acc_each L ([], (0, 0, 0), [], []) hn (fun p _ => by simp)
  unfold ofP accInfo ofAcc
  rw [this]
  rfl
theorem plusR_swap (u a b : ResD) : plusR (plusR u a) b = plusR (plusR u b) a := by
  have h : ∀ x y z : Int, addI (addI x y) z = addI (addI x z) y := fun x y z => by rw [addI_assoc, addI_comm y z, ← addI_assoc]
  simp [plusR, h]
theorem all_perm (n : NodeD) {P L : List PodD} (h : P.Perm L) : allP n P = allP n L := by
  have h1 : sortB sLt sEq (P.map (·.1)) = sortB sLt sEq (L.map (·.1)) := sort_eq ordS (fun x => (h.map _).mem_iff)
  have h2 : sortB iLt iEq (P.flatMap pPorts) = sortB iLt iEq (L.flatMap pPorts) := sort_eq ordI (fun x => by simp only [List.mem_flatMap, h.mem_iff])
  have h3 : sortB sLt sEq (P.flatMap pClaims) = sortB sLt sEq (L.flatMap pClaims) := sort_eq ordS (fun x => by simp only [List.mem_flatMap, h.mem_iff])
  have h4 : wantSum (0, 0, 0) P = wantSum (0, 0, 0) L := h.foldl_eq' (fun a _ b _ u => plusR_swap u (pWant a) (pWant b)) _
  unfold allP
  rw [h1, h2, h3, h4]
/-- In whatever order they come. -/
theorem order_plain (n : NodeD) {P L : List PodD} (h : P.Perm L) (hn : (L.map (·.1)).Nodup) : P.foldl addP (ofP n []) = ofP n L := by
  rw [of_nil, fold_add, of_all n L hn, List.nil_append, all_perm n h]
theorem order_ok (n : NodeD) {P : List PodD} (hn : (P.map (·.1)).Nodup) {j : Nat} (hj : j < P.length) : hasB sEq ((P.take j).foldl addP (ofP n [])).2.1 (P.getD j default).1 = false := by
  rw [of_nil, fold_add, List.nil_append, ← Bool.not_eq_true, hasS_iff]
  show ¬ _ ∈ sortB sLt sEq ((P.take j).map (·.1))
  rw [mem_sorted]
  intro hm
  have e : P.map (·.1) = (P.take j).map (·.1) ++ (P.drop j).map (·.1) := by rw [← List.map_append, List.take_append_drop]
  rw [e] at hn
  have hd := (List.nodup_append.1 hn).2.2
  refine hd _ hm _ ?_ rfl
  rw [getE _ _ hj]
  exact List.mem_map.2 ⟨P[j], by rw [List.mem_drop_iff_getElem]; exact ⟨0, by simpa using hj, by simp⟩, rfl⟩
end Go.Proofs.YtbcclfiopebmpaaGreat
namespace Go.Proofs.YtbcclfiopebmpaaGreat
open Go.RowKit
set_option linter.unusedSimpArgs false

def pBears (p : PodD) : List Bear := p.2.2.2.2.1
def pAsks (p : PodD) : List Ask := p.2.2.2.2.2.1
def wantP (p : PodD) : ResD := (clampI (pWant p).1, clampI (pWant p).2.1, clampI (pWant p).2.2)
def offB (i : InfoD) : Bool := i.1.2.2.2.1
def kepB (p : PodD) (i : InfoD) : Bool := (keptT i.1.2.2.1 (pBears p)).2
def askB (p : PodD) (i : InfoD) : Bool := !matchL i.1.2.1 (pAsks p)
def cntB (i : InfoD) : Bool := decide (i.1.2.2.2.2.2.1 ≤ (i.2.1.length : Int))
def cpuB (p : PodD) (i : InfoD) : Bool := decide ((freeP i).1 < (wantP p).1)
def memB (p : PodD) (i : InfoD) : Bool := decide ((freeP i).2.1 < (wantP p).2.1)
def dskB (p : PodD) (i : InfoD) : Bool := decide ((freeP i).2.2 < (wantP p).2.2)
/-- Each reason, and whether it is. -/
def whyR (p : PodD) (i : InfoD) : List (Int × Bool) :=
  [(1, offB i), (2, kepB p i), (3, askB p i), (4, clashP i p), (5, cntB i), (6, cpuB p i), (7, memB p i), (8, dskB p i)]
def yes (l : List (Int × Bool)) : List Int := (l.filter (·.2)).map (·.1)
def whyL (p : PodD) (i : InfoD) : List Int := yes (whyR p i)
def why1 (p : PodD) (i : InfoD) : Int := (whyL p i).headD 0
end Go.Proofs.YtbcclfiopebmpaaGreat
namespace Go.Proofs.YtbcclfiopebmpaaGreat
open Go.RowKit
set_option linter.unusedSimpArgs false
set_option maxRecDepth 100000

theorem clash_succ (V : List Int) (L : List Int) {k : Nat} (hk : k < L.length) : (L.take (k + 1)).any (fun q => hasB iEq V q) = ((L.take k).any (fun q => hasB iEq V q) || hasB iEq V (L.getD k default)) := by
  rw [← take_at hk]; simp
end Go.Proofs.YtbcclfiopebmpaaGreat
