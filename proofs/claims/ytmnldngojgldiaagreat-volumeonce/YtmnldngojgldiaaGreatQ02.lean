/- A row of one's own of nested data that is built piece by piece, by appends. Plain facts on worlds. No condition. Words, numbers, labels and what is asked of them, as plain functions over texts' bytes. Plain mathematics, no program. No condition. Taints, what is borne, and what bears what, as plain functions; how slices of them lie in memory. No program. No condition. -/
import Derived.Test.YtmnldngojgldiaaGreatQ01
import Derived.Maps.AppendAt
namespace Go.Proofs.YtmnldngojgldiaaGreat
open Go.RowKit
set_option linter.unusedSimpArgs false

/-- The blocks that have come since. -/
def Fresh (w : World) : Where := fun b => w.heap.size ≤ b
theorem Fresh.not {w : World} {D : Nat} (h : D < w.heap.size) : ¬ Fresh w D := fun k => absurd h (Nat.not_lt.2 k)

theorem idx_part (i l k j : Nat) (h : l ≤ i) : i * k + j - l * k = (i - l) * k + j := by
  have : l * k ≤ i * k := Nat.mul_le_mul_right k h
  rw [Nat.sub_mul]
  omega
section
variable {α : Type} [Inhabited α] {R : Rep α} {k : Nat}
/-- A row of one's own: what it holds lies elsewhere, where A says. -/
def Row (R : Rep α) (k : Nat) (A : Where) (w0 u : World) (e : TypeId) (v : Value) (L : List α) : Prop :=
  ∃ xs, Own w0 u e k v L.length xs ∧ Chunks R k (fun b => A b ∧ v.ownBlock ≠ some b) u xs L
theorem Row.below {A : Where} {w0 u : World} {e : TypeId} {v : Value} {L : List α} (h : Row R k A w0 u e v L) : Below w0.heap.size w0 u := by
  obtain ⟨xs, h, _⟩ := h; exact h.1
theorem Row.nil (A : Where) (w : World) (e : TypeId) : Row R k A w w e (.slice none 0 0) [] := ⟨[], ⟨Below.refl _ _, by simp, .inl ⟨rfl, rfl⟩⟩, Chunks.nil _ _⟩
theorem Row.start (A : Where) (w u : World) (e : TypeId) (hb : Below w.heap.size w u) : Row R k A w (u.alloc (.cells #[] e)) e (.slice (some ⟨u.heap.size, 0, none⟩) 0 0) [] :=
  ⟨[], Own.start w u e k hb, Chunks.nil _ _⟩
theorem Row.on (hR : Firm R k) {A : Where} {w0 u u' : World} {e : TypeId} {v : Value} {L : List α} (h : Row R k A w0 u e v L) (hb : Below u.heap.size u u') : Row R k A w0 u' e v L := by
  obtain ⟨xs, h1, h2⟩ := h
  exact ⟨xs, h1.on hb, h2.kept hR (Kept.below hb)⟩
/-- From an elder world on. -/
theorem Row.from {A A' : Where} (hR : Firm R k) {w0 w1 u : World} {e : TypeId} {v : Value} {L : List α} (h : Row R k A w1 u e v L) (hb : Below w0.heap.size w0 w1) (hA : ∀ b, A b → A' b) : Row R k A' w0 u e v L := by
  obtain ⟨xs, h1, h2⟩ := h
  exact ⟨xs, ⟨on2 hb h1.1, Go.Joins.ownsRow_le h1.2 hb.size⟩, h2.weak hR (fun b _ h => ⟨hA b h.1, h.2⟩)⟩
/-- What it is in the end. -/
theorem Row.sl (hR : Firm R k) {bytes : Nat} {A : Where} {w0 u : World} {e : TypeId} {v : Value} {L : List α} (h : Row R k A w0 u e v L) (hb : L.length * bytes ≤ 140737488351232) :
    ∃ a cap, v = .slice a L.length cap ∧ SlAt R k bytes (fun b => A b ∨ Fresh w0 b) u a L.length cap L := by
  obtain ⟨xs, h1, h2⟩ := h
  obtain ⟨a, cap, e1, h3⟩ := sl_of_owns (bytes := bytes) hR h1.2 h2 hb
  refine ⟨a, cap, e1, h3.weak hR (fun b _ hb => ?_)⟩
  rcases hb with hb | hb
  · exact .inl hb.1
  · exact .inr (h1.2.lt b hb).1
/-- The same, where all of it has come since. -/
theorem Row.slF (hR : Firm R k) {bytes : Nat} {w0 u : World} {e : TypeId} {v : Value} {L : List α} (h : Row R k (Fresh w0) w0 u e v L) (hb : L.length * bytes ≤ 140737488351232) :
    ∃ a cap, v = .slice a L.length cap ∧ SlAt R k bytes (Fresh w0) u a L.length cap L := by
  obtain ⟨a, cap, e1, h3⟩ := h.sl hR hb
  exact ⟨a, cap, e1, h3.weak hR (fun b _ hb => by rcases hb with hb | hb <;> exact hb)⟩

/-- An append to one's own row, whatever the region. -/
theorem row_append_wp (hR : Firm R k) {o : Oper} {a : Act} {K : Act → World → Prop} {Q : Exit → Act → World → Prop} {A : Where} {w0 u : World} (s x : Operand) (t e : TypeId)
    (ho : o.op = .call { callee := .builtin .append, args := #[s, x], argTypes := #[t, t] }) (z : Value) (bytes : Nat) (hinfo : (Tryz.prog.info? e).map (fun i => (i.zero, i.size, i.bytes)) = some (some z, k, bytes)) (ht : Tryz.prog.underlying t = some (.slice e)) (hzs : z.cells.size = k) (hk0 : 0 < k) (hby : 1 ≤ bytes)
    (v : Value) (L : List α) (hs : a.eval s = v) (hrow : Row R k A w0 u e v L)
    (ad : Addr) (m c : Nat) (news : List Value) (N : List α) (hm : N.length = m) (hx : a.eval x = .slice (some ad) m c) (hN : Chunks R k (fun b => A b ∧ v.ownBlock ≠ some b) u news N) (hcells : ∀ j y, news[j]? = some y → u.cell? (ad.add j) = some y) (h1 : ∀ y ∈ news, y.oneCell' = true) (hb : (L.length + N.length) * bytes ≤ 140737488355328)
    (h : ∀ v' u', Row R k A w0 u' e v' (L ++ N) → u.grownBy u' v.ownBlock → K (a.put o.dst v') u') : o.wp Tryz.prog a u K Q := by
  subst hm
  obtain ⟨i0, hi, hz0, hz1, hz2⟩ := info_parts hinfo
  obtain ⟨xs, hown, hch⟩ := hrow
  have hmul : (L.length + N.length) * 1 ≤ (L.length + N.length) * bytes := Nat.mul_le_mul_left _ hby
  obtain ⟨v', u', hr, h2, h3, h4, h5⟩ := run_append_own_at (P := Tryz.prog) u w0.heap.size t o.type e i0 z k bytes ht hi hz0 hz1 hz2 hzs hk0 v L.length xs hown.2 ad N.length c news hN.1 hcells h1 (by unfold maxLen; omega) hb hown.1.size
  unfold Oper.wp execOp
  simp only [ho, resolve, invoke, builtin, Sem.run_bind, Sem.run_pure, Result.andThen_ok, List.map_toArray, List.map_cons, List.map_nil, hs, hx, hr]
  refine (h v' u' ⟨xs ++ news, ⟨hown.row h3, by rw [List.length_append]; exact h2⟩, ?_⟩ h3)
  have put : ∀ {ys : List Value} {M : List α}, Chunks R k (fun b => A b ∧ v.ownBlock ≠ some b) u ys M → Chunks R k (fun b => A b ∧ v'.ownBlock ≠ some b) u' ys M := fun {ys M} hc => by
    have c1 := hc.weak hR (A' := fun b => (A b ∧ v.ownBlock ≠ some b) ∧ b < u.heap.size) (fun b hb h => ⟨h, hb⟩)
    have c2 := c1.kept hR (Kept.grown h3 (fun b e => fun h => h.1.2 e))
    refine c2.weak hR (fun b _ h => ⟨h.1.1, fun e => ?_⟩)
    rcases h5 with h5 | h5
    · rw [h5] at e; exact h.1.2 e
    · rw [h5] at e
      have : u.heap.size = b := by simpa using e
      exact absurd h.2 (by omega)
  obtain ⟨l1, c1⟩ := put hch
  obtain ⟨l2, c2⟩ := put hN
  refine ⟨by rw [List.length_append, List.length_append, l1, l2, Nat.add_mul], fun i hi => ?_⟩
  rcases Nat.lt_or_ge i L.length with h' | h'
  · obtain ⟨cs, q1, q2⟩ := c1 i h'
    have e : (L ++ N).getD i default = L.getD i default := by rw [getE _ _ hi, getE _ _ h', List.getElem_append_left h']
    refine ⟨cs, by rw [e]; exact q1, fun j hj => ?_⟩
    rw [List.getElem?_append_left (by have : (i + 1) * k ≤ L.length * k := Nat.mul_le_mul_right k h'; rw [Nat.add_mul] at this; omega)]
    exact q2 j hj
  · have h'' : i - L.length < N.length := by simp at hi; omega
    obtain ⟨cs, q1, q2⟩ := c2 (i - L.length) h''
    have e : (L ++ N).getD i default = N.getD (i - L.length) default := by rw [getE _ _ hi, getE _ _ h'', List.getElem_append_right h']
    refine ⟨cs, by rw [e]; exact q1, fun j hj => ?_⟩
    have hle : L.length * k ≤ i * k := Nat.mul_le_mul_right k h'
    rw [List.getElem?_append_right (by omega), l1, idx_part i L.length k j h', ← q2 j hj]
/-- An append to one's own row. -/
theorem row_append (hR : Firm R k) {ops : Array Oper} {rest : List Oper} {o : Oper} {a : Act} {Q : Exit → Act → World → Prop} {A : Where} {w0 u : World} (hgd : Region.wanted o (yielded ops a.tmps) = true) (s x : Operand) (t e : TypeId)
    (ho : o.op = .call { callee := .builtin .append, args := #[s, x], argTypes := #[t, t] }) (z : Value) (bytes : Nat) (hinfo : (Tryz.prog.info? e).map (fun i => (i.zero, i.size, i.bytes)) = some (some z, k, bytes)) (ht : Tryz.prog.underlying t = some (.slice e)) (hzs : z.cells.size = k) (hk0 : 0 < k) (hby : 1 ≤ bytes)
    (v : Value) (L : List α) (hs : a.eval s = v) (hrow : Row R k A w0 u e v L)
    (ad : Addr) (m c : Nat) (news : List Value) (N : List α) (hm : N.length = m) (hx : a.eval x = .slice (some ad) m c) (hN : Chunks R k (fun b => A b ∧ v.ownBlock ≠ some b) u news N) (hcells : ∀ j y, news[j]? = some y → u.cell? (ad.add j) = some y) (h1 : ∀ y ∈ news, y.oneCell' = true) (hb : (L.length + N.length) * bytes ≤ 140737488355328)
    (h : ∀ v' u', Row R k A w0 u' e v' (L ++ N) → u.grownBy u' v.ownBlock → wpList Tryz.prog ops Q rest (a.put o.dst v') u') : wpList Tryz.prog ops Q (o :: rest) a u :=
  BigFrame.wpList_want hgd (fun _ hK => row_append_wp hR s x t e ho z bytes hinfo ht hzs hk0 hby v L hs hrow ad m c news N hm hx hN hcells h1 hb (fun v' u' h2 h3 => hK _ _ (h v' u' h2 h3)))
/-- One thing more: its cells lie in a block of their own. -/
theorem chunk_one (hR : Firm R k) {A : Where} {u : World} {cs : List Value} {x : α} (h : R A u cs x) : Chunks R k A u cs [x] := by
  simpa using (Chunks.nil (R := R) (k := k) A u).snoc hR h
theorem one_cells (u : World) (cs : List Value) (t : TypeId) : ∀ j y, cs[j]? = some y → (u.alloc (.cells cs.toArray t)).cell? ((⟨u.heap.size, 0, none⟩ : Addr).add j) = some y := by
  intro j y hj
  rw [add_lit]
  have : (u.alloc (.cells cs.toArray t)).heap[u.heap.size]? = some (.cells cs.toArray t) := heap_new u _ _ rfl
  generalize u.alloc (.cells cs.toArray t) = u' at this ⊢
  simp [World.cell?, this, hj]
end
/-- Block D holds these cells, and may be written. -/
def BoxL (u : World) (D : Nat) (cs : List Value) : Prop := D < u.heap.size ∧ ∀ j v, cs[j]? = some v → u.cell? ⟨D, j, none⟩ = some v ∧ u.frozen? ⟨D, j, none⟩ = false
theorem BoxL.on {u u' : World} {D : Nat} {cs : List Value} (h : BoxL u D cs) (hb : Below u.heap.size u u') : BoxL u' D cs :=
  ⟨Nat.lt_of_lt_of_le h.1 hb.size, fun j v hj => ⟨(hb.cell h.1).trans (h.2 j v hj).1, (hb.frozen h.1).trans (h.2 j v hj).2⟩⟩
theorem BoxL.kept {A : Where} {u u' : World} {D : Nat} {cs : List Value} (h : BoxL u D cs) (hk : Kept A u u') (hA : A D) : BoxL u' D cs :=
  ⟨Nat.lt_of_lt_of_le h.1 hk.1, fun j v hj => ⟨(hk.cell hA h.1).trans (h.2 j v hj).1, (World.frozen?_of_block (w := u) (hk.2 D hA h.1)).trans (h.2 j v hj).2⟩⟩
theorem BoxL.new (u : World) (t : TypeId) (cs : List Value) : BoxL (u.alloc (.cells cs.toArray t)) u.heap.size cs := by
  refine ⟨by simp, fun j v hj => ?_⟩
  have : (u.alloc (.cells cs.toArray t)).heap[u.heap.size]? = some (.cells cs.toArray t) := heap_new u _ _ rfl
  generalize u.alloc (.cells cs.toArray t) = u' at this ⊢
  simp [World.cell?, World.frozen?, this, hj]
theorem BoxL.set {u : World} {D : Nat} {cs : List Value} (h : BoxL u D cs) (i : Nat) (v : Value) (hi : i < cs.length) : BoxL (u.setCell ⟨D, i, none⟩ v) D (cs.set i v) := by
  refine ⟨by simpa using h.1, fun j y hj => ?_⟩
  rw [List.getElem?_set] at hj
  by_cases e : i = j
  · subst e
    simp [hi] at hj
    subst hj
    have h0 := h.2 i cs[i] (List.getElem?_eq_getElem hi)
    exact ⟨World.cell?_setCell_same (h := h0.1) .., by simpa using h0.2⟩
  · simp only [e, if_false] at hj
    have h0 := h.2 j y hj
    have hne : (⟨D, i, none⟩ : Addr) ≠ ⟨D, j, none⟩ := by simp [e]
    exact ⟨(World.cell?_setCell_other (h := hne) ..).trans h0.1, by simpa using h0.2⟩
theorem BoxL.other {u : World} {D : Nat} {cs : List Value} (h : BoxL u D cs) {p : Addr} (hp : p.block ≠ D) (v : Value) : BoxL (u.setCell p v) D cs :=
  h.kept (A := fun b => b ≠ p.block) (Kept.set (fun h => h rfl) v) (fun e => hp e.symm)
end Go.Proofs.YtmnldngojgldiaaGreat
namespace Go.Proofs.YtmnldngojgldiaaGreat

abbrev Lab := ByteArray × ByteArray
/-- Something that is asked: the key, the Op, the values. -/
abbrev Ask := ByteArray × Int × List ByteArray
abbrev Ask.key (r : Ask) : ByteArray := r.1
abbrev Ask.op (r : Ask) : Int := r.2.1
abbrev Ask.vals (r : Ask) : List ByteArray := r.2.2

/-- p of every number below n. -/
def allTo (n : Nat) (p : Nat → Bool) : Bool := (List.range n).all p
theorem allTo_true {n : Nat} {p : Nat → Bool} (h : ∀ j, j < n → p j = true) : allTo n p = true := by
  simp only [allTo, List.all_eq_true, List.mem_range]; exact h
theorem allTo_false {n k : Nat} {p : Nat → Bool} (hk : k < n) (h : p k = false) : allTo n p = false := by
  cases e : allTo n p
  · rfl
  · simp only [allTo, List.all_eq_true, List.mem_range] at e
    rw [e k hk] at h; cases h
theorem allTo_iff {n : Nat} {p : Nat → Bool} : allTo n p = true ↔ ∀ j, j < n → p j = true := by
  simp [allTo, List.all_eq_true, List.mem_range]

def isDig (c : UInt8) : Bool := decide (48 ≤ c.toNat) && decide (c.toNat ≤ 57)
def wChar (c : UInt8) : Bool := decide (97 ≤ c.toNat) && decide (c.toNat ≤ 122) || isDig c || decide (c.toNat = 45) || decide (c.toNat = 46) || decide (c.toNat = 47)
def byteAt (s : ByteArray) (i : Nat) : UInt8 := s.data.toList.getD i 0
def wordB (s : ByteArray) : Bool := decide (1 ≤ s.size) && decide (s.size ≤ 32) && allTo s.size fun i => wChar (byteAt s i)
def valB (s : ByteArray) : Bool := decide (s.size = 0) || wordB s
/-- 1 to 15 digits, without a 0 ahead of others. -/
def numB (s : ByteArray) : Bool := decide (1 ≤ s.size) && decide (s.size ≤ 15) && !(decide (1 < s.size) && decide ((byteAt s 0).toNat = 48)) && allTo s.size fun i => isDig (byteAt s i)
/-- The number that the first k digits tell. -/
def numTo (s : ByteArray) : Nat → Nat
  | 0 => 0
  | k + 1 => 10 * numTo s k + ((byteAt s k).toNat - 48)
def numN (s : ByteArray) : Nat := numTo s s.size

def sLt (a b : ByteArray) : Bool := Op.bytesLess a.toList b.toList
def sEq (a b : ByteArray) : Bool := a.toList == b.toList

theorem byteAt_get (s : ByteArray) (k : Nat) (h : k < s.size) : byteAt s k = s[k] := by
  unfold byteAt
  rw [List.getD_eq_getElem?_getD, List.getElem?_eq_getElem (by simpa using h)]
  rfl
theorem sEq_iff (a b : ByteArray) : sEq a b = true ↔ a = b := by
  unfold sEq
  rw [beq_iff_eq, ByteArray.toList_eq, ByteArray.toList_eq]
  constructor
  · intro h; obtain ⟨⟨a⟩⟩ := a; obtain ⟨⟨b⟩⟩ := b; simp_all
  · intro h; rw [h]
theorem sEq_self (a : ByteArray) : sEq a a = true := (sEq_iff a a).2 rfl
theorem sEq_false {a b : ByteArray} (h : a ≠ b) : sEq a b = false := by
  cases e : sEq a b
  · rfl
  · exact absurd ((sEq_iff a b).1 e) h

/-- The label at a place is right: key and value words, the key above the one before. -/
def labOk (L : List Lab) (i : Nat) : Bool := wordB (L.getD i default).1 && valB (L.getD i default).2 && (decide (i = 0) || sLt (L.getD (i - 1) default).1 (L.getD i default).1)
def checkI (L : List Lab) : Int := if 64 < L.length then 3 else if allTo L.length (labOk L) then 0 else 20
/-- May the values stand with the Op? -/
def rightV (op : Int) (V : List ByteArray) : Bool :=
  if op = 1 ∨ op = 2 then decide (1 ≤ V.length) && decide (V.length ≤ 64) && allTo V.length (fun i => valB (V.getD i default))
  else if op = 3 ∨ op = 4 then decide (V.length = 0)
  else if op = 5 ∨ op = 6 then decide (V.length = 1) && numB (V.getD 0 default)
  else false
def askOk (R : List Ask) (i : Nat) : Bool := wordB (R.getD i default).key && rightV (R.getD i default).op (R.getD i default).vals
def checkR (R : List Ask) : Int := if 64 < R.length then 3 else if allTo R.length (askOk R) then 0 else 21

/-- The first label of a key. -/
def getL (L : List Lab) (key : ByteArray) : ByteArray × Bool := match L.find? (fun x => sEq x.1 key) with | some x => (x.2, true) | none => (default, false)
def hasL (V : List ByteArray) (s : ByteArray) : Bool := V.any fun v => sEq v s
def meetsV (v : ByteArray) (there : Bool) (op : Int) (V : List ByteArray) : Bool :=
  if op = 1 then there && hasL V v
  else if op = 2 then !(there && hasL V v)
  else if op = 3 then there
  else if op = 4 then !there
  else if op = 5 then there && numB v && (decide (V.length = 1) && numB (V.getD 0 default)) && decide (numN (V.getD 0 default) < numN v)
  else if op = 6 then there && numB v && (decide (V.length = 1) && numB (V.getD 0 default)) && decide (numN v < numN (V.getD 0 default))
  else false
def meetsL (L : List Lab) (r : Ask) : Bool := meetsV (getL L r.key).1 (getL L r.key).2 r.op r.vals
def matchL (L : List Lab) (R : List Ask) : Bool := allTo R.length fun i => meetsL L (R.getD i default)
def sameL (A B : List Lab) (key : ByteArray) : Bool := (getL A key).2 && (getL B key).2 && sEq (getL A key).1 (getL B key).1
end Go.Proofs.YtmnldngojgldiaaGreat
namespace Go.Proofs.YtmnldngojgldiaaGreat
open Go.RowKit

/-- A taint: key, value, effect. What is borne: key, value, Any, effect. -/
abbrev Tnt := ByteArray × ByteArray × Int
abbrev Bear := ByteArray × ByteArray × Bool × Int
def encT (x : Tnt) : List Value := [.string x.1, .string x.2.1, .int .i64 x.2.2]
def encB (b : Bear) : List Value := [.string b.1, .string b.2.1, .bool b.2.2.1, .int .i64 b.2.2.2]
def okT (x : Tnt) : Prop := x.1.size ≤ 140737488355328 ∧ x.2.1.size ≤ 140737488355328
def okB (b : Bear) : Prop := b.1.size ≤ 140737488355328 ∧ b.2.1.size ≤ 140737488355328
theorem encT_len (x : Tnt) : (encT x).length = 3 := rfl
theorem encB_len (b : Bear) : (encB b).length = 4 := rfl
theorem encT_one (x : Tnt) : ∀ u ∈ encT x, u.oneCell' = true := by simp [encT, Value.oneCell']
theorem encB_one (x : Bear) : ∀ u ∈ encB x, u.oneCell' = true := by simp [encB, Value.oneCell']
abbrev TntsAt := RowAt encT 3 okT
abbrev BearsAt := RowAt encB 4 okB

theorem TntsAt.get {w : World} {a : Option Addr} {L : List Tnt} (h : TntsAt w a L) {k : Nat} (hk : k < L.length) : ∃ B off, a = some ⟨B, off, none⟩ ∧ B < w.heap.size ∧ w.cell? ⟨B, off + k * 3, none⟩ = some (.string (L.getD k default).1) ∧ w.cell? ⟨B, off + k * 3 + 1, none⟩ = some (.string (L.getD k default).2.1) ∧ w.cell? ⟨B, off + k * 3 + 2, none⟩ = some (.int .i64 (L.getD k default).2.2) ∧ okT (L.getD k default) := by
  obtain ⟨B, off, e, hB, hc, ho⟩ := RowAt.get h hk
  exact ⟨B, off, e, hB, hc 0 _ rfl, hc 1 _ rfl, hc 2 _ rfl, ho⟩
theorem BearsAt.get {w : World} {a : Option Addr} {L : List Bear} (h : BearsAt w a L) {k : Nat} (hk : k < L.length) : ∃ B off, a = some ⟨B, off, none⟩ ∧ B < w.heap.size ∧ w.cell? ⟨B, off + k * 4, none⟩ = some (.string (L.getD k default).1) ∧ w.cell? ⟨B, off + k * 4 + 1, none⟩ = some (.string (L.getD k default).2.1) ∧ w.cell? ⟨B, off + k * 4 + 2, none⟩ = some (.bool (L.getD k default).2.2.1) ∧ w.cell? ⟨B, off + k * 4 + 3, none⟩ = some (.int .i64 (L.getD k default).2.2.2) ∧ okB (L.getD k default) := by
  obtain ⟨B, off, e, hB, hc, ho⟩ := RowAt.get h hk
  exact ⟨B, off, e, hB, hc 0 _ rfl, hc 1 _ rfl, hc 2 _ rfl, hc 3 _ rfl, ho⟩

def sNil (s : ByteArray) : Bool := s.toList.isEmpty
/-- Two taints are one. -/
def tEq (x y : Tnt) : Bool := sEq x.1 y.1 && (sEq x.2.1 y.2.1 && (x.2.2 == y.2.2))
def bEq (x y : Bear) : Bool := sEq x.1 y.1 && (sEq x.2.1 y.2.1 && ((x.2.2.1 == y.2.2.1) && (x.2.2.2 == y.2.2.2)))
theorem tEq_self (x : Tnt) : tEq x x = true := by simp [tEq, sEq_self]
theorem bEq_self (x : Bear) : bEq x x = true := by simp [bEq, sEq_self]
/-- What b bears, in the document's words. -/
def bearsB (b : Bear) (t : Tnt) : Bool :=
  (b.2.2.2 == 0 || b.2.2.2 == t.2.2) && (sEq b.1 t.1 || (sNil b.1 && b.2.2.1)) && (b.2.2.1 || sEq b.2.1 t.2.1)
def meantT (b : Bear) (t : Tnt) : Tnt :=
  (if b.2.2.1 && sNil b.1 then t.1 else b.1, if b.2.2.1 then t.2.1 else b.2.1, if b.2.2.2 == 0 then t.2.2 else b.2.2.2)
theorem meant_bears (b : Bear) (t : Tnt) : tEq (meantT b t) t = bearsB b t := by
  obtain ⟨bk, bv, ba, be⟩ := b
  obtain ⟨tk, tv, te⟩ := t
  simp only [meantT, tEq, bearsB]
  cases ba <;> cases hn : sNil bk <;> cases h0 : (be == 0) <;> simp [sEq_self, Bool.and_comm, Bool.and_assoc, Bool.and_left_comm]
def borneB (B : List Bear) (t : Tnt) : Bool := B.any fun b => bearsB b t
/-- A taint of that effect that nothing bears. -/
def openT (e : Int) (B : List Bear) (t : Tnt) : Bool := (t.2.2 == e) && !borneB B t
def keptT (L : List Tnt) (B : List Bear) : Tnt × Bool := match L.find? (openT 1 B) with | some t => (t, true) | none => (default, false)
def shyN (L : List Tnt) (B : List Bear) : Nat := L.countP (openT 2 B)

theorem find_no {α : Type} [Inhabited α] {L : List α} {p : α → Bool} (h : ∀ j, j < L.length → p (L.getD j default) = false) : L.find? p = none := by
  rw [List.find?_eq_none]
  intro x hx
  obtain ⟨j, hj, rfl⟩ := List.mem_iff_getElem.1 hx
  have := h j hj
  rw [getE _ _ hj] at this
  simp [this]
theorem find_yes {α : Type} [Inhabited α] {L : List α} {p : α → Bool} {k : Nat} (hk : k < L.length) (h : ∀ j, j < k → p (L.getD j default) = false) (hy : p (L.getD k default) = true) : L.find? p = some (L.getD k default) := by
  rw [List.find?_eq_some_iff_getElem]
  refine ⟨hy, k, hk, ?_, ?_⟩
  · rw [getE _ _ hk]
  · intro j hj
    have := h j hj
    rw [getE _ _ (by omega)] at this
    simp [this]
theorem any_no {α : Type} [Inhabited α] {L : List α} {p : α → Bool} (h : ∀ j, j < L.length → p (L.getD j default) = false) : L.any p = false := by
  rw [List.any_eq_false]
  intro x hx
  obtain ⟨j, hj, rfl⟩ := List.mem_iff_getElem.1 hx
  have := h j hj
  rw [getE _ _ hj] at this
  simp [this]
theorem any_yes {α : Type} [Inhabited α] {L : List α} {p : α → Bool} {k : Nat} (hk : k < L.length) (hy : p (L.getD k default) = true) : L.any p = true := by
  rw [List.any_eq_true]
  rw [getE _ _ hk] at hy
  exact ⟨_, List.getElem_mem hk, hy⟩
theorem take_succ {α : Type} [Inhabited α] {L : List α} {k : Nat} (hk : k < L.length) : L.take (k + 1) = L.take k ++ [L.getD k default] := by
  rw [List.take_succ_eq_append_getElem hk, getE _ _ hk]
theorem count_step {α : Type} [Inhabited α] {L : List α} {p : α → Bool} {k : Nat} (hk : k < L.length) : (L.take (k + 1)).countP p = (L.take k).countP p + (if p (L.getD k default) then 1 else 0) := by
  rw [take_succ hk, List.countP_append]
  simp [List.countP_cons]
theorem count_le {α : Type} {L : List α} {p : α → Bool} {k : Nat} : (L.take k).countP p ≤ k := by
  have := List.countP_le_length (p := p) (l := L.take k)
  rw [List.length_take] at this
  omega
end Go.Proofs.YtmnldngojgldiaaGreat
