/- A map that tells of each name of a list where its first one stands: made, asked, added to; its values, sorted. Plain facts on worlds. No condition. Structs that lie in memory, whatever their cells: read and written whole; results that are structs; what stays. Plain laws of the model's worlds. No condition. A struct variable written over as a whole. Plain facts on worlds. No condition. Small facts for the copy of a state. Plain. No condition. Tables of names: small facts. Plain. No condition. tableOf at Claim: where the first one of each name stands. Condition: the list lies as is said of it. -/
import Derived.Test.YtgofpmcoffgffaaQ12
import Derived.Test.YtgofpmcoffgffaaQ03
import Derived.Deep.MidRow
import Derived.Test.YtgofpmcoffgffaaQ05
namespace Go.Proofs.Ytgofpmcoffgffaa
open Go.RowKit Go.Maps
set_option linter.unusedSimpArgs false
set_option maxRecDepth 100000

/-- Block mb is a map that tells of each name of N where its first one stands. -/
def NmAt (w : World) (mb : Nat) (N : List ByteArray) : Prop :=
  ∃ D : DataW Unit, OwnsT w mb N.length D ∧ ∀ s, Maps.has D (kT s) = (fI N s).isSome ∧ D.atKey (kT s) (.lit (.int .i64 0)) = .lit (.int .i64 (((fI N s).getD 0 : Nat) : Int))
theorem NmAt.lt {w : World} {mb : Nat} {N : List ByteArray} (h : NmAt w mb N) : mb < w.heap.size := by obtain ⟨D, h1, _⟩ := h; exact h1.lt
theorem NmAt.same {w w' : World} {mb : Nat} {N : List ByteArray} (h : NmAt w mb N) (hb : w'.heap[mb]? = w.heap[mb]?) : NmAt w' mb N := by
  obtain ⟨D, ⟨es, ck, h1, h2⟩, h3⟩ := h
  exact ⟨D, ⟨es, ck, hb.trans h1, h2⟩, h3⟩
theorem NmAt.on {w w' : World} {mb : Nat} {N : List ByteArray} (h : NmAt w mb N) (hb : Below w.heap.size w w') : NmAt w' mb N := h.same (hb.block mb h.lt)
theorem NmAt.kept {w w' : World} {mb : Nat} {N : List ByteArray} {A : Where} (h : NmAt w mb N) (hb : Kept A w w') (hA : A mb) : NmAt w' mb N := h.same (hb.2 mb hA h.lt)
theorem NmAt.made (w : World) : NmAt (w.alloc (.map #[] 0)) w.heap.size [] :=
  ⟨.map [], World.ownsMap_made _ _ _ _, fun _ => ⟨rfl, rfl⟩⟩
theorem fI_snoc (N : List ByteArray) (x s : ByteArray) : fI (N ++ [x]) s = match fI N s with | some k => some k | none => if sEq x s = true then some N.length else none := by
  unfold fI
  rw [List.findIdx?_append]
  cases h : List.findIdx? (fun x => sEq x s) N with
  | some k => rfl
  | none =>
    simp only [List.findIdx?_cons, List.findIdx?_nil]
    cases sEq x s <;> simp
/-- 'k, there := m[s]'. -/
theorem NmAt.look {w : World} {mb : Nat} {N : List ByteArray} (h : NmAt w mb N) (t : TypeId) (ht : Try.prog.underlying t = some (.map 9 3)) {s : ByteArray} (hs : s.size ≤ 140737488355328) :
    (Instr.lookup t (.map (some mb)) (.string s) true).run Try.prog w = .ok (.tuple #[.int .i64 (((fI N s).getD 0 : Nat) : Int), .bool (fI N s).isSome]) w := by
  obtain ⟨D, h1, h2⟩ := h
  obtain ⟨v, ps, hrun, hv⟩ := h1.look_ok law9 ht (zeroI9 w) (plainElem_int (H := Unit) Try.underlying3 (q := .i64) (a := 0) (by decide)) (kT_key hs)
  rw [(h2 s).1] at hrun
  rw [(h2 s).2] at hv
  obtain ⟨c, rfl, hc, _⟩ := plainElem_int_inv Try.underlying3 hv
  have := congrArg Prod.fst hc
  obtain rfl : (((fI N s).getD 0 : Nat) : Int) = c := by simpa using this
  exact hrun
/-- 'm[s] = k', where s is not there and k is how many there are. -/
theorem NmAt.put {w : World} {mb : Nat} {N : List ByteArray} (h : NmAt w mb N) (t : TypeId) (ht : Try.prog.underlying t = some (.map 9 3)) {s : ByteArray} (hs : s.size ≤ 140737488355328) (hno : fI N s = none) (hn : N.length < 140737488355328) :
    ∃ w' : World, (Instr.mapUpdate t (.map (some mb)) (.string s) (.int .i64 (N.length : Int))).run Try.prog w = .ok () w' ∧ NmAt w' mb (N ++ [s]) ∧ w.grownBy w' (some mb) := by
  obtain ⟨D, h1, h2⟩ := h
  obtain ⟨w', hes, hown, hg'⟩ := h1.update law9 ht (Nat.lt_of_lt_of_le hn maxLen9) (kT_key hs) (plainElem_int (H := Unit) Try.underlying3 (q := .i64) (a := (N.length : Int)) (WalkArith.wf_i64 (by omega)))
  refine ⟨w', hes, ⟨_, by rw [List.length_append, List.length_singleton]; exact hown, fun t => ?_⟩, hg'⟩
  rw [fI_snoc]
  by_cases e : sEq s t = true
  · obtain rfl := (sEq_iff _ _).1 e
    rw [has_put_same h1.isMap (kT_is _), atKey_put_same h1.isMap (kT_is _), hno]
    simp only [if_pos e]
    exact ⟨by simp, by simp⟩
  · have hne : kT t ≠ kT s := fun x => e ((sEq_iff _ _).2 (kT_inj x).symm)
    rw [has_put_other hne, atKey_put_other hne, (h2 t).1, (h2 t).2]
    simp only [if_neg e]
    cases fI N t <;> exact ⟨by simp, by simp⟩
/-- .. and where s is there already nothing is stored: it tells of one more all the same. -/
theorem NmAt.more {w : World} {mb : Nat} {N : List ByteArray} (h : NmAt w mb N) {s : ByteArray} {k : Nat} (hs : fI N s = some k) : NmAt w mb (N ++ [s]) := by
  obtain ⟨D, h1, h2⟩ := h
  refine ⟨D, h1.mono (by simp), fun t => ?_⟩
  rw [fI_snoc, (h2 t).1, (h2 t).2]
  cases hf : fI N t with
  | some k => exact ⟨by simp, by simp⟩
  | none =>
    have e : ¬ sEq s t = true := fun e => by rw [(sEq_iff _ _).1 e, hf] at hs; cases hs
    simp only [if_neg e]
    exact ⟨by simp, by simp⟩
/-- The places of the first ones. -/
def firstsI (N : List ByteArray) : List Nat := (List.range N.length).filter (fun k => decide (fI N (N.getD k default) = some k))
theorem mem_firstsI (N : List ByteArray) (k : Nat) : k ∈ firstsI N ↔ ∃ s, fI N s = some k := by
  unfold firstsI
  rw [List.mem_filter, List.mem_range, decide_eq_true_eq]
  constructor
  · rintro ⟨_, h⟩; exact ⟨_, h⟩
  · rintro ⟨s, h⟩
    obtain ⟨h1, h2, _⟩ := fI_some h
    exact ⟨h1, by rw [h2]; exact h⟩
theorem firstsI_lt (N : List ByteArray) : (firstsI N).Pairwise (· < ·) := List.Pairwise.filter _ List.pairwise_lt_range
theorem firstsI_nodup {N : List ByteArray} (h : N.Nodup) : firstsI N = List.range N.length := by
  unfold firstsI
  rw [List.filter_eq_self]
  intro k hk
  rw [decide_eq_true_eq]
  exact fI_once h (List.mem_range.1 hk)
theorem firstsI_len (N : List ByteArray) : (firstsI N).length ≤ N.length := by
  unfold firstsI
  have := List.length_filter_le (fun k => decide (fI N (N.getD k default) = some k)) (List.range N.length)
  rwa [List.length_range] at this
/-- The map's values, sorted: the places of the first ones. -/
theorem NmAt.values {w : World} {mb : Nat} {N : List ByteArray} (h : NmAt w mb N) : ∃ D : DataW Unit, OwnsT w mb N.length D ∧ Maps.size D = (firstsI N).length ∧
    ∀ ps : List (List UInt8 × Int), (ps.map (·.1)).Perm (strKeys D) → (∀ p ∈ ps, ∀ zd, D.atKey (.string p.1) zd = .lit (.int .i64 p.2)) → (ps.map (·.2)).mergeSort (fun x y => decide (x ≤ y)) = (firstsI N).map (fun k : Nat => (k : Int)) := by
  obtain ⟨D, h1, h2⟩ := h
  have hk : ∀ x : List UInt8, kT ⟨x.toArray⟩ = .string x := fun x => by simp [kT]
  have hMnd : ((firstsI N).map (fun k => (N.getD k default).data.toList)).Nodup := by
    refine List.pairwise_map.2 ((firstsI_lt N).imp_of_mem fun {a b} ha hb hab e => ?_)
    obtain ⟨sa, ea⟩ := (mem_firstsI N a).1 ha
    obtain ⟨sb, eb⟩ := (mem_firstsI N b).1 hb
    have e1 : N.getD a default = N.getD b default := by
      generalize N.getD a default = p at e
      generalize N.getD b default = q at e
      cases p; cases q; simpa using e
    rw [(fI_some ea).2.1, (fI_some eb).2.1] at e1
    rw [e1, eb] at ea
    injection ea with ea
    omega
  have hperm : ((firstsI N).map (fun k => (N.getD k default).data.toList)).Perm (strKeys D) := by
    obtain ⟨es, hD, hpw, _⟩ := h1.entries law9
    obtain ⟨es', hD', hko⟩ := h1.keysOf
    obtain rfl : es = es' := by rw [hD] at hD'; simpa using hD'
    subst hD
    refine perm_strKeys hpw (fun p hp => by obtain ⟨v, hv⟩ := hko p hp; obtain ⟨x, _, hx, _⟩ := Maps.keyOf_str Try.underlying9 hv; exact ⟨x, hx⟩) hMnd (fun x => ?_)
    have e := (h2 ⟨x.toArray⟩).1
    rw [hk] at e
    rw [e, List.mem_map]
    constructor
    · rintro ⟨k, hk1, rfl⟩
      obtain ⟨s, hs⟩ := (mem_firstsI N k).1 hk1
      rw [show (⟨(N.getD k default).data.toList.toArray⟩ : ByteArray) = N.getD k default by simp, (fI_some hs).2.1, hs]
      rfl
    · intro hx
      obtain ⟨k, hk1⟩ := Option.isSome_iff_exists.1 hx
      exact ⟨k, (mem_firstsI N k).2 ⟨_, hk1⟩, by rw [(fI_some hk1).2.1]⟩
  have hval : ∀ (x : List UInt8) (k : Nat), fI N ⟨x.toArray⟩ = some k → ∀ (y : Int), (∀ zd, D.atKey (.string x) zd = .lit (.int .i64 y)) → y = k := fun x k hx y hy => by
    have e := (h2 ⟨x.toArray⟩).2
    rw [hk, hy, hx] at e
    simpa using e
  refine ⟨D, h1, ?_, fun ps hps hv => ?_⟩
  · have := hperm.length_eq
    rw [List.length_map] at this
    rw [this]
    obtain ⟨es, hD, _, _⟩ := h1.entries law9
    subst hD
    simp [Maps.size, strKeys]
  · have hp2 : (ps.map (·.1)).Perm ((firstsI N).map (fun k => (N.getD k default).data.toList)) := hps.trans hperm.symm
    have hfk : ∀ p ∈ ps, p.2 = (((fI N ⟨p.1.toArray⟩).getD 0 : Nat) : Int) := fun p hp => by
      have hm : p.1 ∈ (firstsI N).map (fun k => (N.getD k default).data.toList) := hp2.mem_iff.1 (List.mem_map.2 ⟨p, hp, rfl⟩)
      obtain ⟨k, hk1, hk2⟩ := List.mem_map.1 hm
      obtain ⟨s, hs⟩ := (mem_firstsI N k).1 hk1
      have e1 : fI N ⟨p.1.toArray⟩ = some k := by
        rw [← hk2, show (⟨(N.getD k default).data.toList.toArray⟩ : ByteArray) = N.getD k default by simp, (fI_some hs).2.1]
        exact hs
      rw [e1]
      exact hval _ _ e1 _ (hv p hp)
    have e3 : ps.map (·.2) = (ps.map (·.1)).map (fun x => (((fI N ⟨x.toArray⟩).getD 0 : Nat) : Int)) := by
      rw [List.map_map]
      exact List.map_congr_left (fun p hp => hfk p hp)
    have hp4 : (ps.map (·.2)).Perm ((firstsI N).map (fun k : Nat => (k : Int))) := by
      rw [e3]
      refine (hp2.map _).trans ?_
      rw [List.map_map]
      refine List.Perm.of_eq (List.map_congr_left (fun k hk1 => ?_))
      obtain ⟨s, hs⟩ := (mem_firstsI N k).1 hk1
      show (((fI N ⟨(N.getD k default).data.toList.toArray⟩).getD 0 : Nat) : Int) = k
      rw [show (⟨(N.getD k default).data.toList.toArray⟩ : ByteArray) = N.getD k default by simp, (fI_some hs).2.1, hs]
      rfl
    have htr : ∀ a b c : Int, decide (a ≤ b) = true → decide (b ≤ c) = true → decide (a ≤ c) = true := fun a b c h1 h2 => by simp at *; omega
    have htot : ∀ a b : Int, (decide (a ≤ b) || decide (b ≤ a)) = true := fun a b => by simp; omega
    refine List.Perm.eq_of_pairwise (le := fun a b : Int => a ≤ b) (fun a b _ _ h1 h2 => Int.le_antisymm h1 h2) ?_ ?_ ((List.mergeSort_perm _ _).trans hp4)
    · exact (List.pairwise_mergeSort htr htot _).imp (fun h => by simpa using h)
    · refine List.pairwise_map.2 ((firstsI_lt N).imp (fun h => by omega))
end Go.Proofs.Ytgofpmcoffgffaa
namespace Go.Proofs.Ytgofpmcoffgffaa
open Go.RowKit
set_option linter.unusedSimpArgs false

theorem range_new {u : World} {T : TypeId} {b o : Nat} {p c q : List Value} (hb : u.heap.size = b) (ho : p.length = o) : (u.alloc (.cells (p ++ (c ++ q)).toArray T)).rangeAt b o c := by
  subst hb ho
  intro j v hj
  have : (u.alloc (.cells (p ++ (c ++ q)).toArray T)).heap[u.heap.size]? = some (.cells (p ++ (c ++ q)).toArray T) := heap_new u _ _ rfl
  generalize u.alloc (.cells (p ++ (c ++ q)).toArray T) = u' at this ⊢
  have hl : j < c.length := (List.getElem?_eq_some_iff.1 hj).1
  simp only [World.cell?, this]
  rw [List.getElem?_toArray, List.getElem?_append_right (by omega), show p.length + j - p.length = j by omega, List.getElem?_append_left hl]
  exact hj
theorem range_all {u : World} {T : TypeId} {b : Nat} {c : List Value} (hb : u.heap.size = b) : (u.alloc (.cells c.toArray T)).rangeAt b 0 c := by
  have := range_new (u := u) (T := T) (p := []) (c := c) (q := []) hb rfl
  simpa using this
theorem there_new {u : World} {T : TypeId} {b n : Nat} {c : Array Value} (hb : u.heap.size = b) (hn : c.size = n) : (u.alloc (.cells c T)).there b 0 n := by
  subst hb hn
  intro j hj
  have : (u.alloc (.cells c T)).heap[u.heap.size]? = some (.cells c T) := heap_new u _ _ rfl
  generalize u.alloc (.cells c T) = u' at this ⊢
  simp [World.cell?, World.frozen?, this, hj]
theorem range_on {w w' : World} {B b o : Nat} {c : List Value} (h : w.rangeAt b o c) (hb : Below B w w') (hB : b < B) : w'.rangeAt b o c := fun j v hj => (hb.cell (p := ⟨b, o + j, none⟩) hB).trans (h j v hj)
theorem there_on {w w' : World} {B b o n : Nat} (h : w.there b o n) (hb : Below B w w') (hB : b < B) : w'.there b o n := fun j hj => by
  rw [hb.cell (p := ⟨b, o + j, none⟩) hB, hb.frozen (p := ⟨b, o + j, none⟩) hB]; exact h j hj
theorem below_setCells {B b : Nat} {a : World} : ∀ {vs : List Value} {o : Nat} {u : World}, Below B a u → B ≤ b → Below B a (u.setCells b o vs)
  | [], _, _, h, _ => h
  | v :: r, o, u, h, hb => by
    rw [World.setCells]
    exact below_setCells (h.setCell (p := ⟨b, o, none⟩) hb v) hb
theorem size_setCells {b : Nat} : ∀ {vs : List Value} {o : Nat} {u : World}, (u.setCells b o vs).heap.size = u.heap.size
  | [], _, _ => rfl
  | v :: r, o, u => by rw [World.setCells, size_setCells]; simp
theorem kept_setCells {A : Where} {b : Nat} (h : ¬ A b) : ∀ {vs : List Value} {o : Nat} {u : World}, Kept A u (u.setCells b o vs)
  | [], _, u => Kept.refl A u
  | v :: r, o, u => by
    rw [World.setCells]
    exact (Kept.set (p := ⟨b, o, none⟩) h v).trans (kept_setCells h)

/-- One result, a struct that lies in memory. -/
theorem res_cell {P : Program} {fn : Func} {p : Tmp} {ty : TypeId} (h : fn.results = #[.cell p ty]) (tmps : Array Value) (w : World) (b : Nat) (cs : List Value) (d : TypeDesc)
    (hp : tmps.getD p undef = .pointer (some ⟨b, 0, none⟩)) (hr : w.rangeAt b 0 cs) (hu : P.underlying ty = some d) (hd : d.isRow = true) (hi : (P.info? ty).map (·.size) = some cs.length) :
    (results fn tmps).run P w = .ok (.agg cs.toArray) w := by
  have hp' : tmps[p]?.getD undef = .pointer (some ⟨b, 0, none⟩) := by simpa using hp
  simp [results, h, hp', asAddr, run_loadVar_mid w b 0 ty cs d hr hu hd hi]
/-- Two results, the first a struct that lies in memory. -/
theorem res_cell2 {P : Program} {fn : Func} {p q : Tmp} {ty : TypeId} (h : fn.results = #[.cell p ty, .tmp q]) (tmps : Array Value) (w : World) (b : Nat) (cs : List Value) (d : TypeDesc) (y : Value)
    (hp : tmps.getD p undef = .pointer (some ⟨b, 0, none⟩)) (hq : tmps.getD q undef = y) (hr : w.rangeAt b 0 cs) (hu : P.underlying ty = some d) (hd : d.isRow = true) (hi : (P.info? ty).map (·.size) = some cs.length) :
    (results fn tmps).run P w = .ok (.tuple #[.agg cs.toArray, y]) w := by
  have hp' : tmps[p]?.getD undef = .pointer (some ⟨b, 0, none⟩) := by simpa using hp
  have hq' : tmps[q]?.getD undef = y := by simpa using hq
  simp [results, h, hp', hq', asAddr, run_loadVar_mid w b 0 ty cs d hr hu hd hi]
/-- Three results, the first a struct that lies in memory. -/
theorem res_cell3 {P : Program} {fn : Func} {p q r : Tmp} {ty : TypeId} (h : fn.results = #[.cell p ty, .tmp q, .tmp r]) (tmps : Array Value) (w : World) (b : Nat) (cs : List Value) (d : TypeDesc) (y z : Value)
    (hp : tmps.getD p undef = .pointer (some ⟨b, 0, none⟩)) (hq : tmps.getD q undef = y) (hz : tmps.getD r undef = z) (hr : w.rangeAt b 0 cs) (hu : P.underlying ty = some d) (hd : d.isRow = true) (hi : (P.info? ty).map (·.size) = some cs.length) :
    (results fn tmps).run P w = .ok (.tuple #[.agg cs.toArray, y, z]) w := by
  have hp' : tmps[p]?.getD undef = .pointer (some ⟨b, 0, none⟩) := by simpa using hp
  have hq' : tmps[q]?.getD undef = y := by simpa using hq
  have hz' : tmps[r]?.getD undef = z := by simpa using hz
  simp [results, h, hp', hq', hz', asAddr, run_loadVar_mid w b 0 ty cs d hr hu hd hi]
end Go.Proofs.Ytgofpmcoffgffaa
namespace Go.Proofs.Ytgofpmcoffgffaa
open Go.RowKit
set_option linter.unusedSimpArgs false

theorem wpl_w8 {P : Program} {ops : Array Oper} {Q : Exit → Act → World → Prop} {rest : List Oper} {a : Act} {u W : World} (h : W = u) (k : wpList P ops Q rest a W) : wpList P ops Q rest a u := h ▸ k
theorem box_over8 {u : World} {D : Nat} {zs cs : List Value} (hb : BoxL u D zs) (hl : zs.length = cs.length) : BoxL (u.setCells D 0 cs) D cs := by
  have hth : u.there D 0 cs.length := hl ▸ hb.there
  have hr := World.rangeAt_setCells_same u D 0 cs hth
  have ht2 := World.there_setCells hth D 0 cs
  refine ⟨Nat.lt_of_lt_of_le hb.1 (kept_setCells (A := fun _ => False) (b := D) (fun h => h) (vs := cs) (o := 0) (u := u)).1, fun j v hj => ?_⟩
  have h1 := hr j v hj
  have h2 := (ht2 j (List.getElem?_eq_some_iff.1 hj).1).2
  rw [Nat.zero_add] at h1 h2
  exact ⟨h1, h2⟩
end Go.Proofs.Ytgofpmcoffgffaa
namespace Go.Proofs.Ytgofpmcoffgffaa
open Go.RowKit
set_option linter.unusedSimpArgs false

def zPod : List Value := [.string ⟨#[]⟩, .int .i64 0, .slice none 0 0, .int .i64 0, .int .i64 0, .int .i64 0, .slice none 0 0, .slice none 0 0, .slice none 0 0, .slice none 0 0, .slice none 0 0, .slice none 0 0, .slice none 0 0, .slice none 0 0, .string ⟨#[]⟩, .string ⟨#[]⟩]
def zNode : List Value := [.string ⟨#[]⟩, .slice none 0 0, .slice none 0 0, .bool false, .int .i64 0, .int .i64 0, .int .i64 0, .int .i64 0, .int .i64 0]
def zVolume : List Value := [.string ⟨#[]⟩, .int .i64 0, .string ⟨#[]⟩, .slice none 0 0, .string ⟨#[]⟩]
def zClaim : List Value := [.string ⟨#[]⟩, .int .i64 0, .string ⟨#[]⟩, .string ⟨#[]⟩]
def zClass : List Value := [.string ⟨#[]⟩, .bool false]
def zBudget : List Value := [.string ⟨#[]⟩, .slice none 0 0, .int .i64 0]
theorem info_of {T : TypeId} {n : Nat} {c : List Value} (h : (Try.prog.info? T).map (·.size) = some n) (hc : c.length = n) : (Try.prog.info? T).map (·.size) = some c.length := by rw [hc]; exact h
theorem iszPod : (Try.prog.info? 33).map (·.size) = some 16 := by kernel_rfl
theorem iszNode : (Try.prog.info? 36).map (·.size) = some 9 := by kernel_rfl
theorem iszVolume : (Try.prog.info? 59).map (·.size) = some 5 := by kernel_rfl
theorem iszClaim : (Try.prog.info? 57).map (·.size) = some 4 := by kernel_rfl
theorem iszClass : (Try.prog.info? 65).map (·.size) = some 2 := by kernel_rfl
theorem iszBudget : (Try.prog.info? 95).map (·.size) = some 3 := by kernel_rfl
theorem infoSta : (Try.prog.info? 46).map (·.size) = some 6 := by kernel_rfl
theorem want_yes {c : Prop} [Decidable c] {A B : Prop} (h : c) (k : A) : if c then A else B := by rw [if_pos h]; exact k
end Go.Proofs.Ytgofpmcoffgffaa
namespace Go.Proofs.Ytgofpmcoffgffaa
open Go.RowKit Go.Maps
set_option linter.unusedSimpArgs false
set_option maxRecDepth 100000

theorem makeMap_hint10 (n : Nat) (w : World) : (Instr.makeMap 70 (some (.int .i64 (n : Int)))).run Try.prog w = .ok (.map (some w.heap.size)) (w.alloc (.map #[] 0)) := by
  simp [Instr.makeMap, run_underlying Try.underlying70, asInt, asIntOf, Result.andThen]
theorem all_oneCell10 {cs : List Value} (h : ∀ v ∈ cs, v.oneCell' = true) : cs.toArray.all (·.oneCell') = true := by
  simp only [List.all_toArray, List.all_eq_true]
  exact h
/-- What tableOf hands back. -/
def TabOut (w : World) (s : Value) (N : List ByteArray) (e : Ending) (w' : World) : Prop := ∃ mb, e = .returned (.agg #[s, .map (some mb)]) ∧ NmAt w' mb N ∧ w.heap.size ≤ mb ∧ Below w.heap.size w w'
theorem RClaim.head10 {A : Where} {w : World} {cs : List Value} {x : ClaimD} (h : RClaim A w cs x) : cs[0]? = some (.string x.1) ∧ x.1.size ≤ 140737488355328 := by
  obtain ⟨rfl, h1, _⟩ := h.out
  exact ⟨rfl, h1⟩
theorem RVolume.head10 {A : Where} {w : World} {cs : List Value} {x : VolumeD} (h : RVolume A w cs x) : cs[0]? = some (.string x.1) ∧ x.1.size ≤ 140737488355328 := by
  obtain ⟨_, rfl, h1, _⟩ := h.out
  exact ⟨rfl, h1⟩
theorem RClass.head10 {A : Where} {w : World} {cs : List Value} {x : ClassD} (h : RClass A w cs x) : cs[0]? = some (.string x.1) ∧ x.1.size ≤ 140737488355328 := by
  obtain ⟨rfl, h1⟩ := h.out
  exact ⟨rfl, h1⟩
theorem take_map10 {α : Type} [Inhabited α] (f : α → ByteArray) {L : List α} {k : Nat} (h : k < L.length) : (L.map f).take (k + 1) = (L.map f).take k ++ [f (L.getD k default)] := by
  rw [List.take_succ_eq_append_getElem (by rw [List.length_map]; exact h), List.getElem_map, List.getD_eq_getElem?_getD, List.getElem?_eq_getElem h]
  rfl
theorem BoxL.grown10 {u u' : World} {D m : Nat} {cs : List Value} (h : BoxL u D cs) (hg : u.grownBy u' (some m)) (hm : D ≠ m) : BoxL u' D cs := h.kept (A := fun b => b ≠ m) (Kept.grown hg (fun k e hk => hk (by simpa using e.symm))) hm
theorem below_grown10 {w u u' : World} {m : Nat} (h : Below w.heap.size w u) (hg : u.grownBy u' (some m)) (hm : w.heap.size ≤ m) : Below w.heap.size w u' := h.grown hg h.size (fun k e => by cases e; exact hm)
end Go.Proofs.Ytgofpmcoffgffaa
namespace Go.Proofs.Ytgofpmcoffgffaa
open Go.RowKit Go.Maps
set_option linter.unusedSimpArgs false
set_option maxRecDepth 100000

set_option maxHeartbeats 1000000 in
theorem nmClaim_calls (cs : List Value) (A : Where) (x : ClaimD) (w : World) (h : RClaim A w cs x) : Calls Try.prog 26 #[.agg cs.toArray] w fun e w' => e = .returned (.string x.1) ∧ Below w.heap.size w w' := by
  obtain ⟨W1, hW1⟩ : ∃ W, W = w.alloc (.cells cs.toArray 57) := ⟨_, rfl⟩
  have B1 : Below w.heap.size w W1 := by rw [hW1]; go_grown
  have c0 : W1.cell? ⟨w.heap.size, 0, none⟩ = some (.string x.1) := by rw [hW1]; exact ((BoxL.new w 57 cs).2 0 _ h.head10.1).1
  clear h
  go_enter Try.func26, Try.ntmps26
  go_upto_region 1 with fail
  rw [← hW1]
  clear hW1
  go_wp2_with fail
  go_ret
  exact ⟨rfl, B1⟩
set_option maxHeartbeats 16000000 in
theorem tabClaim_calls (a : Option Addr) (n cap : Nat) (A : Where) (L : List ClaimD) (w : World) (hL : Hid (SlAt RClaim 4 56 A w a n cap L)) :
    Calls Try.prog 25 #[.slice a n cap, .func (.func 26) #[] #[]] w (TabOut w (.slice a n cap) (L.map Prod.fst)) := by
  have hnl : Hid (L.length = n) := hL.out.1
  have hbn : Hid (n * 56 ≤ 140737488351232) := hL.out.2.2.2.1
  have hlen := hL.out.len (by decide)
  have HU : Hid (∀ u, Below w.heap.size w u → SlAt RClaim 4 56 A u a n cap L) := fun u hb => hL.out.on RClaim.firm hb
  clear hL
  obtain ⟨W1, hW1⟩ : ∃ W, W = w.alloc (.cells #[.slice none 0 0, .map none] 72) := ⟨_, rfl⟩
  have B1 : Below w.heap.size w W1 := by rw [hW1]; go_grown
  have hz1 : W1.heap.size = w.heap.size + 1 := by rw [hW1]; simp
  have q1 : BoxL W1 w.heap.size [.slice none 0 0, .map none] := by rw [hW1]; exact BoxL.new w 72 _
  obtain ⟨W2, hW2⟩ : ∃ W, W = W1.alloc (.map #[] 0) := ⟨_, rfl⟩
  have B2 : Below W1.heap.size W1 W2 := by rw [hW2]; go_grown
  have m2 : NmAt W2 (w.heap.size + 1) ((L.map Prod.fst).take 0) := by rw [hW2, ← hz1]; exact NmAt.made W1
  have HI : Hid (NmAt W2 (w.heap.size + 1) ((L.map Prod.fst).take 0) ∧ BoxL W2 w.heap.size [.slice none 0 0, .map none] ∧ Below w.heap.size w W2) := ⟨m2, q1.on B2, on2 B1 B2⟩
  have hmm := makeMap_hint10
  have HZ : Hid (W1.heap.size = w.heap.size + 1) := hz1
  clear B1 q1 B2 m2 hz1
  have eg := enters_of Try.func26 (by kernel_rfl) rfl
  go_enter Try.func25, Try.ntmps25
  go_upto_region 1 with fail
  rw [← hW1]
  clear hW1
  go_upto_region 2 with fail
  rw [← hW2]
  clear hW2
  rw [HZ.out]
  clear hmm HZ
  go_wp2_with fail
  go_loopw [15] (fun i wr => ∃ k : Nat, k ≤ n ∧ i = .int .i64 k ∧ Hid (NmAt wr (w.heap.size + 1) ((L.map Prod.fst).take k) ∧ BoxL wr w.heap.size [.slice none 0 0, .map none] ∧ Below w.heap.size w wr)) (fun i _ => n - (intOf i).toNat)
  case atStart => exact ⟨0, Nat.zero_le _, rfl, HI⟩
  case round =>
    obtain ⟨k, hk, rfl, hrun⟩ := hrel
    obtain ⟨hm, hq, hbw⟩ := hrun.out
    clear hrun HI
    by_cases hlt : k < n
    · have hltz : (k : Int) < (n : Int) := by omega
      have hkl : k < L.length := by rw [hnl.out]; exact hlt
      obtain ⟨B, off, rfl, hB, hAB, xs, hr, hv⟩ := (HU.out wr hbw).get hlt
      have hl : xs.length = 4 := RClaim.firm.len hr
      have hi : (Try.prog.info? 57).map (·.size) = some xs.length := by rw [hl]; exact iszClaim
      have hia : (Try.prog.info? 57).map (·.size) = some xs.toArray.size := by simpa using hi
      have HO : Hid (xs.toArray.all (·.oneCell') = true) := all_oneCell10 (RClaim.firm.one hr)
      have HV0 : Hid (wr.rangeAt B (off + k * 4) xs) := hv
      have HVz : Hid ((wr.alloc (.cells #[.string ⟨#[]⟩, .int .i64 0, .string ⟨#[]⟩, .string ⟨#[]⟩] 57)).rangeAt B (off + k * 4) xs) := fun j v hj => (((Below.refl _ wr).alloc (Nat.le_refl _) _).cell hB).trans (hv j v hj)
      obtain ⟨V, hV⟩ : ∃ V, V = (wr.alloc (.cells #[.string ⟨#[]⟩, .int .i64 0, .string ⟨#[]⟩, .string ⟨#[]⟩] 57)).setCells wr.heap.size 0 xs := ⟨_, rfl⟩
      have HTh : Hid ((wr.alloc (.cells #[.string ⟨#[]⟩, .int .i64 0, .string ⟨#[]⟩, .string ⟨#[]⟩] 57)).there wr.heap.size 0 xs.toArray.size) := by have e : xs.toArray.size = 4 := (by simp [hl]); rw [Hid, e]; exact (BoxL.new wr 57 [.string ⟨#[]⟩, .int .i64 0, .string ⟨#[]⟩, .string ⟨#[]⟩]).there
      have bV : Below wr.heap.size wr V := by rw [hV]; exact below_setCells ((Below.refl _ _).alloc (Nat.le_refl _) _) (Nat.le_refl _)
      have qV : BoxL V wr.heap.size xs := by rw [hV]; exact box_over8 (BoxL.new wr 57 [.string ⟨#[]⟩, .int .i64 0, .string ⟨#[]⟩, .string ⟨#[]⟩]) (by rw [hl]; rfl)
      have HWV : Hid (V = (wr.alloc (.cells #[.string ⟨#[]⟩, .int .i64 0, .string ⟨#[]⟩, .string ⟨#[]⟩] 57)).setCells wr.heap.size 0 xs.toArray.toList) := by rw [Hid, hV]
      clear hV
      have hrV := RClaim.firm.kept hr (Kept.below bV)
      have hC := nmClaim_calls xs A (L.getD k default) V hrV
      have hsz : (L.getD k default).1.size ≤ 140737488355328 := hr.head10.2
      have HT : Hid ((L.map Prod.fst).take (k + 1) = (L.map Prod.fst).take k ++ [(L.getD k default).1]) := take_map10 Prod.fst hkl
      have HL : Hid (((L.map Prod.fst).take k).length = k) := by rw [Hid, List.length_take, List.length_map]; omega
      have HN : Hid (∀ u, Below V.heap.size V u → Below w.heap.size w u ∧ NmAt u (w.heap.size + 1) ((L.map Prod.fst).take k) ∧ BoxL u w.heap.size [.slice none 0 0, .map none] ∧ u.rangeAt wr.heap.size 0 xs ∧ RClaim A u xs (L.getD k default)) := fun u hb => ⟨on2 (on2 hbw bV) hb, hm.on (on2 bV hb), hq.on (on2 bV hb), (qV.on hb).range, RClaim.firm.kept hrV (Kept.below hb)⟩
      have HX0 : Hid (V.rangeAt wr.heap.size 0 xs) := qV.range
      clear hr hv hm hq hbw qV bV hrV hB hAB
      generalize (L.getD k default) = x at hC hsz HT HN
      generalize (L.map Prod.fst).take k = N at HT HL HN
      go_wp2_with (first | (refine wpList_load_mid rfl 57 _ rfl B (off + k * 4) rfl xs _ HV0.out Try.underlying57 rfl hi ?_) | (refine wpList_load_mid rfl 57 _ rfl B (off + k * 4) rfl xs _ HVz.out Try.underlying57 rfl hi ?_) | (refine wpList_store_mid rfl 57 _ _ rfl wr.heap.size 0 xs.toArray rfl rfl HTh.out hia HO.out ?_; refine wpl_w8 HWV.out ?_) | (refine wpList_load_mid rfl 57 _ rfl wr.heap.size 0 rfl xs _ HX0.out Try.underlying57 rfl hi ?_) | fail)
      refine hC.mono ?_
      rintro e w6 ⟨rfl, hb6⟩
      obtain ⟨bw6, nm6, q6, r6, R6⟩ := HN.out w6 hb6
      clear hC HTh HO HV0 HVz HWV HX0 hia
      have hlk := nm6.look 70 Try.underlying70 hsz
      cases hf : fI N x.1 with
      | some j =>
        rw [hf] at hlk
        have HN3 : Hid (NmAt w6 (w.heap.size + 1) ((L.map Prod.fst).take (k + 1)) ∧ BoxL w6 w.heap.size [.slice none 0 0, .map none] ∧ Below w.heap.size w w6) := ⟨by rw [HT.out]; exact nm6.more hf, q6, bw6⟩
        simp only [Option.isSome_some, Option.getD_some] at hlk
        clear nm6 q6 bw6 r6 R6 HN HT HL hf hb6
        go_wp2_with fail
        go_roundw
        case rel => exact ⟨k + 1, by omega, by go_num, HN3⟩
        case measure => simp [intOf]; omega
      | none =>
        rw [hf] at hlk
        simp only [Option.isSome_none, Option.getD_none] at hlk
        have hC := nmClaim_calls xs A x w6 R6
        have HR6 : Hid (w6.rangeAt wr.heap.size 0 xs) := r6
        have HN6 : Hid (∀ u, Below w6.heap.size w6 u → Below w.heap.size w u ∧ NmAt u (w.heap.size + 1) N ∧ BoxL u w.heap.size [.slice none 0 0, .map none]) := fun u hb => ⟨on2 bw6 hb, nm6.on hb, q6.on hb⟩
        clear nm6 q6 bw6 r6 R6 HN hb6
        go_wp2_with (first | (refine wpList_load_mid rfl 57 _ rfl wr.heap.size 0 rfl xs _ HR6.out Try.underlying57 rfl hi ?_) | fail)
        refine hC.mono ?_
        rintro e w7 ⟨rfl, hb7⟩
        obtain ⟨bw7, nm7, q7⟩ := HN6.out w7 hb7
        obtain ⟨w8, hup, nm8, hg8⟩ := nm7.put 70 Try.underlying70 hsz hf (by have h1 := hbn.out; have h2 := HL.out; omega)
        have HN3 : Hid (NmAt w8 (w.heap.size + 1) ((L.map Prod.fst).take (k + 1)) ∧ BoxL w8 w.heap.size [.slice none 0 0, .map none] ∧ Below w.heap.size w w8) := ⟨by rw [HT.out]; exact nm8, q7.grown10 hg8 (by omega), below_grown10 bw7 hg8 (by omega)⟩
        rw [HL.out] at hup
        clear nm7 q7 bw7 nm8 hg8 HN6 HT HL hf hb7 hC HR6 hlk
        go_wp2_with fail
        go_roundw
        case rel => exact ⟨k + 1, by omega, by go_num, HN3⟩
        case measure => simp [intOf]; omega
    · have htk : (L.map Prod.fst).take k = L.map Prod.fst := List.take_of_length_le (by rw [List.length_map, hnl.out]; omega)
      rw [htk] at hm
      obtain ⟨V, hV⟩ : ∃ V, V = wr.setCells w.heap.size 0 [.slice a n cap, .map (some (w.heap.size + 1))] := ⟨_, rfl⟩
      have HTh : Hid (wr.there w.heap.size 0 (#[.slice a n cap, .map (some (w.heap.size + 1))] : Array Value).size) := hq.there
      have HWV : Hid (V = wr.setCells w.heap.size 0 (#[.slice a n cap, .map (some (w.heap.size + 1))] : Array Value).toList) := by rw [Hid, hV]
      have HOc : Hid ((#[.slice a n cap, .map (some (w.heap.size + 1))] : Array Value).all (·.oneCell') = true) := by rw [Hid]; simp [Value.oneCell']
      have kV : Kept (fun b => b ≠ w.heap.size) wr V := by rw [hV]; exact kept_setCells (fun h => h rfl)
      have qV : BoxL V w.heap.size [.slice a n cap, .map (some (w.heap.size + 1))] := by rw [hV]; exact box_over8 hq rfl
      have HOut : Hid (NmAt V (w.heap.size + 1) (L.map Prod.fst) ∧ w.heap.size ≤ w.heap.size + 1 ∧ Below w.heap.size w V) := ⟨hm.kept kV (by omega), by omega, by rw [hV]; exact below_setCells hbw (by omega)⟩
      have t0 := (qV.2 0 _ rfl).1
      have t1 := (qV.2 1 _ rfl).1
      have hszT : (Try.prog.info? 72).map (·.size) = some (#[.slice a n cap, .map (some (w.heap.size + 1))] : Array Value).size := by kernel_rfl
      clear hm hq hbw htk kV qV hV HU
      go_wp2_with (first | (refine wpList_store_mid rfl 72 _ _ rfl w.heap.size 0 #[.slice a n cap, .map (some (w.heap.size + 1))] rfl rfl HTh.out hszT HOc.out ?_; refine wpl_w8 HWV.out ?_) | fail)
      refine bodyPost_ret (v := .agg #[.slice a n cap, .map (some (w.heap.size + 1))]) (by simp [results, Try.results25, go_sem, t0, t1, Result.andThen]) rfl ?_
      exact ⟨_, rfl, HOut.out⟩
end Go.Proofs.Ytgofpmcoffgffaa
