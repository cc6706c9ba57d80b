/- A map from names whose values are held as they are; a list of members, each told by its name. Plain facts on worlds. No condition. A map from names to numbers, told by a function; boxes of pods and budgets. Plain facts on worlds. No condition. The budget's allowed. Condition: a list of pods and a budget lie as is said of them; what it asks for is a number of Go's. The budget's places and bound. Condition: a list of pods, a state lie as is said of them. -/
import Derived.Test.YtpjgffcpjabghaaQ13
import Derived.Maps.RangeWalk
import Derived.Test.YtpjgffcpjabghaaQ02
import Derived.Test.YtpjgffcpjabghaaQ05
import Derived.Test.YtpjgffcpjabghaaQ10
import Derived.Great.BuildSlice
namespace Go.Proofs.Ytpjgffcpjabghaa
open Go.RowKit Go.Maps
set_option linter.unusedSimpArgs false
set_option maxRecDepth 100000

/-- A value as it stands. -/
def RHv (v : Value) : Option (DataW Value × List MemPlace) := some (.held v, [])
def kT (s : ByteArray) : Lit := .string s.data.toList
theorem kT_key {s : ByteArray} (h : s.size ≤ 140737488355328) : keyOf Try.prog 9 (.string s) = some (kT s) := WideMaps.keyOf_string_mk Try.underlying9 (Nat.le_trans h (by unfold maxLen; omega))
theorem kT_is (s : ByteArray) : WideAt.IsKeyLit (kT s) := by unfold kT; trivial
theorem kT_inj {s t : ByteArray} (h : kT s = kT t) : s = t := by
  have := Lit.string.inj h
  exact ByteArray.ext (Array.ext' this)
theorem lawT : Keyed Try.prog 9 := string_keyed Try.underlying9
section
variable {α : Type} {key : α → ByteArray} {val : α → Value} {D : DataW Value} {S : List α}
/-- The datum tells these members, each by its name; no two have one name. -/
structure Tls (key : α → ByteArray) (val : α → Value) (D : DataW Value) (S : List α) : Prop where
  size : Maps.size D = S.length
  at_ : ∀ x ∈ S, ∀ z, D.atKey (kT (key x)) z = .held (val x)
  has : ∀ x ∈ S, Maps.has D (kT (key x)) = true
  mem : ∀ k, Maps.has D k = true → ∃ x ∈ S, k = kT (key x)
  nd : (S.map key).Nodup
/-- The one of that name. -/
def fndG (key : α → ByteArray) (S : List α) (s : ByteArray) : Option α := S.find? (fun x => sEq (key x) s)
/-- All but those of that name. -/
def othG (key : α → ByteArray) (s : ByteArray) (S : List α) : List α := S.filter (fun x => !sEq (key x) s)
theorem fndG_some {s : ByteArray} {x : α} (h : fndG key S s = some x) : x ∈ S ∧ key x = s :=
  ⟨List.mem_of_find?_eq_some h, (sEq_iff _ _).1 (List.find?_some (p := fun x => sEq (key x) s) h)⟩
theorem fndG_none {s : ByteArray} (h : fndG key S s = none) : ∀ x ∈ S, key x ≠ s := fun x hx e => by
  have := List.find?_eq_none.1 h x hx
  exact this ((sEq_iff _ _).2 e)
theorem mem_othG {s : ByteArray} {x : α} : x ∈ othG key s S ↔ x ∈ S ∧ key x ≠ s := by
  unfold othG
  rw [List.mem_filter]
  constructor
  · rintro ⟨h1, h2⟩
    exact ⟨h1, fun e => by rw [(sEq_iff _ _).2 e] at h2; cases h2⟩
  · rintro ⟨h1, h2⟩
    refine ⟨h1, ?_⟩
    cases e : sEq (key x) s with
    | true => exact absurd ((sEq_iff _ _).1 e) h2
    | false => rfl
theorem nd_one (h : (S.map key).Nodup) {x y : α} (hx : x ∈ S) (hy : y ∈ S) (e : key x = key y) : x = y := by
  induction S with
  | nil => cases hx
  | cons z S ih =>
    rw [List.map_cons, List.nodup_cons] at h
    rcases List.mem_cons.1 hx with ex | hx
    · rcases List.mem_cons.1 hy with ey | hy
      · rw [ex, ey]
      · exact absurd (List.mem_map.2 ⟨y, hy, by rw [← e, ex]⟩) h.1
    · rcases List.mem_cons.1 hy with ey | hy
      · exact absurd (List.mem_map.2 ⟨x, hx, by rw [e, ey]⟩) h.1
      · exact ih h.2 hx hy
theorem othG_nd (h : (S.map key).Nodup) (s : ByteArray) : ((othG key s S).map key).Nodup := by
  unfold othG
  exact h.sublist (List.filter_sublist.map key)
theorem othG_len (h : (S.map key).Nodup) (s : ByteArray) : (othG key s S).length + (if (fndG key S s).isSome = true then 1 else 0) = S.length := by
  induction S with
  | nil => rfl
  | cons z S ih =>
    rw [List.map_cons, List.nodup_cons] at h
    have := ih h.2
    unfold othG fndG at this ⊢
    cases e : sEq (key z) s with
    | true =>
      have hn : S.find? (fun x => sEq (key x) s) = none := by
        rw [List.find?_eq_none]
        intro x hx e2
        exact h.1 (List.mem_map.2 ⟨x, hx, ((sEq_iff _ _).1 e2).trans ((sEq_iff _ _).1 e).symm⟩)
      rw [hn] at this
      simp [List.filter_cons, List.find?_cons, e]
      simpa using this
    | false => simp [List.filter_cons, List.find?_cons, e] at this ⊢; omega
theorem fndG_of (h : (S.map key).Nodup) {x : α} (hx : x ∈ S) : fndG key S (key x) = some x := by
  cases e : fndG key S (key x) with
  | none => exact absurd rfl (fndG_none e x hx)
  | some y =>
    have := fndG_some e
    rw [nd_one h this.1 hx this.2]
theorem Tls.nil : Tls key val (.map []) [] := ⟨rfl, fun _ h => absurd h List.not_mem_nil, fun _ h => absurd h List.not_mem_nil, fun k h => by simp [Maps.has] at h, List.nodup_nil⟩
theorem Tls.perm {S' : List α} (h : Tls key val D S) (p : S'.Perm S) : Tls key val D S' :=
  ⟨by rw [h.size, p.length_eq], fun x hx => h.at_ x (p.mem_iff.1 hx), fun x hx => h.has x (p.mem_iff.1 hx), fun k hk => by obtain ⟨x, hx, e⟩ := h.mem k hk; exact ⟨x, p.mem_iff.2 hx, e⟩, (p.map key).nodup_iff.2 h.nd⟩
theorem Tls.has_iff (h : Tls key val D S) (s : ByteArray) : Maps.has D (kT s) = (fndG key S s).isSome := by
  cases e : fndG key S s with
  | none =>
    cases e2 : Maps.has D (kT s) with
    | false => rfl
    | true =>
      obtain ⟨x, hx, ek⟩ := h.mem _ e2
      exact absurd (kT_inj ek).symm (fndG_none e x hx)
  | some x =>
    have := fndG_some e
    rw [← this.2]; exact h.has x this.1
theorem Tls.look (h : Tls key val D S) (s : ByteArray) (z : Value) : D.atKey (kT s) (.held z) = .held ((fndG key S s).elim z val) := by
  cases e : fndG key S s with
  | none =>
    have := h.has_iff s
    rw [e] at this
    exact atKey_of_not_has this _
  | some x =>
    have := fndG_some e
    rw [← this.2]; exact h.at_ x this.1 _
theorem Tls.put (h : Tls key val D S) (hT : Tidy D) (x : α) : Tls key val (D.put (kT (key x)) (.held (val x))) (othG key (key x) S ++ [x]) := by
  have hM := hT.isMap
  refine ⟨?_, fun y hy => ?_, fun y hy => ?_, fun k hk => ?_, ?_⟩
  · rw [size_put hT, h.has_iff, h.size, List.length_append, List.length_singleton]
    have := othG_len h.nd (key x)
    split
    · rename_i e; rw [if_pos e] at this; omega
    · rename_i e; rw [if_neg e] at this; omega
  · rcases List.mem_append.1 hy with hy | hy
    · obtain ⟨hy, hne⟩ := mem_othG.1 hy
      intro z
      rw [atKey_put_other (fun e => hne (kT_inj e))]; exact h.at_ y hy z
    · obtain rfl := List.mem_singleton.1 hy
      exact fun z => atKey_put_same hM (kT_is _) _ _
  · rcases List.mem_append.1 hy with hy | hy
    · obtain ⟨hy, hne⟩ := mem_othG.1 hy
      rw [has_put_other (fun e => hne (kT_inj e))]; exact h.has y hy
    · obtain rfl := List.mem_singleton.1 hy
      exact has_put_same hM (kT_is _) _
  · by_cases e : k = kT (key x)
    · exact ⟨x, List.mem_append.2 (.inr (List.mem_singleton.2 rfl)), e⟩
    · rw [has_put_other e] at hk
      obtain ⟨y, hy, ek⟩ := h.mem k hk
      exact ⟨y, List.mem_append.2 (.inl (mem_othG.2 ⟨hy, fun e2 => e (by rw [ek, e2])⟩)), ek⟩
  · rw [List.map_append, List.nodup_append]
    refine ⟨othG_nd h.nd _, by simp, fun a ha b hb => ?_⟩
    obtain ⟨y, hy, rfl⟩ := List.mem_map.1 ha
    simp only [List.map_cons, List.map_nil, List.mem_singleton] at hb
    rw [hb]
    exact (mem_othG.1 hy).2
theorem Tls.del (h : Tls key val D S) (hT : Tidy D) (s : ByteArray) : Tls key val (D.del (kT s)) (othG key s S) := by
  refine ⟨?_, fun y hy => ?_, fun y hy => ?_, fun k hk => ?_, othG_nd h.nd _⟩
  · have := size_del (k := kT s) hT
    rw [h.has_iff, h.size] at this
    have h2 := othG_len h.nd s
    omega
  · obtain ⟨hy, hne⟩ := mem_othG.1 hy
    intro z
    rw [atKey_del_other (fun e => hne (kT_inj e))]; exact h.at_ y hy z
  · obtain ⟨hy, hne⟩ := mem_othG.1 hy
    rw [has_del_other (fun e => hne (kT_inj e))]; exact h.has y hy
  · have e : k ≠ kT s := fun e => by rw [e, has_del_same] at hk; cases hk
    rw [has_del_other e] at hk
    obtain ⟨y, hy, ek⟩ := h.mem k hk
    exact ⟨y, mem_othG.2 ⟨hy, fun e2 => e (by rw [ek, e2])⟩, ek⟩
/-- Block mb is a map that tells these members. -/
def MpL (u : World) (mb : Nat) (key : α → ByteArray) (val : α → Value) (S : List α) : Prop := ∃ D : DataW Value, u.ownsMap Try.prog 9 RHv mb S.length D ∧ Tls key val D S
variable {u u' : World} {mb : Nat}
theorem MpL.lt (h : MpL u mb key val S) : mb < u.heap.size := by obtain ⟨D, h1, _⟩ := h; exact h1.lt
theorem MpL.nd (h : MpL u mb key val S) : (S.map key).Nodup := by obtain ⟨D, _, h1⟩ := h; exact h1.nd
theorem MpL.same (h : MpL u mb key val S) (hb : u'.heap[mb]? = u.heap[mb]?) : MpL u' mb key val S := by
  obtain ⟨D, ⟨es, ck, h1, h2⟩, h3⟩ := h
  exact ⟨D, ⟨es, ck, hb.trans h1, h2⟩, h3⟩
theorem MpL.on (h : MpL u mb key val S) (hb : Below u.heap.size u u') : MpL u' mb key val S := h.same (hb.block mb h.lt)
theorem MpL.isMap (h : MpL u mb key val S) : ∃ es ck, u.heap[mb]? = some (.map es ck) := by obtain ⟨D, ⟨es, ck, h1, _⟩, _⟩ := h; exact ⟨es, ck, h1⟩
theorem MpL.made (w : World) : MpL (w.alloc (.map #[] 0)) w.heap.size key val [] := ⟨.map [], World.ownsMap_made _ _ _ _, Tls.nil⟩
theorem MpL.perm {S' : List α} (h : MpL u mb key val S) (p : S'.Perm S) : MpL u mb key val S' := by
  obtain ⟨D, h1, h2⟩ := h
  exact ⟨D, by rw [p.length_eq]; exact h1, h2.perm p⟩
theorem tight_own {n : Nat} (h : u.ownsMap Try.prog 9 RHv mb n D) : u.ownsMap Try.prog 9 RHv mb (Maps.size D) D := by
  obtain ⟨es, c, h1, h2, h3, rfl⟩ := h
  refine ⟨es, c, h1, h2, ?_, rfl⟩
  rw [Maps.size_eq, length_read]
  exact Nat.le_refl _
/-- 'm[s]'. -/
theorem MpL.look (h : MpL u mb key val S) (t e : TypeId) (ht : Try.prog.underlying t = some (.map 9 e)) {z : Value} (hz : (zeroValue e).run Try.prog u = .ok z u) {s : ByteArray} (hs : s.size ≤ 140737488355328) :
    (Instr.lookup t (.map (some mb)) (.string s) false).run Try.prog u = .ok ((fndG key S s).elim z val) u := by
  obtain ⟨D, h1, h2⟩ := h
  obtain ⟨v, ps, hrun, hv⟩ := h1.lookup lawT ht hz (zd := .held z) (zp := []) rfl (kT_key hs)
  rw [h2.look s z] at hv
  simp only [RHv, Option.some.injEq, Prod.mk.injEq, DataW.held.injEq] at hv
  rw [hrun, hv.1]
/-- 'v, ok := m[s]'. -/
theorem MpL.lookOk (h : MpL u mb key val S) (t e : TypeId) (ht : Try.prog.underlying t = some (.map 9 e)) {z : Value} (hz : (zeroValue e).run Try.prog u = .ok z u) {s : ByteArray} (hs : s.size ≤ 140737488355328) :
    (Instr.lookup t (.map (some mb)) (.string s) true).run Try.prog u = .ok (.tuple #[(fndG key S s).elim z val, .bool (fndG key S s).isSome]) u := by
  obtain ⟨D, h1, h2⟩ := h
  obtain ⟨v, ps, hrun, hv⟩ := h1.look_ok lawT ht hz (zd := .held z) (zp := []) rfl (kT_key hs)
  rw [h2.look s z] at hv
  simp only [RHv, Option.some.injEq, Prod.mk.injEq, DataW.held.injEq] at hv
  rw [hrun, hv.1, h2.has_iff]
/-- 'm[s] = v'. -/
theorem MpL.put (h : MpL u mb key val S) (t e : TypeId) (ht : Try.prog.underlying t = some (.map 9 e)) (x : α) (hs : (key x).size ≤ 140737488355328) (hn : S.length < 140737488355328) :
    ∃ u' : World, (Instr.mapUpdate t (.map (some mb)) (.string (key x)) (val x)).run Try.prog u = .ok () u' ∧ MpL u' mb key val (othG key (key x) S ++ [x]) ∧ u.mapTurned u' mb := by
  obtain ⟨D, h1, h2⟩ := h
  obtain ⟨u', hrun, r1, r2⟩ := h1.store lawT ht (Nat.lt_of_lt_of_le hn (by unfold maxLen; omega)) (val := val x) (kT_key hs) rfl
  have r3 := h2.put (h1.tidy lawT) x
  refine ⟨u', hrun, ⟨_, ?_, r3⟩, r2⟩
  rw [← r3.size]
  exact tight_own r1
/-- 'delete(m, s)'. -/
theorem MpL.drop (h : MpL u mb key val S) (t e : TypeId) (ht : Try.prog.underlying t = some (.map 9 e)) (s : ByteArray) (hs : s.size ≤ 140737488355328) (ty : TypeId) :
    ∃ u' : World, (Builtin.delete_ #[t, 9] ty #[.map (some mb), .string s]).run Try.prog u = .ok (.tuple #[]) u' ∧ MpL u' mb key val (othG key s S) ∧ u.mapTurned u' mb := by
  obtain ⟨D, h1, h2⟩ := h
  obtain ⟨u', hrun, r1, r2⟩ := h1.drop lawT ht (kT_key hs) ty
  have r3 := h2.del (h1.tidy lawT) s
  refine ⟨u', hrun, ⟨_, ?_, r3⟩, r2⟩
  rw [← r3.size]
  exact tight_own r1
/-- What has come of a range: those that are no longer to come. -/
def cameG (key : α → ByteArray) (left : Lit → Bool) (S : List α) : List α := S.filter (fun x => !left (kT (key x)))
theorem came_start (h : Tls key val D S) : cameG key (Maps.has D) S = [] := by
  unfold cameG
  rw [List.filter_eq_nil_iff]
  intro x hx
  rw [h.has x hx]
  decide
theorem came_end {left : Lit → Bool} (hl : ∀ k, left k = false) : cameG key left S = S := by
  unfold cameG
  rw [List.filter_eq_self]
  intro x _
  rw [hl]
  rfl
theorem came_step (hn : (S.map key).Nodup) {left : Lit → Bool} {x : α} (hx : x ∈ S) (hl : left (kT (key x)) = true) : (cameG key (fun z => left z && !z.sameKey (kT (key x))) S).Perm (cameG key left S ++ [x]) := by
  unfold cameG
  have hsame : ∀ y ∈ S, (!(left (kT (key y)) && !(kT (key y)).sameKey (kT (key x)))) = (!left (kT (key y)) || decide (key y = key x)) := fun y hy => by
    by_cases e : key y = key x
    · rw [e]
      have : (kT (key x)).sameKey (kT (key x)) = true := by simp [Lit.sameKey, kT]
      rw [this]; simp
    · have : (kT (key y)).sameKey (kT (key x)) = false := sameKey_ne (fun e2 => e (kT_inj e2))
      rw [this]; simp [e]
  rw [List.filter_congr hsame]
  clear hsame
  induction S with
  | nil => cases hx
  | cons y S ih =>
    rw [List.map_cons, List.nodup_cons] at hn
    by_cases e : y = x
    · subst e
      have h2 : S.filter (fun z => !left (kT (key z)) || decide (key z = key y)) = S.filter (fun z => !left (kT (key z))) := List.filter_congr (fun z hz => by
        have : key z ≠ key y := fun e => hn.1 (List.mem_map.2 ⟨z, hz, e⟩)
        simp [this])
      rw [List.filter_cons, List.filter_cons, h2]
      simp only [hl, Bool.not_true, Bool.false_or, decide_true, if_true, Bool.false_eq_true, if_false]
      exact List.perm_append_comm (l₁ := [y])
    · have hx2 : x ∈ S := (List.mem_cons.1 hx).resolve_left (fun e2 => e e2.symm)
      have hne : key y ≠ key x := fun e2 => hn.1 (List.mem_map.2 ⟨x, hx2, e2.symm⟩)
      have := ih hn.2 hx2
      rw [List.filter_cons, List.filter_cons]
      simp only [hne, decide_false, Bool.or_false]
      split
      · exact List.Perm.cons y this
      · exact this
end
end Go.Proofs.Ytpjgffcpjabghaa
namespace Go.Proofs.Ytpjgffcpjabghaa
open Go.RowKit Go.Maps
set_option linter.unusedSimpArgs false
set_option maxRecDepth 100000

def iV (x : ByteArray × Int) : Value := .int .i64 x.2
/-- Block mb is a map that tells f; it has at most n names. -/
def MpI (u : World) (mb : Nat) (f : ByteArray → Option Int) (n : Nat) : Prop := ∃ S : List (ByteArray × Int), MpL u mb Prod.fst iV S ∧ S.length ≤ n ∧ ∀ s, (fndG Prod.fst S s).map Prod.snd = f s
theorem zeroI (w : World) : (zeroValue 3).run Try.prog w = .ok (.int .i64 0) w := by kernel_rfl
section
variable {u u' : World} {mb n : Nat} {f : ByteArray → Option Int}
theorem MpI.lt (h : MpI u mb f n) : mb < u.heap.size := by obtain ⟨S, h1, _⟩ := h; exact h1.lt
theorem MpI.same (h : MpI u mb f n) (hb : u'.heap[mb]? = u.heap[mb]?) : MpI u' mb f n := by obtain ⟨S, h1, h2⟩ := h; exact ⟨S, h1.same hb, h2⟩
theorem MpI.on (h : MpI u mb f n) (hb : Below u.heap.size u u') : MpI u' mb f n := h.same (hb.block mb h.lt)
theorem MpI.grown (h : MpI u mb f n) {row : Option Nat} (hg : u.grownBy u' row) (hr : row ≠ some mb) : MpI u' mb f n := h.same (hg.block mb h.lt (fun e => hr e.symm))
theorem MpI.turned (h : MpI u mb f n) {F : Where} (ht : Turns F u u') (hr : ¬ F mb) : MpI u' mb f n := h.same (ht.block mb h.lt hr)
theorem MpI.mono (h : MpI u mb f n) {m : Nat} (hm : n ≤ m) : MpI u mb f m := by obtain ⟨S, h1, h2, h3⟩ := h; exact ⟨S, h1, Nat.le_trans h2 hm, h3⟩
theorem MpI.as (h : MpI u mb f n) {g : ByteArray → Option Int} (hg : ∀ s, f s = g s) : MpI u mb g n := by obtain ⟨S, h1, h2, h3⟩ := h; exact ⟨S, h1, h2, fun s => (h3 s).trans (hg s)⟩
theorem MpI.made (w : World) : MpI (w.alloc (.map #[] 0)) w.heap.size (fun _ => none) 0 := ⟨[], MpL.made w, Nat.le_refl _, fun _ => rfl⟩
theorem MpI.look (h : MpI u mb f n) {s : ByteArray} (hs : s.size ≤ 140737488355328) : (Instr.lookup 56 (.map (some mb)) (.string s) false).run Try.prog u = .ok (.int .i64 ((f s).getD 0)) u := by
  obtain ⟨S, h1, _, h3⟩ := h
  rw [h1.look 56 3 Try.underlying56 (zeroI u) hs, ← h3 s]
  cases fndG Prod.fst S s <;> rfl
theorem MpI.lookOk (h : MpI u mb f n) {s : ByteArray} (hs : s.size ≤ 140737488355328) : (Instr.lookup 56 (.map (some mb)) (.string s) true).run Try.prog u = .ok (.tuple #[.int .i64 ((f s).getD 0), .bool (f s).isSome]) u := by
  obtain ⟨S, h1, _, h3⟩ := h
  rw [h1.lookOk 56 3 Try.underlying56 (zeroI u) hs, ← h3 s]
  cases fndG Prod.fst S s <;> rfl
theorem fnd_oth (S : List (ByteArray × Int)) (s t : ByteArray) : fndG Prod.fst (othG Prod.fst s S) t = if sEq s t = true then none else fndG Prod.fst S t := by
  unfold fndG othG
  rw [List.find?_filter]
  cases e : sEq s t with
  | true =>
    rw [if_pos rfl, List.find?_eq_none]
    intro x _ h
    simp only [Bool.and_eq_true, Bool.not_eq_true', decide_eq_true_eq] at h
    have e1 := (sEq_iff _ _).1 e
    subst e1
    rw [h.2] at h; cases h.1
  | false =>
    rw [if_neg (by decide)]
    congr 1
    funext x
    cases e2 : sEq x.1 t with
    | false => simp
    | true =>
      have e3 := (sEq_iff _ _).1 e2
      have e4 : sEq x.1 s = false := by
        cases e5 : sEq x.1 s with
        | false => rfl
        | true =>
          have e6 := (sEq_iff _ _).1 e5
          rw [← e6, e3, (sEq_iff _ _).2 rfl] at e; cases e
      simp [e4]
theorem fnd_put (S : List (ByteArray × Int)) (x : ByteArray × Int) (t : ByteArray) : (fndG Prod.fst (othG Prod.fst x.1 S ++ [x]) t).map Prod.snd = if sEq x.1 t = true then some x.2 else (fndG Prod.fst S t).map Prod.snd := by
  have h : fndG Prod.fst (othG Prod.fst x.1 S ++ [x]) t = (fndG Prod.fst (othG Prod.fst x.1 S) t).or (if sEq x.1 t = true then some x else none) := by
    unfold fndG
    rw [List.find?_append]
    congr 1
    rw [List.find?_cons]
    cases sEq x.1 t <;> rfl
  rw [h, fnd_oth]
  cases e : sEq x.1 t with
  | true => rfl
  | false =>
    rw [if_neg (by decide), if_neg (by decide), if_neg (by decide)]
    cases fndG Prod.fst S t <;> rfl
theorem MpI.put (h : MpI u mb f n) (x : ByteArray × Int) (hs : x.1.size ≤ 140737488355328) (hn : n < 140737488355328) :
    ∃ u' : World, (Instr.mapUpdate 56 (.map (some mb)) (.string x.1) (.int .i64 x.2)).run Try.prog u = .ok () u' ∧ MpI u' mb (fun t => if sEq x.1 t = true then some x.2 else f t) (if (f x.1).isSome = true then n else n + 1) ∧ u.mapTurned u' mb := by
  obtain ⟨S, h1, h2, h3⟩ := h
  obtain ⟨u', r1, r2, r3⟩ := h1.put 56 3 Try.underlying56 x hs (by omega)
  refine ⟨u', r1, ⟨_, r2, ?_, fun s => by rw [fnd_put, h3]⟩, r3⟩
  have hl := othG_len h1.nd x.1
  have he : (f x.1).isSome = (fndG Prod.fst S x.1).isSome := by rw [← h3]; cases fndG Prod.fst S x.1 <;> rfl
  rw [List.length_append, List.length_singleton, he]
  split
  · rename_i e; rw [if_pos e] at hl; omega
  · rename_i e; rw [if_neg e] at hl; omega
theorem MpI.drop (h : MpI u mb f n) (s : ByteArray) (hs : s.size ≤ 140737488355328) (ty : TypeId) :
    ∃ u' : World, (Builtin.delete_ #[56, 9] ty #[.map (some mb), .string s]).run Try.prog u = .ok (.tuple #[]) u' ∧ MpI u' mb (fun t => if sEq s t = true then none else f t) n ∧ u.mapTurned u' mb := by
  obtain ⟨S, h1, h2, h3⟩ := h
  obtain ⟨u', r1, r2, r3⟩ := h1.drop 56 3 Try.underlying56 s hs ty
  refine ⟨u', r1, ⟨_, r2, ?_, fun t => ?_⟩, r3⟩
  · have hl := othG_len h1.nd s
    split at hl <;> omega
  · show _ = if sEq s t = true then none else f t
    rw [fnd_oth, ← h3]
    split <;> rfl
end
/-- 'm[s] = v' in a walk. -/
theorem wpList_updI {w : World} {ops : Array Oper} {rest : List Oper} {o : Oper} {a : Act} {Q : Exit → Act → World → Prop} {mb n : Nat} {f : ByteArray → Option Int} (hg : o.guard = none) (m k z : Operand) (hop : o.op = Op.mapUpdate 56 m k z)
    (hm : a.eval m = .map (some mb)) (s : ByteArray) (v : Int) (hs : s.size ≤ 140737488355328) (hk : a.eval k = .string s) (hz : a.eval z = .int .i64 v) (h : MpI w mb f n) (hn : n < 140737488355328)
    (hK : ∀ w', MpI w' mb (fun t => if sEq s t = true then some v else f t) (if (f s).isSome = true then n else n + 1) → w.mapTurned w' mb → wpList Try.prog ops Q rest (a.put o.dst undef) w') : wpList Try.prog ops Q (o :: rest) a w := by
  refine wpList_plain hg fun K' hK' => ?_
  obtain ⟨w', hrun, r1, r2⟩ := h.put (s, v) hs hn
  unfold Oper.wp
  simp [execOp, hop, hm, hk, hz, hrun, Result.andThen]
  exact hK' _ _ (hK w' r1 r2)
/-- 'delete(m, s)' in a walk. -/
theorem wpList_delI {w : World} {ops : Array Oper} {rest : List Oper} {o : Oper} {a : Act} {Q : Exit → Act → World → Prop} {mb n : Nat} {f : ByteArray → Option Int} (hg : o.guard = none) (m x : Operand) (hop : o.op = Op.call { callee := .builtin .delete, args := #[m, x], argTypes := #[56, 9] })
    (hm : a.eval m = .map (some mb)) (s : ByteArray) (hs : s.size ≤ 140737488355328) (hx : a.eval x = .string s) (h : MpI w mb f n)
    (hK : ∀ w', MpI w' mb (fun t => if sEq s t = true then none else f t) n → w.mapTurned w' mb → wpList Try.prog ops Q rest (a.put o.dst (.tuple #[])) w') : wpList Try.prog ops Q (o :: rest) a w := by
  refine wpList_plain hg fun K' hK' => ?_
  obtain ⟨w', hrun, r1, r2⟩ := h.drop s hs o.type
  unfold Oper.wp
  simp [execOp, hop, resolve, invoke, builtin, hm, hx, hrun, Result.andThen]
  exact hK' _ _ (hK w' r1 r2)
theorem makeMapI (n : Nat) (w : World) : (Instr.makeMap 56 (some (.int .i64 (n : Int)))).run Try.prog w = .ok (.map (some w.heap.size)) (w.alloc (.map #[] 0)) := by
  simp [Instr.makeMap, run_underlying Try.underlying56, asInt, asIntOf, Result.andThen]
abbrev zPodL : List Value := [.string ⟨#[]⟩, .int .i64 0, .slice none 0 0, .int .i64 0, .int .i64 0, .int .i64 0, .slice none 0 0, .slice none 0 0, .slice none 0 0, .slice none 0 0, .slice none 0 0, .slice none 0 0, .slice none 0 0, .slice none 0 0, .string ⟨#[]⟩, .string ⟨#[]⟩]
theorem sizePodQ : (Try.prog.info? 54).map (·.size) = some 16 := by kernel_rfl
theorem sizeBudQ : (Try.prog.info? 37).map (·.size) = some 3 := by kernel_rfl
/-- A struct, stored in a new box of its own over its zero cells. -/
theorem box_newQ {α : Type} {R : Rep α} {k : Nat} (hR : Firm R k) {wr : World} {ps : List Value} {A : Where} {p : α} (hr : R A wr ps p) (zs : List Value) (hz : zs.length = k) (t : TypeId) (ht : (Try.prog.info? t).map (·.size) = some k) : ∃ Z X, Z = wr.alloc (.cells zs.toArray t) ∧ X = Z.setCells wr.heap.size 0 ps.toArray.toList ∧ Below wr.heap.size wr X ∧ BoxL X wr.heap.size ps ∧ Z.there wr.heap.size 0 ps.toArray.size ∧ ps.toArray.all (·.oneCell') = true ∧ (Try.prog.info? t).map (·.size) = some ps.length ∧ (Try.prog.info? t).map (·.size) = some ps.toArray.size := by
  have hl : ps.length = k := hR.len hr
  have q0 : BoxL (wr.alloc (.cells zs.toArray t)) wr.heap.size zs := BoxL.new wr t _
  have c0 : Below wr.heap.size wr (wr.alloc (.cells zs.toArray t)) := (Below.refl _ _).alloc (Nat.le_refl _) _
  refine ⟨_, _, rfl, rfl, below_setCells c0 (Nat.le_refl _), box_over18 q0 (by rw [hl, hz]), ?_, all_oneCell_toArray (hR.one hr), by rw [hl]; exact ht, by rw [show ps.toArray.size = k by simp [hl]]; exact ht⟩
  have h := q0.there; rw [hz] at h; rw [show ps.toArray.size = k by simp [hl]]; exact h
/-- A guarded load of a struct. -/
theorem load_wQ {ops : Array Oper} {rest : List Oper} {op : Oper} {a : Act} {w : World} {Q : Exit → Act → World → Prop} (hgd : Region.wanted op (yielded ops a.tmps) = true) (ty : TypeId) (x : Operand) (ho : op.op = .load ty x)
    (b o : Nat) (hx : a.eval x = .pointer (some ⟨b, o, none⟩)) (cs : List Value) (d : TypeDesc) (hc : w.rangeAt b o cs)
    (hu : Try.prog.underlying ty = some d) (hd : d.isRow = true) (hi : (Try.prog.info? ty).map (·.size) = some cs.length)
    (h : wpList Try.prog ops Q rest (a.put op.dst (.agg cs.toArray)) w) : wpList Try.prog ops Q (op :: rest) a w :=
  BigFrame.wpList_want hgd (fun _ hK => wp_load_mid ty x ho b o hx cs d hc hu hd hi (hK _ _ h))
theorem infPodQ : (Try.prog.info? 54).map (fun i => (i.zero, i.size, i.bytes)) = some (some (.agg zPodL.toArray), 16, 296) := by kernel_rfl
theorem fsPodQ {A : Where} {w : World} {c : List Value} {y : PodD} (h : RPod A w c y) : Instr.fill (fun i => some (i * 16, 16)) ((Array.range (1 * 16)).map ((Value.agg zPodL.toArray).cells[· % (Value.agg zPodL.toArray).cells.size]!)) [(0, .agg c.toArray)] = some c.toArray := by
  obtain ⟨_, _, _, _, _, _, _, _, _, rfl, _⟩ := h.out
  kernel_rfl
abbrev zBudL : List Value := [.string ⟨#[]⟩, .slice none 0 0, .int .i64 0]
theorem infBudQ : (Try.prog.info? 37).map (fun i => (i.zero, i.size, i.bytes)) = some (some (.agg zBudL.toArray), 3, 48) := by kernel_rfl
theorem fsBudQ {A : Where} {w : World} {c : List Value} {y : BudgetD} (h : RBudget A w c y) : Instr.fill (fun i => some (i * 3, 3)) ((Array.range (1 * 3)).map ((Value.agg zBudL.toArray).cells[· % (Value.agg zBudL.toArray).cells.size]!)) [(0, .agg c.toArray)] = some c.toArray := by
  obtain ⟨_, rfl, _⟩ := h.out
  kernel_rfl
/-- A slice of one struct is built: a box of its own. -/
theorem build_pod {w : World} {ops : Array Oper} {rest : List Oper} {o : Oper} {a : Act} {Q : Exit → Act → World → Prop} {A : Where} {ps : List Value} {p : PodD} (hg : o.guard = none) (x : Operand) (ho : o.op = Op.buildSlice 22 1 #[(0, x)]) (hr : RPod A w ps p) (hx : a.eval x = .agg ps.toArray)
    (hK : ∀ W5, Below w.heap.size w W5 → BoxL W5 w.heap.size ps → wpList Try.prog ops Q rest (a.put o.dst (.slice (some ⟨w.heap.size, 0, none⟩) 1 1)) W5) : wpList Try.prog ops Q (o :: rest) a w := by
  obtain ⟨i0, hi0, hz0, hzs, _⟩ := info_parts infPodQ
  exact wpList_buildSlice hg 22 54 1 _ ho ps.toArray i0 _ Try.underlying22 hi0 hz0 (by rw [hzs]; decide) (by rw [hzs]; decide) (by rw [hzs]; simp only [List.map_toArray, List.map_cons, List.map_nil, hx]; exact fsPodQ hr) (hK _ ((Below.refl _ _).alloc (Nat.le_refl _) _) (BoxL.new w 54 _))
theorem build_bud {w : World} {ops : Array Oper} {rest : List Oper} {o : Oper} {a : Act} {Q : Exit → Act → World → Prop} {A : Where} {ps : List Value} {p : BudgetD} (hg : o.guard = none) (x : Operand) (ho : o.op = Op.buildSlice 27 1 #[(0, x)]) (hr : RBudget A w ps p) (hx : a.eval x = .agg ps.toArray)
    (hK : ∀ W5, Below w.heap.size w W5 → BoxL W5 w.heap.size ps → wpList Try.prog ops Q rest (a.put o.dst (.slice (some ⟨w.heap.size, 0, none⟩) 1 1)) W5) : wpList Try.prog ops Q (o :: rest) a w := by
  obtain ⟨i0, hi0, hz0, hzs, _⟩ := info_parts infBudQ
  exact wpList_buildSlice hg 27 37 1 _ ho ps.toArray i0 _ Try.underlying27 hi0 hz0 (by rw [hzs]; decide) (by rw [hzs]; decide) (by rw [hzs]; simp only [List.map_toArray, List.map_cons, List.map_nil, hx]; exact fsBudQ hr) (hK _ ((Below.refl _ _).alloc (Nat.le_refl _) _) (BoxL.new w 37 _))
/-- A row of one's own lies behind what was there. -/
theorem Row.far {α : Type} [Inhabited α] {R : Rep α} {k : Nat} {A : Where} {w0 u : World} {e : TypeId} {v : Value} {L : List α} (h : Row R k A w0 u e v L) {b : Nat} (hb : b < w0.heap.size) : v.ownBlock ≠ some b := fun e => by
  obtain ⟨xs, h1, _⟩ := h
  have := (h1.2.lt b e).1
  omega
end Go.Proofs.Ytpjgffcpjabghaa
namespace Go.Proofs.Ytpjgffcpjabghaa
open Go.RowKit Go.Maps
set_option linter.unusedSimpArgs false
set_option maxRecDepth 100000

def allN (G : List PodD) (b : BudgetD) : Nat := (G.filter fun p => matchL p.2.2.1 b.2.1).length
def allW (n : Nat) (x : Int) : Int := if x < 0 then (n : Int) else max 0 ((n : Int) - x)
theorem all_bound (P : List PodD) (b : BudgetD) : allW (allN (boundP P) b) b.2.2 = allowsP (fsG P) b := by
  have h := congrArg List.length (about_bound P b)
  rw [List.length_map] at h
  unfold allW allowsP allN
  rw [h]
theorem all_snoc {G : List PodD} (b : BudgetD) {k : Nat} (hk : k < G.length) : allN (G.take (k + 1)) b = allN (G.take k) b + (if matchL (G.getD k default).2.2.1 b.2.1 = true then 1 else 0) := by
  unfold allN
  rw [take_snoc18 hk, List.filter_append, List.length_append]
  congr 1
  generalize G.getD k default = y
  cases h : matchL y.2.2.1 b.2.1 <;> simp [h]
theorem all_len (G : List PodD) (b : BudgetD) : allN G b ≤ G.length := List.length_filter_le _ _
set_option maxHeartbeats 4000000 in
theorem allowed_calls (a : Option Addr) (n cap : Nat) (bs : List Value) (A A' : Where) (G : List PodD) (b : BudgetD) (w : World) (hg : Hid (SlAt RPod 16 296 A w a n cap G)) (hb : Hid (RBudget A' w bs b)) (hf : Hid (FitQ b.2.2)) : Calls Try.prog 25 #[.slice a n cap, .agg bs.toArray] w fun e w' => e = .returned (.int .i64 (allW (allN G b) b.2.2)) ∧ Below w.heap.size w w' := by
  obtain ⟨W1, hW1⟩ : ∃ Z, Z = w.alloc (.cells bs.toArray 37) := ⟨_, rfl⟩
  have b1 : Below w.heap.size w W1 := by rw [hW1]; exact (Below.refl _ _).alloc (Nat.le_refl _) _
  have q1 : BoxL W1 w.heap.size bs := by rw [hW1]; exact BoxL.new w 37 _
  obtain ⟨r1, ebs, _, _⟩ := hb.out.out
  obtain ⟨I, hI⟩ : ∃ I, I = w.heap.size := ⟨_, rfl⟩
  rw [← hI] at q1
  have HI : Hid (w.heap.size = I) := hI.symm
  have HW : Hid (w.alloc (.cells bs.toArray 37) = W1) := hW1.symm
  have HB : Hid (Below w.heap.size w W1) := b1
  have HSb : Hid ((Try.prog.info? 37).map (·.size) = some bs.length) := by rw [Hid, RBudget.firm.len hb.out]; exact sizeBudQ
  have HBu : Hid (∀ z, Below W1.heap.size W1 z → RBudget A' z bs b ∧ z.rangeAt I 0 bs ∧ z.cell? ⟨I, 2, none⟩ = some (.int .i64 b.2.2)) := fun z hz => ⟨RBudget.firm.kept hb.out (Kept.below (on2 b1 hz)), (q1.on hz).range, ((q1.on hz).2 2 _ (by rw [ebs]; rfl)).1⟩
  have HS : Hid (∀ z, Below W1.heap.size W1 z → SlAt RPod 16 296 A z a n cap G) := fun z hz => hg.out.on RPod.firm (on2 b1 hz)
  have hn : Hid (G.length = n) := hg.out.1
  have hml : n * 296 ≤ 140737488351232 := hg.out.2.2.2.1
  clear hW1 b1 q1 ebs hI hg hb
  go_enter Try.func25, Try.ntmps25
  go_upto_region 1 with fail
  rw [HW.out, HI.out]
  clear HW
  go_wp2_with fail
  --M1
  go_loopw [5, 10] (fun v i z => ∃ k : Nat, k ≤ n ∧ i = .int .i64 k ∧ v = .int .i64 (allN (G.take k) b) ∧ Hid (Below W1.heap.size W1 z)) (fun _ i _ => n - (intOf i).toNat)
  case atStart => exact ⟨0, Nat.zero_le _, rfl, rfl, Below.refl _ _⟩
  case round =>
    obtain ⟨k, hk, rfl, rfl, hz⟩ := hrel
    by_cases hlt : k < n
    case neg =>
      have hltz : ¬ (k : Int) < (n : Int) := by omega
      have hc := all_len G b
      rw [hn.out] at hc
      have HE : Hid (Below w.heap.size w wr) := on2 HB.out hz.out
      obtain ⟨c, hcd⟩ : ∃ c, c = allN G b := ⟨_, rfl⟩
      rw [List.take_of_length_le (by rw [hn.out]; omega), ← hcd]
      rw [← hcd] at hc
      obtain ⟨x, hx⟩ : ∃ x, x = b.2.2 := ⟨_, rfl⟩
      have d2 := (HBu.out wr hz.out).2.2
      rw [← hx] at d2
      have HF := hf.out
      rw [← hx] at HF
      unfold FitQ at HF
      obtain ⟨hf1, hf2⟩ := HF
      have HCX : Hid (allN G b = c ∧ b.2.2 = x) := ⟨hcd.symm, hx.symm⟩
      clear hx hcd HBu hf
      --M2
      by_cases hx : x < 0
      · have m1 : max x 0 = 0 := by omega
        have m2 : max (c : Int) 0 = (c : Int) := by omega
        have HR : Hid (allW c x = (c : Int)) := by unfold allW; rw [Hid, if_pos hx]
        have hx1 : ¬ (0 : Int) < x := by omega
        go_wp2_with fail
        --M3
        go_ret
        exact ⟨by rw [HCX.out.1, HCX.out.2, HR.out]; simp, HE.out⟩
      · have m1 : max x 0 = x := by omega
        have HR : Hid (allW c x = max 0 ((c : Int) - x)) := by unfold allW; rw [Hid, if_neg hx]
        by_cases hcx : x ≤ c
        · have m2 : max ((c : Int) - x) 0 = (c : Int) - x := by omega
          have HR2 : Hid (allW c x = (c : Int) - x) := by rw [Hid, HR.out]; omega
          clear HR
          go_wp2_with fail
          --M4
          go_ret
          exact ⟨by rw [HCX.out.1, HCX.out.2, HR2.out]; rfl, HE.out⟩
        · have m2 : max ((c : Int) - x) 0 = 0 := by omega
          have HR2 : Hid (allW c x = 0) := by rw [Hid, HR.out]; omega
          clear HR
          go_wp2_with fail
          --M5
          go_ret
          exact ⟨by rw [HCX.out.1, HCX.out.2, HR2.out]; rfl, HE.out⟩
    have hltz : (k : Int) < (n : Int) := by omega
    have hkl : k < G.length := by rw [hn.out]; exact hlt
    obtain ⟨D, off, rfl, hD, _, ps, hr, hv⟩ := (HS.out wr hz.out).get hlt
    obtain ⟨p, hp⟩ : ∃ p, p = G.getD k default := ⟨_, rfl⟩
    have hsn := all_snoc b hkl
    have hcl := all_len (G.take k) b
    rw [List.length_take] at hcl
    rw [← hp] at hr hsn
    obtain ⟨Z, X3, hZ, hX3, bX3, qX3, hT, hO, hSz1, hSz2⟩ := box_newQ RPod.firm hr zPodL rfl 54 sizePodQ
    obtain ⟨B, hB⟩ : ∃ B, B = wr.heap.size := ⟨_, rfl⟩
    have HBB : Hid (wr.heap.size = B) := hB.symm
    have HPv : Hid (wr.rangeAt D (off + k * 16) ps) := hv
    have HT : Hid (Z.there wr.heap.size 0 ps.toArray.size) := hT
    have HO : Hid (ps.toArray.all (·.oneCell') = true) := hO
    have HS1 : Hid ((Try.prog.info? 54).map (·.size) = some ps.length ∧ (Try.prog.info? 54).map (·.size) = some ps.toArray.size) := ⟨hSz1, hSz2⟩
    have HZ : Hid (wr.alloc (.cells zPodL.toArray 54) = Z) := hZ.symm
    have HX3 : Hid (X3 = Z.setCells wr.heap.size 0 ps.toArray.toList) := hX3
    rw [← hB] at qX3
    have H3X : Hid (Below W1.heap.size W1 X3) := on2 hz.out bX3
    have HR3 : Hid (X3.rangeAt B 0 ps) := qX3.range
    have HR4 : Hid (X3.rangeAt I 0 bs) := (HBu.out X3 H3X.out).2.1
    have hA := isAbout_calls ps bs A A' p b X3 (RPod.firm.kept hr (Kept.below bX3)) (HBu.out X3 H3X.out).1
    obtain ⟨c, hcd⟩ : ∃ c, c = allN (G.take k) b := ⟨_, rfl⟩
    rw [← hcd] at hsn hcl ⊢
    have HSN : Hid (allN (G.take (k + 1)) b = c + (if matchL p.2.2.1 b.2.1 = true then 1 else 0)) := hsn
    generalize matchL p.2.2.1 b.2.1 = q at hA HSN
    clear hsn hcd hp hr hT hO hSz1 hSz2 hZ hX3 bX3 qX3 hB hv hz
    go_upto_region 5 with (first | (refine wpList_load_mid rfl 54 _ rfl D (off + k * 16) rfl ps _ HPv.out Try.underlying54 rfl HS1.out.1 ?_) | (rw [HZ.out]; refine wpList_store_mid rfl 54 _ _ rfl wr.heap.size 0 ps.toArray rfl rfl HT.out HS1.out.2 HO.out ?_; refine wpl_atG HX3.out ?_; rw [HBB.out]) | fail)
    --M6
    have HS2 : Hid ((Try.prog.info? 54).map (·.size) = some ps.length) := HS1.out.1
    clear HPv HT HO HS1 HZ HX3 HBB
    go_wp2_with (first | (refine wpList_load_mid rfl 37 _ rfl I 0 rfl bs _ HR4.out Try.underlying37 rfl HSb.out ?_) | (refine wpList_load_mid rfl 54 _ rfl B 0 rfl ps _ HR3.out Try.underlying54 rfl HS2.out ?_) | fail)
    refine hA.mono ?_
    rintro e w5 ⟨rfl, b5⟩
    have HE : Hid (Below W1.heap.size W1 w5) := on2 H3X.out b5
    clear hA b5 HR3 HR4 HS2 H3X
    --M7
    cases q
    · have HN : Hid (allN (G.take (k + 1)) b = c) := by rw [Hid, HSN.out]; rfl
      clear HSN
      go_wp2_with fail
      go_roundw
      case rel => exact ⟨k + 1, by omega, by go_num, by rw [HN.out], HE⟩
      case measure => simp [intOf]; omega
    · have HN : Hid (allN (G.take (k + 1)) b = c + 1) := by rw [Hid, HSN.out]; rfl
      clear HSN
      go_wp2_with fail
      go_roundw
      case rel => exact ⟨k + 1, by omega, by go_num, by rw [HN.out]; go_num, HE⟩
      case measure => simp [intOf]; omega
end Go.Proofs.Ytpjgffcpjabghaa
namespace Go.Proofs.Ytpjgffcpjabghaa
open Go.RowKit Go.Maps
set_option linter.unusedSimpArgs false
set_option maxRecDepth 100000

/-- Where the first of a name stands, as a number. -/
def plc (G : List PodD) (s : ByteArray) : Option Int := (idxG G s).map fun i => (i : Int)
theorem plc_snoc {G : List PodD} {k : Nat} (hk : k < G.length) (s : ByteArray) : plc (G.take (k + 1)) s = (plc (G.take k) s).or (if sEq (G.getD k default).1 s = true then some (k : Int) else none) := by
  unfold plc
  rw [take_snoc18 hk, idx_snoc, List.length_take, Nat.min_eq_left (by omega)]
  cases idxG (G.take k) s with
  | some i => rfl
  | none => cases sEq (G.getD k default).1 s <;> rfl
theorem plc_step {G : List PodD} {k : Nat} (hk : k < G.length) (h : (plc (G.take k) (G.getD k default).1).isSome = true) (s : ByteArray) : plc (G.take (k + 1)) s = plc (G.take k) s := by
  rw [plc_snoc hk]
  cases e : plc (G.take k) s with
  | some i => rfl
  | none =>
    cases e2 : sEq (G.getD k default).1 s with
    | false => rfl
    | true => rw [(sEq_iff _ _).1 e2, e] at h; cases h
theorem plc_new {G : List PodD} {k : Nat} (hk : k < G.length) (h : (plc (G.take k) (G.getD k default).1).isSome = false) (s : ByteArray) : plc (G.take (k + 1)) s = if sEq (G.getD k default).1 s = true then some (k : Int) else plc (G.take k) s := by
  rw [plc_snoc hk]
  cases e2 : sEq (G.getD k default).1 s with
  | false => rw [if_neg (by decide), if_neg (by decide), Option.or_none]
  | true =>
    have e3 := (sEq_iff _ _).1 e2
    rw [e3] at h
    rw [if_pos rfl, if_pos rfl]
    cases e : plc (G.take k) s with
    | none => rfl
    | some i => rw [e] at h; cases h
set_option maxHeartbeats 4000000 in
theorem places_calls (a : Option Addr) (n cap : Nat) (A : Where) (G : List PodD) (w : World) (hg : Hid (SlAt RPod 16 296 A w a n cap G)) : Calls Try.prog 35 #[.slice a n cap] w fun e w' => ∃ mb, e = .returned (.map (some mb)) ∧ w.heap.size ≤ mb ∧ MpI w' mb (plc G) n ∧ Below w.heap.size w w' := by
  obtain ⟨W1, hW1⟩ : ∃ Z, Z = w.alloc (.map #[] 0) := ⟨_, rfl⟩
  have b1 : Below w.heap.size w W1 := by rw [hW1]; exact (Below.refl _ _).alloc (Nat.le_refl _) _
  obtain ⟨M, hM⟩ : ∃ M, M = w.heap.size := ⟨_, rfl⟩
  have HM : Hid (w.heap.size = M) := hM.symm
  have HW : Hid (w.alloc (.map #[] 0) = W1) := hW1.symm
  have HS : Hid (∀ z, Below w.heap.size w z → SlAt RPod 16 296 A z a n cap G) := fun z hz => hg.out.on RPod.firm hz
  have hn : Hid (G.length = n) := hg.out.1
  have hml : n * 296 ≤ 140737488351232 := hg.out.2.2.2.1
  have H0 : Hid (MpI W1 M (plc (G.take 0)) 0 ∧ Below w.heap.size w W1) := ⟨by rw [hM, hW1]; exact (MpI.made w).as (fun s => rfl), b1⟩
  clear hW1 b1 hM hg
  have hmm := makeMapI
  go_enter Try.func35, Try.ntmps35
  go_wp2_with fail
  rw [HW.out, HM.out]
  clear HW
  --M1
  go_loopw [13] (fun i z => ∃ k : Nat, k ≤ n ∧ i = .int .i64 k ∧ Hid (MpI z M (plc (G.take k)) k ∧ Below w.heap.size w z)) (fun i _ => n - (intOf i).toNat)
  case atStart => exact ⟨0, Nat.zero_le _, rfl, H0⟩
  case round =>
    clear H0
    obtain ⟨k, hk, rfl, hz⟩ := hrel
    by_cases hlt : k < n
    case neg =>
      have hltz : ¬ (k : Int) < (n : Int) := by omega
      have hr := hz.out
      rw [List.take_of_length_le (by rw [hn.out]; omega)] at hr
      have HE : Hid (w.heap.size ≤ M ∧ MpI wr M (plc G) n ∧ Below w.heap.size w wr) := ⟨Nat.le_of_eq HM.out, hr.1.mono hk, hr.2⟩
      clear hr hz
      go_wp2_with fail
      go_ret
      exact ⟨M, rfl, HE.out⟩
    have hltz : (k : Int) < (n : Int) := by omega
    have hkl : k < G.length := by rw [hn.out]; exact hlt
    obtain ⟨D, off, rfl, hD, _, ps, hr, hv⟩ := (HS.out wr hz.out.2).get hlt
    obtain ⟨p, hp⟩ : ∃ p, p = G.getD k default := ⟨_, rfl⟩
    have hst := plc_step hkl
    have hnw := plc_new hkl
    rw [← hp] at hr hst hnw
    obtain ⟨_, _, _, _, _, _, _, _, _, eps, hsz, _⟩ := hr.out
    obtain ⟨Z, X3, hZ, hX3, bX3, qX3, hT, hO, hSz1, hSz2⟩ := box_newQ RPod.firm hr zPodL rfl 54 sizePodQ
    obtain ⟨B, hB⟩ : ∃ B, B = wr.heap.size := ⟨_, rfl⟩
    have HBB : Hid (wr.heap.size = B) := hB.symm
    have HPv : Hid (wr.rangeAt D (off + k * 16) ps) := hv
    have HT : Hid (Z.there wr.heap.size 0 ps.toArray.size) := hT
    have HO : Hid (ps.toArray.all (·.oneCell') = true) := hO
    have HS1 : Hid ((Try.prog.info? 54).map (·.size) = some ps.length ∧ (Try.prog.info? 54).map (·.size) = some ps.toArray.size) := ⟨hSz1, hSz2⟩
    have HZ : Hid (wr.alloc (.cells zPodL.toArray 54) = Z) := hZ.symm
    have HX3 : Hid (X3 = Z.setCells wr.heap.size 0 ps.toArray.toList) := hX3
    rw [← hB] at qX3
    have c0 : X3.cell? ⟨B, 0, none⟩ = some (.string p.1) := (qX3.2 0 _ (by rw [eps]; rfl)).1
    have HMp : Hid (MpI X3 M (plc (G.take k)) k ∧ Below w.heap.size w X3) := ⟨hz.out.1.on bX3, on2 hz.out.2 bX3⟩
    have HST : Hid ((plc (G.take k) p.1).isSome = true → ∀ s, plc (G.take (k + 1)) s = plc (G.take k) s) := hst
    have HNW : Hid ((plc (G.take k) p.1).isSome = false → ∀ s, plc (G.take (k + 1)) s = if sEq p.1 s = true then some (k : Int) else plc (G.take k) s) := hnw
    have hlk := HMp.out.1.lookOk hsz
    obtain ⟨t, ht⟩ : ∃ t, t = (plc (G.take k) p.1).isSome := ⟨_, rfl⟩
    rw [← ht] at hlk
    have HTs : Hid ((plc (G.take k) p.1).isSome = t) := ht.symm
    generalize (plc (G.take k) p.1).getD 0 = i0 at hlk
    generalize p.1 = x at c0 hlk HST HNW HTs hsz
    have hk9 : k < 140737488355328 := by omega
    clear hst hnw hp hr hT hO hSz1 hSz2 hZ hX3 bX3 qX3 hB hv hz eps ht
    go_upto_region 5 with (first | (refine wpList_load_mid rfl 54 _ rfl D (off + k * 16) rfl ps _ HPv.out Try.underlying54 rfl HS1.out.1 ?_) | (rw [HZ.out]; refine wpList_store_mid rfl 54 _ _ rfl wr.heap.size 0 ps.toArray rfl rfl HT.out HS1.out.2 HO.out ?_; refine wpl_atG HX3.out ?_; rw [HBB.out]) | fail)
    --M2
    clear HPv HT HO HS1 HZ HX3 HBB
    cases t
    · have HE := HNW.out HTs.out
      have HUp : Hid (∀ z, MpI z M (fun s => if sEq x s = true then some (k : Int) else plc (G.take k) s) (if (plc (G.take k) x).isSome = true then k else k + 1) → MpI z M (plc (G.take (k + 1))) (k + 1)) := fun z hm => by
        rw [HTs.out, if_neg (by decide)] at hm
        exact hm.as (fun s => (HE s).symm)
      clear HE HST HNW HTs
      go_wp2_with (first | (at_mapUpdate; go_must (refine wpList_updI rfl _ _ _ rfl rfl x (k : Int) hsz rfl rfl HMp.out.1 hk9 ?_); intro w5 hm5 ht5) | fail)
      --M3
      have HN : Hid (MpI w5 M (plc (G.take (k + 1))) (k + 1) ∧ Below w.heap.size w w5) := ⟨HUp.out w5 hm5, Turns.behind HMp.out.2 (Turns.map ht5 (by show w.heap.size ≤ M; exact Nat.le_of_eq HM.out))⟩
      clear hm5 ht5 HUp HMp hlk c0
      go_roundw
      case rel => exact ⟨k + 1, by omega, by go_num, HN⟩
      case measure => simp [intOf]; omega
    · have HE := HST.out HTs.out
      have HN : Hid (MpI X3 M (plc (G.take (k + 1))) (k + 1) ∧ Below w.heap.size w X3) := ⟨(HMp.out.1.mono (Nat.le_succ k)).as (fun s => (HE s).symm), HMp.out.2⟩
      clear HE HST HNW HTs HMp
      go_wp2_with fail
      --M4
      go_roundw
      case rel => exact ⟨k + 1, by omega, by go_num, HN⟩
      case measure => simp [intOf]; omega
end Go.Proofs.Ytpjgffcpjabghaa
