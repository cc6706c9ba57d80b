/- A frame of the document while it is made. No condition. What the document's New wants: code, and a frame that is made. Condition: what lies lies as is said of it. The program's small functions: codes within bounds, names, what a code comes to. Condition: what lies lies as is said of it. The program's hasNumbers and isRight. Condition: what lies lies as is said of it. -/
import Derived.Test.YtoacbobchngooaaDoorQ08
import Derived.Test.YtoacbobchngooaaDoorQ05
import Derived.Shelf.Abstract
import Derived.Test.YtoacbobchngooaaDoorQ07
namespace Go.Proofs.YtoacbobchngooaaDoor
open Go.RowKit Go.Maps
set_option linter.unusedSimpArgs false
set_option maxRecDepth 100000

/-- A frame of the document at p while it is made, and the names so far. -/
structure NwE (w z : World) (p : Nat) (a b nm : Value) (Q : Where) (l : List PlugD) (K : List Bool) (N : List ByteArray) : Prop where
  box : BoxL z p [a, b, .slice none 0 0]
  ra : Row RPlug 7 Q w z 33 a l
  rb : Row RBool 1 (fun _ => False) w z 4 b K
  rn : Row RStr 1 (fun _ => False) w z 9 nm N
  lo : w.heap.size ≤ p
  nq : ∀ x, Q x → w.heap.size ≤ x ∧ x < z.heap.size ∧ x ≠ p ∧ b.ownBlock ≠ some x ∧ nm.ownBlock ≠ some x
  na : a.ownBlock ≠ some p
  nb : b.ownBlock ≠ some p
  nn : nm.ownBlock ≠ some p
  nab : ∀ x, a.ownBlock = some x → b.ownBlock ≠ some x
  nan : ∀ x, a.ownBlock = some x → nm.ownBlock ≠ some x
  nbn : ∀ x, b.ownBlock = some x → nm.ownBlock ≠ some x
section
variable {w z : World} {p : Nat} {a b nm : Value} {Q : Where} {l : List PlugD} {K : List Bool} {N : List ByteArray}
theorem NwE.below (h : NwE w z p a b nm Q l K N) : Below w.heap.size w z := h.rb.below
theorem NwE.on (h : NwE w z p a b nm Q l K N) {z' : World} (hb : Below z.heap.size z z') : NwE w z' p a b nm Q l K N :=
  ⟨h.box.on hb, h.ra.on RPlug.firm hb, h.rb.on RBool.firm hb, h.rn.on RStr.firm hb, h.lo, fun x hx => ⟨(h.nq x hx).1, Nat.lt_of_lt_of_le (h.nq x hx).2.1 hb.size, (h.nq x hx).2.2⟩, h.na, h.nb, h.nn, h.nab, h.nan, h.nbn⟩
theorem own_ne {v v' : Value} {n : Nat} (hw : v'.ownBlock = v.ownBlock ∨ v'.ownBlock = some n) {y : Nat} (h : v.ownBlock ≠ some y) (hy : y < n) : v'.ownBlock ≠ some y := fun e => by
  rcases hw with e2 | e2
  · rw [e2] at e; exact h e
  · rw [e2] at e; have := Option.some.inj e; omega
/-- A name more. -/
theorem NwE.name (h : NwE w z p a b nm Q l K N) {z' : World} {v' : Value} {N' : List ByteArray} (hg : z.grownBy z' nm.ownBlock) (hr : Row RStr 1 (fun _ => False) w z' 9 v' N') (hw : v'.ownBlock = nm.ownBlock ∨ v'.ownBlock = some z.heap.size) : NwE w z' p a b v' Q l K N' := by
  have hp : p < z.heap.size := h.box.1
  have hk : Kept (fun x => nm.ownBlock ≠ some x) z z' := Kept.grown hg (fun k e hk => hk e)
  refine ⟨h.box.kept hk h.nn, h.ra.grown RPlug.firm hg (fun x e => ⟨(h.rn.lt e).1, fun e2 => h.nan x e2 e, fun q => (h.nq x q).2.2.2.2 e⟩), h.rb.grown RBool.firm hg (fun x e => ⟨(h.rn.lt e).1, fun e2 => h.nbn x e2 e, fun q => q.elim⟩), hr, h.lo, fun x hx => ?_, h.na, h.nb, own_ne hw h.nn hp, h.nab, fun x e => own_ne hw (h.nan x e) (h.ra.lt e).2, fun x e => own_ne hw (h.nbn x e) (h.rb.lt e).2⟩
  have h0 := h.nq x hx
  exact ⟨h0.1, Nat.lt_of_lt_of_le h0.2.1 hk.1, h0.2.2.1, h0.2.2.2.1, own_ne hw h0.2.2.2.2 h0.2.1⟩
/-- A plugin more (Q grows to Q'), stored. -/
theorem NwE.plug (h : NwE w z p a b nm Q l K N) {z' : World} {v' : Value} {l' : List PlugD} (hg : z.grownBy z' a.ownBlock) (hr : Row RPlug 7 Q w z' 33 v' l') (hw : v'.ownBlock = a.ownBlock ∨ v'.ownBlock = some z.heap.size) : NwE w (z'.setCell ⟨p, 0, none⟩ v') p v' b nm Q l' K N := by
  have hp : p < z.heap.size := h.box.1
  have hk : Kept (fun x => a.ownBlock ≠ some x) z z' := Kept.grown hg (fun k e hk => hk e)
  have bp : w.heap.size ≤ (⟨p, 0, none⟩ : Addr).block := h.lo
  have hvp : v'.ownBlock ≠ some p := own_ne hw h.na hp
  have hs : (z'.setCell ⟨p, 0, none⟩ v').heap.size = z'.heap.size := by simp
  have k2 : ∀ {A : Where}, ¬ A p → Kept A z' (z'.setCell ⟨p, 0, none⟩ v') := fun {A} hn => Kept.set (p := ⟨p, 0, none⟩) hn _
  refine ⟨(h.box.kept hk h.na).set 0 v' (by simp), hr.keptXG RPlug.firm (hr.below.setCell (p := ⟨p, 0, none⟩) bp _) (k2 (fun e => e.elim (fun q => (h.nq p q).2.2.1 rfl) hvp)), ?_, ?_, h.lo, fun x hx => ?_, hvp, h.nb, h.nn, ?_, ?_, h.nbn⟩
  · exact (h.rb.grown RBool.firm hg (fun x e => ⟨(h.ra.lt e).1, fun e2 => h.nab x e e2, fun q => q.elim⟩)).keptXG RBool.firm (hr.below.setCell (p := ⟨p, 0, none⟩) bp _) (k2 (fun e => e.elim id h.nb))
  · exact (h.rn.grown RStr.firm hg (fun x e => ⟨(h.ra.lt e).1, fun e2 => h.nan x e e2, fun q => q.elim⟩)).keptXG RStr.firm (hr.below.setCell (p := ⟨p, 0, none⟩) bp _) (k2 (fun e => e.elim id h.nn))
  · have h0 := h.nq x hx
    exact ⟨h0.1, by rw [hs]; exact Nat.lt_of_lt_of_le h0.2.1 hk.1, h0.2.2⟩
  · intro x e e2
    rcases hw with e3 | e3
    · rw [e3] at e; exact h.nab x e e2
    · rw [e3] at e; have := Option.some.inj e; have := (h.rb.lt e2).2; omega
  · intro x e e2
    rcases hw with e3 | e3
    · rw [e3] at e; exact h.nan x e e2
    · rw [e3] at e; have := Option.some.inj e; have := (h.rn.lt e2).2; omega
/-- One more that skips, or not, stored. -/
theorem NwE.skip (h : NwE w z p a b nm Q l K N) {z' : World} {v' : Value} {K' : List Bool} (hg : z.grownBy z' b.ownBlock) (hr : Row RBool 1 (fun _ => False) w z' 4 v' K') (hw : v'.ownBlock = b.ownBlock ∨ v'.ownBlock = some z.heap.size) : NwE w (z'.setCell ⟨p, 1, none⟩ v') p a v' nm Q l K' N := by
  have hp : p < z.heap.size := h.box.1
  have hk : Kept (fun x => b.ownBlock ≠ some x) z z' := Kept.grown hg (fun k e hk => hk e)
  have bp : w.heap.size ≤ (⟨p, 1, none⟩ : Addr).block := h.lo
  have hvp : v'.ownBlock ≠ some p := own_ne hw h.nb hp
  have hs : (z'.setCell ⟨p, 1, none⟩ v').heap.size = z'.heap.size := by simp
  have k2 : ∀ {A : Where}, ¬ A p → Kept A z' (z'.setCell ⟨p, 1, none⟩ v') := fun {A} hn => Kept.set (p := ⟨p, 1, none⟩) hn _
  refine ⟨(h.box.kept hk h.nb).set 1 v' (by simp), ?_, hr.keptXG RBool.firm (hr.below.setCell (p := ⟨p, 1, none⟩) bp _) (k2 (fun e => e.elim id hvp)), ?_, h.lo, fun x hx => ?_, h.na, hvp, h.nn, ?_, h.nan, ?_⟩
  · exact (h.ra.grown RPlug.firm hg (fun x e => ⟨(h.rb.lt e).1, fun e2 => h.nab x e2 e, fun q => (h.nq x q).2.2.2.1 e⟩)).keptXG RPlug.firm (hr.below.setCell (p := ⟨p, 1, none⟩) bp _) (k2 (fun e => e.elim (fun q => (h.nq p q).2.2.1 rfl) h.na))
  · exact (h.rn.grown RStr.firm hg (fun x e => ⟨(h.rb.lt e).1, fun e2 => h.nbn x e e2, fun q => q.elim⟩)).keptXG RStr.firm (hr.below.setCell (p := ⟨p, 1, none⟩) bp _) (k2 (fun e => e.elim id h.nn))
  · have h0 := h.nq x hx
    exact ⟨h0.1, by rw [hs]; exact Nat.lt_of_lt_of_le h0.2.1 hk.1, h0.2.2.1, own_ne hw h0.2.2.2.1 h0.2.1, h0.2.2.2.2⟩
  · exact fun x e => own_ne hw (h.nab x e) (h.ra.lt e).2
  · intro x e e2
    rcases hw with e3 | e3
    · rw [e3] at e; exact h.nbn x e e2
    · rw [e3] at e; have := Option.some.inj e; have := (h.rn.lt e2).2; omega
/-- Q may grow by blocks that nothing of it owns. -/
theorem NwE.more (h : NwE w z p a b nm Q l K N) {Q' : Where} (hq : ∀ x, Q x → Q' x) (hn : ∀ x, Q' x → w.heap.size ≤ x ∧ x < z.heap.size ∧ x ≠ p ∧ b.ownBlock ≠ some x ∧ nm.ownBlock ≠ some x) : NwE w z p a b nm Q' l K N :=
  ⟨h.box, h.ra.wAG RPlug.firm hq, h.rb, h.rn, h.lo, hn, h.na, h.nb, h.nn, h.nab, h.nan, h.nbn⟩
end
end Go.Proofs.YtoacbobchngooaaDoor
namespace Go.Proofs.YtoacbobchngooaaDoor
open Go.RowKit Go.Maps
set_option linter.unusedSimpArgs false
set_option maxRecDepth 100000

theorem infoBoolF : (Tryd.prog.info? 4).map (fun i => (i.zero, i.size, i.bytes)) = some (some (.bool false), 1, 1) := by kernel_rfl
theorem code_calls (c : Int) (w : World) : Calls Tryd.prog 29 #[.int .i64 c] w fun e w' => e = .returned (.bool (codeB c)) ∧ w' = w := by
  by_cases h0 : 0 ≤ c
  · by_cases h4 : c ≤ 4
    · have HT : Hid (codeB c = true) := by unfold codeB; rw [Hid, decide_eq_true h0, decide_eq_true h4]; rfl
      go_enter Tryd.func29, Tryd.ntmps29
      go_wp2_with fail
      go_ret
      exact ⟨retB HT.out.symm, rfl⟩
    · have HT : Hid (codeB c = false) := by unfold codeB; rw [Hid, decide_eq_true h0, decide_eq_false h4]; rfl
      go_enter Tryd.func29, Tryd.ntmps29
      go_wp2_with fail
      go_ret
      exact ⟨retB HT.out.symm, rfl⟩
  · have HT : Hid (codeB c = false) := by unfold codeB; rw [Hid, decide_eq_false h0]; rfl
    go_enter Tryd.func29, Tryd.ntmps29
    go_wp2_with fail
    go_ret
    exact ⟨retB HT.out.symm, rfl⟩
theorem code_as (c : Int) (b : Bool) (h : codeB c = b) (w : World) : Calls Tryd.prog 29 #[.int .i64 c] w fun e w' => e = .returned (.bool b) ∧ w' = w := by rw [← h]; exact code_calls c w
/-- What a row is in the end, by its own block. -/
theorem Row.slO {α : Type} [Inhabited α] {R : Rep α} {k : Nat} (hR : Firm R k) {bytes : Nat} {A : Where} {w0 u : World} {e : TypeId} {v : Value} {L : List α} (h : Row R k A w0 u e v L) (hb : L.length * bytes ≤ 140737488351232) :
    ∃ a cap, v = .slice a L.length cap ∧ SlAt R k bytes (fun b => A b ∨ v.ownBlock = some b) u a L.length cap L := by
  obtain ⟨xs, h1, h2⟩ := h
  obtain ⟨a, cap, e1, h3⟩ := sl_of_owns (bytes := bytes) hR h1.2 h2 hb
  refine ⟨a, cap, e1, h3.weak hR (fun b _ hb => ?_)⟩
  rcases hb with hb | hb
  · exact .inl hb.1
  · exact .inr (by first | exact hb | (rw [e1]; exact hb) | (rw [e1] at hb ⊢; exact hb))
section
variable {w z : World} {p : Nat} {a b nm : Value} {Q : Where} {l : List PlugD} {K : List Bool} {N : List ByteArray}
/-- Another block is written. -/
theorem NwE.side (h : NwE w z p a b nm Q l K N) {B j : Nat} (v : Value) (hw : w.heap.size ≤ B) (hp : B ≠ p) (ha : a.ownBlock ≠ some B) (hb : b.ownBlock ≠ some B) (hn : nm.ownBlock ≠ some B) (hq : ¬ Q B) : NwE w (z.setCell ⟨B, j, none⟩ v) p a b nm Q l K N := by
  have bw : w.heap.size ≤ (⟨B, j, none⟩ : Addr).block := hw
  have hs : (z.setCell ⟨B, j, none⟩ v).heap.size = z.heap.size := by simp
  have k2 : ∀ {A : Where}, ¬ A B → Kept A z (z.setCell ⟨B, j, none⟩ v) := fun {A} hn => Kept.set (p := ⟨B, j, none⟩) hn _
  exact ⟨h.box.kept (A := fun x => x = p) (k2 hp) rfl, h.ra.keptXG RPlug.firm (h.ra.below.setCell (p := ⟨B, j, none⟩) bw _) (k2 (fun e => e.elim hq ha)), h.rb.keptXG RBool.firm (h.rb.below.setCell (p := ⟨B, j, none⟩) bw _) (k2 (fun e => e.elim id hb)), h.rn.keptXG RStr.firm (h.rn.below.setCell (p := ⟨B, j, none⟩) bw _) (k2 (fun e => e.elim id hn)), h.lo, fun x hx => ⟨(h.nq x hx).1, by rw [hs]; exact (h.nq x hx).2.1, (h.nq x hx).2.2⟩, h.na, h.nb, h.nn, h.nab, h.nan, h.nbn⟩
/-- Where its plugins may lie in the end. -/
def QA7 (Q : Where) (a : Value) : Where := fun x => Q x ∨ a.ownBlock = some x
/-- It is a frame in the end. -/
theorem NwE.done (h : NwE w z p a b nm Q l K N) (hl : l.length ≤ 64) : ∃ la lc, a = .slice la l.length lc ∧ RfE w z p la l.length lc b (.slice none 0 0) (QA7 Q a) (l, K, []) := by
  obtain ⟨la, lc, e, hs⟩ := h.ra.slO RPlug.firm (bytes := 80) (by omega)
  refine ⟨la, lc, e, by have h2 := h.box; rw [e] at h2; exact h2, hs, h.rb, (Row.nil _ w _).on RTxt.firm h.below, h.lo, fun x hx => ?_, h.nb, (fun e => by cases e), fun x _ e => by cases e⟩
  rcases hx with hx | hx
  · have h0 := h.nq x hx
    exact ⟨h0.2.1, h0.2.2.1, h0.2.2.2.1, fun e => by cases e⟩
  · exact ⟨(h.ra.lt hx).2, fun e => h.na (by rw [← e]; exact hx), h.nab x hx, fun e => by cases e⟩
end
theorem new_no {l : List PlugD} {i : Nat} (hi : i < l.length) (h : okPl l i = false) : newB l = false := by
  cases e : newB l with
  | false => rfl
  | true =>
    unfold newB at e
    rw [Bool.and_eq_true, List.all_eq_true] at e
    have := e.2 i (List.mem_range.2 hi)
    rw [h] at this; cases this
theorem new_yes {l : List PlugD} (h : l.length ≤ 64) (hi : ∀ i, i < l.length → okPl l i = true) : newB l = true := by
  unfold newB
  rw [Bool.and_eq_true, List.all_eq_true]
  exact ⟨by simpa using h, fun i hm => hi i (List.mem_range.1 hm)⟩
theorem new_len {l : List PlugD} (h : ¬ l.length ≤ 64) : newB l = false := by
  unfold newB; rw [decide_eq_false h]; rfl
theorem all_snocF {α : Type} [Inhabited α] (f : α → Bool) (L : List α) {k : Nat} (hk : k < L.length) : (L.take (k + 1)).all f = ((L.take k).all f && f (L.getD k default)) := by
  rw [← take_atG hk, List.all_append]; simp
theorem all_noF {α : Type} [Inhabited α] (f : α → Bool) (L : List α) {k : Nat} (hk : k < L.length) (h : f (L.getD k default) = false) : L.all f = false := by
  rw [List.all_eq_false]
  refine ⟨L.getD k default, ?_, by rw [h]; simp⟩
  rw [List.getD_eq_getElem?_getD, List.getElem?_eq_getElem hk]; exact List.getElem_mem hk
end Go.Proofs.YtoacbobchngooaaDoor
namespace Go.Proofs.YtoacbobchngooaaDoor
open Go.RowKit Go.Maps
set_option linter.unusedSimpArgs false
set_option maxRecDepth 100000

def withinB (c m : Int) : Bool := decide (0 ≤ c) && decide (c ≤ m)
theorem isWithin_calls (c m : Int) (w : World) : Calls Tryd.prog 45 #[.int .i64 c, .int .i64 m] w fun e w' => e = .returned (.bool (withinB c m)) ∧ w' = w := by
  by_cases h0 : 0 ≤ c
  · by_cases h4 : c ≤ m
    · have HT : Hid (withinB c m = true) := by unfold withinB; rw [Hid, decide_eq_true h0, decide_eq_true h4]; rfl
      go_enter Tryd.func45, Tryd.ntmps45
      go_wp2_with fail
      go_ret
      exact ⟨retB HT.out.symm, rfl⟩
    · have HT : Hid (withinB c m = false) := by unfold withinB; rw [Hid, decide_eq_true h0, decide_eq_false h4]; rfl
      go_enter Tryd.func45, Tryd.ntmps45
      go_wp2_with fail
      go_ret
      exact ⟨retB HT.out.symm, rfl⟩
  · have HT : Hid (withinB c m = false) := by unfold withinB; rw [Hid, decide_eq_false h0]; rfl
    go_enter Tryd.func45, Tryd.ntmps45
    go_wp2_with fail
    go_ret
    exact ⟨retB HT.out.symm, rfl⟩
/-- What comes of a code where nobody can wait. -/
def onceP (c : Int) : Int := if c = 4 then 0 else if c = 3 then 2 else c
theorem retI {a b : Int} (h : a = b) : Ending.returned (.int .i64 a) = .returned (.int .i64 b) := by rw [h]
theorem atOnce_calls (c : Int) (w : World) : Calls Tryd.prog 56 #[.int .i64 c] w fun e w' => e = .returned (.int .i64 (onceP c)) ∧ w' = w := by
  by_cases h4 : c = 4
  · have HT : Hid (onceP c = 0) := by unfold onceP; rw [Hid, if_pos h4]
    have h4b : (c == 4) = true := by simpa using h4
    go_enter Tryd.func56, Tryd.ntmps56
    go_wp2_with fail
    go_ret
    exact ⟨retI HT.out.symm, rfl⟩
  by_cases h3 : c = 3
  · have HT : Hid (onceP c = 2) := by unfold onceP; rw [Hid, if_neg h4, if_pos h3]
    have h4b : (c == 4) = false := by simpa using h4
    have h3b : (c == 3) = true := by simpa using h3
    go_enter Tryd.func56, Tryd.ntmps56
    go_wp2_with fail
    go_ret
    exact ⟨retI HT.out.symm, rfl⟩
  have HT : Hid (onceP c = c) := by unfold onceP; rw [Hid, if_neg h4, if_neg h3]
  have h4b : (c == 4) = false := by simpa using h4
  have h3b : (c == 3) = false := by simpa using h3
  go_enter Tryd.func56, Tryd.ntmps56
  go_wp2_with fail
  go_ret
  exact ⟨retI HT.out.symm, rfl⟩

/-! ### Is a name among plugins -/
theorem any_takeG {α : Type} [Inhabited α] (p : α → Bool) (L : List α) {k : Nat} (hk : k < L.length) : (L.take (k + 1)).any p = ((L.take k).any p || p (L.getD k default)) := by
  rw [← take_atG hk, List.any_append]; simp
theorem any_foundG {α : Type} [Inhabited α] (p : α → Bool) (L : List α) {k : Nat} (hk : k < L.length) (h : p (L.getD k default) = true) : L.any p = true := by
  rw [List.any_eq_true]
  refine ⟨L.getD k default, ?_, h⟩
  rw [List.getD_eq_getElem?_getD, List.getElem?_eq_getElem hk]; exact List.getElem_mem hk
/-- What is asked of a function that tells plugins: it answers p, and leaves all that was there. -/
def PredPlug (g : Nat) (lb : Array Value) (p : PlugD → Bool) (w : World) : Prop :=
  ∀ (W : World) (cs : List Value) (x : PlugD), Below w.heap.size w W → RPlug (fun _ => True) W cs x → Calls Tryd.prog g (#[.agg cs.toArray] ++ lb) W fun e w' => e = .returned (.bool (p x)) ∧ Below W.heap.size W w'
set_option maxHeartbeats 2000000 in
theorem IndexPlug_calls (a : Option Addr) (n cap : Nat) (A : Where) (L : List PlugD) (w : World) (hL : Hid (SlAt RPlug 7 80 A w a n cap L)) (p : PlugD → Bool) (g : Nat) (lb : Array Value) (eg : ∀ args w, (callFunc g args).run Tryd.prog w = .ok (.enter g args) w) (hp : Hid (PredPlug g lb p w)) :
    Calls Tryd.prog 55 #[.slice a n cap, .func (.func g) #[] lb] w fun e w' => (∃ k : Int, e = .returned (.int .i64 k) ∧ L.any p = decide (0 ≤ k)) ∧ Below w.heap.size w w' := by
  have hlen := hL.out.len (by decide)
  have HN : Hid (L.length = n) := hL.out.1
  go_enter Tryd.func55, Tryd.ntmps55
  go_wp2_with fail
  go_loopw [8] (fun i wr => ∃ k : Nat, k ≤ n ∧ i = .int .i64 k ∧ Below w.heap.size w wr ∧ Hid ((L.take k).any p = false)) (fun i _ => n - (intOf i).toNat)
  case atStart => exact ⟨0, Nat.zero_le _, rfl, Below.refl _ _, rfl⟩
  case round =>
    obtain ⟨k, hk, rfl, hbel, hno⟩ := hrel
    by_cases hlt : k < n
    · have hltz : (k : Int) < (n : Int) := by omega
      have hkl : k < L.length := by rw [HN.out]; exact hlt
      have HT : Hid ((L.take (k + 1)).any p = ((L.take k).any p || p (L.getD k default))) := any_takeG _ _ hkl
      have HF : Hid (p (L.getD k default) = true → L.any p = true) := any_foundG _ _ hkl
      obtain ⟨B, off, rfl, hB, _, cs, hr, hv⟩ := (hL.out.on RPlug.firm hbel).get hlt
      have HV : Hid (wr.rangeAt B (off + k * 7) cs) := hv
      have hi : (Tryd.prog.info? 33).map (·.size) = some cs.length := by rw [RPlug.firm.len hr]; exact sizePlug
      have hcall := hp.out wr cs (L.getD k default) hbel (RPlug.firm.weak hr (fun _ _ _ => trivial))
      clear hv hr
      generalize L.getD k default = x at hcall HT HF
      cases hq : p x
      · have HN2 : Hid ((L.take (k + 1)).any p = false) := by rw [Hid, HT.out, hno.out, hq]; rfl
        rw [hq] at hcall
        clear HT HF hq
        go_wp2_with (first | (refine wpList_load_mid rfl 33 _ rfl B (off + k * 7) rfl cs _ HV.out Tryd.underlying33 rfl hi ?_) | fail)
        refine hcall.mono ?_
        rintro e w' ⟨rfl, hb'⟩
        go_wp2_with fail
        go_roundw
        case rel => exact ⟨k + 1, by omega, by go_num, on2 hbel hb', HN2⟩
        case measure => simp [intOf]; omega
      · have HA : Hid (L.any p = true) := HF.out hq
        rw [hq] at hcall
        clear HT HF hq
        go_wp2_with (first | (refine wpList_load_mid rfl 33 _ rfl B (off + k * 7) rfl cs _ HV.out Tryd.underlying33 rfl hi ?_) | fail)
        refine hcall.mono ?_
        rintro e w' ⟨rfl, hb'⟩
        go_wp2_with fail
        go_ret
        exact ⟨⟨k, rfl, by rw [HA.out]; simp⟩, on2 hbel hb'⟩
    · have hk' : L.take k = L := List.take_of_length_le (by rw [HN.out]; omega)
      rw [hk'] at hno
      have hlz : ¬ ((k : Int) < (n : Int)) := by omega
      go_wp2_with fail
      go_ret
      exact ⟨⟨-1, rfl, by rw [hno.out]; simp⟩, hbel⟩
theorem ContainsPlug_calls (a : Option Addr) (n cap : Nat) (A : Where) (L : List PlugD) (w : World) (hL : Hid (SlAt RPlug 7 80 A w a n cap L)) (p : PlugD → Bool) (g : Nat) (lb : Array Value) (eg : ∀ args w, (callFunc g args).run Tryd.prog w = .ok (.enter g args) w) (hp : Hid (PredPlug g lb p w)) :
    Calls Tryd.prog 43 #[.slice a n cap, .func (.func g) #[] lb] w fun e w' => e = .returned (.bool (L.any p)) ∧ Below w.heap.size w w' := by
  have hI := IndexPlug_calls a n cap A L w hL p g lb eg hp
  generalize L.any p = b at hI ⊢
  go_enter Tryd.func43, Tryd.ntmps43
  go_wp2_with fail
  refine hI.mono ?_
  rintro e w1 ⟨⟨k, rfl, rfl⟩, hb⟩
  by_cases h0 : 0 ≤ k
  · go_wp2_with fail
    go_ret
    exact ⟨by simp [h0], hb⟩
  · go_wp2_with fail
    go_ret
    exact ⟨by simp [h0], hb⟩
set_option maxHeartbeats 2000000 in
theorem predName (s : ByteArray) (w W : World) (D : Nat) (hD : D < w.heap.size) (cD : w.cell? ⟨D, 0, none⟩ = some (.string s)) (cs : List Value) (x : PlugD) (hb : Below w.heap.size w W) (hr : RPlug (fun _ => True) W cs x) :
    Calls Tryd.prog 44 #[.agg cs.toArray, .pointer (some ⟨D, 0, none⟩)] W fun e w' => e = .returned (.bool (sEq x.1 s)) ∧ Below W.heap.size W w' := by
  obtain ⟨sa, sn, sc, rfl, hsz, _⟩ := hr.out
  have HBW : Hid (Below W.heap.size W (W.alloc (.cells #[.string x.1, .int .i64 x.2.1, .int .i64 x.2.2.1, .int .i64 x.2.2.2.1, .int .i64 x.2.2.2.2.1, .int .i64 (plW x), .slice sa sn sc] 33))) := (Below.refl _ _).alloc (Nat.le_refl _) _
  have d0 := (hb.cell (p := ⟨D, 0, none⟩) hD).trans cD
  have hDW : D < W.heap.size := by have := hb.size; omega
  have hne : D ≠ W.heap.size := by omega
  obtain ⟨y, hy⟩ : ∃ y, y = x.1 := ⟨_, rfl⟩
  rw [← hy] at hsz HBW ⊢
  show Calls Tryd.prog 44 #[.agg #[.string y, .int .i64 x.2.1, .int .i64 x.2.2.1, .int .i64 x.2.2.2.1, .int .i64 x.2.2.2.2.1, .int .i64 (plW x), .slice sa sn sc], .pointer (some ⟨D, 0, none⟩)] W fun e w' => e = .returned (.bool (sEq y s)) ∧ Below W.heap.size W w'
  clear hr cD hb hy
  cases he : sEq y s
  · have he' : (y.toList == s.toList) = false := he
    clear he
    go_enter Tryd.func44, Tryd.ntmps44
    go_wp2_with fail
    go_ret
    exact ⟨rfl, HBW.out⟩
  · have he' : (y.toList == s.toList) = true := he
    clear he
    go_enter Tryd.func44, Tryd.ntmps44
    go_wp2_with fail
    go_ret
    exact ⟨rfl, HBW.out⟩
theorem entsName : ∀ args w, (callFunc 44 args).run Tryd.prog w = .ok (.enter 44 args) w := Go.Proofs.enters_of Tryd.func44 (by kernel_rfl) rfl
theorem hasName_calls (a : Option Addr) (n cap : Nat) (A : Where) (L : List PlugD) (s : ByteArray) (w : World) (hL : Hid (SlAt RPlug 7 80 A w a n cap L)) : Calls Tryd.prog 38 #[.slice a n cap, .string s] w fun e w' => e = .returned (.bool (hasB sEq (L.map Prod.fst) s)) ∧ Below w.heap.size w w' := by
  obtain ⟨W1, hW1⟩ : ∃ Z, Z = w.alloc (.cells #[.string s] 9) := ⟨_, rfl⟩
  have b1 : Below w.heap.size w W1 := by rw [hW1]; exact (Below.refl _ _).alloc (Nat.le_refl _) _
  have q1 : BoxL W1 w.heap.size [.string s] := by rw [hW1]; exact BoxL.new w 9 _
  have hC := ContainsPlug_calls a n cap A L W1 (hL.out.on RPlug.firm b1) (fun x => sEq x.1 s) 44 #[.pointer (some ⟨w.heap.size, 0, none⟩)] entsName (fun W cs x hb hr => predName s W1 W w.heap.size q1.1 (q1.2 0 _ rfl).1 cs x hb hr)
  have HH : Hid (hasB sEq (L.map Prod.fst) s = L.any fun x => sEq x.1 s) := by unfold hasB; rw [Hid, List.any_map]; rfl
  have HB : Hid (Below w.heap.size w W1) := b1
  rw [HH.out]
  have HW : Hid (w.alloc (.cells #[.string s] 9) = W1) := hW1.symm
  clear hL hW1 b1 q1 HH
  generalize L.any (fun x => sEq x.1 s) = r at hC ⊢
  go_enter Tryd.func38, Tryd.ntmps38
  go_upto_region 1 with fail
  rw [HW.out]
  go_wp2_with fail
  refine hC.mono ?_
  rintro e w2 ⟨rfl, b2⟩
  go_wp2_with fail
  go_ret
  exact ⟨rfl, on2 HB.out b2⟩
end Go.Proofs.YtoacbobchngooaaDoor
namespace Go.Proofs.YtoacbobchngooaaDoor
open Go.RowKit Go.Maps
set_option linter.unusedSimpArgs false
set_option maxRecDepth 100000

/-- All numbers of a plugin may be. -/
def plNumB (x : PlugD) : Bool := (codeB x.2.1 && (codeB x.2.2.1 && (codeB x.2.2.2.1 && codeB x.2.2.2.2.1))) && ((plS x).all hundB && hundB (plW x))
theorem okPl_num (l : List PlugD) (i : Nat) : okPl l i = (!sNil (l.getD i default).1 && (!hasB sEq ((l.take i).map Prod.fst) (l.getD i default).1 && (plNumB (l.getD i default) && decide ((plS (l.getD i default)).length = (plS (l.getD 0 default)).length)))) := by
  unfold okPl plNumB; ac_rfl
set_option maxHeartbeats 4000000 in
theorem hasNumbers_calls (A : Where) (cs : List Value) (x : PlugD) (w : World) (hr : RPlug A w cs x) : Calls Tryd.prog 39 #[.agg cs.toArray] w fun e w' => e = .returned (.bool (plNumB x)) ∧ Below w.heap.size w w' := by
  obtain ⟨sa, sn, sc, rfl, hsz, hs⟩ := hr.out
  obtain ⟨x1, hx1⟩ : ∃ y, y = x.1 := ⟨_, rfl⟩
  obtain ⟨x2, hx2⟩ : ∃ y, y = x.2.1 := ⟨_, rfl⟩
  obtain ⟨x3, hx3⟩ : ∃ y, y = x.2.2.1 := ⟨_, rfl⟩
  obtain ⟨x4, hx4⟩ : ∃ y, y = x.2.2.2.1 := ⟨_, rfl⟩
  obtain ⟨x5, hx5⟩ : ∃ y, y = x.2.2.2.2.1 := ⟨_, rfl⟩
  obtain ⟨x6, hx6⟩ : ∃ y, y = plW x := ⟨_, rfl⟩
  obtain ⟨N, hN⟩ : ∃ N, N = plS x := ⟨_, rfl⟩
  have HN : Hid (plNumB x = ((codeB x2 && (codeB x3 && (codeB x4 && codeB x5))) && (N.all hundB && hundB x6))) := by rw [hx2, hx3, hx4, hx5, hx6, hN]; rfl
  rw [HN.out]
  rw [← hN] at hs
  have hln : Hid (N.length = sn) := hs.1
  have hsb : sn < 1000000000000000 := by have := hs.2.2.2.1; omega
  obtain ⟨W1, hW1⟩ : ∃ Z, Z = w.alloc (.cells #[.string x1, .int .i64 x2, .int .i64 x3, .int .i64 x4, .int .i64 x5, .int .i64 x6, .slice sa sn sc] 33) := ⟨_, rfl⟩
  have b1 : Below w.heap.size w W1 := by rw [hW1]; exact (Below.refl _ _).alloc (Nat.le_refl _) _
  have q1 : BoxL W1 w.heap.size [.string x1, .int .i64 x2, .int .i64 x3, .int .i64 x4, .int .i64 x5, .int .i64 x6, .slice sa sn sc] := by rw [hW1]; exact BoxL.new w 33 _
  have HW : Hid (w.alloc (.cells #[.string x1, .int .i64 x2, .int .i64 x3, .int .i64 x4, .int .i64 x5, .int .i64 x6, .slice sa sn sc] 33) = W1) := hW1.symm
  have HB : Hid (Below w.heap.size w W1) := b1
  have HS : Hid (SlAt RInt 1 8 A W1 sa sn sc N) := hs.on RInt.firm b1
  show Calls Tryd.prog 39 #[.agg #[.string x.1, .int .i64 x.2.1, .int .i64 x.2.2.1, .int .i64 x.2.2.2.1, .int .i64 x.2.2.2.2.1, .int .i64 (plW x), .slice sa sn sc]] w fun e w' => e = .returned (.bool ((codeB x2 && (codeB x3 && (codeB x4 && codeB x5))) && (N.all hundB && hundB x6))) ∧ Below w.heap.size w w'
  rw [← hx1, ← hx2, ← hx3, ← hx4, ← hx5, ← hx6]
  obtain ⟨B, hBe⟩ : ∃ B, B = w.heap.size := ⟨_, rfl⟩
  have HBe : Hid (w.heap.size = B) := hBe.symm
  rw [← hBe] at q1
  have e1 := (q1.2 1 _ rfl).1
  have e2 := (q1.2 2 _ rfl).1
  have e3 := (q1.2 3 _ rfl).1
  have e4 := (q1.2 4 _ rfl).1
  have e5 := (q1.2 5 _ rfl).1
  have e6 := (q1.2 6 _ rfl).1
  clear hr hs hx1 hx2 hx3 hx4 hx5 hx6 hN HN hW1 b1 q1 hBe hsz
  go_enter Tryd.func39, Tryd.ntmps39
  go_upto_region 1 with fail
  rw [HW.out, HBe.out]
  clear HW
  go_wp2_with fail
  --M1
  go_loop [16] (fun i => (i = .int .i64 0) ∨ (i = .int .i64 1 ∧ Hid (codeB x2 = true)) ∨ (i = .int .i64 2 ∧ Hid (codeB x2 = true ∧ codeB x3 = true)) ∨ (i = .int .i64 3 ∧ Hid (codeB x2 = true ∧ codeB x3 = true ∧ codeB x4 = true)) ∨ (i = .int .i64 4 ∧ Hid (codeB x2 = true ∧ codeB x3 = true ∧ codeB x4 = true ∧ codeB x5 = true))) (fun i => 4 - (intOf i).toNat)
  case atStart => exact .inl rfl
  case round =>
    rcases hrel with rfl | ⟨rfl, hc⟩ | ⟨rfl, hc⟩ | ⟨rfl, hc⟩ | ⟨rfl, hc⟩
    · rcases (Bool.eq_false_or_eq_true (codeB x2)).symm with hq | hq
      · have HE : Hid (((codeB x2 && (codeB x3 && (codeB x4 && codeB x5))) && (N.all hundB && hundB x6)) = false) := by rw [Hid, hq]; simp
        have hA := isWithin_calls x2 4 W1
        have hidx : (Instr.index 79 (.agg #[.int .i64 x2, .int .i64 x3, .int .i64 x4, .int .i64 x5]) (.int .i64 0)).run Tryd.prog W1 = .ok (.int .i64 x2) W1 := by kernel_rfl
        rw [show withinB x2 4 = false from hq] at hA
        clear hq
        go_wp2_with fail
        refine hA.mono ?_
        rintro e w5 ⟨rfl, rfl⟩
        clear hA
        go_wp2_with fail
        go_ret
        exact ⟨retB HE.out.symm, HB.out⟩
      · have HQ : Hid (codeB x2 = true) := hq
        have hA := isWithin_calls x2 4 W1
        have hidx : (Instr.index 79 (.agg #[.int .i64 x2, .int .i64 x3, .int .i64 x4, .int .i64 x5]) (.int .i64 0)).run Tryd.prog W1 = .ok (.int .i64 x2) W1 := by kernel_rfl
        rw [show withinB x2 4 = true from hq] at hA
        clear hq 
        go_wp2_with fail
        refine hA.mono ?_
        rintro e w5 ⟨rfl, rfl⟩
        clear hA
        go_wp2_with fail
        go_round
        case rel => exact .inr (.inl ⟨rfl, HQ⟩)
        case measure => decide
    · rcases (Bool.eq_false_or_eq_true (codeB x3)).symm with hq | hq
      · have HE : Hid (((codeB x2 && (codeB x3 && (codeB x4 && codeB x5))) && (N.all hundB && hundB x6)) = false) := by rw [Hid, hq]; simp
        have hA := isWithin_calls x3 4 W1
        have hidx : (Instr.index 79 (.agg #[.int .i64 x2, .int .i64 x3, .int .i64 x4, .int .i64 x5]) (.int .i64 1)).run Tryd.prog W1 = .ok (.int .i64 x3) W1 := by kernel_rfl
        rw [show withinB x3 4 = false from hq] at hA
        clear hq
        go_wp2_with fail
        refine hA.mono ?_
        rintro e w5 ⟨rfl, rfl⟩
        clear hA
        go_wp2_with fail
        go_ret
        exact ⟨retB HE.out.symm, HB.out⟩
      · have HQ : Hid (codeB x2 = true ∧ codeB x3 = true) := ⟨hc.out, hq⟩
        have hA := isWithin_calls x3 4 W1
        have hidx : (Instr.index 79 (.agg #[.int .i64 x2, .int .i64 x3, .int .i64 x4, .int .i64 x5]) (.int .i64 1)).run Tryd.prog W1 = .ok (.int .i64 x3) W1 := by kernel_rfl
        rw [show withinB x3 4 = true from hq] at hA
        clear hq hc
        go_wp2_with fail
        refine hA.mono ?_
        rintro e w5 ⟨rfl, rfl⟩
        clear hA
        go_wp2_with fail
        go_round
        case rel => exact .inr (.inr (.inl ⟨rfl, HQ⟩))
        case measure => decide
    · rcases (Bool.eq_false_or_eq_true (codeB x4)).symm with hq | hq
      · have HE : Hid (((codeB x2 && (codeB x3 && (codeB x4 && codeB x5))) && (N.all hundB && hundB x6)) = false) := by rw [Hid, hq]; simp
        have hA := isWithin_calls x4 4 W1
        have hidx : (Instr.index 79 (.agg #[.int .i64 x2, .int .i64 x3, .int .i64 x4, .int .i64 x5]) (.int .i64 2)).run Tryd.prog W1 = .ok (.int .i64 x4) W1 := by kernel_rfl
        rw [show withinB x4 4 = false from hq] at hA
        clear hq
        go_wp2_with fail
        refine hA.mono ?_
        rintro e w5 ⟨rfl, rfl⟩
        clear hA
        go_wp2_with fail
        go_ret
        exact ⟨retB HE.out.symm, HB.out⟩
      · have HQ : Hid (codeB x2 = true ∧ codeB x3 = true ∧ codeB x4 = true) := ⟨hc.out.1, hc.out.2, hq⟩
        have hA := isWithin_calls x4 4 W1
        have hidx : (Instr.index 79 (.agg #[.int .i64 x2, .int .i64 x3, .int .i64 x4, .int .i64 x5]) (.int .i64 2)).run Tryd.prog W1 = .ok (.int .i64 x4) W1 := by kernel_rfl
        rw [show withinB x4 4 = true from hq] at hA
        clear hq hc
        go_wp2_with fail
        refine hA.mono ?_
        rintro e w5 ⟨rfl, rfl⟩
        clear hA
        go_wp2_with fail
        go_round
        case rel => exact .inr (.inr (.inr (.inl ⟨rfl, HQ⟩)))
        case measure => decide
    · rcases (Bool.eq_false_or_eq_true (codeB x5)).symm with hq | hq
      · have HE : Hid (((codeB x2 && (codeB x3 && (codeB x4 && codeB x5))) && (N.all hundB && hundB x6)) = false) := by rw [Hid, hq]; simp
        have hA := isWithin_calls x5 4 W1
        have hidx : (Instr.index 79 (.agg #[.int .i64 x2, .int .i64 x3, .int .i64 x4, .int .i64 x5]) (.int .i64 3)).run Tryd.prog W1 = .ok (.int .i64 x5) W1 := by kernel_rfl
        rw [show withinB x5 4 = false from hq] at hA
        clear hq
        go_wp2_with fail
        refine hA.mono ?_
        rintro e w5 ⟨rfl, rfl⟩
        clear hA
        go_wp2_with fail
        go_ret
        exact ⟨retB HE.out.symm, HB.out⟩
      · have HQ : Hid (codeB x2 = true ∧ codeB x3 = true ∧ codeB x4 = true ∧ codeB x5 = true) := ⟨hc.out.1, hc.out.2.1, hc.out.2.2, hq⟩
        have hA := isWithin_calls x5 4 W1
        have hidx : (Instr.index 79 (.agg #[.int .i64 x2, .int .i64 x3, .int .i64 x4, .int .i64 x5]) (.int .i64 3)).run Tryd.prog W1 = .ok (.int .i64 x5) W1 := by kernel_rfl
        rw [show withinB x5 4 = true from hq] at hA
        clear hq hc
        go_wp2_with fail
        refine hA.mono ?_
        rintro e w5 ⟨rfl, rfl⟩
        clear hA
        go_wp2_with fail
        go_round
        case rel => exact .inr (.inr (.inr (.inr (⟨rfl, HQ⟩))))
        case measure => decide
    · have HQ : Hid (((codeB x2 && (codeB x3 && (codeB x4 && codeB x5))) && (N.all hundB && hundB x6)) = (N.all hundB && hundB x6)) := by rw [Hid, hc.out.1, hc.out.2.1, hc.out.2.2.1, hc.out.2.2.2]; simp
      clear hc
      go_wp2_with fail
      --M2
      go_loop [26] (fun i => ∃ k : Nat, k ≤ sn ∧ i = .int .i64 k ∧ Hid ((N.take k).all hundB = true)) (fun i => sn - (intOf i).toNat)
      case atStart => exact ⟨0, Nat.zero_le _, rfl, rfl⟩
      case round =>
        obtain ⟨k, hk, rfl, hno⟩ := hrel
        by_cases hlt : k < sn
        · have hltz : (k : Int) < (sn : Int) := by omega
          have hkl : k < N.length := by rw [hln.out]; exact hlt
          obtain ⟨D, off, rfl, hD, _, cs, hr, hv⟩ := HS.out.get hlt
          obtain rfl : cs = [.int .i64 (N.getD k default)] := hr
          have d0 := hv 0 _ rfl
          rw [Nat.mul_one, Nat.add_zero] at d0
          have HT : Hid ((N.take (k + 1)).all hundB = ((N.take k).all hundB && hundB (N.getD k default))) := all_snocF _ _ hkl
          have HF : Hid (hundB (N.getD k default) = false → N.all hundB = false) := all_noF _ _ hkl
          clear hv
          generalize N.getD k default = y at d0 HT HF
          cases hq : hundB y
          · have HE : Hid (((codeB x2 && (codeB x3 && (codeB x4 && codeB x5))) && (N.all hundB && hundB x6)) = false) := by rw [HQ.out, HF.out hq]; rfl
            have hA := isWithin_calls y 100 W1
            rw [show withinB y 100 = false from hq] at hA
            clear hq HT HF
            go_wp2_with fail
            refine hA.mono ?_
            rintro e w5 ⟨rfl, rfl⟩
            clear hA
            go_wp2_with fail
            go_ret
            exact ⟨retB HE.out.symm, HB.out⟩
          · have HQ2 : Hid ((N.take (k + 1)).all hundB = true) := by rw [Hid, HT.out, hno.out, hq]; rfl
            have hA := isWithin_calls y 100 W1
            rw [show withinB y 100 = true from hq] at hA
            clear hq HT HF
            go_wp2_with fail
            refine hA.mono ?_
            rintro e w5 ⟨rfl, rfl⟩
            clear hA
            go_wp2_with fail
            go_round
            case rel => exact ⟨k + 1, by omega, by go_num, HQ2⟩
            case measure => simp [intOf]; omega
        · have hlz : ¬ ((k : Int) < (sn : Int)) := by omega
          have HE : Hid (((codeB x2 && (codeB x3 && (codeB x4 && codeB x5))) && (N.all hundB && hundB x6)) = hundB x6) := by
            have h := hno.out
            rw [List.take_of_length_le (by rw [hln.out]; omega)] at h
            rw [HQ.out, h]; rfl
          have hA := isWithin_calls x6 100 W1
          rw [show withinB x6 100 = hundB x6 from rfl] at hA
          clear hno
          go_wp2_with fail
          refine hA.mono ?_
          rintro e w5 ⟨rfl, rfl⟩
          clear hA
          go_wp2_with fail
          go_ret
          exact ⟨retB HE.out.symm, HB.out⟩
end Go.Proofs.YtoacbobchngooaaDoor
