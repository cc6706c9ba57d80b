/- The document's watcher as it lies in memory: a struct of two lists of its own. Plain facts on worlds. No condition. -/
import Derived.Test.YtnlmipgmakmbiaaWRest
namespace Go.Proofs.Ytnlmipgmakmbiaa
open Go.RowKit
set_option linter.unusedSimpArgs false
set_option maxRecDepth 100000

section
variable {α : Type} [Inhabited α] {R : Rep α} {k : Nat}
theorem heap_setCell13 {u : World} {g o : Nat} {cur : Array Value} {T : TypeId} {val : Value} (hg : u.heap[g]? = some (.cells cur T (0, 0))) : (u.setCell ⟨g, o, none⟩ val).heap[g]? = some (.cells (cur.setIfInBounds o val) T (0, 0)) := by
  have hlt : g < u.heap.size := (Array.getElem?_eq_some_iff.1 hg).1
  have hge : u.heap[g] = .cells cur T (0, 0) := (Array.getElem?_eq_some_iff.1 hg).2
  simp [World.setCell, hg, hlt, Array.getElem_modify, hge]
theorem Row.set13 (hR : Firm R k) {A : Where} {w0 u : World} {e : TypeId} {g cap i j : Nat} {L : List α} {val : Value} {x : α} (h : Row R k A w0 u e (.slice (some ⟨g, 0, none⟩) L.length cap) L) (hi : i < L.length) (hj : j < k)
    (hx : ∀ B cs, R B u cs (L.getD i default) → R B u (cs.set j val) x) : Row R k A w0 (u.setCell ⟨g, i * k + j, none⟩ val) e (.slice (some ⟨g, 0, none⟩) L.length cap) (L.set i x) := by
  obtain ⟨xs, ⟨hb, hl, ⟨e1, _⟩ | ⟨g', cap', cur, e1, hBg, hg, hcp, hcm, hsz, htk⟩⟩, hch⟩ := h
  · cases e1
  simp only [Value.slice.injEq, Option.some.injEq, Addr.mk.injEq, and_true, true_and] at e1
  obtain ⟨rfl, rfl⟩ := e1
  have hkn : (i + 1) * k ≤ L.length * k := Nat.mul_le_mul_right k hi
  have hkc : L.length * k ≤ cap * k := Nat.mul_le_mul_right k hcp
  rw [Nat.add_mul, Nat.one_mul] at hkn
  have hxl : xs.length = L.length * k := hl
  refine ⟨xs.set (i * k + j) val, ⟨hb.setCell (p := ⟨g, i * k + j, none⟩) hBg val, ?_⟩, ?_⟩
  · rw [List.length_set]
    refine ⟨by rw [List.length_set]; exact hl, .inr ⟨g, cap, cur.setIfInBounds (i * k + j) val, rfl, hBg, heap_setCell13 hg, hcp, hcm, by simpa using hsz, ?_⟩⟩
    rw [Array.toList_setIfInBounds, List.take_set, htk]
  · have k1 : Kept (fun b => A b ∧ Value.ownBlock (.slice (some ⟨g, 0, none⟩) L.length cap) ≠ some b) u (u.setCell ⟨g, i * k + j, none⟩ val) := Kept.set (p := ⟨g, i * k + j, none⟩) (fun h => h.2 rfl) val
    refine ⟨by simp only [List.length_set]; exact hxl, fun m hm => ?_⟩
    rw [List.length_set] at hm
    obtain ⟨cs, h1, h2⟩ := hch.2 m hm
    by_cases hmi : m = i
    · subst hmi
      refine ⟨cs.set j val, ?_, fun q hq => ?_⟩
      · have e3 : (L.set m x).getD m default = x := by simp [List.getD_eq_getElem?_getD, hm]
        rw [e3]
        exact hR.kept (hx _ cs h1) k1
      · have hcl := hR.len h1
        rw [List.getElem?_set, List.getElem?_set]
        by_cases hqj : j = q
        · subst hqj
          rw [if_pos rfl, if_pos rfl, if_pos (by omega), if_pos (by omega)]
        · rw [if_neg (by omega), if_neg hqj]; exact h2 q hq
    · refine ⟨cs, ?_, fun q hq => ?_⟩
      · have e3 : (L.set i x).getD m default = L.getD m default := by simp [List.getD_eq_getElem?_getD, List.getElem?_set, Ne.symm hmi]
        rw [e3]
        exact hR.kept h1 k1
      · rw [List.getElem?_set, if_neg]
        · exact h2 q hq
        · intro e
          rcases Nat.lt_or_gt_of_ne hmi with hl | hl
          · have := Nat.mul_le_mul_right k (show m + 1 ≤ i from hl); rw [Nat.add_mul, Nat.one_mul] at this; omega
          · have := Nat.mul_le_mul_right k (show i + 1 ≤ m from hl); rw [Nat.add_mul, Nat.one_mul] at this; omega
theorem Row.keptX13 (hR : Firm R k) {A : Where} {w0 u u' : World} {e : TypeId} {v : Value} {L : List α} (h : Row R k A w0 u e v L) (hb : Below w0.heap.size w0 u') (hk : Kept (fun b => A b ∨ v.ownBlock = some b) u u') : Row R k A w0 u' e v L := by
  obtain ⟨xs, h1, h2⟩ := h
  refine ⟨xs, ⟨hb, ?_⟩, h2.kept hR (hk.weak (fun b hb => .inl hb.1))⟩
  obtain ⟨hl, h0 | ⟨g, cap, cur, rfl, hg, hh, r⟩⟩ := h1.2
  · exact ⟨hl, .inl h0⟩
  · exact ⟨hl, .inr ⟨g, cap, cur, rfl, hg, (hk.2 g (.inr rfl) (Array.getElem?_eq_some_iff.1 hh).1).trans hh, r⟩⟩
theorem Row.head13 {A : Where} {w0 u : World} {e : TypeId} {v : Value} {L : List α} (h : Row R k A w0 u e v L) : ∃ a n c, v = .slice a n c := by
  obtain ⟨xs, h1, _⟩ := h
  obtain ⟨_, ⟨rfl, _⟩ | ⟨g, cap, cur, rfl, _⟩⟩ := h1.2
  · exact ⟨_, _, _, rfl⟩
  · exact ⟨_, _, _, rfl⟩
end
/-- A watcher: a struct at p with the lists a and b, each its own. -/
structure RwE (w u : World) (p : Nat) (a b : Value) (At : List Int) (Off : List Bool) : Prop where
  box : BoxL u p [a, b]
  ra : Row RInt 1 (fun _ => False) w u 3 a At
  rb : Row RBool 1 (fun _ => False) w u 4 b Off
  lo : w.heap.size ≤ p
  na : a.ownBlock ≠ some p
  nb : b.ownBlock ≠ some p
  ne : ∀ x, a.ownBlock = some x → b.ownBlock ≠ some x
section
variable {w u : World} {p : Nat} {a b : Value} {At : List Int} {Off : List Bool}
theorem RwE.below (h : RwE w u p a b At Off) : Below w.heap.size w u := h.ra.below
theorem RwE.on (h : RwE w u p a b At Off) {u' : World} (hb : Below u.heap.size u u') : RwE w u' p a b At Off := ⟨h.box.on hb, h.ra.on RInt.firm hb, h.rb.on RBool.firm hb, h.lo, h.na, h.nb, h.ne⟩
/-- The first list has grown. -/
theorem RwE.appA (h : RwE w u p a b At Off) {u1 u' : World} {v' : Value} {At' : List Int} (hb : Below u.heap.size u u1) (hg : u1.grownBy u' a.ownBlock) (hr : Row RInt 1 (fun _ => False) w u' 3 v' At') (hw : v'.ownBlock = a.ownBlock ∨ v'.ownBlock = some u1.heap.size) : RwE w (u'.setCell ⟨p, 0, none⟩ v') p v' b At' Off := by
  have h1 := h.on hb
  have hp : p < u1.heap.size := h1.box.1
  have bp : w.heap.size ≤ (⟨p, 0, none⟩ : Addr).block := h.lo
  have hvp : v'.ownBlock ≠ some p := fun e => by
    rcases hw with e2 | e2
    · rw [e2] at e; exact h.na e
    · rw [e2] at e; injection e with e; omega
  have k2 : ∀ {A : Where}, ¬ A p → Kept A u' (u'.setCell ⟨p, 0, none⟩ v') := fun {A} hn => Kept.set (p := ⟨p, 0, none⟩) hn _
  refine ⟨?_, hr.keptX13 RInt.firm (hr.below.setCell (p := ⟨p, 0, none⟩) bp _) (k2 (fun e => e.elim id hvp)), ?_, h.lo, hvp, h.nb, fun x e => ?_⟩
  · have q := (h1.box.kept (A := fun b => b = p) (Kept.grown hg (fun x e hx => h.na (by rw [e, hx]))) rfl).set 0 v' (by simp)
    exact q
  · have r := h1.rb.grown RBool.firm hg (fun x e => ⟨(h1.ra.lt e).1, h.ne x e, id⟩)
    exact r.keptX13 RBool.firm (hr.below.setCell (p := ⟨p, 0, none⟩) bp _) (k2 (fun e => e.elim id h.nb))
  · rcases hw with e2 | e2
    · rw [e2] at e; exact h.ne x e
    · rw [e2] at e
      injection e with e
      intro e3
      have := (h1.rb.lt e3).2
      omega
/-- The second list has grown. -/
theorem RwE.appB (h : RwE w u p a b At Off) {u1 u' : World} {v' : Value} {Off' : List Bool} (hb : Below u.heap.size u u1) (hg : u1.grownBy u' b.ownBlock) (hr : Row RBool 1 (fun _ => False) w u' 4 v' Off') (hw : v'.ownBlock = b.ownBlock ∨ v'.ownBlock = some u1.heap.size) : RwE w (u'.setCell ⟨p, 1, none⟩ v') p a v' At Off' := by
  have h1 := h.on hb
  have hp : p < u1.heap.size := h1.box.1
  have bp : w.heap.size ≤ (⟨p, 1, none⟩ : Addr).block := h.lo
  have hvp : v'.ownBlock ≠ some p := fun e => by
    rcases hw with e2 | e2
    · rw [e2] at e; exact h.nb e
    · rw [e2] at e; injection e with e; omega
  have k2 : ∀ {A : Where}, ¬ A p → Kept A u' (u'.setCell ⟨p, 1, none⟩ v') := fun {A} hn => Kept.set (p := ⟨p, 1, none⟩) hn _
  refine ⟨?_, ?_, hr.keptX13 RBool.firm (hr.below.setCell (p := ⟨p, 1, none⟩) bp _) (k2 (fun e => e.elim id hvp)), h.lo, h.na, hvp, fun x e => ?_⟩
  · have q := (h1.box.kept (A := fun b => b = p) (Kept.grown hg (fun x e hx => h.nb (by rw [e, hx]))) rfl).set 1 v' (by simp)
    exact q
  · have r := h1.ra.grown RInt.firm hg (fun x e => ⟨(h1.rb.lt e).1, fun e2 => h.ne x e2 e, id⟩)
    exact r.keptX13 RInt.firm (hr.below.setCell (p := ⟨p, 1, none⟩) bp _) (k2 (fun e => e.elim id h.na))
  · rcases hw with e2 | e2
    · rw [e2]; exact h.ne x e
    · rw [e2]
      intro e3
      injection e3 with e3
      have := (h1.ra.lt e).2
      omega
/-- A cursor is written. -/
theorem RwE.setA {g n c : Nat} (h : RwE w u p (.slice (some ⟨g, 0, none⟩) n c) b At Off) (hn : At.length = n) {i : Nat} (hi : i < n) (v : Int) : RwE w (u.setCell ⟨g, i, none⟩ (.int .i64 v)) p (.slice (some ⟨g, 0, none⟩) n c) b (At.set i v) Off := by
  subst hn
  have hg : g ≠ p := fun e => h.na (by rw [e]; rfl)
  have lg : w.heap.size ≤ (⟨g, i, none⟩ : Addr).block := (h.ra.lt (b := g) rfl).1
  have r := h.ra.set13 RInt.firm (i := i) (j := 0) (val := .int .i64 v) (x := v) hi (by decide) (fun B cs hr => by obtain rfl : cs = [_] := hr; rfl)
  rw [Nat.mul_one, Nat.add_zero] at r
  refine ⟨h.box.kept (A := fun b => b = p) (Kept.set (p := ⟨g, i, none⟩) hg _) rfl, r, ?_, h.lo, h.na, h.nb, h.ne⟩
  exact h.rb.keptX13 RBool.firm (h.below.setCell (p := ⟨g, i, none⟩) lg _) (Kept.set (p := ⟨g, i, none⟩) (fun e => e.elim id (fun e => h.ne g rfl e)) _)
/-- A mark is written. -/
theorem RwE.setB {g n c : Nat} (h : RwE w u p a (.slice (some ⟨g, 0, none⟩) n c) At Off) (hn : Off.length = n) {i : Nat} (hi : i < n) (v : Bool) : RwE w (u.setCell ⟨g, i, none⟩ (.bool v)) p a (.slice (some ⟨g, 0, none⟩) n c) At (Off.set i v) := by
  subst hn
  have hg : g ≠ p := fun e => h.nb (by rw [e]; rfl)
  have lg : w.heap.size ≤ (⟨g, i, none⟩ : Addr).block := (h.rb.lt (b := g) rfl).1
  have r := h.rb.set13 RBool.firm (i := i) (j := 0) (val := .bool v) (x := v) hi (by decide) (fun B cs hr => by obtain rfl : cs = [_] := hr; rfl)
  rw [Nat.mul_one, Nat.add_zero] at r
  refine ⟨h.box.kept (A := fun b => b = p) (Kept.set (p := ⟨g, i, none⟩) hg _) rfl, ?_, r, h.lo, h.na, h.nb, h.ne⟩
  exact h.ra.keptX13 RInt.firm (h.below.setCell (p := ⟨g, i, none⟩) lg _) (Kept.set (p := ⟨g, i, none⟩) (fun e => e.elim id (fun e => h.ne g e rfl)) _)
end
end Go.Proofs.Ytnlmipgmakmbiaa
