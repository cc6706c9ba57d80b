/- Which blocks a call turns. Plain facts on worlds. No condition. What is placed, counted by domains; why a pod may not come somewhere: by counts, and by the document's words. Plain mathematics. No condition. base.Texts, Ints, Labels give slices of their own that hold the same. Condition: the slice holds what is said of it. base.Reqs gives a slice of its own, its values' texts copied too, that holds the same. Condition: the slice holds what is said of it. base.SameTexts, SameInts, SameLabels, SameReqs, sameTerms tell whether two slices hold the same; they change nothing but the count of draws. Condition: the slices hold what is said of them. -/
import Derived.Test.YtgofpmcoffgffaaQ03
import Derived.Maps.OwnOps
import Derived.Maps.OwnSet
import Derived.Laws.StructEq
namespace Go.Proofs.Ytgofpmcoffgffaa
open Go.RowKit Go.Maps
set_option linter.unusedSimpArgs false

/-- What a call turns: blocks that are meant, and none is gone. -/
structure Turns (F : Where) (w w' : World) : Prop where
  os : w'.os = w.os
  tape : w'.tape = w.tape
  output : w'.output = w.output
  size : w.heap.size ≤ w'.heap.size
  block : ∀ b, b < w.heap.size → ¬ F b → w'.heap[b]? = w.heap[b]?
theorem Turns.refl (F : Where) (w : World) : Turns F w w := ⟨rfl, rfl, rfl, Nat.le_refl _, fun _ _ _ => rfl⟩
theorem Turns.trans {F : Where} {u v w : World} (h : Turns F u v) (k : Turns F v w) : Turns F u w :=
  ⟨k.os.trans h.os, k.tape.trans h.tape, k.output.trans h.output, Nat.le_trans h.size k.size, fun b hb hf => (k.block b (Nat.lt_of_lt_of_le hb h.size) hf).trans (h.block b hb hf)⟩
theorem Turns.below {F : Where} {w w' : World} (h : Below w.heap.size w w') : Turns F w w' := ⟨h.os, h.tape, h.output, h.size, fun b hb _ => h.block b hb⟩
theorem Turns.alloc (F : Where) (w : World) (o : Obj) : Turns F w (w.alloc o) := Turns.below ((Below.refl _ w).alloc (Nat.le_refl _) o)
theorem Turns.drew (F : Where) (w : World) : Turns F w w.drew := Turns.below (Below.refl _ w).drew
theorem Turns.grown {F : Where} {w w' : World} {row : Option Nat} (hg : w.grownBy w' row) (h : ∀ b, row = some b → F b) : Turns F w w' :=
  ⟨hg.os, hg.tape, hg.output, hg.size, fun b hb hf => hg.block b hb (fun e => hf (h b e.symm))⟩
theorem Turns.set {F : Where} {w : World} {p : Addr} (h : F p.block) (v : Value) : Turns F w (w.setCell p v) := by
  have := (Below.refl 0 w).setCell (p := p) (Nat.zero_le _) v
  exact ⟨this.os, this.tape, this.output, this.size, fun b _ hf => Below.heap_setCell w p v b (fun e => hf (e ▸ h))⟩
theorem Turns.map {F : Where} {w w' : World} {b : Nat} (h : w.mapTurned w' b) (hb : F b) : Turns F w w' := Turns.grown h.grown (fun k e => by cases e; exact hb)
theorem Turns.behind {w0 w w' : World} (h : Below w0.heap.size w0 w) (k : Turns (Fresh w0) w w') : Below w0.heap.size w0 w' :=
  ⟨k.os.trans h.os, k.tape.trans h.tape, k.output.trans h.output, Nat.le_trans h.size k.size, fun b hb => (k.block b (Nat.lt_of_lt_of_le hb h.size) (Fresh.not hb)).trans (h.block b hb)⟩
theorem Turns.weak {F G : Where} {w w' : World} (h : Turns F w w') (k : ∀ b, b < w.heap.size → F b → G b) : Turns G w w' :=
  ⟨h.os, h.tape, h.output, h.size, fun b hb hg => h.block b hb (fun hf => hg (k b hb hf))⟩
theorem Turns.kept {F A : Where} {w w' : World} (h : Turns F w w') (k : ∀ b, A b → b < w.heap.size → ¬ F b) : Kept A w w' := ⟨h.size, fun b ha hb => h.block b hb (k b ha hb)⟩
end Go.Proofs.Ytgofpmcoffgffaa
namespace Go.Proofs.Ytgofpmcoffgffaa
open Go.RowKit
set_option linter.unusedSimpArgs false

/-- A pod that is placed, and its node's labels. -/
abbrev PlacedD := PodD × List Lab
def RPlaced : Rep PlacedD := RPair RPod (RSl RLabel 2 32)
theorem RPlaced.firm : Firm RPlaced 17 := Firm.pair RPod.firm (RSl.firm RLabel.firm)
abbrev pNear (p : PodD) : List TermD := p.2.2.2.2.2.2.2.2.1
abbrev pApart (p : PodD) : List TermD := p.2.2.2.2.2.2.2.2.2.1
abbrev pLabs (p : PodD) : List Lab := p.2.2.1

def okL (d : Lab) : Prop := d.1.size ≤ 140737488355328 ∧ d.2.size ≤ 140737488355328
/-- The domain of a key that labels have. -/
abbrev domL (L : List Lab) (key : ByteArray) : Lab := (key, (getL L key).1)
/-- Does a label stand at the domain of a key? -/
def atD (L : List Lab) (key : ByteArray) (d : Lab) : Bool := (getL L key).2 && (sEq d.1 key && sEq d.2 (getL L key).1)
/-- Is x counted for the term t at d? -/
def hT (t : TermD) (x : PlacedD) (d : Lab) : Bool := matchL (pLabs x.1) t.1 && atD x.2 t.2 d
def one (b : Bool) : Int := if b = true then 1 else 0
def cT (t : TermD) (A : List PlacedD) (d : Lab) : Int := (A.map (fun x => one (hT t x d))).sum
def hO (P : List Lab) (x : PlacedD) (t : TermD) (d : Lab) : Bool := matchL P t.1 && atD x.2 t.2 d
def cX (P : List Lab) (x : PlacedD) (T : List TermD) (d : Lab) : Int := (T.map (fun t => one (hO P x t d))).sum
def cO (P : List Lab) (A : List PlacedD) (d : Lab) : Int := (A.map (fun x => cX P x (pApart x.1) d)).sum
/-- Is nobody counted for t anywhere? -/
def eT (t : TermD) (A : List PlacedD) : Bool := !A.any (fun x => matchL (pLabs x.1) t.1 && (getL x.2 t.2).2)
def lackT (P L : List Lab) (A : List PlacedD) (t : TermD) : Bool := !(getL L t.2).2 || (decide (cT t A (domL L t.2) = 0) && !(eT t A && matchL P t.1))
def aparT (L : List Lab) (A : List PlacedD) (t : TermD) : Bool := (getL L t.2).2 && decide (0 < cT t A (domL L t.2))
def othL (P L : List Lab) (A : List PlacedD) (l : Lab) : Bool := decide (0 < cO P A l) && ((getL L l.1).2 && decide (0 < cO P A (domL L l.1)))
/-- What the program tells of a table of A. -/
def whyN (P : List Lab) (N M : List TermD) (L : List Lab) (A : List PlacedD) : Int :=
  if N.any (lackT P L A) = true then 9 else if M.any (aparT L A) = true then 10 else if L.any (othL P L A) = true then 11 else 0
def othersN (name : ByteArray) (l : List PlacedD) : List PlacedD := l.filter (fun x => !sEq x.1.1 name)
def nearP (p : PodD) (L : List Lab) (l : List PlacedD) : Int := whyN (pLabs p) (pNear p) (pApart p) L (othersN p.1 l)

/-- The document's words. -/
def thereT (t : TermD) (L : List Lab) (A : List PlacedD) : Bool := A.any (fun x => matchL (pLabs x.1) t.1 && sameL x.2 L t.2)
def anyT (t : TermD) (A : List PlacedD) : Bool := A.any (fun x => (getL x.2 t.2).2 && matchL (pLabs x.1) t.1)
def rLackT (P L : List Lab) (A : List PlacedD) (t : TermD) : Bool := !(getL L t.2).2 || (!thereT t L A && (anyT t A || !matchL P t.1))
def rOthX (P L : List Lab) (x : PlacedD) : Bool := (pApart x.1).any (fun t => matchL P t.1 && sameL x.2 L t.2)
def whyR8 (P : List Lab) (N M : List TermD) (L : List Lab) (A : List PlacedD) : Int :=
  if N.any (rLackT P L A) = true then 9 else if M.any (fun t => thereT t L A) = true then 10 else if A.any (rOthX P L) = true then 11 else 0
def refN (p : PodD) (L : List Lab) (l : List PlacedD) : Int := whyR8 (pLabs p) (pNear p) (pApart p) L (othersN p.1 l)

theorem one_nonneg (b : Bool) : 0 ≤ one b := by unfold one; split <;> omega
theorem one_le (b : Bool) : one b ≤ 1 := by unfold one; split <;> omega
theorem sum_nonneg : ∀ (l : List Int), (∀ x ∈ l, 0 ≤ x) → 0 ≤ l.sum
  | [], _ => by simp
  | x :: l, h => by
    have h1 := h x (by simp)
    have h2 := sum_nonneg l (fun y hy => h y (by simp [hy]))
    simp only [List.sum_cons]; omega
theorem sum_pos : ∀ (l : List Int), (∀ x ∈ l, 0 ≤ x) → (0 < l.sum ↔ ∃ x ∈ l, 0 < x)
  | [], _ => by simp
  | x :: l, h => by
    have h1 := h x (by simp)
    have h2 := sum_nonneg l (fun y hy => h y (by simp [hy]))
    have h3 := sum_pos l (fun y hy => h y (by simp [hy]))
    simp only [List.sum_cons, List.mem_cons, exists_eq_or_imp]
    rw [← h3]
    omega
theorem one_pos {b : Bool} : 0 < one b ↔ b = true := by unfold one; split <;> simp_all
theorem cT_nonneg (t : TermD) (A : List PlacedD) (d : Lab) : 0 ≤ cT t A d := sum_nonneg _ (fun x hx => by obtain ⟨y, _, rfl⟩ := List.mem_map.1 hx; exact one_nonneg _)
theorem cT_pos (t : TermD) (A : List PlacedD) (d : Lab) : 0 < cT t A d ↔ ∃ x ∈ A, hT t x d = true := by
  unfold cT
  rw [sum_pos _ (fun x hx => by obtain ⟨y, _, rfl⟩ := List.mem_map.1 hx; exact one_nonneg _)]
  constructor
  · rintro ⟨x, hx, hp⟩
    obtain ⟨y, hy, rfl⟩ := List.mem_map.1 hx
    exact ⟨y, hy, one_pos.1 hp⟩
  · rintro ⟨y, hy, hp⟩
    exact ⟨_, List.mem_map.2 ⟨y, hy, rfl⟩, one_pos.2 hp⟩
theorem cX_nonneg (P : List Lab) (x : PlacedD) (T : List TermD) (d : Lab) : 0 ≤ cX P x T d := sum_nonneg _ (fun x hx => by obtain ⟨y, _, rfl⟩ := List.mem_map.1 hx; exact one_nonneg _)
theorem cX_pos (P : List Lab) (x : PlacedD) (T : List TermD) (d : Lab) : 0 < cX P x T d ↔ ∃ t ∈ T, hO P x t d = true := by
  unfold cX
  rw [sum_pos _ (fun x hx => by obtain ⟨y, _, rfl⟩ := List.mem_map.1 hx; exact one_nonneg _)]
  constructor
  · rintro ⟨x, hx, hp⟩
    obtain ⟨y, hy, rfl⟩ := List.mem_map.1 hx
    exact ⟨y, hy, one_pos.1 hp⟩
  · rintro ⟨y, hy, hp⟩
    exact ⟨_, List.mem_map.2 ⟨y, hy, rfl⟩, one_pos.2 hp⟩
theorem cO_nonneg (P : List Lab) (A : List PlacedD) (d : Lab) : 0 ≤ cO P A d := sum_nonneg _ (fun x hx => by obtain ⟨y, _, rfl⟩ := List.mem_map.1 hx; exact cX_nonneg _ _ _ _)
theorem cO_pos (P : List Lab) (A : List PlacedD) (d : Lab) : 0 < cO P A d ↔ ∃ x ∈ A, ∃ t ∈ pApart x.1, hO P x t d = true := by
  unfold cO
  rw [sum_pos _ (fun x hx => by obtain ⟨y, _, rfl⟩ := List.mem_map.1 hx; exact cX_nonneg _ _ _ _)]
  constructor
  · rintro ⟨x, hx, hp⟩
    obtain ⟨y, hy, rfl⟩ := List.mem_map.1 hx
    exact ⟨y, hy, (cX_pos _ _ _ _).1 hp⟩
  · rintro ⟨y, hy, hp⟩
    exact ⟨_, List.mem_map.2 ⟨y, hy, rfl⟩, (cX_pos _ _ _ _).2 hp⟩
theorem atD_iff {L : List Lab} {key : ByteArray} {d : Lab} : atD L key d = true ↔ (getL L key).2 = true ∧ d = domL L key := by
  unfold atD
  rw [Bool.and_eq_true, Bool.and_eq_true, sEq_iff, sEq_iff]
  constructor
  · rintro ⟨h1, h2, h3⟩; exact ⟨h1, Prod.ext h2 h3⟩
  · rintro ⟨h1, rfl⟩; exact ⟨h1, rfl, rfl⟩
theorem sameL_iff {A B : List Lab} {key : ByteArray} : sameL A B key = true ↔ (getL A key).2 = true ∧ (getL B key).2 = true ∧ domL B key = domL A key := by
  unfold sameL
  rw [Bool.and_eq_true, Bool.and_eq_true, sEq_iff]
  constructor
  · rintro ⟨⟨h1, h2⟩, h3⟩; exact ⟨h1, h2, Prod.ext rfl h3.symm⟩
  · rintro ⟨h1, h2, h3⟩; exact ⟨⟨h1, h2⟩, (congrArg Prod.snd h3).symm⟩
theorem there_pos {t : TermD} {L : List Lab} {A : List PlacedD} (h : (getL L t.2).2 = true) : 0 < cT t A (domL L t.2) ↔ thereT t L A = true := by
  rw [cT_pos]
  unfold thereT
  rw [List.any_eq_true]
  constructor
  · rintro ⟨x, hx, hh⟩
    unfold hT at hh
    rw [Bool.and_eq_true, atD_iff] at hh
    exact ⟨x, hx, by rw [Bool.and_eq_true, sameL_iff]; exact ⟨hh.1, hh.2.1, h, hh.2.2⟩⟩
  · rintro ⟨x, hx, hh⟩
    rw [Bool.and_eq_true, sameL_iff] at hh
    exact ⟨x, hx, by unfold hT; rw [Bool.and_eq_true, atD_iff]; exact ⟨hh.1, hh.2.1, hh.2.2.2⟩⟩
theorem eT_any (t : TermD) (A : List PlacedD) : eT t A = !anyT t A := by
  unfold eT anyT
  congr 2
  funext x
  rw [Bool.and_comm]
theorem lack_is (P L : List Lab) (A : List PlacedD) (t : TermD) : lackT P L A t = rLackT P L A t := by
  unfold lackT rLackT
  cases h : (getL L t.2).2
  · rfl
  · have h1 := there_pos (A := A) h
    have h2 := cT_nonneg t A (domL L t.2)
    have h3 : decide (cT t A (domL L t.2) = 0) = !thereT t L A := by
      cases e : thereT t L A
      · rw [e] at h1; simp at h1; simp; omega
      · have := h1.2 e; simp; omega
    rw [h3, eT_any]
    cases thereT t L A <;> cases anyT t A <;> cases matchL P t.1 <;> rfl
theorem apar_is (L : List Lab) (A : List PlacedD) (t : TermD) : aparT L A t = thereT t L A := by
  unfold aparT
  cases h : (getL L t.2).2
  · have : thereT t L A = false := by
      unfold thereT
      rw [List.any_eq_false]
      intro x hx
      rw [Bool.and_eq_true, sameL_iff]
      rintro ⟨_, _, h2, _⟩
      rw [h] at h2; cases h2
    rw [this]; rfl
  · have h1 := there_pos (A := A) h
    cases e : thereT t L A
    · rw [e] at h1; simp at h1; simp; omega
    · have := h1.2 e; simp; omega
theorem getL_mem {L : List Lab} {key : ByteArray} (h : (getL L key).2 = true) : domL L key ∈ L := by
  unfold domL getL at *
  cases e : L.find? (fun x => sEq x.1 key) with
  | none => rw [e] at h; cases h
  | some x =>
    have h1 := List.find?_some e
    have h2 := List.mem_of_find?_eq_some e
    rw [sEq_iff] at h1
    subst h1
    exact h2
theorem oth_is (P L : List Lab) (A : List PlacedD) : L.any (othL P L A) = A.any (rOthX P L) := by
  rw [Bool.eq_iff_iff, List.any_eq_true, List.any_eq_true]
  constructor
  · rintro ⟨l, hl, hh⟩
    unfold othL at hh
    simp only [Bool.and_eq_true, decide_eq_true_eq] at hh
    obtain ⟨_, h2, h3⟩ := hh
    obtain ⟨x, hx, t, ht, hp⟩ := (cO_pos _ _ _).1 h3
    unfold hO at hp
    rw [Bool.and_eq_true, atD_iff] at hp
    have e : l.1 = t.2 := congrArg Prod.fst hp.2.2
    rw [e] at h2 hp
    refine ⟨x, hx, ?_⟩
    unfold rOthX
    rw [List.any_eq_true]
    exact ⟨t, ht, by rw [Bool.and_eq_true, sameL_iff]; exact ⟨hp.1, hp.2.1, h2, hp.2.2⟩⟩
  · rintro ⟨x, hx, hh⟩
    unfold rOthX at hh
    rw [List.any_eq_true] at hh
    obtain ⟨t, ht, hp⟩ := hh
    rw [Bool.and_eq_true, sameL_iff] at hp
    refine ⟨domL L t.2, getL_mem hp.2.2.1, ?_⟩
    have h1 : 0 < cO P A (domL L t.2) := (cO_pos _ _ _).2 ⟨x, hx, t, ht, by unfold hO; rw [Bool.and_eq_true, atD_iff]; exact ⟨hp.1, hp.2.1, hp.2.2.2⟩⟩
    unfold othL
    simp only [Bool.and_eq_true, decide_eq_true_eq]
    exact ⟨h1, hp.2.2.1, h1⟩
theorem near_ref (p : PodD) (L : List Lab) (l : List PlacedD) : nearP p L l = refN p L l := by
  unfold nearP refN whyN whyR8
  have h1 : lackT (pLabs p) L (othersN p.1 l) = rLackT (pLabs p) L (othersN p.1 l) := funext (lack_is _ _ _)
  have h2 : aparT L (othersN p.1 l) = fun t => thereT t L (othersN p.1 l) := funext (apar_is _ _)
  rw [h1, h2, oth_is]
theorem any_perm {α : Type} {l m : List α} (h : l.Perm m) (f : α → Bool) : l.any f = m.any f := by
  rw [Bool.eq_iff_iff, List.any_eq_true, List.any_eq_true]
  exact ⟨fun ⟨x, hx, e⟩ => ⟨x, h.mem_iff.1 hx, e⟩, fun ⟨x, hx, e⟩ => ⟨x, h.mem_iff.2 hx, e⟩⟩
/-- The order of what is placed does not count. -/
theorem near_perm (p : PodD) (L : List Lab) {l m : List PlacedD} (h : l.Perm m) : nearP p L l = nearP p L m := by
  rw [near_ref, near_ref]
  unfold refN whyR8 othersN
  have hp : (l.filter (fun x => !sEq x.1.1 p.1)).Perm (m.filter (fun x => !sEq x.1.1 p.1)) := h.filter _
  have e1 : (fun t => thereT t L (l.filter (fun x => !sEq x.1.1 p.1))) = fun t => thereT t L (m.filter (fun x => !sEq x.1.1 p.1)) := funext fun t => any_perm hp _
  have e2 : rLackT (pLabs p) L (l.filter (fun x => !sEq x.1.1 p.1)) = rLackT (pLabs p) L (m.filter (fun x => !sEq x.1.1 p.1)) := funext fun t => by
    unfold rLackT
    rw [show thereT t L (l.filter (fun x => !sEq x.1.1 p.1)) = thereT t L (m.filter (fun x => !sEq x.1.1 p.1)) from any_perm hp _, show anyT t (l.filter (fun x => !sEq x.1.1 p.1)) = anyT t (m.filter (fun x => !sEq x.1.1 p.1)) from any_perm hp _]
  rw [e1, e2, any_perm hp]
/-- Nobody is counted anywhere, just if every count is nought. -/
theorem eT_iff {t : TermD} {A : List PlacedD} (ht : t.2.size ≤ 140737488355328) (hA : ∀ x ∈ A, ∀ l ∈ x.2, okL l) : eT t A = true ↔ ∀ d, okL d → cT t A d = 0 := by
  unfold eT
  rw [Bool.not_eq_true', List.any_eq_false]
  constructor
  · intro h d _
    have h1 := cT_nonneg t A d
    rcases Int.lt_or_le 0 (cT t A d) with h2 | h2
    · obtain ⟨x, hx, hh⟩ := (cT_pos _ _ _).1 h2
      unfold hT at hh
      rw [Bool.and_eq_true, atD_iff] at hh
      exact absurd (by rw [Bool.and_eq_true]; exact ⟨hh.1, hh.2.1⟩) (h x hx)
    · omega
  · intro h x hx hh
    rw [Bool.and_eq_true] at hh
    have h2 : 0 < cT t A (domL x.2 t.2) := (cT_pos _ _ _).2 ⟨x, hx, by unfold hT; rw [Bool.and_eq_true, atD_iff]; exact ⟨hh.1, hh.2, rfl⟩⟩
    have h3 := h (domL x.2 t.2) ⟨ht, (hA x hx _ (getL_mem hh.2)).2⟩
    omega
end Go.Proofs.Ytgofpmcoffgffaa
namespace Go.Proofs.Ytgofpmcoffgffaa
open Go.RowKit
set_option linter.unusedSimpArgs false

/-- What is told so hangs on no memory. -/
def Flat {α : Type} (R : Rep α) : Prop := ∀ (A A' : Where) (w w' : World) (cs : List Value) (x : α), R A w cs x → R A' w' cs x
theorem RStr.flat : Flat RStr := fun _ _ _ _ _ _ h => h
theorem RInt.flat : Flat RInt := fun _ _ _ _ _ _ h => h
theorem RBool.flat : Flat RBool := fun _ _ _ _ _ _ h => h
theorem Flat.pair {α β : Type} {R : Rep α} {S : Rep β} (hR : Flat R) (hS : Flat S) : Flat (RPair R S) := by
  rintro A A' w w' cs x ⟨c, d, e, h1, h2⟩
  exact ⟨c, d, e, hR _ _ _ _ _ _ h1, hS _ _ _ _ _ _ h2⟩
theorem Chunks.flat {α : Type} [Inhabited α] {R : Rep α} {k : Nat} (hF : Flat R) {A A' : Where} {u u' : World} {xs : List Value} {L : List α} (h : Chunks R k A u xs L) : Chunks R k A' u' xs L :=
  ⟨h.1, fun i hi => by obtain ⟨cs, h1, h2⟩ := h.2 i hi; exact ⟨cs, hF _ _ _ _ _ _ h1, h2⟩⟩
theorem RLabel.flat : Flat RLabel := Flat.pair RStr.flat RStr.flat
theorem RRes.flat : Flat RRes := Flat.pair RInt.flat (Flat.pair RInt.flat RInt.flat)
theorem RTaint.flat : Flat RTaint := Flat.pair RStr.flat (Flat.pair RStr.flat RInt.flat)
theorem RBear.flat : Flat RBear := Flat.pair RStr.flat (Flat.pair RStr.flat (Flat.pair RBool.flat RInt.flat))
theorem RClaim.flat : Flat RClaim := Flat.pair RStr.flat (Flat.pair RInt.flat (Flat.pair RStr.flat RStr.flat))
theorem RClass.flat : Flat RClass := Flat.pair RStr.flat RBool.flat
theorem sl_none {α : Type} [Inhabited α] {R : Rep α} {k bytes : Nat} {A : Where} {w : World} {n cap : Nat} {L : List α} (h : SlAt R k bytes A w none n cap L) : n = 0 ∧ cap = 0 ∧ L = [] := by
  have h0 : cap = 0 := h.2.2.1 rfl
  have h1 := h.2.1
  exact ⟨by omega, h0, List.length_eq_zero_iff.1 (by rw [h.1]; omega)⟩
theorem SlAt.len {α : Type} [Inhabited α] {R : Rep α} {k bytes : Nat} {A : Where} {w : World} {a : Option Addr} {n cap : Nat} {L : List α} (h : SlAt R k bytes A w a n cap L) (hb : 1 ≤ bytes) : n ≤ 140737488351232 := by
  have := h.2.2.2.1
  have h2 : n * 1 ≤ n * bytes := Nat.mul_le_mul_left _ hb
  omega
theorem infostr : (Try.prog.info? 9).map (fun i => (i.zero, i.size, i.bytes)) = some (some (.string ⟨#[]⟩), 1, 16) := by kernel_rfl
theorem infoint : (Try.prog.info? 3).map (fun i => (i.zero, i.size, i.bytes)) = some (some (.int .i64 0), 1, 8) := by kernel_rfl
theorem infoLabel : (Try.prog.info? 152).map (fun i => (i.zero, i.size, i.bytes)) = some (some (.agg #[.string ⟨#[]⟩, .string ⟨#[]⟩]), 2, 32) := by kernel_rfl

set_option maxHeartbeats 1000000 in
theorem Texts_copy (a : Option Addr) (n cap : Nat) (A : Where) (L : List (ByteArray)) (w : World) (hL : Hid (SlAt RStr 1 16 A w a n cap L)) : Calls Try.prog 52 #[.slice a n cap] w fun e w' => ∃ a' cap', e = .returned (.slice a' n cap') ∧ SlAt RStr 1 16 (Fresh w) w' a' n cap' L ∧ Below w.heap.size w w' := by
  have hb0 : Below w.heap.size w (w.alloc (.cells #[] 9)) := by go_grown
  match a with
  | none =>
    obtain ⟨rfl, rfl, rfl⟩ := sl_none hL.out
    go_enter Try.func52, Try.ntmps52
    go_wp2_with fail
    go_ret
    exact ⟨_, _, rfl, SlAt.nil _ _ _ _ (fun h => by cases h), hb0⟩
  | some ad =>
    obtain ⟨xs, hc, hcell, hone⟩ := (hL.out.on RStr.firm hb0).chunks RStr.firm
    have hn := hL.out.1
    have hbb := hL.out.2.2.2.1
    subst hn
    have HR : Hid (Row RStr 1 (Fresh w) w (w.alloc (.cells #[] 9)) 9 (.slice (some ⟨w.heap.size, 0, none⟩) 0 0) []) := Row.start _ w w _ (Below.refl _ _)
    have HC : Hid (Chunks RStr 1 (fun b => Fresh w b ∧ Value.ownBlock (.slice (some ⟨w.heap.size, 0, none⟩) 0 0) ≠ some b) (w.alloc (.cells #[] 9)) xs L) := hc.flat RStr.flat
    have HX : Hid (∀ j y, xs[j]? = some y → (w.alloc (.cells #[] 9)).cell? (ad.add j) = some y) := hcell
    have HO : Hid (∀ y ∈ xs, y.oneCell' = true) := hone
    clear hc hcell hone hL
    go_enter Try.func52, Try.ntmps52
    go_wp2_with (at_builtin; go_must (refine row_append RStr.firm (A := Fresh w) (w0 := w) rfl _ _ 31 9 rfl _ 16 infostr Try.underlying31 rfl (by decide) (by decide) _ [] rfl HR.out ad L.length cap xs L rfl rfl HC.out HX.out HO.out (by simp; omega) ?_); intro v1 w1 hrow1 hg1)
    go_ret
    obtain ⟨a', cap', rfl, h2⟩ := hrow1.slF (bytes := 16) RStr.firm (by simpa using hbb)
    simp only [List.nil_append] at h2 ⊢
    exact ⟨a', cap', rfl, h2, hrow1.below⟩

set_option maxHeartbeats 1000000 in
theorem Ints_copy (a : Option Addr) (n cap : Nat) (A : Where) (L : List (Int)) (w : World) (hL : Hid (SlAt RInt 1 8 A w a n cap L)) : Calls Try.prog 50 #[.slice a n cap] w fun e w' => ∃ a' cap', e = .returned (.slice a' n cap') ∧ SlAt RInt 1 8 (Fresh w) w' a' n cap' L ∧ Below w.heap.size w w' := by
  have hb0 : Below w.heap.size w (w.alloc (.cells #[] 3)) := by go_grown
  match a with
  | none =>
    obtain ⟨rfl, rfl, rfl⟩ := sl_none hL.out
    go_enter Try.func50, Try.ntmps50
    go_wp2_with fail
    go_ret
    exact ⟨_, _, rfl, SlAt.nil _ _ _ _ (fun h => by cases h), hb0⟩
  | some ad =>
    obtain ⟨xs, hc, hcell, hone⟩ := (hL.out.on RInt.firm hb0).chunks RInt.firm
    have hn := hL.out.1
    have hbb := hL.out.2.2.2.1
    subst hn
    have HR : Hid (Row RInt 1 (Fresh w) w (w.alloc (.cells #[] 3)) 3 (.slice (some ⟨w.heap.size, 0, none⟩) 0 0) []) := Row.start _ w w _ (Below.refl _ _)
    have HC : Hid (Chunks RInt 1 (fun b => Fresh w b ∧ Value.ownBlock (.slice (some ⟨w.heap.size, 0, none⟩) 0 0) ≠ some b) (w.alloc (.cells #[] 3)) xs L) := hc.flat RInt.flat
    have HX : Hid (∀ j y, xs[j]? = some y → (w.alloc (.cells #[] 3)).cell? (ad.add j) = some y) := hcell
    have HO : Hid (∀ y ∈ xs, y.oneCell' = true) := hone
    clear hc hcell hone hL
    go_enter Try.func50, Try.ntmps50
    go_wp2_with (at_builtin; go_must (refine row_append RInt.firm (A := Fresh w) (w0 := w) rfl _ _ 28 3 rfl _ 8 infoint Try.underlying28 rfl (by decide) (by decide) _ [] rfl HR.out ad L.length cap xs L rfl rfl HC.out HX.out HO.out (by simp; omega) ?_); intro v1 w1 hrow1 hg1)
    go_ret
    obtain ⟨a', cap', rfl, h2⟩ := hrow1.slF (bytes := 8) RInt.firm (by simpa using hbb)
    simp only [List.nil_append] at h2 ⊢
    exact ⟨a', cap', rfl, h2, hrow1.below⟩

set_option maxHeartbeats 1000000 in
theorem Labels_copy (a : Option Addr) (n cap : Nat) (A : Where) (L : List (Lab)) (w : World) (hL : Hid (SlAt RLabel 2 32 A w a n cap L)) : Calls Try.prog 48 #[.slice a n cap] w fun e w' => ∃ a' cap', e = .returned (.slice a' n cap') ∧ SlAt RLabel 2 32 (Fresh w) w' a' n cap' L ∧ Below w.heap.size w w' := by
  have hb0 : Below w.heap.size w (w.alloc (.cells #[] 152)) := by go_grown
  match a with
  | none =>
    obtain ⟨rfl, rfl, rfl⟩ := sl_none hL.out
    go_enter Try.func48, Try.ntmps48
    go_wp2_with fail
    go_ret
    exact ⟨_, _, rfl, SlAt.nil _ _ _ _ (fun h => by cases h), hb0⟩
  | some ad =>
    obtain ⟨xs, hc, hcell, hone⟩ := (hL.out.on RLabel.firm hb0).chunks RLabel.firm
    have hn := hL.out.1
    have hbb := hL.out.2.2.2.1
    subst hn
    have HR : Hid (Row RLabel 2 (Fresh w) w (w.alloc (.cells #[] 152)) 152 (.slice (some ⟨w.heap.size, 0, none⟩) 0 0) []) := Row.start _ w w _ (Below.refl _ _)
    have HC : Hid (Chunks RLabel 2 (fun b => Fresh w b ∧ Value.ownBlock (.slice (some ⟨w.heap.size, 0, none⟩) 0 0) ≠ some b) (w.alloc (.cells #[] 152)) xs L) := hc.flat RLabel.flat
    have HX : Hid (∀ j y, xs[j]? = some y → (w.alloc (.cells #[] 152)).cell? (ad.add j) = some y) := hcell
    have HO : Hid (∀ y ∈ xs, y.oneCell' = true) := hone
    clear hc hcell hone hL
    go_enter Try.func48, Try.ntmps48
    go_wp2_with (at_builtin; go_must (refine row_append RLabel.firm (A := Fresh w) (w0 := w) rfl _ _ 22 152 rfl _ 32 infoLabel Try.underlying22 rfl (by decide) (by decide) _ [] rfl HR.out ad L.length cap xs L rfl rfl HC.out HX.out HO.out (by simp; omega) ?_); intro v1 w1 hrow1 hg1)
    go_ret
    obtain ⟨a', cap', rfl, h2⟩ := hrow1.slF (bytes := 32) RLabel.firm (by simpa using hbb)
    simp only [List.nil_append] at h2 ⊢
    exact ⟨a', cap', rfl, h2, hrow1.below⟩
end Go.Proofs.Ytgofpmcoffgffaa
namespace Go.Proofs.Ytgofpmcoffgffaa
open Go.RowKit
set_option linter.unusedSimpArgs false

theorem infoReq : (Try.prog.info? 89).map (fun i => (i.zero, i.size, i.bytes)) = some (some (.agg #[.string ⟨#[]⟩, .int .i64 0, .slice none 0 0]), 3, 48) := by kernel_rfl
/-- What has come since a later world is no part of the row. -/
theorem Row.apart {α : Type} [Inhabited α] {R : Rep α} {k : Nat} {A : Where} {w0 u u' : World} {e : TypeId} {v : Value} {L : List α} (h : Row R k A w0 u e v L) (hs : u.heap.size ≤ u'.heap.size) : ∀ b, Fresh u' b → Fresh w0 b ∧ v.ownBlock ≠ some b := by
  obtain ⟨xs, h1, _⟩ := h
  intro b hb
  have hb' : u'.heap.size ≤ b := hb
  have := h1.1.size
  refine ⟨show w0.heap.size ≤ b by omega, fun e => ?_⟩
  have := (h1.2.lt b e).2
  omega
theorem take_at {α : Type} [Inhabited α] {L : List α} {k : Nat} (hk : k < L.length) : L.take k ++ [L.getD k default] = L.take (k + 1) := (take_succ hk).symm
theorem bytes_le {n k bytes : Nat} (h : n * bytes ≤ 140737488351232) (hk : k < n) : (k + 1) * bytes ≤ 140737488355328 := by
  have : (k + 1) * bytes ≤ n * bytes := Nat.mul_le_mul_right _ hk
  omega

set_option maxHeartbeats 2000000 in
theorem Reqs_copy (a : Option Addr) (n cap : Nat) (A : Where) (L : List Ask) (w : World) (hL : Hid (SlAt RReq 3 48 A w a n cap L)) : Calls Try.prog 49 #[.slice a n cap] w fun e w' => ∃ a' cap', e = .returned (.slice a' n cap') ∧ SlAt RReq 3 48 (Fresh w) w' a' n cap' L ∧ Below w.heap.size w w' := by
  have hlen := hL.out.len (by decide)
  have hn : Hid (L.length = n) := hL.out.1
  have hbb : Hid (n * 48 ≤ 140737488351232) := hL.out.2.2.2.1
  have HR0 : Hid (Row RReq 3 (Fresh w) w (w.alloc (.cells #[] 89)) 89 (.slice (some ⟨w.heap.size, 0, none⟩) 0 0) (L.take 0)) := Row.start _ w w _ (Below.refl _ _)
  go_enter Try.func49, Try.ntmps49
  go_wp2_with fail
  go_loopw [3, 4] (fun s i wr => ∃ k : Nat, k ≤ n ∧ i = .int .i64 k ∧ Hid (Row RReq 3 (Fresh w) w wr 89 s (L.take k))) (fun _ i _ => n - (intOf i).toNat)
  case atStart => exact ⟨0, Nat.zero_le _, rfl, HR0⟩
  case round =>
    obtain ⟨k, hk, rfl, hrow⟩ := hrel
    by_cases hlt : k < n
    · have hltz : (k : Int) < (n : Int) := by omega
      have hkl : Hid (k < L.length) := by rw [Hid, hn.out]; exact hlt
      obtain ⟨B, off, rfl, hB, hAB, cs, hr, hv⟩ := (hL.out.on RReq.firm hrow.out.below).get hlt
      obtain ⟨h2, rfl, hs, hT⟩ := hr.out
      have d0 := hv 0 _ rfl
      have d1 := hv 1 _ rfl
      have d2 := hv 2 _ rfl
      rw [Nat.add_zero] at d0
      have HT : Hid (L.take k ++ [L.getD k default] = L.take (k + 1)) := take_at hkl.out
      have hbw : Below wr.heap.size wr (wr.alloc (.cells #[.string (L.getD k default).1, .int .i64 (L.getD k default).2.1, .slice h2.1 h2.2.1 h2.2.2] 89)) := by go_grown
      have hTx := Texts_copy h2.1 h2.2.1 h2.2.2 A (L.getD k default).2.2 (wr.alloc (.cells #[.string (L.getD k default).1, .int .i64 (L.getD k default).2.1, .slice h2.1 h2.2.1 h2.2.2] 89)) (hT.on RStr.firm hbw)
      clear hr hT hv hAB
      generalize L.getD k default = x at d0 d1 d2 hs HT hbw hTx
      go_wp2_with fail
      refine hTx.mono ?_
      rintro e w2 ⟨a2, c2, rfl, hS2, hb2⟩
      clear hTx
      have hD : wr.heap.size < (wr.alloc (.cells #[.string x.1, .int .i64 x.2.1, .slice h2.1 h2.2.1 h2.2.2] 89)).heap.size := by simp
      have q0 : w2.cell? ⟨wr.heap.size, 0, none⟩ = some (.string x.1) := (hb2.cell hD).trans (by simp [go_sem])
      have q1 : w2.cell? ⟨wr.heap.size, 1, none⟩ = some (.int .i64 x.2.1) := (hb2.cell hD).trans (by simp [go_sem])
      have q2 : w2.cell? ⟨wr.heap.size, 2, none⟩ = some (.slice h2.1 h2.2.1 h2.2.2) := (hb2.cell hD).trans (by simp [go_sem])
      have f2 : w2.frozen? ⟨wr.heap.size, 2, none⟩ = false := (hb2.frozen hD).trans (by simp [go_sem])
      have hb3 : Below wr.heap.size wr ((w2.setCell ⟨wr.heap.size, 2, none⟩ (.slice a2 h2.2.1 c2)).alloc (.cells #[.string x.1, .int .i64 x.2.1, .slice a2 h2.2.1 c2] 89)) := (((hbw.trans (hb2.mono (by simp))).setCell (Nat.le_refl _) _).alloc (by have := hb2.size; simp at this ⊢; omega) _)
      have HR3 := hrow.out.on RReq.firm hb3
      have HE : RReq (fun b => Fresh w b ∧ Value.ownBlock u3 ≠ some b) ((w2.setCell ⟨wr.heap.size, 2, none⟩ (.slice a2 h2.2.1 c2)).alloc (.cells #[.string x.1, .int .i64 x.2.1, .slice a2 h2.2.1 c2] 89)) [.string x.1, .int .i64 x.2.1, .slice a2 h2.2.1 c2] x := by
        refine RReq.mk (h2 := (a2, h2.2.1, c2)) hs (((hS2.kept RStr.firm (Kept.set (Fresh.not hD) _)).kept RStr.firm (Kept.alloc _ _ _)).weak RStr.firm (fun b _ hb => hrow.out.apart (u' := wr.alloc (.cells #[.string x.1, .int .i64 x.2.1, .slice h2.1 h2.2.1 h2.2.2] 89)) (by simp) b hb))
      have HC : Hid (Chunks RReq 3 (fun b => Fresh w b ∧ Value.ownBlock u3 ≠ some b) ((w2.setCell ⟨wr.heap.size, 2, none⟩ (.slice a2 h2.2.1 c2)).alloc (.cells #[.string x.1, .int .i64 x.2.1, .slice a2 h2.2.1 c2] 89)) [.string x.1, .int .i64 x.2.1, .slice a2 h2.2.1 c2] [x]) := chunk_one RReq.firm HE
      have HX : Hid (∀ j y, [Value.string x.1, .int .i64 x.2.1, .slice a2 h2.2.1 c2][j]? = some y → ((w2.setCell ⟨wr.heap.size, 2, none⟩ (.slice a2 h2.2.1 c2)).alloc (.cells #[.string x.1, .int .i64 x.2.1, .slice a2 h2.2.1 c2] 89)).cell? ((⟨w2.heap.size, 0, none⟩ : Addr).add j) = some y) := by
        have := one_cells (w2.setCell ⟨wr.heap.size, 2, none⟩ (.slice a2 h2.2.1 c2)) [.string x.1, .int .i64 x.2.1, .slice a2 h2.2.1 c2] 89
        unfold Hid
        simpa using this
      have HR3' : Hid (Row RReq 3 (Fresh w) w ((w2.setCell ⟨wr.heap.size, 2, none⟩ (.slice a2 h2.2.1 c2)).alloc (.cells #[.string x.1, .int .i64 x.2.1, .slice a2 h2.2.1 c2] 89)) 89 u3 (L.take k)) := HR3
      have HLb : Hid (((L.take k).length + [x].length) * 48 ≤ 140737488355328) := by
        have := bytes_le hbb.out hlt
        rw [Hid, List.length_take, hn.out, List.length_singleton, Nat.min_eq_left (by omega)]
        exact this
      clear HR3 HE hbw hb3 hS2 hrow
      go_wp2_with (at_builtin; go_must (refine row_append RReq.firm (A := Fresh w) (w0 := w) rfl _ _ 26 89 rfl _ 48 infoReq Try.underlying26 rfl (by decide) (by decide) u3 (L.take k) rfl HR3'.out ⟨w2.heap.size, 0, none⟩ 1 1 _ [x] rfl rfl HC.out HX.out (by simp [Value.oneCell']) HLb.out ?_); intro v4 w4 hrow4 hg4)
      rw [HT.out] at hrow4
      go_roundw
      case rel => exact ⟨k + 1, by omega, by go_num, hrow4⟩
      case measure => simp [intOf]; omega
    · have hk' : L.take k = L := List.take_of_length_le (by rw [hn.out]; omega)
      obtain ⟨a', cap', e1, h2⟩ := hrow.out.slF (bytes := 48) RReq.firm (by rw [hk', hn.out]; exact hbb.out)
      rw [hk', hn.out] at e1 h2
      have hb9 := hrow.out.below
      have h2' : Hid (SlAt RReq 3 48 (Fresh w) wr a' n cap' L) := h2
      clear h2 hrow
      subst e1
      go_wp2_with fail
      go_ret
      exact ⟨a', cap', rfl, h2'.out, hb9⟩
end Go.Proofs.Ytgofpmcoffgffaa
namespace Go.Proofs.Ytgofpmcoffgffaa
open Go.RowKit
set_option linter.unusedSimpArgs false

theorem retB {a b : Bool} (h : a = b) : Ending.returned (.bool a) = .returned (.bool b) := by rw [h]
theorem same_len {α : Type} [DecidableEq α] {L M : List α} (h : L.length ≠ M.length) : decide (L = M) = false := by
  rw [decide_eq_false_iff_not]; intro e; exact h (by rw [e])
section
variable {α : Type} [Inhabited α] [DecidableEq α] {L M : List α}
theorem same_no {k : Nat} (h : L.getD k default ≠ M.getD k default) : decide (L = M) = false := by
  rw [decide_eq_false_iff_not]; intro e; exact h (by rw [e])
theorem same_yes (hl : L.length = M.length) (h : ∀ j, j < L.length → L.getD j default = M.getD j default) : decide (L = M) = true := by
  rw [decide_eq_true_iff]
  apply List.ext_getElem hl
  intro i h1 h2
  have := h i h1
  rwa [getE _ _ h1, getE _ _ h2] at this
end
theorem bne_of (a b : Int) : (a != b) = !(a == b) := rfl
theorem guardL : Try.prog.eqGuardType Try.prog.depth 152 = false := by kernel_rfl
theorem neqL (x y : Lab) (w : World) : Sem.run Try.prog (binOp .neq 152 (.agg #[.string x.1, .string x.2]) (.agg #[.string y.1, .string y.2])) w = .ok (.bool (!(sEq x.1 y.1 && sEq x.2 y.2))) w := by
  have u9 := Try.underlying9
  have a9 := Try.isAgg9
  have z9 := Try.sizeOf9
  have hS : Try.prog.underlying 152 = some (.struct (Try.prog.fieldsOf 152)) := by kernel_rfl
  have hp : Try.prog.stoodInHeld 152 = false := by kernel_rfl
  rw [run_neq_struct, show (10000 : Nat) = 9999 + 1 from rfl, run_equalIn_agg w 9999 152 _ _ hS hp]
  simp only [Program.fieldsOf, Try.underlying152]
  go_simp
  simp only [sEq]
  by_cases h1 : x.1.toList = y.1.toList <;> by_cases h2 : x.2.toList = y.2.toList <;> simp [h1, h2]
theorem lab_eq (x y : Lab) : (sEq x.1 y.1 && sEq x.2 y.2) = decide (x = y) := by
  rw [Bool.eq_iff_iff, Bool.and_eq_true, sEq_iff, sEq_iff, decide_eq_true_iff, Prod.ext_iff]
theorem ask_eq (x y : Ask) : decide (x = y) = (sEq x.1 y.1 && ((x.2.1 == y.2.1) && decide (x.2.2 = y.2.2))) := by
  rw [Bool.eq_iff_iff, Bool.and_eq_true, Bool.and_eq_true, sEq_iff, decide_eq_true_iff, decide_eq_true_iff, beq_iff_eq, Prod.ext_iff, Prod.ext_iff]
theorem term_eq (x y : TermD) : decide (x = y) = (sEq x.2 y.2 && decide (x.1 = y.1)) := by
  rw [Bool.eq_iff_iff, Bool.and_eq_true, sEq_iff, decide_eq_true_iff, decide_eq_true_iff, Prod.ext_iff, And.comm]

end Go.Proofs.Ytgofpmcoffgffaa
