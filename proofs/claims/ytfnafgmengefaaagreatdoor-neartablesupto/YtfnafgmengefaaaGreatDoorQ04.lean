/- Which blocks a call turns. Plain facts on worlds. No condition. What is placed, counted by domains; why a pod may not come somewhere: by counts, and by the document's words. Plain mathematics. No condition. How many there are in each domain: a map whose keys are labels. Plain facts on worlds. No condition. base.Texts, Ints, Labels give slices of their own that hold the same. Condition: the slice holds what is said of it. Slices of taints and of what is borne, told in the words of layer 3. Plain facts on worlds. No condition. -/
import Derived.Test.YtfnafgmengefaaaGreatDoorQ03
import Derived.Maps.OwnOps
import Derived.Maps.OwnSet
import Derived.DeepKeys4
import Derived.Maps.Range
namespace Go.Proofs.YtfnafgmengefaaaGreatDoor
open Go.RowKit Go.Maps
set_option linter.unusedSimpArgs false

/-- What a call turns: blocks that are meant, and none is gone. -/
structure Turns (F : Where) (w w' : World) : Prop where
  os : w'.os = w.os
  tape : w'.tape = w.tape
  output : w'.output = w.output
  size : w.heap.size ≤ w'.heap.size
  block : ∀ b, b < w.heap.size → ¬ F b → w'.heap[b]? = w.heap[b]?
theorem Turns.refl (F : Where) (w : World) : Turns F w w := ⟨rfl, rfl, rfl, Nat.le_refl _, fun _ _ _ => rfl⟩
theorem Turns.trans {F : Where} {u v w : World} (h : Turns F u v) (k : Turns F v w) : Turns F u w :=
  ⟨k.os.trans h.os, k.tape.trans h.tape, k.output.trans h.output, Nat.le_trans h.size k.size, fun b hb hf => (k.block b (Nat.lt_of_lt_of_le hb h.size) hf).trans (h.block b hb hf)⟩
theorem Turns.below {F : Where} {w w' : World} (h : Below w.heap.size w w') : Turns F w w' := ⟨h.os, h.tape, h.output, h.size, fun b hb _ => h.block b hb⟩
theorem Turns.alloc (F : Where) (w : World) (o : Obj) : Turns F w (w.alloc o) := Turns.below ((Below.refl _ w).alloc (Nat.le_refl _) o)
theorem Turns.drew (F : Where) (w : World) : Turns F w w.drew := Turns.below (Below.refl _ w).drew
theorem Turns.grown {F : Where} {w w' : World} {row : Option Nat} (hg : w.grownBy w' row) (h : ∀ b, row = some b → F b) : Turns F w w' :=
  ⟨hg.os, hg.tape, hg.output, hg.size, fun b hb hf => hg.block b hb (fun e => hf (h b e.symm))⟩
theorem Turns.set {F : Where} {w : World} {p : Addr} (h : F p.block) (v : Value) : Turns F w (w.setCell p v) := by
  have := (Below.refl 0 w).setCell (p := p) (Nat.zero_le _) v
  exact ⟨this.os, this.tape, this.output, this.size, fun b _ hf => Below.heap_setCell w p v b (fun e => hf (e ▸ h))⟩
theorem Turns.map {F : Where} {w w' : World} {b : Nat} (h : w.mapTurned w' b) (hb : F b) : Turns F w w' := Turns.grown h.grown (fun k e => by cases e; exact hb)
theorem Turns.behind {w0 w w' : World} (h : Below w0.heap.size w0 w) (k : Turns (Fresh w0) w w') : Below w0.heap.size w0 w' :=
  ⟨k.os.trans h.os, k.tape.trans h.tape, k.output.trans h.output, Nat.le_trans h.size k.size, fun b hb => (k.block b (Nat.lt_of_lt_of_le hb h.size) (Fresh.not hb)).trans (h.block b hb)⟩
theorem Turns.weak {F G : Where} {w w' : World} (h : Turns F w w') (k : ∀ b, b < w.heap.size → F b → G b) : Turns G w w' :=
  ⟨h.os, h.tape, h.output, h.size, fun b hb hg => h.block b hb (fun hf => hg (k b hb hf))⟩
theorem Turns.kept {F A : Where} {w w' : World} (h : Turns F w w') (k : ∀ b, A b → b < w.heap.size → ¬ F b) : Kept A w w' := ⟨h.size, fun b ha hb => h.block b hb (k b ha hb)⟩
end Go.Proofs.YtfnafgmengefaaaGreatDoor
namespace Go.Proofs.YtfnafgmengefaaaGreatDoor
open Go.RowKit
set_option linter.unusedSimpArgs false

/-- A pod that is placed, and its node's labels. -/
abbrev PlacedD := PodD × List Lab
def RPlaced : Rep PlacedD := RPair RPod (RSl RLabel 2 32)
theorem RPlaced.firm : Firm RPlaced 17 := Firm.pair RPod.firm (RSl.firm RLabel.firm)
abbrev pNear (p : PodD) : List TermD := p.2.2.2.2.2.2.2.2.1
abbrev pApart (p : PodD) : List TermD := p.2.2.2.2.2.2.2.2.2.1
abbrev pLabs (p : PodD) : List Lab := p.2.2.1

def okL (d : Lab) : Prop := d.1.size ≤ 140737488355328 ∧ d.2.size ≤ 140737488355328
/-- The domain of a key that labels have. -/
abbrev domL (L : List Lab) (key : ByteArray) : Lab := (key, (getL L key).1)
/-- Does a label stand at the domain of a key? -/
def atD (L : List Lab) (key : ByteArray) (d : Lab) : Bool := (getL L key).2 && (sEq d.1 key && sEq d.2 (getL L key).1)
/-- Is x counted for the term t at d? -/
def hT (t : TermD) (x : PlacedD) (d : Lab) : Bool := matchL (pLabs x.1) t.1 && atD x.2 t.2 d
def one (b : Bool) : Int := if b = true then 1 else 0
def cT (t : TermD) (A : List PlacedD) (d : Lab) : Int := (A.map (fun x => one (hT t x d))).sum
def hO (P : List Lab) (x : PlacedD) (t : TermD) (d : Lab) : Bool := matchL P t.1 && atD x.2 t.2 d
def cX (P : List Lab) (x : PlacedD) (T : List TermD) (d : Lab) : Int := (T.map (fun t => one (hO P x t d))).sum
def cO (P : List Lab) (A : List PlacedD) (d : Lab) : Int := (A.map (fun x => cX P x (pApart x.1) d)).sum
/-- Is nobody counted for t anywhere? -/
def eT (t : TermD) (A : List PlacedD) : Bool := !A.any (fun x => matchL (pLabs x.1) t.1 && (getL x.2 t.2).2)
def lackT (P L : List Lab) (A : List PlacedD) (t : TermD) : Bool := !(getL L t.2).2 || (decide (cT t A (domL L t.2) = 0) && !(eT t A && matchL P t.1))
def aparT (L : List Lab) (A : List PlacedD) (t : TermD) : Bool := (getL L t.2).2 && decide (0 < cT t A (domL L t.2))
def othL (P L : List Lab) (A : List PlacedD) (l : Lab) : Bool := decide (0 < cO P A l) && ((getL L l.1).2 && decide (0 < cO P A (domL L l.1)))
/-- What the program tells of a table of A. -/
def whyN (P : List Lab) (N M : List TermD) (L : List Lab) (A : List PlacedD) : Int :=
  if N.any (lackT P L A) = true then 9 else if M.any (aparT L A) = true then 10 else if L.any (othL P L A) = true then 11 else 0
def othersN (name : ByteArray) (l : List PlacedD) : List PlacedD := l.filter (fun x => !sEq x.1.1 name)
def nearP (p : PodD) (L : List Lab) (l : List PlacedD) : Int := whyN (pLabs p) (pNear p) (pApart p) L (othersN p.1 l)

/-- The document's words. -/
def thereT (t : TermD) (L : List Lab) (A : List PlacedD) : Bool := A.any (fun x => matchL (pLabs x.1) t.1 && sameL x.2 L t.2)
def anyT (t : TermD) (A : List PlacedD) : Bool := A.any (fun x => (getL x.2 t.2).2 && matchL (pLabs x.1) t.1)
def rLackT (P L : List Lab) (A : List PlacedD) (t : TermD) : Bool := !(getL L t.2).2 || (!thereT t L A && (anyT t A || !matchL P t.1))
def rOthX (P L : List Lab) (x : PlacedD) : Bool := (pApart x.1).any (fun t => matchL P t.1 && sameL x.2 L t.2)
def whyR8 (P : List Lab) (N M : List TermD) (L : List Lab) (A : List PlacedD) : Int :=
  if N.any (rLackT P L A) = true then 9 else if M.any (fun t => thereT t L A) = true then 10 else if A.any (rOthX P L) = true then 11 else 0
def refN (p : PodD) (L : List Lab) (l : List PlacedD) : Int := whyR8 (pLabs p) (pNear p) (pApart p) L (othersN p.1 l)

theorem one_nonneg (b : Bool) : 0 ≤ one b := by unfold one; split <;> omega
theorem one_le (b : Bool) : one b ≤ 1 := by unfold one; split <;> omega
theorem sum_nonneg : ∀ (l : List Int), (∀ x ∈ l, 0 ≤ x) → 0 ≤ l.sum
  | [], _ => by simp
  | x :: l, h => by
    have h1 := h x (by simp)
    have h2 := sum_nonneg l (fun y hy => h y (by simp [hy]))
    simp only [List.sum_cons]; omega
theorem sum_pos : ∀ (l : List Int), (∀ x ∈ l, 0 ≤ x) → (0 < l.sum ↔ ∃ x ∈ l, 0 < x)
  | [], _ => by simp
  | x :: l, h => by
    have h1 := h x (by simp)
    have h2 := sum_nonneg l (fun y hy => h y (by simp [hy]))
    have h3 := sum_pos l (fun y hy => h y (by simp [hy]))
    simp only [List.sum_cons, List.mem_cons, exists_eq_or_imp]
    rw [← h3]
    omega
theorem one_pos {b : Bool} : 0 < one b ↔ b = true := by unfold one; split <;> simp_all
theorem cT_nonneg (t : TermD) (A : List PlacedD) (d : Lab) : 0 ≤ cT t A d := sum_nonneg _ (fun x hx => by obtain ⟨y, _, rfl⟩ := List.mem_map.1 hx; exact one_nonneg _)
theorem cT_pos (t : TermD) (A : List PlacedD) (d : Lab) : 0 < cT t A d ↔ ∃ x ∈ A, hT t x d = true := by
  unfold cT
  rw [sum_pos _ (fun x hx => by obtain ⟨y, _, rfl⟩ := List.mem_map.1 hx; exact one_nonneg _)]
  constructor
  · rintro ⟨x, hx, hp⟩
    obtain ⟨y, hy, rfl⟩ := List.mem_map.1 hx
    exact ⟨y, hy, one_pos.1 hp⟩
  · rintro ⟨y, hy, hp⟩
    exact ⟨_, List.mem_map.2 ⟨y, hy, rfl⟩, one_pos.2 hp⟩
theorem cX_nonneg (P : List Lab) (x : PlacedD) (T : List TermD) (d : Lab) : 0 ≤ cX P x T d := sum_nonneg _ (fun x hx => by obtain ⟨y, _, rfl⟩ := List.mem_map.1 hx; exact one_nonneg _)
theorem cX_pos (P : List Lab) (x : PlacedD) (T : List TermD) (d : Lab) : 0 < cX P x T d ↔ ∃ t ∈ T, hO P x t d = true := by
  unfold cX
  rw [sum_pos _ (fun x hx => by obtain ⟨y, _, rfl⟩ := List.mem_map.1 hx; exact one_nonneg _)]
  constructor
  · rintro ⟨x, hx, hp⟩
    obtain ⟨y, hy, rfl⟩ := List.mem_map.1 hx
    exact ⟨y, hy, one_pos.1 hp⟩
  · rintro ⟨y, hy, hp⟩
    exact ⟨_, List.mem_map.2 ⟨y, hy, rfl⟩, one_pos.2 hp⟩
theorem cO_nonneg (P : List Lab) (A : List PlacedD) (d : Lab) : 0 ≤ cO P A d := sum_nonneg _ (fun x hx => by obtain ⟨y, _, rfl⟩ := List.mem_map.1 hx; exact cX_nonneg _ _ _ _)
theorem cO_pos (P : List Lab) (A : List PlacedD) (d : Lab) : 0 < cO P A d ↔ ∃ x ∈ A, ∃ t ∈ pApart x.1, hO P x t d = true := by
  unfold cO
  rw [sum_pos _ (fun x hx => by obtain ⟨y, _, rfl⟩ := List.mem_map.1 hx; exact cX_nonneg _ _ _ _)]
  constructor
  · rintro ⟨x, hx, hp⟩
    obtain ⟨y, hy, rfl⟩ := List.mem_map.1 hx
    exact ⟨y, hy, (cX_pos _ _ _ _).1 hp⟩
  · rintro ⟨y, hy, hp⟩
    exact ⟨_, List.mem_map.2 ⟨y, hy, rfl⟩, (cX_pos _ _ _ _).2 hp⟩
theorem atD_iff {L : List Lab} {key : ByteArray} {d : Lab} : atD L key d = true ↔ (getL L key).2 = true ∧ d = domL L key := by
  unfold atD
  rw [Bool.and_eq_true, Bool.and_eq_true, sEq_iff, sEq_iff]
  constructor
  · rintro ⟨h1, h2, h3⟩; exact ⟨h1, Prod.ext h2 h3⟩
  · rintro ⟨h1, rfl⟩; exact ⟨h1, rfl, rfl⟩
theorem sameL_iff {A B : List Lab} {key : ByteArray} : sameL A B key = true ↔ (getL A key).2 = true ∧ (getL B key).2 = true ∧ domL B key = domL A key := by
  unfold sameL
  rw [Bool.and_eq_true, Bool.and_eq_true, sEq_iff]
  constructor
  · rintro ⟨⟨h1, h2⟩, h3⟩; exact ⟨h1, h2, Prod.ext rfl h3.symm⟩
  · rintro ⟨h1, h2, h3⟩; exact ⟨⟨h1, h2⟩, (congrArg Prod.snd h3).symm⟩
theorem there_pos {t : TermD} {L : List Lab} {A : List PlacedD} (h : (getL L t.2).2 = true) : 0 < cT t A (domL L t.2) ↔ thereT t L A = true := by
  rw [cT_pos]
  unfold thereT
  rw [List.any_eq_true]
  constructor
  · rintro ⟨x, hx, hh⟩
    unfold hT at hh
    rw [Bool.and_eq_true, atD_iff] at hh
    exact ⟨x, hx, by rw [Bool.and_eq_true, sameL_iff]; exact ⟨hh.1, hh.2.1, h, hh.2.2⟩⟩
  · rintro ⟨x, hx, hh⟩
    rw [Bool.and_eq_true, sameL_iff] at hh
    exact ⟨x, hx, by unfold hT; rw [Bool.and_eq_true, atD_iff]; exact ⟨hh.1, hh.2.1, hh.2.2.2⟩⟩
theorem eT_any (t : TermD) (A : List PlacedD) : eT t A = !anyT t A := by
  unfold eT anyT
  congr 2
  funext x
  rw [Bool.and_comm]
theorem lack_is (P L : List Lab) (A : List PlacedD) (t : TermD) : lackT P L A t = rLackT P L A t := by
  unfold lackT rLackT
  cases h : (getL L t.2).2
  · rfl
  · have h1 := there_pos (A := A) h
    have h2 := cT_nonneg t A (domL L t.2)
    have h3 : decide (cT t A (domL L t.2) = 0) = !thereT t L A := by
      cases e : thereT t L A
      · rw [e] at h1; simp at h1; simp; omega
      · have := h1.2 e; simp; omega
    rw [h3, eT_any]
    cases thereT t L A <;> cases anyT t A <;> cases matchL P t.1 <;> rfl
theorem apar_is (L : List Lab) (A : List PlacedD) (t : TermD) : aparT L A t = thereT t L A := by
  unfold aparT
  cases h : (getL L t.2).2
  · have : thereT t L A = false := by
      unfold thereT
      rw [List.any_eq_false]
      intro x hx
      rw [Bool.and_eq_true, sameL_iff]
      rintro ⟨_, _, h2, _⟩
      rw [h] at h2; cases h2
    rw [this]; rfl
  · have h1 := there_pos (A := A) h
    cases e : thereT t L A
    · rw [e] at h1; simp at h1; simp; omega
    · have := h1.2 e; simp; omega
theorem getL_mem {L : List Lab} {key : ByteArray} (h : (getL L key).2 = true) : domL L key ∈ L := by
  unfold domL getL at *
  cases e : L.find? (fun x => sEq x.1 key) with
  | none => rw [e] at h; cases h
  | some x =>
    have h1 := List.find?_some e
    have h2 := List.mem_of_find?_eq_some e
    rw [sEq_iff] at h1
    subst h1
    exact h2
theorem oth_is (P L : List Lab) (A : List PlacedD) : L.any (othL P L A) = A.any (rOthX P L) := by
  rw [Bool.eq_iff_iff, List.any_eq_true, List.any_eq_true]
  constructor
  · rintro ⟨l, hl, hh⟩
    unfold othL at hh
    simp only [Bool.and_eq_true, decide_eq_true_eq] at hh
    obtain ⟨_, h2, h3⟩ := hh
    obtain ⟨x, hx, t, ht, hp⟩ := (cO_pos _ _ _).1 h3
    unfold hO at hp
    rw [Bool.and_eq_true, atD_iff] at hp
    have e : l.1 = t.2 := congrArg Prod.fst hp.2.2
    rw [e] at h2 hp
    refine ⟨x, hx, ?_⟩
    unfold rOthX
    rw [List.any_eq_true]
    exact ⟨t, ht, by rw [Bool.and_eq_true, sameL_iff]; exact ⟨hp.1, hp.2.1, h2, hp.2.2⟩⟩
  · rintro ⟨x, hx, hh⟩
    unfold rOthX at hh
    rw [List.any_eq_true] at hh
    obtain ⟨t, ht, hp⟩ := hh
    rw [Bool.and_eq_true, sameL_iff] at hp
    refine ⟨domL L t.2, getL_mem hp.2.2.1, ?_⟩
    have h1 : 0 < cO P A (domL L t.2) := (cO_pos _ _ _).2 ⟨x, hx, t, ht, by unfold hO; rw [Bool.and_eq_true, atD_iff]; exact ⟨hp.1, hp.2.1, hp.2.2.2⟩⟩
    unfold othL
    simp only [Bool.and_eq_true, decide_eq_true_eq]
    exact ⟨h1, hp.2.2.1, h1⟩
theorem near_ref (p : PodD) (L : List Lab) (l : List PlacedD) : nearP p L l = refN p L l := by
  unfold nearP refN whyN whyR8
  have h1 : lackT (pLabs p) L (othersN p.1 l) = rLackT (pLabs p) L (othersN p.1 l) := funext (lack_is _ _ _)
  have h2 : aparT L (othersN p.1 l) = fun t => thereT t L (othersN p.1 l) := funext (apar_is _ _)
  rw [h1, h2, oth_is]
theorem any_perm {α : Type} {l m : List α} (h : l.Perm m) (f : α → Bool) : l.any f = m.any f := by
  rw [Bool.eq_iff_iff, List.any_eq_true, List.any_eq_true]
  exact ⟨fun ⟨x, hx, e⟩ => ⟨x, h.mem_iff.1 hx, e⟩, fun ⟨x, hx, e⟩ => ⟨x, h.mem_iff.2 hx, e⟩⟩
/-- The order of what is placed does not count. -/
theorem near_perm (p : PodD) (L : List Lab) {l m : List PlacedD} (h : l.Perm m) : nearP p L l = nearP p L m := by
  rw [near_ref, near_ref]
  unfold refN whyR8 othersN
  have hp : (l.filter (fun x => !sEq x.1.1 p.1)).Perm (m.filter (fun x => !sEq x.1.1 p.1)) := h.filter _
  have e1 : (fun t => thereT t L (l.filter (fun x => !sEq x.1.1 p.1))) = fun t => thereT t L (m.filter (fun x => !sEq x.1.1 p.1)) := funext fun t => any_perm hp _
  have e2 : rLackT (pLabs p) L (l.filter (fun x => !sEq x.1.1 p.1)) = rLackT (pLabs p) L (m.filter (fun x => !sEq x.1.1 p.1)) := funext fun t => by
    unfold rLackT
    rw [show thereT t L (l.filter (fun x => !sEq x.1.1 p.1)) = thereT t L (m.filter (fun x => !sEq x.1.1 p.1)) from any_perm hp _, show anyT t (l.filter (fun x => !sEq x.1.1 p.1)) = anyT t (m.filter (fun x => !sEq x.1.1 p.1)) from any_perm hp _]
  rw [e1, e2, any_perm hp]
/-- Nobody is counted anywhere, just if every count is nought. -/
theorem eT_iff {t : TermD} {A : List PlacedD} (ht : t.2.size ≤ 140737488355328) (hA : ∀ x ∈ A, ∀ l ∈ x.2, okL l) : eT t A = true ↔ ∀ d, okL d → cT t A d = 0 := by
  unfold eT
  rw [Bool.not_eq_true', List.any_eq_false]
  constructor
  · intro h d _
    have h1 := cT_nonneg t A d
    rcases Int.lt_or_le 0 (cT t A d) with h2 | h2
    · obtain ⟨x, hx, hh⟩ := (cT_pos _ _ _).1 h2
      unfold hT at hh
      rw [Bool.and_eq_true, atD_iff] at hh
      exact absurd (by rw [Bool.and_eq_true]; exact ⟨hh.1, hh.2.1⟩) (h x hx)
    · omega
  · intro h x hx hh
    rw [Bool.and_eq_true] at hh
    have h2 : 0 < cT t A (domL x.2 t.2) := (cT_pos _ _ _).2 ⟨x, hx, by unfold hT; rw [Bool.and_eq_true, atD_iff]; exact ⟨hh.1, hh.2, rfl⟩⟩
    have h3 := h (domL x.2 t.2) ⟨ht, (hA x hx _ (getL_mem hh.2)).2⟩
    omega
end Go.Proofs.YtfnafgmengefaaaGreatDoor
namespace Go.Proofs.YtfnafgmengefaaaGreatDoor
open Go.RowKit Go.Maps
set_option linter.unusedSimpArgs false
set_option maxRecDepth 100000

theorem laidOut8 : laidOutB Tryz.prog = true := by kernel_rfl
theorem rowLab : (55 : TypeId) < Tryz.prog.types.size := of_decide_eq_true (by kernel_rfl)
theorem wideLab : (match Tryz.prog.underlying 55 with | some (.array _ _) | some (.struct _) => true | _ => false) = true := by kernel_rfl
theorem lawL : Keyed Tryz.prog 55 := Keyed.of_law (deep_law_laid laidOut8 (m := 2) (by omega) rowLab (by kernel_rfl) wideLab)
theorem keyTypeLab : Tryz.prog.keyType 55 = true := by kernel_rfl
theorem cellsLab : Tryz.prog.cellsOf 55 = 2 := by kernel_rfl
theorem cellsStr : Tryz.prog.cellsOf 9 = 1 := by kernel_rfl
/-- What a label reads as, as a key. -/
def kL (d : Lab) : Lit := .string (keyBytes [.string d.1.data.toList, .string d.2.data.toList])
theorem keyOf_two {P : Program} {k s : TypeId} {fs : Array Field} {f0 f1 : Field} (hk : P.underlying k = some (.struct fs)) (hfs : fs = #[f0, f1]) (hs : P.underlying s = some .string) (hkt : P.keyType k = true) (hc : P.cellsOf k = 2) (hcs : P.cellsOf s = 1)
    (hn : fs.all (fun f => f.name != "_") = true) (ht0 : f0.type = s) (ht1 : f1.type = s) (ho0 : f0.offset = 0) (ho1 : f1.offset = 1) (hrow : k < P.types.size) {d : Lab} (h1 : d.1.size ≤ maxLen) (h2 : d.2.size ≤ maxLen) :
    keyOf P k (.agg #[.string d.1, .string d.2]) = some (kL d) := by
  obtain ⟨m, hm⟩ : ∃ m, P.types.size + 1 = m + 2 := ⟨P.types.size - 1, by have h0 : 0 < P.types.size := Nat.lt_of_le_of_lt (Nat.zero_le k) hrow; omega⟩
  have hf : (Value.agg #[.string d.1, .string d.2]).formed P k = true := by simp [Value.formed, hk, hc]
  have hl : P.keyLits (m + 2) k [.string d.1, .string d.2] = some [.string d.1.data.toList, .string d.2.data.toList] := by
    unfold Program.keyLits
    rw [hk]
    simp only [hc, hn, List.length_cons, List.length_nil, and_self, if_true]
    subst hfs
    simp [ht0, ht1, ho0, ho1, hcs, Program.keyLits, hs, h1, h2]
  unfold keyOf
  rw [hk]
  simp only [hkt, hf, Bool.and_self, if_true, hm]
  have hcl : (Value.agg #[.string d.1, .string d.2]).cells.toList = [.string d.1, .string d.2] := rfl
  rw [hcl, hl]
  rfl
theorem maxLen_is : (140737488355328 : Nat) ≤ maxLen := by decide
theorem kL_key {d : Lab} (h : okL d) : keyOf Tryz.prog 55 (.agg #[.string d.1, .string d.2]) = some (kL d) :=
  keyOf_two Tryz.underlying55 rfl Tryz.underlying9 keyTypeLab cellsLab cellsStr (by kernel_rfl) rfl rfl rfl rfl rowLab (Nat.le_trans h.1 maxLen_is) (Nat.le_trans h.2 maxLen_is)
theorem kL_is (d : Lab) : WideAt.IsKeyLit (kL d) := by unfold kL; trivial
theorem kL_inj {d e : Lab} (hd : okL d) (he : okL e) (h : kL d = kL e) : d = e := by
  have h1 := lawL.inj (kL_key hd) (h ▸ kL_key he)
  simp only [Value.agg.injEq, Array.mk.injEq, List.cons.injEq, Value.string.injEq, and_true] at h1
  exact Prod.ext h1.1 h1.2
theorem zeroI8 (w : World) : (zeroValue 3).run Tryz.prog w = .ok (.int .i64 0) w := by kernel_rfl
/-- D tells f of each label, and nothing that is nought. -/
def TellsF (D : DataW Unit) (f : Lab → Int) : Prop :=
  (∀ d, okL d → Maps.has D (kL d) = decide (f d ≠ 0) ∧ D.atKey (kL d) (.lit (.int .i64 0)) = .lit (.int .i64 (f d))) ∧ ∀ k, Maps.has D k = true → ∃ d, okL d ∧ kL d = k
/-- Block mb is a map that tells f of each label; at most n entries, none nought. -/
def CntAt (w : World) (mb n : Nat) (f : Lab → Int) : Prop :=
  ∃ D : DataW Unit, w.ownsMap Tryz.prog 55 (plainElem Tryz.prog 3) mb n D ∧ TellsF D f ∧ ∀ d, -(n : Int) ≤ f d ∧ f d ≤ n
theorem CntAt.lt {w : World} {mb n : Nat} {f : Lab → Int} (h : CntAt w mb n f) : mb < w.heap.size := by
  obtain ⟨D, h1, _⟩ := h
  exact h1.lt
theorem CntAt.same {w w' : World} {mb n : Nat} {f : Lab → Int} (h : CntAt w mb n f) (hb : w'.heap[mb]? = w.heap[mb]?) : CntAt w' mb n f := by
  obtain ⟨D, ⟨es, ck, h1, h2⟩, h3⟩ := h
  exact ⟨D, ⟨es, ck, hb.trans h1, h2⟩, h3⟩
theorem CntAt.on {w w' : World} {mb n : Nat} {f : Lab → Int} (h : CntAt w mb n f) (hb : Below w.heap.size w w') : CntAt w' mb n f := h.same (hb.block mb h.lt)
theorem CntAt.turned {w w' : World} {mb n : Nat} {f : Lab → Int} {F : Where} (h : CntAt w mb n f) (ht : Turns F w w') (hF : ¬ F mb) : CntAt w' mb n f := h.same (ht.block mb h.lt hF)
theorem CntAt.made (w : World) : CntAt (w.alloc (.map #[] 0)) w.heap.size 0 (fun _ => 0) :=
  ⟨.map [], World.ownsMap_made _ _ _ _, ⟨fun _ _ => ⟨rfl, rfl⟩, fun _ h => (by cases h)⟩, fun _ => (by simp)⟩
theorem CntAt.mono {w : World} {mb n n' : Nat} {f : Lab → Int} (h : CntAt w mb n f) (hn : n ≤ n') : CntAt w mb n' f := by
  obtain ⟨D, h1, h2, h4⟩ := h
  exact ⟨D, h1.mono hn, h2, fun d => by have := h4 d; omega⟩
theorem CntAt.as {w : World} {mb n : Nat} {f g : Lab → Int} (h : CntAt w mb n f) (e : ∀ d, f d = g d) : CntAt w mb n g := by
  obtain rfl : f = g := funext e
  exact h
theorem CntAt.le {w : World} {mb n : Nat} {f : Lab → Int} (h : CntAt w mb n f) (d : Lab) : -(n : Int) ≤ f d ∧ f d ≤ n := by
  obtain ⟨D, _, _, h4⟩ := h
  exact h4 d
/-- 'm[d]'. -/
theorem CntAt.look {w : World} {mb n : Nat} {f : Lab → Int} (h : CntAt w mb n f) (t : TypeId) (ht : Tryz.prog.underlying t = some (.map 55 3)) {d : Lab} (hd : okL d) :
    (Instr.lookup t (.map (some mb)) (.agg #[.string d.1, .string d.2]) false).run Tryz.prog w = .ok (.int .i64 (f d)) w := by
  obtain ⟨D, h1, ⟨h2, _⟩, _⟩ := h
  obtain ⟨c, hrun, hat, _⟩ := h1.lookup_int lawL ht Tryz.underlying3 (zeroI8 w) (kL_key hd)
  rw [(h2 d hd).2] at hat
  obtain rfl : f d = c := by simpa using hat
  exact hrun
/-- 'len(m)': nought, just if nobody is counted. -/
theorem CntAt.len {w : World} {mb n : Nat} {f : Lab → Int} (h : CntAt w mb n f) (t : TypeId) (ht : Tryz.prog.underlying t = some (.map 55 3)) :
    ∃ c : Int, (∀ ty, (Builtin.len_ #[t] ty #[.map (some mb)]).run Tryz.prog w = .ok (.int .i64 c) w) ∧ (c = 0 ↔ ∀ d, okL d → f d = 0) := by
  obtain ⟨D, h1, ⟨h2, h3⟩, _⟩ := h
  refine ⟨Maps.size D, fun ty => h1.len ht ty, ?_⟩
  constructor
  · intro hc d hd
    have h4 := (h2 d hd).1
    obtain ⟨es, rfl⟩ := h1.isMap
    have : es = [] := by
      rw [size_eq] at hc
      exact List.length_eq_zero_iff.1 (by omega)
    subst this
    have h5 : Maps.has (DataW.map [] : DataW Unit) (kL d) = false := rfl
    rw [h5] at h4
    by_cases e : f d = 0
    · exact e
    · simp [e] at h4
  · intro hf
    obtain ⟨es, rfl⟩ := h1.isMap
    rw [size_eq]
    cases es with
    | nil => rfl
    | cons p es =>
      exfalso
      obtain ⟨es0, ck, _, F, _, he⟩ := h1
      have hk : ∃ v, keyOf Tryz.prog 55 v = some p.1 := by
        have hkeys := fit_keys F
        have hm : p ∈ (es0.toList.map (WideElems.rg Tryz.prog 55 (plainElem Tryz.prog 3))).foldr DataW.insert [] := by
          have : DataW.map (p :: es) = DataW.map ((es0.toList.map (WideElems.rg Tryz.prog 55 (plainElem Tryz.prog 3))).foldr DataW.insert []) := he
          injection this with this
          rw [← this]; simp
        exact hkeys p (mem_sorted.1 hm)
      obtain ⟨v, hv⟩ := hk
      have hh : Maps.has (DataW.map (p :: es) : DataW Unit) p.1 = true := by
        rw [has_eq, List.any_cons]
        have : p.1.sameKey p.1 = true := WideAt.sameKey_self (lawL.key hv)
        rw [this]; rfl
      obtain ⟨d, hd, hdk⟩ := h3 _ hh
      have h6 := (h2 d hd).1
      rw [hdk, hh, hf d hd] at h6
      simp at h6
end Go.Proofs.YtfnafgmengefaaaGreatDoor
namespace Go.Proofs.YtfnafgmengefaaaGreatDoor
open Go.RowKit
set_option linter.unusedSimpArgs false

/-- What is told so hangs on no memory. -/
def Flat {α : Type} (R : Rep α) : Prop := ∀ (A A' : Where) (w w' : World) (cs : List Value) (x : α), R A w cs x → R A' w' cs x
theorem RStr.flat : Flat RStr := fun _ _ _ _ _ _ h => h
theorem RInt.flat : Flat RInt := fun _ _ _ _ _ _ h => h
theorem RBool.flat : Flat RBool := fun _ _ _ _ _ _ h => h
theorem Flat.pair {α β : Type} {R : Rep α} {S : Rep β} (hR : Flat R) (hS : Flat S) : Flat (RPair R S) := by
  rintro A A' w w' cs x ⟨c, d, e, h1, h2⟩
  exact ⟨c, d, e, hR _ _ _ _ _ _ h1, hS _ _ _ _ _ _ h2⟩
theorem Chunks.flat {α : Type} [Inhabited α] {R : Rep α} {k : Nat} (hF : Flat R) {A A' : Where} {u u' : World} {xs : List Value} {L : List α} (h : Chunks R k A u xs L) : Chunks R k A' u' xs L :=
  ⟨h.1, fun i hi => by obtain ⟨cs, h1, h2⟩ := h.2 i hi; exact ⟨cs, hF _ _ _ _ _ _ h1, h2⟩⟩
theorem RLabel.flat : Flat RLabel := Flat.pair RStr.flat RStr.flat
theorem RRes.flat : Flat RRes := Flat.pair RInt.flat (Flat.pair RInt.flat RInt.flat)
theorem RTaint.flat : Flat RTaint := Flat.pair RStr.flat (Flat.pair RStr.flat RInt.flat)
theorem RBear.flat : Flat RBear := Flat.pair RStr.flat (Flat.pair RStr.flat (Flat.pair RBool.flat RInt.flat))
theorem RClaim.flat : Flat RClaim := Flat.pair RStr.flat (Flat.pair RInt.flat (Flat.pair RStr.flat RStr.flat))
theorem RClass.flat : Flat RClass := Flat.pair RStr.flat RBool.flat
theorem sl_none {α : Type} [Inhabited α] {R : Rep α} {k bytes : Nat} {A : Where} {w : World} {n cap : Nat} {L : List α} (h : SlAt R k bytes A w none n cap L) : n = 0 ∧ cap = 0 ∧ L = [] := by
  have h0 : cap = 0 := h.2.2.1 rfl
  have h1 := h.2.1
  exact ⟨by omega, h0, List.length_eq_zero_iff.1 (by rw [h.1]; omega)⟩
theorem SlAt.len {α : Type} [Inhabited α] {R : Rep α} {k bytes : Nat} {A : Where} {w : World} {a : Option Addr} {n cap : Nat} {L : List α} (h : SlAt R k bytes A w a n cap L) (hb : 1 ≤ bytes) : n ≤ 140737488351232 := by
  have := h.2.2.2.1
  have h2 : n * 1 ≤ n * bytes := Nat.mul_le_mul_left _ hb
  omega
theorem infostr : (Tryz.prog.info? 9).map (fun i => (i.zero, i.size, i.bytes)) = some (some (.string ⟨#[]⟩), 1, 16) := by kernel_rfl
theorem infoint : (Tryz.prog.info? 3).map (fun i => (i.zero, i.size, i.bytes)) = some (some (.int .i64 0), 1, 8) := by kernel_rfl
theorem infoLabel : (Tryz.prog.info? 55).map (fun i => (i.zero, i.size, i.bytes)) = some (some (.agg #[.string ⟨#[]⟩, .string ⟨#[]⟩]), 2, 32) := by kernel_rfl

set_option maxHeartbeats 1000000 in
theorem Texts_copy (a : Option Addr) (n cap : Nat) (A : Where) (L : List (ByteArray)) (w : World) (hL : Hid (SlAt RStr 1 16 A w a n cap L)) : Calls Tryz.prog 27 #[.slice a n cap] w fun e w' => ∃ a' cap', e = .returned (.slice a' n cap') ∧ SlAt RStr 1 16 (Fresh w) w' a' n cap' L ∧ Below w.heap.size w w' := by
  have hb0 : Below w.heap.size w (w.alloc (.cells #[] 9)) := by go_grown
  match a with
  | none =>
    obtain ⟨rfl, rfl, rfl⟩ := sl_none hL.out
    go_enter Tryz.func27, Tryz.ntmps27
    go_wp2_with fail
    go_ret
    exact ⟨_, _, rfl, SlAt.nil _ _ _ _ (fun h => by cases h), hb0⟩
  | some ad =>
    obtain ⟨xs, hc, hcell, hone⟩ := (hL.out.on RStr.firm hb0).chunks RStr.firm
    have hn := hL.out.1
    have hbb := hL.out.2.2.2.1
    subst hn
    have HR : Hid (Row RStr 1 (Fresh w) w (w.alloc (.cells #[] 9)) 9 (.slice (some ⟨w.heap.size, 0, none⟩) 0 0) []) := Row.start _ w w _ (Below.refl _ _)
    have HC : Hid (Chunks RStr 1 (fun b => Fresh w b ∧ Value.ownBlock (.slice (some ⟨w.heap.size, 0, none⟩) 0 0) ≠ some b) (w.alloc (.cells #[] 9)) xs L) := hc.flat RStr.flat
    have HX : Hid (∀ j y, xs[j]? = some y → (w.alloc (.cells #[] 9)).cell? (ad.add j) = some y) := hcell
    have HO : Hid (∀ y ∈ xs, y.oneCell' = true) := hone
    clear hc hcell hone hL
    go_enter Tryz.func27, Tryz.ntmps27
    go_wp2_with (at_builtin; go_must (refine row_append RStr.firm (A := Fresh w) (w0 := w) rfl _ _ 31 9 rfl _ 16 infostr Tryz.underlying31 rfl (by decide) (by decide) _ [] rfl HR.out ad L.length cap xs L rfl rfl HC.out HX.out HO.out (by simp; omega) ?_); intro v1 w1 hrow1 hg1)
    go_ret
    obtain ⟨a', cap', rfl, h2⟩ := hrow1.slF (bytes := 16) RStr.firm (by simpa using hbb)
    simp only [List.nil_append] at h2 ⊢
    exact ⟨a', cap', rfl, h2, hrow1.below⟩

set_option maxHeartbeats 1000000 in
theorem Ints_copy (a : Option Addr) (n cap : Nat) (A : Where) (L : List (Int)) (w : World) (hL : Hid (SlAt RInt 1 8 A w a n cap L)) : Calls Tryz.prog 25 #[.slice a n cap] w fun e w' => ∃ a' cap', e = .returned (.slice a' n cap') ∧ SlAt RInt 1 8 (Fresh w) w' a' n cap' L ∧ Below w.heap.size w w' := by
  have hb0 : Below w.heap.size w (w.alloc (.cells #[] 3)) := by go_grown
  match a with
  | none =>
    obtain ⟨rfl, rfl, rfl⟩ := sl_none hL.out
    go_enter Tryz.func25, Tryz.ntmps25
    go_wp2_with fail
    go_ret
    exact ⟨_, _, rfl, SlAt.nil _ _ _ _ (fun h => by cases h), hb0⟩
  | some ad =>
    obtain ⟨xs, hc, hcell, hone⟩ := (hL.out.on RInt.firm hb0).chunks RInt.firm
    have hn := hL.out.1
    have hbb := hL.out.2.2.2.1
    subst hn
    have HR : Hid (Row RInt 1 (Fresh w) w (w.alloc (.cells #[] 3)) 3 (.slice (some ⟨w.heap.size, 0, none⟩) 0 0) []) := Row.start _ w w _ (Below.refl _ _)
    have HC : Hid (Chunks RInt 1 (fun b => Fresh w b ∧ Value.ownBlock (.slice (some ⟨w.heap.size, 0, none⟩) 0 0) ≠ some b) (w.alloc (.cells #[] 3)) xs L) := hc.flat RInt.flat
    have HX : Hid (∀ j y, xs[j]? = some y → (w.alloc (.cells #[] 3)).cell? (ad.add j) = some y) := hcell
    have HO : Hid (∀ y ∈ xs, y.oneCell' = true) := hone
    clear hc hcell hone hL
    go_enter Tryz.func25, Tryz.ntmps25
    go_wp2_with (at_builtin; go_must (refine row_append RInt.firm (A := Fresh w) (w0 := w) rfl _ _ 28 3 rfl _ 8 infoint Tryz.underlying28 rfl (by decide) (by decide) _ [] rfl HR.out ad L.length cap xs L rfl rfl HC.out HX.out HO.out (by simp; omega) ?_); intro v1 w1 hrow1 hg1)
    go_ret
    obtain ⟨a', cap', rfl, h2⟩ := hrow1.slF (bytes := 8) RInt.firm (by simpa using hbb)
    simp only [List.nil_append] at h2 ⊢
    exact ⟨a', cap', rfl, h2, hrow1.below⟩

set_option maxHeartbeats 1000000 in
theorem Labels_copy (a : Option Addr) (n cap : Nat) (A : Where) (L : List (Lab)) (w : World) (hL : Hid (SlAt RLabel 2 32 A w a n cap L)) : Calls Tryz.prog 8 #[.slice a n cap] w fun e w' => ∃ a' cap', e = .returned (.slice a' n cap') ∧ SlAt RLabel 2 32 (Fresh w) w' a' n cap' L ∧ Below w.heap.size w w' := by
  have hb0 : Below w.heap.size w (w.alloc (.cells #[] 55)) := by go_grown
  match a with
  | none =>
    obtain ⟨rfl, rfl, rfl⟩ := sl_none hL.out
    go_enter Tryz.func8, Tryz.ntmps8
    go_wp2_with fail
    go_ret
    exact ⟨_, _, rfl, SlAt.nil _ _ _ _ (fun h => by cases h), hb0⟩
  | some ad =>
    obtain ⟨xs, hc, hcell, hone⟩ := (hL.out.on RLabel.firm hb0).chunks RLabel.firm
    have hn := hL.out.1
    have hbb := hL.out.2.2.2.1
    subst hn
    have HR : Hid (Row RLabel 2 (Fresh w) w (w.alloc (.cells #[] 55)) 55 (.slice (some ⟨w.heap.size, 0, none⟩) 0 0) []) := Row.start _ w w _ (Below.refl _ _)
    have HC : Hid (Chunks RLabel 2 (fun b => Fresh w b ∧ Value.ownBlock (.slice (some ⟨w.heap.size, 0, none⟩) 0 0) ≠ some b) (w.alloc (.cells #[] 55)) xs L) := hc.flat RLabel.flat
    have HX : Hid (∀ j y, xs[j]? = some y → (w.alloc (.cells #[] 55)).cell? (ad.add j) = some y) := hcell
    have HO : Hid (∀ y ∈ xs, y.oneCell' = true) := hone
    clear hc hcell hone hL
    go_enter Tryz.func8, Tryz.ntmps8
    go_wp2_with (at_builtin; go_must (refine row_append RLabel.firm (A := Fresh w) (w0 := w) rfl _ _ 22 55 rfl _ 32 infoLabel Tryz.underlying22 rfl (by decide) (by decide) _ [] rfl HR.out ad L.length cap xs L rfl rfl HC.out HX.out HO.out (by simp; omega) ?_); intro v1 w1 hrow1 hg1)
    go_ret
    obtain ⟨a', cap', rfl, h2⟩ := hrow1.slF (bytes := 32) RLabel.firm (by simpa using hbb)
    simp only [List.nil_append] at h2 ⊢
    exact ⟨a', cap', rfl, h2, hrow1.below⟩
end Go.Proofs.YtfnafgmengefaaaGreatDoor
namespace Go.Proofs.YtfnafgmengefaaaGreatDoor
open Go.RowKit

theorem row_of_sl {α : Type} [Inhabited α] {R : Rep α} {enc : α → List Value} {k bytes : Nat} {ok : α → Prop} (hR : ∀ {A w cs x}, R A w cs x → cs = enc x ∧ ok x) (hb : 1 ≤ bytes) {A : Where} {w : World} {a : Option Addr} {n cap : Nat} {L : List α} (h : SlAt R k bytes A w a n cap L) : RowAt enc k ok w a L := by
  have hl := h.len hb
  obtain ⟨hn, h2, h3, h4, h5⟩ := h
  have each : ∀ i, i < n → ok (L.getD i default) := fun i hi => by
    obtain ⟨B, off, _, _, _, hc⟩ := h5 (by omega)
    obtain ⟨cs, hr, _⟩ := hc i hi
    exact (hR hr).2
  refine ⟨by omega, fun x hx => ?_, fun hne => ?_⟩
  · obtain ⟨i, hi, rfl⟩ := List.mem_iff_getElem.1 hx
    have := each i (by omega)
    rwa [getE _ _ hi] at this
  · have hpos : 0 < n := by
      rcases Nat.eq_zero_or_pos n with h0 | h0
      · exact absurd (List.length_eq_zero_iff.1 (by omega)) hne
      · exact h0
    obtain ⟨B, off, e, hB, _, hc⟩ := h5 hpos
    refine ⟨B, off, e, hB, fun i hi j v hj => ?_⟩
    obtain ⟨cs, hr, hv⟩ := hc i (by omega)
    rw [← (hR hr).1] at hj
    exact hv j v hj
theorem tnts_of {A : Where} {w : World} {a : Option Addr} {n cap : Nat} {L : List Tnt} (h : SlAt RTaint 3 40 A w a n cap L) : TntsAt w a L :=
  row_of_sl (fun hr => by obtain ⟨rfl, h1, h2⟩ := RTaint.out hr; exact ⟨rfl, h1, h2⟩) (by decide) h
theorem bears_of {A : Where} {w : World} {a : Option Addr} {n cap : Nat} {L : List Bear} (h : SlAt RBear 4 48 A w a n cap L) : BearsAt w a L :=
  row_of_sl (fun hr => by obtain ⟨rfl, h1, h2⟩ := RBear.out hr; exact ⟨rfl, h1, h2⟩) (by decide) h
end Go.Proofs.YtfnafgmengefaaaGreatDoor
