/- What is placed, counted by domains; why a pod may not come somewhere: by counts, and by the document's words. Plain mathematics. No condition. Layer 9 in plain words: the domains of a key, how many there are in each, the least and the greatest count; and what follows (9.3 to 9.5). Plain mathematics. No condition. What the law VolumeMeets looks for: a claim and its volume stand at one place; a list whose sorted list is as long holds each once. Plain mathematics. No condition. once: has each pod a name of its own? Condition: a state lies as is said of it. The budget's isBound, isAbout. Condition: a pod and a budget lie as is said of them. Which blocks a call may turn. Plain facts on worlds. No condition. -/
import Derived.Test.YtpjgffcpjabghaaQ03
import Derived.Test.YtpjgffcpjabghaaQ10
import Derived.Test.YtpjgffcpjabghaaQ04
import Derived.Test.YtpjgffcpjabghaaQ12
import Derived.Test.YtpjgffcpjabghaaQ11
import Derived.Test.YtpjgffcpjabghaaQ05
import Derived.Test.YtpjgffcpjabghaaQ08
import Derived.Test.YtpjgffcpjabghaaQ01
import Derived.Maps.OwnSet
namespace Go.Proofs.Ytpjgffcpjabghaa
open Go.RowKit
set_option linter.unusedSimpArgs false

/-- A pod that is placed, and its node's labels. -/
abbrev PlacedD := PodD × List Lab
def RPlaced : Rep PlacedD := RPair RPod (RSl RLabel 2 32)
theorem RPlaced.firm : Firm RPlaced 17 := Firm.pair RPod.firm (RSl.firm RLabel.firm)
abbrev pNear (p : PodD) : List TermD := p.2.2.2.2.2.2.2.2.1
abbrev pApart (p : PodD) : List TermD := p.2.2.2.2.2.2.2.2.2.1
abbrev pLabs (p : PodD) : List Lab := p.2.2.1

def okL (d : Lab) : Prop := d.1.size ≤ 140737488355328 ∧ d.2.size ≤ 140737488355328
/-- The domain of a key that labels have. -/
abbrev domL (L : List Lab) (key : ByteArray) : Lab := (key, (getL L key).1)
/-- Does a label stand at the domain of a key? -/
def atD (L : List Lab) (key : ByteArray) (d : Lab) : Bool := (getL L key).2 && (sEq d.1 key && sEq d.2 (getL L key).1)
/-- Is x counted for the term t at d? -/
def hT (t : TermD) (x : PlacedD) (d : Lab) : Bool := matchL (pLabs x.1) t.1 && atD x.2 t.2 d
def one (b : Bool) : Int := if b = true then 1 else 0
def cT (t : TermD) (A : List PlacedD) (d : Lab) : Int := (A.map (fun x => one (hT t x d))).sum
def hO (P : List Lab) (x : PlacedD) (t : TermD) (d : Lab) : Bool := matchL P t.1 && atD x.2 t.2 d
def cX (P : List Lab) (x : PlacedD) (T : List TermD) (d : Lab) : Int := (T.map (fun t => one (hO P x t d))).sum
def cO (P : List Lab) (A : List PlacedD) (d : Lab) : Int := (A.map (fun x => cX P x (pApart x.1) d)).sum
/-- Is nobody counted for t anywhere? -/
def eT (t : TermD) (A : List PlacedD) : Bool := !A.any (fun x => matchL (pLabs x.1) t.1 && (getL x.2 t.2).2)
def lackT (P L : List Lab) (A : List PlacedD) (t : TermD) : Bool := !(getL L t.2).2 || (decide (cT t A (domL L t.2) = 0) && !(eT t A && matchL P t.1))
def aparT (L : List Lab) (A : List PlacedD) (t : TermD) : Bool := (getL L t.2).2 && decide (0 < cT t A (domL L t.2))
def othL (P L : List Lab) (A : List PlacedD) (l : Lab) : Bool := decide (0 < cO P A l) && ((getL L l.1).2 && decide (0 < cO P A (domL L l.1)))
/-- What the program tells of a table of A. -/
def whyN (P : List Lab) (N M : List TermD) (L : List Lab) (A : List PlacedD) : Int :=
  if N.any (lackT P L A) = true then 9 else if M.any (aparT L A) = true then 10 else if L.any (othL P L A) = true then 11 else 0
def othersN (name : ByteArray) (l : List PlacedD) : List PlacedD := l.filter (fun x => !sEq x.1.1 name)
def nearP (p : PodD) (L : List Lab) (l : List PlacedD) : Int := whyN (pLabs p) (pNear p) (pApart p) L (othersN p.1 l)

/-- The document's words. -/
def thereT (t : TermD) (L : List Lab) (A : List PlacedD) : Bool := A.any (fun x => matchL (pLabs x.1) t.1 && sameL x.2 L t.2)
def anyT (t : TermD) (A : List PlacedD) : Bool := A.any (fun x => (getL x.2 t.2).2 && matchL (pLabs x.1) t.1)
def rLackT (P L : List Lab) (A : List PlacedD) (t : TermD) : Bool := !(getL L t.2).2 || (!thereT t L A && (anyT t A || !matchL P t.1))
def rOthX (P L : List Lab) (x : PlacedD) : Bool := (pApart x.1).any (fun t => matchL P t.1 && sameL x.2 L t.2)
def whyR8 (P : List Lab) (N M : List TermD) (L : List Lab) (A : List PlacedD) : Int :=
  if N.any (rLackT P L A) = true then 9 else if M.any (fun t => thereT t L A) = true then 10 else if A.any (rOthX P L) = true then 11 else 0
def refN (p : PodD) (L : List Lab) (l : List PlacedD) : Int := whyR8 (pLabs p) (pNear p) (pApart p) L (othersN p.1 l)

theorem one_nonneg (b : Bool) : 0 ≤ one b := by unfold one; split <;> omega
theorem one_le (b : Bool) : one b ≤ 1 := by unfold one; split <;> omega
theorem sum_nonneg : ∀ (l : List Int), (∀ x ∈ l, 0 ≤ x) → 0 ≤ l.sum
  | [], _ => by simp
  | x :: l, h => by
    have h1 := h x (by simp)
    have h2 := sum_nonneg l (fun y hy => h y (by simp [hy]))
    simp only [List.sum_cons]; omega
theorem sum_pos : ∀ (l : List Int), (∀ x ∈ l, 0 ≤ x) → (0 < l.sum ↔ ∃ x ∈ l, 0 < x)
  | [], _ => by simp
  | x :: l, h => by
    have h1 := h x (by simp)
    have h2 := sum_nonneg l (fun y hy => h y (by simp [hy]))
    have h3 := sum_pos l (fun y hy => h y (by simp [hy]))
    simp only [List.sum_cons, List.mem_cons, exists_eq_or_imp]
    rw [← h3]
    omega
theorem one_pos {b : Bool} : 0 < one b ↔ b = true := by unfold one; split <;> simp_all
theorem cT_nonneg (t : TermD) (A : List PlacedD) (d : Lab) : 0 ≤ cT t A d := sum_nonneg _ (fun x hx => by obtain ⟨y, _, rfl⟩ := List.mem_map.1 hx; exact one_nonneg _)
theorem cT_pos (t : TermD) (A : List PlacedD) (d : Lab) : 0 < cT t A d ↔ ∃ x ∈ A, hT t x d = true := by
  unfold cT
  rw [sum_pos _ (fun x hx => by obtain ⟨y, _, rfl⟩ := List.mem_map.1 hx; exact one_nonneg _)]
  constructor
  · rintro ⟨x, hx, hp⟩
    obtain ⟨y, hy, rfl⟩ := List.mem_map.1 hx
    exact ⟨y, hy, one_pos.1 hp⟩
  · rintro ⟨y, hy, hp⟩
    exact ⟨_, List.mem_map.2 ⟨y, hy, rfl⟩, one_pos.2 hp⟩
theorem cX_nonneg (P : List Lab) (x : PlacedD) (T : List TermD) (d : Lab) : 0 ≤ cX P x T d := sum_nonneg _ (fun x hx => by obtain ⟨y, _, rfl⟩ := List.mem_map.1 hx; exact one_nonneg _)
theorem cX_pos (P : List Lab) (x : PlacedD) (T : List TermD) (d : Lab) : 0 < cX P x T d ↔ ∃ t ∈ T, hO P x t d = true := by
  unfold cX
  rw [sum_pos _ (fun x hx => by obtain ⟨y, _, rfl⟩ := List.mem_map.1 hx; exact one_nonneg _)]
  constructor
  · rintro ⟨x, hx, hp⟩
    obtain ⟨y, hy, rfl⟩ := List.mem_map.1 hx
    exact ⟨y, hy, one_pos.1 hp⟩
  · rintro ⟨y, hy, hp⟩
    exact ⟨_, List.mem_map.2 ⟨y, hy, rfl⟩, one_pos.2 hp⟩
theorem cO_nonneg (P : List Lab) (A : List PlacedD) (d : Lab) : 0 ≤ cO P A d := sum_nonneg _ (fun x hx => by obtain ⟨y, _, rfl⟩ := List.mem_map.1 hx; exact cX_nonneg _ _ _ _)
theorem cO_pos (P : List Lab) (A : List PlacedD) (d : Lab) : 0 < cO P A d ↔ ∃ x ∈ A, ∃ t ∈ pApart x.1, hO P x t d = true := by
  unfold cO
  rw [sum_pos _ (fun x hx => by obtain ⟨y, _, rfl⟩ := List.mem_map.1 hx; exact cX_nonneg _ _ _ _)]
  constructor
  · rintro ⟨x, hx, hp⟩
    obtain ⟨y, hy, rfl⟩ := List.mem_map.1 hx
    exact ⟨y, hy, (cX_pos _ _ _ _).1 hp⟩
  · rintro ⟨y, hy, hp⟩
    exact ⟨_, List.mem_map.2 ⟨y, hy, rfl⟩, (cX_pos _ _ _ _).2 hp⟩
theorem atD_iff {L : List Lab} {key : ByteArray} {d : Lab} : atD L key d = true ↔ (getL L key).2 = true ∧ d = domL L key := by
  unfold atD
  rw [Bool.and_eq_true, Bool.and_eq_true, sEq_iff, sEq_iff]
  constructor
  · rintro ⟨h1, h2, h3⟩; exact ⟨h1, Prod.ext h2 h3⟩
  · rintro ⟨h1, rfl⟩; exact ⟨h1, rfl, rfl⟩
theorem sameL_iff {A B : List Lab} {key : ByteArray} : sameL A B key = true ↔ (getL A key).2 = true ∧ (getL B key).2 = true ∧ domL B key = domL A key := by
  unfold sameL
  rw [Bool.and_eq_true, Bool.and_eq_true, sEq_iff]
  constructor
  · rintro ⟨⟨h1, h2⟩, h3⟩; exact ⟨h1, h2, Prod.ext rfl h3.symm⟩
  · rintro ⟨h1, h2, h3⟩; exact ⟨⟨h1, h2⟩, (congrArg Prod.snd h3).symm⟩
theorem there_pos {t : TermD} {L : List Lab} {A : List PlacedD} (h : (getL L t.2).2 = true) : 0 < cT t A (domL L t.2) ↔ thereT t L A = true := by
  rw [cT_pos]
  unfold thereT
  rw [List.any_eq_true]
  constructor
  · rintro ⟨x, hx, hh⟩
    unfold hT at hh
    rw [Bool.and_eq_true, atD_iff] at hh
    exact ⟨x, hx, by rw [Bool.and_eq_true, sameL_iff]; exact ⟨hh.1, hh.2.1, h, hh.2.2⟩⟩
  · rintro ⟨x, hx, hh⟩
    rw [Bool.and_eq_true, sameL_iff] at hh
    exact ⟨x, hx, by unfold hT; rw [Bool.and_eq_true, atD_iff]; exact ⟨hh.1, hh.2.1, hh.2.2.2⟩⟩
theorem eT_any (t : TermD) (A : List PlacedD) : eT t A = !anyT t A := by
  unfold eT anyT
  congr 2
  funext x
  rw [Bool.and_comm]
theorem lack_is (P L : List Lab) (A : List PlacedD) (t : TermD) : lackT P L A t = rLackT P L A t := by
  unfold lackT rLackT
  cases h : (getL L t.2).2
  · rfl
  · have h1 := there_pos (A := A) h
    have h2 := cT_nonneg t A (domL L t.2)
    have h3 : decide (cT t A (domL L t.2) = 0) = !thereT t L A := by
      cases e : thereT t L A
      · rw [e] at h1; simp at h1; simp; omega
      · have := h1.2 e; simp; omega
    rw [h3, eT_any]
    cases thereT t L A <;> cases anyT t A <;> cases matchL P t.1 <;> rfl
theorem apar_is (L : List Lab) (A : List PlacedD) (t : TermD) : aparT L A t = thereT t L A := by
  unfold aparT
  cases h : (getL L t.2).2
  · have : thereT t L A = false := by
      unfold thereT
      rw [List.any_eq_false]
      intro x hx
      rw [Bool.and_eq_true, sameL_iff]
      rintro ⟨_, _, h2, _⟩
      rw [h] at h2; cases h2
    rw [this]; rfl
  · have h1 := there_pos (A := A) h
    cases e : thereT t L A
    · rw [e] at h1; simp at h1; simp; omega
    · have := h1.2 e; simp; omega
theorem getL_mem {L : List Lab} {key : ByteArray} (h : (getL L key).2 = true) : domL L key ∈ L := by
  unfold domL getL at *
  cases e : L.find? (fun x => sEq x.1 key) with
  | none => rw [e] at h; cases h
  | some x =>
    have h1 := List.find?_some e
    have h2 := List.mem_of_find?_eq_some e
    rw [sEq_iff] at h1
    subst h1
    exact h2
theorem oth_is (P L : List Lab) (A : List PlacedD) : L.any (othL P L A) = A.any (rOthX P L) := by
  rw [Bool.eq_iff_iff, List.any_eq_true, List.any_eq_true]
  constructor
  · rintro ⟨l, hl, hh⟩
    unfold othL at hh
    simp only [Bool.and_eq_true, decide_eq_true_eq] at hh
    obtain ⟨_, h2, h3⟩ := hh
    obtain ⟨x, hx, t, ht, hp⟩ := (cO_pos _ _ _).1 h3
    unfold hO at hp
    rw [Bool.and_eq_true, atD_iff] at hp
    have e : l.1 = t.2 := congrArg Prod.fst hp.2.2
    rw [e] at h2 hp
    refine ⟨x, hx, ?_⟩
    unfold rOthX
    rw [List.any_eq_true]
    exact ⟨t, ht, by rw [Bool.and_eq_true, sameL_iff]; exact ⟨hp.1, hp.2.1, h2, hp.2.2⟩⟩
  · rintro ⟨x, hx, hh⟩
    unfold rOthX at hh
    rw [List.any_eq_true] at hh
    obtain ⟨t, ht, hp⟩ := hh
    rw [Bool.and_eq_true, sameL_iff] at hp
    refine ⟨domL L t.2, getL_mem hp.2.2.1, ?_⟩
    have h1 : 0 < cO P A (domL L t.2) := (cO_pos _ _ _).2 ⟨x, hx, t, ht, by unfold hO; rw [Bool.and_eq_true, atD_iff]; exact ⟨hp.1, hp.2.1, hp.2.2.2⟩⟩
    unfold othL
    simp only [Bool.and_eq_true, decide_eq_true_eq]
    exact ⟨h1, hp.2.2.1, h1⟩
theorem near_ref (p : PodD) (L : List Lab) (l : List PlacedD) : nearP p L l = refN p L l := by
  unfold nearP refN whyN whyR8
  have h1 : lackT (pLabs p) L (othersN p.1 l) = rLackT (pLabs p) L (othersN p.1 l) := funext (lack_is _ _ _)
  have h2 : aparT L (othersN p.1 l) = fun t => thereT t L (othersN p.1 l) := funext (apar_is _ _)
  rw [h1, h2, oth_is]
theorem any_perm {α : Type} {l m : List α} (h : l.Perm m) (f : α → Bool) : l.any f = m.any f := by
  rw [Bool.eq_iff_iff, List.any_eq_true, List.any_eq_true]
  exact ⟨fun ⟨x, hx, e⟩ => ⟨x, h.mem_iff.1 hx, e⟩, fun ⟨x, hx, e⟩ => ⟨x, h.mem_iff.2 hx, e⟩⟩
/-- The order of what is placed does not count. -/
theorem near_perm (p : PodD) (L : List Lab) {l m : List PlacedD} (h : l.Perm m) : nearP p L l = nearP p L m := by
  rw [near_ref, near_ref]
  unfold refN whyR8 othersN
  have hp : (l.filter (fun x => !sEq x.1.1 p.1)).Perm (m.filter (fun x => !sEq x.1.1 p.1)) := h.filter _
  have e1 : (fun t => thereT t L (l.filter (fun x => !sEq x.1.1 p.1))) = fun t => thereT t L (m.filter (fun x => !sEq x.1.1 p.1)) := funext fun t => any_perm hp _
  have e2 : rLackT (pLabs p) L (l.filter (fun x => !sEq x.1.1 p.1)) = rLackT (pLabs p) L (m.filter (fun x => !sEq x.1.1 p.1)) := funext fun t => by
    unfold rLackT
    rw [show thereT t L (l.filter (fun x => !sEq x.1.1 p.1)) = thereT t L (m.filter (fun x => !sEq x.1.1 p.1)) from any_perm hp _, show anyT t (l.filter (fun x => !sEq x.1.1 p.1)) = anyT t (m.filter (fun x => !sEq x.1.1 p.1)) from any_perm hp _]
  rw [e1, e2, any_perm hp]
/-- Nobody is counted anywhere, just if every count is nought. -/
theorem eT_iff {t : TermD} {A : List PlacedD} (ht : t.2.size ≤ 140737488355328) (hA : ∀ x ∈ A, ∀ l ∈ x.2, okL l) : eT t A = true ↔ ∀ d, okL d → cT t A d = 0 := by
  unfold eT
  rw [Bool.not_eq_true', List.any_eq_false]
  constructor
  · intro h d _
    have h1 := cT_nonneg t A d
    rcases Int.lt_or_le 0 (cT t A d) with h2 | h2
    · obtain ⟨x, hx, hh⟩ := (cT_pos _ _ _).1 h2
      unfold hT at hh
      rw [Bool.and_eq_true, atD_iff] at hh
      exact absurd (by rw [Bool.and_eq_true]; exact ⟨hh.1, hh.2.1⟩) (h x hx)
    · omega
  · intro h x hx hh
    rw [Bool.and_eq_true] at hh
    have h2 : 0 < cT t A (domL x.2 t.2) := (cT_pos _ _ _).2 ⟨x, hx, by unfold hT; rw [Bool.and_eq_true, atD_iff]; exact ⟨hh.1, hh.2, rfl⟩⟩
    have h3 := h (domL x.2 t.2) ⟨ht, (hA x hx _ (getL_mem hh.2)).2⟩
    omega
end Go.Proofs.Ytpjgffcpjabghaa
namespace Go.Proofs.Ytpjgffcpjabghaa
set_option linter.unusedSimpArgs false

abbrev nLabs (n : NodeD) : List Lab := n.2.1
abbrev pSpreads (p : PodD) : List SpreadD := p.2.2.2.2.2.2.2.2.2.2.1
abbrev sReqs (s : SpreadD) : List Ask := s.2.2.2
/-- The values that nodes have of a key, as they come. -/
def valsP (key : ByteArray) (nodes : List NodeD) : List ByteArray := (nodes.filter (fun n => (getL (nLabs n) key).2)).map (fun n => (getL (nLabs n) key).1)
/-- The domains of a key, rising. -/
def domsP (key : ByteArray) (nodes : List NodeD) : List ByteArray := sortB sLt sEq (valsP key nodes)
/-- Is x counted in the domain v? -/
def inS (s : SpreadD) (v : ByteArray) (x : PlacedD) : Bool := (getL x.2 s.1).2 && (sEq (getL x.2 s.1).1 v && matchL (pLabs x.1) (sReqs s))
def cntP (s : SpreadD) (v : ByteArray) (l : List PlacedD) : Nat := (l.filter (inS s v)).length
/-- The least, and the greatest, of the counts of a list's members. -/
def loP (c : ByteArray → Nat) : List ByteArray → Nat
  | [] => 0
  | d :: r => r.foldl (fun a e => min a (c e)) (c d)
def hiP (c : ByteArray → Nat) : List ByteArray → Nat
  | [] => 0
  | d :: r => r.foldl (fun a e => max a (c e)) (c d)
def skewP (s : SpreadD) (nodes : List NodeD) (l : List PlacedD) : Int := (hiP (fun v => cntP s v l) (domsP s.1 nodes) : Int) - (loP (fun v => cntP s v l) (domsP s.1 nodes) : Int)
/-- May the pod not come, for this spread? l: the others. -/
def badS (P L : List Lab) (nodes : List NodeD) (l : List PlacedD) (s : SpreadD) : Bool :=
  !(getL L s.1).2 || decide (s.2.1 < ((cntP s (getL L s.1).1 l + (if matchL P (sReqs s) = true then 1 else 0) : Nat) : Int) - (if ((domsP s.1 nodes).length : Int) < s.2.2.1 then 0 else (loP (fun v => cntP s v l) (domsP s.1 nodes) : Int)))
def spreadP (why : Int) (p : PodD) (L : List Lab) (nodes : List NodeD) (all : List PlacedD) : Int := if (pSpreads p).any (badS (pLabs p) L nodes (othersN p.1 all)) = true then why else 0

theorem lo_fold (c : ByteArray → Nat) : ∀ (r : List ByteArray) (a : Nat), r.foldl (fun a e => min a (c e)) a ≤ a ∧ (∀ e ∈ r, r.foldl (fun a e => min a (c e)) a ≤ c e) ∧ (r.foldl (fun a e => min a (c e)) a = a ∨ ∃ e ∈ r, r.foldl (fun a e => min a (c e)) a = c e)
  | [], a => ⟨Nat.le_refl _, (fun _ h => by cases h), .inl rfl⟩
  | e :: r, a => by
    obtain ⟨h1, h2, h3⟩ := lo_fold c r (min a (c e))
    simp only [List.foldl_cons]
    refine ⟨by omega, fun x hx => ?_, ?_⟩
    · rcases List.mem_cons.1 hx with rfl | hx
      · omega
      · exact h2 x hx
    · rcases h3 with h3 | ⟨x, hx, h3⟩
      · by_cases hl : a ≤ c e
        · left; rw [h3]; omega
        · right; exact ⟨e, List.mem_cons_self, by rw [h3]; omega⟩
      · right; exact ⟨x, List.mem_cons_of_mem _ hx, h3⟩
theorem hi_fold (c : ByteArray → Nat) : ∀ (r : List ByteArray) (a : Nat), a ≤ r.foldl (fun a e => max a (c e)) a ∧ (∀ e ∈ r, c e ≤ r.foldl (fun a e => max a (c e)) a) ∧ (r.foldl (fun a e => max a (c e)) a = a ∨ ∃ e ∈ r, r.foldl (fun a e => max a (c e)) a = c e)
  | [], a => ⟨Nat.le_refl _, (fun _ h => by cases h), .inl rfl⟩
  | e :: r, a => by
    obtain ⟨h1, h2, h3⟩ := hi_fold c r (max a (c e))
    simp only [List.foldl_cons]
    refine ⟨by omega, fun x hx => ?_, ?_⟩
    · rcases List.mem_cons.1 hx with rfl | hx
      · omega
      · exact h2 x hx
    · rcases h3 with h3 | ⟨x, hx, h3⟩
      · by_cases hl : c e ≤ a
        · left; rw [h3]; omega
        · right; exact ⟨e, List.mem_cons_self, by rw [h3]; omega⟩
      · right; exact ⟨x, List.mem_cons_of_mem _ hx, h3⟩
theorem lo_spec (c : ByteArray → Nat) {D : List ByteArray} (h : D ≠ []) : (∀ d ∈ D, loP c D ≤ c d) ∧ ∃ d ∈ D, loP c D = c d := by
  cases D with
  | nil => exact absurd rfl h
  | cons d r =>
    obtain ⟨h1, h2, h3⟩ := lo_fold c r (c d)
    refine ⟨fun x hx => ?_, ?_⟩
    · rcases List.mem_cons.1 hx with rfl | hx
      · exact h1
      · exact h2 x hx
    · rcases h3 with h3 | ⟨x, hx, h3⟩
      · exact ⟨d, List.mem_cons_self, h3⟩
      · exact ⟨x, List.mem_cons_of_mem _ hx, h3⟩
theorem hi_spec (c : ByteArray → Nat) {D : List ByteArray} (h : D ≠ []) : (∀ d ∈ D, c d ≤ hiP c D) ∧ ∃ d ∈ D, hiP c D = c d := by
  cases D with
  | nil => exact absurd rfl h
  | cons d r =>
    obtain ⟨h1, h2, h3⟩ := hi_fold c r (c d)
    refine ⟨fun x hx => ?_, ?_⟩
    · rcases List.mem_cons.1 hx with rfl | hx
      · exact h1
      · exact h2 x hx
    · rcases h3 with h3 | ⟨x, hx, h3⟩
      · exact ⟨d, List.mem_cons_self, h3⟩
      · exact ⟨x, List.mem_cons_of_mem _ hx, h3⟩
theorem mem_insB9 (s x : ByteArray) : ∀ L : List ByteArray, x ∈ insB sLt sEq L s ↔ x ∈ L ∨ x = s
  | [] => by simp [insB]
  | y :: L => by
    have ih := mem_insB9 s x L
    unfold insB
    split
    · simp only [List.mem_cons, ih, or_assoc]
    · split
      · rename_i _ he
        have := (sEq_iff y s).1 he
        subst this
        simp only [List.mem_cons]
        constructor
        · exact fun h => .inl h
        · rintro (h | h)
          · exact h
          · exact .inl h
      · simp only [List.mem_cons]
        constructor
        · rintro (h | h | h)
          · exact .inr h
          · exact .inl (.inl h)
          · exact .inl (.inr h)
        · rintro ((h | h) | h)
          · exact .inr (.inl h)
          · exact .inr (.inr h)
          · exact .inl h
theorem mem_fold9 (x : ByteArray) : ∀ (L M : List ByteArray), x ∈ L.foldl (insB sLt sEq) M ↔ x ∈ M ∨ x ∈ L
  | [], M => by simp
  | y :: L, M => by
    rw [List.foldl_cons, mem_fold9 x L, mem_insB9]
    simp only [List.mem_cons, or_assoc]
theorem mem_sort9 (x : ByteArray) (L : List ByteArray) : x ∈ sortB sLt sEq L ↔ x ∈ L := by
  unfold sortB; rw [mem_fold9]; simp
abbrev Srt9 (L : List ByteArray) : Prop := L.Pairwise (fun a b => sLt a b = true)
theorem sLt_tot {a b : ByteArray} (h1 : ¬ sLt a b = true) (h2 : ¬ sEq a b = true) : sLt b a = true := by
  rw [sLt_iff] at *
  rcases cb_tri a.data.toList b.data.toList with ⟨h, h'⟩ | ⟨h, h'⟩ | ⟨h, h'⟩
  · exact absurd h h1
  · exact absurd ((sEq_iff a b).2 (by obtain ⟨⟨a⟩⟩ := a; obtain ⟨⟨b⟩⟩ := b; simp_all)) h2
  · exact h'
theorem srt_insB (s : ByteArray) : ∀ L : List ByteArray, Srt9 L → Srt9 (insB sLt sEq L s)
  | [], _ => by simp [insB]
  | y :: L, h => by
    obtain ⟨h1, h2⟩ := List.pairwise_cons.1 h
    unfold insB
    split
    · rename_i hl
      refine List.pairwise_cons.2 ⟨fun x hx => ?_, srt_insB s L h2⟩
      rcases (mem_insB9 s x L).1 hx with hx | rfl
      · exact h1 x hx
      · exact hl
    · split
      · exact h
      · rename_i hl he
        have hy := sLt_tot hl he
        refine List.pairwise_cons.2 ⟨fun x hx => ?_, h⟩
        rcases List.mem_cons.1 hx with rfl | hx
        · exact hy
        · exact sLt_trans hy (h1 x hx)
theorem srt_fold9 : ∀ (L M : List ByteArray), Srt9 M → Srt9 (L.foldl (insB sLt sEq) M)
  | [], _, h => h
  | y :: L, M, h => srt_fold9 L _ (srt_insB y M h)
theorem srt_sort9 (L : List ByteArray) : Srt9 (sortB sLt sEq L) := srt_fold9 L [] List.Pairwise.nil
theorem sLt_irr (a : ByteArray) : ¬ sLt a a = true := fun h => by have := sLt_asymm h; rw [h] at this; cases this
theorem srt_ext9 : ∀ {L M : List ByteArray}, Srt9 L → Srt9 M → (∀ x, x ∈ L ↔ x ∈ M) → L = M
  | [], [], _, _, _ => rfl
  | [], y :: M, _, _, h => absurd ((h y).2 List.mem_cons_self) (by simp)
  | x :: L, [], _, _, h => absurd ((h x).1 List.mem_cons_self) (by simp)
  | x :: L, y :: M, hl, hm, h => by
    obtain ⟨l1, l2⟩ := List.pairwise_cons.1 hl
    obtain ⟨m1, m2⟩ := List.pairwise_cons.1 hm
    have e : x = y := by
      rcases List.mem_cons.1 ((h x).1 List.mem_cons_self) with e | hx
      · exact e
      · rcases List.mem_cons.1 ((h y).2 List.mem_cons_self) with e | hy
        · exact e.symm
        · exact absurd (sLt_trans (m1 x hx) (l1 y hy)) (sLt_irr y)
    subst e
    rw [srt_ext9 l2 m2 (fun z => ?_)]
    constructor
    · intro hz
      rcases List.mem_cons.1 ((h z).1 (List.mem_cons_of_mem _ hz)) with e | hz'
      · subst e; exact absurd (l1 z hz) (sLt_irr z)
      · exact hz'
    · intro hz
      rcases List.mem_cons.1 ((h z).2 (List.mem_cons_of_mem _ hz)) with e | hz'
      · subst e; exact absurd (m1 z hz) (sLt_irr z)
      · exact hz'
theorem mem_doms (key v : ByteArray) (nodes : List NodeD) : v ∈ domsP key nodes ↔ ∃ n ∈ nodes, (getL (nLabs n) key).2 = true ∧ (getL (nLabs n) key).1 = v := by
  unfold domsP valsP
  rw [mem_sort9, List.mem_map]
  constructor
  · rintro ⟨n, hn, e⟩
    obtain ⟨h1, h2⟩ := List.mem_filter.1 hn
    exact ⟨n, h1, h2, e⟩
  · rintro ⟨n, h1, h2, e⟩
    exact ⟨n, List.mem_filter.2 ⟨h1, h2⟩, e⟩
/-- 9.5: the order does not count. -/
theorem doms_perm (key : ByteArray) {N M : List NodeD} (h : N.Perm M) : domsP key N = domsP key M :=
  srt_ext9 (srt_sort9 _) (srt_sort9 _) (fun x => by
    show x ∈ domsP key N ↔ x ∈ domsP key M
    rw [mem_doms, mem_doms]
    constructor
    · rintro ⟨n, hn, r⟩; exact ⟨n, h.mem_iff.1 hn, r⟩
    · rintro ⟨n, hn, r⟩; exact ⟨n, h.mem_iff.2 hn, r⟩)
theorem cnt_perm (s : SpreadD) (v : ByteArray) {l m : List PlacedD} (h : l.Perm m) : cntP s v l = cntP s v m := by unfold cntP; exact (h.filter _).length_eq
theorem spread_perm (why : Int) (p : PodD) (L : List Lab) {N M : List NodeD} {l m : List PlacedD} (hn : N.Perm M) (hl : l.Perm m) : spreadP why p L N l = spreadP why p L M m := by
  unfold spreadP
  have e : badS (pLabs p) L N (othersN p.1 l) = badS (pLabs p) L M (othersN p.1 m) := by
    funext s
    have ho : (othersN p.1 l).Perm (othersN p.1 m) := by unfold othersN; exact hl.filter _
    unfold badS
    rw [doms_perm s.1 hn, cnt_perm s _ ho, show (fun v => cntP s v (othersN p.1 l)) = fun v => cntP s v (othersN p.1 m) from funext (fun v => cnt_perm s v ho)]
  rw [e]
theorem cnt_snoc (s : SpreadD) (v : ByteArray) (l : List PlacedD) (x : PlacedD) : cntP s v (l ++ [x]) = cntP s v l + (if inS s v x = true then 1 else 0) := by
  unfold cntP
  rw [List.filter_append, List.length_append]
  cases h : inS s v x <;> simp [h]
/-- One more in the domain d of D. -/
theorem ends_more {c c' : ByteArray → Nat} {D : List ByteArray} {d : ByteArray} (hd : d ∈ D) (h : ∀ e, c' e = c e + (if e = d then 1 else 0)) :
    loP c D ≤ loP c' D ∧ loP c' D ≤ loP c D + 1 ∧ hiP c D ≤ hiP c' D ∧ (hiP c' D = hiP c D ∨ hiP c' D = c d + 1) := by
  have hD : D ≠ [] := fun e => by rw [e] at hd; cases hd
  obtain ⟨l1, a, ha, l2⟩ := lo_spec c hD
  obtain ⟨l1', a', ha', l2'⟩ := lo_spec c' hD
  obtain ⟨h1, b, hb, h2⟩ := hi_spec c hD
  obtain ⟨h1', b', hb', h2'⟩ := hi_spec c' hD
  refine ⟨?_, ?_, ?_, ?_⟩
  · have := l1 a' ha'; have e := h a'; split at e <;> omega
  · have := l1' a ha; have e := h a; split at e <;> omega
  · have := h1' b hb; have e := h b; split at e <;> omega
  · by_cases q : b' = d
    · right; subst q; rw [h2', h b', if_pos rfl]
    · left
      have e := h b'
      rw [if_neg q] at e
      have := h1 b' hb'
      have := h1' b hb; have e2 := h b; split at e2 <;> omega
/-- 9.3: where a pod that meets its own spread may come, no two domains lie farther apart. -/
theorem holds_plain {c c' : ByteArray → Nat} {D : List ByteArray} {d : ByteArray} {k : Int} (hd : d ∈ D) (h : ∀ e, c' e = c e + (if e = d then 1 else 0)) (hk : ((c d + 1 : Nat) : Int) - (loP c D : Int) ≤ k) :
    ((hiP c' D : Int) - (loP c' D : Int) ≤ (hiP c D : Int) - (loP c D : Int) ∨ (hiP c' D : Int) - (loP c' D : Int) ≤ k) ∧ (hiP c D : Int) - (loP c D : Int) - 1 ≤ (hiP c' D : Int) - (loP c' D : Int) := by
  obtain ⟨h1, h2, h3, h4⟩ := ends_more hd h
  refine ⟨?_, by omega⟩
  rcases h4 with h4 | h4
  · left; omega
  · right; omega
/-- 9.4: to a domain with the fewest a pod may always come. -/
theorem least_plain (s : SpreadD) (nodes : List NodeD) (l : List PlacedD) (h : domsP s.1 nodes ≠ []) : ∃ n ∈ nodes, (getL (nLabs n) s.1).2 = true ∧ cntP s (getL (nLabs n) s.1).1 l = loP (fun v => cntP s v l) (domsP s.1 nodes) := by
  obtain ⟨_, d, hd, e⟩ := lo_spec (fun v => cntP s v l) h
  obtain ⟨n, hn, h1, h2⟩ := (mem_doms s.1 d nodes).1 hd
  exact ⟨n, hn, h1, by rw [h2]; exact e.symm⟩
end Go.Proofs.Ytpjgffcpjabghaa
namespace Go.Proofs.Ytpjgffcpjabghaa
open Go.RowKit
set_option linter.unusedSimpArgs false

theorem ins_in10 (s : ByteArray) : ∀ K : List ByteArray, Srt9 K → s ∈ K → (insB sLt sEq K s).length = K.length
  | [], _, h => by cases h
  | x :: xs, hs, h => by
    obtain ⟨h1, h2⟩ := List.pairwise_cons.1 hs
    unfold insB
    by_cases c1 : sLt x s = true
    · rw [if_pos c1]
      rcases List.mem_cons.1 h with e | e
      · subst e; exact absurd c1 (sLt_irr _)
      · simp only [List.length_cons]; rw [ins_in10 s xs h2 e]
    · rw [if_neg c1]
      rcases List.mem_cons.1 h with e | e
      · subst e; rw [if_pos (sEq_self _)]
      · exact absurd (h1 s e) c1
theorem fold_len10 : ∀ (L M : List ByteArray), (L.foldl (insB sLt sEq) M).length ≤ M.length + L.length
  | [], M => Nat.le_refl _
  | x :: xs, M => by
    have h1 := fold_len10 xs (insB sLt sEq M x)
    have h2 := insB_len sLt sEq x M
    simp only [List.foldl_cons, List.length_cons]
    omega
theorem fold_once10 : ∀ (L M : List ByteArray), Srt9 M → (L.foldl (insB sLt sEq) M).length = M.length + L.length → L.Nodup ∧ ∀ x ∈ L, x ∉ M
  | [], _, _, _ => ⟨List.nodup_nil, fun _ h => by cases h⟩
  | x :: xs, M, hM, h => by
    simp only [List.foldl_cons, List.length_cons] at h
    have h1 := fold_len10 xs (insB sLt sEq M x)
    have h2 := insB_len sLt sEq x M
    have hx : x ∉ M := fun hx => by have := ins_in10 x M hM hx; omega
    obtain ⟨h3, h4⟩ := fold_once10 xs (insB sLt sEq M x) (srt_insB x M hM) (by omega)
    have h5 : ∀ y ∈ xs, y ∉ M ∧ y ≠ x := fun y hy => ⟨fun e => h4 y hy ((mem_insB9 x y M).2 (.inl e)), fun e => h4 y hy ((mem_insB9 x y M).2 (.inr e))⟩
    refine ⟨List.nodup_cons.2 ⟨fun e => (h5 x e).2 rfl, h3⟩, fun y hy => ?_⟩
    rcases List.mem_cons.1 hy with e | e
    · subst e; exact hx
    · exact (h5 y e).1
theorem sorted_once10 {L : List ByteArray} (h : (sortB sLt sEq L).length = L.length) : L.Nodup := (fold_once10 L [] List.Pairwise.nil (by rw [List.length_nil, Nat.zero_add]; exact h)).1
/-- Where the claim stands and its volume. -/
theorem hit_iff10 {t : VC} {nm : ByteArray} {c v n m : Nat} (ho : OnceP t) (hc : fI (cNs t.2) nm = some c) (hv : fI (vNs t.1) (cVo (t.2.getD c default)) = some v) (hn : n < t.2.length) (hm : m < t.1.length) :
    ((t.2.getD n default).1 = nm ∧ (t.1.getD m default).1 = cVo (t.2.getD n default)) ↔ (n = c ∧ m = v) := by
  have gn : ∀ i, i < t.2.length → (cNs t.2).getD i default = (t.2.getD i default).1 := fun i hi => by
    rw [List.getD_eq_getElem?_getD, List.getD_eq_getElem?_getD, List.getElem?_map, List.getElem?_eq_getElem hi]; rfl
  have gm : ∀ i, i < t.1.length → (vNs t.1).getD i default = (t.1.getD i default).1 := fun i hi => by
    rw [List.getD_eq_getElem?_getD, List.getD_eq_getElem?_getD, List.getElem?_map, List.getElem?_eq_getElem hi]; rfl
  obtain ⟨c1, c2, _⟩ := fI_some hc
  obtain ⟨v1, v2, _⟩ := fI_some hv
  rw [List.length_map] at c1 v1
  rw [gn c c1] at c2
  rw [gm v v1] at v2
  constructor
  · rintro ⟨h1, h2⟩
    have e1 := fI_once ho.1 (i := n) (by rw [List.length_map]; exact hn)
    rw [gn n hn, h1, hc] at e1
    obtain rfl : c = n := by simpa using e1
    have e2 := fI_once ho.2.2.1 (i := m) (by rw [List.length_map]; exact hm)
    rw [gm m hm, h2, hv] at e2
    exact ⟨rfl, by simpa using e2.symm⟩
  · rintro ⟨rfl, rfl⟩
    exact ⟨c2, v2⟩
end Go.Proofs.Ytpjgffcpjabghaa
namespace Go.Proofs.Ytpjgffcpjabghaa
open Go.RowKit Go.Maps
set_option linter.unusedSimpArgs false
set_option maxRecDepth 100000

def onceB (P : List PodD) : Bool := decide ((sortB sLt sEq (P.map Prod.fst)).length = P.length)
theorem once_nodup {P : List PodD} (h : onceB P = true) : (P.map Prod.fst).Nodup := sorted_once10 (by rw [List.length_map]; exact of_decide_eq_true h)
theorem infoStr18 : (Try.prog.info? 9).map (fun i => (i.zero, i.size, i.bytes)) = some (some (.string ⟨#[]⟩), 1, 16) := by kernel_rfl
theorem take_snoc18 {α : Type} [Inhabited α] {L : List α} {k : Nat} (h : k < L.length) : L.take (k + 1) = L.take k ++ [L.getD k default] := by
  rw [List.take_succ_eq_append_getElem h, List.getD_eq_getElem?_getD, List.getElem?_eq_getElem h]; rfl
set_option maxHeartbeats 4000000 in
theorem once_calls (ss : List Value) (A : Where) (s : StateD) (w : World) (hs : Hid (RState A w ss s)) : Calls Try.prog 8 #[.agg ss.toArray] w fun e w' => e = .returned (.bool (onceB s.1)) ∧ Below w.heap.size w w' := by
  obtain ⟨W1, hW1⟩ : ∃ Z, Z = w.alloc (.cells ss.toArray 29) := ⟨_, rfl⟩
  have b1 : Below w.heap.size w W1 := by rw [hW1]; exact (Below.refl _ _).alloc (Nat.le_refl _) _
  have q1 : BoxL W1 w.heap.size ss := by rw [hW1]; exact BoxL.new w 29 _
  obtain ⟨g0, g1, g2, g3, g4, g5, ess, sp, _⟩ := (RState.firm.kept hs.out (Kept.below b1)).out
  obtain ⟨la, ln, lc⟩ := g0
  have HS : Hid (∀ z, Below W1.heap.size W1 z → SlAt RPod 16 296 A z la ln lc s.1 ∧ z.cell? ⟨w.heap.size, 0, none⟩ = some (.slice la ln lc)) := fun z hz => ⟨sp.on RPod.firm hz, ((q1.on hz).2 0 _ (by rw [ess]; rfl)).1⟩
  have hn : Hid (s.1.length = ln) := sp.1
  have hml : ln * 296 ≤ 140737488351232 := sp.2.2.2.1
  have HB : Hid (Below w.heap.size w W1) := b1
  obtain ⟨P, hP⟩ : ∃ P, P = w.heap.size := ⟨_, rfl⟩
  rw [← hP] at HS
  have hW1' : w.alloc (.cells ss.toArray 29) = W1 := hW1.symm
  have HP : Hid (w.heap.size = P) := hP.symm
  generalize s.1 = L at HS hn ⊢
  have HR0 : Hid (Row RStr 1 (fun _ => False) W1 (W1.alloc (.cells #[] 9)) 9 (.slice (some ⟨W1.heap.size, 0, none⟩) 0 0) ((L.take 0).map Prod.fst)) := Row.start _ W1 W1 _ (Below.refl _ _)
  clear q1 b1 hW1 hP hs ess sp
  go_enter Try.func8, Try.ntmps8
  go_upto_region 1 with fail
  rw [HP.out]
  clear hW1'
  go_wp2_with fail
  --M1
  go_loopw [3, 4] (fun v i z => ∃ k : Nat, k ≤ ln ∧ i = .int .i64 k ∧ Hid (Row RStr 1 (fun _ => False) W1 z 9 v ((L.take k).map Prod.fst))) (fun _ i _ => ln - (intOf i).toNat)
  case atStart => exact ⟨0, Nat.zero_le _, rfl, HR0⟩
  case round =>
    clear HR0
    obtain ⟨k, hk, rfl, hrun⟩ := hrel
    obtain ⟨sl, d0⟩ := HS.out wr hrun.out.below
    by_cases hlt : k < ln
    · have hltz : (k : Int) < (ln : Int) := by omega
      have hkl : k < L.length := by rw [hn.out]; exact hlt
      obtain ⟨D, off, rfl, hD, _, cs, hr, hv⟩ := sl.get hlt
      obtain ⟨_, _, _, _, _, _, _, _, _, ecs, hsz, _⟩ := hr.out
      have e0 := hv 0 (.string (L.getD k default).1) (by rw [ecs]; rfl)
      rw [Nat.add_zero] at e0
      have HSn : Hid ((L.take (k + 1)).map Prod.fst = (L.take k).map Prod.fst ++ [(L.getD k default).1]) := by rw [Hid, take_snoc18 hkl, List.map_append]; rfl
      clear hv hr ecs sl
      generalize (L.getD k default).1 = x at e0 HSn hsz
      obtain ⟨W3, hW3⟩ : ∃ Z, Z = wr.alloc (.cells #[.string x] 9) := ⟨_, rfl⟩
      have b3 : Below wr.heap.size wr W3 := by rw [hW3]; exact (Below.refl _ _).alloc (Nat.le_refl _) _
      have q3 : BoxL W3 wr.heap.size [.string x] := by rw [hW3]; exact BoxL.new wr 9 _
      have HW3 : Hid (W3 = wr.alloc (.cells #[.string x] 9)) := hW3
      have HR3 : Hid (Row RStr 1 (fun _ => False) W1 W3 9 u3 ((L.take k).map Prod.fst)) := hrun.out.on RStr.firm b3
      have HSr : Hid (Src RStr 1 (fun b => False ∧ Value.ownBlock u3 ≠ some b) W3 (some ⟨wr.heap.size, 0, none⟩) 1 [x]) := src_boxG RStr.firm q3 ⟨rfl, hsz⟩
      have HLb : Hid ((((L.take k).map Prod.fst).length + [x].length) * 16 ≤ 140737488355328) := by rw [Hid, List.length_singleton, List.length_map, List.length_take, hn.out]; omega
      clear hW3 b3 q3 hrun
      go_wp2_with (at_builtin; refine wpl_atG HW3.out ?_; refine row_appendP RStr.firm (A := fun _ => False) (w0 := W1) rfl _ _ 30 9 rfl _ 16 infoStr18 Try.underlying30 rfl (by decide) (by decide) u3 ((L.take k).map Prod.fst) rfl HR3.out (some ⟨wr.heap.size, 0, none⟩) 1 1 [x] rfl HSr.out HLb.out ?_; intro v5 w5 hrow5 hg5 hw5)
      have HE : Hid (Row RStr 1 (fun _ => False) W1 w5 9 v5 ((L.take (k + 1)).map Prod.fst)) := by rw [HSn.out]; exact hrow5
      clear hrow5 hg5 hw5 HR3 HSr HLb HW3 HSn
      go_roundw
      case rel => exact ⟨k + 1, by omega, by go_num, HE⟩
      case measure => simp [intOf]; omega
    · have hltz : ¬ (k : Int) < (ln : Int) := by omega
      have hr : Row RStr 1 (fun _ => False) W1 wr 9 u3 (L.map Prod.fst) := by have h := hrun.out; rw [List.take_of_length_le (by rw [hn.out]; omega)] at h; exact h
      obtain ⟨a, c, rfl, hs⟩ := (hr.wAG RStr.firm (A' := Fresh W1) (fun _ h => h.elim)).slF (bytes := 16) RStr.firm (by rw [List.length_map, hn.out]; omega)
      have hlen : (L.map Prod.fst).length = ln := by rw [List.length_map, hn.out]
      rw [hlen] at hs ⊢
      have hA := Sorted_calls a ln c _ (L.map Prod.fst) wr hs
      have HE : Hid (Below w.heap.size w wr) := on2 HB.out hr.below
      have HO : Hid (onceB L = decide ((sortB sLt sEq (L.map Prod.fst)).length = ln)) := by unfold onceB; rw [Hid, hn.out]
      generalize (sortB sLt sEq (L.map Prod.fst)).length = m at hA HO
      clear hs hr hrun sl hlen
      go_wp2_with fail
      refine hA.mono ?_
      rintro e w6 ⟨a', c', rfl, _, b6⟩
      have HE6 : Hid (Below w.heap.size w w6) := on2 HE.out b6
      clear hA b6
      by_cases he : m = ln
      · have heb : ((m : Int) == (ln : Int)) = true := by subst he; simp
        have HO2 : Hid (onceB L = true) := by rw [Hid, HO.out]; exact decide_eq_true he
        clear he HO
        go_wp2_with fail
        go_ret
        exact ⟨retB HO2.out.symm, HE6.out⟩
      · have heb : ((m : Int) == (ln : Int)) = false := by have h : (m : Int) ≠ (ln : Int) := (by omega); simpa using h
        have HO2 : Hid (onceB L = false) := by rw [Hid, HO.out]; exact decide_eq_false he
        clear he HO
        go_wp2_with fail
        go_ret
        exact ⟨retB HO2.out.symm, HE6.out⟩
end Go.Proofs.Ytpjgffcpjabghaa
namespace Go.Proofs.Ytpjgffcpjabghaa
open Go.RowKit Go.Maps
set_option linter.unusedSimpArgs false
set_option maxRecDepth 100000

set_option maxHeartbeats 1000000 in
theorem isBound_calls (ps : List Value) (A : Where) (p : PodD) (w : World) (hp : Hid (RPod A w ps p)) : Calls Try.prog 21 #[.agg ps.toArray] w fun e w' => e = .returned (.bool (bndB p)) ∧ Below w.heap.size w w' := by
  obtain ⟨W1, hW1⟩ : ∃ Z, Z = w.alloc (.cells ps.toArray 54) := ⟨_, rfl⟩
  have b1 : Below w.heap.size w W1 := by rw [hW1]; exact (Below.refl _ _).alloc (Nat.le_refl _) _
  have q1 : BoxL W1 w.heap.size ps := by rw [hW1]; exact BoxL.new w 54 _
  obtain ⟨_, _, _, _, _, _, _, _, _, eps, _⟩ := hp.out.out
  obtain ⟨x, hx⟩ : ∃ x, x = bNode p := ⟨_, rfl⟩
  have d14 : W1.cell? ⟨w.heap.size, 14, none⟩ = some (.string x) := by rw [hx]; exact (q1.2 14 _ (by rw [eps]; rfl)).1
  have HB : Hid (Below w.heap.size w W1) := b1
  have HP : Hid (bndB p = !sNil x) := by rw [hx]; rfl
  have HW : Hid (w.alloc (.cells ps.toArray 54) = W1) := hW1.symm
  clear hW1 b1 q1 hp eps hx
  cases f : sNil x
  · have f' : x.toList.isEmpty = false := f
    have HR : Hid (bndB p = true) := by rw [Hid, HP.out, f]; rfl
    clear HP
    go_enter Try.func21, Try.ntmps21
    go_upto_region 1 with fail
    rw [HW.out]
    go_wp2_with fail
    go_ret
    exact ⟨retB HR.out.symm, HB.out⟩
  · have f' : x.toList.isEmpty = true := f
    have HR : Hid (bndB p = false) := by rw [Hid, HP.out, f]; rfl
    clear HP
    go_enter Try.func21, Try.ntmps21
    go_upto_region 1 with fail
    rw [HW.out]
    go_wp2_with fail
    go_ret
    exact ⟨retB HR.out.symm, HB.out⟩
set_option maxHeartbeats 1000000 in
theorem isAbout_calls (ps bs : List Value) (A A' : Where) (p : PodD) (b : BudgetD) (w : World) (hp : Hid (RPod A w ps p)) (hb : Hid (RBudget A' w bs b)) : Calls Try.prog 24 #[.agg bs.toArray, .agg ps.toArray] w fun e w' => e = .returned (.bool (matchL p.2.2.1 b.2.1)) ∧ Below w.heap.size w w' := by
  obtain ⟨W1, hW1⟩ : ∃ Z, Z = w.alloc (.cells bs.toArray 37) := ⟨_, rfl⟩
  have b1 : Below w.heap.size w W1 := by rw [hW1]; exact (Below.refl _ _).alloc (Nat.le_refl _) _
  have q1 : BoxL W1 w.heap.size bs := by rw [hW1]; exact BoxL.new w 37 _
  have s1 : W1.heap.size = w.heap.size + 1 := by rw [hW1]; simp
  obtain ⟨W2, hW2⟩ : ∃ Z, Z = W1.alloc (.cells ps.toArray 54) := ⟨_, rfl⟩
  have b2 : Below W1.heap.size W1 W2 := by rw [hW2]; exact (Below.refl _ _).alloc (Nat.le_refl _) _
  have q2 : BoxL W2 (w.heap.size + 1) ps := by rw [hW2, ← s1]; exact BoxL.new W1 54 _
  have HB : Hid (Below w.heap.size w W2) := on2 b1 b2
  have q12 := q1.on b2
  obtain ⟨g2, _, _, _, _, _, _, _, _, eps, _, sl, _⟩ := (RPod.firm.kept hp.out (Kept.below HB.out)).out
  obtain ⟨r1, ebs, _, sr⟩ := (RBudget.firm.kept hb.out (Kept.below HB.out)).out
  obtain ⟨la, ln, lc⟩ := g2
  obtain ⟨ra, rn, rc⟩ := r1
  have d2 : W2.cell? ⟨w.heap.size + 1, 2, none⟩ = some (.slice la ln lc) := (q2.2 2 _ (by rw [eps]; rfl)).1
  have e1 : W2.cell? ⟨w.heap.size, 1, none⟩ = some (.slice ra rn rc) := (q12.2 1 _ (by rw [ebs]; rfl)).1
  have hA := Match_sl la ln lc _ p.2.2.1 ra rn rc _ b.2.1 W2 sl sr
  obtain ⟨P, hP⟩ : ∃ P, P = w.heap.size := ⟨_, rfl⟩
  obtain ⟨I, hI⟩ : ∃ I, I = w.heap.size + 1 := ⟨_, rfl⟩
  rw [← hI] at d2
  rw [← hP] at e1
  have hW2' : (w.alloc (.cells bs.toArray 37)).alloc (.cells ps.toArray 54) = W2 := by rw [hW2, hW1]
  have HPI : Hid (w.heap.size = P ∧ w.heap.size + 1 = I) := ⟨hP.symm, hI.symm⟩
  clear hW1 hW2 b1 b2 q1 q2 q12 s1 hp hb eps ebs sl sr hP hI
  generalize matchL p.2.2.1 b.2.1 = r at hA
  go_enter Try.func24, Try.ntmps24
  go_upto_region 1 with fail
  rw [HPI.out.2, HPI.out.1]
  clear hW2'
  --M1
  go_wp2_with fail
  refine hA.mono ?_
  rintro e w3 ⟨rfl, b3⟩
  have HE : Hid (Below w.heap.size w w3) := on2 HB.out b3
  clear hA b3
  go_wp2_with fail
  go_ret
  exact ⟨rfl, HE.out⟩
end Go.Proofs.Ytpjgffcpjabghaa
namespace Go.Proofs.Ytpjgffcpjabghaa
open Go.RowKit Go.Maps
set_option linter.unusedSimpArgs false
set_option maxRecDepth 100000

/-- What a call turns: blocks that are meant, and none is gone. -/
structure Turns (F : Where) (w w' : World) : Prop where
  os : w'.os = w.os
  tape : w'.tape = w.tape
  output : w'.output = w.output
  size : w.heap.size ≤ w'.heap.size
  block : ∀ b, b < w.heap.size → ¬ F b → w'.heap[b]? = w.heap[b]?
theorem Turns.refl (F : Where) (w : World) : Turns F w w := ⟨rfl, rfl, rfl, Nat.le_refl _, fun _ _ _ => rfl⟩
theorem Turns.trans {F : Where} {u v w : World} (h : Turns F u v) (k : Turns F v w) : Turns F u w :=
  ⟨k.os.trans h.os, k.tape.trans h.tape, k.output.trans h.output, Nat.le_trans h.size k.size, fun b hb hf => (k.block b (Nat.lt_of_lt_of_le hb h.size) hf).trans (h.block b hb hf)⟩
theorem Turns.below {F : Where} {w w' : World} (h : Below w.heap.size w w') : Turns F w w' := ⟨h.os, h.tape, h.output, h.size, fun b hb _ => h.block b hb⟩
theorem Turns.alloc (F : Where) (w : World) (o : Obj) : Turns F w (w.alloc o) := Turns.below ((Below.refl _ w).alloc (Nat.le_refl _) o)
theorem Turns.drew (F : Where) (w : World) : Turns F w w.drew := Turns.below (Below.refl _ w).drew
theorem Turns.grown {F : Where} {w w' : World} {row : Option Nat} (hg : w.grownBy w' row) (h : ∀ b, row = some b → F b) : Turns F w w' :=
  ⟨hg.os, hg.tape, hg.output, hg.size, fun b hb hf => hg.block b hb (fun e => hf (h b e.symm))⟩
theorem Turns.set {F : Where} {w : World} {p : Addr} (h : F p.block) (v : Value) : Turns F w (w.setCell p v) := by
  have := (Below.refl 0 w).setCell (p := p) (Nat.zero_le _) v
  exact ⟨this.os, this.tape, this.output, this.size, fun b _ hf => Below.heap_setCell w p v b (fun e => hf (e ▸ h))⟩
theorem Turns.map {F : Where} {w w' : World} {b : Nat} (h : w.mapTurned w' b) (hb : F b) : Turns F w w' := Turns.grown h.grown (fun k e => by cases e; exact hb)
theorem Turns.behind {w0 w w' : World} (h : Below w0.heap.size w0 w) (k : Turns (Fresh w0) w w') : Below w0.heap.size w0 w' :=
  ⟨k.os.trans h.os, k.tape.trans h.tape, k.output.trans h.output, Nat.le_trans h.size k.size, fun b hb => (k.block b (Nat.lt_of_lt_of_le hb h.size) (Fresh.not hb)).trans (h.block b hb)⟩
theorem Turns.weak {F G : Where} {w w' : World} (h : Turns F w w') (k : ∀ b, b < w.heap.size → F b → G b) : Turns G w w' :=
  ⟨h.os, h.tape, h.output, h.size, fun b hb hg => h.block b hb (fun hf => hg (k b hb hf))⟩

theorem block_lt {w : World} {b : Nat} {o : Obj} (h : w.heap[b]? = some o) : b < w.heap.size := by
  rcases Nat.lt_or_ge b w.heap.size with h1 | h1
  · exact h1
  · rw [Array.getElem?_eq_none h1] at h; cases h
end Go.Proofs.Ytpjgffcpjabghaa
