/- What is placed, counted by domains; why a pod may not come somewhere: by counts, and by the document's words. Plain mathematics. No condition. How many there are in each domain: a map whose keys are labels. Plain facts on worlds. No condition. base.Texts, Ints, Labels give slices of their own that hold the same. Condition: the slice holds what is said of it. Slices of taints and of what is borne, told in the words of layer 3. Plain facts on worlds. No condition. label.isDigit, inWord, Word, isValue, isNumber and the document's own Word, Whole return what the plain functions say, and change nothing. Condition: the text is no longer than a Go string can be. label.isValue, isNumber and the document's own Word, Whole return what the plain functions say, and change nothing. Condition: the text is no longer than a Go string can be. The document's own Whole at 15 digits returns what the plain functions say, and changes nothing. No condition. -/
import Derived.Test.YtfnafgmengefaaaDoorQ03
import Derived.DeepKeys4
import Derived.Maps.Range
import Derived.Test.YtfnafgmengefaaaDoorQ02
namespace Go.Proofs.YtfnafgmengefaaaDoor
open Go.RowKit
set_option linter.unusedSimpArgs false

/-- A pod that is placed, and its node's labels. -/
abbrev PlacedD := PodD × List Lab
def RPlaced : Rep PlacedD := RPair RPod (RSl RLabel 2 32)
theorem RPlaced.firm : Firm RPlaced 17 := Firm.pair RPod.firm (RSl.firm RLabel.firm)
abbrev pNear (p : PodD) : List TermD := p.2.2.2.2.2.2.2.2.1
abbrev pApart (p : PodD) : List TermD := p.2.2.2.2.2.2.2.2.2.1
abbrev pLabs (p : PodD) : List Lab := p.2.2.1

def okL (d : Lab) : Prop := d.1.size ≤ 140737488355328 ∧ d.2.size ≤ 140737488355328
/-- The domain of a key that labels have. -/
abbrev domL (L : List Lab) (key : ByteArray) : Lab := (key, (getL L key).1)
/-- Does a label stand at the domain of a key? -/
def atD (L : List Lab) (key : ByteArray) (d : Lab) : Bool := (getL L key).2 && (sEq d.1 key && sEq d.2 (getL L key).1)
/-- Is x counted for the term t at d? -/
def hT (t : TermD) (x : PlacedD) (d : Lab) : Bool := matchL (pLabs x.1) t.1 && atD x.2 t.2 d
def one (b : Bool) : Int := if b = true then 1 else 0
def cT (t : TermD) (A : List PlacedD) (d : Lab) : Int := (A.map (fun x => one (hT t x d))).sum
def hO (P : List Lab) (x : PlacedD) (t : TermD) (d : Lab) : Bool := matchL P t.1 && atD x.2 t.2 d
def cX (P : List Lab) (x : PlacedD) (T : List TermD) (d : Lab) : Int := (T.map (fun t => one (hO P x t d))).sum
def cO (P : List Lab) (A : List PlacedD) (d : Lab) : Int := (A.map (fun x => cX P x (pApart x.1) d)).sum
/-- Is nobody counted for t anywhere? -/
def eT (t : TermD) (A : List PlacedD) : Bool := !A.any (fun x => matchL (pLabs x.1) t.1 && (getL x.2 t.2).2)
def lackT (P L : List Lab) (A : List PlacedD) (t : TermD) : Bool := !(getL L t.2).2 || (decide (cT t A (domL L t.2) = 0) && !(eT t A && matchL P t.1))
def aparT (L : List Lab) (A : List PlacedD) (t : TermD) : Bool := (getL L t.2).2 && decide (0 < cT t A (domL L t.2))
def othL (P L : List Lab) (A : List PlacedD) (l : Lab) : Bool := decide (0 < cO P A l) && ((getL L l.1).2 && decide (0 < cO P A (domL L l.1)))
/-- What the program tells of a table of A. -/
def whyN (P : List Lab) (N M : List TermD) (L : List Lab) (A : List PlacedD) : Int :=
  if N.any (lackT P L A) = true then 9 else if M.any (aparT L A) = true then 10 else if L.any (othL P L A) = true then 11 else 0
def othersN (name : ByteArray) (l : List PlacedD) : List PlacedD := l.filter (fun x => !sEq x.1.1 name)
def nearP (p : PodD) (L : List Lab) (l : List PlacedD) : Int := whyN (pLabs p) (pNear p) (pApart p) L (othersN p.1 l)

/-- The document's words. -/
def thereT (t : TermD) (L : List Lab) (A : List PlacedD) : Bool := A.any (fun x => matchL (pLabs x.1) t.1 && sameL x.2 L t.2)
def anyT (t : TermD) (A : List PlacedD) : Bool := A.any (fun x => (getL x.2 t.2).2 && matchL (pLabs x.1) t.1)
def rLackT (P L : List Lab) (A : List PlacedD) (t : TermD) : Bool := !(getL L t.2).2 || (!thereT t L A && (anyT t A || !matchL P t.1))
def rOthX (P L : List Lab) (x : PlacedD) : Bool := (pApart x.1).any (fun t => matchL P t.1 && sameL x.2 L t.2)
def whyR8 (P : List Lab) (N M : List TermD) (L : List Lab) (A : List PlacedD) : Int :=
  if N.any (rLackT P L A) = true then 9 else if M.any (fun t => thereT t L A) = true then 10 else if A.any (rOthX P L) = true then 11 else 0
def refN (p : PodD) (L : List Lab) (l : List PlacedD) : Int := whyR8 (pLabs p) (pNear p) (pApart p) L (othersN p.1 l)

theorem one_nonneg (b : Bool) : 0 ≤ one b := by unfold one; split <;> omega
theorem one_le (b : Bool) : one b ≤ 1 := by unfold one; split <;> omega
theorem sum_nonneg : ∀ (l : List Int), (∀ x ∈ l, 0 ≤ x) → 0 ≤ l.sum
  | [], _ => by simp
  | x :: l, h => by
    have h1 := h x (by simp)
    have h2 := sum_nonneg l (fun y hy => h y (by simp [hy]))
    simp only [List.sum_cons]; omega
theorem sum_pos : ∀ (l : List Int), (∀ x ∈ l, 0 ≤ x) → (0 < l.sum ↔ ∃ x ∈ l, 0 < x)
  | [], _ => by simp
  | x :: l, h => by
    have h1 := h x (by simp)
    have h2 := sum_nonneg l (fun y hy => h y (by simp [hy]))
    have h3 := sum_pos l (fun y hy => h y (by simp [hy]))
    simp only [List.sum_cons, List.mem_cons, exists_eq_or_imp]
    rw [← h3]
    omega
theorem one_pos {b : Bool} : 0 < one b ↔ b = true := by unfold one; split <;> simp_all
theorem cT_nonneg (t : TermD) (A : List PlacedD) (d : Lab) : 0 ≤ cT t A d := sum_nonneg _ (fun x hx => by obtain ⟨y, _, rfl⟩ := List.mem_map.1 hx; exact one_nonneg _)
theorem cT_pos (t : TermD) (A : List PlacedD) (d : Lab) : 0 < cT t A d ↔ ∃ x ∈ A, hT t x d = true := by
  unfold cT
  rw [sum_pos _ (fun x hx => by obtain ⟨y, _, rfl⟩ := List.mem_map.1 hx; exact one_nonneg _)]
  constructor
  · rintro ⟨x, hx, hp⟩
    obtain ⟨y, hy, rfl⟩ := List.mem_map.1 hx
    exact ⟨y, hy, one_pos.1 hp⟩
  · rintro ⟨y, hy, hp⟩
    exact ⟨_, List.mem_map.2 ⟨y, hy, rfl⟩, one_pos.2 hp⟩
theorem cX_nonneg (P : List Lab) (x : PlacedD) (T : List TermD) (d : Lab) : 0 ≤ cX P x T d := sum_nonneg _ (fun x hx => by obtain ⟨y, _, rfl⟩ := List.mem_map.1 hx; exact one_nonneg _)
theorem cX_pos (P : List Lab) (x : PlacedD) (T : List TermD) (d : Lab) : 0 < cX P x T d ↔ ∃ t ∈ T, hO P x t d = true := by
  unfold cX
  rw [sum_pos _ (fun x hx => by obtain ⟨y, _, rfl⟩ := List.mem_map.1 hx; exact one_nonneg _)]
  constructor
  · rintro ⟨x, hx, hp⟩
    obtain ⟨y, hy, rfl⟩ := List.mem_map.1 hx
    exact ⟨y, hy, one_pos.1 hp⟩
  · rintro ⟨y, hy, hp⟩
    exact ⟨_, List.mem_map.2 ⟨y, hy, rfl⟩, one_pos.2 hp⟩
theorem cO_nonneg (P : List Lab) (A : List PlacedD) (d : Lab) : 0 ≤ cO P A d := sum_nonneg _ (fun x hx => by obtain ⟨y, _, rfl⟩ := List.mem_map.1 hx; exact cX_nonneg _ _ _ _)
theorem cO_pos (P : List Lab) (A : List PlacedD) (d : Lab) : 0 < cO P A d ↔ ∃ x ∈ A, ∃ t ∈ pApart x.1, hO P x t d = true := by
  unfold cO
  rw [sum_pos _ (fun x hx => by obtain ⟨y, _, rfl⟩ := List.mem_map.1 hx; exact cX_nonneg _ _ _ _)]
  constructor
  · rintro ⟨x, hx, hp⟩
    obtain ⟨y, hy, rfl⟩ := List.mem_map.1 hx
    exact ⟨y, hy, (cX_pos _ _ _ _).1 hp⟩
  · rintro ⟨y, hy, hp⟩
    exact ⟨_, List.mem_map.2 ⟨y, hy, rfl⟩, (cX_pos _ _ _ _).2 hp⟩
theorem atD_iff {L : List Lab} {key : ByteArray} {d : Lab} : atD L key d = true ↔ (getL L key).2 = true ∧ d = domL L key := by
  unfold atD
  rw [Bool.and_eq_true, Bool.and_eq_true, sEq_iff, sEq_iff]
  constructor
  · rintro ⟨h1, h2, h3⟩; exact ⟨h1, Prod.ext h2 h3⟩
  · rintro ⟨h1, rfl⟩; exact ⟨h1, rfl, rfl⟩
theorem sameL_iff {A B : List Lab} {key : ByteArray} : sameL A B key = true ↔ (getL A key).2 = true ∧ (getL B key).2 = true ∧ domL B key = domL A key := by
  unfold sameL
  rw [Bool.and_eq_true, Bool.and_eq_true, sEq_iff]
  constructor
  · rintro ⟨⟨h1, h2⟩, h3⟩; exact ⟨h1, h2, Prod.ext rfl h3.symm⟩
  · rintro ⟨h1, h2, h3⟩; exact ⟨⟨h1, h2⟩, (congrArg Prod.snd h3).symm⟩
theorem there_pos {t : TermD} {L : List Lab} {A : List PlacedD} (h : (getL L t.2).2 = true) : 0 < cT t A (domL L t.2) ↔ thereT t L A = true := by
  rw [cT_pos]
  unfold thereT
  rw [List.any_eq_true]
  constructor
  · rintro ⟨x, hx, hh⟩
    unfold hT at hh
    rw [Bool.and_eq_true, atD_iff] at hh
    exact ⟨x, hx, by rw [Bool.and_eq_true, sameL_iff]; exact ⟨hh.1, hh.2.1, h, hh.2.2⟩⟩
  · rintro ⟨x, hx, hh⟩
    rw [Bool.and_eq_true, sameL_iff] at hh
    exact ⟨x, hx, by unfold hT; rw [Bool.and_eq_true, atD_iff]; exact ⟨hh.1, hh.2.1, hh.2.2.2⟩⟩
theorem eT_any (t : TermD) (A : List PlacedD) : eT t A = !anyT t A := by
  unfold eT anyT
  congr 2
  funext x
  rw [Bool.and_comm]
theorem lack_is (P L : List Lab) (A : List PlacedD) (t : TermD) : lackT P L A t = rLackT P L A t := by
  unfold lackT rLackT
  cases h : (getL L t.2).2
  · rfl
  · have h1 := there_pos (A := A) h
    have h2 := cT_nonneg t A (domL L t.2)
    have h3 : decide (cT t A (domL L t.2) = 0) = !thereT t L A := by
      cases e : thereT t L A
      · rw [e] at h1; simp at h1; simp; omega
      · have := h1.2 e; simp; omega
    rw [h3, eT_any]
    cases thereT t L A <;> cases anyT t A <;> cases matchL P t.1 <;> rfl
theorem apar_is (L : List Lab) (A : List PlacedD) (t : TermD) : aparT L A t = thereT t L A := by
  unfold aparT
  cases h : (getL L t.2).2
  · have : thereT t L A = false := by
      unfold thereT
      rw [List.any_eq_false]
      intro x hx
      rw [Bool.and_eq_true, sameL_iff]
      rintro ⟨_, _, h2, _⟩
      rw [h] at h2; cases h2
    rw [this]; rfl
  · have h1 := there_pos (A := A) h
    cases e : thereT t L A
    · rw [e] at h1; simp at h1; simp; omega
    · have := h1.2 e; simp; omega
theorem getL_mem {L : List Lab} {key : ByteArray} (h : (getL L key).2 = true) : domL L key ∈ L := by
  unfold domL getL at *
  cases e : L.find? (fun x => sEq x.1 key) with
  | none => rw [e] at h; cases h
  | some x =>
    have h1 := List.find?_some e
    have h2 := List.mem_of_find?_eq_some e
    rw [sEq_iff] at h1
    subst h1
    exact h2
theorem oth_is (P L : List Lab) (A : List PlacedD) : L.any (othL P L A) = A.any (rOthX P L) := by
  rw [Bool.eq_iff_iff, List.any_eq_true, List.any_eq_true]
  constructor
  · rintro ⟨l, hl, hh⟩
    unfold othL at hh
    simp only [Bool.and_eq_true, decide_eq_true_eq] at hh
    obtain ⟨_, h2, h3⟩ := hh
    obtain ⟨x, hx, t, ht, hp⟩ := (cO_pos _ _ _).1 h3
    unfold hO at hp
    rw [Bool.and_eq_true, atD_iff] at hp
    have e : l.1 = t.2 := congrArg Prod.fst hp.2.2
    rw [e] at h2 hp
    refine ⟨x, hx, ?_⟩
    unfold rOthX
    rw [List.any_eq_true]
    exact ⟨t, ht, by rw [Bool.and_eq_true, sameL_iff]; exact ⟨hp.1, hp.2.1, h2, hp.2.2⟩⟩
  · rintro ⟨x, hx, hh⟩
    unfold rOthX at hh
    rw [List.any_eq_true] at hh
    obtain ⟨t, ht, hp⟩ := hh
    rw [Bool.and_eq_true, sameL_iff] at hp
    refine ⟨domL L t.2, getL_mem hp.2.2.1, ?_⟩
    have h1 : 0 < cO P A (domL L t.2) := (cO_pos _ _ _).2 ⟨x, hx, t, ht, by unfold hO; rw [Bool.and_eq_true, atD_iff]; exact ⟨hp.1, hp.2.1, hp.2.2.2⟩⟩
    unfold othL
    simp only [Bool.and_eq_true, decide_eq_true_eq]
    exact ⟨h1, hp.2.2.1, h1⟩
theorem near_ref (p : PodD) (L : List Lab) (l : List PlacedD) : nearP p L l = refN p L l := by
  unfold nearP refN whyN whyR8
  have h1 : lackT (pLabs p) L (othersN p.1 l) = rLackT (pLabs p) L (othersN p.1 l) := funext (lack_is _ _ _)
  have h2 : aparT L (othersN p.1 l) = fun t => thereT t L (othersN p.1 l) := funext (apar_is _ _)
  rw [h1, h2, oth_is]
theorem any_perm {α : Type} {l m : List α} (h : l.Perm m) (f : α → Bool) : l.any f = m.any f := by
  rw [Bool.eq_iff_iff, List.any_eq_true, List.any_eq_true]
  exact ⟨fun ⟨x, hx, e⟩ => ⟨x, h.mem_iff.1 hx, e⟩, fun ⟨x, hx, e⟩ => ⟨x, h.mem_iff.2 hx, e⟩⟩
/-- The order of what is placed does not count. -/
theorem near_perm (p : PodD) (L : List Lab) {l m : List PlacedD} (h : l.Perm m) : nearP p L l = nearP p L m := by
  rw [near_ref, near_ref]
  unfold refN whyR8 othersN
  have hp : (l.filter (fun x => !sEq x.1.1 p.1)).Perm (m.filter (fun x => !sEq x.1.1 p.1)) := h.filter _
  have e1 : (fun t => thereT t L (l.filter (fun x => !sEq x.1.1 p.1))) = fun t => thereT t L (m.filter (fun x => !sEq x.1.1 p.1)) := funext fun t => any_perm hp _
  have e2 : rLackT (pLabs p) L (l.filter (fun x => !sEq x.1.1 p.1)) = rLackT (pLabs p) L (m.filter (fun x => !sEq x.1.1 p.1)) := funext fun t => by
    unfold rLackT
    rw [show thereT t L (l.filter (fun x => !sEq x.1.1 p.1)) = thereT t L (m.filter (fun x => !sEq x.1.1 p.1)) from any_perm hp _, show anyT t (l.filter (fun x => !sEq x.1.1 p.1)) = anyT t (m.filter (fun x => !sEq x.1.1 p.1)) from any_perm hp _]
  rw [e1, e2, any_perm hp]
/-- Nobody is counted anywhere, just if every count is nought. -/
theorem eT_iff {t : TermD} {A : List PlacedD} (ht : t.2.size ≤ 140737488355328) (hA : ∀ x ∈ A, ∀ l ∈ x.2, okL l) : eT t A = true ↔ ∀ d, okL d → cT t A d = 0 := by
  unfold eT
  rw [Bool.not_eq_true', List.any_eq_false]
  constructor
  · intro h d _
    have h1 := cT_nonneg t A d
    rcases Int.lt_or_le 0 (cT t A d) with h2 | h2
    · obtain ⟨x, hx, hh⟩ := (cT_pos _ _ _).1 h2
      unfold hT at hh
      rw [Bool.and_eq_true, atD_iff] at hh
      exact absurd (by rw [Bool.and_eq_true]; exact ⟨hh.1, hh.2.1⟩) (h x hx)
    · omega
  · intro h x hx hh
    rw [Bool.and_eq_true] at hh
    have h2 : 0 < cT t A (domL x.2 t.2) := (cT_pos _ _ _).2 ⟨x, hx, by unfold hT; rw [Bool.and_eq_true, atD_iff]; exact ⟨hh.1, hh.2, rfl⟩⟩
    have h3 := h (domL x.2 t.2) ⟨ht, (hA x hx _ (getL_mem hh.2)).2⟩
    omega
end Go.Proofs.YtfnafgmengefaaaDoor
namespace Go.Proofs.YtfnafgmengefaaaDoor
open Go.RowKit Go.Maps
set_option linter.unusedSimpArgs false
set_option maxRecDepth 100000

theorem laidOut8 : laidOutB Tryd.prog = true := by kernel_rfl
theorem rowLab : (62 : TypeId) < Tryd.prog.types.size := of_decide_eq_true (by kernel_rfl)
theorem wideLab : (match Tryd.prog.underlying 62 with | some (.array _ _) | some (.struct _) => true | _ => false) = true := by kernel_rfl
theorem lawL : Keyed Tryd.prog 62 := Keyed.of_law (deep_law_laid laidOut8 (m := 2) (by omega) rowLab (by kernel_rfl) wideLab)
theorem keyTypeLab : Tryd.prog.keyType 62 = true := by kernel_rfl
theorem cellsLab : Tryd.prog.cellsOf 62 = 2 := by kernel_rfl
theorem cellsStr : Tryd.prog.cellsOf 9 = 1 := by kernel_rfl
/-- What a label reads as, as a key. -/
def kL (d : Lab) : Lit := .string (keyBytes [.string d.1.data.toList, .string d.2.data.toList])
theorem keyOf_two {P : Program} {k s : TypeId} {fs : Array Field} {f0 f1 : Field} (hk : P.underlying k = some (.struct fs)) (hfs : fs = #[f0, f1]) (hs : P.underlying s = some .string) (hkt : P.keyType k = true) (hc : P.cellsOf k = 2) (hcs : P.cellsOf s = 1)
    (hn : fs.all (fun f => f.name != "_") = true) (ht0 : f0.type = s) (ht1 : f1.type = s) (ho0 : f0.offset = 0) (ho1 : f1.offset = 1) (hrow : k < P.types.size) {d : Lab} (h1 : d.1.size ≤ maxLen) (h2 : d.2.size ≤ maxLen) :
    keyOf P k (.agg #[.string d.1, .string d.2]) = some (kL d) := by
  obtain ⟨m, hm⟩ : ∃ m, P.types.size + 1 = m + 2 := ⟨P.types.size - 1, by have h0 : 0 < P.types.size := Nat.lt_of_le_of_lt (Nat.zero_le k) hrow; omega⟩
  have hf : (Value.agg #[.string d.1, .string d.2]).formed P k = true := by simp [Value.formed, hk, hc]
  have hl : P.keyLits (m + 2) k [.string d.1, .string d.2] = some [.string d.1.data.toList, .string d.2.data.toList] := by
    unfold Program.keyLits
    rw [hk]
    simp only [hc, hn, List.length_cons, List.length_nil, and_self, if_true]
    subst hfs
    simp [ht0, ht1, ho0, ho1, hcs, Program.keyLits, hs, h1, h2]
  unfold keyOf
  rw [hk]
  simp only [hkt, hf, Bool.and_self, if_true, hm]
  have hcl : (Value.agg #[.string d.1, .string d.2]).cells.toList = [.string d.1, .string d.2] := rfl
  rw [hcl, hl]
  rfl
theorem maxLen_is : (140737488355328 : Nat) ≤ maxLen := by decide
theorem kL_key {d : Lab} (h : okL d) : keyOf Tryd.prog 62 (.agg #[.string d.1, .string d.2]) = some (kL d) :=
  keyOf_two Tryd.underlying62 rfl Tryd.underlying9 keyTypeLab cellsLab cellsStr (by kernel_rfl) rfl rfl rfl rfl rowLab (Nat.le_trans h.1 maxLen_is) (Nat.le_trans h.2 maxLen_is)
theorem kL_is (d : Lab) : WideAt.IsKeyLit (kL d) := by unfold kL; trivial
theorem kL_inj {d e : Lab} (hd : okL d) (he : okL e) (h : kL d = kL e) : d = e := by
  have h1 := lawL.inj (kL_key hd) (h ▸ kL_key he)
  simp only [Value.agg.injEq, Array.mk.injEq, List.cons.injEq, Value.string.injEq, and_true] at h1
  exact Prod.ext h1.1 h1.2
theorem zeroI8 (w : World) : (zeroValue 3).run Tryd.prog w = .ok (.int .i64 0) w := by kernel_rfl
/-- D tells f of each label, and nothing that is nought. -/
def TellsF (D : DataW Unit) (f : Lab → Int) : Prop :=
  (∀ d, okL d → Maps.has D (kL d) = decide (f d ≠ 0) ∧ D.atKey (kL d) (.lit (.int .i64 0)) = .lit (.int .i64 (f d))) ∧ ∀ k, Maps.has D k = true → ∃ d, okL d ∧ kL d = k
/-- Block mb is a map that tells f of each label; at most n entries, none nought. -/
def CntAt (w : World) (mb n : Nat) (f : Lab → Int) : Prop :=
  ∃ D : DataW Unit, w.ownsMap Tryd.prog 62 (plainElem Tryd.prog 3) mb n D ∧ TellsF D f ∧ ∀ d, -(n : Int) ≤ f d ∧ f d ≤ n
theorem CntAt.lt {w : World} {mb n : Nat} {f : Lab → Int} (h : CntAt w mb n f) : mb < w.heap.size := by
  obtain ⟨D, h1, _⟩ := h
  exact h1.lt
theorem CntAt.same {w w' : World} {mb n : Nat} {f : Lab → Int} (h : CntAt w mb n f) (hb : w'.heap[mb]? = w.heap[mb]?) : CntAt w' mb n f := by
  obtain ⟨D, ⟨es, ck, h1, h2⟩, h3⟩ := h
  exact ⟨D, ⟨es, ck, hb.trans h1, h2⟩, h3⟩
theorem CntAt.on {w w' : World} {mb n : Nat} {f : Lab → Int} (h : CntAt w mb n f) (hb : Below w.heap.size w w') : CntAt w' mb n f := h.same (hb.block mb h.lt)
theorem CntAt.turned {w w' : World} {mb n : Nat} {f : Lab → Int} {F : Where} (h : CntAt w mb n f) (ht : Turns F w w') (hF : ¬ F mb) : CntAt w' mb n f := h.same (ht.block mb h.lt hF)
theorem CntAt.made (w : World) : CntAt (w.alloc (.map #[] 0)) w.heap.size 0 (fun _ => 0) :=
  ⟨.map [], World.ownsMap_made _ _ _ _, ⟨fun _ _ => ⟨rfl, rfl⟩, fun _ h => (by cases h)⟩, fun _ => (by simp)⟩
theorem CntAt.mono {w : World} {mb n n' : Nat} {f : Lab → Int} (h : CntAt w mb n f) (hn : n ≤ n') : CntAt w mb n' f := by
  obtain ⟨D, h1, h2, h4⟩ := h
  exact ⟨D, h1.mono hn, h2, fun d => by have := h4 d; omega⟩
theorem CntAt.as {w : World} {mb n : Nat} {f g : Lab → Int} (h : CntAt w mb n f) (e : ∀ d, f d = g d) : CntAt w mb n g := by
  obtain rfl : f = g := funext e
  exact h
theorem CntAt.le {w : World} {mb n : Nat} {f : Lab → Int} (h : CntAt w mb n f) (d : Lab) : -(n : Int) ≤ f d ∧ f d ≤ n := by
  obtain ⟨D, _, _, h4⟩ := h
  exact h4 d
/-- 'm[d]'. -/
theorem CntAt.look {w : World} {mb n : Nat} {f : Lab → Int} (h : CntAt w mb n f) (t : TypeId) (ht : Tryd.prog.underlying t = some (.map 62 3)) {d : Lab} (hd : okL d) :
    (Instr.lookup t (.map (some mb)) (.agg #[.string d.1, .string d.2]) false).run Tryd.prog w = .ok (.int .i64 (f d)) w := by
  obtain ⟨D, h1, ⟨h2, _⟩, _⟩ := h
  obtain ⟨c, hrun, hat, _⟩ := h1.lookup_int lawL ht Tryd.underlying3 (zeroI8 w) (kL_key hd)
  rw [(h2 d hd).2] at hat
  obtain rfl : f d = c := by simpa using hat
  exact hrun
/-- 'len(m)': nought, just if nobody is counted. -/
theorem CntAt.len {w : World} {mb n : Nat} {f : Lab → Int} (h : CntAt w mb n f) (t : TypeId) (ht : Tryd.prog.underlying t = some (.map 62 3)) :
    ∃ c : Int, (∀ ty, (Builtin.len_ #[t] ty #[.map (some mb)]).run Tryd.prog w = .ok (.int .i64 c) w) ∧ (c = 0 ↔ ∀ d, okL d → f d = 0) := by
  obtain ⟨D, h1, ⟨h2, h3⟩, _⟩ := h
  refine ⟨Maps.size D, fun ty => h1.len ht ty, ?_⟩
  constructor
  · intro hc d hd
    have h4 := (h2 d hd).1
    obtain ⟨es, rfl⟩ := h1.isMap
    have : es = [] := by
      rw [size_eq] at hc
      exact List.length_eq_zero_iff.1 (by omega)
    subst this
    have h5 : Maps.has (DataW.map [] : DataW Unit) (kL d) = false := rfl
    rw [h5] at h4
    by_cases e : f d = 0
    · exact e
    · simp [e] at h4
  · intro hf
    obtain ⟨es, rfl⟩ := h1.isMap
    rw [size_eq]
    cases es with
    | nil => rfl
    | cons p es =>
      exfalso
      obtain ⟨es0, ck, _, F, _, he⟩ := h1
      have hk : ∃ v, keyOf Tryd.prog 62 v = some p.1 := by
        have hkeys := fit_keys F
        have hm : p ∈ (es0.toList.map (WideElems.rg Tryd.prog 62 (plainElem Tryd.prog 3))).foldr DataW.insert [] := by
          have : DataW.map (p :: es) = DataW.map ((es0.toList.map (WideElems.rg Tryd.prog 62 (plainElem Tryd.prog 3))).foldr DataW.insert []) := he
          injection this with this
          rw [← this]; simp
        exact hkeys p (mem_sorted.1 hm)
      obtain ⟨v, hv⟩ := hk
      have hh : Maps.has (DataW.map (p :: es) : DataW Unit) p.1 = true := by
        rw [has_eq, List.any_cons]
        have : p.1.sameKey p.1 = true := WideAt.sameKey_self (lawL.key hv)
        rw [this]; rfl
      obtain ⟨d, hd, hdk⟩ := h3 _ hh
      have h6 := (h2 d hd).1
      rw [hdk, hh, hf d hd] at h6
      simp at h6
end Go.Proofs.YtfnafgmengefaaaDoor
namespace Go.Proofs.YtfnafgmengefaaaDoor
open Go.RowKit
set_option linter.unusedSimpArgs false

/-- What is told so hangs on no memory. -/
def Flat {α : Type} (R : Rep α) : Prop := ∀ (A A' : Where) (w w' : World) (cs : List Value) (x : α), R A w cs x → R A' w' cs x
theorem RStr.flat : Flat RStr := fun _ _ _ _ _ _ h => h
theorem RInt.flat : Flat RInt := fun _ _ _ _ _ _ h => h
theorem RBool.flat : Flat RBool := fun _ _ _ _ _ _ h => h
theorem Flat.pair {α β : Type} {R : Rep α} {S : Rep β} (hR : Flat R) (hS : Flat S) : Flat (RPair R S) := by
  rintro A A' w w' cs x ⟨c, d, e, h1, h2⟩
  exact ⟨c, d, e, hR _ _ _ _ _ _ h1, hS _ _ _ _ _ _ h2⟩
theorem Chunks.flat {α : Type} [Inhabited α] {R : Rep α} {k : Nat} (hF : Flat R) {A A' : Where} {u u' : World} {xs : List Value} {L : List α} (h : Chunks R k A u xs L) : Chunks R k A' u' xs L :=
  ⟨h.1, fun i hi => by obtain ⟨cs, h1, h2⟩ := h.2 i hi; exact ⟨cs, hF _ _ _ _ _ _ h1, h2⟩⟩
theorem RLabel.flat : Flat RLabel := Flat.pair RStr.flat RStr.flat
theorem RRes.flat : Flat RRes := Flat.pair RInt.flat (Flat.pair RInt.flat RInt.flat)
theorem RTaint.flat : Flat RTaint := Flat.pair RStr.flat (Flat.pair RStr.flat RInt.flat)
theorem RBear.flat : Flat RBear := Flat.pair RStr.flat (Flat.pair RStr.flat (Flat.pair RBool.flat RInt.flat))
theorem RClaim.flat : Flat RClaim := Flat.pair RStr.flat (Flat.pair RInt.flat (Flat.pair RStr.flat RStr.flat))
theorem RClass.flat : Flat RClass := Flat.pair RStr.flat RBool.flat
theorem sl_none {α : Type} [Inhabited α] {R : Rep α} {k bytes : Nat} {A : Where} {w : World} {n cap : Nat} {L : List α} (h : SlAt R k bytes A w none n cap L) : n = 0 ∧ cap = 0 ∧ L = [] := by
  have h0 : cap = 0 := h.2.2.1 rfl
  have h1 := h.2.1
  exact ⟨by omega, h0, List.length_eq_zero_iff.1 (by rw [h.1]; omega)⟩
theorem SlAt.len {α : Type} [Inhabited α] {R : Rep α} {k bytes : Nat} {A : Where} {w : World} {a : Option Addr} {n cap : Nat} {L : List α} (h : SlAt R k bytes A w a n cap L) (hb : 1 ≤ bytes) : n ≤ 140737488351232 := by
  have := h.2.2.2.1
  have h2 : n * 1 ≤ n * bytes := Nat.mul_le_mul_left _ hb
  omega
theorem infostr : (Tryd.prog.info? 9).map (fun i => (i.zero, i.size, i.bytes)) = some (some (.string ⟨#[]⟩), 1, 16) := by kernel_rfl
theorem infoint : (Tryd.prog.info? 3).map (fun i => (i.zero, i.size, i.bytes)) = some (some (.int .i64 0), 1, 8) := by kernel_rfl
theorem infoLabel : (Tryd.prog.info? 62).map (fun i => (i.zero, i.size, i.bytes)) = some (some (.agg #[.string ⟨#[]⟩, .string ⟨#[]⟩]), 2, 32) := by kernel_rfl

set_option maxHeartbeats 1000000 in
theorem Texts_copy (a : Option Addr) (n cap : Nat) (A : Where) (L : List (ByteArray)) (w : World) (hL : Hid (SlAt RStr 1 16 A w a n cap L)) : Calls Tryd.prog 44 #[.slice a n cap] w fun e w' => ∃ a' cap', e = .returned (.slice a' n cap') ∧ SlAt RStr 1 16 (Fresh w) w' a' n cap' L ∧ Below w.heap.size w w' := by
  have hb0 : Below w.heap.size w (w.alloc (.cells #[] 9)) := by go_grown
  match a with
  | none =>
    obtain ⟨rfl, rfl, rfl⟩ := sl_none hL.out
    go_enter Tryd.func44, Tryd.ntmps44
    go_wp2_with fail
    go_ret
    exact ⟨_, _, rfl, SlAt.nil _ _ _ _ (fun h => by cases h), hb0⟩
  | some ad =>
    obtain ⟨xs, hc, hcell, hone⟩ := (hL.out.on RStr.firm hb0).chunks RStr.firm
    have hn := hL.out.1
    have hbb := hL.out.2.2.2.1
    subst hn
    have HR : Hid (Row RStr 1 (Fresh w) w (w.alloc (.cells #[] 9)) 9 (.slice (some ⟨w.heap.size, 0, none⟩) 0 0) []) := Row.start _ w w _ (Below.refl _ _)
    have HC : Hid (Chunks RStr 1 (fun b => Fresh w b ∧ Value.ownBlock (.slice (some ⟨w.heap.size, 0, none⟩) 0 0) ≠ some b) (w.alloc (.cells #[] 9)) xs L) := hc.flat RStr.flat
    have HX : Hid (∀ j y, xs[j]? = some y → (w.alloc (.cells #[] 9)).cell? (ad.add j) = some y) := hcell
    have HO : Hid (∀ y ∈ xs, y.oneCell' = true) := hone
    clear hc hcell hone hL
    go_enter Tryd.func44, Tryd.ntmps44
    go_wp2_with (at_builtin; go_must (refine row_append RStr.firm (A := Fresh w) (w0 := w) rfl _ _ 31 9 rfl _ 16 infostr Tryd.underlying31 rfl (by decide) (by decide) _ [] rfl HR.out ad L.length cap xs L rfl rfl HC.out HX.out HO.out (by simp; omega) ?_); intro v1 w1 hrow1 hg1)
    go_ret
    obtain ⟨a', cap', rfl, h2⟩ := hrow1.slF (bytes := 16) RStr.firm (by simpa using hbb)
    simp only [List.nil_append] at h2 ⊢
    exact ⟨a', cap', rfl, h2, hrow1.below⟩

set_option maxHeartbeats 1000000 in
theorem Ints_copy (a : Option Addr) (n cap : Nat) (A : Where) (L : List (Int)) (w : World) (hL : Hid (SlAt RInt 1 8 A w a n cap L)) : Calls Tryd.prog 42 #[.slice a n cap] w fun e w' => ∃ a' cap', e = .returned (.slice a' n cap') ∧ SlAt RInt 1 8 (Fresh w) w' a' n cap' L ∧ Below w.heap.size w w' := by
  have hb0 : Below w.heap.size w (w.alloc (.cells #[] 3)) := by go_grown
  match a with
  | none =>
    obtain ⟨rfl, rfl, rfl⟩ := sl_none hL.out
    go_enter Tryd.func42, Tryd.ntmps42
    go_wp2_with fail
    go_ret
    exact ⟨_, _, rfl, SlAt.nil _ _ _ _ (fun h => by cases h), hb0⟩
  | some ad =>
    obtain ⟨xs, hc, hcell, hone⟩ := (hL.out.on RInt.firm hb0).chunks RInt.firm
    have hn := hL.out.1
    have hbb := hL.out.2.2.2.1
    subst hn
    have HR : Hid (Row RInt 1 (Fresh w) w (w.alloc (.cells #[] 3)) 3 (.slice (some ⟨w.heap.size, 0, none⟩) 0 0) []) := Row.start _ w w _ (Below.refl _ _)
    have HC : Hid (Chunks RInt 1 (fun b => Fresh w b ∧ Value.ownBlock (.slice (some ⟨w.heap.size, 0, none⟩) 0 0) ≠ some b) (w.alloc (.cells #[] 3)) xs L) := hc.flat RInt.flat
    have HX : Hid (∀ j y, xs[j]? = some y → (w.alloc (.cells #[] 3)).cell? (ad.add j) = some y) := hcell
    have HO : Hid (∀ y ∈ xs, y.oneCell' = true) := hone
    clear hc hcell hone hL
    go_enter Tryd.func42, Tryd.ntmps42
    go_wp2_with (at_builtin; go_must (refine row_append RInt.firm (A := Fresh w) (w0 := w) rfl _ _ 28 3 rfl _ 8 infoint Tryd.underlying28 rfl (by decide) (by decide) _ [] rfl HR.out ad L.length cap xs L rfl rfl HC.out HX.out HO.out (by simp; omega) ?_); intro v1 w1 hrow1 hg1)
    go_ret
    obtain ⟨a', cap', rfl, h2⟩ := hrow1.slF (bytes := 8) RInt.firm (by simpa using hbb)
    simp only [List.nil_append] at h2 ⊢
    exact ⟨a', cap', rfl, h2, hrow1.below⟩

set_option maxHeartbeats 1000000 in
theorem Labels_copy (a : Option Addr) (n cap : Nat) (A : Where) (L : List (Lab)) (w : World) (hL : Hid (SlAt RLabel 2 32 A w a n cap L)) : Calls Tryd.prog 27 #[.slice a n cap] w fun e w' => ∃ a' cap', e = .returned (.slice a' n cap') ∧ SlAt RLabel 2 32 (Fresh w) w' a' n cap' L ∧ Below w.heap.size w w' := by
  have hb0 : Below w.heap.size w (w.alloc (.cells #[] 62)) := by go_grown
  match a with
  | none =>
    obtain ⟨rfl, rfl, rfl⟩ := sl_none hL.out
    go_enter Tryd.func27, Tryd.ntmps27
    go_wp2_with fail
    go_ret
    exact ⟨_, _, rfl, SlAt.nil _ _ _ _ (fun h => by cases h), hb0⟩
  | some ad =>
    obtain ⟨xs, hc, hcell, hone⟩ := (hL.out.on RLabel.firm hb0).chunks RLabel.firm
    have hn := hL.out.1
    have hbb := hL.out.2.2.2.1
    subst hn
    have HR : Hid (Row RLabel 2 (Fresh w) w (w.alloc (.cells #[] 62)) 62 (.slice (some ⟨w.heap.size, 0, none⟩) 0 0) []) := Row.start _ w w _ (Below.refl _ _)
    have HC : Hid (Chunks RLabel 2 (fun b => Fresh w b ∧ Value.ownBlock (.slice (some ⟨w.heap.size, 0, none⟩) 0 0) ≠ some b) (w.alloc (.cells #[] 62)) xs L) := hc.flat RLabel.flat
    have HX : Hid (∀ j y, xs[j]? = some y → (w.alloc (.cells #[] 62)).cell? (ad.add j) = some y) := hcell
    have HO : Hid (∀ y ∈ xs, y.oneCell' = true) := hone
    clear hc hcell hone hL
    go_enter Tryd.func27, Tryd.ntmps27
    go_wp2_with (at_builtin; go_must (refine row_append RLabel.firm (A := Fresh w) (w0 := w) rfl _ _ 22 62 rfl _ 32 infoLabel Tryd.underlying22 rfl (by decide) (by decide) _ [] rfl HR.out ad L.length cap xs L rfl rfl HC.out HX.out HO.out (by simp; omega) ?_); intro v1 w1 hrow1 hg1)
    go_ret
    obtain ⟨a', cap', rfl, h2⟩ := hrow1.slF (bytes := 32) RLabel.firm (by simpa using hbb)
    simp only [List.nil_append] at h2 ⊢
    exact ⟨a', cap', rfl, h2, hrow1.below⟩
end Go.Proofs.YtfnafgmengefaaaDoor
namespace Go.Proofs.YtfnafgmengefaaaDoor
open Go.RowKit

theorem row_of_sl {α : Type} [Inhabited α] {R : Rep α} {enc : α → List Value} {k bytes : Nat} {ok : α → Prop} (hR : ∀ {A w cs x}, R A w cs x → cs = enc x ∧ ok x) (hb : 1 ≤ bytes) {A : Where} {w : World} {a : Option Addr} {n cap : Nat} {L : List α} (h : SlAt R k bytes A w a n cap L) : RowAt enc k ok w a L := by
  have hl := h.len hb
  obtain ⟨hn, h2, h3, h4, h5⟩ := h
  have each : ∀ i, i < n → ok (L.getD i default) := fun i hi => by
    obtain ⟨B, off, _, _, _, hc⟩ := h5 (by omega)
    obtain ⟨cs, hr, _⟩ := hc i hi
    exact (hR hr).2
  refine ⟨by omega, fun x hx => ?_, fun hne => ?_⟩
  · obtain ⟨i, hi, rfl⟩ := List.mem_iff_getElem.1 hx
    have := each i (by omega)
    rwa [getE _ _ hi] at this
  · have hpos : 0 < n := by
      rcases Nat.eq_zero_or_pos n with h0 | h0
      · exact absurd (List.length_eq_zero_iff.1 (by omega)) hne
      · exact h0
    obtain ⟨B, off, e, hB, _, hc⟩ := h5 hpos
    refine ⟨B, off, e, hB, fun i hi j v hj => ?_⟩
    obtain ⟨cs, hr, hv⟩ := hc i (by omega)
    rw [← (hR hr).1] at hj
    exact hv j v hj
theorem tnts_of {A : Where} {w : World} {a : Option Addr} {n cap : Nat} {L : List Tnt} (h : SlAt RTaint 3 40 A w a n cap L) : TntsAt w a L :=
  row_of_sl (fun hr => by obtain ⟨rfl, h1, h2⟩ := RTaint.out hr; exact ⟨rfl, h1, h2⟩) (by decide) h
theorem bears_of {A : Where} {w : World} {a : Option Addr} {n cap : Nat} {L : List Bear} (h : SlAt RBear 4 48 A w a n cap L) : BearsAt w a L :=
  row_of_sl (fun hr => by obtain ⟨rfl, h1, h2⟩ := RBear.out hr; exact ⟨rfl, h1, h2⟩) (by decide) h
end Go.Proofs.YtfnafgmengefaaaDoor
namespace Go.Proofs.YtfnafgmengefaaaDoor
open Go.RowKit
set_option linter.unusedSimpArgs false

theorem retb {a b : Bool} (h : a = b) : Ending.returned (.bool a) = .returned (.bool b) := by rw [h]
theorem isDig_iff (c : UInt8) : isDig c = true ↔ 48 ≤ c.toNat ∧ c.toNat ≤ 57 := by simp [isDig]
theorem isDig_no {c : UInt8} (h : ¬(48 ≤ c.toNat ∧ c.toNat ≤ 57)) : isDig c = false := by
  cases e : isDig c
  · rfl
  · exact absurd ((isDig_iff c).1 e) h

theorem isDigit_calls (c : UInt8) (w : World) : Calls Tryd.prog 97 #[.int .u8 (c.toNat : Int)] w fun e w' => e = .returned (.bool (isDig c)) ∧ w' = w := by
  by_cases h1 : (48 : Int) ≤ (c.toNat : Int)
  · by_cases h2 : (c.toNat : Int) ≤ 57
    · have HF : Hid (isDig c = true) := (isDig_iff c).2 ⟨by omega, by omega⟩
      go_enter Tryd.func97, Tryd.ntmps97
      go_wp2
      go_ret
      exact ⟨retb HF.out.symm, rfl⟩
    · have HF : Hid (isDig c = false) := isDig_no (by omega)
      go_enter Tryd.func97, Tryd.ntmps97
      go_wp2
      go_ret
      exact ⟨retb HF.out.symm, rfl⟩
  · have HF : Hid (isDig c = false) := isDig_no (by omega)
    go_enter Tryd.func97, Tryd.ntmps97
    go_wp2
    go_ret
    exact ⟨retb HF.out.symm, rfl⟩

theorem wChar_low {c : UInt8} (h : (97 : Int) ≤ c.toNat) (h2 : (c.toNat : Int) ≤ 122) : wChar c = true := by
  have : decide (97 ≤ c.toNat) = true := by simp; omega
  have h3 : decide (c.toNat ≤ 122) = true := by simp; omega
  simp [wChar, this, h3]
theorem wChar_else {c : UInt8} (h : ¬((97 : Int) ≤ c.toNat ∧ (c.toNat : Int) ≤ 122)) : wChar c = (isDig c || decide (c.toNat = 45) || decide (c.toNat = 46) || decide (c.toNat = 47)) := by
  have : (decide (97 ≤ c.toNat) && decide (c.toNat ≤ 122)) = false := by simp; omega
  simp [wChar, this]

theorem wordB_no {s : ByteArray} (h : ¬(1 ≤ s.size ∧ s.size ≤ 32)) : wordB s = false := by
  have : (decide (1 ≤ s.size) && decide (s.size ≤ 32)) = false := by simp; omega
  simp [wordB, this]
theorem wordB_rest {s : ByteArray} (h1 : 1 ≤ s.size) (h2 : s.size ≤ 32) : wordB s = allTo s.size fun i => wChar (byteAt s i) := by
  simp [wordB, h1, h2]

end Go.Proofs.YtfnafgmengefaaaDoor
namespace Go.Proofs.YtfnafgmengefaaaDoor
open Go.RowKit
set_option linter.unusedSimpArgs false

theorem empty_of {s : ByteArray} (h : s.size = 0) : s.toList.isEmpty = true := by
  rw [ByteArray.toList_eq, List.isEmpty_iff_length_eq_zero]
  simpa using h
theorem not_empty_of {s : ByteArray} (h : 1 ≤ s.size) : s.toList.isEmpty = false := by
  cases e : s.toList.isEmpty
  · rfl
  · rw [ByteArray.toList_eq, List.isEmpty_iff_length_eq_zero] at e
    have e' : s.size = 0 := by simpa using e
    omega

theorem numB_no {s : ByteArray} (h : ¬(1 ≤ s.size ∧ s.size ≤ 15)) : numB s = false := by
  have : (decide (1 ≤ s.size) && decide (s.size ≤ 15)) = false := by simp; omega
  simp [numB, this]
theorem numB_zero {s : ByteArray} (h : 1 < s.size) (h0 : (byteAt s 0).toNat = 48) : numB s = false := by
  simp [numB, h, h0]
theorem numB_rest {s : ByteArray} (h1 : 1 ≤ s.size) (h2 : s.size ≤ 15) (h3 : ¬(1 < s.size ∧ (byteAt s 0).toNat = 48)) : numB s = allTo s.size fun i => isDig (byteAt s i) := by
  have : (decide (1 < s.size) && decide ((byteAt s 0).toNat = 48)) = false := by simp; omega
  simp [numB, h1, h2, this]

set_option maxHeartbeats 1000000 in
theorem isNumber_calls (s : ByteArray) (w : World) : Calls Tryd.prog 88 #[.string s] w fun e w' => e = .returned (.bool (numB s)) ∧ w' = w := by
  by_cases h0 : (s.size : Int) = 0
  · have HF : Hid (numB s = false) := numB_no (by omega)
    have h0' : ((s.size : Int) == 0) = true := beq_iff_eq.2 h0
    go_enter Tryd.func88, Tryd.ntmps88
    go_wp2
    go_ret
    exact ⟨retb HF.out.symm, rfl⟩
  have h0' : ((s.size : Int) == 0) = false := beq_eq_false_iff_ne.2 h0
  by_cases h1 : (15 : Int) < (s.size : Int)
  · have HF : Hid (numB s = false) := numB_no (by omega)
    go_enter Tryd.func88, Tryd.ntmps88
    go_wp2
    go_ret
    exact ⟨retb HF.out.symm, rfl⟩
  have hp : 0 < s.size := by omega
  have HB : ∃ b c : Bool, ((s[0].toNat : Int) == 48) = b ∧ decide ((1 : Int) < (s.size : Int)) = c ∧ Hid ((b && c) = true → numB s = false) ∧ Hid ((b && c) = false → numB s = allTo s.size fun i => isDig (byteAt s i)) := by
    refine ⟨_, _, rfl, rfl, ?_, ?_⟩
    · intro h
      simp only [Bool.and_eq_true, beq_iff_eq, decide_eq_true_eq] at h
      exact numB_zero (by omega) (by rw [byteAt_get s 0 hp]; omega)
    · intro h
      refine numB_rest (by omega) (by omega) ?_
      rintro ⟨x, y⟩
      rw [byteAt_get s 0 hp] at y
      rw [beq_iff_eq.2 (show (s[0].toNat : Int) = 48 by omega), decide_eq_true (show (1 : Int) < s.size by omega)] at h
      cases h
  obtain ⟨b, c, hb, hc, HT, HN⟩ := HB
  cases b <;> cases c
  case true.true =>
    have HF : Hid (numB s = false) := HT.out rfl
    clear HT HN
    go_enter Tryd.func88, Tryd.ntmps88
    go_wp2
    go_ret
    exact ⟨retb HF.out.symm, rfl⟩
  all_goals
    have HM : Hid (numB s = allTo s.size fun i => isDig (byteAt s i)) := HN.out rfl
    clear HT HN
    go_enter Tryd.func88, Tryd.ntmps88
    go_wp2
    go_loop [22] (fun i => ∃ k : Nat, k ≤ s.size ∧ i = .int .i64 k ∧ Hid (∀ j, j < k → isDig (byteAt s j) = true)) (fun i => s.size - (intOf i).toNat)
    case atStart => exact ⟨0, Nat.zero_le _, rfl, fun j hj => absurd hj (Nat.not_lt_zero _)⟩
    case round =>
      obtain ⟨k, hk, rfl, hall⟩ := hrel
      by_cases hlt : k < s.size
      · have hin := isDigit_calls s[k]
        cases hc : isDig s[k]
        · rw [hc] at hin
          have HF : Hid (numB s = false) := HM.out.trans (allTo_false hlt (by rw [byteAt_get s k hlt]; exact hc))
          clear hc
          go_wp2_with (go_at_call 97; refine (hin _).mono ?_; rintro e w' ⟨rfl, rfl⟩)
          go_ret
          exact ⟨retb HF.out.symm, rfl⟩
        · rw [hc] at hin
          have HS : Hid (isDig (byteAt s k) = true) := by rw [Hid, byteAt_get s k hlt]; exact hc
          clear hc
          go_wp2_with (go_at_call 97; refine (hin _).mono ?_; rintro e w' ⟨rfl, rfl⟩)
          go_round
          case rel => exact ⟨k + 1, by omega, by go_num, fun j hj => by rcases Nat.lt_succ_iff_lt_or_eq.1 hj with h | rfl; exact hall.out j h; exact HS.out⟩
          case measure => simp [intOf]; omega
      · have HF : Hid (numB s = true) := HM.out.trans (allTo_true (fun j hj => hall.out j (by omega)))
        go_wp2
        go_ret
        exact ⟨retb HF.out.symm, rfl⟩

theorem wChar_no {c : UInt8} (h1 : ¬((97 : Int) ≤ c.toNat ∧ (c.toNat : Int) ≤ 122)) (h2 : ¬((48 : Int) ≤ c.toNat ∧ (c.toNat : Int) ≤ 57)) (h3 : (c.toNat : Int) ≠ 45) (h4 : (c.toNat : Int) ≠ 46) (h5 : (c.toNat : Int) ≠ 47) : wChar c = false := by
  rw [wChar_else h1, isDig_no (by omega)]
  simp; omega
theorem wChar_dig {c : UInt8} (h : (48 : Int) ≤ c.toNat ∧ (c.toNat : Int) ≤ 57) : wChar c = true := by
  have := (isDig_iff c).2 (by omega); simp [wChar, this]
theorem wChar_sign {c : UInt8} (h : (c.toNat : Int) = 45 ∨ (c.toNat : Int) = 46 ∨ (c.toNat : Int) = 47) : wChar c = true := by
  have : c.toNat = 45 ∨ c.toNat = 46 ∨ c.toNat = 47 := by omega
  rcases this with h | h | h <;> simp [wChar, h]

/-- The paths through the document's test of one byte. -/
theorem wChar_paths (c : UInt8) : (¬ (c.toNat : Int) < 97 ∧ ¬ (122 : Int) < c.toNat ∧ Hid (wChar c = true)) ∨
    (((c.toNat : Int) < 97 ∨ (¬ (c.toNat : Int) < 97 ∧ (122 : Int) < c.toNat)) ∧
      ((¬ (c.toNat : Int) < 48 ∧ ¬ (57 : Int) < c.toNat ∧ Hid (wChar c = true)) ∨
       (((c.toNat : Int) < 48 ∨ (¬ (c.toNat : Int) < 48 ∧ (57 : Int) < c.toNat)) ∧
        ((((c.toNat : Int) != 45) = false ∧ Hid (wChar c = true)) ∨ (((c.toNat : Int) != 45) = true ∧
         ((((c.toNat : Int) != 46) = false ∧ Hid (wChar c = true)) ∨ (((c.toNat : Int) != 46) = true ∧
          ((((c.toNat : Int) != 47) = false ∧ Hid (wChar c = true)) ∨ (((c.toNat : Int) != 47) = true ∧ Hid (wChar c = false)))))))))) := by
  by_cases h1 : (c.toNat : Int) < 97 ∨ (122 : Int) < c.toNat
  · refine .inr ⟨by omega, ?_⟩
    by_cases h2 : (c.toNat : Int) < 48 ∨ (57 : Int) < c.toNat
    · refine .inr ⟨by omega, ?_⟩
      by_cases h3 : (c.toNat : Int) = 45
      · exact .inl ⟨by rw [h3]; rfl, wChar_sign (.inl h3)⟩
      refine .inr ⟨bne_iff_ne.2 h3, ?_⟩
      by_cases h4 : (c.toNat : Int) = 46
      · exact .inl ⟨by rw [h4]; rfl, wChar_sign (.inr (.inl h4))⟩
      refine .inr ⟨bne_iff_ne.2 h4, ?_⟩
      by_cases h5 : (c.toNat : Int) = 47
      · exact .inl ⟨by rw [h5]; rfl, wChar_sign (.inr (.inr h5))⟩
      exact .inr ⟨bne_iff_ne.2 h5, wChar_no (by omega) (by omega) h3 h4 h5⟩
    · exact .inl ⟨by omega, by omega, wChar_dig (by omega)⟩
  · exact .inl ⟨by omega, by omega, wChar_low (by omega) (by omega)⟩

theorem wordB_bad {s : ByteArray} {k : Nat} (h : k < s.size) (hc : wChar s[k] = false) : wordB s = false := by
  have : allTo s.size (fun i => wChar (byteAt s i)) = false := allTo_false h (by rw [byteAt_get s k h]; exact hc)
  simp [wordB, this]
theorem wordB_good {s : ByteArray} (h : ∀ j, j < s.size → wChar (byteAt s j) = true) : wordB s = (decide (1 ≤ s.size) && decide (s.size ≤ 32)) := by
  have : allTo s.size (fun i => wChar (byteAt s i)) = true := allTo_true h
  simp [wordB, this]

end Go.Proofs.YtfnafgmengefaaaDoor
namespace Go.Proofs.YtfnafgmengefaaaDoor
open Go.RowKit
set_option linter.unusedSimpArgs false

theorem ret_ib {k : IntKind} {a c : Int} {b d : Bool} (h : a = c ∧ b = d) : Ending.returned (.tuple #[.int k a, .bool b]) = .returned (.tuple #[.int k c, .bool d]) := by rw [h.1, h.2]
def wholeN (s : ByteArray) : Nat := if numB s then numN s else 0
theorem numTo_le (s : ByteArray) : ∀ k, k ≤ s.size → (∀ j, j < k → isDig (byteAt s j) = true) → numTo s k < 10 ^ k
  | 0, _, _ => by simp [numTo]
  | k + 1, hk, h => by
    have ih := numTo_le s k (by omega) (fun j hj => h j (by omega))
    have hd := (isDig_iff _).1 (h k (by omega))
    simp only [numTo, Nat.pow_succ]
    omega
theorem pow15 {k : Nat} (h : k ≤ 15) : 10 ^ k ≤ 1000000000000000 := by
  have := Nat.pow_le_pow_right (n := 10) (by omega) h
  simpa using this

end Go.Proofs.YtfnafgmengefaaaDoor
