/- What is placed, counted by domains; why a pod may not come somewhere: by counts, and by the document's words. Plain mathematics. No condition. base.Texts, Ints, Labels give slices of their own that hold the same. Condition: the slice holds what is said of it. base.Reqs gives a slice of its own, its values' texts copied too, that holds the same. Condition: the slice holds what is said of it. base.SameTexts, SameInts, SameLabels, SameReqs, sameTerms tell whether two slices hold the same; they change nothing but the count of draws. Condition: the slices hold what is said of them. base.Has and base.HasInt tell whether it is in a list, and change nothing. Condition: the slice lies as is said of it. Insertion into a rising list, each once. Plain mathematics. No condition. The order of texts. Plain mathematics. No condition. -/
import Derived.Test.YtillkgflppabfaaDoorQ03
import Derived.Laws.StructEq
import Derived.Test.YtillkgflppabfaaDoorQ02
import Derived.Lib.OwnBridge
import Derived.Lib.AppendIntMem
namespace Go.Proofs.YtillkgflppabfaaDoor
open Go.RowKit
set_option linter.unusedSimpArgs false

/-- A pod that is placed, and its node's labels. -/
abbrev PlacedD := PodD × List Lab
def RPlaced : Rep PlacedD := RPair RPod (RSl RLabel 2 32)
theorem RPlaced.firm : Firm RPlaced 17 := Firm.pair RPod.firm (RSl.firm RLabel.firm)
abbrev pNear (p : PodD) : List TermD := p.2.2.2.2.2.2.2.2.1
abbrev pApart (p : PodD) : List TermD := p.2.2.2.2.2.2.2.2.2.1
abbrev pLabs (p : PodD) : List Lab := p.2.2.1

def okL (d : Lab) : Prop := d.1.size ≤ 140737488355328 ∧ d.2.size ≤ 140737488355328
/-- The domain of a key that labels have. -/
abbrev domL (L : List Lab) (key : ByteArray) : Lab := (key, (getL L key).1)
/-- Does a label stand at the domain of a key? -/
def atD (L : List Lab) (key : ByteArray) (d : Lab) : Bool := (getL L key).2 && (sEq d.1 key && sEq d.2 (getL L key).1)
/-- Is x counted for the term t at d? -/
def hT (t : TermD) (x : PlacedD) (d : Lab) : Bool := matchL (pLabs x.1) t.1 && atD x.2 t.2 d
def one (b : Bool) : Int := if b = true then 1 else 0
def cT (t : TermD) (A : List PlacedD) (d : Lab) : Int := (A.map (fun x => one (hT t x d))).sum
def hO (P : List Lab) (x : PlacedD) (t : TermD) (d : Lab) : Bool := matchL P t.1 && atD x.2 t.2 d
def cX (P : List Lab) (x : PlacedD) (T : List TermD) (d : Lab) : Int := (T.map (fun t => one (hO P x t d))).sum
def cO (P : List Lab) (A : List PlacedD) (d : Lab) : Int := (A.map (fun x => cX P x (pApart x.1) d)).sum
/-- Is nobody counted for t anywhere? -/
def eT (t : TermD) (A : List PlacedD) : Bool := !A.any (fun x => matchL (pLabs x.1) t.1 && (getL x.2 t.2).2)
def lackT (P L : List Lab) (A : List PlacedD) (t : TermD) : Bool := !(getL L t.2).2 || (decide (cT t A (domL L t.2) = 0) && !(eT t A && matchL P t.1))
def aparT (L : List Lab) (A : List PlacedD) (t : TermD) : Bool := (getL L t.2).2 && decide (0 < cT t A (domL L t.2))
def othL (P L : List Lab) (A : List PlacedD) (l : Lab) : Bool := decide (0 < cO P A l) && ((getL L l.1).2 && decide (0 < cO P A (domL L l.1)))
/-- What the program tells of a table of A. -/
def whyN (P : List Lab) (N M : List TermD) (L : List Lab) (A : List PlacedD) : Int :=
  if N.any (lackT P L A) = true then 9 else if M.any (aparT L A) = true then 10 else if L.any (othL P L A) = true then 11 else 0
def othersN (name : ByteArray) (l : List PlacedD) : List PlacedD := l.filter (fun x => !sEq x.1.1 name)
def nearP (p : PodD) (L : List Lab) (l : List PlacedD) : Int := whyN (pLabs p) (pNear p) (pApart p) L (othersN p.1 l)

/-- The document's words. -/
def thereT (t : TermD) (L : List Lab) (A : List PlacedD) : Bool := A.any (fun x => matchL (pLabs x.1) t.1 && sameL x.2 L t.2)
def anyT (t : TermD) (A : List PlacedD) : Bool := A.any (fun x => (getL x.2 t.2).2 && matchL (pLabs x.1) t.1)
def rLackT (P L : List Lab) (A : List PlacedD) (t : TermD) : Bool := !(getL L t.2).2 || (!thereT t L A && (anyT t A || !matchL P t.1))
def rOthX (P L : List Lab) (x : PlacedD) : Bool := (pApart x.1).any (fun t => matchL P t.1 && sameL x.2 L t.2)
def whyR8 (P : List Lab) (N M : List TermD) (L : List Lab) (A : List PlacedD) : Int :=
  if N.any (rLackT P L A) = true then 9 else if M.any (fun t => thereT t L A) = true then 10 else if A.any (rOthX P L) = true then 11 else 0
def refN (p : PodD) (L : List Lab) (l : List PlacedD) : Int := whyR8 (pLabs p) (pNear p) (pApart p) L (othersN p.1 l)

theorem one_nonneg (b : Bool) : 0 ≤ one b := by unfold one; split <;> omega
theorem one_le (b : Bool) : one b ≤ 1 := by unfold one; split <;> omega
theorem sum_nonneg : ∀ (l : List Int), (∀ x ∈ l, 0 ≤ x) → 0 ≤ l.sum
  | [], _ => by simp
  | x :: l, h => by
    have h1 := h x (by simp)
    have h2 := sum_nonneg l (fun y hy => h y (by simp [hy]))
    simp only [List.sum_cons]; omega
theorem sum_pos : ∀ (l : List Int), (∀ x ∈ l, 0 ≤ x) → (0 < l.sum ↔ ∃ x ∈ l, 0 < x)
  | [], _ => by simp
  | x :: l, h => by
    have h1 := h x (by simp)
    have h2 := sum_nonneg l (fun y hy => h y (by simp [hy]))
    have h3 := sum_pos l (fun y hy => h y (by simp [hy]))
    simp only [List.sum_cons, List.mem_cons, exists_eq_or_imp]
    rw [← h3]
    omega
theorem one_pos {b : Bool} : 0 < one b ↔ b = true := by unfold one; split <;> simp_all
theorem cT_nonneg (t : TermD) (A : List PlacedD) (d : Lab) : 0 ≤ cT t A d := sum_nonneg _ (fun x hx => by obtain ⟨y, _, rfl⟩ := List.mem_map.1 hx; exact one_nonneg _)
theorem cT_pos (t : TermD) (A : List PlacedD) (d : Lab) : 0 < cT t A d ↔ ∃ x ∈ A, hT t x d = true := by
  unfold cT
  rw [sum_pos _ (fun x hx => by obtain ⟨y, _, rfl⟩ := List.mem_map.1 hx; exact one_nonneg _)]
  constructor
  · rintro ⟨x, hx, hp⟩
    obtain ⟨y, hy, rfl⟩ := List.mem_map.1 hx
    exact ⟨y, hy, one_pos.1 hp⟩
  · rintro ⟨y, hy, hp⟩
    exact ⟨_, List.mem_map.2 ⟨y, hy, rfl⟩, one_pos.2 hp⟩
theorem cX_nonneg (P : List Lab) (x : PlacedD) (T : List TermD) (d : Lab) : 0 ≤ cX P x T d := sum_nonneg _ (fun x hx => by obtain ⟨y, _, rfl⟩ := List.mem_map.1 hx; exact one_nonneg _)
theorem cX_pos (P : List Lab) (x : PlacedD) (T : List TermD) (d : Lab) : 0 < cX P x T d ↔ ∃ t ∈ T, hO P x t d = true := by
  unfold cX
  rw [sum_pos _ (fun x hx => by obtain ⟨y, _, rfl⟩ := List.mem_map.1 hx; exact one_nonneg _)]
  constructor
  · rintro ⟨x, hx, hp⟩
    obtain ⟨y, hy, rfl⟩ := List.mem_map.1 hx
    exact ⟨y, hy, one_pos.1 hp⟩
  · rintro ⟨y, hy, hp⟩
    exact ⟨_, List.mem_map.2 ⟨y, hy, rfl⟩, one_pos.2 hp⟩
theorem cO_nonneg (P : List Lab) (A : List PlacedD) (d : Lab) : 0 ≤ cO P A d := sum_nonneg _ (fun x hx => by obtain ⟨y, _, rfl⟩ := List.mem_map.1 hx; exact cX_nonneg _ _ _ _)
theorem cO_pos (P : List Lab) (A : List PlacedD) (d : Lab) : 0 < cO P A d ↔ ∃ x ∈ A, ∃ t ∈ pApart x.1, hO P x t d = true := by
  unfold cO
  rw [sum_pos _ (fun x hx => by obtain ⟨y, _, rfl⟩ := List.mem_map.1 hx; exact cX_nonneg _ _ _ _)]
  constructor
  · rintro ⟨x, hx, hp⟩
    obtain ⟨y, hy, rfl⟩ := List.mem_map.1 hx
    exact ⟨y, hy, (cX_pos _ _ _ _).1 hp⟩
  · rintro ⟨y, hy, hp⟩
    exact ⟨_, List.mem_map.2 ⟨y, hy, rfl⟩, (cX_pos _ _ _ _).2 hp⟩
theorem atD_iff {L : List Lab} {key : ByteArray} {d : Lab} : atD L key d = true ↔ (getL L key).2 = true ∧ d = domL L key := by
  unfold atD
  rw [Bool.and_eq_true, Bool.and_eq_true, sEq_iff, sEq_iff]
  constructor
  · rintro ⟨h1, h2, h3⟩; exact ⟨h1, Prod.ext h2 h3⟩
  · rintro ⟨h1, rfl⟩; exact ⟨h1, rfl, rfl⟩
theorem sameL_iff {A B : List Lab} {key : ByteArray} : sameL A B key = true ↔ (getL A key).2 = true ∧ (getL B key).2 = true ∧ domL B key = domL A key := by
  unfold sameL
  rw [Bool.and_eq_true, Bool.and_eq_true, sEq_iff]
  constructor
  · rintro ⟨⟨h1, h2⟩, h3⟩; exact ⟨h1, h2, Prod.ext rfl h3.symm⟩
  · rintro ⟨h1, h2, h3⟩; exact ⟨⟨h1, h2⟩, (congrArg Prod.snd h3).symm⟩
theorem there_pos {t : TermD} {L : List Lab} {A : List PlacedD} (h : (getL L t.2).2 = true) : 0 < cT t A (domL L t.2) ↔ thereT t L A = true := by
  rw [cT_pos]
  unfold thereT
  rw [List.any_eq_true]
  constructor
  · rintro ⟨x, hx, hh⟩
    unfold hT at hh
    rw [Bool.and_eq_true, atD_iff] at hh
    exact ⟨x, hx, by rw [Bool.and_eq_true, sameL_iff]; exact ⟨hh.1, hh.2.1, h, hh.2.2⟩⟩
  · rintro ⟨x, hx, hh⟩
    rw [Bool.and_eq_true, sameL_iff] at hh
    exact ⟨x, hx, by unfold hT; rw [Bool.and_eq_true, atD_iff]; exact ⟨hh.1, hh.2.1, hh.2.2.2⟩⟩
theorem eT_any (t : TermD) (A : List PlacedD) : eT t A = !anyT t A := by
  unfold eT anyT
  congr 2
  funext x
  rw [Bool.and_comm]
theorem lack_is (P L : List Lab) (A : List PlacedD) (t : TermD) : lackT P L A t = rLackT P L A t := by
  unfold lackT rLackT
  cases h : (getL L t.2).2
  · rfl
  · have h1 := there_pos (A := A) h
    have h2 := cT_nonneg t A (domL L t.2)
    have h3 : decide (cT t A (domL L t.2) = 0) = !thereT t L A := by
      cases e : thereT t L A
      · rw [e] at h1; simp at h1; simp; omega
      · have := h1.2 e; simp; omega
    rw [h3, eT_any]
    cases thereT t L A <;> cases anyT t A <;> cases matchL P t.1 <;> rfl
theorem apar_is (L : List Lab) (A : List PlacedD) (t : TermD) : aparT L A t = thereT t L A := by
  unfold aparT
  cases h : (getL L t.2).2
  · have : thereT t L A = false := by
      unfold thereT
      rw [List.any_eq_false]
      intro x hx
      rw [Bool.and_eq_true, sameL_iff]
      rintro ⟨_, _, h2, _⟩
      rw [h] at h2; cases h2
    rw [this]; rfl
  · have h1 := there_pos (A := A) h
    cases e : thereT t L A
    · rw [e] at h1; simp at h1; simp; omega
    · have := h1.2 e; simp; omega
theorem getL_mem {L : List Lab} {key : ByteArray} (h : (getL L key).2 = true) : domL L key ∈ L := by
  unfold domL getL at *
  cases e : L.find? (fun x => sEq x.1 key) with
  | none => rw [e] at h; cases h
  | some x =>
    have h1 := List.find?_some e
    have h2 := List.mem_of_find?_eq_some e
    rw [sEq_iff] at h1
    subst h1
    exact h2
theorem oth_is (P L : List Lab) (A : List PlacedD) : L.any (othL P L A) = A.any (rOthX P L) := by
  rw [Bool.eq_iff_iff, List.any_eq_true, List.any_eq_true]
  constructor
  · rintro ⟨l, hl, hh⟩
    unfold othL at hh
    simp only [Bool.and_eq_true, decide_eq_true_eq] at hh
    obtain ⟨_, h2, h3⟩ := hh
    obtain ⟨x, hx, t, ht, hp⟩ := (cO_pos _ _ _).1 h3
    unfold hO at hp
    rw [Bool.and_eq_true, atD_iff] at hp
    have e : l.1 = t.2 := congrArg Prod.fst hp.2.2
    rw [e] at h2 hp
    refine ⟨x, hx, ?_⟩
    unfold rOthX
    rw [List.any_eq_true]
    exact ⟨t, ht, by rw [Bool.and_eq_true, sameL_iff]; exact ⟨hp.1, hp.2.1, h2, hp.2.2⟩⟩
  · rintro ⟨x, hx, hh⟩
    unfold rOthX at hh
    rw [List.any_eq_true] at hh
    obtain ⟨t, ht, hp⟩ := hh
    rw [Bool.and_eq_true, sameL_iff] at hp
    refine ⟨domL L t.2, getL_mem hp.2.2.1, ?_⟩
    have h1 : 0 < cO P A (domL L t.2) := (cO_pos _ _ _).2 ⟨x, hx, t, ht, by unfold hO; rw [Bool.and_eq_true, atD_iff]; exact ⟨hp.1, hp.2.1, hp.2.2.2⟩⟩
    unfold othL
    simp only [Bool.and_eq_true, decide_eq_true_eq]
    exact ⟨h1, hp.2.2.1, h1⟩
theorem near_ref (p : PodD) (L : List Lab) (l : List PlacedD) : nearP p L l = refN p L l := by
  unfold nearP refN whyN whyR8
  have h1 : lackT (pLabs p) L (othersN p.1 l) = rLackT (pLabs p) L (othersN p.1 l) := funext (lack_is _ _ _)
  have h2 : aparT L (othersN p.1 l) = fun t => thereT t L (othersN p.1 l) := funext (apar_is _ _)
  rw [h1, h2, oth_is]
theorem any_perm {α : Type} {l m : List α} (h : l.Perm m) (f : α → Bool) : l.any f = m.any f := by
  rw [Bool.eq_iff_iff, List.any_eq_true, List.any_eq_true]
  exact ⟨fun ⟨x, hx, e⟩ => ⟨x, h.mem_iff.1 hx, e⟩, fun ⟨x, hx, e⟩ => ⟨x, h.mem_iff.2 hx, e⟩⟩
/-- The order of what is placed does not count. -/
theorem near_perm (p : PodD) (L : List Lab) {l m : List PlacedD} (h : l.Perm m) : nearP p L l = nearP p L m := by
  rw [near_ref, near_ref]
  unfold refN whyR8 othersN
  have hp : (l.filter (fun x => !sEq x.1.1 p.1)).Perm (m.filter (fun x => !sEq x.1.1 p.1)) := h.filter _
  have e1 : (fun t => thereT t L (l.filter (fun x => !sEq x.1.1 p.1))) = fun t => thereT t L (m.filter (fun x => !sEq x.1.1 p.1)) := funext fun t => any_perm hp _
  have e2 : rLackT (pLabs p) L (l.filter (fun x => !sEq x.1.1 p.1)) = rLackT (pLabs p) L (m.filter (fun x => !sEq x.1.1 p.1)) := funext fun t => by
    unfold rLackT
    rw [show thereT t L (l.filter (fun x => !sEq x.1.1 p.1)) = thereT t L (m.filter (fun x => !sEq x.1.1 p.1)) from any_perm hp _, show anyT t (l.filter (fun x => !sEq x.1.1 p.1)) = anyT t (m.filter (fun x => !sEq x.1.1 p.1)) from any_perm hp _]
  rw [e1, e2, any_perm hp]
/-- Nobody is counted anywhere, just if every count is nought. -/
theorem eT_iff {t : TermD} {A : List PlacedD} (ht : t.2.size ≤ 140737488355328) (hA : ∀ x ∈ A, ∀ l ∈ x.2, okL l) : eT t A = true ↔ ∀ d, okL d → cT t A d = 0 := by
  unfold eT
  rw [Bool.not_eq_true', List.any_eq_false]
  constructor
  · intro h d _
    have h1 := cT_nonneg t A d
    rcases Int.lt_or_le 0 (cT t A d) with h2 | h2
    · obtain ⟨x, hx, hh⟩ := (cT_pos _ _ _).1 h2
      unfold hT at hh
      rw [Bool.and_eq_true, atD_iff] at hh
      exact absurd (by rw [Bool.and_eq_true]; exact ⟨hh.1, hh.2.1⟩) (h x hx)
    · omega
  · intro h x hx hh
    rw [Bool.and_eq_true] at hh
    have h2 : 0 < cT t A (domL x.2 t.2) := (cT_pos _ _ _).2 ⟨x, hx, by unfold hT; rw [Bool.and_eq_true, atD_iff]; exact ⟨hh.1, hh.2, rfl⟩⟩
    have h3 := h (domL x.2 t.2) ⟨ht, (hA x hx _ (getL_mem hh.2)).2⟩
    omega
end Go.Proofs.YtillkgflppabfaaDoor
namespace Go.Proofs.YtillkgflppabfaaDoor
open Go.RowKit
set_option linter.unusedSimpArgs false

/-- What is told so hangs on no memory. -/
def Flat {α : Type} (R : Rep α) : Prop := ∀ (A A' : Where) (w w' : World) (cs : List Value) (x : α), R A w cs x → R A' w' cs x
theorem RStr.flat : Flat RStr := fun _ _ _ _ _ _ h => h
theorem RInt.flat : Flat RInt := fun _ _ _ _ _ _ h => h
theorem RBool.flat : Flat RBool := fun _ _ _ _ _ _ h => h
theorem Flat.pair {α β : Type} {R : Rep α} {S : Rep β} (hR : Flat R) (hS : Flat S) : Flat (RPair R S) := by
  rintro A A' w w' cs x ⟨c, d, e, h1, h2⟩
  exact ⟨c, d, e, hR _ _ _ _ _ _ h1, hS _ _ _ _ _ _ h2⟩
theorem Chunks.flat {α : Type} [Inhabited α] {R : Rep α} {k : Nat} (hF : Flat R) {A A' : Where} {u u' : World} {xs : List Value} {L : List α} (h : Chunks R k A u xs L) : Chunks R k A' u' xs L :=
  ⟨h.1, fun i hi => by obtain ⟨cs, h1, h2⟩ := h.2 i hi; exact ⟨cs, hF _ _ _ _ _ _ h1, h2⟩⟩
theorem RLabel.flat : Flat RLabel := Flat.pair RStr.flat RStr.flat
theorem RRes.flat : Flat RRes := Flat.pair RInt.flat (Flat.pair RInt.flat RInt.flat)
theorem RTaint.flat : Flat RTaint := Flat.pair RStr.flat (Flat.pair RStr.flat RInt.flat)
theorem RBear.flat : Flat RBear := Flat.pair RStr.flat (Flat.pair RStr.flat (Flat.pair RBool.flat RInt.flat))
theorem RClaim.flat : Flat RClaim := Flat.pair RStr.flat (Flat.pair RInt.flat (Flat.pair RStr.flat RStr.flat))
theorem RClass.flat : Flat RClass := Flat.pair RStr.flat RBool.flat
theorem sl_none {α : Type} [Inhabited α] {R : Rep α} {k bytes : Nat} {A : Where} {w : World} {n cap : Nat} {L : List α} (h : SlAt R k bytes A w none n cap L) : n = 0 ∧ cap = 0 ∧ L = [] := by
  have h0 : cap = 0 := h.2.2.1 rfl
  have h1 := h.2.1
  exact ⟨by omega, h0, List.length_eq_zero_iff.1 (by rw [h.1]; omega)⟩
theorem SlAt.len {α : Type} [Inhabited α] {R : Rep α} {k bytes : Nat} {A : Where} {w : World} {a : Option Addr} {n cap : Nat} {L : List α} (h : SlAt R k bytes A w a n cap L) (hb : 1 ≤ bytes) : n ≤ 140737488351232 := by
  have := h.2.2.2.1
  have h2 : n * 1 ≤ n * bytes := Nat.mul_le_mul_left _ hb
  omega
theorem infostr : (Tryd.prog.info? 9).map (fun i => (i.zero, i.size, i.bytes)) = some (some (.string ⟨#[]⟩), 1, 16) := by kernel_rfl
theorem infoint : (Tryd.prog.info? 3).map (fun i => (i.zero, i.size, i.bytes)) = some (some (.int .i64 0), 1, 8) := by kernel_rfl
theorem infoLabel : (Tryd.prog.info? 59).map (fun i => (i.zero, i.size, i.bytes)) = some (some (.agg #[.string ⟨#[]⟩, .string ⟨#[]⟩]), 2, 32) := by kernel_rfl

end Go.Proofs.YtillkgflppabfaaDoor
namespace Go.Proofs.YtillkgflppabfaaDoor
open Go.RowKit
set_option linter.unusedSimpArgs false

theorem infoReq : (Tryd.prog.info? 76).map (fun i => (i.zero, i.size, i.bytes)) = some (some (.agg #[.string ⟨#[]⟩, .int .i64 0, .slice none 0 0]), 3, 48) := by kernel_rfl
/-- What has come since a later world is no part of the row. -/
theorem Row.apart {α : Type} [Inhabited α] {R : Rep α} {k : Nat} {A : Where} {w0 u u' : World} {e : TypeId} {v : Value} {L : List α} (h : Row R k A w0 u e v L) (hs : u.heap.size ≤ u'.heap.size) : ∀ b, Fresh u' b → Fresh w0 b ∧ v.ownBlock ≠ some b := by
  obtain ⟨xs, h1, _⟩ := h
  intro b hb
  have hb' : u'.heap.size ≤ b := hb
  have := h1.1.size
  refine ⟨show w0.heap.size ≤ b by omega, fun e => ?_⟩
  have := (h1.2.lt b e).2
  omega
theorem take_at {α : Type} [Inhabited α] {L : List α} {k : Nat} (hk : k < L.length) : L.take k ++ [L.getD k default] = L.take (k + 1) := (take_succ hk).symm
theorem bytes_le {n k bytes : Nat} (h : n * bytes ≤ 140737488351232) (hk : k < n) : (k + 1) * bytes ≤ 140737488355328 := by
  have : (k + 1) * bytes ≤ n * bytes := Nat.mul_le_mul_right _ hk
  omega

end Go.Proofs.YtillkgflppabfaaDoor
namespace Go.Proofs.YtillkgflppabfaaDoor
open Go.RowKit
set_option linter.unusedSimpArgs false

theorem retB {a b : Bool} (h : a = b) : Ending.returned (.bool a) = .returned (.bool b) := by rw [h]
theorem same_len {α : Type} [DecidableEq α] {L M : List α} (h : L.length ≠ M.length) : decide (L = M) = false := by
  rw [decide_eq_false_iff_not]; intro e; exact h (by rw [e])
section
variable {α : Type} [Inhabited α] [DecidableEq α] {L M : List α}
theorem same_no {k : Nat} (h : L.getD k default ≠ M.getD k default) : decide (L = M) = false := by
  rw [decide_eq_false_iff_not]; intro e; exact h (by rw [e])
theorem same_yes (hl : L.length = M.length) (h : ∀ j, j < L.length → L.getD j default = M.getD j default) : decide (L = M) = true := by
  rw [decide_eq_true_iff]
  apply List.ext_getElem hl
  intro i h1 h2
  have := h i h1
  rwa [getE _ _ h1, getE _ _ h2] at this
end
theorem bne_of (a b : Int) : (a != b) = !(a == b) := rfl
theorem guardL : Tryd.prog.eqGuardType Tryd.prog.depth 59 = false := by kernel_rfl
theorem neqL (x y : Lab) (w : World) : Sem.run Tryd.prog (binOp .neq 59 (.agg #[.string x.1, .string x.2]) (.agg #[.string y.1, .string y.2])) w = .ok (.bool (!(sEq x.1 y.1 && sEq x.2 y.2))) w := by
  have u9 := Tryd.underlying9
  have a9 := Tryd.isAgg9
  have z9 := Tryd.sizeOf9
  have hS : Tryd.prog.underlying 59 = some (.struct (Tryd.prog.fieldsOf 59)) := by kernel_rfl
  have hp : Tryd.prog.stoodInHeld 59 = false := by kernel_rfl
  rw [run_neq_struct, show (10000 : Nat) = 9999 + 1 from rfl, run_equalIn_agg w 9999 59 _ _ hS hp]
  simp only [Program.fieldsOf, Tryd.underlying59]
  go_simp
  simp only [sEq]
  by_cases h1 : x.1.toList = y.1.toList <;> by_cases h2 : x.2.toList = y.2.toList <;> simp [h1, h2]
theorem lab_eq (x y : Lab) : (sEq x.1 y.1 && sEq x.2 y.2) = decide (x = y) := by
  rw [Bool.eq_iff_iff, Bool.and_eq_true, sEq_iff, sEq_iff, decide_eq_true_iff, Prod.ext_iff]
theorem ask_eq (x y : Ask) : decide (x = y) = (sEq x.1 y.1 && ((x.2.1 == y.2.1) && decide (x.2.2 = y.2.2))) := by
  rw [Bool.eq_iff_iff, Bool.and_eq_true, Bool.and_eq_true, sEq_iff, decide_eq_true_iff, decide_eq_true_iff, beq_iff_eq, Prod.ext_iff, Prod.ext_iff]
theorem term_eq (x y : TermD) : decide (x = y) = (sEq x.2 y.2 && decide (x.1 = y.1)) := by
  rw [Bool.eq_iff_iff, Bool.and_eq_true, sEq_iff, decide_eq_true_iff, decide_eq_true_iff, Prod.ext_iff, And.comm]

end Go.Proofs.YtillkgflppabfaaDoor
namespace Go.Proofs.YtillkgflppabfaaDoor
open Go.RowKit
set_option linter.unusedSimpArgs false
set_option maxRecDepth 100000

def hasB {α : Type} (eq : α → α → Bool) (V : List α) (s : α) : Bool := V.any fun v => eq v s
theorem hasB_succ {α : Type} [Inhabited α] (eq : α → α → Bool) (L : List α) (s : α) {k : Nat} (hk : k < L.length) : hasB eq (L.take (k + 1)) s = (hasB eq (L.take k) s || eq (L.getD k default) s) := by
  rw [← take_at hk]; simp [hasB]
theorem hasB_found {α : Type} [Inhabited α] (eq : α → α → Bool) (L : List α) (s : α) {k : Nat} (hk : k < L.length) (h : eq (L.getD k default) s = true) : hasB eq L s = true := by
  simp only [hasB, List.any_eq_true]
  exact ⟨L.getD k default, by rw [getE _ _ hk]; exact List.getElem_mem hk, h⟩
def iEq (a b : Int) : Bool := a == b

end Go.Proofs.YtillkgflppabfaaDoor
namespace Go.Proofs.YtillkgflppabfaaDoor
open Go.RowKit
set_option linter.unusedSimpArgs false

def insB {α : Type} (lt eq : α → α → Bool) : List α → α → List α
  | [], s => [s]
  | x :: xs, s => if lt x s = true then x :: insB lt eq xs s else if eq x s = true then x :: xs else s :: x :: xs
def sortB {α : Type} (lt eq : α → α → Bool) (L : List α) : List α := L.foldl (insB lt eq) []
def iLt (a b : Int) : Bool := decide (a < b)
theorem insB_len {α : Type} (lt eq : α → α → Bool) (s : α) : ∀ L : List α, (insB lt eq L s).length ≤ L.length + 1
  | [] => by simp [insB]
  | x :: xs => by
    have := insB_len lt eq s xs
    unfold insB
    split
    · simp; omega
    · split <;> simp
section
variable {α : Type} [Inhabited α] (lt eq : α → α → Bool)
theorem insB_at (s : α) : ∀ (L : List α) (k : Nat), k ≤ L.length → (∀ j, j < k → lt (L.getD j default) s = true) → (k < L.length → lt (L.getD k default) s = false) →
    insB lt eq L s = if k < L.length ∧ eq (L.getD k default) s = true then L else L.take k ++ ([s] ++ L.drop k)
  | [], k, hk, _, _ => by
    obtain rfl : k = 0 := by simpa using hk
    simp [insB]
  | x :: xs, 0, _, _, h2 => by
    have h := h2 (by simp)
    simp only [List.getD_cons_zero] at h
    simp [insB, h]
  | x :: xs, k + 1, hk, h1, h2 => by
    have h := h1 0 (by omega)
    simp only [List.getD_cons_zero] at h
    have ih := insB_at s xs k (by simpa using hk) (fun j hj => by simpa using h1 (j + 1) (by omega)) (fun hl => by simpa using h2 (by simpa using hl))
    have e : (x :: xs).getD (k + 1) default = xs.getD k default := by simp
    have l : k + 1 < (x :: xs).length ↔ k < xs.length := by simp
    rw [e]
    simp only [insB, h, if_true, ih]
    by_cases c : k < xs.length ∧ eq (xs.getD k default) s = true
    · rw [if_pos c, if_pos ⟨l.2 c.1, c.2⟩]
    · rw [if_neg c, if_neg (fun h => c ⟨l.1 h.1, h.2⟩)]; simp
theorem sortB_succ (L : List α) {k : Nat} (hk : k < L.length) : sortB lt eq (L.take (k + 1)) = insB lt eq (sortB lt eq (L.take k)) (L.getD k default) := by
  rw [← take_at hk]; simp [sortB]
theorem sortB_len : ∀ (L : List α), (sortB lt eq L).length ≤ L.length := by
  intro L
  suffices H : ∀ k, k ≤ L.length → (sortB lt eq (L.take k)).length ≤ k by
    have := H L.length (Nat.le_refl _)
    rwa [List.take_of_length_le (Nat.le_refl _)] at this
  intro k
  induction k with
  | zero => intro _; simp [sortB]
  | succ k ih =>
    intro hk
    rw [sortB_succ lt eq L (by omega)]
    have := insB_len lt eq (L.getD k default) (sortB lt eq (L.take k))
    have := ih (by omega)
    omega
end
/-- The first k, and what lies behind them. -/
theorem SlAt.take {α : Type} [Inhabited α] {R : Rep α} {k bytes : Nat} {A : Where} {w : World} {a : Option Addr} {n cap : Nat} {L : List α} (h : SlAt R k bytes A w a n cap L) {t : Nat} (ht : t ≤ n) : SlAt R k bytes A w a t cap (L.take t) := by
  obtain ⟨h1, h2, h3, h4, h5⟩ := h
  refine ⟨by rw [List.length_take]; omega, by omega, h3, Nat.le_trans (Nat.mul_le_mul_right bytes ht) h4, fun h0 => ?_⟩
  obtain ⟨B, off, e, hB, hA, hc⟩ := h5 (by omega)
  refine ⟨B, off, e, hB, hA, fun i hi => ?_⟩
  obtain ⟨cs, h6, h7⟩ := hc i (by omega)
  have : (L.take t).getD i default = L.getD i default := by
    rw [getE _ _ (show i < (L.take t).length by rw [List.length_take]; omega), getE _ _ (show i < L.length by omega), List.getElem_take]
  rw [this]
  exact ⟨cs, h6, h7⟩
theorem SlAt.drop {α : Type} [Inhabited α] {R : Rep α} {k bytes : Nat} {A : Where} {w : World} {B off n cap : Nat} {L : List α} (h : SlAt R k bytes A w (some ⟨B, off, none⟩) n cap L) {t : Nat} (ht : t ≤ n) : SlAt R k bytes A w (some ⟨B, off + t * k, none⟩) (n - t) (cap - t) (L.drop t) := by
  obtain ⟨h1, h2, h3, h4, h5⟩ := h
  refine ⟨by rw [List.length_drop]; omega, by omega, (fun h => by cases h), Nat.le_trans (Nat.mul_le_mul_right bytes (Nat.sub_le _ _)) h4, fun h0 => ?_⟩
  obtain ⟨B', off', e, hB, hA, hc⟩ := h5 (by omega)
  injection e with e
  injection e with e1 e2
  subst e1 e2
  refine ⟨B, _, rfl, hB, hA, fun i hi => ?_⟩
  obtain ⟨cs, h6, h7⟩ := hc (t + i) (by omega)
  have : (L.drop t).getD i default = L.getD (t + i) default := by
    rw [getE _ _ (show i < (L.drop t).length by rw [List.length_drop]; omega), getE _ _ (show t + i < L.length by omega), List.getElem_drop]
  rw [this]
  refine ⟨cs, h6, fun j v hj => ?_⟩
  have := h7 j v hj
  rwa [Nat.add_mul, ← Nat.add_assoc] at this
end Go.Proofs.YtillkgflppabfaaDoor
namespace Go.Proofs.YtillkgflppabfaaDoor
set_option linter.unusedSimpArgs false

theorem cb_cons (a b : UInt8) (xs ys : List UInt8) : (a.toNat < b.toNat ∧ Lib.compareBytes (a :: xs) (b :: ys) = -1) ∨ (b.toNat < a.toNat ∧ Lib.compareBytes (a :: xs) (b :: ys) = 1) ∨ (a.toNat = b.toNat ∧ Lib.compareBytes (a :: xs) (b :: ys) = Lib.compareBytes xs ys) := by
  simp only [Lib.compareBytes]
  by_cases h1 : a < b
  · exact .inl ⟨h1, by rw [if_pos h1]⟩
  · by_cases h2 : b < a
    · exact .inr (.inl ⟨h2, by rw [if_neg h1, if_pos h2]⟩)
    · have h1' : ¬ a.toNat < b.toNat := h1
      have h2' : ¬ b.toNat < a.toNat := h2
      exact .inr (.inr ⟨by omega, by rw [if_neg h1, if_neg h2]⟩)
theorem cb_less : ∀ (a b : List UInt8), (Lib.compareBytes a b < 0) ↔ Op.bytesLess a b = true
  | [], [] => by simp [Lib.compareBytes, Op.bytesLess]
  | [], _ :: _ => by simp [Lib.compareBytes, Op.bytesLess]
  | _ :: _, [] => by simp [Lib.compareBytes, Op.bytesLess]
  | a :: xs, b :: ys => by
    have ih := cb_less xs ys
    rcases cb_cons a b xs ys with ⟨h, e⟩ | ⟨h, e⟩ | ⟨h, e⟩ <;> rw [e] <;> simp only [Op.bytesLess, Bool.or_eq_true, Bool.and_eq_true, decide_eq_true_eq, beq_iff_eq]
    · have : a < b := h
      simp [this]
    · have h1 : ¬ a < b := fun x => by have : a.toNat < b.toNat := x; omega
      have h2 : ¬ a = b := fun x => by rw [x] at h; omega
      simp [h1, h2]
    · have h1 : ¬ a < b := fun x => by have : a.toNat < b.toNat := x; omega
      have h2 : a = b := UInt8.toNat_inj.1 h
      simp [h1, h2, ih]
theorem cb_self : ∀ a : List UInt8, Lib.compareBytes a a = 0
  | [] => rfl
  | a :: xs => by rcases cb_cons a a xs xs with ⟨h, _⟩ | ⟨h, _⟩ | ⟨_, e⟩; omega; omega; rw [e]; exact cb_self xs
theorem cb_trans : ∀ (a b c : List UInt8), Lib.compareBytes a b < 0 → Lib.compareBytes b c < 0 → Lib.compareBytes a c < 0
  | [], [], _, h, _ => by simp [Lib.compareBytes] at h
  | _ :: _, [], _, h, _ => by simp [Lib.compareBytes] at h
  | _, _ :: _, [], _, h => by simp [Lib.compareBytes] at h
  | [], _ :: _, _ :: _, _, _ => by simp [Lib.compareBytes]
  | a :: xs, b :: ys, c :: zs, h1, h2 => by
    rcases cb_cons a b xs ys with ⟨p, e⟩ | ⟨p, e⟩ | ⟨p, e⟩ <;> rw [e] at h1 <;> rcases cb_cons b c ys zs with ⟨q, f⟩ | ⟨q, f⟩ | ⟨q, f⟩ <;> rw [f] at h2 <;> rcases cb_cons a c xs zs with ⟨r, g⟩ | ⟨r, g⟩ | ⟨r, g⟩ <;> rw [g] <;> first | omega | exact cb_trans xs ys zs h1 h2
theorem cb_ntrans : ∀ (a b c : List UInt8), ¬ Lib.compareBytes a b < 0 → ¬ Lib.compareBytes b c < 0 → ¬ Lib.compareBytes a c < 0
  | [], [], _, _, h => h
  | [], _ :: _, _, h, _ => by simp [Lib.compareBytes] at h
  | _ :: _, _, [], _, _ => by simp [Lib.compareBytes]
  | _ :: _, [], _ :: _, _, h => by simp [Lib.compareBytes] at h
  | a :: xs, b :: ys, c :: zs, h1, h2 => by
    rcases cb_cons a b xs ys with ⟨p, e⟩ | ⟨p, e⟩ | ⟨p, e⟩ <;> rw [e] at h1 <;> rcases cb_cons b c ys zs with ⟨q, f⟩ | ⟨q, f⟩ | ⟨q, f⟩ <;> rw [f] at h2 <;> rcases cb_cons a c xs zs with ⟨r, g⟩ | ⟨r, g⟩ | ⟨r, g⟩ <;> rw [g] <;> first | omega | exact cb_ntrans xs ys zs h1 h2

/-- How labels are held against each other: by their keys. -/
def cfL (x y : Lab) : Int := Lib.compareBytes x.1.data.toList y.1.data.toList
theorem sLt_iff (a b : ByteArray) : sLt a b = true ↔ Lib.compareBytes a.data.toList b.data.toList < 0 := by
  unfold sLt
  rw [ByteArray.toList_eq, ByteArray.toList_eq]
  exact (cb_less _ _).symm
theorem sLt_false (a b : ByteArray) : sLt a b = false ↔ ¬ Lib.compareBytes a.data.toList b.data.toList < 0 := by
  rw [← sLt_iff]; simp
theorem sLt_trans {a b c : ByteArray} (h1 : sLt a b = true) (h2 : sLt b c = true) : sLt a c = true := by
  rw [sLt_iff] at *; exact cb_trans _ _ _ h1 h2
theorem cb_tri : ∀ a b : List UInt8, (Lib.compareBytes a b < 0 ∧ 0 < Lib.compareBytes b a) ∨ (Lib.compareBytes a b = 0 ∧ a = b) ∨ (0 < Lib.compareBytes a b ∧ Lib.compareBytes b a < 0)
  | [], [] => .inr (.inl ⟨rfl, rfl⟩)
  | [], _ :: _ => .inl ⟨by simp [Lib.compareBytes], by simp [Lib.compareBytes]⟩
  | _ :: _, [] => .inr (.inr ⟨by simp [Lib.compareBytes], by simp [Lib.compareBytes]⟩)
  | a :: xs, b :: ys => by
    have ih := cb_tri xs ys
    rcases cb_cons a b xs ys with ⟨h, e⟩ | ⟨h, e⟩ | ⟨h, e⟩ <;> rcases cb_cons b a ys xs with ⟨h', e'⟩ | ⟨h', e'⟩ | ⟨h', e'⟩ <;> rw [e, e'] <;> first | omega | skip
    have : a = b := UInt8.toNat_inj.1 h
    subst this
    rcases ih with h | ⟨h1, h2⟩ | h
    · exact .inl h
    · exact .inr (.inl ⟨h1, by rw [h2]⟩)
    · exact .inr (.inr h)
/-- '>' of texts. -/
theorem gt_iff (a b : ByteArray) : (!(Op.bytesLess a.toList b.toList || a.toList == b.toList)) = sLt b a := by
  have h1 : Op.bytesLess a.toList b.toList = sLt a b := rfl
  have h2 : (a.toList == b.toList) = sEq a b := rfl
  rw [h1, h2]
  rcases cb_tri a.data.toList b.data.toList with ⟨h, h'⟩ | ⟨h, h'⟩ | ⟨h, h'⟩
  · rw [(sLt_iff a b).2 h, (sLt_false b a).2 (by omega)]; rfl
  · obtain rfl : a = b := by obtain ⟨⟨a⟩⟩ := a; obtain ⟨⟨b⟩⟩ := b; simp_all
    rw [sEq_self, (sLt_false a a).2 (by rw [cb_self]; omega)]; simp
  · rw [(sLt_false a b).2 (by omega), (sLt_iff b a).2 h', sEq_false (fun e => by rw [e] at h'; rw [cb_self] at h'; omega)]; rfl
theorem sLt_asymm {a b : ByteArray} (h : sLt a b = true) : sLt b a = false := by
  rw [sLt_false]; rw [sLt_iff] at h
  rcases cb_tri a.data.toList b.data.toList with ⟨_, h'⟩ | ⟨h', _⟩ | ⟨h', _⟩ <;> omega
theorem sLt_ntrans {a b c : ByteArray} (h1 : sLt a b = false) (h2 : sLt b c = false) : sLt a c = false := by
  rw [sLt_false] at *; exact cb_ntrans _ _ _ h1 h2

end Go.Proofs.YtillkgflppabfaaDoor
