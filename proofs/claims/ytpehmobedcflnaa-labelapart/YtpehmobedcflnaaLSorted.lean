/- Labels sorted by key: of one list there is just one, if it is right then; else all are judged alike. The order of texts. Plain mathematics. No condition. -/
import Derived.Test.YtpehmobedcflnaaLOwn
import Derived.Shelf.SlSortCmp.NoneTotal
import Derived.Lib.OwnBridge
import Derived.Lib.AppendIntMem
namespace Go.Proofs.Ytpehmobedcflnaa
set_option linter.unusedSimpArgs false

theorem cb_cons (a b : UInt8) (xs ys : List UInt8) : (a.toNat < b.toNat ∧ Lib.compareBytes (a :: xs) (b :: ys) = -1) ∨ (b.toNat < a.toNat ∧ Lib.compareBytes (a :: xs) (b :: ys) = 1) ∨ (a.toNat = b.toNat ∧ Lib.compareBytes (a :: xs) (b :: ys) = Lib.compareBytes xs ys) := by
  simp only [Lib.compareBytes]
  by_cases h1 : a < b
  · exact .inl ⟨h1, by rw [if_pos h1]⟩
  · by_cases h2 : b < a
    · exact .inr (.inl ⟨h2, by rw [if_neg h1, if_pos h2]⟩)
    · have h1' : ¬ a.toNat < b.toNat := h1
      have h2' : ¬ b.toNat < a.toNat := h2
      exact .inr (.inr ⟨by omega, by rw [if_neg h1, if_neg h2]⟩)
theorem cb_less : ∀ (a b : List UInt8), (Lib.compareBytes a b < 0) ↔ Op.bytesLess a b = true
  | [], [] => by simp [Lib.compareBytes, Op.bytesLess]
  | [], _ :: _ => by simp [Lib.compareBytes, Op.bytesLess]
  | _ :: _, [] => by simp [Lib.compareBytes, Op.bytesLess]
  | a :: xs, b :: ys => by
    have ih := cb_less xs ys
    rcases cb_cons a b xs ys with ⟨h, e⟩ | ⟨h, e⟩ | ⟨h, e⟩ <;> rw [e] <;> simp only [Op.bytesLess, Bool.or_eq_true, Bool.and_eq_true, decide_eq_true_eq, beq_iff_eq]
    · have : a < b := h
      simp [this]
    · have h1 : ¬ a < b := fun x => by have : a.toNat < b.toNat := x; omega
      have h2 : ¬ a = b := fun x => by rw [x] at h; omega
      simp [h1, h2]
    · have h1 : ¬ a < b := fun x => by have : a.toNat < b.toNat := x; omega
      have h2 : a = b := UInt8.toNat_inj.1 h
      simp [h1, h2, ih]
theorem cb_self : ∀ a : List UInt8, Lib.compareBytes a a = 0
  | [] => rfl
  | a :: xs => by rcases cb_cons a a xs xs with ⟨h, _⟩ | ⟨h, _⟩ | ⟨_, e⟩; omega; omega; rw [e]; exact cb_self xs
theorem cb_trans : ∀ (a b c : List UInt8), Lib.compareBytes a b < 0 → Lib.compareBytes b c < 0 → Lib.compareBytes a c < 0
  | [], [], _, h, _ => by simp [Lib.compareBytes] at h
  | _ :: _, [], _, h, _ => by simp [Lib.compareBytes] at h
  | _, _ :: _, [], _, h => by simp [Lib.compareBytes] at h
  | [], _ :: _, _ :: _, _, _ => by simp [Lib.compareBytes]
  | a :: xs, b :: ys, c :: zs, h1, h2 => by
    rcases cb_cons a b xs ys with ⟨p, e⟩ | ⟨p, e⟩ | ⟨p, e⟩ <;> rw [e] at h1 <;> rcases cb_cons b c ys zs with ⟨q, f⟩ | ⟨q, f⟩ | ⟨q, f⟩ <;> rw [f] at h2 <;> rcases cb_cons a c xs zs with ⟨r, g⟩ | ⟨r, g⟩ | ⟨r, g⟩ <;> rw [g] <;> first | omega | exact cb_trans xs ys zs h1 h2
theorem cb_ntrans : ∀ (a b c : List UInt8), ¬ Lib.compareBytes a b < 0 → ¬ Lib.compareBytes b c < 0 → ¬ Lib.compareBytes a c < 0
  | [], [], _, _, h => h
  | [], _ :: _, _, h, _ => by simp [Lib.compareBytes] at h
  | _ :: _, _, [], _, _ => by simp [Lib.compareBytes]
  | _ :: _, [], _ :: _, _, h => by simp [Lib.compareBytes] at h
  | a :: xs, b :: ys, c :: zs, h1, h2 => by
    rcases cb_cons a b xs ys with ⟨p, e⟩ | ⟨p, e⟩ | ⟨p, e⟩ <;> rw [e] at h1 <;> rcases cb_cons b c ys zs with ⟨q, f⟩ | ⟨q, f⟩ | ⟨q, f⟩ <;> rw [f] at h2 <;> rcases cb_cons a c xs zs with ⟨r, g⟩ | ⟨r, g⟩ | ⟨r, g⟩ <;> rw [g] <;> first | omega | exact cb_ntrans xs ys zs h1 h2

/-- How labels are held against each other: by their keys. -/
def cfL (x y : Lab) : Int := Lib.compareBytes x.1.data.toList y.1.data.toList
theorem ltOf_cfL (x y : Lab) : ltOf cfL x y = sLt x.1 y.1 := by
  unfold ltOf cfL sLt
  rw [ByteArray.toList_eq, ByteArray.toList_eq, Bool.eq_iff_iff, decide_eq_true_eq]
  exact cb_less _ _
theorem sLt_iff (a b : ByteArray) : sLt a b = true ↔ Lib.compareBytes a.data.toList b.data.toList < 0 := by
  unfold sLt
  rw [ByteArray.toList_eq, ByteArray.toList_eq]
  exact (cb_less _ _).symm
theorem sLt_false (a b : ByteArray) : sLt a b = false ↔ ¬ Lib.compareBytes a.data.toList b.data.toList < 0 := by
  rw [← sLt_iff]; simp
theorem sLt_trans {a b c : ByteArray} (h1 : sLt a b = true) (h2 : sLt b c = true) : sLt a c = true := by
  rw [sLt_iff] at *; exact cb_trans _ _ _ h1 h2
theorem swoL : Sort.SWO (ltOf cfL) := {
  irrefl := fun x => by rw [ltOf_cfL, sLt_false, cb_self]; omega
  trans := fun x y z h1 h2 => by rw [ltOf_cfL] at *; exact sLt_trans h1 h2
  ntrans := fun x y z h1 h2 => by rw [ltOf_cfL, sLt_false] at *; exact cb_ntrans _ _ _ h1 h2 }

/-- No label has a key below the one of a label ahead of it. -/
def SortedK (L : List Lab) : Prop := L.Pairwise fun x y => sLt y.1 x.1 = false

theorem getD_get {α : Type} [Inhabited α] (L : List α) (i : Nat) (h : i < L.length) : L.getD i default = L[i] := by
  rw [List.getD_eq_getElem?_getD, List.getElem?_eq_getElem h]; rfl
theorem checkI_strict {L : List Lab} (h : checkI L = 0) : ∀ d i, i + d + 1 < L.length → sLt (L.getD i default).1 (L.getD (i + d + 1) default).1 = true := by
  have hall : ∀ j, j < L.length → labOk L j = true := by
    unfold checkI at h
    split at h
    · cases h
    · split at h
      · rename_i h2; exact allTo_iff.1 h2
      · cases h
  have adj : ∀ j, j + 1 < L.length → sLt (L.getD j default).1 (L.getD (j + 1) default).1 = true := fun j hj => by
    have := hall (j + 1) hj
    simp only [labOk, Bool.and_eq_true, Bool.or_eq_true, decide_eq_true_eq, Nat.add_sub_cancel] at this
    rcases this.2 with h | h
    · omega
    · exact h
  intro d
  induction d with
  | zero => intro i hi; exact adj i hi
  | succ d ih => intro i hi; exact sLt_trans (ih i (by omega)) (adj (i + d + 1) (by omega))
theorem uniq {A B : List Lab} (hp : A.Perm B) (hA : SortedK A) (hB : SortedK B) (h : checkI A = 0) : A = B := by
  refine List.Perm.eq_of_pairwise (le := fun x y : Lab => sLt y.1 x.1 = false) ?_ hA hB hp
  intro a b ha hb h1 h2
  have hb' := hp.mem_iff.2 hb
  obtain ⟨i, hi, rfl⟩ := List.mem_iff_getElem.1 ha
  obtain ⟨j, hj, rfl⟩ := List.mem_iff_getElem.1 hb'
  rcases Nat.lt_trichotomy i j with hij | rfl | hij
  · have := checkI_strict h (j - i - 1) i (by omega)
    rw [show i + (j - i - 1) + 1 = j by omega, getD_get _ _ hi, getD_get _ _ hj] at this
    rw [h2] at this; cases this
  · rfl
  · have := checkI_strict h (i - j - 1) j (by omega)
    rw [show j + (i - j - 1) + 1 = i by omega, getD_get _ _ hi, getD_get _ _ hj] at this
    rw [h1] at this; cases this
theorem checkI_cases (L : List Lab) : (64 < L.length ∧ checkI L = 3) ∨ (¬ 64 < L.length ∧ (checkI L = 0 ∨ checkI L = 20)) := by
  unfold checkI
  split
  · exact .inl ⟨‹_›, rfl⟩
  · split
    · exact .inr ⟨‹_›, .inl rfl⟩
    · exact .inr ⟨‹_›, .inr rfl⟩
theorem checkI_perm {A B : List Lab} (hp : A.Perm B) (hA : SortedK A) (hB : SortedK B) : checkI A = checkI B := by
  have hl := hp.length_eq
  by_cases h : checkI A = 0
  · rw [uniq hp hA hB h]
  · by_cases h' : checkI B = 0
    · rw [uniq hp.symm hB hA h']
    · rcases checkI_cases A with ⟨l1, e1⟩ | ⟨l1, e1 | e1⟩ <;> rcases checkI_cases B with ⟨l2, e2⟩ | ⟨l2, e2 | e2⟩ <;> first | omega | contradiction
end Go.Proofs.Ytpehmobedcflnaa
