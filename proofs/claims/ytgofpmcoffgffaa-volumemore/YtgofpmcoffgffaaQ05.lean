/- base.Has and base.HasInt tell whether it is in a list, and change nothing. Condition: the slice lies as is said of it. Insertion into a rising list, each once. Plain mathematics. No condition. The order of texts. Plain mathematics. No condition. Layer 9 in plain words: the domains of a key, how many there are in each, the least and the greatest count; and what follows (9.3 to 9.5). Plain mathematics. No condition. A row of one's own, and the blocks of struct variables beside it; an append of a whole slice, empty or not; facts that stay while a variable's block is written. Plain facts on worlds. No condition. -/
import Derived.Test.YtgofpmcoffgffaaQ04
import Derived.Test.YtgofpmcoffgffaaQ02
import Derived.Lib.OwnBridge
import Derived.Lib.AppendIntMem
import Derived.Deep.MidRow
namespace Go.Proofs.Ytgofpmcoffgffaa
open Go.RowKit
set_option linter.unusedSimpArgs false
set_option maxRecDepth 100000

def hasB {α : Type} (eq : α → α → Bool) (V : List α) (s : α) : Bool := V.any fun v => eq v s
theorem hasB_succ {α : Type} [Inhabited α] (eq : α → α → Bool) (L : List α) (s : α) {k : Nat} (hk : k < L.length) : hasB eq (L.take (k + 1)) s = (hasB eq (L.take k) s || eq (L.getD k default) s) := by
  rw [← take_at hk]; simp [hasB]
theorem hasB_found {α : Type} [Inhabited α] (eq : α → α → Bool) (L : List α) (s : α) {k : Nat} (hk : k < L.length) (h : eq (L.getD k default) s = true) : hasB eq L s = true := by
  simp only [hasB, List.any_eq_true]
  exact ⟨L.getD k default, by rw [getE _ _ hk]; exact List.getElem_mem hk, h⟩
def iEq (a b : Int) : Bool := a == b

set_option maxHeartbeats 1000000 in
theorem Has_calls (a : Option Addr) (n cap : Nat) (A : Where) (L : List ByteArray) (s : ByteArray) (w : World) (hL : Hid (SlAt RStr 1 16 A w a n cap L)) : Calls Try.prog 13 #[.slice a n cap, .string s] w fun e w' => e = .returned (.bool (hasB sEq L s)) ∧ w' = w := by
  have hn : Hid (L.length = n) := hL.out.1
  have hlen := hL.out.len (by decide)
  go_enter Try.func13, Try.ntmps13
  go_wp2_with fail
  go_loop [5] (fun i => ∃ k : Nat, k ≤ n ∧ i = .int .i64 k ∧ Hid (hasB sEq (L.take k) s = false)) (fun i => n - (intOf i).toNat)
  case atStart => exact ⟨0, Nat.zero_le _, rfl, rfl⟩
  case round =>
    obtain ⟨k, hk, rfl, hno⟩ := hrel
    by_cases hlt : k < n
    · have hltz : (k : Int) < (n : Int) := by omega
      have hkl : k < L.length := by rw [hn.out]; exact hlt
      have HN : Hid (hasB sEq (L.take (k + 1)) s = (hasB sEq (L.take k) s || sEq (L.getD k default) s)) := hasB_succ _ _ _ hkl
      have HF : Hid (sEq (L.getD k default) s = true → hasB sEq L s = true) := hasB_found _ _ _ hkl
      obtain ⟨B, off, rfl, hB, _, cs, hr, hv⟩ := hL.out.get hlt
      obtain ⟨rfl, _⟩ := hr
      have d0 := hv 0 _ rfl
      simp only [Nat.mul_one, Nat.add_zero] at d0
      clear hv
      generalize L.getD k default = x at d0 HN HF
      cases he : sEq x s
      · have he' : (x.toList == s.toList) = false := he
        have HN2 : Hid (hasB sEq (L.take (k + 1)) s = false) := by rw [Hid, HN.out, hno.out, he]; rfl
        clear HN HF he
        go_wp2_with fail
        go_round
        case rel => exact ⟨k + 1, by omega, by go_num, HN2⟩
        case measure => simp [intOf]; omega
      · have he' : (x.toList == s.toList) = true := he
        have HT : Hid (hasB sEq L s = true) := HF.out he
        clear HN HF he
        go_wp2_with fail
        go_ret
        exact ⟨retB HT.out.symm, rfl⟩
    · have hk' : L.take k = L := List.take_of_length_le (by rw [hn.out]; omega)
      rw [hk'] at hno
      go_wp2_with fail
      go_ret
      exact ⟨retB hno.out.symm, rfl⟩
end Go.Proofs.Ytgofpmcoffgffaa
namespace Go.Proofs.Ytgofpmcoffgffaa
open Go.RowKit
set_option linter.unusedSimpArgs false

def insB {α : Type} (lt eq : α → α → Bool) : List α → α → List α
  | [], s => [s]
  | x :: xs, s => if lt x s = true then x :: insB lt eq xs s else if eq x s = true then x :: xs else s :: x :: xs
def sortB {α : Type} (lt eq : α → α → Bool) (L : List α) : List α := L.foldl (insB lt eq) []
def iLt (a b : Int) : Bool := decide (a < b)
theorem insB_len {α : Type} (lt eq : α → α → Bool) (s : α) : ∀ L : List α, (insB lt eq L s).length ≤ L.length + 1
  | [] => by simp [insB]
  | x :: xs => by
    have := insB_len lt eq s xs
    unfold insB
    split
    · simp; omega
    · split <;> simp
section
variable {α : Type} [Inhabited α] (lt eq : α → α → Bool)
theorem insB_at (s : α) : ∀ (L : List α) (k : Nat), k ≤ L.length → (∀ j, j < k → lt (L.getD j default) s = true) → (k < L.length → lt (L.getD k default) s = false) →
    insB lt eq L s = if k < L.length ∧ eq (L.getD k default) s = true then L else L.take k ++ ([s] ++ L.drop k)
  | [], k, hk, _, _ => by
    obtain rfl : k = 0 := by simpa using hk
    simp [insB]
  | x :: xs, 0, _, _, h2 => by
    have h := h2 (by simp)
    simp only [List.getD_cons_zero] at h
    simp [insB, h]
  | x :: xs, k + 1, hk, h1, h2 => by
    have h := h1 0 (by omega)
    simp only [List.getD_cons_zero] at h
    have ih := insB_at s xs k (by simpa using hk) (fun j hj => by simpa using h1 (j + 1) (by omega)) (fun hl => by simpa using h2 (by simpa using hl))
    have e : (x :: xs).getD (k + 1) default = xs.getD k default := by simp
    have l : k + 1 < (x :: xs).length ↔ k < xs.length := by simp
    rw [e]
    simp only [insB, h, if_true, ih]
    by_cases c : k < xs.length ∧ eq (xs.getD k default) s = true
    · rw [if_pos c, if_pos ⟨l.2 c.1, c.2⟩]
    · rw [if_neg c, if_neg (fun h => c ⟨l.1 h.1, h.2⟩)]; simp
theorem sortB_succ (L : List α) {k : Nat} (hk : k < L.length) : sortB lt eq (L.take (k + 1)) = insB lt eq (sortB lt eq (L.take k)) (L.getD k default) := by
  rw [← take_at hk]; simp [sortB]
theorem sortB_len : ∀ (L : List α), (sortB lt eq L).length ≤ L.length := by
  intro L
  suffices H : ∀ k, k ≤ L.length → (sortB lt eq (L.take k)).length ≤ k by
    have := H L.length (Nat.le_refl _)
    rwa [List.take_of_length_le (Nat.le_refl _)] at this
  intro k
  induction k with
  | zero => intro _; simp [sortB]
  | succ k ih =>
    intro hk
    rw [sortB_succ lt eq L (by omega)]
    have := insB_len lt eq (L.getD k default) (sortB lt eq (L.take k))
    have := ih (by omega)
    omega
end
/-- The first k, and what lies behind them. -/
theorem SlAt.take {α : Type} [Inhabited α] {R : Rep α} {k bytes : Nat} {A : Where} {w : World} {a : Option Addr} {n cap : Nat} {L : List α} (h : SlAt R k bytes A w a n cap L) {t : Nat} (ht : t ≤ n) : SlAt R k bytes A w a t cap (L.take t) := by
  obtain ⟨h1, h2, h3, h4, h5⟩ := h
  refine ⟨by rw [List.length_take]; omega, by omega, h3, Nat.le_trans (Nat.mul_le_mul_right bytes ht) h4, fun h0 => ?_⟩
  obtain ⟨B, off, e, hB, hA, hc⟩ := h5 (by omega)
  refine ⟨B, off, e, hB, hA, fun i hi => ?_⟩
  obtain ⟨cs, h6, h7⟩ := hc i (by omega)
  have : (L.take t).getD i default = L.getD i default := by
    rw [getE _ _ (show i < (L.take t).length by rw [List.length_take]; omega), getE _ _ (show i < L.length by omega), List.getElem_take]
  rw [this]
  exact ⟨cs, h6, h7⟩
theorem SlAt.drop {α : Type} [Inhabited α] {R : Rep α} {k bytes : Nat} {A : Where} {w : World} {B off n cap : Nat} {L : List α} (h : SlAt R k bytes A w (some ⟨B, off, none⟩) n cap L) {t : Nat} (ht : t ≤ n) : SlAt R k bytes A w (some ⟨B, off + t * k, none⟩) (n - t) (cap - t) (L.drop t) := by
  obtain ⟨h1, h2, h3, h4, h5⟩ := h
  refine ⟨by rw [List.length_drop]; omega, by omega, (fun h => by cases h), Nat.le_trans (Nat.mul_le_mul_right bytes (Nat.sub_le _ _)) h4, fun h0 => ?_⟩
  obtain ⟨B', off', e, hB, hA, hc⟩ := h5 (by omega)
  injection e with e
  injection e with e1 e2
  subst e1 e2
  refine ⟨B, _, rfl, hB, hA, fun i hi => ?_⟩
  obtain ⟨cs, h6, h7⟩ := hc (t + i) (by omega)
  have : (L.drop t).getD i default = L.getD (t + i) default := by
    rw [getE _ _ (show i < (L.drop t).length by rw [List.length_drop]; omega), getE _ _ (show t + i < L.length by omega), List.getElem_drop]
  rw [this]
  refine ⟨cs, h6, fun j v hj => ?_⟩
  have := h7 j v hj
  rwa [Nat.add_mul, ← Nat.add_assoc] at this
end Go.Proofs.Ytgofpmcoffgffaa
namespace Go.Proofs.Ytgofpmcoffgffaa
set_option linter.unusedSimpArgs false

theorem cb_cons (a b : UInt8) (xs ys : List UInt8) : (a.toNat < b.toNat ∧ Lib.compareBytes (a :: xs) (b :: ys) = -1) ∨ (b.toNat < a.toNat ∧ Lib.compareBytes (a :: xs) (b :: ys) = 1) ∨ (a.toNat = b.toNat ∧ Lib.compareBytes (a :: xs) (b :: ys) = Lib.compareBytes xs ys) := by
  simp only [Lib.compareBytes]
  by_cases h1 : a < b
  · exact .inl ⟨h1, by rw [if_pos h1]⟩
  · by_cases h2 : b < a
    · exact .inr (.inl ⟨h2, by rw [if_neg h1, if_pos h2]⟩)
    · have h1' : ¬ a.toNat < b.toNat := h1
      have h2' : ¬ b.toNat < a.toNat := h2
      exact .inr (.inr ⟨by omega, by rw [if_neg h1, if_neg h2]⟩)
theorem cb_less : ∀ (a b : List UInt8), (Lib.compareBytes a b < 0) ↔ Op.bytesLess a b = true
  | [], [] => by simp [Lib.compareBytes, Op.bytesLess]
  | [], _ :: _ => by simp [Lib.compareBytes, Op.bytesLess]
  | _ :: _, [] => by simp [Lib.compareBytes, Op.bytesLess]
  | a :: xs, b :: ys => by
    have ih := cb_less xs ys
    rcases cb_cons a b xs ys with ⟨h, e⟩ | ⟨h, e⟩ | ⟨h, e⟩ <;> rw [e] <;> simp only [Op.bytesLess, Bool.or_eq_true, Bool.and_eq_true, decide_eq_true_eq, beq_iff_eq]
    · have : a < b := h
      simp [this]
    · have h1 : ¬ a < b := fun x => by have : a.toNat < b.toNat := x; omega
      have h2 : ¬ a = b := fun x => by rw [x] at h; omega
      simp [h1, h2]
    · have h1 : ¬ a < b := fun x => by have : a.toNat < b.toNat := x; omega
      have h2 : a = b := UInt8.toNat_inj.1 h
      simp [h1, h2, ih]
theorem cb_self : ∀ a : List UInt8, Lib.compareBytes a a = 0
  | [] => rfl
  | a :: xs => by rcases cb_cons a a xs xs with ⟨h, _⟩ | ⟨h, _⟩ | ⟨_, e⟩; omega; omega; rw [e]; exact cb_self xs
theorem cb_trans : ∀ (a b c : List UInt8), Lib.compareBytes a b < 0 → Lib.compareBytes b c < 0 → Lib.compareBytes a c < 0
  | [], [], _, h, _ => by simp [Lib.compareBytes] at h
  | _ :: _, [], _, h, _ => by simp [Lib.compareBytes] at h
  | _, _ :: _, [], _, h => by simp [Lib.compareBytes] at h
  | [], _ :: _, _ :: _, _, _ => by simp [Lib.compareBytes]
  | a :: xs, b :: ys, c :: zs, h1, h2 => by
    rcases cb_cons a b xs ys with ⟨p, e⟩ | ⟨p, e⟩ | ⟨p, e⟩ <;> rw [e] at h1 <;> rcases cb_cons b c ys zs with ⟨q, f⟩ | ⟨q, f⟩ | ⟨q, f⟩ <;> rw [f] at h2 <;> rcases cb_cons a c xs zs with ⟨r, g⟩ | ⟨r, g⟩ | ⟨r, g⟩ <;> rw [g] <;> first | omega | exact cb_trans xs ys zs h1 h2
theorem cb_ntrans : ∀ (a b c : List UInt8), ¬ Lib.compareBytes a b < 0 → ¬ Lib.compareBytes b c < 0 → ¬ Lib.compareBytes a c < 0
  | [], [], _, _, h => h
  | [], _ :: _, _, h, _ => by simp [Lib.compareBytes] at h
  | _ :: _, _, [], _, _ => by simp [Lib.compareBytes]
  | _ :: _, [], _ :: _, _, h => by simp [Lib.compareBytes] at h
  | a :: xs, b :: ys, c :: zs, h1, h2 => by
    rcases cb_cons a b xs ys with ⟨p, e⟩ | ⟨p, e⟩ | ⟨p, e⟩ <;> rw [e] at h1 <;> rcases cb_cons b c ys zs with ⟨q, f⟩ | ⟨q, f⟩ | ⟨q, f⟩ <;> rw [f] at h2 <;> rcases cb_cons a c xs zs with ⟨r, g⟩ | ⟨r, g⟩ | ⟨r, g⟩ <;> rw [g] <;> first | omega | exact cb_ntrans xs ys zs h1 h2

/-- How labels are held against each other: by their keys. -/
def cfL (x y : Lab) : Int := Lib.compareBytes x.1.data.toList y.1.data.toList
theorem sLt_iff (a b : ByteArray) : sLt a b = true ↔ Lib.compareBytes a.data.toList b.data.toList < 0 := by
  unfold sLt
  rw [ByteArray.toList_eq, ByteArray.toList_eq]
  exact (cb_less _ _).symm
theorem sLt_false (a b : ByteArray) : sLt a b = false ↔ ¬ Lib.compareBytes a.data.toList b.data.toList < 0 := by
  rw [← sLt_iff]; simp
theorem sLt_trans {a b c : ByteArray} (h1 : sLt a b = true) (h2 : sLt b c = true) : sLt a c = true := by
  rw [sLt_iff] at *; exact cb_trans _ _ _ h1 h2
theorem cb_tri : ∀ a b : List UInt8, (Lib.compareBytes a b < 0 ∧ 0 < Lib.compareBytes b a) ∨ (Lib.compareBytes a b = 0 ∧ a = b) ∨ (0 < Lib.compareBytes a b ∧ Lib.compareBytes b a < 0)
  | [], [] => .inr (.inl ⟨rfl, rfl⟩)
  | [], _ :: _ => .inl ⟨by simp [Lib.compareBytes], by simp [Lib.compareBytes]⟩
  | _ :: _, [] => .inr (.inr ⟨by simp [Lib.compareBytes], by simp [Lib.compareBytes]⟩)
  | a :: xs, b :: ys => by
    have ih := cb_tri xs ys
    rcases cb_cons a b xs ys with ⟨h, e⟩ | ⟨h, e⟩ | ⟨h, e⟩ <;> rcases cb_cons b a ys xs with ⟨h', e'⟩ | ⟨h', e'⟩ | ⟨h', e'⟩ <;> rw [e, e'] <;> first | omega | skip
    have : a = b := UInt8.toNat_inj.1 h
    subst this
    rcases ih with h | ⟨h1, h2⟩ | h
    · exact .inl h
    · exact .inr (.inl ⟨h1, by rw [h2]⟩)
    · exact .inr (.inr h)
/-- '>' of texts. -/
theorem gt_iff (a b : ByteArray) : (!(Op.bytesLess a.toList b.toList || a.toList == b.toList)) = sLt b a := by
  have h1 : Op.bytesLess a.toList b.toList = sLt a b := rfl
  have h2 : (a.toList == b.toList) = sEq a b := rfl
  rw [h1, h2]
  rcases cb_tri a.data.toList b.data.toList with ⟨h, h'⟩ | ⟨h, h'⟩ | ⟨h, h'⟩
  · rw [(sLt_iff a b).2 h, (sLt_false b a).2 (by omega)]; rfl
  · obtain rfl : a = b := by obtain ⟨⟨a⟩⟩ := a; obtain ⟨⟨b⟩⟩ := b; simp_all
    rw [sEq_self, (sLt_false a a).2 (by rw [cb_self]; omega)]; simp
  · rw [(sLt_false a b).2 (by omega), (sLt_iff b a).2 h', sEq_false (fun e => by rw [e] at h'; rw [cb_self] at h'; omega)]; rfl
theorem sLt_asymm {a b : ByteArray} (h : sLt a b = true) : sLt b a = false := by
  rw [sLt_false]; rw [sLt_iff] at h
  rcases cb_tri a.data.toList b.data.toList with ⟨_, h'⟩ | ⟨h', _⟩ | ⟨h', _⟩ <;> omega
theorem sLt_ntrans {a b c : ByteArray} (h1 : sLt a b = false) (h2 : sLt b c = false) : sLt a c = false := by
  rw [sLt_false] at *; exact cb_ntrans _ _ _ h1 h2

end Go.Proofs.Ytgofpmcoffgffaa
namespace Go.Proofs.Ytgofpmcoffgffaa
set_option linter.unusedSimpArgs false

abbrev nLabs (n : NodeD) : List Lab := n.2.1
abbrev pSpreads (p : PodD) : List SpreadD := p.2.2.2.2.2.2.2.2.2.2.1
abbrev sReqs (s : SpreadD) : List Ask := s.2.2.2
/-- The values that nodes have of a key, as they come. -/
def valsP (key : ByteArray) (nodes : List NodeD) : List ByteArray := (nodes.filter (fun n => (getL (nLabs n) key).2)).map (fun n => (getL (nLabs n) key).1)
/-- The domains of a key, rising. -/
def domsP (key : ByteArray) (nodes : List NodeD) : List ByteArray := sortB sLt sEq (valsP key nodes)
/-- Is x counted in the domain v? -/
def inS (s : SpreadD) (v : ByteArray) (x : PlacedD) : Bool := (getL x.2 s.1).2 && (sEq (getL x.2 s.1).1 v && matchL (pLabs x.1) (sReqs s))
def cntP (s : SpreadD) (v : ByteArray) (l : List PlacedD) : Nat := (l.filter (inS s v)).length
/-- The least, and the greatest, of the counts of a list's members. -/
def loP (c : ByteArray → Nat) : List ByteArray → Nat
  | [] => 0
  | d :: r => r.foldl (fun a e => min a (c e)) (c d)
def hiP (c : ByteArray → Nat) : List ByteArray → Nat
  | [] => 0
  | d :: r => r.foldl (fun a e => max a (c e)) (c d)
def skewP (s : SpreadD) (nodes : List NodeD) (l : List PlacedD) : Int := (hiP (fun v => cntP s v l) (domsP s.1 nodes) : Int) - (loP (fun v => cntP s v l) (domsP s.1 nodes) : Int)
/-- May the pod not come, for this spread? l: the others. -/
def badS (P L : List Lab) (nodes : List NodeD) (l : List PlacedD) (s : SpreadD) : Bool :=
  !(getL L s.1).2 || decide (s.2.1 < ((cntP s (getL L s.1).1 l + (if matchL P (sReqs s) = true then 1 else 0) : Nat) : Int) - (if ((domsP s.1 nodes).length : Int) < s.2.2.1 then 0 else (loP (fun v => cntP s v l) (domsP s.1 nodes) : Int)))
def spreadP (why : Int) (p : PodD) (L : List Lab) (nodes : List NodeD) (all : List PlacedD) : Int := if (pSpreads p).any (badS (pLabs p) L nodes (othersN p.1 all)) = true then why else 0

theorem lo_fold (c : ByteArray → Nat) : ∀ (r : List ByteArray) (a : Nat), r.foldl (fun a e => min a (c e)) a ≤ a ∧ (∀ e ∈ r, r.foldl (fun a e => min a (c e)) a ≤ c e) ∧ (r.foldl (fun a e => min a (c e)) a = a ∨ ∃ e ∈ r, r.foldl (fun a e => min a (c e)) a = c e)
  | [], a => ⟨Nat.le_refl _, (fun _ h => by cases h), .inl rfl⟩
  | e :: r, a => by
    obtain ⟨h1, h2, h3⟩ := lo_fold c r (min a (c e))
    simp only [List.foldl_cons]
    refine ⟨by omega, fun x hx => ?_, ?_⟩
    · rcases List.mem_cons.1 hx with rfl | hx
      · omega
      · exact h2 x hx
    · rcases h3 with h3 | ⟨x, hx, h3⟩
      · by_cases hl : a ≤ c e
        · left; rw [h3]; omega
        · right; exact ⟨e, List.mem_cons_self, by rw [h3]; omega⟩
      · right; exact ⟨x, List.mem_cons_of_mem _ hx, h3⟩
theorem hi_fold (c : ByteArray → Nat) : ∀ (r : List ByteArray) (a : Nat), a ≤ r.foldl (fun a e => max a (c e)) a ∧ (∀ e ∈ r, c e ≤ r.foldl (fun a e => max a (c e)) a) ∧ (r.foldl (fun a e => max a (c e)) a = a ∨ ∃ e ∈ r, r.foldl (fun a e => max a (c e)) a = c e)
  | [], a => ⟨Nat.le_refl _, (fun _ h => by cases h), .inl rfl⟩
  | e :: r, a => by
    obtain ⟨h1, h2, h3⟩ := hi_fold c r (max a (c e))
    simp only [List.foldl_cons]
    refine ⟨by omega, fun x hx => ?_, ?_⟩
    · rcases List.mem_cons.1 hx with rfl | hx
      · omega
      · exact h2 x hx
    · rcases h3 with h3 | ⟨x, hx, h3⟩
      · by_cases hl : c e ≤ a
        · left; rw [h3]; omega
        · right; exact ⟨e, List.mem_cons_self, by rw [h3]; omega⟩
      · right; exact ⟨x, List.mem_cons_of_mem _ hx, h3⟩
theorem lo_spec (c : ByteArray → Nat) {D : List ByteArray} (h : D ≠ []) : (∀ d ∈ D, loP c D ≤ c d) ∧ ∃ d ∈ D, loP c D = c d := by
  cases D with
  | nil => exact absurd rfl h
  | cons d r =>
    obtain ⟨h1, h2, h3⟩ := lo_fold c r (c d)
    refine ⟨fun x hx => ?_, ?_⟩
    · rcases List.mem_cons.1 hx with rfl | hx
      · exact h1
      · exact h2 x hx
    · rcases h3 with h3 | ⟨x, hx, h3⟩
      · exact ⟨d, List.mem_cons_self, h3⟩
      · exact ⟨x, List.mem_cons_of_mem _ hx, h3⟩
theorem hi_spec (c : ByteArray → Nat) {D : List ByteArray} (h : D ≠ []) : (∀ d ∈ D, c d ≤ hiP c D) ∧ ∃ d ∈ D, hiP c D = c d := by
  cases D with
  | nil => exact absurd rfl h
  | cons d r =>
    obtain ⟨h1, h2, h3⟩ := hi_fold c r (c d)
    refine ⟨fun x hx => ?_, ?_⟩
    · rcases List.mem_cons.1 hx with rfl | hx
      · exact h1
      · exact h2 x hx
    · rcases h3 with h3 | ⟨x, hx, h3⟩
      · exact ⟨d, List.mem_cons_self, h3⟩
      · exact ⟨x, List.mem_cons_of_mem _ hx, h3⟩
theorem mem_insB9 (s x : ByteArray) : ∀ L : List ByteArray, x ∈ insB sLt sEq L s ↔ x ∈ L ∨ x = s
  | [] => by simp [insB]
  | y :: L => by
    have ih := mem_insB9 s x L
    unfold insB
    split
    · simp only [List.mem_cons, ih, or_assoc]
    · split
      · rename_i _ he
        have := (sEq_iff y s).1 he
        subst this
        simp only [List.mem_cons]
        constructor
        · exact fun h => .inl h
        · rintro (h | h)
          · exact h
          · exact .inl h
      · simp only [List.mem_cons]
        constructor
        · rintro (h | h | h)
          · exact .inr h
          · exact .inl (.inl h)
          · exact .inl (.inr h)
        · rintro ((h | h) | h)
          · exact .inr (.inl h)
          · exact .inr (.inr h)
          · exact .inl h
theorem mem_fold9 (x : ByteArray) : ∀ (L M : List ByteArray), x ∈ L.foldl (insB sLt sEq) M ↔ x ∈ M ∨ x ∈ L
  | [], M => by simp
  | y :: L, M => by
    rw [List.foldl_cons, mem_fold9 x L, mem_insB9]
    simp only [List.mem_cons, or_assoc]
theorem mem_sort9 (x : ByteArray) (L : List ByteArray) : x ∈ sortB sLt sEq L ↔ x ∈ L := by
  unfold sortB; rw [mem_fold9]; simp
abbrev Srt9 (L : List ByteArray) : Prop := L.Pairwise (fun a b => sLt a b = true)
theorem sLt_tot {a b : ByteArray} (h1 : ¬ sLt a b = true) (h2 : ¬ sEq a b = true) : sLt b a = true := by
  rw [sLt_iff] at *
  rcases cb_tri a.data.toList b.data.toList with ⟨h, h'⟩ | ⟨h, h'⟩ | ⟨h, h'⟩
  · exact absurd h h1
  · exact absurd ((sEq_iff a b).2 (by obtain ⟨⟨a⟩⟩ := a; obtain ⟨⟨b⟩⟩ := b; simp_all)) h2
  · exact h'
theorem srt_insB (s : ByteArray) : ∀ L : List ByteArray, Srt9 L → Srt9 (insB sLt sEq L s)
  | [], _ => by simp [insB]
  | y :: L, h => by
    obtain ⟨h1, h2⟩ := List.pairwise_cons.1 h
    unfold insB
    split
    · rename_i hl
      refine List.pairwise_cons.2 ⟨fun x hx => ?_, srt_insB s L h2⟩
      rcases (mem_insB9 s x L).1 hx with hx | rfl
      · exact h1 x hx
      · exact hl
    · split
      · exact h
      · rename_i hl he
        have hy := sLt_tot hl he
        refine List.pairwise_cons.2 ⟨fun x hx => ?_, h⟩
        rcases List.mem_cons.1 hx with rfl | hx
        · exact hy
        · exact sLt_trans hy (h1 x hx)
theorem srt_fold9 : ∀ (L M : List ByteArray), Srt9 M → Srt9 (L.foldl (insB sLt sEq) M)
  | [], _, h => h
  | y :: L, M, h => srt_fold9 L _ (srt_insB y M h)
theorem srt_sort9 (L : List ByteArray) : Srt9 (sortB sLt sEq L) := srt_fold9 L [] List.Pairwise.nil
theorem sLt_irr (a : ByteArray) : ¬ sLt a a = true := fun h => by have := sLt_asymm h; rw [h] at this; cases this
theorem srt_ext9 : ∀ {L M : List ByteArray}, Srt9 L → Srt9 M → (∀ x, x ∈ L ↔ x ∈ M) → L = M
  | [], [], _, _, _ => rfl
  | [], y :: M, _, _, h => absurd ((h y).2 List.mem_cons_self) (by simp)
  | x :: L, [], _, _, h => absurd ((h x).1 List.mem_cons_self) (by simp)
  | x :: L, y :: M, hl, hm, h => by
    obtain ⟨l1, l2⟩ := List.pairwise_cons.1 hl
    obtain ⟨m1, m2⟩ := List.pairwise_cons.1 hm
    have e : x = y := by
      rcases List.mem_cons.1 ((h x).1 List.mem_cons_self) with e | hx
      · exact e
      · rcases List.mem_cons.1 ((h y).2 List.mem_cons_self) with e | hy
        · exact e.symm
        · exact absurd (sLt_trans (m1 x hx) (l1 y hy)) (sLt_irr y)
    subst e
    rw [srt_ext9 l2 m2 (fun z => ?_)]
    constructor
    · intro hz
      rcases List.mem_cons.1 ((h z).1 (List.mem_cons_of_mem _ hz)) with e | hz'
      · subst e; exact absurd (l1 z hz) (sLt_irr z)
      · exact hz'
    · intro hz
      rcases List.mem_cons.1 ((h z).2 (List.mem_cons_of_mem _ hz)) with e | hz'
      · subst e; exact absurd (m1 z hz) (sLt_irr z)
      · exact hz'
theorem mem_doms (key v : ByteArray) (nodes : List NodeD) : v ∈ domsP key nodes ↔ ∃ n ∈ nodes, (getL (nLabs n) key).2 = true ∧ (getL (nLabs n) key).1 = v := by
  unfold domsP valsP
  rw [mem_sort9, List.mem_map]
  constructor
  · rintro ⟨n, hn, e⟩
    obtain ⟨h1, h2⟩ := List.mem_filter.1 hn
    exact ⟨n, h1, h2, e⟩
  · rintro ⟨n, h1, h2, e⟩
    exact ⟨n, List.mem_filter.2 ⟨h1, h2⟩, e⟩
/-- 9.5: the order does not count. -/
theorem doms_perm (key : ByteArray) {N M : List NodeD} (h : N.Perm M) : domsP key N = domsP key M :=
  srt_ext9 (srt_sort9 _) (srt_sort9 _) (fun x => by
    show x ∈ domsP key N ↔ x ∈ domsP key M
    rw [mem_doms, mem_doms]
    constructor
    · rintro ⟨n, hn, r⟩; exact ⟨n, h.mem_iff.1 hn, r⟩
    · rintro ⟨n, hn, r⟩; exact ⟨n, h.mem_iff.2 hn, r⟩)
theorem cnt_perm (s : SpreadD) (v : ByteArray) {l m : List PlacedD} (h : l.Perm m) : cntP s v l = cntP s v m := by unfold cntP; exact (h.filter _).length_eq
theorem spread_perm (why : Int) (p : PodD) (L : List Lab) {N M : List NodeD} {l m : List PlacedD} (hn : N.Perm M) (hl : l.Perm m) : spreadP why p L N l = spreadP why p L M m := by
  unfold spreadP
  have e : badS (pLabs p) L N (othersN p.1 l) = badS (pLabs p) L M (othersN p.1 m) := by
    funext s
    have ho : (othersN p.1 l).Perm (othersN p.1 m) := by unfold othersN; exact hl.filter _
    unfold badS
    rw [doms_perm s.1 hn, cnt_perm s _ ho, show (fun v => cntP s v (othersN p.1 l)) = fun v => cntP s v (othersN p.1 m) from funext (fun v => cnt_perm s v ho)]
  rw [e]
theorem cnt_snoc (s : SpreadD) (v : ByteArray) (l : List PlacedD) (x : PlacedD) : cntP s v (l ++ [x]) = cntP s v l + (if inS s v x = true then 1 else 0) := by
  unfold cntP
  rw [List.filter_append, List.length_append]
  cases h : inS s v x <;> simp [h]
/-- One more in the domain d of D. -/
theorem ends_more {c c' : ByteArray → Nat} {D : List ByteArray} {d : ByteArray} (hd : d ∈ D) (h : ∀ e, c' e = c e + (if e = d then 1 else 0)) :
    loP c D ≤ loP c' D ∧ loP c' D ≤ loP c D + 1 ∧ hiP c D ≤ hiP c' D ∧ (hiP c' D = hiP c D ∨ hiP c' D = c d + 1) := by
  have hD : D ≠ [] := fun e => by rw [e] at hd; cases hd
  obtain ⟨l1, a, ha, l2⟩ := lo_spec c hD
  obtain ⟨l1', a', ha', l2'⟩ := lo_spec c' hD
  obtain ⟨h1, b, hb, h2⟩ := hi_spec c hD
  obtain ⟨h1', b', hb', h2'⟩ := hi_spec c' hD
  refine ⟨?_, ?_, ?_, ?_⟩
  · have := l1 a' ha'; have e := h a'; split at e <;> omega
  · have := l1' a ha; have e := h a; split at e <;> omega
  · have := h1' b hb; have e := h b; split at e <;> omega
  · by_cases q : b' = d
    · right; subst q; rw [h2', h b', if_pos rfl]
    · left
      have e := h b'
      rw [if_neg q] at e
      have := h1 b' hb'
      have := h1' b hb; have e2 := h b; split at e2 <;> omega
/-- 9.3: where a pod that meets its own spread may come, no two domains lie farther apart. -/
theorem holds_plain {c c' : ByteArray → Nat} {D : List ByteArray} {d : ByteArray} {k : Int} (hd : d ∈ D) (h : ∀ e, c' e = c e + (if e = d then 1 else 0)) (hk : ((c d + 1 : Nat) : Int) - (loP c D : Int) ≤ k) :
    ((hiP c' D : Int) - (loP c' D : Int) ≤ (hiP c D : Int) - (loP c D : Int) ∨ (hiP c' D : Int) - (loP c' D : Int) ≤ k) ∧ (hiP c D : Int) - (loP c D : Int) - 1 ≤ (hiP c' D : Int) - (loP c' D : Int) := by
  obtain ⟨h1, h2, h3, h4⟩ := ends_more hd h
  refine ⟨?_, by omega⟩
  rcases h4 with h4 | h4
  · left; omega
  · right; omega
/-- 9.4: to a domain with the fewest a pod may always come. -/
theorem least_plain (s : SpreadD) (nodes : List NodeD) (l : List PlacedD) (h : domsP s.1 nodes ≠ []) : ∃ n ∈ nodes, (getL (nLabs n) s.1).2 = true ∧ cntP s (getL (nLabs n) s.1).1 l = loP (fun v => cntP s v l) (domsP s.1 nodes) := by
  obtain ⟨_, d, hd, e⟩ := lo_spec (fun v => cntP s v l) h
  obtain ⟨n, hn, h1, h2⟩ := (mem_doms s.1 d nodes).1 hd
  exact ⟨n, hn, h1, by rw [h2]; exact e.symm⟩
end Go.Proofs.Ytgofpmcoffgffaa
namespace Go.Proofs.Ytgofpmcoffgffaa
open Go.RowKit
set_option linter.unusedSimpArgs false

/-- The same store in both worlds, below. -/
theorem below_both {w u : World} (h : Below w.heap.size w u) {p : Addr} (hp : p.block < w.heap.size) (x : Value) : Below (w.setCell p x).heap.size (w.setCell p x) (u.setCell p x) := by
  refine ⟨h.os, h.tape, h.output, by simpa using h.size, fun k hk => ?_⟩
  have hk' : k < w.heap.size := by simpa using hk
  by_cases e : k = p.block
  · subst e
    have := h.block p.block hp
    simp only [World.setCell, Array.getElem?_modify, if_true]
    rw [this]
  · rw [Below.heap_setCell _ _ _ _ e, Below.heap_setCell _ _ _ _ e]
    exact h.block k hk'
section
variable {α : Type} [Inhabited α] {R : Rep α} {k : Nat}
theorem Row.both (hR : Firm R k) {A : Where} {w u : World} {e : TypeId} {v : Value} {L : List α} (h : Row R k A w u e v L) {p : Addr} (hp : p.block < w.heap.size) (hA : ¬ A p.block) (x : Value) : Row R k A (w.setCell p x) (u.setCell p x) e v L := by
  obtain ⟨xs, h1, h2⟩ := h
  refine ⟨xs, ⟨below_both h1.1 hp x, ?_⟩, h2.kept hR (Kept.set (fun h => hA h.1) _)⟩
  have := ownsRow_setCell_below h1.2 hp x
  simpa using this
theorem Fresh.setCell (w : World) (p : Addr) (x : Value) : Fresh (w.setCell p x) = Fresh w := by funext b; simp [Fresh]
theorem Row.bothF (hR : Firm R k) {w u : World} {e : TypeId} {v : Value} {L : List α} (h : Row R k (Fresh w) w u e v L) {p : Addr} (hp : p.block < w.heap.size) (x : Value) : Row R k (Fresh (w.setCell p x)) (w.setCell p x) (u.setCell p x) e v L := by
  rw [Fresh.setCell]; exact h.both hR hp (Fresh.not hp) x
/-- What lies in a slice, or in none, ready to be appended. -/
def Src (R : Rep α) (k : Nat) (A : Where) (u : World) (a : Option Addr) (m : Nat) (N : List α) : Prop :=
  N.length = m ∧ ((a = none ∧ N = []) ∨ ∃ ad xs, a = some ad ∧ Chunks R k A u xs N ∧ (∀ j y, xs[j]? = some y → u.cell? (ad.add j) = some y) ∧ ∀ y ∈ xs, y.oneCell' = true)
theorem SlAt.src (hR : Firm R k) {bytes : Nat} {A : Where} {u : World} {a : Option Addr} {m c : Nat} {N : List α} (h : SlAt R k bytes A u a m c N) : Src R k A u a m N := by
  cases a with
  | none => obtain ⟨_, _, h3⟩ := sl_none h; exact ⟨h.1, .inl ⟨rfl, h3⟩⟩
  | some ad => obtain ⟨xs, h1, h2, h3⟩ := h.chunks hR; exact ⟨h.1, .inr ⟨ad, xs, rfl, h1, h2, h3⟩⟩
theorem Src.flat (hF : Flat R) {A A' : Where} {u : World} {a : Option Addr} {m : Nat} {N : List α} (h : Src R k A u a m N) : Src R k A' u a m N := by
  obtain ⟨h1, h2⟩ := h
  refine ⟨h1, ?_⟩
  rcases h2 with h2 | ⟨ad, xs, e, h3, h4, h5⟩
  · exact .inl h2
  · exact .inr ⟨ad, xs, e, h3.flat hF, h4, h5⟩
theorem Src.weak (hR : Firm R k) {A A' : Where} {u : World} {a : Option Addr} {m : Nat} {N : List α} (h : Src R k A u a m N) (hA : ∀ b, b < u.heap.size → A b → A' b) : Src R k A' u a m N := by
  obtain ⟨h1, h2⟩ := h
  refine ⟨h1, ?_⟩
  rcases h2 with h2 | ⟨ad, xs, e, h3, h4, h5⟩
  · exact .inl h2
  · exact .inr ⟨ad, xs, e, h3.weak hR hA, h4, h5⟩
/-- An append of what lies in a slice, or in none, to one's own row, whatever the region. -/
theorem row_appendS_wp (hR : Firm R k) {o : Oper} {a : Act} {K : Act → World → Prop} {Q : Exit → Act → World → Prop} {A : Where} {w0 u : World} (s x : Operand) (t e : TypeId)
    (ho : o.op = .call { callee := .builtin .append, args := #[s, x], argTypes := #[t, t] }) (z : Value) (bytes : Nat) (hinfo : (Try.prog.info? e).map (fun i => (i.zero, i.size, i.bytes)) = some (some z, k, bytes)) (ht : Try.prog.underlying t = some (.slice e)) (hzs : z.cells.size = k) (hk0 : 0 < k) (hby : 1 ≤ bytes)
    (v : Value) (L : List α) (hs : a.eval s = v) (hrow : Row R k A w0 u e v L)
    (ad : Option Addr) (m c : Nat) (N : List α) (hx : a.eval x = .slice ad m c) (hN : Src R k (fun b => A b ∧ v.ownBlock ≠ some b) u ad m N) (hb : (L.length + N.length) * bytes ≤ 140737488355328)
    (h : ∀ v' u', Row R k A w0 u' e v' (L ++ N) → u.grownBy u' v.ownBlock → K (a.put o.dst v') u') : o.wp Try.prog a u K Q := by
  obtain ⟨hm, hN⟩ := hN
  rcases hN with ⟨rfl, rfl⟩ | ⟨ad, xs, rfl, h1, h2, h3⟩
  · obtain rfl : m = 0 := by simpa using hm.symm
    obtain ⟨i0, hi, hz0, hz1, hz2⟩ := info_parts hinfo
    have hr : ∀ ty, (Builtin.append_ #[t, t] ty #[v, .slice none 0 c]).run Try.prog u = .ok v u := by
      intro ty
      obtain ⟨xs, hown, _⟩ := hrow
      rcases hown.2.2 with ⟨rfl, _⟩ | ⟨g, cap, cur, rfl, _, hg, hnc, _⟩
      · simp [Builtin.append_, run_underlying ht, sizeOf, typeInfo, hi, Builtin.lenOf, Builtin.firstCells, loadCells, loadCellsFrom]
      · simp [Builtin.append_, run_underlying ht, sizeOf, typeInfo, hi, Builtin.lenOf, Builtin.firstCells, loadCells, loadCellsFrom, hnc, storeCells]
    unfold Oper.wp execOp
    simp only [ho, resolve, invoke, builtin, Sem.run_bind, Sem.run_pure, Result.andThen_ok, List.map_toArray, List.map_cons, List.map_nil, hs, hx, hr]
    exact h v u (by simpa using hrow) ⟨rfl, rfl, rfl, Nat.le_refl _, fun _ _ _ => rfl⟩
  · exact row_append_wp hR s x t e ho z bytes hinfo ht hzs hk0 hby v L hs hrow ad m c xs N hm hx h1 h2 h3 hb h
theorem row_appendS (hR : Firm R k) {ops : Array Oper} {rest : List Oper} {o : Oper} {a : Act} {Q : Exit → Act → World → Prop} {A : Where} {w0 u : World} (hgd : Region.wanted o (yielded ops a.tmps) = true) (s x : Operand) (t e : TypeId)
    (ho : o.op = .call { callee := .builtin .append, args := #[s, x], argTypes := #[t, t] }) (z : Value) (bytes : Nat) (hinfo : (Try.prog.info? e).map (fun i => (i.zero, i.size, i.bytes)) = some (some z, k, bytes)) (ht : Try.prog.underlying t = some (.slice e)) (hzs : z.cells.size = k) (hk0 : 0 < k) (hby : 1 ≤ bytes)
    (v : Value) (L : List α) (hs : a.eval s = v) (hrow : Row R k A w0 u e v L)
    (ad : Option Addr) (m c : Nat) (N : List α) (hx : a.eval x = .slice ad m c) (hN : Src R k (fun b => A b ∧ v.ownBlock ≠ some b) u ad m N) (hb : (L.length + N.length) * bytes ≤ 140737488355328)
    (h : ∀ v' u', Row R k A w0 u' e v' (L ++ N) → u.grownBy u' v.ownBlock → wpList Try.prog ops Q rest (a.put o.dst v') u') : wpList Try.prog ops Q (o :: rest) a u :=
  BigFrame.wpList_want hgd (fun _ hK => row_appendS_wp hR s x t e ho z bytes hinfo ht hzs hk0 hby v L hs hrow ad m c N hx hN hb (fun v' u' h2 h3 => hK _ _ (h v' u' h2 h3)))
end
theorem BoxL.range {u : World} {D : Nat} {cs : List Value} (h : BoxL u D cs) : u.rangeAt D 0 cs := fun j v hj => by rw [Nat.zero_add]; exact (h.2 j v hj).1
theorem BoxL.there {u : World} {D : Nat} {cs : List Value} (h : BoxL u D cs) : u.there D 0 cs.length := fun j hj => by
  have := h.2 j cs[j] (List.getElem?_eq_getElem hj)
  rw [Nat.zero_add, this.1, this.2]
  exact ⟨rfl, rfl⟩
/-- What stays true while nothing that has come since W is turned. -/
def Stays (W : World) (G : World → Prop) : Prop := ∀ u u', G u → Kept (Fresh W) u u' → G u'
theorem Stays.none (W : World) : Stays W (fun _ => True) := fun _ _ _ _ => trivial
theorem Stays.add {α : Type} [Inhabited α] {R : Rep α} {k bytes : Nat} {W u : World} {G : World → Prop} (hG : Stays W G) (hg : G u) (hR : Firm R k) {a : Option Addr} {n c : Nat} {L : List α} (hs : SlAt R k bytes (Fresh W) u a n c L) :
    ∃ G', Stays W G' ∧ G' u ∧ (∀ v, G' v → G v) ∧ ∀ v, G' v → SlAt R k bytes (Fresh W) v a n c L :=
  ⟨fun v => G v ∧ SlAt R k bytes (Fresh W) v a n c L, fun _ _ h k => ⟨hG _ _ h.1 k, h.2.kept hR k⟩, ⟨hg, hs⟩, fun _ h => h.1, fun _ h => h.2⟩
end Go.Proofs.Ytgofpmcoffgffaa
