/- What is put into a right state, and taken out of it, leaves a right one, and its like. No condition beyond what each says. -/
import Derived.Test.YtopimokncibdgaaGreatQ37
import Derived.Test.YtopimokncibdgaaGreatQ38
import Derived.Test.YtopimokncibdgaaGreatQ39
namespace Go.Proofs.YtopimokncibdgaaGreat
set_option maxHeartbeats 16000000
set_option maxRecDepth 100000
open Go.RowKit
set_option linter.unusedSimpArgs false
set_option linter.unusedSectionVars false
theorem sGt_iff (a b : ByteArray) : sGt a b = true ↔ sLt b a = true := by
 have h3 := cb_tri a.data.toList b.data.toList
 have e1 : sEq a b = true ↔ a = b := sEq_iff a b
 rw [sGt, Bool.and_eq_true, Bool.not_eq_true', Bool.not_eq_true', sLt_iff, sLt_false]
 constructor
 ·
  rintro ⟨h1, h2⟩
  rcases h3 with h | h | h
  ·
   exact absurd h.1 h1
  ·
   have : a = b := by cases a; cases b; simpa using h.2
   rw [e1.2 this] at h2; cases h2
  ·
   exact h.2
 ·
  intro h
  rcases h3 with h' | h' | h'
  ·
   omega
  ·
   have : a = b := by cases a; cases b; simpa using h'.2
   subst this; rw [cb_self] at h; omega
  ·
   refine ⟨by omega, sEq_false (fun e => ?_)⟩
   subst e; rw [cb_self] at h; omega
theorem sLt_of {a b : ByteArray} (h1 : sGt a b = false) (h2 : sEq a b = false) : sLt a b = true := by
 rw [sGt, h2] at h1; simpa using h1
section
variable {α : Type} [Inhabited α] (f : α → ByteArray)
def Up (L : List α) : Prop := L.Pairwise (fun a b => sLt (f a) (f b) = true)
theorem rises_up {L : List α} : risesBy sLt f L = true ↔ Up f L := by
 rw [risesBy, allTo_iff, Up, List.pairwise_iff_getElem]
 constructor
 ·
  intro h
  have h' : ∀ i (hi : i + 1 < L.length), sLt (f L[i]) (f L[i + 1]) = true := fun i hi => by
   have := h (i + 1) hi
   rw [getE _ _ hi, show i + 1 - 1 = i by omega, getE _ _ (by omega)] at this
   simpa using this
  have key : ∀ d i (hd : i + d + 1 < L.length), sLt (f (L[i]'(by omega))) (f L[i + d + 1]) = true := by
   intro d
   induction d with
   | zero => intro i hd; exact h' i hd
   | succ d ih => intro i hd; exact sLt_trans (ih i (by omega)) (h' (i + d + 1) hd)
  intro i j hi hj hij
  have := key (j - i - 1) i (by omega)
  have e : i + (j - i - 1) + 1 = j := by omega
  simpa only [e] using this
 ·
  intro h i hi
  rcases Nat.eq_zero_or_pos i with h0 | h0
  ·
   simp [h0]
  ·
   have := h (i - 1) i (by omega) hi (by omega)
   rw [getE _ _ hi, getE _ _ (by omega)]
   simp [this]
theorem up_replace {L : List α} {o : α} (h : Up f L) {i : Nat} (hi : i < L.length) (he : f L[i] = f o) : Up f (L.take i ++ o :: L.drop (i + 1)) := by
 have e : (L.take i ++ o :: L.drop (i + 1)).map f = L.map f := by
  have e0 : L.take i ++ L[i] :: L.drop (i + 1) = L := by rw [← List.drop_eq_getElem_cons hi, List.take_append_drop]
  calc (L.take i ++ o :: L.drop (i + 1)).map f = (L.take i ++ L[i] :: L.drop (i + 1)).map f := by simp only [List.map_append, List.map_cons, he]
   _ = L.map f := by rw [e0]
 have h1 : (L.map f).Pairwise (fun a b => sLt a b = true) := List.pairwise_map.2 h
 rw [← e] at h1
 exact List.pairwise_map.1 h1
theorem up_insert {L : List α} {o : α} (h : Up f L) (hn : ∀ x ∈ L, sEq (f x) (f o) = false) {i : Nat} (hi : L.findIdx (fun x => sGt (f x) (f o)) = i) : Up f (L.take i ++ o :: L.drop i) := by
 have hs : Up f (L.take i ++ L.drop i) := by rw [List.take_append_drop]; exact h
 obtain ⟨h1, h2, h3⟩ := List.pairwise_append.1 hs
 have hlow : ∀ a ∈ L.take i, sLt (f a) (f o) = true := fun a ha => by
  obtain ⟨j, hj, rfl⟩ := List.mem_iff_getElem.1 ha
  rw [List.length_take] at hj
  have hj' : j < L.findIdx (fun x => sGt (f x) (f o)) := by omega
  have := List.not_of_lt_findIdx hj'
  rw [List.getElem_take]
  exact sLt_of (by simpa using this) (hn _ (List.getElem_mem _))
 have hhigh : ∀ b ∈ L.drop i, sLt (f o) (f b) = true := fun b hb => by
  have hil : i < L.length := by
   rcases Nat.lt_or_ge i L.length with h' | h'
   ·
    exact h'
   ·
    rw [List.drop_eq_nil_of_le h'] at hb; cases hb
  have h0 : sGt (f L[i]) (f o) = true := by
   have := List.findIdx_getElem (xs := L) (p := fun x => sGt (f x) (f o)) (w := by rw [hi]; exact hil)
   simpa only [hi] using this
  have h0' := (sGt_iff _ _).1 h0
  rw [List.drop_eq_getElem_cons hil] at hb h2
  rcases List.mem_cons.1 hb with rfl | hb
  ·
   exact h0'
  ·
   exact sLt_trans h0' ((List.pairwise_cons.1 h2).1 b hb)
 refine List.pairwise_append.2 ⟨h1, List.pairwise_cons.2 ⟨hhigh, h2⟩, fun a ha b hb => ?_⟩
 rcases List.mem_cons.1 hb with rfl | hb
 ·
  exact hlow a ha
 ·
  exact h3 a ha b hb
theorem up_remove {L : List α} (h : Up f L) (i : Nat) : Up f (L.take i ++ L.drop (i + 1)) := by
 refine List.Pairwise.sublist ?_ h
 rw [← List.eraseIdx_eq_take_drop_succ]
 exact List.eraseIdx_sublist L i
def ListOK (right : α → Bool) (L : List α) : Prop := L.length ≤ 256 ∧ L.all right = true ∧ risesBy sLt f L = true
variable {f} {right : α → Bool} {L : List α}
theorem ListOK.put {o : α} {r : List α × Bool} (h : ListOK f right L) (ho : right o = true) (hp : putL f L o = some r) : ListOK f right r.1 := by
 obtain ⟨h1, h2, h3⟩ := h
 rw [rises_up] at h3
 rw [List.all_eq_true] at h2
 have hall : ∀ i j, (L.take i ++ o :: L.drop j).all right = true := fun i j => by
  rw [List.all_eq_true]
  intro x hx
  rcases List.mem_append.1 hx with hx | hx
  ·
   exact h2 x (List.mem_of_mem_take hx)
  ·
   rcases List.mem_cons.1 hx with rfl | hx
   ·
    exact ho
   ·
    exact h2 x (List.mem_of_mem_drop hx)
 rw [putL] at hp
 split at hp
 ·
  rename_i hi
  cases hp
  have := List.findIdx_getElem (xs := L) (p := fun x => sEq (f x) (f o)) (w := hi)
  exact ⟨by simp; omega, hall _ _, (rises_up f).2 (up_replace f h3 hi ((sEq_iff _ _).1 this))⟩
 ·
  rename_i hi
  split at hp
  ·
   cases hp
  ·
   rename_i hl
   cases hp
   refine ⟨by simp; omega, hall _ _, (rises_up f).2 (up_insert f h3 (fun x hx => ?_) rfl)⟩
   have he : L.findIdx (fun x => sEq (f x) (f o)) = L.length := Nat.le_antisymm List.findIdx_le_length (Nat.le_of_not_lt hi)
   have := (List.findIdx_eq_length.1 he) x hx
   simpa using this
theorem ListOK.rem (h : ListOK f right L) (s : ByteArray) : ListOK f right (remL f L s).1 := by
 rw [remL]
 split
 ·
  obtain ⟨h1, h2, h3⟩ := h
  rw [rises_up] at h3
  rw [List.all_eq_true] at h2
  refine ⟨by simp; omega, List.all_eq_true.2 fun x hx => ?_, (rises_up f).2 (up_remove f h3 _)⟩
  rcases List.mem_append.1 hx with hx | hx
  ·
   exact h2 x (List.mem_of_mem_take hx)
  ·
   exact h2 x (List.mem_of_mem_drop hx)
 ·
  exact h
end
structure StOK (x : StateD) : Prop where
 o0 : ListOK (fun y : PodD => y.1) rightPod x.1
 o1 : ListOK (fun y : NodeD => y.1) rightNode x.2.1
 o2 : ListOK (fun y : VolumeD => y.1) rightVolume x.2.2.1
 o3 : ListOK (fun y : ClaimD => y.1) rightClaim x.2.2.2.1
 o4 : ListOK (fun y : ClassD => y.1) rightClass x.2.2.2.2.1
 o5 : ListOK (fun y : BudgetD => y.1) rightBudget x.2.2.2.2.2
theorem checkS_ok (x : StateD) : checkS x = 0 ↔ StOK x := by
 constructor
 ·
  intro h
  rw [checkS] at h
  split at h
  ·
   rename_i h1
   split at h
   ·
    rename_i h2
    rw [allTo_iff] at h1 h2
    exact ⟨⟨by simpa [okC] using h1 0 (by omega), by have := h2 0 (by omega); simp only [okR, Bool.and_eq_true] at this; exact this.1, by have := h2 0 (by omega); simp only [okR, Bool.and_eq_true] at this; exact this.2⟩, ⟨by simpa [okC] using h1 1 (by omega), by have := h2 1 (by omega); simp only [okR, Bool.and_eq_true] at this; exact this.1, by have := h2 1 (by omega); simp only [okR, Bool.and_eq_true] at this; exact this.2⟩, ⟨by simpa [okC] using h1 2 (by omega), by have := h2 2 (by omega); simp only [okR, Bool.and_eq_true] at this; exact this.1, by have := h2 2 (by omega); simp only [okR, Bool.and_eq_true] at this; exact this.2⟩, ⟨by simpa [okC] using h1 3 (by omega), by have := h2 3 (by omega); simp only [okR, Bool.and_eq_true] at this; exact this.1, by have := h2 3 (by omega); simp only [okR, Bool.and_eq_true] at this; exact this.2⟩, ⟨by simpa [okC] using h1 4 (by omega), by have := h2 4 (by omega); simp only [okR, Bool.and_eq_true] at this; exact this.1, by have := h2 4 (by omega); simp only [okR, Bool.and_eq_true] at this; exact this.2⟩, ⟨by simpa [okC] using h1 5 (by omega), by have := h2 5 (by omega); simp only [okR, Bool.and_eq_true] at this; exact this.1, by have := h2 5 (by omega); simp only [okR, Bool.and_eq_true] at this; exact this.2⟩⟩
   ·
    cases h
  ·
   cases h
 ·
  intro h
  have c1 : allTo 6 (okC x) = true := allTo_true fun j hj => by
   rcases (by omega : j = 0 ∨ j = 1 ∨ j = 2 ∨ j = 3 ∨ j = 4 ∨ j = 5) with rfl | rfl | rfl | rfl | rfl | rfl
   ·
    exact decide_eq_true h.o0.1
   ·
    exact decide_eq_true h.o1.1
   ·
    exact decide_eq_true h.o2.1
   ·
    exact decide_eq_true h.o3.1
   ·
    exact decide_eq_true h.o4.1
   ·
    exact decide_eq_true h.o5.1
  have c2 : allTo 6 (okR x) = true := allTo_true fun j hj => by
   rcases (by omega : j = 0 ∨ j = 1 ∨ j = 2 ∨ j = 3 ∨ j = 4 ∨ j = 5) with rfl | rfl | rfl | rfl | rfl | rfl
   ·
    rw [okR, h.o0.2.1, h.o0.2.2]; rfl
   ·
    rw [okR, h.o1.2.1, h.o1.2.2]; rfl
   ·
    rw [okR, h.o2.2.1, h.o2.2.2]; rfl
   ·
    rw [okR, h.o3.2.1, h.o3.2.2]; rfl
   ·
    rw [okR, h.o4.2.1, h.o4.2.2]; rfl
   ·
    rw [okR, h.o5.2.1, h.o5.2.2]; rfl
  rw [checkS, c1, c2]; rfl
theorem StOK.fits {x : StateD} (h : StOK x) : Fits x := ⟨by have := h.o0.1; omega, by have := h.o1.1; omega, by have := h.o2.1; omega, by have := h.o3.1; omega, by have := h.o4.1; omega, by have := h.o5.1; omega⟩
theorem put_okPod {x : StateD} {o : PodD} (h : StOK x) (ho : rightPod o = true) (he : (putSPod x o).2.2 = 0) : StOK (putSPod x o).1 := by
 obtain ⟨r, hr⟩ : ∃ r, putL (fun y : PodD => y.1) x.1 o = r := ⟨_, rfl⟩
 rw [putSPod, hr] at he ⊢
 cases r with
 | none => cases he
 | some r => exact ⟨h.o0.put ho hr, h.o1, h.o2, h.o3, h.o4, h.o5⟩
theorem rem_okPod {x : StateD} (h : StOK x) (s : ByteArray) : StOK (remSPod x s).1 := ⟨h.o0.rem s, h.o1, h.o2, h.o3, h.o4, h.o5⟩
theorem put_okNode {x : StateD} {o : NodeD} (h : StOK x) (ho : rightNode o = true) (he : (putSNode x o).2.2 = 0) : StOK (putSNode x o).1 := by
 obtain ⟨r, hr⟩ : ∃ r, putL (fun y : NodeD => y.1) x.2.1 o = r := ⟨_, rfl⟩
 rw [putSNode, hr] at he ⊢
 cases r with
 | none => cases he
 | some r => exact ⟨h.o0, h.o1.put ho hr, h.o2, h.o3, h.o4, h.o5⟩
theorem rem_okNode {x : StateD} (h : StOK x) (s : ByteArray) : StOK (remSNode x s).1 := ⟨h.o0, h.o1.rem s, h.o2, h.o3, h.o4, h.o5⟩
theorem put_okVolume {x : StateD} {o : VolumeD} (h : StOK x) (ho : rightVolume o = true) (he : (putSVolume x o).2.2 = 0) : StOK (putSVolume x o).1 := by
 obtain ⟨r, hr⟩ : ∃ r, putL (fun y : VolumeD => y.1) x.2.2.1 o = r := ⟨_, rfl⟩
 rw [putSVolume, hr] at he ⊢
 cases r with
 | none => cases he
 | some r => exact ⟨h.o0, h.o1, h.o2.put ho hr, h.o3, h.o4, h.o5⟩
theorem rem_okVolume {x : StateD} (h : StOK x) (s : ByteArray) : StOK (remSVolume x s).1 := ⟨h.o0, h.o1, h.o2.rem s, h.o3, h.o4, h.o5⟩
theorem put_okClaim {x : StateD} {o : ClaimD} (h : StOK x) (ho : rightClaim o = true) (he : (putSClaim x o).2.2 = 0) : StOK (putSClaim x o).1 := by
 obtain ⟨r, hr⟩ : ∃ r, putL (fun y : ClaimD => y.1) x.2.2.2.1 o = r := ⟨_, rfl⟩
 rw [putSClaim, hr] at he ⊢
 cases r with
 | none => cases he
 | some r => exact ⟨h.o0, h.o1, h.o2, h.o3.put ho hr, h.o4, h.o5⟩
theorem rem_okClaim {x : StateD} (h : StOK x) (s : ByteArray) : StOK (remSClaim x s).1 := ⟨h.o0, h.o1, h.o2, h.o3.rem s, h.o4, h.o5⟩
theorem put_okClass {x : StateD} {o : ClassD} (h : StOK x) (ho : rightClass o = true) (he : (putSClass x o).2.2 = 0) : StOK (putSClass x o).1 := by
 obtain ⟨r, hr⟩ : ∃ r, putL (fun y : ClassD => y.1) x.2.2.2.2.1 o = r := ⟨_, rfl⟩
 rw [putSClass, hr] at he ⊢
 cases r with
 | none => cases he
 | some r => exact ⟨h.o0, h.o1, h.o2, h.o3, h.o4.put ho hr, h.o5⟩
theorem rem_okClass {x : StateD} (h : StOK x) (s : ByteArray) : StOK (remSClass x s).1 := ⟨h.o0, h.o1, h.o2, h.o3, h.o4.rem s, h.o5⟩
theorem put_okBudget {x : StateD} {o : BudgetD} (h : StOK x) (ho : rightBudget o = true) (he : (putSBudget x o).2.2 = 0) : StOK (putSBudget x o).1 := by
 obtain ⟨r, hr⟩ : ∃ r, putL (fun y : BudgetD => y.1) x.2.2.2.2.2 o = r := ⟨_, rfl⟩
 rw [putSBudget, hr] at he ⊢
 cases r with
 | none => cases he
 | some r => exact ⟨h.o0, h.o1, h.o2, h.o3, h.o4, h.o5.put ho hr⟩
theorem rem_okBudget {x : StateD} (h : StOK x) (s : ByteArray) : StOK (remSBudget x s).1 := ⟨h.o0, h.o1, h.o2, h.o3, h.o4, h.o5.rem s⟩
theorem checkO_zero {o : ObjectD} (h : checkO o = 0) : (1 ≤ o.1 ∧ o.1 ≤ 6) ∧ rightO o = true ∧ othersB o = true := by
 rw [checkO] at h
 split at h
 ·
  rename_i h1
  split at h
  ·
   rename_i h2
   rw [Bool.and_eq_true] at h2
   exact ⟨h1, h2⟩
  ·
   cases h
 ·
  cases h
theorem put_ok {x : StateD} {o : ObjectD} (h : StOK x) (he : (putO x o).2.2 = 0) : StOK (putO x o).1 := by
 by_cases hc : checkO o = 0
 ·
  obtain ⟨hk, hr, _⟩ := checkO_zero hc
  have hk' : o.1 = 1 ∨ o.1 = 2 ∨ o.1 = 3 ∨ o.1 = 4 ∨ o.1 = 5 ∨ o.1 = 6 := by omega
  rcases hk' with hk' | hk' | hk' | hk' | hk' | hk'
  ·
   have e : putO x o = putSPod x o.2.1 := by simp [putO, hc, hk']
   have e2 : rightO o = rightPod o.2.1 := by simp [rightO, hk']
   rw [e] at he ⊢
   exact put_okPod h (by rw [← e2]; exact hr) he
  ·
   have e : putO x o = putSNode x o.2.2.1 := by simp [putO, hc, hk']
   have e2 : rightO o = rightNode o.2.2.1 := by simp [rightO, hk']
   rw [e] at he ⊢
   exact put_okNode h (by rw [← e2]; exact hr) he
  ·
   have e : putO x o = putSVolume x o.2.2.2.1 := by simp [putO, hc, hk']
   have e2 : rightO o = rightVolume o.2.2.2.1 := by simp [rightO, hk']
   rw [e] at he ⊢
   exact put_okVolume h (by rw [← e2]; exact hr) he
  ·
   have e : putO x o = putSClaim x o.2.2.2.2.1 := by simp [putO, hc, hk']
   have e2 : rightO o = rightClaim o.2.2.2.2.1 := by simp [rightO, hk']
   rw [e] at he ⊢
   exact put_okClaim h (by rw [← e2]; exact hr) he
  ·
   have e : putO x o = putSClass x o.2.2.2.2.2.1 := by simp [putO, hc, hk']
   have e2 : rightO o = rightClass o.2.2.2.2.2.1 := by simp [rightO, hk']
   rw [e] at he ⊢
   exact put_okClass h (by rw [← e2]; exact hr) he
  ·
   have e : putO x o = putSBudget x o.2.2.2.2.2.2 := by simp [putO, hc, hk']
   have e2 : rightO o = rightBudget o.2.2.2.2.2.2 := by simp [rightO, hk']
   rw [e] at he ⊢
   exact put_okBudget h (by rw [← e2]; exact hr) he
 ·
  rw [putO, if_neg hc] at he
  exact absurd he hc
theorem rem_ok {x : StateD} (h : StOK x) (n : Int) (s : ByteArray) : StOK (remO x n s).1 := by
 rw [remO]
 split
 ·
  exact rem_okPod h s
 split
 ·
  exact rem_okNode h s
 split
 ·
  exact rem_okVolume h s
 split
 ·
  exact rem_okClaim h s
 split
 ·
  exact rem_okClass h s
 split
 ·
  exact rem_okBudget h s
 exact h
end Go.Proofs.YtopimokncibdgaaGreat

namespace Go.Proofs.YtopimokncibdgaaGreat
set_option maxHeartbeats 16000000
set_option maxRecDepth 100000
open Tryz Go.RowKit
set_option linter.unusedSimpArgs false
def clsO (n : Int) (s : ByteArray) : ObjectD := (n, (⟨#[]⟩, 0, [], (0, 0, 0), [], [], [], [], [], [], [], [], ⟨#[]⟩, ⟨#[]⟩), (⟨#[]⟩, [], [], false, (0, 0, 0), 0, 0), (⟨#[]⟩, 0, ⟨#[]⟩, [], ⟨#[]⟩), (⟨#[]⟩, 0, ⟨#[]⟩, ⟨#[]⟩), (s, false), (⟨#[]⟩, [], 0))
def clsC (n : Int) (s : ByteArray) : List Value := .int .i64 n :: .string ⟨#[]⟩ :: .int .i64 0 :: .slice Option.none 0 0 :: .int .i64 0 :: .int .i64 0 :: .int .i64 0 :: .slice Option.none 0 0 :: .slice Option.none 0 0 :: .slice Option.none 0 0 :: .slice Option.none 0 0 :: .slice Option.none 0 0 :: .slice Option.none 0 0 :: .slice Option.none 0 0 :: .slice Option.none 0 0 :: .string ⟨#[]⟩ :: .string ⟨#[]⟩ :: .string ⟨#[]⟩ :: .slice Option.none 0 0 :: .slice Option.none 0 0 :: .bool false :: .int .i64 0 :: .int .i64 0 :: .int .i64 0 :: .int .i64 0 :: .int .i64 0 :: .string ⟨#[]⟩ :: .int .i64 0 :: .string ⟨#[]⟩ :: .slice Option.none 0 0 :: .string ⟨#[]⟩ :: .string ⟨#[]⟩ :: .int .i64 0 :: .string ⟨#[]⟩ :: .string ⟨#[]⟩ :: .string s :: .bool false :: .string ⟨#[]⟩ :: .slice Option.none 0 0 :: .int .i64 0 :: []
theorem cls_rep (A : Where) (w : World) (n : Int) (s : ByteArray) (hs : s.size ≤ 140737488355328) : RObject A w (clsC n s) (clsO n s) :=
 RObject.mk (x := clsO n s) (h3 := (none, 0, 0)) (h7 := (none, 0, 0)) (h8 := (none, 0, 0)) (h9 := (none, 0, 0)) (h10 := (none, 0, 0)) (h11 := (none, 0, 0)) (h12 := (none, 0, 0)) (h13 := (none, 0, 0)) (h14 := (none, 0, 0)) (h18 := (none, 0, 0)) (h19 := (none, 0, 0)) (h29 := (none, 0, 0)) (h38 := (none, 0, 0)) (Nat.zero_le _) (SlAt.nil _ _ none 0 (fun _ => rfl)) (SlAt.nil _ _ none 0 (fun _ => rfl)) (SlAt.nil _ _ none 0 (fun _ => rfl)) (SlAt.nil _ _ none 0 (fun _ => rfl)) (SlAt.nil _ _ none 0 (fun _ => rfl)) (SlAt.nil _ _ none 0 (fun _ => rfl)) (SlAt.nil _ _ none 0 (fun _ => rfl)) (SlAt.nil _ _ none 0 (fun _ => rfl)) (SlAt.nil _ _ none 0 (fun _ => rfl)) (Nat.zero_le _) (Nat.zero_le _) (Nat.zero_le _) (SlAt.nil _ _ none 0 (fun _ => rfl)) (SlAt.nil _ _ none 0 (fun _ => rfl)) (Nat.zero_le _) (Nat.zero_le _) (SlAt.nil _ _ none 0 (fun _ => rfl)) (Nat.zero_le _) (Nat.zero_le _) (Nat.zero_le _) (Nat.zero_le _) hs (Nat.zero_le _) (SlAt.nil _ _ none 0 (fun _ => rfl))
theorem class_calls (s : ByteArray) (w : World) : Calls prog 46 #[.string s] w fun e w' => e = .returned (.agg (clsC 5 s).toArray) ∧ Below w.heap.size w w' := by
 have HT : Hid ((w.alloc (.cells (.int .i64 0 :: .string ⟨#[]⟩ :: .int .i64 0 :: .slice Option.none 0 0 :: .int .i64 0 :: .int .i64 0 :: .int .i64 0 :: .slice Option.none 0 0 :: .slice Option.none 0 0 :: .slice Option.none 0 0 :: .slice Option.none 0 0 :: .slice Option.none 0 0 :: .slice Option.none 0 0 :: .slice Option.none 0 0 :: .slice Option.none 0 0 :: .string ⟨#[]⟩ :: .string ⟨#[]⟩ :: .string ⟨#[]⟩ :: .slice Option.none 0 0 :: .slice Option.none 0 0 :: .bool false :: .int .i64 0 :: .int .i64 0 :: .int .i64 0 :: .int .i64 0 :: .int .i64 0 :: .string ⟨#[]⟩ :: .int .i64 0 :: .string ⟨#[]⟩ :: .slice Option.none 0 0 :: .string ⟨#[]⟩ :: .string ⟨#[]⟩ :: .int .i64 0 :: .string ⟨#[]⟩ :: .string ⟨#[]⟩ :: .string ⟨#[]⟩ :: .bool false :: .string ⟨#[]⟩ :: .slice Option.none 0 0 :: .int .i64 0 :: [] : List Value).toArray 46)).there w.heap.size 0 40) := ((Held.start w).room rfl (.int .i64 0 :: .string ⟨#[]⟩ :: .int .i64 0 :: .slice Option.none 0 0 :: .int .i64 0 :: .int .i64 0 :: .int .i64 0 :: .slice Option.none 0 0 :: .slice Option.none 0 0 :: .slice Option.none 0 0 :: .slice Option.none 0 0 :: .slice Option.none 0 0 :: .slice Option.none 0 0 :: .slice Option.none 0 0 :: .slice Option.none 0 0 :: .string ⟨#[]⟩ :: .string ⟨#[]⟩ :: .string ⟨#[]⟩ :: .slice Option.none 0 0 :: .slice Option.none 0 0 :: .bool false :: .int .i64 0 :: .int .i64 0 :: .int .i64 0 :: .int .i64 0 :: .int .i64 0 :: .string ⟨#[]⟩ :: .int .i64 0 :: .string ⟨#[]⟩ :: .slice Option.none 0 0 :: .string ⟨#[]⟩ :: .string ⟨#[]⟩ :: .int .i64 0 :: .string ⟨#[]⟩ :: .string ⟨#[]⟩ :: .string ⟨#[]⟩ :: .bool false :: .string ⟨#[]⟩ :: .slice Option.none 0 0 :: .int .i64 0 :: [] : List Value).toArray 46).there 0 rfl
 obtain ⟨u4, hu4⟩ : ∃ u4, u4 = (w.alloc (.cells (.int .i64 0 :: .string ⟨#[]⟩ :: .int .i64 0 :: .slice Option.none 0 0 :: .int .i64 0 :: .int .i64 0 :: .int .i64 0 :: .slice Option.none 0 0 :: .slice Option.none 0 0 :: .slice Option.none 0 0 :: .slice Option.none 0 0 :: .slice Option.none 0 0 :: .slice Option.none 0 0 :: .slice Option.none 0 0 :: .slice Option.none 0 0 :: .string ⟨#[]⟩ :: .string ⟨#[]⟩ :: .string ⟨#[]⟩ :: .slice Option.none 0 0 :: .slice Option.none 0 0 :: .bool false :: .int .i64 0 :: .int .i64 0 :: .int .i64 0 :: .int .i64 0 :: .int .i64 0 :: .string ⟨#[]⟩ :: .int .i64 0 :: .string ⟨#[]⟩ :: .slice Option.none 0 0 :: .string ⟨#[]⟩ :: .string ⟨#[]⟩ :: .int .i64 0 :: .string ⟨#[]⟩ :: .string ⟨#[]⟩ :: .string ⟨#[]⟩ :: .bool false :: .string ⟨#[]⟩ :: .slice Option.none 0 0 :: .int .i64 0 :: [] : List Value).toArray 46)).setCells w.heap.size 0 (.int .i64 5 :: .string ⟨#[]⟩ :: .int .i64 0 :: .slice Option.none 0 0 :: .int .i64 0 :: .int .i64 0 :: .int .i64 0 :: .slice Option.none 0 0 :: .slice Option.none 0 0 :: .slice Option.none 0 0 :: .slice Option.none 0 0 :: .slice Option.none 0 0 :: .slice Option.none 0 0 :: .slice Option.none 0 0 :: .slice Option.none 0 0 :: .string ⟨#[]⟩ :: .string ⟨#[]⟩ :: .string ⟨#[]⟩ :: .slice Option.none 0 0 :: .slice Option.none 0 0 :: .bool false :: .int .i64 0 :: .int .i64 0 :: .int .i64 0 :: .int .i64 0 :: .int .i64 0 :: .string ⟨#[]⟩ :: .int .i64 0 :: .string ⟨#[]⟩ :: .slice Option.none 0 0 :: .string ⟨#[]⟩ :: .string ⟨#[]⟩ :: .int .i64 0 :: .string ⟨#[]⟩ :: .string ⟨#[]⟩ :: .string s :: .bool false :: .string ⟨#[]⟩ :: .slice Option.none 0 0 :: .int .i64 0 :: []) := ⟨_, rfl⟩
 have HBE : Hid (Below w.heap.size w u4) := by rw [Hid, hu4]; exact below_setCells ((Below.refl _ w).alloc (Nat.le_refl _) _) (Nat.le_refl _)
 have HRG : Hid (u4.rangeAt w.heap.size 0 (.int .i64 5 :: .string ⟨#[]⟩ :: .int .i64 0 :: .slice Option.none 0 0 :: .int .i64 0 :: .int .i64 0 :: .int .i64 0 :: .slice Option.none 0 0 :: .slice Option.none 0 0 :: .slice Option.none 0 0 :: .slice Option.none 0 0 :: .slice Option.none 0 0 :: .slice Option.none 0 0 :: .slice Option.none 0 0 :: .slice Option.none 0 0 :: .string ⟨#[]⟩ :: .string ⟨#[]⟩ :: .string ⟨#[]⟩ :: .slice Option.none 0 0 :: .slice Option.none 0 0 :: .bool false :: .int .i64 0 :: .int .i64 0 :: .int .i64 0 :: .int .i64 0 :: .int .i64 0 :: .string ⟨#[]⟩ :: .int .i64 0 :: .string ⟨#[]⟩ :: .slice Option.none 0 0 :: .string ⟨#[]⟩ :: .string ⟨#[]⟩ :: .int .i64 0 :: .string ⟨#[]⟩ :: .string ⟨#[]⟩ :: .string s :: .bool false :: .string ⟨#[]⟩ :: .slice Option.none 0 0 :: .int .i64 0 :: [])) := by rw [Hid, hu4]; exact World.rangeAt_setCells_same _ _ _ _ HT.out
 have HU4 : Hid (u4 = (w.alloc (.cells (.int .i64 0 :: .string ⟨#[]⟩ :: .int .i64 0 :: .slice Option.none 0 0 :: .int .i64 0 :: .int .i64 0 :: .int .i64 0 :: .slice Option.none 0 0 :: .slice Option.none 0 0 :: .slice Option.none 0 0 :: .slice Option.none 0 0 :: .slice Option.none 0 0 :: .slice Option.none 0 0 :: .slice Option.none 0 0 :: .slice Option.none 0 0 :: .string ⟨#[]⟩ :: .string ⟨#[]⟩ :: .string ⟨#[]⟩ :: .slice Option.none 0 0 :: .slice Option.none 0 0 :: .bool false :: .int .i64 0 :: .int .i64 0 :: .int .i64 0 :: .int .i64 0 :: .int .i64 0 :: .string ⟨#[]⟩ :: .int .i64 0 :: .string ⟨#[]⟩ :: .slice Option.none 0 0 :: .string ⟨#[]⟩ :: .string ⟨#[]⟩ :: .int .i64 0 :: .string ⟨#[]⟩ :: .string ⟨#[]⟩ :: .string ⟨#[]⟩ :: .bool false :: .string ⟨#[]⟩ :: .slice Option.none 0 0 :: .int .i64 0 :: [] : List Value).toArray 46)).setCells w.heap.size 0 (.int .i64 5 :: .string ⟨#[]⟩ :: .int .i64 0 :: .slice Option.none 0 0 :: .int .i64 0 :: .int .i64 0 :: .int .i64 0 :: .slice Option.none 0 0 :: .slice Option.none 0 0 :: .slice Option.none 0 0 :: .slice Option.none 0 0 :: .slice Option.none 0 0 :: .slice Option.none 0 0 :: .slice Option.none 0 0 :: .slice Option.none 0 0 :: .string ⟨#[]⟩ :: .string ⟨#[]⟩ :: .string ⟨#[]⟩ :: .slice Option.none 0 0 :: .slice Option.none 0 0 :: .bool false :: .int .i64 0 :: .int .i64 0 :: .int .i64 0 :: .int .i64 0 :: .int .i64 0 :: .string ⟨#[]⟩ :: .int .i64 0 :: .string ⟨#[]⟩ :: .slice Option.none 0 0 :: .string ⟨#[]⟩ :: .string ⟨#[]⟩ :: .int .i64 0 :: .string ⟨#[]⟩ :: .string ⟨#[]⟩ :: .string s :: .bool false :: .string ⟨#[]⟩ :: .slice Option.none 0 0 :: .int .i64 0 :: [])) := hu4
 clear hu4
 go_enter func46, ntmps46
 go_wp2_with (first | (refine wpList_store_mid rfl 46 _ _ rfl w.heap.size 0 (.int .i64 5 :: .string ⟨#[]⟩ :: .int .i64 0 :: .slice Option.none 0 0 :: .int .i64 0 :: .int .i64 0 :: .int .i64 0 :: .slice Option.none 0 0 :: .slice Option.none 0 0 :: .slice Option.none 0 0 :: .slice Option.none 0 0 :: .slice Option.none 0 0 :: .slice Option.none 0 0 :: .slice Option.none 0 0 :: .slice Option.none 0 0 :: .string ⟨#[]⟩ :: .string ⟨#[]⟩ :: .string ⟨#[]⟩ :: .slice Option.none 0 0 :: .slice Option.none 0 0 :: .bool false :: .int .i64 0 :: .int .i64 0 :: .int .i64 0 :: .int .i64 0 :: .int .i64 0 :: .string ⟨#[]⟩ :: .int .i64 0 :: .string ⟨#[]⟩ :: .slice Option.none 0 0 :: .string ⟨#[]⟩ :: .string ⟨#[]⟩ :: .int .i64 0 :: .string ⟨#[]⟩ :: .string ⟨#[]⟩ :: .string s :: .bool false :: .string ⟨#[]⟩ :: .slice Option.none 0 0 :: .int .i64 0 :: [] : List Value).toArray rfl rfl HT.out infoObj (by simp [Value.oneCell']) ?_; refine wpl_at HU4.out ?_) | fail)
 refine bodyPost_ret (v := .agg (.int .i64 5 :: .string ⟨#[]⟩ :: .int .i64 0 :: .slice Option.none 0 0 :: .int .i64 0 :: .int .i64 0 :: .int .i64 0 :: .slice Option.none 0 0 :: .slice Option.none 0 0 :: .slice Option.none 0 0 :: .slice Option.none 0 0 :: .slice Option.none 0 0 :: .slice Option.none 0 0 :: .slice Option.none 0 0 :: .slice Option.none 0 0 :: .string ⟨#[]⟩ :: .string ⟨#[]⟩ :: .string ⟨#[]⟩ :: .slice Option.none 0 0 :: .slice Option.none 0 0 :: .bool false :: .int .i64 0 :: .int .i64 0 :: .int .i64 0 :: .int .i64 0 :: .int .i64 0 :: .string ⟨#[]⟩ :: .int .i64 0 :: .string ⟨#[]⟩ :: .slice Option.none 0 0 :: .string ⟨#[]⟩ :: .string ⟨#[]⟩ :: .int .i64 0 :: .string ⟨#[]⟩ :: .string ⟨#[]⟩ :: .string s :: .bool false :: .string ⟨#[]⟩ :: .slice Option.none 0 0 :: .int .i64 0 :: [] : List Value).toArray) (res_cell (p := 2) (ty := 46) rfl _ _ w.heap.size (.int .i64 5 :: .string ⟨#[]⟩ :: .int .i64 0 :: .slice Option.none 0 0 :: .int .i64 0 :: .int .i64 0 :: .int .i64 0 :: .slice Option.none 0 0 :: .slice Option.none 0 0 :: .slice Option.none 0 0 :: .slice Option.none 0 0 :: .slice Option.none 0 0 :: .slice Option.none 0 0 :: .slice Option.none 0 0 :: .slice Option.none 0 0 :: .string ⟨#[]⟩ :: .string ⟨#[]⟩ :: .string ⟨#[]⟩ :: .slice Option.none 0 0 :: .slice Option.none 0 0 :: .bool false :: .int .i64 0 :: .int .i64 0 :: .int .i64 0 :: .int .i64 0 :: .int .i64 0 :: .string ⟨#[]⟩ :: .int .i64 0 :: .string ⟨#[]⟩ :: .slice Option.none 0 0 :: .string ⟨#[]⟩ :: .string ⟨#[]⟩ :: .int .i64 0 :: .string ⟨#[]⟩ :: .string ⟨#[]⟩ :: .string s :: .bool false :: .string ⟨#[]⟩ :: .slice Option.none 0 0 :: .int .i64 0 :: []) _ rfl HRG.out underlying46 rfl infoObj) rfl ⟨rfl, HBE.out⟩
def StAt (w : World) (gs : List Value) (x : StateD) : Prop := RState (fun _ => True) w gs x
def ObAt (w : World) (cs : List Value) (o : ObjectD) : Prop := RObject (fun _ => True) w cs o
theorem StAt.on {w u : World} {gs : List Value} {x : StateD} (h : StAt w gs x) (hb : Below w.heap.size w u) : StAt u gs x := RState.firm.kept h (Kept.below hb)
theorem ObAt.on {w u : World} {gs : List Value} {x : ObjectD} (h : ObAt w gs x) (hb : Below w.heap.size w u) : ObAt u gs x := RObject.firm.kept h (Kept.below hb)
theorem StAt.len {w : World} {gs : List Value} {x : StateD} (h : StAt w gs x) : gs.length = 6 := RState.firm.len h
theorem StAt.one {w : World} {gs : List Value} {x : StateD} (h : StAt w gs x) : ∀ y ∈ gs, y.oneCell' = true := RState.firm.one h
theorem Put_law (ss cs : List Value) (x : StateD) (o : ObjectD) (w : World) (hs : StAt w ss x) (ho : ObAt w cs o) (hf : Fits (putO x o).1) : Calls prog 20 #[.agg ss.toArray, .agg cs.toArray] w fun e w' => ∃ gs, e = .returned (.tuple #[.agg gs.toArray, .bool (putO x o).2.1, .int .i64 (putO x o).2.2]) ∧ StAt w' gs (putO x o).1 ∧ Below w.heap.size w w' := by
 refine (Put_calls ss cs _ x o w hs ho).mono fun e w' h => ?_
 obtain ⟨gs, rfl, h1, h2⟩ := h.st
 exact ⟨gs, rfl, RState.firm.weak (h1.rstate hf) (fun _ _ _ => trivial), h2⟩
theorem Remove_law (ss : List Value) (n : Int) (s : ByteArray) (x : StateD) (w : World) (hs : StAt w ss x) (hf : Fits (remO x n s).1) : Calls prog 22 #[.agg ss.toArray, .int .i64 n, .string s] w fun e w' => ∃ gs, e = .returned (.tuple #[.agg gs.toArray, .bool (remO x n s).2]) ∧ StAt w' gs (remO x n s).1 ∧ Below w.heap.size w w' := by
 refine (Remove_calls ss n s _ x w hs).mono fun e w' h => ?_
 obtain ⟨gs, rfl, h1, h2⟩ := h.st
 exact ⟨gs, rfl, RState.firm.weak (h1.rstate hf) (fun _ _ _ => trivial), h2⟩
theorem noState_at (w : World) : StAt w [Z, Z, Z, Z, Z, Z] noState := noState_rep
def wst1 : StateD := ([], [], [], [], [(⟨#[98]⟩, false)], [])
def wst2 : StateD := ([], [], [], [], [(⟨#[97]⟩, false), (⟨#[98]⟩, false)], [])
theorem wput1 : putO noState (clsO 5 ⟨#[98]⟩) = (wst1, false, 0) := by kernel_rfl
theorem wput2 : putO wst1 (clsO 5 ⟨#[97]⟩) = (wst2, false, 0) := by kernel_rfl
theorem wchk1 : checkO (clsO 5 ⟨#[]⟩) = 40 := by kernel_rfl
theorem wchk2 : checkO (clsO 7 ⟨#[]⟩) = 2 := by kernel_rfl
theorem wfit1 : Fits wst1 := by simp [Fits, wst1]
theorem wfit2 : Fits wst2 := by simp [Fits, wst2]
end Go.Proofs.YtopimokncibdgaaGreat

namespace Go.Proofs.YtopimokncibdgaaGreat
set_option maxHeartbeats 16000000
set_option maxRecDepth 100000
open Tryz Go.RowKit List
set_option linter.unusedSimpArgs false
theorem wPut1 (w : World) : Calls prog 20 #[.agg #[Z, Z, Z, Z, Z, Z], .agg (clsC 5 ⟨#[98]⟩).toArray] w fun e w' => ∃ gs, e = .returned (.tuple #[.agg gs.toArray, .bool false, .int .i64 0]) ∧ StAt w' gs wst1 ∧ Below w.heap.size w w' := by
 have := Put_law [Z, Z, Z, Z, Z, Z] (clsC 5 ⟨#[98]⟩) noState (clsO 5 ⟨#[98]⟩) w (noState_at w) (cls_rep _ _ _ _ (by decide)) (by rw [wput1]; exact wfit1)
 rw [wput1] at this
 exact this
theorem wPut2 (gs : List Value) (D : Nat) (w : World) (h : RState (fun b => b ≠ D) w gs wst1) (hD : D < w.heap.size) : Calls prog 20 #[.agg gs.toArray, .agg (clsC 5 ⟨#[97]⟩).toArray] w fun e w' => ∃ gs2, e = .returned (.tuple #[.agg gs2.toArray, .bool false, .int .i64 0]) ∧ RState (fun b => b ≠ D) w' gs2 wst2 ∧ Below w.heap.size w w' := by
 have := Put_calls gs (clsC 5 ⟨#[97]⟩) _ wst1 (clsO 5 ⟨#[97]⟩) w h (cls_rep _ _ _ _ (by decide))
 rw [wput2] at this
 refine this.mono fun e w' h => ?_
 obtain ⟨gs, rfl, h1, h2⟩ := h.st
 refine ⟨gs, rfl, RState.firm.weak (h1.rstate wfit2) (fun b _ hb => ?_), h2⟩
 rcases hb with hb | hb
 ·
  exact hb.1
 ·
  have : w.heap.size ≤ b := hb
  omega
theorem wChk (n k : Int) (h : checkO (clsO n ⟨#[]⟩) = k) (w : World) : Calls prog 10 #[.agg (clsC n ⟨#[]⟩).toArray] w fun e w' => e = .returned (.int .i64 k) ∧ Below w.heap.size w w' := by
 rw [← h]
 exact Check_calls _ (fun _ => True) _ w (cls_rep _ _ _ _ (by decide))
theorem works_calls (w : World) : Calls prog 15 #[] w fun e w' => e = .returned (.bool true) ∧ Below w.heap.size w w' := by
 go_enter func15, ntmps15
 go_wp2_with fail
 refine (class_calls _ _).mono ?_
 rintro e u1 ⟨rfl, hb1⟩
 go_wp2_with fail
 refine (wPut1 _).mono ?_
 rintro e u2 ⟨gs, rfl, hst, hb2⟩
 have hgl := hst.len
 have hgo := all_oneCell_toArray hst.one
 have higa : (prog.info? 61).map (·.size) = some gs.toArray.size := by simpa [hgl] using infoSta
 have hig : (prog.info? 61).map (·.size) = some gs.length := by rw [hgl]; exact infoSta
 have HF : Held w [] [(u2.heap.size, 6)] (u2.alloc (.cells #[Z, Z, Z, Z, Z, Z] 61)) := ((Held.start w).on (on2 hb1 hb2)).room rfl #[Z, Z, Z, Z, Z, Z] 61
 have HT : Hid ((u2.alloc (.cells #[Z, Z, Z, Z, Z, Z] 61)).there u2.heap.size 0 gs.toArray.size) := by have := HF.there 0 (b := u2.heap.size) rfl; simpa [Hid, hgl] using this
 have HT' : Hid ((u2.alloc (.cells #[Z, Z, Z, Z, Z, Z] 61)).there u2.heap.size 0 gs.length) := by have := HF.there 0 (b := u2.heap.size) rfl; rw [Hid, hgl]; exact this
 obtain ⟨u3, hu3⟩ : ∃ u3, u3 = (u2.alloc (.cells #[Z, Z, Z, Z, Z, Z] 61)).setCells u2.heap.size 0 gs := ⟨_, rfl⟩
 have HH3 : Hid (Held w [] [(u2.heap.size, 6)] u3) := by rw [Hid, hu3]; exact HF.wrote 0 rfl (by simp)
 have HRD : Hid (u3.rangeAt u2.heap.size 0 gs) := by rw [Hid, hu3]; exact World.rangeAt_setCells_same _ _ _ _ HT'.out
 have HST : Hid (RState (fun b => b ≠ u2.heap.size) u3 gs wst1) := by
  have h1 : RState (fun b => b ≠ u2.heap.size) u2 gs wst1 := RState.firm.weak hst (fun b hb _ => by omega)
  rw [Hid, hu3]
  exact RState.firm.kept h1 (Kept.below (below_setCells ((Below.refl _ u2).alloc (Nat.le_refl _) _) (Nat.le_refl _)))
 have HU3 : Hid (u3 = (u2.alloc (.cells #[Z, Z, Z, Z, Z, Z] 61)).setCells u2.heap.size 0 gs) := hu3
 clear hu3 HF hst hb1 hb2 HT'
 go_wp2_with (first | (refine wpList_store_mid rfl 61 _ _ rfl u2.heap.size 0 gs.toArray rfl rfl HT.out higa hgo ?_; refine wpl_at HU3.out ?_) | fail)
 clear HT HU3
 generalize u2.heap.size = D at HH3 HRD HST ⊢
 have HRDd : Hid (u3.drew.rangeAt D 0 gs) := range_on HRD.out (Below.refl _ _).drew (HH3.out.ltM 0 rfl)
 have HSTd : Hid (RState (fun b => b ≠ D) u3.drew gs wst1) := RState.firm.kept HST.out (Kept.below (Below.refl _ _).drew)
 clear HRD HST
 have HRD := HRDd
 have HST := HSTd
 clear HRDd HSTd
 refine wp_region_noPanic ?_
 refine wp_region_held_drew (S := Held w [] [(D, 6)]) (by kernel_rfl) (HH3.out.drew) (fun hH => ?_)
 generalize u3.drew = y0 at hH HRD HST ⊢
 clear HH3
 refine wpAnyH_ready (rs := [0, 1]) (by kernel_rfl) (by simp) ?_
 refine AllReadyH.cons rfl (fun K hK => ?g25x0) (AllReadyH.cons rfl (fun K hK => ?g25x1) (AllReadyH.nil))
 case' g25x0 =>
  refine want_yes (by rfl) (wp_load_mid 61 _ rfl D 0 rfl gs _ HRD.out underlying61 rfl hig ?_)
  refine hK.out _ _ hH (fun hH => ?_)
  clear hK K
  try simp only [Act.put, setIfInBounds_toArray, set_cons_zero, set_cons_succ, getElem_toArray, getElem_cons_zero, getElem_cons_succ]
  refine tr 1 (fun K hK => ?_)
  refine want_yes (by rfl) (call_enter (f := 46) (args := #[.string ⟨#[97]⟩]) (by kernel_rfl) (class_calls ⟨#[97]⟩ _) (fun e uc he => ?_))
  obtain ⟨rfl, hbc⟩ := he
  have HSn := RState.firm.kept HST.out (Kept.below hbc)
  clear HST
  have HST : Hid (RState (fun b => b ≠ D) _ gs wst1) := HSn
  clear HSn
  have HRn := range_on HRD.out hbc (hH.ltM 0 rfl)
  clear HRD
  have HRD : Hid (World.rangeAt _ D 0 gs) := HRn
  clear HRn
  refine ⟨_, rfl, hK.out _ _ (hH.on hbc) (fun hH => ?_)⟩
  clear hK K
  try go_frame
 case' g25x1 =>
  refine want_yes (by rfl) (call_enter (f := 46) (args := #[.string ⟨#[97]⟩]) (by kernel_rfl) (class_calls ⟨#[97]⟩ _) (fun e uc he => ?_))
  obtain ⟨rfl, hbc⟩ := he
  have HSn := RState.firm.kept HST.out (Kept.below hbc)
  clear HST
  have HST : Hid (RState (fun b => b ≠ D) _ gs wst1) := HSn
  clear HSn
  have HRn := range_on HRD.out hbc (hH.ltM 0 rfl)
  clear HRD
  have HRD : Hid (World.rangeAt _ D 0 gs) := HRn
  clear HRn
  refine ⟨_, rfl, hK.out _ _ (hH.on hbc) (fun hH => ?_)⟩
  clear hK K
  try simp only [Act.put, setIfInBounds_toArray, set_cons_zero, set_cons_succ, getElem_toArray, getElem_cons_zero, getElem_cons_succ]
  first | refine tr 0 (fun K hK => ?_) | refine ts 0 (fun K hK => ?_)
  refine want_yes (by rfl) (wp_load_mid 61 _ rfl D 0 rfl gs _ HRD.out underlying61 rfl hig ?_)
  refine hK.out _ _ hH (fun hH => ?_)
  clear hK K
  try go_frame
 all_goals
  refine tr 2 (fun K hK => ?_)
  refine want_yes (by rfl) (call_enter (f := 20) (args := #[.agg gs.toArray, .agg (clsC 5 ⟨#[97]⟩).toArray]) (by kernel_rfl) (wPut2 gs D _ HST.out (hH.ltM 0 rfl)) (fun e up he => ?_))
  obtain ⟨gs2, rfl, hs2, hbp⟩ := he
  have HS2 : Hid (RState (fun b => b ≠ D) up gs2 wst2) := hs2
  clear hs2 HST HRD
  refine ⟨_, rfl, hK.out _ _ (hH.on hbp) (fun hH => ?_)⟩
  clear hK K
  try go_frame
  refine tp 3 ?_
  try go_frame
  refine tp 4 ?_
  try go_frame
  refine tp 5 ?_
  try go_frame
  refine tp 6 ?_
  try go_frame
  first | refine tr 7 (fun K hK => ?_) | refine ts 7 (fun K hK => ?_)
  have hgl2 := RState.firm.len HS2.out
  have hig2 : (prog.info? 61).map (·.size) = some gs2.toArray.size := by simpa [hgl2] using infoSta
  have HT2 : Hid (World.there up D 0 gs2.toArray.size) := by have := hH.there 0 (b := D) rfl; simpa [Hid, hgl2] using this
  have HT3 : Hid (World.there up D 0 gs2.length) := by have := hH.there 0 (b := D) rfl; rw [Hid, hgl2]; exact this
  refine want_yes (by rfl) (wp_store_mid 61 _ _ rfl D 0 gs2.toArray rfl rfl HT2.out hig2 (all_oneCell_toArray (RState.firm.one HS2.out)) ?_)
  obtain ⟨W7, hW7⟩ : ∃ W7, W7 = up.setCells D 0 gs2 := ⟨_, rfl⟩
  have HRG : Hid (W7.rangeAt D 0 gs2) := by rw [Hid, hW7]; exact World.rangeAt_setCells_same _ _ _ _ HT3.out
  have HST7 : Hid (RState (fun b => b ≠ D) W7 gs2 wst2) := by rw [Hid, hW7]; exact RState.firm.kept HS2.out (kept_setCells (fun h => h rfl))
  refine at_world hW7 ?_
  refine hK.out _ _ (by rw [hW7]; exact hH.wrote 0 rfl (by simp)) (fun hH2 => ?_)
  clear hW7 HS2 HT2 HT3
  clear hK K hH; have hH := hH2; clear hH2
  try go_frame
  refine tp 8 ?_
  try go_frame
  refine tp 9 ?_
  try go_frame
  refine wpAnyH_done (by kernel_rfl) ?_ _
  refine NoPanic.normal ?_
  obtain ⟨h0, h1, h2, h3, ⟨a4, n4, c4⟩, h5, rfl, -, -, -, -, q4, -⟩ := RState.out HST7.out
  simp only [wst2] at q4
  obtain rfl : n4 = 2 := q4.1.symm
  obtain ⟨B4, o4, rfl, hB4, hD4, hq4⟩ := q4.2.2.2.2 (by omega)
  obtain ⟨c40, hr40, hc40⟩ := hq4 0 (by omega)
  obtain ⟨r40, rfl⟩ := headClass hr40
  have HN4 : Hid (W7.cell? ⟨B4, o4 + 0 * 2 + 0, none⟩ = some (.string ⟨#[97]⟩)) := hc40 0 _ rfl
  have HB4 : Hid (B4 < W7.heap.size) := hB4
  clear hq4 hc40 hr40 hB4 hD4 q4 HST7
  have HWB : Hid (Below w.heap.size w W7) := hH.below
  have HDL : Hid (D < W7.heap.size) := hH.ltM 0 rfl
  clear hH
  go_wp2_with fail
  refine (class_calls _ _).mono ?_
  rintro e v1 ⟨rfl, hv1⟩
  go_wp2_with fail
  refine (wChk 5 40 wchk1 _).mono ?_
  rintro e v2 ⟨rfl, hv2⟩
  go_wp2_with fail
  refine (wChk 7 2 wchk2 _).mono ?_
  rintro e v3 ⟨rfl, hv3⟩
  have HV3 : Hid (Below W7.heap.size W7 v3) := on2 (on2 hv1 hv2) hv3
  have hk4 : v3.cell? ⟨D, 4, none⟩ = some (.slice (some ⟨B4, o4, none⟩) 2 c4) := by have := range_on HRG.out HV3.out HDL.out 4 _ rfl; simpa using this
  have hkl : D < v3.heap.size := Nat.lt_of_lt_of_le HDL.out HV3.out.size
  have hn4 : v3.cell? ⟨B4, o4, none⟩ = some (.string ⟨#[97]⟩) := by have := (HV3.out.cell (p := ⟨B4, o4 + 0 * 2 + 0, none⟩) HB4.out).trans HN4.out; simpa using this
  have hnl : B4 < v3.heap.size := Nat.lt_of_lt_of_le HB4.out HV3.out.size
  clear hv1 hv2 hv3 HRG
  go_wp2_with fail
  go_ret
  exact ⟨rfl, on2 HWB.out HV3.out⟩
end Go.Proofs.YtopimokncibdgaaGreat

namespace Go.Proofs.YtopimokncibdgaaGreat
set_option maxHeartbeats 16000000
set_option maxRecDepth 100000
open Go.RowKit
set_option linter.unusedSimpArgs false
theorem nonePod (x : StateD) (o : PodD) : (putSPod x o).2.2 = 0 ∨ putSPod x o = (noState, false, 3) := by
 unfold putSPod
 cases putL (fun y : PodD => y.1) x.1 o with
 | none => exact .inr rfl
 | some r => exact .inl rfl
theorem noneNode (x : StateD) (o : NodeD) : (putSNode x o).2.2 = 0 ∨ putSNode x o = (noState, false, 3) := by
 unfold putSNode
 cases putL (fun y : NodeD => y.1) x.2.1 o with
 | none => exact .inr rfl
 | some r => exact .inl rfl
theorem noneVolume (x : StateD) (o : VolumeD) : (putSVolume x o).2.2 = 0 ∨ putSVolume x o = (noState, false, 3) := by
 unfold putSVolume
 cases putL (fun y : VolumeD => y.1) x.2.2.1 o with
 | none => exact .inr rfl
 | some r => exact .inl rfl
theorem noneClaim (x : StateD) (o : ClaimD) : (putSClaim x o).2.2 = 0 ∨ putSClaim x o = (noState, false, 3) := by
 unfold putSClaim
 cases putL (fun y : ClaimD => y.1) x.2.2.2.1 o with
 | none => exact .inr rfl
 | some r => exact .inl rfl
theorem noneClass (x : StateD) (o : ClassD) : (putSClass x o).2.2 = 0 ∨ putSClass x o = (noState, false, 3) := by
 unfold putSClass
 cases putL (fun y : ClassD => y.1) x.2.2.2.2.1 o with
 | none => exact .inr rfl
 | some r => exact .inl rfl
theorem noneBudget (x : StateD) (o : BudgetD) : (putSBudget x o).2.2 = 0 ∨ putSBudget x o = (noState, false, 3) := by
 unfold putSBudget
 cases putL (fun y : BudgetD => y.1) x.2.2.2.2.2 o with
 | none => exact .inr rfl
 | some r => exact .inl rfl
theorem put_none (x : StateD) (o : ObjectD) (h : (putO x o).2.2 ≠ 0) : (putO x o).1 = noState ∧ (putO x o).2.1 = false := by
 rw [putO] at h ⊢
 split at h
 ·
  rename_i hc
  rw [if_pos hc]
  split at h
  ·
   rename_i hk
   rw [if_pos hk]
   rcases nonePod x o.2.1 with e | e
   ·
    exact absurd e h
   ·
    rw [e]; exact ⟨rfl, rfl⟩
  rename_i hk0
  rw [if_neg hk0]
  split at h
  ·
   rename_i hk
   rw [if_pos hk]
   rcases noneNode x o.2.2.1 with e | e
   ·
    exact absurd e h
   ·
    rw [e]; exact ⟨rfl, rfl⟩
  rename_i hk1
  rw [if_neg hk1]
  split at h
  ·
   rename_i hk
   rw [if_pos hk]
   rcases noneVolume x o.2.2.2.1 with e | e
   ·
    exact absurd e h
   ·
    rw [e]; exact ⟨rfl, rfl⟩
  rename_i hk2
  rw [if_neg hk2]
  split at h
  ·
   rename_i hk
   rw [if_pos hk]
   rcases noneClaim x o.2.2.2.2.1 with e | e
   ·
    exact absurd e h
   ·
    rw [e]; exact ⟨rfl, rfl⟩
  rename_i hk3
  rw [if_neg hk3]
  split at h
  ·
   rename_i hk
   rw [if_pos hk]
   rcases noneClass x o.2.2.2.2.2.1 with e | e
   ·
    exact absurd e h
   ·
    rw [e]; exact ⟨rfl, rfl⟩
  rename_i hk4
  rw [if_neg hk4]
  split at h
  ·
   rename_i hk
   rw [if_pos hk]
   rcases noneBudget x o.2.2.2.2.2.2 with e | e
   ·
    exact absurd e h
   ·
    rw [e]; exact ⟨rfl, rfl⟩
  rename_i hk5
  rw [if_neg hk5]
  exact ⟨rfl, rfl⟩
 ·
  rename_i hc
  rw [if_neg hc]
  exact ⟨rfl, rfl⟩
theorem noState_fits : Fits noState := by simp [Fits, noState]
theorem put_fits {x : StateD} (o : ObjectD) (h : StOK x) : Fits (putO x o).1 := by
 by_cases he : (putO x o).2.2 = 0
 ·
  exact (put_ok h he).fits
 ·
  rw [(put_none x o he).1]; exact noState_fits
end Go.Proofs.YtopimokncibdgaaGreat

