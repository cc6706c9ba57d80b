/- Layer 10 in plain words: where a claim, a volume, a class stands; picks applied and undone; what does not fit together; and what follows (10.5, 10.6). Plain mathematics. No condition. Layer 10 in plain words: which volume a claim gets, a pod's plan; and what follows (10.4, 10.7). Plain mathematics. No condition. -/
import Derived.Test.YtpjgffcpjabghaaQ03
import Derived.Test.YtpjgffcpjabghaaQ04
import Derived.Test.YtpjgffcpjabghaaQ10
namespace Go.Proofs.Ytpjgffcpjabghaa
set_option linter.unusedSimpArgs false

abbrev B0 : ByteArray := ⟨#[]⟩
abbrev PickD := ByteArray × ByteArray
/-- Volumes and claims. -/
abbrev VC := List VolumeD × List ClaimD
abbrev vCl (v : VolumeD) : ByteArray := v.2.2.2.2
abbrev vRq (v : VolumeD) : List Ask := v.2.2.2.1
abbrev cVo (c : ClaimD) : ByteArray := c.2.2.2
def setVo (c : ClaimD) (s : ByteArray) : ClaimD := (c.1, c.2.1, c.2.2.1, s)
def setCl (v : VolumeD) (s : ByteArray) : VolumeD := (v.1, v.2.1, v.2.2.1, v.2.2.2.1, s)
/-- Where the first one of that name stands. -/
def fI (l : List ByteArray) (nm : ByteArray) : Option Nat := l.findIdx? (fun x => sEq x nm)
abbrev vNs (l : List VolumeD) : List ByteArray := l.map Prod.fst
abbrev cNs (l : List ClaimD) : List ByteArray := l.map Prod.fst
theorem fI_some {l : List ByteArray} {nm : ByteArray} {i : Nat} (h : fI l nm = some i) : i < l.length ∧ l.getD i default = nm ∧ ∀ j, j < i → l.getD j default ≠ nm := by
  unfold fI at h
  obtain ⟨h1, h2, h3⟩ := List.findIdx?_eq_some_iff_getElem.1 h
  refine ⟨h1, ?_, fun j hj e => ?_⟩
  · rw [List.getD_eq_getElem?_getD, List.getElem?_eq_getElem h1]; exact (sEq_iff _ _).1 h2
  · have hj' : j < l.length := by omega
    rw [List.getD_eq_getElem?_getD, List.getElem?_eq_getElem hj'] at e
    exact h3 j hj ((sEq_iff _ _).2 e)
theorem fI_none {l : List ByteArray} {nm : ByteArray} (h : fI l nm = none) : nm ∉ l := by
  unfold fI at h
  rw [List.findIdx?_eq_none_iff] at h
  intro hm
  have := h nm hm
  rw [(sEq_iff nm nm).2 rfl] at this
  cases this
theorem fI_of {l : List ByteArray} {nm : ByteArray} {i : Nat} (h1 : i < l.length) (h2 : l.getD i default = nm) (h3 : ∀ j, j < i → l.getD j default ≠ nm) : fI l nm = some i := by
  unfold fI
  rw [List.findIdx?_eq_some_iff_getElem]
  refine ⟨h1, ?_, fun j hj e => ?_⟩
  · rw [List.getD_eq_getElem?_getD, List.getElem?_eq_getElem h1] at h2; exact (sEq_iff _ _).2 h2
  · have hj' : j < l.length := by omega
    have := h3 j hj
    rw [List.getD_eq_getElem?_getD, List.getElem?_eq_getElem hj'] at this
    exact this ((sEq_iff _ _).1 e)
theorem fI_mem {l : List ByteArray} {nm : ByteArray} (h : nm ∈ l) : ∃ i, fI l nm = some i := by
  cases e : fI l nm with
  | none => exact absurd h (fI_none e)
  | some i => exact ⟨i, rfl⟩
theorem map_getD9 {α : Type} [Inhabited α] (f : α → ByteArray) {l : List α} {i : Nat} (h : i < l.length) : (l.map f).getD i default = f (l.getD i default) := by
  rw [List.getD_eq_getElem?_getD, List.getD_eq_getElem?_getD, List.getElem?_map, List.getElem?_eq_getElem h]; rfl
/-- Of names that stand once each: where it stands is where it is found. -/
theorem fI_once {l : List ByteArray} (hn : l.Nodup) {i : Nat} (h : i < l.length) : fI l (l.getD i default) = some i := by
  refine fI_of h rfl (fun j hj e => ?_)
  have hj' : j < l.length := by omega
  rw [List.getD_eq_getElem?_getD, List.getD_eq_getElem?_getD, List.getElem?_eq_getElem hj', List.getElem?_eq_getElem h] at e
  have := (List.nodup_iff_pairwise_ne.1 hn)
  exact (List.pairwise_iff_getElem.1 this j i hj' h hj) e
theorem getD_set9 {α : Type} [Inhabited α] (l : List α) (i j : Nat) (x : α) (h : i < l.length) : (l.set i x).getD j default = if i = j then x else l.getD j default := by
  rw [List.getD_eq_getElem?_getD, List.getElem?_set, List.getD_eq_getElem?_getD]
  by_cases e : i = j
  · subst e; simp [h]
  · simp [e]
theorem names_set {α : Type} [Inhabited α] (f : α → ByteArray) (l : List α) (i : Nat) (x : α) (h : f x = f (l.getD i default)) (hi : i < l.length) : (l.set i x).map f = l.map f := by
  rw [List.map_set, h]
  apply List.ext_getElem?
  intro j
  rw [List.getElem?_set]
  by_cases e : i = j
  · subst e
    rw [List.getD_eq_getElem?_getD, List.getElem?_eq_getElem hi]
    simp [hi]
  · simp [e]
/-- May the claim get the volume? -/
def okA (c : ClaimD) (v : VolumeD) : Bool := sEq (cVo c) B0 && (sEq (vCl v) B0 && (sEq v.2.2.1 c.2.2.1 && !decide (v.2.1 < c.2.1)))
def takeA (st : VC) (c v : Nat) : VC := (st.1.set v (setCl (st.1.getD v default) (st.2.getD c default).1), st.2.set c (setVo (st.2.getD c default) (st.1.getD v default).1))
def stepA (st : VC) (pk : PickD) : Except Int VC :=
  match fI (cNs st.2) pk.1, fI (vNs st.1) pk.2 with
  | some c, some v => if okA (st.2.getD c default) (st.1.getD v default) = true then .ok (takeA st c v) else .error 2
  | _, _ => .error 5
def okU (c : ClaimD) (v : VolumeD) : Bool := sEq (cVo c) v.1 && sEq (vCl v) c.1
def takeU (st : VC) (c v : Nat) : VC := (st.1.set v (setCl (st.1.getD v default) B0), st.2.set c (setVo (st.2.getD c default) B0))
def stepU (st : VC) (pk : PickD) : Except Int VC :=
  match fI (cNs st.2) pk.1, fI (vNs st.1) pk.2 with
  | some c, some v => if okU (st.2.getD c default) (st.1.getD v default) = true then .ok (takeU st c v) else .error 2
  | _, _ => .error 5
def applyP : VC → List PickD → Except Int VC
  | st, [] => .ok st
  | st, pk :: r => match stepA st pk with
    | .ok st' => applyP st' r
    | .error e => .error e
def undoP : VC → List PickD → Except Int VC
  | st, [] => .ok st
  | st, pk :: r => match undoP st r with
    | .ok st' => stepU st' pk
    | .error e => .error e
theorem stepA_ok {st st' : VC} {pk : PickD} (h : stepA st pk = .ok st') : ∃ c v, fI (cNs st.2) pk.1 = some c ∧ fI (vNs st.1) pk.2 = some v ∧ okA (st.2.getD c default) (st.1.getD v default) = true ∧ st' = takeA st c v := by
  unfold stepA at h
  split at h
  · rename_i c v h1 h2
    split at h
    · rename_i h3
      injection h with h
      exact ⟨c, v, h1, h2, h3, h.symm⟩
    · cases h
  · cases h
theorem okA_iff {c : ClaimD} {v : VolumeD} : okA c v = true ↔ cVo c = B0 ∧ vCl v = B0 ∧ v.2.2.1 = c.2.2.1 ∧ c.2.1 ≤ v.2.1 := by
  unfold okA
  rw [Bool.and_eq_true, Bool.and_eq_true, Bool.and_eq_true, sEq_iff, sEq_iff, sEq_iff]
  simp
theorem okU_iff {c : ClaimD} {v : VolumeD} : okU c v = true ↔ cVo c = v.1 ∧ vCl v = c.1 := by
  unfold okU
  rw [Bool.and_eq_true, sEq_iff, sEq_iff]
theorem takeA_names {st : VC} {c v : Nat} (hc : c < st.2.length) (hv : v < st.1.length) : vNs (takeA st c v).1 = vNs st.1 ∧ cNs (takeA st c v).2 = cNs st.2 := ⟨names_set Prod.fst _ _ _ rfl hv, names_set Prod.fst _ _ _ rfl hc⟩
theorem set_back {α : Type} [Inhabited α] (l : List α) (i : Nat) (x y : α) (h : i < l.length) (hy : y = l.getD i default) : (l.set i x).set i y = l := by
  rw [List.set_set, hy]
  apply List.ext_getElem?
  intro j
  rw [List.getElem?_set]
  by_cases e : i = j
  · subst e; rw [List.getD_eq_getElem?_getD, List.getElem?_eq_getElem h]; simp [h]
  · simp [e]
/-- 10.5, a step: what was taken is given back. -/
theorem step_back {st st' : VC} {pk : PickD} (h : stepA st pk = .ok st') : stepU st' pk = .ok st := by
  obtain ⟨c, v, h1, h2, h3, rfl⟩ := stepA_ok h
  obtain ⟨c1, c2, _⟩ := fI_some h1
  obtain ⟨v1, v2, _⟩ := fI_some h2
  rw [List.length_map] at c1 v1
  obtain ⟨a1, a2, _⟩ := okA_iff.1 h3
  obtain ⟨n1, n2⟩ := takeA_names c1 v1
  unfold stepU
  rw [n1, n2, h1, h2]
  have ec : (takeA st c v).2.getD c default = setVo (st.2.getD c default) (st.1.getD v default).1 := by unfold takeA; rw [getD_set9 _ _ _ _ c1, if_pos rfl]
  have ev : (takeA st c v).1.getD v default = setCl (st.1.getD v default) (st.2.getD c default).1 := by unfold takeA; rw [getD_set9 _ _ _ _ v1, if_pos rfl]
  simp only
  rw [if_pos (by rw [ec, ev, okU_iff]; exact ⟨rfl, rfl⟩)]
  unfold takeU
  rw [ec, ev]
  unfold takeA
  rw [set_back _ _ _ _ v1 (show setCl (setCl (st.1.getD v default) (st.2.getD c default).1) B0 = st.1.getD v default by rw [← a2]; rfl), set_back _ _ _ _ c1 (show setVo (setVo (st.2.getD c default) (st.1.getD v default).1) B0 = st.2.getD c default by rw [← a1]; rfl)]
/-- 10.5. -/
theorem back_plain10 : ∀ (l : List PickD) {st t : VC}, applyP st l = .ok t → undoP t l = .ok st
  | [], st, t, h => by injection h with h; subst h; rfl
  | pk :: r, st, t, h => by
    unfold applyP at h
    cases e : stepA st pk with
    | error x => rw [e] at h; cases h
    | ok st1 =>
      rw [e] at h
      unfold undoP
      rw [back_plain10 r h]
      exact step_back e
/-- Each claim, and each volume, has a name of its own that is not empty. -/
def OnceP (st : VC) : Prop := (cNs st.2).Nodup ∧ B0 ∉ cNs st.2 ∧ (vNs st.1).Nodup ∧ B0 ∉ vNs st.1
theorem stepA_names {st st' : VC} {pk : PickD} (h : stepA st pk = .ok st') : vNs st'.1 = vNs st.1 ∧ cNs st'.2 = cNs st.2 := by
  obtain ⟨c, v, h1, h2, _, rfl⟩ := stepA_ok h
  have c1 := (fI_some h1).1
  have v1 := (fI_some h2).1
  rw [List.length_map] at c1 v1
  exact takeA_names c1 v1
theorem OnceP.step {st st' : VC} {pk : PickD} (ho : OnceP st) (h : stepA st pk = .ok st') : OnceP st' := by
  obtain ⟨n1, n2⟩ := stepA_names h
  unfold OnceP
  rw [n1, n2]
  exact ho
/-- A claim that does not fit: it names a volume that is not there, or is not its own. -/
def badC (st : VC) (c : ClaimD) : Bool := !sEq (cVo c) B0 && (match fI (vNs st.1) (cVo c) with | none => true | some v => !sEq (vCl (st.1.getD v default)) c.1)
def badV (st : VC) (v : VolumeD) : Bool := !sEq (vCl v) B0 && (match fI (cNs st.2) (vCl v) with | none => true | some c => !sEq (cVo (st.2.getD c default)) v.1)
def checkP (st : VC) : Nat := (st.2.filter (badC st)).length + (st.1.filter (badV st)).length
def freeV (l : List VolumeD) : List ByteArray := (l.filter (fun v => sEq (vCl v) B0)).map Prod.fst
theorem ne_of_nmem {l : List ByteArray} (h : B0 ∉ l) {i : Nat} (hi : i < l.length) : l.getD i default ≠ B0 := fun e => h (by
  rw [List.getD_eq_getElem?_getD, List.getElem?_eq_getElem hi] at e
  rw [← e]
  exact List.getElem_mem hi)
theorem sEq_ne9 {a b : ByteArray} : sEq a b = false ↔ a ≠ b := by
  rw [← Bool.not_eq_true, sEq_iff]
/-- Two lists of one length: what does not count in the first does not in the second. -/
theorem filter_le9 {α : Type} [Inhabited α] (p q : α → Bool) : ∀ {l m : List α}, l.length = m.length → (∀ i, i < l.length → p (l.getD i default) = true → q (m.getD i default) = true) → (l.filter p).length ≤ (m.filter q).length
  | [], [], _, _ => Nat.le_refl _
  | [], _ :: _, h, _ => by simp at h
  | _ :: _, [], h, _ => by simp at h
  | a :: l, b :: m, h, hk => by
    have ih := filter_le9 p q (l := l) (m := m) (by simpa using h) (fun i hi hp => by have := hk (i + 1) (by simpa using hi); simpa using this (by simpa using hp))
    have h0 := hk 0 (by simp)
    simp only [List.getD_cons_zero] at h0
    rw [List.filter_cons, List.filter_cons]
    cases ha : p a
    · simp only [Bool.false_eq_true, if_false]
      split
      · simp only [List.length_cons]; omega
      · exact ih
    · rw [h0 ha]
      simp only [if_true, List.length_cons]
      omega
/-- 10.6, a step: what fits together does so still. -/
theorem check_step {st st' : VC} {pk : PickD} (ho : OnceP st) (h : stepA st pk = .ok st') : checkP st' ≤ checkP st := by
  obtain ⟨n1, n2⟩ := stepA_names h
  obtain ⟨c, v, h1, h2, h3, rfl⟩ := stepA_ok h
  obtain ⟨c1, c2, c3⟩ := fI_some h1
  obtain ⟨v1, v2, v3⟩ := fI_some h2
  have c1' := c1
  have v1' := v1
  rw [List.length_map] at c1 v1
  obtain ⟨a1, a2, _⟩ := okA_iff.1 h3
  rw [map_getD9 _ c1] at c2
  rw [map_getD9 _ v1] at v2
  have nc : (st.2.getD c default).1 ≠ B0 := by have := ne_of_nmem ho.2.1 c1'; rwa [map_getD9 _ c1] at this
  have nv : (st.1.getD v default).1 ≠ B0 := by have := ne_of_nmem ho.2.2.2 v1'; rwa [map_getD9 _ v1] at this
  have ec : ∀ j, (takeA st c v).2.getD j default = if c = j then setVo (st.2.getD c default) (st.1.getD v default).1 else st.2.getD j default := fun j => by unfold takeA; exact getD_set9 _ _ _ _ c1
  have ev : ∀ j, (takeA st c v).1.getD j default = if v = j then setCl (st.1.getD v default) (st.2.getD c default).1 else st.1.getD j default := fun j => by unfold takeA; exact getD_set9 _ _ _ _ v1
  have l1 : (takeA st c v).1.length = st.1.length := by unfold takeA; simp
  have l2 : (takeA st c v).2.length = st.2.length := by unfold takeA; simp
  unfold checkP
  refine Nat.add_le_add (filter_le9 _ _ l2 (fun i hi hp => ?_)) (filter_le9 _ _ l1 (fun i hi hp => ?_))
  · rw [l2] at hi
    unfold badC at hp ⊢
    rw [n1, ec i] at hp
    by_cases e : c = i
    · exfalso
      rw [if_pos e, show cVo (setVo (st.2.getD c default) (st.1.getD v default).1) = (st.1.getD v default).1 from rfl, v2, h2] at hp
      simp only [ev v, if_true] at hp
      simp only [Bool.and_eq_true, Bool.not_eq_true', sEq_ne9] at hp
      exact hp.2 rfl
    · rw [if_neg e] at hp
      rw [Bool.and_eq_true] at hp ⊢
      refine ⟨hp.1, ?_⟩
      have hp2 := hp.2
      cases hf : fI (vNs st.1) (cVo (st.2.getD i default)) with
      | none => rfl
      | some k =>
        rw [hf] at hp2
        simp only at hp2 ⊢
        rw [ev k] at hp2
        by_cases ek : v = k
        · subst ek
          have ni : (st.2.getD i default).1 ≠ B0 := by have := ne_of_nmem ho.2.1 (i := i) (by rw [List.length_map]; exact hi); rwa [map_getD9 _ hi] at this
          rw [a2, Bool.not_eq_true', sEq_ne9]
          exact fun x => ni x.symm
        · rwa [if_neg ek] at hp2
  · rw [l1] at hi
    unfold badV at hp ⊢
    rw [n2, ev i] at hp
    by_cases e : v = i
    · exfalso
      rw [if_pos e, show vCl (setCl (st.1.getD v default) (st.2.getD c default).1) = (st.2.getD c default).1 from rfl, c2, h1] at hp
      simp only [ec c, if_true] at hp
      simp only [Bool.and_eq_true, Bool.not_eq_true', sEq_ne9] at hp
      exact hp.2 rfl
    · rw [if_neg e] at hp
      rw [Bool.and_eq_true] at hp ⊢
      refine ⟨hp.1, ?_⟩
      have hp2 := hp.2
      cases hf : fI (cNs st.2) (vCl (st.1.getD i default)) with
      | none => rfl
      | some k =>
        rw [hf] at hp2
        simp only at hp2 ⊢
        rw [ec k] at hp2
        by_cases ek : c = k
        · subst ek
          have ni : (st.1.getD i default).1 ≠ B0 := by have := ne_of_nmem ho.2.2.2 (i := i) (by rw [List.length_map]; exact hi); rwa [map_getD9 _ hi] at this
          rw [a1, Bool.not_eq_true', sEq_ne9]
          exact fun x => ni x.symm
        · rwa [if_neg ek] at hp2
theorem filter_set9 {α : Type} [Inhabited α] (p : α → Bool) (y : α) (hy : p y = false) : ∀ (l : List α) (i : Nat), i < l.length → p (l.getD i default) = true → ((l.set i y).filter p).length + 1 = (l.filter p).length
  | [], i, h, _ => by simp at h
  | a :: l, 0, _, hp => by
    simp only [List.getD_cons_zero] at hp
    simp [List.set_cons_zero, List.filter_cons, hy, hp]
  | a :: l, i + 1, h, hp => by
    have ih := filter_set9 p y hy l i (by simpa using h) (by simpa using hp)
    rw [List.set_cons_succ, List.filter_cons, List.filter_cons]
    split
    · simp only [List.length_cons]; omega
    · exact ih
theorem free_step {st st' : VC} {pk : PickD} (ho : OnceP st) (h : stepA st pk = .ok st') : (freeV st'.1).length + 1 = (freeV st.1).length := by
  obtain ⟨c, v, h1, h2, h3, rfl⟩ := stepA_ok h
  have c1' := (fI_some h1).1
  have v1 := (fI_some h2).1
  have c1 := c1'
  rw [List.length_map] at c1 v1
  obtain ⟨_, a2, _⟩ := okA_iff.1 h3
  have nc : (st.2.getD c default).1 ≠ B0 := by have := ne_of_nmem ho.2.1 c1'; rwa [map_getD9 _ c1] at this
  unfold freeV takeA
  rw [List.length_map, List.length_map]
  exact filter_set9 _ _ (by show sEq (st.2.getD c default).1 B0 = false; rw [sEq_ne9]; exact nc) _ _ v1 (by rw [a2]; exact (sEq_iff _ _).2 rfl)
/-- Has a claim of that name, or a volume, something? -/
def heldC (st : VC) (nm : ByteArray) : Prop := ∃ c, fI (cNs st.2) nm = some c ∧ cVo (st.2.getD c default) ≠ B0
def heldV (st : VC) (nm : ByteArray) : Prop := ∃ v, fI (vNs st.1) nm = some v ∧ vCl (st.1.getD v default) ≠ B0
theorem held_step {st st' : VC} {pk : PickD} (ho : OnceP st) (h : stepA st pk = .ok st') : (¬ heldC st pk.1 ∧ ¬ heldV st pk.2) ∧ heldC st' pk.1 ∧ heldV st' pk.2 ∧ (∀ nm, heldC st nm → heldC st' nm) ∧ ∀ nm, heldV st nm → heldV st' nm := by
  obtain ⟨n1, n2⟩ := stepA_names h
  obtain ⟨c, v, h1, h2, h3, rfl⟩ := stepA_ok h
  have c1' := (fI_some h1).1
  have v1' := (fI_some h2).1
  have c1 := c1'
  have v1 := v1'
  rw [List.length_map] at c1 v1
  obtain ⟨a1, a2, _⟩ := okA_iff.1 h3
  have nc : (st.2.getD c default).1 ≠ B0 := by have := ne_of_nmem ho.2.1 c1'; rwa [map_getD9 _ c1] at this
  have nv : (st.1.getD v default).1 ≠ B0 := by have := ne_of_nmem ho.2.2.2 v1'; rwa [map_getD9 _ v1] at this
  have ec : ∀ j, (takeA st c v).2.getD j default = if c = j then setVo (st.2.getD c default) (st.1.getD v default).1 else st.2.getD j default := fun j => by unfold takeA; exact getD_set9 _ _ _ _ c1
  have ev : ∀ j, (takeA st c v).1.getD j default = if v = j then setCl (st.1.getD v default) (st.2.getD c default).1 else st.1.getD j default := fun j => by unfold takeA; exact getD_set9 _ _ _ _ v1
  refine ⟨⟨?_, ?_⟩, ⟨c, by rw [n2]; exact h1, ?_⟩, ⟨v, by rw [n1]; exact h2, ?_⟩, ?_, ?_⟩
  · rintro ⟨c', e, hc'⟩
    rw [h1] at e
    injection e with e
    subst e
    exact hc' a1
  · rintro ⟨v', e, hv'⟩
    rw [h2] at e
    injection e with e
    subst e
    exact hv' a2
  · rw [ec, if_pos rfl]; exact nv
  · rw [ev, if_pos rfl]; exact nc
  · rintro nm ⟨k, e, hk⟩
    refine ⟨k, by rw [n2]; exact e, ?_⟩
    rw [ec]
    by_cases x : c = k
    · rw [if_pos x]; exact nv
    · rw [if_neg x]; exact hk
  · rintro nm ⟨k, e, hk⟩
    refine ⟨k, by rw [n1]; exact e, ?_⟩
    rw [ev]
    by_cases x : v = k
    · rw [if_pos x]; exact nc
    · rw [if_neg x]; exact hk
/-- 10.6. -/
theorem once_plain : ∀ (l : List PickD) {st t : VC}, OnceP st → applyP st l = .ok t → l.Pairwise (fun a b => a.1 ≠ b.1 ∧ a.2 ≠ b.2) ∧ (∀ x ∈ l, ¬ heldC st x.1 ∧ ¬ heldV st x.2) ∧ checkP t ≤ checkP st ∧ (freeV t.1).length + l.length = (freeV st.1).length
  | [], st, t, _, h => by injection h with h; subst h; exact ⟨List.Pairwise.nil, fun _ h => (by cases h), Nat.le_refl _, rfl⟩
  | pk :: r, st, t, ho, h => by
    unfold applyP at h
    cases e : stepA st pk with
    | error x => rw [e] at h; cases h
    | ok st1 =>
      rw [e] at h
      obtain ⟨i1, i2, i3, i4⟩ := once_plain r (ho.step e) h
      obtain ⟨⟨k1, k2⟩, k3, k4, k5, k6⟩ := held_step ho e
      have i5 := check_step ho e
      have i6 := free_step ho e
      refine ⟨List.pairwise_cons.2 ⟨fun b hb => ⟨fun x => (i2 b hb).1 (x ▸ k3), fun x => (i2 b hb).2 (x ▸ k4)⟩, i1⟩, fun x hx => ?_, by omega, by rw [List.length_cons]; omega⟩
      rcases List.mem_cons.1 hx with rfl | hx
      · exact ⟨k1, k2⟩
      · exact ⟨fun y => (i2 x hx).1 (k5 _ y), fun y => (i2 x hx).2 (k6 _ y)⟩
end Go.Proofs.Ytpjgffcpjabghaa
namespace Go.Proofs.Ytpjgffcpjabghaa
set_option linter.unusedSimpArgs false

def waitsP (l : List ClassD) (cl : ByteArray) : Bool := match l.find? (fun k => sEq k.1 cl) with | some k => k.2 | none => false
/-- May the claim get that volume, on a node with those labels? -/
def fitV (c : ClaimD) (NL : List Lab) (picked : List ByteArray) (v : VolumeD) : Bool := sEq (vCl v) B0 && (!hasB sEq picked v.1 && (sEq v.2.2.1 c.2.2.1 && (!decide (v.2.1 < c.2.1) && matchL NL (vRq v))))
def lessV (v w : VolumeD) : Bool := decide (v.2.1 < w.2.1) || (v.2.1 == w.2.1 && sLt v.1 w.1)
/-- The best one of the first k that fit. -/
def bestF (fit : VolumeD → Bool) (V : List VolumeD) : Nat → Option Nat
  | 0 => none
  | k + 1 => if fit (V.getD k default) = true then (match bestF fit V k with | none => some k | some b => if lessV (V.getD k default) (V.getD b default) = true then some k else some b) else bestF fit V k
def bestP (c : ClaimD) (NL : List Lab) (V : List VolumeD) (picked : List ByteArray) : Option Nat := bestF (fitV c NL picked) V V.length
theorem best_some {fit : VolumeD → Bool} {V : List VolumeD} : ∀ {k b : Nat}, bestF fit V k = some b → b < k ∧ fit (V.getD b default) = true
  | 0, b, h => by cases h
  | k + 1, b, h => by
    unfold bestF at h
    split at h
    · rename_i hf
      cases e : bestF fit V k with
      | none => rw [e] at h; injection h with h; subst h; exact ⟨Nat.lt_succ_self _, hf⟩
      | some a =>
        rw [e] at h
        simp only at h
        obtain ⟨h1, h2⟩ := best_some e
        split at h
        · injection h with h; subst h; exact ⟨Nat.lt_succ_self _, hf⟩
        · injection h with h; subst h; exact ⟨by omega, h2⟩
    · obtain ⟨h1, h2⟩ := best_some h
      exact ⟨by omega, h2⟩
theorem best_none {fit : VolumeD → Bool} {V : List VolumeD} : ∀ {k : Nat}, bestF fit V k = none → ∀ j, j < k → fit (V.getD j default) = false
  | 0, _, j, hj => absurd hj (Nat.not_lt_zero _)
  | k + 1, h, j, hj => by
    unfold bestF at h
    split at h
    · cases e : bestF fit V k with
      | none => rw [e] at h; cases h
      | some a =>
        rw [e] at h
        simp only at h
        split at h <;> cases h
    · rename_i hf
      rcases Nat.lt_succ_iff_lt_or_eq.1 hj with h1 | rfl
      · exact best_none h j h1
      · simpa using hf
/-- What a claim of that name gets, or has; or why not. -/
def stepP (st : VC) (K : List ClassD) (NL : List Lab) (picked : List ByteArray) (nm : ByteArray) : Except Int (Option PickD) :=
  match fI (cNs st.2) nm with
  | none => .error 13
  | some k =>
    if sEq (cVo (st.2.getD k default)) B0 = true then
      if waitsP K (st.2.getD k default).2.2.1 = true then
        match bestP (st.2.getD k default) NL st.1 picked with
        | none => .error 14
        | some j => .ok (some ((st.2.getD k default).1, (st.1.getD j default).1))
      else .error 13
    else
      match fI (vNs st.1) (cVo (st.2.getD k default)) with
      | none => .error 13
      | some j => if sEq (vCl (st.1.getD j default)) (st.2.getD k default).1 = true then (if matchL NL (vRq (st.1.getD j default)) = true then .ok none else .error 14) else .error 13
def planL (st : VC) (K : List ClassD) (NL : List Lab) : List ByteArray → List PickD → Except Int (List PickD)
  | [], out => .ok out
  | nm :: r, out => match stepP st K NL (out.map Prod.snd) nm with
    | .error e => .error e
    | .ok none => planL st K NL r out
    | .ok (some pk) => planL st K NL r (out ++ [pk])
theorem step_err {st : VC} {K : List ClassD} {NL : List Lab} {picked : List ByteArray} {nm : ByteArray} {e : Int} (h : stepP st K NL picked nm = .error e) : e = 13 ∨ e = 14 := by
  unfold stepP at h
  split at h
  · injection h with h; exact .inl h.symm
  · split at h
    · split at h
      · split at h
        · injection h with h; exact .inr h.symm
        · cases h
      · injection h with h; exact .inl h.symm
    · split at h
      · injection h with h; exact .inl h.symm
      · split at h
        · split at h
          · cases h
          · injection h with h; exact .inr h.symm
        · injection h with h; exact .inl h.symm
theorem plan_err {st : VC} {K : List ClassD} {NL : List Lab} : ∀ {claims : List ByteArray} {out : List PickD} {e : Int}, planL st K NL claims out = .error e → e = 13 ∨ e = 14
  | [], _, _, h => by cases h
  | nm :: r, out, e, h => by
    unfold planL at h
    split at h
    · rename_i hs
      injection h with h
      subst h
      exact step_err hs
    · exact plan_err h
    · exact plan_err h
/-- Are the claims in use, with the pod's, more than the node's disks? -/
def disksP (disks claims : List ByteArray) (d : Int) : Bool := decide (d < ((sortB sLt sEq (disks ++ claims)).length : Int))
def planP (st : VC) (K : List ClassD) (NL : List Lab) (claims disks : List ByteArray) (d : Int) : List PickD × Int :=
  match planL st K NL claims [] with
  | .error e => ([], e)
  | .ok out => if disksP disks claims d = true then ([], 15) else (out, 0)
/-- A claim of that name has a volume that is its own, and that those labels meet. -/
def MeetsAt (t : VC) (NL : List Lab) (nm : ByteArray) : Prop := ∃ c v, fI (cNs t.2) nm = some c ∧ cVo (t.2.getD c default) ≠ B0 ∧ fI (vNs t.1) (cVo (t.2.getD c default)) = some v ∧ vCl (t.1.getD v default) = (t.2.getD c default).1 ∧ matchL NL (vRq (t.1.getD v default)) = true
theorem meets_step {t : VC} {K : List ClassD} {NL : List Lab} {picked : List ByteArray} {nm : ByteArray} (h : MeetsAt t NL nm) : stepP t K NL picked nm = .ok none := by
  obtain ⟨c, v, h1, h2, h3, h4, h5⟩ := h
  unfold stepP
  rw [h1]
  simp only
  rw [if_neg (by rw [Bool.not_eq_true, sEq_ne9]; exact h2), h3]
  simp only
  rw [if_pos ((sEq_iff _ _).2 h4), if_pos h5]
theorem meets_all {t : VC} {K : List ClassD} {NL : List Lab} (out : List PickD) : ∀ {claims : List ByteArray}, (∀ nm ∈ claims, MeetsAt t NL nm) → planL t K NL claims out = .ok out
  | [], _ => rfl
  | nm :: r, h => by
    unfold planL
    rw [meets_step (h nm List.mem_cons_self)]
    exact meets_all out (fun x hx => h x (List.mem_cons_of_mem _ hx))
theorem apply_snoc : ∀ (l : List PickD) (st : VC) (pk : PickD), applyP st (l ++ [pk]) = match applyP st l with | .ok t => stepA t pk | .error e => .error e
  | [], st, pk => by
    show applyP st [pk] = stepA st pk
    unfold applyP
    cases e : stepA st pk <;> rfl
  | x :: l, st, pk => by
    rw [List.cons_append]
    unfold applyP
    cases e : stepA st x with
    | error y => rfl
    | ok st1 => exact apply_snoc l st1 pk
/-- As far as the plan has come. -/
structure PlI (st : VC) (NL : List Lab) (P : List ByteArray) (out : List PickD) (t : VC) : Prop where
  ap : applyP st out = .ok t
  nv : vNs t.1 = vNs st.1
  nc : cNs t.2 = cNs st.2
  kv : ∀ j, j < st.1.length → (st.1.getD j default).1 ∉ out.map Prod.snd → t.1.getD j default = st.1.getD j default
  kc : ∀ c, c < st.2.length → (st.2.getD c default).1 ∉ out.map Prod.fst → t.2.getD c default = st.2.getD c default
  sub : ∀ x ∈ out.map Prod.fst, x ∈ P
  fr : ∀ j, j < st.1.length → (st.1.getD j default).1 ∈ out.map Prod.snd → vCl (st.1.getD j default) = B0
  me : ∀ nm ∈ P, MeetsAt t NL nm
theorem len_of_names {α : Type} {f : α → ByteArray} {l m : List α} (h : l.map f = m.map f) : l.length = m.length := by
  have := congrArg List.length h
  simpa using this
theorem plan_meets {st : VC} {K : List ClassD} {NL : List Lab} (ho : OnceP st) : ∀ (claims P : List ByteArray) {out l : List PickD} {t : VC}, PlI st NL P out t → (P ++ claims).Nodup → planL st K NL claims out = .ok l → ∃ t', PlI st NL (P ++ claims) l t'
  | [], P, out, l, t, hi, _, h => by
    unfold planL at h
    injection h with h
    subst h
    exact ⟨t, by rw [List.append_nil]; exact hi⟩
  | nm :: r, P, out, l, t, hi, hn, h => by
    have hnm : nm ∉ P := fun hm => by
      have := (List.nodup_append.1 hn).2.2 nm hm nm List.mem_cons_self
      exact this rfl
    have hn' : ((P ++ [nm]) ++ r).Nodup := by simpa using hn
    have hl1 := len_of_names hi.nv
    have hl2 := len_of_names hi.nc
    unfold planL at h
    cases hs : stepP st K NL (out.map Prod.snd) nm with
    | error e => rw [hs] at h; cases h
    | ok o =>
      rw [hs] at h
      unfold stepP at hs
      cases hf : fI (cNs st.2) nm with
      | none => rw [hf] at hs; cases hs
      | some k =>
        rw [hf] at hs
        simp only at hs
        obtain ⟨k1', k2, _⟩ := fI_some hf
        have k1 := k1'
        rw [List.length_map] at k1
        rw [map_getD9 _ k1] at k2
        have nk : (st.2.getD k default).1 ≠ B0 := by have := ne_of_nmem ho.2.1 k1'; rwa [map_getD9 _ k1] at this
        have hko : (st.2.getD k default).1 ∉ out.map Prod.fst := fun hm => hnm (k2 ▸ hi.sub _ hm)
        have etk := hi.kc k k1 hko
        by_cases hv : sEq (cVo (st.2.getD k default)) B0 = true
        · rw [if_pos hv] at hs
          split at hs
          · cases hb : bestP (st.2.getD k default) NL st.1 (out.map Prod.snd) with
            | none => rw [hb] at hs; cases hs
            | some j =>
              rw [hb] at hs
              simp only at hs
              injection hs with hs
              subst hs
              simp only at h
              obtain ⟨j1, hfit⟩ := best_some hb
              unfold fitV at hfit
              simp only [Bool.and_eq_true, Bool.not_eq_true', sEq_iff, decide_eq_false_iff_not] at hfit
              obtain ⟨f1, f2, f3, f4, f5⟩ := hfit
              have hjo : (st.1.getD j default).1 ∉ out.map Prod.snd := fun hm => by
                have : hasB sEq (out.map Prod.snd) (st.1.getD j default).1 = true := by
                  unfold hasB
                  rw [List.any_eq_true]
                  exact ⟨_, hm, (sEq_iff _ _).2 rfl⟩
                rw [this] at f2
                cases f2
              have etj := hi.kv j j1 hjo
              have hfj : fI (vNs st.1) (st.1.getD j default).1 = some j := by
                have := fI_once ho.2.2.1 (i := j) (by rw [List.length_map]; exact j1)
                rwa [map_getD9 _ j1] at this
              have nj : (st.1.getD j default).1 ≠ B0 := by have := ne_of_nmem ho.2.2.2 (i := j) (by rw [List.length_map]; exact j1); rwa [map_getD9 _ j1] at this
              have hstep : stepA t ((st.2.getD k default).1, (st.1.getD j default).1) = .ok (takeA t k j) := by
                unfold stepA
                simp only
                rw [hi.nc, hi.nv, k2, hf, hfj]
                simp only
                rw [etk, etj, if_pos (okA_iff.2 ⟨(sEq_iff _ _).1 hv, f1, f3, by omega⟩)]
              have tk1 : k < t.2.length := by omega
              have tj1 : j < t.1.length := by omega
              obtain ⟨n1, n2⟩ := takeA_names tk1 tj1
              have ec : ∀ i, (takeA t k j).2.getD i default = if k = i then setVo (st.2.getD k default) (st.1.getD j default).1 else t.2.getD i default := fun i => by unfold takeA; rw [getD_set9 _ _ _ _ tk1, etk, etj]
              have ev : ∀ i, (takeA t k j).1.getD i default = if j = i then setCl (st.1.getD j default) (st.2.getD k default).1 else t.1.getD i default := fun i => by unfold takeA; rw [getD_set9 _ _ _ _ tj1, etk, etj]
              refine plan_meets ho r (P ++ [nm]) (out := out ++ [((st.2.getD k default).1, (st.1.getD j default).1)]) (t := takeA t k j) ?_ hn' h |>.imp (fun t' ht' => by simpa using ht')
              refine ⟨by rw [apply_snoc, hi.ap]; exact hstep, n1.trans hi.nv, n2.trans hi.nc, fun i hi1 hx => ?_, fun i hi1 hx => ?_, fun x hx => ?_, fun i hi1 hx => ?_, fun x hx => ?_⟩
              · rw [List.map_append, List.mem_append, not_or] at hx
                rw [ev i, if_neg (fun e => hx.2 (by subst e; simp))]
                exact hi.kv i hi1 hx.1
              · rw [List.map_append, List.mem_append, not_or] at hx
                rw [ec i, if_neg (fun e => hx.2 (by subst e; simp))]
                exact hi.kc i hi1 hx.1
              · rw [List.map_append, List.mem_append] at hx
                rw [List.mem_append]
                rcases hx with hx | hx
                · exact .inl (hi.sub x hx)
                · right; simp at hx ⊢; rw [hx]; exact k2
              · rw [List.map_append, List.mem_append] at hx
                rcases hx with hx | hx
                · exact hi.fr i hi1 hx
                · have e : (st.1.getD i default).1 = (st.1.getD j default).1 := by simpa using hx
                  have hfi := fI_once ho.2.2.1 (i := i) (by rw [List.length_map]; exact hi1)
                  rw [map_getD9 _ hi1, e, hfj] at hfi
                  injection hfi with hfi
                  subst hfi
                  exact f1
              · rcases List.mem_append.1 hx with hx | hx
                · obtain ⟨c, v, m1, m2, m3, m4, m5⟩ := hi.me x hx
                  have hck : k ≠ c := fun e => by
                    subst e
                    rw [etk] at m2
                    exact m2 ((sEq_iff _ _).1 hv)
                  have hc1 := (fI_some m1).1
                  have nc1 : (t.2.getD c default).1 ≠ B0 := by
                    have h1 := ne_of_nmem (l := cNs t.2) (by rw [hi.nc]; exact ho.2.1) hc1
                    rw [List.length_map] at hc1
                    rwa [map_getD9 _ hc1] at h1
                  have hvj : j ≠ v := fun e => by
                    subst e
                    rw [etj, f1] at m4
                    exact nc1 m4.symm
                  refine ⟨c, v, by rw [n2]; exact m1, ?_⟩
                  rw [ec c, if_neg hck, n1, ev v, if_neg hvj]
                  exact ⟨m2, m3, m4, m5⟩
                · have hx' : x = nm := by simpa using hx
                  subst hx'
                  refine ⟨k, j, by rw [n2, hi.nc]; exact hf, ?_⟩
                  rw [ec k, if_pos rfl, n1, hi.nv, ev j, if_pos rfl]
                  exact ⟨nj, hfj, rfl, f5⟩
          · cases hs
        · rw [if_neg hv] at hs
          cases hfv : fI (vNs st.1) (cVo (st.2.getD k default)) with
          | none => rw [hfv] at hs; cases hs
          | some j =>
            rw [hfv] at hs
            simp only at hs
            split at hs
            · rename_i hcl
              split at hs
              · rename_i hmt
                injection hs with hs
                subst hs
                simp only at h
                obtain ⟨j1, _, _⟩ := fI_some hfv
                rw [List.length_map] at j1
                have hcl' := (sEq_iff _ _).1 hcl
                have hjo : (st.1.getD j default).1 ∉ out.map Prod.snd := fun hm => nk (by rw [← hcl']; exact hi.fr j j1 hm)
                have etj := hi.kv j j1 hjo
                refine plan_meets ho r (P ++ [nm]) (out := out) (t := t) ?_ hn' h |>.imp (fun t' ht' => by simpa using ht')
                refine ⟨hi.ap, hi.nv, hi.nc, hi.kv, hi.kc, fun x hx => List.mem_append.2 (.inl (hi.sub x hx)), hi.fr, fun x hx => ?_⟩
                rcases List.mem_append.1 hx with hx | hx
                · exact hi.me x hx
                · have hx' : x = nm := by simpa using hx
                  subst hx'
                  refine ⟨k, j, by rw [hi.nc]; exact hf, ?_⟩
                  rw [etk, hi.nv, etj]
                  exact ⟨fun e => hv ((sEq_iff _ _).2 e), hfv, hcl', hmt⟩
              · cases hs
            · cases hs
/-- 10.4. -/
theorem meets_plain {st : VC} {K : List ClassD} {NL : List Lab} {claims : List ByteArray} {l : List PickD} (ho : OnceP st) (hn : claims.Nodup) (h : planL st K NL claims [] = .ok l) :
    ∃ t, applyP st l = .ok t ∧ OnceP t ∧ (∀ nm ∈ claims, MeetsAt t NL nm) ∧ planL t K NL claims [] = .ok [] := by
  obtain ⟨t, hi⟩ := plan_meets ho claims [] (out := []) (t := st) ⟨rfl, rfl, rfl, fun _ _ _ => rfl, fun _ _ _ => rfl, fun _ h => (by cases h), fun _ _ h => (by cases h), fun _ h => (by cases h)⟩ (by simpa using hn) h
  have hm : ∀ nm ∈ claims, MeetsAt t NL nm := fun nm hx => hi.me nm (by simpa using hx)
  refine ⟨t, hi.ap, ?_, hm, meets_all [] hm⟩
  unfold OnceP
  rw [hi.nv, hi.nc]
  exact ho
theorem getD_app9 {α : Type} [Inhabited α] (l m : List α) {i : Nat} (h : i < l.length) : (l ++ m).getD i default = l.getD i default := by
  rw [List.getD_eq_getElem?_getD, List.getD_eq_getElem?_getD, List.getElem?_append_left h]
theorem fI_app {l m : List ByteArray} {nm : ByteArray} {i : Nat} (h : fI l nm = some i) : fI (l ++ m) nm = some i := by
  obtain ⟨h1, h2, h3⟩ := fI_some h
  refine fI_of (by rw [List.length_append]; omega) (by rw [getD_app9 _ _ h1]; exact h2) (fun j hj => ?_)
  rw [getD_app9 _ _ (by omega)]
  exact h3 j hj
/-- 10.7, a claim. -/
theorem more_step {V : List VolumeD} {C : List ClaimD} {K : List ClassD} {NL : List Lab} {picked : List ByteArray} {nm : ByteArray} {o : Option PickD} (v : VolumeD) (h : stepP (V, C) K NL picked nm = .ok o) : ∃ o', stepP (V ++ [v], C) K NL picked nm = .ok o' := by
  unfold stepP at h ⊢
  cases hf : fI (cNs C) nm with
  | none => simp only [hf] at h; cases h
  | some k =>
    simp only [hf] at h ⊢
    by_cases hv : sEq (cVo (C.getD k default)) B0 = true
    · rw [if_pos hv] at h ⊢
      split at h
      · rename_i hw
        rw [if_pos hw]
        cases hb : bestP (C.getD k default) NL V picked with
        | none => rw [hb] at h; cases h
        | some j =>
          obtain ⟨j1, j2⟩ := best_some hb
          cases hb' : bestP (C.getD k default) NL (V ++ [v]) picked with
          | none =>
            have := best_none hb' j (by rw [List.length_append]; omega)
            rw [getD_app9 _ _ j1, j2] at this
            cases this
          | some j' => exact ⟨_, rfl⟩
      · cases h
    · rw [if_neg hv] at h ⊢
      cases hfv : fI (vNs V) (cVo (C.getD k default)) with
      | none => rw [hfv] at h; cases h
      | some j =>
        have j1 := (fI_some hfv).1
        rw [List.length_map] at j1
        rw [hfv] at h
        have e : fI (vNs (V ++ [v])) (cVo (C.getD k default)) = some j := by
          show fI ((V ++ [v]).map Prod.fst) _ = _
          rw [List.map_append]
          exact fI_app hfv
        rw [e]
        simp only at h ⊢
        rw [getD_app9 _ _ j1]
        exact ⟨o, h⟩
/-- 10.7. -/
theorem more_plain {V : List VolumeD} {C : List ClaimD} {K : List ClassD} {NL : List Lab} {claims disks : List ByteArray} {d : Int} (v : VolumeD) (hl : claims.length ≤ 1) (h : (planP (V, C) K NL claims disks d).2 = 0) : (planP (V ++ [v], C) K NL claims disks d).2 = 0 := by
  have key : ∀ {l}, planL (V, C) K NL claims [] = .ok l → ∃ l', planL (V ++ [v], C) K NL claims [] = .ok l' := by
    intro l h
    match claims, hl, h with
    | [], _, _ => exact ⟨_, rfl⟩
    | [nm], _, h =>
      unfold planL at h ⊢
      cases hs : stepP (V, C) K NL (([] : List PickD).map Prod.snd) nm with
      | error e => rw [hs] at h; cases h
      | ok o =>
        obtain ⟨o', ho'⟩ := more_step v hs
        rw [ho']
        cases o' <;> exact ⟨_, rfl⟩
  unfold planP at h ⊢
  cases hp : planL (V, C) K NL claims [] with
  | error e =>
    rw [hp] at h
    simp only at h
    exfalso
    have := plan_err hp
    omega
  | ok l =>
    obtain ⟨l', hl'⟩ := key hp
    rw [hp] at h
    rw [hl']
    simp only at h ⊢
    split
    · rename_i hd
      rw [if_pos hd] at h
      cases h
    · rfl
end Go.Proofs.Ytpjgffcpjabghaa
