/- Layer 10 in plain words: which volume a claim gets, a pod's plan; and what follows (10.4, 10.7). Plain mathematics. No condition. A row of one's own, and the blocks of struct variables beside it; an append of a whole slice, empty or not; facts that stay while a variable's block is written. Plain facts on worlds. No condition. The document's claim, volume, waits of layer 10: where one stands. Condition: the state lies as is said of it. Which blocks a call turns. Plain facts on worlds. No condition. -/
import Derived.Test.YtmnldngojgldiaaGreatQ06
import Derived.Test.YtmnldngojgldiaaGreatQ05
import Derived.Test.YtmnldngojgldiaaGreatQ04
import Derived.Deep.MidRow
import Derived.Test.YtmnldngojgldiaaGreatQ03
import Derived.Maps.OwnOps
import Derived.Maps.OwnSet
namespace Go.Proofs.YtmnldngojgldiaaGreat
set_option linter.unusedSimpArgs false

def waitsP (l : List ClassD) (cl : ByteArray) : Bool := match l.find? (fun k => sEq k.1 cl) with | some k => k.2 | none => false
/-- May the claim get that volume, on a node with those labels? -/
def fitV (c : ClaimD) (NL : List Lab) (picked : List ByteArray) (v : VolumeD) : Bool := sEq (vCl v) B0 && (!hasB sEq picked v.1 && (sEq v.2.2.1 c.2.2.1 && (!decide (v.2.1 < c.2.1) && matchL NL (vRq v))))
def lessV (v w : VolumeD) : Bool := decide (v.2.1 < w.2.1) || (v.2.1 == w.2.1 && sLt v.1 w.1)
/-- The best one of the first k that fit. -/
def bestF (fit : VolumeD → Bool) (V : List VolumeD) : Nat → Option Nat
  | 0 => none
  | k + 1 => if fit (V.getD k default) = true then (match bestF fit V k with | none => some k | some b => if lessV (V.getD k default) (V.getD b default) = true then some k else some b) else bestF fit V k
def bestP (c : ClaimD) (NL : List Lab) (V : List VolumeD) (picked : List ByteArray) : Option Nat := bestF (fitV c NL picked) V V.length
theorem best_some {fit : VolumeD → Bool} {V : List VolumeD} : ∀ {k b : Nat}, bestF fit V k = some b → b < k ∧ fit (V.getD b default) = true
  | 0, b, h => by cases h
  | k + 1, b, h => by
    unfold bestF at h
    split at h
    · rename_i hf
      cases e : bestF fit V k with
      | none => rw [e] at h; injection h with h; subst h; exact ⟨Nat.lt_succ_self _, hf⟩
      | some a =>
        rw [e] at h
        simp only at h
        obtain ⟨h1, h2⟩ := best_some e
        split at h
        · injection h with h; subst h; exact ⟨Nat.lt_succ_self _, hf⟩
        · injection h with h; subst h; exact ⟨by omega, h2⟩
    · obtain ⟨h1, h2⟩ := best_some h
      exact ⟨by omega, h2⟩
theorem best_none {fit : VolumeD → Bool} {V : List VolumeD} : ∀ {k : Nat}, bestF fit V k = none → ∀ j, j < k → fit (V.getD j default) = false
  | 0, _, j, hj => absurd hj (Nat.not_lt_zero _)
  | k + 1, h, j, hj => by
    unfold bestF at h
    split at h
    · cases e : bestF fit V k with
      | none => rw [e] at h; cases h
      | some a =>
        rw [e] at h
        simp only at h
        split at h <;> cases h
    · rename_i hf
      rcases Nat.lt_succ_iff_lt_or_eq.1 hj with h1 | rfl
      · exact best_none h j h1
      · simpa using hf
/-- What a claim of that name gets, or has; or why not. -/
def stepP (st : VC) (K : List ClassD) (NL : List Lab) (picked : List ByteArray) (nm : ByteArray) : Except Int (Option PickD) :=
  match fI (cNs st.2) nm with
  | none => .error 13
  | some k =>
    if sEq (cVo (st.2.getD k default)) B0 = true then
      if waitsP K (st.2.getD k default).2.2.1 = true then
        match bestP (st.2.getD k default) NL st.1 picked with
        | none => .error 14
        | some j => .ok (some ((st.2.getD k default).1, (st.1.getD j default).1))
      else .error 13
    else
      match fI (vNs st.1) (cVo (st.2.getD k default)) with
      | none => .error 13
      | some j => if sEq (vCl (st.1.getD j default)) (st.2.getD k default).1 = true then (if matchL NL (vRq (st.1.getD j default)) = true then .ok none else .error 14) else .error 13
def planL (st : VC) (K : List ClassD) (NL : List Lab) : List ByteArray → List PickD → Except Int (List PickD)
  | [], out => .ok out
  | nm :: r, out => match stepP st K NL (out.map Prod.snd) nm with
    | .error e => .error e
    | .ok none => planL st K NL r out
    | .ok (some pk) => planL st K NL r (out ++ [pk])
theorem step_err {st : VC} {K : List ClassD} {NL : List Lab} {picked : List ByteArray} {nm : ByteArray} {e : Int} (h : stepP st K NL picked nm = .error e) : e = 13 ∨ e = 14 := by
  unfold stepP at h
  split at h
  · injection h with h; exact .inl h.symm
  · split at h
    · split at h
      · split at h
        · injection h with h; exact .inr h.symm
        · cases h
      · injection h with h; exact .inl h.symm
    · split at h
      · injection h with h; exact .inl h.symm
      · split at h
        · split at h
          · cases h
          · injection h with h; exact .inr h.symm
        · injection h with h; exact .inl h.symm
theorem plan_err {st : VC} {K : List ClassD} {NL : List Lab} : ∀ {claims : List ByteArray} {out : List PickD} {e : Int}, planL st K NL claims out = .error e → e = 13 ∨ e = 14
  | [], _, _, h => by cases h
  | nm :: r, out, e, h => by
    unfold planL at h
    split at h
    · rename_i hs
      injection h with h
      subst h
      exact step_err hs
    · exact plan_err h
    · exact plan_err h
/-- Are the claims in use, with the pod's, more than the node's disks? -/
def disksP (disks claims : List ByteArray) (d : Int) : Bool := decide (d < ((sortB sLt sEq (disks ++ claims)).length : Int))
def planP (st : VC) (K : List ClassD) (NL : List Lab) (claims disks : List ByteArray) (d : Int) : List PickD × Int :=
  match planL st K NL claims [] with
  | .error e => ([], e)
  | .ok out => if disksP disks claims d = true then ([], 15) else (out, 0)
/-- A claim of that name has a volume that is its own, and that those labels meet. -/
def MeetsAt (t : VC) (NL : List Lab) (nm : ByteArray) : Prop := ∃ c v, fI (cNs t.2) nm = some c ∧ cVo (t.2.getD c default) ≠ B0 ∧ fI (vNs t.1) (cVo (t.2.getD c default)) = some v ∧ vCl (t.1.getD v default) = (t.2.getD c default).1 ∧ matchL NL (vRq (t.1.getD v default)) = true
theorem meets_step {t : VC} {K : List ClassD} {NL : List Lab} {picked : List ByteArray} {nm : ByteArray} (h : MeetsAt t NL nm) : stepP t K NL picked nm = .ok none := by
  obtain ⟨c, v, h1, h2, h3, h4, h5⟩ := h
  unfold stepP
  rw [h1]
  simp only
  rw [if_neg (by rw [Bool.not_eq_true, sEq_ne9]; exact h2), h3]
  simp only
  rw [if_pos ((sEq_iff _ _).2 h4), if_pos h5]
theorem meets_all {t : VC} {K : List ClassD} {NL : List Lab} (out : List PickD) : ∀ {claims : List ByteArray}, (∀ nm ∈ claims, MeetsAt t NL nm) → planL t K NL claims out = .ok out
  | [], _ => rfl
  | nm :: r, h => by
    unfold planL
    rw [meets_step (h nm List.mem_cons_self)]
    exact meets_all out (fun x hx => h x (List.mem_cons_of_mem _ hx))
theorem apply_snoc : ∀ (l : List PickD) (st : VC) (pk : PickD), applyP st (l ++ [pk]) = match applyP st l with | .ok t => stepA t pk | .error e => .error e
  | [], st, pk => by
    show applyP st [pk] = stepA st pk
    unfold applyP
    cases e : stepA st pk <;> rfl
  | x :: l, st, pk => by
    rw [List.cons_append]
    unfold applyP
    cases e : stepA st x with
    | error y => rfl
    | ok st1 => exact apply_snoc l st1 pk
/-- As far as the plan has come. -/
structure PlI (st : VC) (NL : List Lab) (P : List ByteArray) (out : List PickD) (t : VC) : Prop where
  ap : applyP st out = .ok t
  nv : vNs t.1 = vNs st.1
  nc : cNs t.2 = cNs st.2
  kv : ∀ j, j < st.1.length → (st.1.getD j default).1 ∉ out.map Prod.snd → t.1.getD j default = st.1.getD j default
  kc : ∀ c, c < st.2.length → (st.2.getD c default).1 ∉ out.map Prod.fst → t.2.getD c default = st.2.getD c default
  sub : ∀ x ∈ out.map Prod.fst, x ∈ P
  fr : ∀ j, j < st.1.length → (st.1.getD j default).1 ∈ out.map Prod.snd → vCl (st.1.getD j default) = B0
  me : ∀ nm ∈ P, MeetsAt t NL nm
theorem len_of_names {α : Type} {f : α → ByteArray} {l m : List α} (h : l.map f = m.map f) : l.length = m.length := by
  have := congrArg List.length h
  simpa using this
theorem plan_meets {st : VC} {K : List ClassD} {NL : List Lab} (ho : OnceP st) : ∀ (claims P : List ByteArray) {out l : List PickD} {t : VC}, PlI st NL P out t → (P ++ claims).Nodup → planL st K NL claims out = .ok l → ∃ t', PlI st NL (P ++ claims) l t'
  | [], P, out, l, t, hi, _, h => by
    unfold planL at h
    injection h with h
    subst h
    exact ⟨t, by rw [List.append_nil]; exact hi⟩
  | nm :: r, P, out, l, t, hi, hn, h => by
    have hnm : nm ∉ P := fun hm => by
      have := (List.nodup_append.1 hn).2.2 nm hm nm List.mem_cons_self
      exact this rfl
    have hn' : ((P ++ [nm]) ++ r).Nodup := by simpa using hn
    have hl1 := len_of_names hi.nv
    have hl2 := len_of_names hi.nc
    unfold planL at h
    cases hs : stepP st K NL (out.map Prod.snd) nm with
    | error e => rw [hs] at h; cases h
    | ok o =>
      rw [hs] at h
      unfold stepP at hs
      cases hf : fI (cNs st.2) nm with
      | none => rw [hf] at hs; cases hs
      | some k =>
        rw [hf] at hs
        simp only at hs
        obtain ⟨k1', k2, _⟩ := fI_some hf
        have k1 := k1'
        rw [List.length_map] at k1
        rw [map_getD9 _ k1] at k2
        have nk : (st.2.getD k default).1 ≠ B0 := by have := ne_of_nmem ho.2.1 k1'; rwa [map_getD9 _ k1] at this
        have hko : (st.2.getD k default).1 ∉ out.map Prod.fst := fun hm => hnm (k2 ▸ hi.sub _ hm)
        have etk := hi.kc k k1 hko
        by_cases hv : sEq (cVo (st.2.getD k default)) B0 = true
        · rw [if_pos hv] at hs
          split at hs
          · cases hb : bestP (st.2.getD k default) NL st.1 (out.map Prod.snd) with
            | none => rw [hb] at hs; cases hs
            | some j =>
              rw [hb] at hs
              simp only at hs
              injection hs with hs
              subst hs
              simp only at h
              obtain ⟨j1, hfit⟩ := best_some hb
              unfold fitV at hfit
              simp only [Bool.and_eq_true, Bool.not_eq_true', sEq_iff, decide_eq_false_iff_not] at hfit
              obtain ⟨f1, f2, f3, f4, f5⟩ := hfit
              have hjo : (st.1.getD j default).1 ∉ out.map Prod.snd := fun hm => by
                have : hasB sEq (out.map Prod.snd) (st.1.getD j default).1 = true := by
                  unfold hasB
                  rw [List.any_eq_true]
                  exact ⟨_, hm, (sEq_iff _ _).2 rfl⟩
                rw [this] at f2
                cases f2
              have etj := hi.kv j j1 hjo
              have hfj : fI (vNs st.1) (st.1.getD j default).1 = some j := by
                have := fI_once ho.2.2.1 (i := j) (by rw [List.length_map]; exact j1)
                rwa [map_getD9 _ j1] at this
              have nj : (st.1.getD j default).1 ≠ B0 := by have := ne_of_nmem ho.2.2.2 (i := j) (by rw [List.length_map]; exact j1); rwa [map_getD9 _ j1] at this
              have hstep : stepA t ((st.2.getD k default).1, (st.1.getD j default).1) = .ok (takeA t k j) := by
                unfold stepA
                simp only
                rw [hi.nc, hi.nv, k2, hf, hfj]
                simp only
                rw [etk, etj, if_pos (okA_iff.2 ⟨(sEq_iff _ _).1 hv, f1, f3, by omega⟩)]
              have tk1 : k < t.2.length := by omega
              have tj1 : j < t.1.length := by omega
              obtain ⟨n1, n2⟩ := takeA_names tk1 tj1
              have ec : ∀ i, (takeA t k j).2.getD i default = if k = i then setVo (st.2.getD k default) (st.1.getD j default).1 else t.2.getD i default := fun i => by unfold takeA; rw [getD_set9 _ _ _ _ tk1, etk, etj]
              have ev : ∀ i, (takeA t k j).1.getD i default = if j = i then setCl (st.1.getD j default) (st.2.getD k default).1 else t.1.getD i default := fun i => by unfold takeA; rw [getD_set9 _ _ _ _ tj1, etk, etj]
              refine plan_meets ho r (P ++ [nm]) (out := out ++ [((st.2.getD k default).1, (st.1.getD j default).1)]) (t := takeA t k j) ?_ hn' h |>.imp (fun t' ht' => by simpa using ht')
              refine ⟨by rw [apply_snoc, hi.ap]; exact hstep, n1.trans hi.nv, n2.trans hi.nc, fun i hi1 hx => ?_, fun i hi1 hx => ?_, fun x hx => ?_, fun i hi1 hx => ?_, fun x hx => ?_⟩
              · rw [List.map_append, List.mem_append, not_or] at hx
                rw [ev i, if_neg (fun e => hx.2 (by subst e; simp))]
                exact hi.kv i hi1 hx.1
              · rw [List.map_append, List.mem_append, not_or] at hx
                rw [ec i, if_neg (fun e => hx.2 (by subst e; simp))]
                exact hi.kc i hi1 hx.1
              · rw [List.map_append, List.mem_append] at hx
                rw [List.mem_append]
                rcases hx with hx | hx
                · exact .inl (hi.sub x hx)
                · right; simp at hx ⊢; rw [hx]; exact k2
              · rw [List.map_append, List.mem_append] at hx
                rcases hx with hx | hx
                · exact hi.fr i hi1 hx
                · have e : (st.1.getD i default).1 = (st.1.getD j default).1 := by simpa using hx
                  have hfi := fI_once ho.2.2.1 (i := i) (by rw [List.length_map]; exact hi1)
                  rw [map_getD9 _ hi1, e, hfj] at hfi
                  injection hfi with hfi
                  subst hfi
                  exact f1
              · rcases List.mem_append.1 hx with hx | hx
                · obtain ⟨c, v, m1, m2, m3, m4, m5⟩ := hi.me x hx
                  have hck : k ≠ c := fun e => by
                    subst e
                    rw [etk] at m2
                    exact m2 ((sEq_iff _ _).1 hv)
                  have hc1 := (fI_some m1).1
                  have nc1 : (t.2.getD c default).1 ≠ B0 := by
                    have h1 := ne_of_nmem (l := cNs t.2) (by rw [hi.nc]; exact ho.2.1) hc1
                    rw [List.length_map] at hc1
                    rwa [map_getD9 _ hc1] at h1
                  have hvj : j ≠ v := fun e => by
                    subst e
                    rw [etj, f1] at m4
                    exact nc1 m4.symm
                  refine ⟨c, v, by rw [n2]; exact m1, ?_⟩
                  rw [ec c, if_neg hck, n1, ev v, if_neg hvj]
                  exact ⟨m2, m3, m4, m5⟩
                · have hx' : x = nm := by simpa using hx
                  subst hx'
                  refine ⟨k, j, by rw [n2, hi.nc]; exact hf, ?_⟩
                  rw [ec k, if_pos rfl, n1, hi.nv, ev j, if_pos rfl]
                  exact ⟨nj, hfj, rfl, f5⟩
          · cases hs
        · rw [if_neg hv] at hs
          cases hfv : fI (vNs st.1) (cVo (st.2.getD k default)) with
          | none => rw [hfv] at hs; cases hs
          | some j =>
            rw [hfv] at hs
            simp only at hs
            split at hs
            · rename_i hcl
              split at hs
              · rename_i hmt
                injection hs with hs
                subst hs
                simp only at h
                obtain ⟨j1, _, _⟩ := fI_some hfv
                rw [List.length_map] at j1
                have hcl' := (sEq_iff _ _).1 hcl
                have hjo : (st.1.getD j default).1 ∉ out.map Prod.snd := fun hm => nk (by rw [← hcl']; exact hi.fr j j1 hm)
                have etj := hi.kv j j1 hjo
                refine plan_meets ho r (P ++ [nm]) (out := out) (t := t) ?_ hn' h |>.imp (fun t' ht' => by simpa using ht')
                refine ⟨hi.ap, hi.nv, hi.nc, hi.kv, hi.kc, fun x hx => List.mem_append.2 (.inl (hi.sub x hx)), hi.fr, fun x hx => ?_⟩
                rcases List.mem_append.1 hx with hx | hx
                · exact hi.me x hx
                · have hx' : x = nm := by simpa using hx
                  subst hx'
                  refine ⟨k, j, by rw [hi.nc]; exact hf, ?_⟩
                  rw [etk, hi.nv, etj]
                  exact ⟨fun e => hv ((sEq_iff _ _).2 e), hfv, hcl', hmt⟩
              · cases hs
            · cases hs
/-- 10.4. -/
theorem meets_plain {st : VC} {K : List ClassD} {NL : List Lab} {claims : List ByteArray} {l : List PickD} (ho : OnceP st) (hn : claims.Nodup) (h : planL st K NL claims [] = .ok l) :
    ∃ t, applyP st l = .ok t ∧ OnceP t ∧ (∀ nm ∈ claims, MeetsAt t NL nm) ∧ planL t K NL claims [] = .ok [] := by
  obtain ⟨t, hi⟩ := plan_meets ho claims [] (out := []) (t := st) ⟨rfl, rfl, rfl, fun _ _ _ => rfl, fun _ _ _ => rfl, fun _ h => (by cases h), fun _ _ h => (by cases h), fun _ h => (by cases h)⟩ (by simpa using hn) h
  have hm : ∀ nm ∈ claims, MeetsAt t NL nm := fun nm hx => hi.me nm (by simpa using hx)
  refine ⟨t, hi.ap, ?_, hm, meets_all [] hm⟩
  unfold OnceP
  rw [hi.nv, hi.nc]
  exact ho
theorem getD_app9 {α : Type} [Inhabited α] (l m : List α) {i : Nat} (h : i < l.length) : (l ++ m).getD i default = l.getD i default := by
  rw [List.getD_eq_getElem?_getD, List.getD_eq_getElem?_getD, List.getElem?_append_left h]
theorem fI_app {l m : List ByteArray} {nm : ByteArray} {i : Nat} (h : fI l nm = some i) : fI (l ++ m) nm = some i := by
  obtain ⟨h1, h2, h3⟩ := fI_some h
  refine fI_of (by rw [List.length_append]; omega) (by rw [getD_app9 _ _ h1]; exact h2) (fun j hj => ?_)
  rw [getD_app9 _ _ (by omega)]
  exact h3 j hj
/-- 10.7, a claim. -/
theorem more_step {V : List VolumeD} {C : List ClaimD} {K : List ClassD} {NL : List Lab} {picked : List ByteArray} {nm : ByteArray} {o : Option PickD} (v : VolumeD) (h : stepP (V, C) K NL picked nm = .ok o) : ∃ o', stepP (V ++ [v], C) K NL picked nm = .ok o' := by
  unfold stepP at h ⊢
  cases hf : fI (cNs C) nm with
  | none => simp only [hf] at h; cases h
  | some k =>
    simp only [hf] at h ⊢
    by_cases hv : sEq (cVo (C.getD k default)) B0 = true
    · rw [if_pos hv] at h ⊢
      split at h
      · rename_i hw
        rw [if_pos hw]
        cases hb : bestP (C.getD k default) NL V picked with
        | none => rw [hb] at h; cases h
        | some j =>
          obtain ⟨j1, j2⟩ := best_some hb
          cases hb' : bestP (C.getD k default) NL (V ++ [v]) picked with
          | none =>
            have := best_none hb' j (by rw [List.length_append]; omega)
            rw [getD_app9 _ _ j1, j2] at this
            cases this
          | some j' => exact ⟨_, rfl⟩
      · cases h
    · rw [if_neg hv] at h ⊢
      cases hfv : fI (vNs V) (cVo (C.getD k default)) with
      | none => rw [hfv] at h; cases h
      | some j =>
        have j1 := (fI_some hfv).1
        rw [List.length_map] at j1
        rw [hfv] at h
        have e : fI (vNs (V ++ [v])) (cVo (C.getD k default)) = some j := by
          show fI ((V ++ [v]).map Prod.fst) _ = _
          rw [List.map_append]
          exact fI_app hfv
        rw [e]
        simp only at h ⊢
        rw [getD_app9 _ _ j1]
        exact ⟨o, h⟩
/-- 10.7. -/
theorem more_plain {V : List VolumeD} {C : List ClaimD} {K : List ClassD} {NL : List Lab} {claims disks : List ByteArray} {d : Int} (v : VolumeD) (hl : claims.length ≤ 1) (h : (planP (V, C) K NL claims disks d).2 = 0) : (planP (V ++ [v], C) K NL claims disks d).2 = 0 := by
  have key : ∀ {l}, planL (V, C) K NL claims [] = .ok l → ∃ l', planL (V ++ [v], C) K NL claims [] = .ok l' := by
    intro l h
    match claims, hl, h with
    | [], _, _ => exact ⟨_, rfl⟩
    | [nm], _, h =>
      unfold planL at h ⊢
      cases hs : stepP (V, C) K NL (([] : List PickD).map Prod.snd) nm with
      | error e => rw [hs] at h; cases h
      | ok o =>
        obtain ⟨o', ho'⟩ := more_step v hs
        rw [ho']
        cases o' <;> exact ⟨_, rfl⟩
  unfold planP at h ⊢
  cases hp : planL (V, C) K NL claims [] with
  | error e =>
    rw [hp] at h
    simp only at h
    exfalso
    have := plan_err hp
    omega
  | ok l =>
    obtain ⟨l', hl'⟩ := key hp
    rw [hp] at h
    rw [hl']
    simp only at h ⊢
    split
    · rename_i hd
      rw [if_pos hd] at h
      cases h
    · rfl
end Go.Proofs.YtmnldngojgldiaaGreat
namespace Go.Proofs.YtmnldngojgldiaaGreat
open Go.RowKit
set_option linter.unusedSimpArgs false

/-- The same store in both worlds, below. -/
theorem below_both {w u : World} (h : Below w.heap.size w u) {p : Addr} (hp : p.block < w.heap.size) (x : Value) : Below (w.setCell p x).heap.size (w.setCell p x) (u.setCell p x) := by
  refine ⟨h.os, h.tape, h.output, by simpa using h.size, fun k hk => ?_⟩
  have hk' : k < w.heap.size := by simpa using hk
  by_cases e : k = p.block
  · subst e
    have := h.block p.block hp
    simp only [World.setCell, Array.getElem?_modify, if_true]
    rw [this]
  · rw [Below.heap_setCell _ _ _ _ e, Below.heap_setCell _ _ _ _ e]
    exact h.block k hk'
section
variable {α : Type} [Inhabited α] {R : Rep α} {k : Nat}
theorem Row.both (hR : Firm R k) {A : Where} {w u : World} {e : TypeId} {v : Value} {L : List α} (h : Row R k A w u e v L) {p : Addr} (hp : p.block < w.heap.size) (hA : ¬ A p.block) (x : Value) : Row R k A (w.setCell p x) (u.setCell p x) e v L := by
  obtain ⟨xs, h1, h2⟩ := h
  refine ⟨xs, ⟨below_both h1.1 hp x, ?_⟩, h2.kept hR (Kept.set (fun h => hA h.1) _)⟩
  have := ownsRow_setCell_below h1.2 hp x
  simpa using this
theorem Fresh.setCell (w : World) (p : Addr) (x : Value) : Fresh (w.setCell p x) = Fresh w := by funext b; simp [Fresh]
theorem Row.bothF (hR : Firm R k) {w u : World} {e : TypeId} {v : Value} {L : List α} (h : Row R k (Fresh w) w u e v L) {p : Addr} (hp : p.block < w.heap.size) (x : Value) : Row R k (Fresh (w.setCell p x)) (w.setCell p x) (u.setCell p x) e v L := by
  rw [Fresh.setCell]; exact h.both hR hp (Fresh.not hp) x
/-- What lies in a slice, or in none, ready to be appended. -/
def Src (R : Rep α) (k : Nat) (A : Where) (u : World) (a : Option Addr) (m : Nat) (N : List α) : Prop :=
  N.length = m ∧ ((a = none ∧ N = []) ∨ ∃ ad xs, a = some ad ∧ Chunks R k A u xs N ∧ (∀ j y, xs[j]? = some y → u.cell? (ad.add j) = some y) ∧ ∀ y ∈ xs, y.oneCell' = true)
theorem SlAt.src (hR : Firm R k) {bytes : Nat} {A : Where} {u : World} {a : Option Addr} {m c : Nat} {N : List α} (h : SlAt R k bytes A u a m c N) : Src R k A u a m N := by
  cases a with
  | none => obtain ⟨_, _, h3⟩ := sl_none h; exact ⟨h.1, .inl ⟨rfl, h3⟩⟩
  | some ad => obtain ⟨xs, h1, h2, h3⟩ := h.chunks hR; exact ⟨h.1, .inr ⟨ad, xs, rfl, h1, h2, h3⟩⟩
theorem Src.flat (hF : Flat R) {A A' : Where} {u : World} {a : Option Addr} {m : Nat} {N : List α} (h : Src R k A u a m N) : Src R k A' u a m N := by
  obtain ⟨h1, h2⟩ := h
  refine ⟨h1, ?_⟩
  rcases h2 with h2 | ⟨ad, xs, e, h3, h4, h5⟩
  · exact .inl h2
  · exact .inr ⟨ad, xs, e, h3.flat hF, h4, h5⟩
theorem Src.weak (hR : Firm R k) {A A' : Where} {u : World} {a : Option Addr} {m : Nat} {N : List α} (h : Src R k A u a m N) (hA : ∀ b, b < u.heap.size → A b → A' b) : Src R k A' u a m N := by
  obtain ⟨h1, h2⟩ := h
  refine ⟨h1, ?_⟩
  rcases h2 with h2 | ⟨ad, xs, e, h3, h4, h5⟩
  · exact .inl h2
  · exact .inr ⟨ad, xs, e, h3.weak hR hA, h4, h5⟩
/-- An append of what lies in a slice, or in none, to one's own row, whatever the region. -/
theorem row_appendS_wp (hR : Firm R k) {o : Oper} {a : Act} {K : Act → World → Prop} {Q : Exit → Act → World → Prop} {A : Where} {w0 u : World} (s x : Operand) (t e : TypeId)
    (ho : o.op = .call { callee := .builtin .append, args := #[s, x], argTypes := #[t, t] }) (z : Value) (bytes : Nat) (hinfo : (Tryz.prog.info? e).map (fun i => (i.zero, i.size, i.bytes)) = some (some z, k, bytes)) (ht : Tryz.prog.underlying t = some (.slice e)) (hzs : z.cells.size = k) (hk0 : 0 < k) (hby : 1 ≤ bytes)
    (v : Value) (L : List α) (hs : a.eval s = v) (hrow : Row R k A w0 u e v L)
    (ad : Option Addr) (m c : Nat) (N : List α) (hx : a.eval x = .slice ad m c) (hN : Src R k (fun b => A b ∧ v.ownBlock ≠ some b) u ad m N) (hb : (L.length + N.length) * bytes ≤ 140737488355328)
    (h : ∀ v' u', Row R k A w0 u' e v' (L ++ N) → u.grownBy u' v.ownBlock → K (a.put o.dst v') u') : o.wp Tryz.prog a u K Q := by
  obtain ⟨hm, hN⟩ := hN
  rcases hN with ⟨rfl, rfl⟩ | ⟨ad, xs, rfl, h1, h2, h3⟩
  · obtain rfl : m = 0 := by simpa using hm.symm
    obtain ⟨i0, hi, hz0, hz1, hz2⟩ := info_parts hinfo
    have hr : ∀ ty, (Builtin.append_ #[t, t] ty #[v, .slice none 0 c]).run Tryz.prog u = .ok v u := by
      intro ty
      obtain ⟨xs, hown, _⟩ := hrow
      rcases hown.2.2 with ⟨rfl, _⟩ | ⟨g, cap, cur, rfl, _, hg, hnc, _⟩
      · simp [Builtin.append_, run_underlying ht, sizeOf, typeInfo, hi, Builtin.lenOf, Builtin.firstCells, loadCells, loadCellsFrom]
      · simp [Builtin.append_, run_underlying ht, sizeOf, typeInfo, hi, Builtin.lenOf, Builtin.firstCells, loadCells, loadCellsFrom, hnc, storeCells]
    unfold Oper.wp execOp
    simp only [ho, resolve, invoke, builtin, Sem.run_bind, Sem.run_pure, Result.andThen_ok, List.map_toArray, List.map_cons, List.map_nil, hs, hx, hr]
    exact h v u (by simpa using hrow) ⟨rfl, rfl, rfl, Nat.le_refl _, fun _ _ _ => rfl⟩
  · exact row_append_wp hR s x t e ho z bytes hinfo ht hzs hk0 hby v L hs hrow ad m c xs N hm hx h1 h2 h3 hb h
theorem row_appendS (hR : Firm R k) {ops : Array Oper} {rest : List Oper} {o : Oper} {a : Act} {Q : Exit → Act → World → Prop} {A : Where} {w0 u : World} (hgd : Region.wanted o (yielded ops a.tmps) = true) (s x : Operand) (t e : TypeId)
    (ho : o.op = .call { callee := .builtin .append, args := #[s, x], argTypes := #[t, t] }) (z : Value) (bytes : Nat) (hinfo : (Tryz.prog.info? e).map (fun i => (i.zero, i.size, i.bytes)) = some (some z, k, bytes)) (ht : Tryz.prog.underlying t = some (.slice e)) (hzs : z.cells.size = k) (hk0 : 0 < k) (hby : 1 ≤ bytes)
    (v : Value) (L : List α) (hs : a.eval s = v) (hrow : Row R k A w0 u e v L)
    (ad : Option Addr) (m c : Nat) (N : List α) (hx : a.eval x = .slice ad m c) (hN : Src R k (fun b => A b ∧ v.ownBlock ≠ some b) u ad m N) (hb : (L.length + N.length) * bytes ≤ 140737488355328)
    (h : ∀ v' u', Row R k A w0 u' e v' (L ++ N) → u.grownBy u' v.ownBlock → wpList Tryz.prog ops Q rest (a.put o.dst v') u') : wpList Tryz.prog ops Q (o :: rest) a u :=
  BigFrame.wpList_want hgd (fun _ hK => row_appendS_wp hR s x t e ho z bytes hinfo ht hzs hk0 hby v L hs hrow ad m c N hx hN hb (fun v' u' h2 h3 => hK _ _ (h v' u' h2 h3)))
end
theorem BoxL.range {u : World} {D : Nat} {cs : List Value} (h : BoxL u D cs) : u.rangeAt D 0 cs := fun j v hj => by rw [Nat.zero_add]; exact (h.2 j v hj).1
theorem BoxL.there {u : World} {D : Nat} {cs : List Value} (h : BoxL u D cs) : u.there D 0 cs.length := fun j hj => by
  have := h.2 j cs[j] (List.getElem?_eq_getElem hj)
  rw [Nat.zero_add, this.1, this.2]
  exact ⟨rfl, rfl⟩
/-- What stays true while nothing that has come since W is turned. -/
def Stays (W : World) (G : World → Prop) : Prop := ∀ u u', G u → Kept (Fresh W) u u' → G u'
theorem Stays.none (W : World) : Stays W (fun _ => True) := fun _ _ _ _ => trivial
theorem Stays.add {α : Type} [Inhabited α] {R : Rep α} {k bytes : Nat} {W u : World} {G : World → Prop} (hG : Stays W G) (hg : G u) (hR : Firm R k) {a : Option Addr} {n c : Nat} {L : List α} (hs : SlAt R k bytes (Fresh W) u a n c L) :
    ∃ G', Stays W G' ∧ G' u ∧ (∀ v, G' v → G v) ∧ ∀ v, G' v → SlAt R k bytes (Fresh W) v a n c L :=
  ⟨fun v => G v ∧ SlAt R k bytes (Fresh W) v a n c L, fun _ _ h k => ⟨hG _ _ h.1 k, h.2.kept hR k⟩, ⟨hg, hs⟩, fun _ h => h.1, fun _ h => h.2⟩
end Go.Proofs.YtmnldngojgldiaaGreat
namespace Go.Proofs.YtmnldngojgldiaaGreat
open Go.RowKit
set_option linter.unusedSimpArgs false
set_option maxRecDepth 100000

/-- Where it stands, as a number; -1: nowhere. -/
def idxI : Option Nat → Int
  | none => -1
  | some i => (i : Int)
theorem fI_not {l : List ByteArray} {nm : ByteArray} (h : ∀ j, j < l.length → l.getD j default ≠ nm) : fI l nm = none := by
  cases e : fI l nm with
  | none => rfl
  | some i => obtain ⟨h1, h2, _⟩ := fI_some e; exact absurd h2 (h i h1)
abbrev sVs (x : StateD) : List VolumeD := x.2.2.1
abbrev sCs (x : StateD) : List ClaimD := x.2.2.2.1
abbrev sKs (x : StateD) : List ClassD := x.2.2.2.2.1
theorem map_len9 {α : Type} (f : α → ByteArray) (l : List α) : (l.map f).length = l.length := List.length_map ..
theorem waits_at {L : List ClassD} {cl : ByteArray} {i : Nat} (hi : i < L.length) (h2 : sEq (L.getD i default).1 cl = true) (h3 : ∀ j, j < i → sEq (L.getD j default).1 cl = false) : waitsP L cl = (L.getD i default).2 := by
  unfold waitsP
  have e : L.find? (fun k => sEq k.1 cl) = some (L.getD i default) := by
    rw [List.find?_eq_some_iff_getElem]
    refine ⟨h2, i, hi, ?_, fun j hj => ?_⟩
    · rw [List.getD_eq_getElem?_getD, List.getElem?_eq_getElem hi]; rfl
    · have := h3 j hj
      rw [List.getD_eq_getElem?_getD, List.getElem?_eq_getElem (by omega)] at this
      simpa using this
  rw [e]
theorem waits_not {L : List ClassD} {cl : ByteArray} (h3 : ∀ j, j < L.length → sEq (L.getD j default).1 cl = false) : waitsP L cl = false := by
  unfold waitsP
  have e : L.find? (fun k => sEq k.1 cl) = none := by
    rw [List.find?_eq_none]
    intro k hk
    obtain ⟨i, hi, rfl⟩ := List.getElem_of_mem hk
    have := h3 i hi
    rw [List.getD_eq_getElem?_getD, List.getElem?_eq_getElem hi] at this
    simpa using this
  rw [e]
end Go.Proofs.YtmnldngojgldiaaGreat
namespace Go.Proofs.YtmnldngojgldiaaGreat
open Go.RowKit Go.Maps
set_option linter.unusedSimpArgs false

/-- What a call turns: blocks that are meant, and none is gone. -/
structure Turns (F : Where) (w w' : World) : Prop where
  os : w'.os = w.os
  tape : w'.tape = w.tape
  output : w'.output = w.output
  size : w.heap.size ≤ w'.heap.size
  block : ∀ b, b < w.heap.size → ¬ F b → w'.heap[b]? = w.heap[b]?
theorem Turns.refl (F : Where) (w : World) : Turns F w w := ⟨rfl, rfl, rfl, Nat.le_refl _, fun _ _ _ => rfl⟩
theorem Turns.trans {F : Where} {u v w : World} (h : Turns F u v) (k : Turns F v w) : Turns F u w :=
  ⟨k.os.trans h.os, k.tape.trans h.tape, k.output.trans h.output, Nat.le_trans h.size k.size, fun b hb hf => (k.block b (Nat.lt_of_lt_of_le hb h.size) hf).trans (h.block b hb hf)⟩
theorem Turns.below {F : Where} {w w' : World} (h : Below w.heap.size w w') : Turns F w w' := ⟨h.os, h.tape, h.output, h.size, fun b hb _ => h.block b hb⟩
theorem Turns.alloc (F : Where) (w : World) (o : Obj) : Turns F w (w.alloc o) := Turns.below ((Below.refl _ w).alloc (Nat.le_refl _) o)
theorem Turns.drew (F : Where) (w : World) : Turns F w w.drew := Turns.below (Below.refl _ w).drew
theorem Turns.grown {F : Where} {w w' : World} {row : Option Nat} (hg : w.grownBy w' row) (h : ∀ b, row = some b → F b) : Turns F w w' :=
  ⟨hg.os, hg.tape, hg.output, hg.size, fun b hb hf => hg.block b hb (fun e => hf (h b e.symm))⟩
theorem Turns.set {F : Where} {w : World} {p : Addr} (h : F p.block) (v : Value) : Turns F w (w.setCell p v) := by
  have := (Below.refl 0 w).setCell (p := p) (Nat.zero_le _) v
  exact ⟨this.os, this.tape, this.output, this.size, fun b _ hf => Below.heap_setCell w p v b (fun e => hf (e ▸ h))⟩
theorem Turns.map {F : Where} {w w' : World} {b : Nat} (h : w.mapTurned w' b) (hb : F b) : Turns F w w' := Turns.grown h.grown (fun k e => by cases e; exact hb)
theorem Turns.behind {w0 w w' : World} (h : Below w0.heap.size w0 w) (k : Turns (Fresh w0) w w') : Below w0.heap.size w0 w' :=
  ⟨k.os.trans h.os, k.tape.trans h.tape, k.output.trans h.output, Nat.le_trans h.size k.size, fun b hb => (k.block b (Nat.lt_of_lt_of_le hb h.size) (Fresh.not hb)).trans (h.block b hb)⟩
theorem Turns.weak {F G : Where} {w w' : World} (h : Turns F w w') (k : ∀ b, b < w.heap.size → F b → G b) : Turns G w w' :=
  ⟨h.os, h.tape, h.output, h.size, fun b hb hg => h.block b hb (fun hf => hg (k b hb hf))⟩
theorem Turns.kept {F A : Where} {w w' : World} (h : Turns F w w') (k : ∀ b, A b → b < w.heap.size → ¬ F b) : Kept A w w' := ⟨h.size, fun b ha hb => h.block b hb (k b ha hb)⟩
end Go.Proofs.YtmnldngojgldiaaGreat
