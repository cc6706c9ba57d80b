/- Layer 10 in plain words: which volume a claim gets, a pod's plan; and what follows (10.4, 10.7). Plain mathematics. No condition. The document's claim, volume, waits of layer 10: where one stands. Condition: the state lies as is said of it. The document's Check and Free of layer 10. Condition: the state lies as is said of it. Further structs of the program as plain data, and how each lies in cells. No program. No condition. The document's best of layer 10: which volume a claim gets. Condition: the arguments lie as is said of them. -/
import Derived.Test.YtgofpmcoffgffaaQ12
import Derived.Test.YtgofpmcoffgffaaQ05
import Derived.Test.YtgofpmcoffgffaaQ06
import Derived.BigQuiet
import Derived.Deep.QuietTactic
import Derived.Test.YtgofpmcoffgffaaQ03
import Derived.Test.YtgofpmcoffgffaaQ13
namespace Go.Proofs.Ytgofpmcoffgffaa
set_option linter.unusedSimpArgs false

def waitsP (l : List ClassD) (cl : ByteArray) : Bool := match l.find? (fun k => sEq k.1 cl) with | some k => k.2 | none => false
/-- May the claim get that volume, on a node with those labels? -/
def fitV (c : ClaimD) (NL : List Lab) (picked : List ByteArray) (v : VolumeD) : Bool := sEq (vCl v) B0 && (!hasB sEq picked v.1 && (sEq v.2.2.1 c.2.2.1 && (!decide (v.2.1 < c.2.1) && matchL NL (vRq v))))
def lessV (v w : VolumeD) : Bool := decide (v.2.1 < w.2.1) || (v.2.1 == w.2.1 && sLt v.1 w.1)
/-- The best one of the first k that fit. -/
def bestF (fit : VolumeD → Bool) (V : List VolumeD) : Nat → Option Nat
  | 0 => none
  | k + 1 => if fit (V.getD k default) = true then (match bestF fit V k with | none => some k | some b => if lessV (V.getD k default) (V.getD b default) = true then some k else some b) else bestF fit V k
def bestP (c : ClaimD) (NL : List Lab) (V : List VolumeD) (picked : List ByteArray) : Option Nat := bestF (fitV c NL picked) V V.length
theorem best_some {fit : VolumeD → Bool} {V : List VolumeD} : ∀ {k b : Nat}, bestF fit V k = some b → b < k ∧ fit (V.getD b default) = true
  | 0, b, h => by cases h
  | k + 1, b, h => by
    unfold bestF at h
    split at h
    · rename_i hf
      cases e : bestF fit V k with
      | none => rw [e] at h; injection h with h; subst h; exact ⟨Nat.lt_succ_self _, hf⟩
      | some a =>
        rw [e] at h
        simp only at h
        obtain ⟨h1, h2⟩ := best_some e
        split at h
        · injection h with h; subst h; exact ⟨Nat.lt_succ_self _, hf⟩
        · injection h with h; subst h; exact ⟨by omega, h2⟩
    · obtain ⟨h1, h2⟩ := best_some h
      exact ⟨by omega, h2⟩
theorem best_none {fit : VolumeD → Bool} {V : List VolumeD} : ∀ {k : Nat}, bestF fit V k = none → ∀ j, j < k → fit (V.getD j default) = false
  | 0, _, j, hj => absurd hj (Nat.not_lt_zero _)
  | k + 1, h, j, hj => by
    unfold bestF at h
    split at h
    · cases e : bestF fit V k with
      | none => rw [e] at h; cases h
      | some a =>
        rw [e] at h
        simp only at h
        split at h <;> cases h
    · rename_i hf
      rcases Nat.lt_succ_iff_lt_or_eq.1 hj with h1 | rfl
      · exact best_none h j h1
      · simpa using hf
/-- What a claim of that name gets, or has; or why not. -/
def stepP (st : VC) (K : List ClassD) (NL : List Lab) (picked : List ByteArray) (nm : ByteArray) : Except Int (Option PickD) :=
  match fI (cNs st.2) nm with
  | none => .error 13
  | some k =>
    if sEq (cVo (st.2.getD k default)) B0 = true then
      if waitsP K (st.2.getD k default).2.2.1 = true then
        match bestP (st.2.getD k default) NL st.1 picked with
        | none => .error 14
        | some j => .ok (some ((st.2.getD k default).1, (st.1.getD j default).1))
      else .error 13
    else
      match fI (vNs st.1) (cVo (st.2.getD k default)) with
      | none => .error 13
      | some j => if sEq (vCl (st.1.getD j default)) (st.2.getD k default).1 = true then (if matchL NL (vRq (st.1.getD j default)) = true then .ok none else .error 14) else .error 13
def planL (st : VC) (K : List ClassD) (NL : List Lab) : List ByteArray → List PickD → Except Int (List PickD)
  | [], out => .ok out
  | nm :: r, out => match stepP st K NL (out.map Prod.snd) nm with
    | .error e => .error e
    | .ok none => planL st K NL r out
    | .ok (some pk) => planL st K NL r (out ++ [pk])
theorem step_err {st : VC} {K : List ClassD} {NL : List Lab} {picked : List ByteArray} {nm : ByteArray} {e : Int} (h : stepP st K NL picked nm = .error e) : e = 13 ∨ e = 14 := by
  unfold stepP at h
  split at h
  · injection h with h; exact .inl h.symm
  · split at h
    · split at h
      · split at h
        · injection h with h; exact .inr h.symm
        · cases h
      · injection h with h; exact .inl h.symm
    · split at h
      · injection h with h; exact .inl h.symm
      · split at h
        · split at h
          · cases h
          · injection h with h; exact .inr h.symm
        · injection h with h; exact .inl h.symm
theorem plan_err {st : VC} {K : List ClassD} {NL : List Lab} : ∀ {claims : List ByteArray} {out : List PickD} {e : Int}, planL st K NL claims out = .error e → e = 13 ∨ e = 14
  | [], _, _, h => by cases h
  | nm :: r, out, e, h => by
    unfold planL at h
    split at h
    · rename_i hs
      injection h with h
      subst h
      exact step_err hs
    · exact plan_err h
    · exact plan_err h
/-- Are the claims in use, with the pod's, more than the node's disks? -/
def disksP (disks claims : List ByteArray) (d : Int) : Bool := decide (d < ((sortB sLt sEq (disks ++ claims)).length : Int))
def planP (st : VC) (K : List ClassD) (NL : List Lab) (claims disks : List ByteArray) (d : Int) : List PickD × Int :=
  match planL st K NL claims [] with
  | .error e => ([], e)
  | .ok out => if disksP disks claims d = true then ([], 15) else (out, 0)
/-- A claim of that name has a volume that is its own, and that those labels meet. -/
def MeetsAt (t : VC) (NL : List Lab) (nm : ByteArray) : Prop := ∃ c v, fI (cNs t.2) nm = some c ∧ cVo (t.2.getD c default) ≠ B0 ∧ fI (vNs t.1) (cVo (t.2.getD c default)) = some v ∧ vCl (t.1.getD v default) = (t.2.getD c default).1 ∧ matchL NL (vRq (t.1.getD v default)) = true
theorem meets_step {t : VC} {K : List ClassD} {NL : List Lab} {picked : List ByteArray} {nm : ByteArray} (h : MeetsAt t NL nm) : stepP t K NL picked nm = .ok none := by
  obtain ⟨c, v, h1, h2, h3, h4, h5⟩ := h
  unfold stepP
  rw [h1]
  simp only
  rw [if_neg (by rw [Bool.not_eq_true, sEq_ne9]; exact h2), h3]
  simp only
  rw [if_pos ((sEq_iff _ _).2 h4), if_pos h5]
theorem meets_all {t : VC} {K : List ClassD} {NL : List Lab} (out : List PickD) : ∀ {claims : List ByteArray}, (∀ nm ∈ claims, MeetsAt t NL nm) → planL t K NL claims out = .ok out
  | [], _ => rfl
  | nm :: r, h => by
    unfold planL
    rw [meets_step (h nm List.mem_cons_self)]
    exact meets_all out (fun x hx => h x (List.mem_cons_of_mem _ hx))
theorem apply_snoc : ∀ (l : List PickD) (st : VC) (pk : PickD), applyP st (l ++ [pk]) = match applyP st l with | .ok t => stepA t pk | .error e => .error e
  | [], st, pk => by
    show applyP st [pk] = stepA st pk
    unfold applyP
    cases e : stepA st pk <;> rfl
  | x :: l, st, pk => by
    rw [List.cons_append]
    unfold applyP
    cases e : stepA st x with
    | error y => rfl
    | ok st1 => exact apply_snoc l st1 pk
/-- As far as the plan has come. -/
structure PlI (st : VC) (NL : List Lab) (P : List ByteArray) (out : List PickD) (t : VC) : Prop where
  ap : applyP st out = .ok t
  nv : vNs t.1 = vNs st.1
  nc : cNs t.2 = cNs st.2
  kv : ∀ j, j < st.1.length → (st.1.getD j default).1 ∉ out.map Prod.snd → t.1.getD j default = st.1.getD j default
  kc : ∀ c, c < st.2.length → (st.2.getD c default).1 ∉ out.map Prod.fst → t.2.getD c default = st.2.getD c default
  sub : ∀ x ∈ out.map Prod.fst, x ∈ P
  fr : ∀ j, j < st.1.length → (st.1.getD j default).1 ∈ out.map Prod.snd → vCl (st.1.getD j default) = B0
  me : ∀ nm ∈ P, MeetsAt t NL nm
theorem len_of_names {α : Type} {f : α → ByteArray} {l m : List α} (h : l.map f = m.map f) : l.length = m.length := by
  have := congrArg List.length h
  simpa using this
theorem plan_meets {st : VC} {K : List ClassD} {NL : List Lab} (ho : OnceP st) : ∀ (claims P : List ByteArray) {out l : List PickD} {t : VC}, PlI st NL P out t → (P ++ claims).Nodup → planL st K NL claims out = .ok l → ∃ t', PlI st NL (P ++ claims) l t'
  | [], P, out, l, t, hi, _, h => by
    unfold planL at h
    injection h with h
    subst h
    exact ⟨t, by rw [List.append_nil]; exact hi⟩
  | nm :: r, P, out, l, t, hi, hn, h => by
    have hnm : nm ∉ P := fun hm => by
      have := (List.nodup_append.1 hn).2.2 nm hm nm List.mem_cons_self
      exact this rfl
    have hn' : ((P ++ [nm]) ++ r).Nodup := by simpa using hn
    have hl1 := len_of_names hi.nv
    have hl2 := len_of_names hi.nc
    unfold planL at h
    cases hs : stepP st K NL (out.map Prod.snd) nm with
    | error e => rw [hs] at h; cases h
    | ok o =>
      rw [hs] at h
      unfold stepP at hs
      cases hf : fI (cNs st.2) nm with
      | none => rw [hf] at hs; cases hs
      | some k =>
        rw [hf] at hs
        simp only at hs
        obtain ⟨k1', k2, _⟩ := fI_some hf
        have k1 := k1'
        rw [List.length_map] at k1
        rw [map_getD9 _ k1] at k2
        have nk : (st.2.getD k default).1 ≠ B0 := by have := ne_of_nmem ho.2.1 k1'; rwa [map_getD9 _ k1] at this
        have hko : (st.2.getD k default).1 ∉ out.map Prod.fst := fun hm => hnm (k2 ▸ hi.sub _ hm)
        have etk := hi.kc k k1 hko
        by_cases hv : sEq (cVo (st.2.getD k default)) B0 = true
        · rw [if_pos hv] at hs
          split at hs
          · cases hb : bestP (st.2.getD k default) NL st.1 (out.map Prod.snd) with
            | none => rw [hb] at hs; cases hs
            | some j =>
              rw [hb] at hs
              simp only at hs
              injection hs with hs
              subst hs
              simp only at h
              obtain ⟨j1, hfit⟩ := best_some hb
              unfold fitV at hfit
              simp only [Bool.and_eq_true, Bool.not_eq_true', sEq_iff, decide_eq_false_iff_not] at hfit
              obtain ⟨f1, f2, f3, f4, f5⟩ := hfit
              have hjo : (st.1.getD j default).1 ∉ out.map Prod.snd := fun hm => by
                have : hasB sEq (out.map Prod.snd) (st.1.getD j default).1 = true := by
                  unfold hasB
                  rw [List.any_eq_true]
                  exact ⟨_, hm, (sEq_iff _ _).2 rfl⟩
                rw [this] at f2
                cases f2
              have etj := hi.kv j j1 hjo
              have hfj : fI (vNs st.1) (st.1.getD j default).1 = some j := by
                have := fI_once ho.2.2.1 (i := j) (by rw [List.length_map]; exact j1)
                rwa [map_getD9 _ j1] at this
              have nj : (st.1.getD j default).1 ≠ B0 := by have := ne_of_nmem ho.2.2.2 (i := j) (by rw [List.length_map]; exact j1); rwa [map_getD9 _ j1] at this
              have hstep : stepA t ((st.2.getD k default).1, (st.1.getD j default).1) = .ok (takeA t k j) := by
                unfold stepA
                simp only
                rw [hi.nc, hi.nv, k2, hf, hfj]
                simp only
                rw [etk, etj, if_pos (okA_iff.2 ⟨(sEq_iff _ _).1 hv, f1, f3, by omega⟩)]
              have tk1 : k < t.2.length := by omega
              have tj1 : j < t.1.length := by omega
              obtain ⟨n1, n2⟩ := takeA_names tk1 tj1
              have ec : ∀ i, (takeA t k j).2.getD i default = if k = i then setVo (st.2.getD k default) (st.1.getD j default).1 else t.2.getD i default := fun i => by unfold takeA; rw [getD_set9 _ _ _ _ tk1, etk, etj]
              have ev : ∀ i, (takeA t k j).1.getD i default = if j = i then setCl (st.1.getD j default) (st.2.getD k default).1 else t.1.getD i default := fun i => by unfold takeA; rw [getD_set9 _ _ _ _ tj1, etk, etj]
              refine plan_meets ho r (P ++ [nm]) (out := out ++ [((st.2.getD k default).1, (st.1.getD j default).1)]) (t := takeA t k j) ?_ hn' h |>.imp (fun t' ht' => by simpa using ht')
              refine ⟨by rw [apply_snoc, hi.ap]; exact hstep, n1.trans hi.nv, n2.trans hi.nc, fun i hi1 hx => ?_, fun i hi1 hx => ?_, fun x hx => ?_, fun i hi1 hx => ?_, fun x hx => ?_⟩
              · rw [List.map_append, List.mem_append, not_or] at hx
                rw [ev i, if_neg (fun e => hx.2 (by subst e; simp))]
                exact hi.kv i hi1 hx.1
              · rw [List.map_append, List.mem_append, not_or] at hx
                rw [ec i, if_neg (fun e => hx.2 (by subst e; simp))]
                exact hi.kc i hi1 hx.1
              · rw [List.map_append, List.mem_append] at hx
                rw [List.mem_append]
                rcases hx with hx | hx
                · exact .inl (hi.sub x hx)
                · right; simp at hx ⊢; rw [hx]; exact k2
              · rw [List.map_append, List.mem_append] at hx
                rcases hx with hx | hx
                · exact hi.fr i hi1 hx
                · have e : (st.1.getD i default).1 = (st.1.getD j default).1 := by simpa using hx
                  have hfi := fI_once ho.2.2.1 (i := i) (by rw [List.length_map]; exact hi1)
                  rw [map_getD9 _ hi1, e, hfj] at hfi
                  injection hfi with hfi
                  subst hfi
                  exact f1
              · rcases List.mem_append.1 hx with hx | hx
                · obtain ⟨c, v, m1, m2, m3, m4, m5⟩ := hi.me x hx
                  have hck : k ≠ c := fun e => by
                    subst e
                    rw [etk] at m2
                    exact m2 ((sEq_iff _ _).1 hv)
                  have hc1 := (fI_some m1).1
                  have nc1 : (t.2.getD c default).1 ≠ B0 := by
                    have h1 := ne_of_nmem (l := cNs t.2) (by rw [hi.nc]; exact ho.2.1) hc1
                    rw [List.length_map] at hc1
                    rwa [map_getD9 _ hc1] at h1
                  have hvj : j ≠ v := fun e => by
                    subst e
                    rw [etj, f1] at m4
                    exact nc1 m4.symm
                  refine ⟨c, v, by rw [n2]; exact m1, ?_⟩
                  rw [ec c, if_neg hck, n1, ev v, if_neg hvj]
                  exact ⟨m2, m3, m4, m5⟩
                · have hx' : x = nm := by simpa using hx
                  subst hx'
                  refine ⟨k, j, by rw [n2, hi.nc]; exact hf, ?_⟩
                  rw [ec k, if_pos rfl, n1, hi.nv, ev j, if_pos rfl]
                  exact ⟨nj, hfj, rfl, f5⟩
          · cases hs
        · rw [if_neg hv] at hs
          cases hfv : fI (vNs st.1) (cVo (st.2.getD k default)) with
          | none => rw [hfv] at hs; cases hs
          | some j =>
            rw [hfv] at hs
            simp only at hs
            split at hs
            · rename_i hcl
              split at hs
              · rename_i hmt
                injection hs with hs
                subst hs
                simp only at h
                obtain ⟨j1, _, _⟩ := fI_some hfv
                rw [List.length_map] at j1
                have hcl' := (sEq_iff _ _).1 hcl
                have hjo : (st.1.getD j default).1 ∉ out.map Prod.snd := fun hm => nk (by rw [← hcl']; exact hi.fr j j1 hm)
                have etj := hi.kv j j1 hjo
                refine plan_meets ho r (P ++ [nm]) (out := out) (t := t) ?_ hn' h |>.imp (fun t' ht' => by simpa using ht')
                refine ⟨hi.ap, hi.nv, hi.nc, hi.kv, hi.kc, fun x hx => List.mem_append.2 (.inl (hi.sub x hx)), hi.fr, fun x hx => ?_⟩
                rcases List.mem_append.1 hx with hx | hx
                · exact hi.me x hx
                · have hx' : x = nm := by simpa using hx
                  subst hx'
                  refine ⟨k, j, by rw [hi.nc]; exact hf, ?_⟩
                  rw [etk, hi.nv, etj]
                  exact ⟨fun e => hv ((sEq_iff _ _).2 e), hfv, hcl', hmt⟩
              · cases hs
            · cases hs
/-- 10.4. -/
theorem meets_plain {st : VC} {K : List ClassD} {NL : List Lab} {claims : List ByteArray} {l : List PickD} (ho : OnceP st) (hn : claims.Nodup) (h : planL st K NL claims [] = .ok l) :
    ∃ t, applyP st l = .ok t ∧ OnceP t ∧ (∀ nm ∈ claims, MeetsAt t NL nm) ∧ planL t K NL claims [] = .ok [] := by
  obtain ⟨t, hi⟩ := plan_meets ho claims [] (out := []) (t := st) ⟨rfl, rfl, rfl, fun _ _ _ => rfl, fun _ _ _ => rfl, fun _ h => (by cases h), fun _ _ h => (by cases h), fun _ h => (by cases h)⟩ (by simpa using hn) h
  have hm : ∀ nm ∈ claims, MeetsAt t NL nm := fun nm hx => hi.me nm (by simpa using hx)
  refine ⟨t, hi.ap, ?_, hm, meets_all [] hm⟩
  unfold OnceP
  rw [hi.nv, hi.nc]
  exact ho
theorem getD_app9 {α : Type} [Inhabited α] (l m : List α) {i : Nat} (h : i < l.length) : (l ++ m).getD i default = l.getD i default := by
  rw [List.getD_eq_getElem?_getD, List.getD_eq_getElem?_getD, List.getElem?_append_left h]
theorem fI_app {l m : List ByteArray} {nm : ByteArray} {i : Nat} (h : fI l nm = some i) : fI (l ++ m) nm = some i := by
  obtain ⟨h1, h2, h3⟩ := fI_some h
  refine fI_of (by rw [List.length_append]; omega) (by rw [getD_app9 _ _ h1]; exact h2) (fun j hj => ?_)
  rw [getD_app9 _ _ (by omega)]
  exact h3 j hj
/-- 10.7, a claim. -/
theorem more_step {V : List VolumeD} {C : List ClaimD} {K : List ClassD} {NL : List Lab} {picked : List ByteArray} {nm : ByteArray} {o : Option PickD} (v : VolumeD) (h : stepP (V, C) K NL picked nm = .ok o) : ∃ o', stepP (V ++ [v], C) K NL picked nm = .ok o' := by
  unfold stepP at h ⊢
  cases hf : fI (cNs C) nm with
  | none => simp only [hf] at h; cases h
  | some k =>
    simp only [hf] at h ⊢
    by_cases hv : sEq (cVo (C.getD k default)) B0 = true
    · rw [if_pos hv] at h ⊢
      split at h
      · rename_i hw
        rw [if_pos hw]
        cases hb : bestP (C.getD k default) NL V picked with
        | none => rw [hb] at h; cases h
        | some j =>
          obtain ⟨j1, j2⟩ := best_some hb
          cases hb' : bestP (C.getD k default) NL (V ++ [v]) picked with
          | none =>
            have := best_none hb' j (by rw [List.length_append]; omega)
            rw [getD_app9 _ _ j1, j2] at this
            cases this
          | some j' => exact ⟨_, rfl⟩
      · cases h
    · rw [if_neg hv] at h ⊢
      cases hfv : fI (vNs V) (cVo (C.getD k default)) with
      | none => rw [hfv] at h; cases h
      | some j =>
        have j1 := (fI_some hfv).1
        rw [List.length_map] at j1
        rw [hfv] at h
        have e : fI (vNs (V ++ [v])) (cVo (C.getD k default)) = some j := by
          show fI ((V ++ [v]).map Prod.fst) _ = _
          rw [List.map_append]
          exact fI_app hfv
        rw [e]
        simp only at h ⊢
        rw [getD_app9 _ _ j1]
        exact ⟨o, h⟩
/-- 10.7. -/
theorem more_plain {V : List VolumeD} {C : List ClaimD} {K : List ClassD} {NL : List Lab} {claims disks : List ByteArray} {d : Int} (v : VolumeD) (hl : claims.length ≤ 1) (h : (planP (V, C) K NL claims disks d).2 = 0) : (planP (V ++ [v], C) K NL claims disks d).2 = 0 := by
  have key : ∀ {l}, planL (V, C) K NL claims [] = .ok l → ∃ l', planL (V ++ [v], C) K NL claims [] = .ok l' := by
    intro l h
    match claims, hl, h with
    | [], _, _ => exact ⟨_, rfl⟩
    | [nm], _, h =>
      unfold planL at h ⊢
      cases hs : stepP (V, C) K NL (([] : List PickD).map Prod.snd) nm with
      | error e => rw [hs] at h; cases h
      | ok o =>
        obtain ⟨o', ho'⟩ := more_step v hs
        rw [ho']
        cases o' <;> exact ⟨_, rfl⟩
  unfold planP at h ⊢
  cases hp : planL (V, C) K NL claims [] with
  | error e =>
    rw [hp] at h
    simp only at h
    exfalso
    have := plan_err hp
    omega
  | ok l =>
    obtain ⟨l', hl'⟩ := key hp
    rw [hp] at h
    rw [hl']
    simp only at h ⊢
    split
    · rename_i hd
      rw [if_pos hd] at h
      cases h
    · rfl
end Go.Proofs.Ytgofpmcoffgffaa
namespace Go.Proofs.Ytgofpmcoffgffaa
open Go.RowKit
set_option linter.unusedSimpArgs false
set_option maxRecDepth 100000

/-- Where it stands, as a number; -1: nowhere. -/
def idxI : Option Nat → Int
  | none => -1
  | some i => (i : Int)
theorem fI_not {l : List ByteArray} {nm : ByteArray} (h : ∀ j, j < l.length → l.getD j default ≠ nm) : fI l nm = none := by
  cases e : fI l nm with
  | none => rfl
  | some i => obtain ⟨h1, h2, _⟩ := fI_some e; exact absurd h2 (h i h1)
abbrev sVs (x : StateD) : List VolumeD := x.2.2.1
abbrev sCs (x : StateD) : List ClaimD := x.2.2.2.1
abbrev sKs (x : StateD) : List ClassD := x.2.2.2.2.1
theorem map_len9 {α : Type} (f : α → ByteArray) (l : List α) : (l.map f).length = l.length := List.length_map ..
theorem waits_at {L : List ClassD} {cl : ByteArray} {i : Nat} (hi : i < L.length) (h2 : sEq (L.getD i default).1 cl = true) (h3 : ∀ j, j < i → sEq (L.getD j default).1 cl = false) : waitsP L cl = (L.getD i default).2 := by
  unfold waitsP
  have e : L.find? (fun k => sEq k.1 cl) = some (L.getD i default) := by
    rw [List.find?_eq_some_iff_getElem]
    refine ⟨h2, i, hi, ?_, fun j hj => ?_⟩
    · rw [List.getD_eq_getElem?_getD, List.getElem?_eq_getElem hi]; rfl
    · have := h3 j hj
      rw [List.getD_eq_getElem?_getD, List.getElem?_eq_getElem (by omega)] at this
      simpa using this
  rw [e]
theorem waits_not {L : List ClassD} {cl : ByteArray} (h3 : ∀ j, j < L.length → sEq (L.getD j default).1 cl = false) : waitsP L cl = false := by
  unfold waitsP
  have e : L.find? (fun k => sEq k.1 cl) = none := by
    rw [List.find?_eq_none]
    intro k hk
    obtain ⟨i, hi, rfl⟩ := List.getElem_of_mem hk
    have := h3 i hi
    rw [List.getD_eq_getElem?_getD, List.getElem?_eq_getElem hi] at this
    simpa using this
  rw [e]
end Go.Proofs.Ytgofpmcoffgffaa
namespace Go.Proofs.Ytgofpmcoffgffaa
open Go.RowKit
set_option linter.unusedSimpArgs false
set_option maxRecDepth 100000

theorem filter_take9 {α : Type} [Inhabited α] (f : α → Bool) {L : List α} {k : Nat} (h : k < L.length) : ((L.take (k + 1)).filter f).length = ((L.take k).filter f).length + (if f (L.getD k default) = true then 1 else 0) := by
  rw [List.take_succ_eq_append_getElem h, List.filter_append, List.length_append, List.getD_eq_getElem?_getD, List.getElem?_eq_getElem h]
  simp only [Option.getD_some]
  generalize L[k] = y
  congr 1
  simp only [List.filter_cons, List.filter_nil]
  split <;> rfl
theorem below_drewN9 (u : World) (n : Nat) : Below u.heap.size u (u.drewN n) := ⟨rfl, rfl, rfl, Nat.le_refl _, fun _ _ => rfl⟩
theorem isE9 (a : ByteArray) : a.toList.isEmpty = sEq a B0 := by
  unfold sEq
  rw [show (B0 : ByteArray).toList = [] by rw [ByteArray.toList_eq]]
  cases a.toList <;> rfl
/-- A state's box: its six lists. -/
def StC (D : Nat) (a0 a1 a2 a3 a4 a5 : Option Addr) (n0 n1 n2 n3 n4 n5 m0 m1 m2 m3 m4 m5 : Nat) (u : World) : Prop :=
  u.cell? ⟨D, 0, none⟩ = some (.slice a0 n0 m0) ∧ u.cell? ⟨D, 1, none⟩ = some (.slice a1 n1 m1) ∧ u.cell? ⟨D, 2, none⟩ = some (.slice a2 n2 m2) ∧ u.cell? ⟨D, 3, none⟩ = some (.slice a3 n3 m3) ∧ u.cell? ⟨D, 4, none⟩ = some (.slice a4 n4 m4) ∧ u.cell? ⟨D, 5, none⟩ = some (.slice a5 n5 m5)
theorem StC.of {D : Nat} {a0 a1 a2 a3 a4 a5 : Option Addr} {n0 n1 n2 n3 n4 n5 m0 m1 m2 m3 m4 m5 : Nat} {u : World} (h : BoxL u D [.slice a0 n0 m0, .slice a1 n1 m1, .slice a2 n2 m2, .slice a3 n3 m3, .slice a4 n4 m4, .slice a5 n5 m5]) : StC D a0 a1 a2 a3 a4 a5 n0 n1 n2 n3 n4 n5 m0 m1 m2 m3 m4 m5 u :=
  ⟨(h.2 0 _ rfl).1, (h.2 1 _ rfl).1, (h.2 2 _ rfl).1, (h.2 3 _ rfl).1, (h.2 4 _ rfl).1, (h.2 5 _ rfl).1⟩
theorem RClaim.four {A : Where} {w : World} {cs : List Value} {c : ClaimD} (h : RClaim A w cs c) : cs[0]? = some (.string c.1) ∧ cs[1]? = some (.int .i64 c.2.1) ∧ cs[2]? = some (.string c.2.2.1) ∧ cs[3]? = some (.string (cVo c)) := by
  obtain ⟨rfl, _⟩ := h.out
  exact ⟨rfl, rfl, rfl, rfl⟩
theorem RVolume.five {A : Where} {w : World} {cs : List Value} {v : VolumeD} (h : RVolume A w cs v) : cs[0]? = some (.string v.1) ∧ cs[1]? = some (.int .i64 v.2.1) ∧ cs[2]? = some (.string v.2.2.1) ∧ cs[4]? = some (.string (vCl v)) := by
  obtain ⟨_, rfl, _⟩ := h.out
  exact ⟨rfl, rfl, rfl, rfl⟩
abbrev stVC (x : StateD) : VC := (sVs x, sCs x)
end Go.Proofs.Ytgofpmcoffgffaa
namespace Go.Proofs.Ytgofpmcoffgffaa
open Go.RowKit
set_option linter.unusedSimpArgs false


abbrev InfoD := NodeD × List ByteArray × ResD × List Int × List ByteArray
def RInfo : Rep InfoD := RPair RNode (RPair (RSl RStr 1 16) (RPair RRes (RPair (RSl RInt 1 8) (RSl RStr 1 16))))
theorem RInfo.firm : Firm RInfo 15 := Firm.pair RNode.firm (Firm.pair (RSl.firm RStr.firm) (Firm.pair RRes.firm (Firm.pair (RSl.firm RInt.firm) ((RSl.firm RStr.firm)))))
theorem RInfo.out {A : Where} {w : World} {cs : List Value} {x : InfoD} (h : RInfo A w cs x) : ∃ h1 h2 h9 h13 h14 : Hd, cs = [.string x.1.1, .slice h1.1 h1.2.1 h1.2.2, .slice h2.1 h2.2.1 h2.2.2, .bool x.1.2.2.2.1, .int .i64 x.1.2.2.2.2.1.1, .int .i64 x.1.2.2.2.2.1.2.1, .int .i64 x.1.2.2.2.2.1.2.2, .int .i64 x.1.2.2.2.2.2.1, .int .i64 x.1.2.2.2.2.2.2, .slice h9.1 h9.2.1 h9.2.2, .int .i64 x.2.2.1.1, .int .i64 x.2.2.1.2.1, .int .i64 x.2.2.1.2.2, .slice h13.1 h13.2.1 h13.2.2, .slice h14.1 h14.2.1 h14.2.2] ∧ x.1.1.size ≤ 140737488355328 ∧ SlAt RLabel 2 32 A w h1.1 h1.2.1 h1.2.2 x.1.2.1 ∧ SlAt RTaint 3 40 A w h2.1 h2.2.1 h2.2.2 x.1.2.2.1 ∧ SlAt RStr 1 16 A w h9.1 h9.2.1 h9.2.2 x.2.1 ∧ SlAt RInt 1 8 A w h13.1 h13.2.1 h13.2.2 x.2.2.2.1 ∧ SlAt RStr 1 16 A w h14.1 h14.2.1 h14.2.2 x.2.2.2.2 := by
  obtain ⟨l_0, r_0, q_0, f_0, g_0⟩ := h
  obtain ⟨l_0_0, r_0_0, q_0_0, f_0_0, g_0_0⟩ := f_0
  obtain ⟨e_0_0, s_0_0⟩ := f_0_0
  obtain ⟨l_0_1, r_0_1, q_0_1, f_0_1, g_0_1⟩ := g_0_0
  obtain ⟨a_0_1, n_0_1, c_0_1, e_0_1, s_0_1⟩ := f_0_1
  obtain ⟨l_0_2, r_0_2, q_0_2, f_0_2, g_0_2⟩ := g_0_1
  obtain ⟨a_0_2, n_0_2, c_0_2, e_0_2, s_0_2⟩ := f_0_2
  obtain ⟨l_0_3, r_0_3, q_0_3, f_0_3, g_0_3⟩ := g_0_2
  have e_0_3 := f_0_3
  obtain ⟨l_0_4, r_0_4, q_0_4, f_0_4, g_0_4⟩ := g_0_3
  obtain ⟨l_0_4_0, r_0_4_0, q_0_4_0, f_0_4_0, g_0_4_0⟩ := f_0_4
  have e_0_4_0 := f_0_4_0
  obtain ⟨l_0_4_1, r_0_4_1, q_0_4_1, f_0_4_1, g_0_4_1⟩ := g_0_4_0
  have e_0_4_1 := f_0_4_1
  have e_0_4_2 := g_0_4_1
  obtain ⟨l_0_5, r_0_5, q_0_5, f_0_5, g_0_5⟩ := g_0_4
  have e_0_5 := f_0_5
  have e_0_6 := g_0_5
  obtain ⟨l_1, r_1, q_1, f_1, g_1⟩ := g_0
  obtain ⟨a_1, n_1, c_1, e_1, s_1⟩ := f_1
  obtain ⟨l_2, r_2, q_2, f_2, g_2⟩ := g_1
  obtain ⟨l_2_0, r_2_0, q_2_0, f_2_0, g_2_0⟩ := f_2
  have e_2_0 := f_2_0
  obtain ⟨l_2_1, r_2_1, q_2_1, f_2_1, g_2_1⟩ := g_2_0
  have e_2_1 := f_2_1
  have e_2_2 := g_2_1
  obtain ⟨l_3, r_3, q_3, f_3, g_3⟩ := g_2
  obtain ⟨a_3, n_3, c_3, e_3, s_3⟩ := f_3
  obtain ⟨a_4, n_4, c_4, e_4, s_4⟩ := g_3
  exact ⟨(a_0_1, n_0_1, c_0_1), (a_0_2, n_0_2, c_0_2), (a_1, n_1, c_1), (a_3, n_3, c_3), (a_4, n_4, c_4), by rw [q_0, q_0_0, e_0_0, q_0_1, e_0_1, q_0_2, e_0_2, q_0_3, e_0_3, q_0_4, q_0_4_0, e_0_4_0, q_0_4_1, e_0_4_1, e_0_4_2, q_0_5, e_0_5, e_0_6, q_1, e_1, q_2, q_2_0, e_2_0, q_2_1, e_2_1, e_2_2, q_3, e_3, e_4]; rfl, s_0_0, s_0_1, s_0_2, s_1, s_3, s_4⟩
theorem RInfo.mk {A : Where} {w : World} {x : InfoD} {h1 h2 h9 h13 h14 : Hd} (p0 : x.1.1.size ≤ 140737488355328) (p1 : SlAt RLabel 2 32 A w h1.1 h1.2.1 h1.2.2 x.1.2.1) (p2 : SlAt RTaint 3 40 A w h2.1 h2.2.1 h2.2.2 x.1.2.2.1) (p3 : SlAt RStr 1 16 A w h9.1 h9.2.1 h9.2.2 x.2.1) (p4 : SlAt RInt 1 8 A w h13.1 h13.2.1 h13.2.2 x.2.2.2.1) (p5 : SlAt RStr 1 16 A w h14.1 h14.2.1 h14.2.2 x.2.2.2.2) : RInfo A w [.string x.1.1, .slice h1.1 h1.2.1 h1.2.2, .slice h2.1 h2.2.1 h2.2.2, .bool x.1.2.2.2.1, .int .i64 x.1.2.2.2.2.1.1, .int .i64 x.1.2.2.2.2.1.2.1, .int .i64 x.1.2.2.2.2.1.2.2, .int .i64 x.1.2.2.2.2.2.1, .int .i64 x.1.2.2.2.2.2.2, .slice h9.1 h9.2.1 h9.2.2, .int .i64 x.2.2.1.1, .int .i64 x.2.2.1.2.1, .int .i64 x.2.2.1.2.2, .slice h13.1 h13.2.1 h13.2.2, .slice h14.1 h14.2.1 h14.2.2] x :=
  ⟨_, _, rfl, ⟨_, _, rfl, ⟨rfl, p0⟩, ⟨_, _, rfl, ⟨h1.1, h1.2.1, h1.2.2, rfl, p1⟩, ⟨_, _, rfl, ⟨h2.1, h2.2.1, h2.2.2, rfl, p2⟩, ⟨_, _, rfl, rfl, ⟨_, _, rfl, ⟨_, _, rfl, rfl, ⟨_, _, rfl, rfl, rfl⟩⟩, ⟨_, _, rfl, rfl, rfl⟩⟩⟩⟩⟩⟩, ⟨_, _, rfl, ⟨h9.1, h9.2.1, h9.2.2, rfl, p3⟩, ⟨_, _, rfl, ⟨_, _, rfl, rfl, ⟨_, _, rfl, rfl, rfl⟩⟩, ⟨_, _, rfl, ⟨h13.1, h13.2.1, h13.2.2, rfl, p4⟩, ⟨h14.1, h14.2.1, h14.2.2, rfl, p5⟩⟩⟩⟩⟩
end Go.Proofs.Ytgofpmcoffgffaa
namespace Go.Proofs.Ytgofpmcoffgffaa
open Go.RowKit
set_option linter.unusedSimpArgs false
set_option maxRecDepth 100000

abbrev iLabs (i : InfoD) : List Lab := i.1.2.1
theorem RInfo.labs10 {A : Where} {w : World} {cs : List Value} {i : InfoD} (h : RInfo A w cs i) : ∃ h1 h14 : Hd, cs[1]? = some (.slice h1.1 h1.2.1 h1.2.2) ∧ cs[8]? = some (.int .i64 i.1.2.2.2.2.2.2) ∧ cs[14]? = some (.slice h14.1 h14.2.1 h14.2.2) ∧ SlAt RLabel 2 32 A w h1.1 h1.2.1 h1.2.2 (iLabs i) ∧ SlAt RStr 1 16 A w h14.1 h14.2.1 h14.2.2 i.2.2.2.2 := by
  obtain ⟨h1, h2, h9, h13, h14, rfl, _, s1, _, _, _, s14⟩ := h.out
  exact ⟨h1, h14, rfl, rfl, rfl, s1, s14⟩
theorem sizeVo10 : (Try.prog.info? 59).map (·.size) = some 5 := by kernel_rfl
theorem best_not {fit : VolumeD → Bool} {V : List VolumeD} {k : Nat} (h : fit (V.getD k default) = false) : bestF fit V (k + 1) = bestF fit V k := by
  show (if fit (V.getD k default) = true then _ else _) = _
  rw [h]; rfl
theorem best_new {fit : VolumeD → Bool} {V : List VolumeD} {k : Nat} (h : fit (V.getD k default) = true) (e : bestF fit V k = none) : bestF fit V (k + 1) = some k := by
  show (if fit (V.getD k default) = true then _ else _) = _
  rw [h, e]; rfl
theorem best_old {fit : VolumeD → Bool} {V : List VolumeD} {k b : Nat} (h : fit (V.getD k default) = true) (e : bestF fit V k = some b) : bestF fit V (k + 1) = if lessV (V.getD k default) (V.getD b default) = true then some k else some b := by
  show (if fit (V.getD k default) = true then _ else _) = _
  rw [h, e]; rfl
/-- What lies where behind the calls. -/
def BsS (D : Nat) (c : ClaimD) (l1 : Option Addr) (l2 l3 : Nat) (a2 : Option Addr) (n2 m2 : Nat) (u : World) : Prop :=
  u.cell? ⟨D, 1, none⟩ = some (.int .i64 c.2.1) ∧ u.cell? ⟨D, 2, none⟩ = some (.string c.2.2.1) ∧ u.cell? ⟨D + 1, 1, none⟩ = some (.slice l1 l2 l3) ∧ u.cell? ⟨D + 1 + 1, 2, none⟩ = some (.slice a2 n2 m2)
end Go.Proofs.Ytgofpmcoffgffaa
