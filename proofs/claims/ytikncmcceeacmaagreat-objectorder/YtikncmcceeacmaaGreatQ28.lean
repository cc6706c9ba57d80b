/- Puts of unlike objects commute; what is put is found, and taken out again, and its like. No condition beyond what each says. -/
import Derived.Deep.MidRow
import Derived.Test.YtikncmcceeacmaaGreatQ27
namespace Go.Proofs.YtikncmcceeacmaaGreat
set_option maxHeartbeats 16000000
set_option maxRecDepth 100000
open Tryz Go.RowKit
set_option linter.unusedSimpArgs false
set_option linter.unusedSectionVars false
theorem sLt_self (a : ByteArray) : sLt a a = false := by rw [sLt_false, cb_self]; omega
theorem sLt_ne {a b : ByteArray} (h : sLt a b = true) : a ≠ b := fun e => by rw [e, sLt_self] at h; cases h
section
variable {α : Type} [Inhabited α] {f : α → ByteArray} {L M : List α} {o : α}
theorem up_ext : ∀ {L M : List α}, Up f L → Up f M → (∀ x, x ∈ L ↔ x ∈ M) → L = M
 | [], [], _, _, _ => rfl
 | [], b :: M, _, _, h => absurd ((h b).2 (List.mem_cons_self)) List.not_mem_nil
 | a :: L, [], _, _, h => absurd ((h a).1 (List.mem_cons_self)) List.not_mem_nil
 | a :: L, b :: M, hL, hM, h => by
  obtain ⟨hL1, hL2⟩ := List.pairwise_cons.1 hL
  obtain ⟨hM1, hM2⟩ := List.pairwise_cons.1 hM
  have hab : a = b := by
   rcases List.mem_cons.1 ((h a).1 List.mem_cons_self) with e | e
   ·
    exact e
   ·
    rcases List.mem_cons.1 ((h b).2 List.mem_cons_self) with e' | e'
    ·
     exact e'.symm
    ·
     have := sLt_asymm (hM1 a e); rw [hL1 b e'] at this; cases this
  subst hab
  have := up_ext hL2 hM2 (fun x => ⟨fun hx => by
   rcases List.mem_cons.1 ((h x).1 (List.mem_cons_of_mem _ hx)) with e | e
   ·
    exact absurd (by rw [e]) (sLt_ne (hL1 x hx))
   ·
    exact e, fun hx => by
   rcases List.mem_cons.1 ((h x).2 (List.mem_cons_of_mem _ hx)) with e | e
   ·
    exact absurd (by rw [e]) (sLt_ne (hM1 x hx))
   ·
    exact e⟩)
  rw [this]
theorem mem_split {i : Nat} (hi : i < L.length) (x : α) : x ∈ L ↔ x ∈ L.take i ∨ x = L[i] ∨ x ∈ L.drop (i + 1) := by
 have e : L = L.take i ++ L[i] :: L.drop (i + 1) := by rw [← List.drop_eq_getElem_cons hi, List.take_append_drop]
 conv => lhs; rw [e]
 rw [List.mem_append, List.mem_cons]
theorem up_parts (h : Up f L) {i : Nat} (hi : i < L.length) : (∀ x ∈ L.take i, f x ≠ f L[i]) ∧ ∀ x ∈ L.drop (i + 1), f x ≠ f L[i] := by
 have e : L = L.take i ++ L[i] :: L.drop (i + 1) := by rw [← List.drop_eq_getElem_cons hi, List.take_append_drop]
 have h' : Up f (L.take i ++ L[i] :: L.drop (i + 1)) := by rw [← e]; exact h
 obtain ⟨_, h2, h3⟩ := List.pairwise_append.1 h'
 exact ⟨fun x hx => sLt_ne (h3 x hx _ List.mem_cons_self), fun x hx => (sLt_ne ((List.pairwise_cons.1 h2).1 x hx)).symm⟩
theorem idx_lt {s : ByteArray} : L.findIdx (fun x => sEq (f x) s) < L.length ↔ ∃ x ∈ L, f x = s := by
 rw [List.findIdx_lt_length]
 exact ⟨fun ⟨x, h1, h2⟩ => ⟨x, h1, (sEq_iff _ _).1 h2⟩, fun ⟨x, h1, h2⟩ => ⟨x, h1, (sEq_iff _ _).2 h2⟩⟩
theorem mem_putL {r : List α × Bool} (h : Up f L) (hp : putL f L o = some r) : (∀ x, x ∈ r.1 ↔ x = o ∨ (x ∈ L ∧ f x ≠ f o)) ∧ (r.2 = true ↔ ∃ x ∈ L, f x = f o) := by
 rw [putL] at hp
 split at hp
 ·
  rename_i hi
  cases hp
  have he : f L[L.findIdx (fun x => sEq (f x) (f o))] = f o := (sEq_iff _ _).1 (List.findIdx_getElem (xs := L) (p := fun x => sEq (f x) (f o)) (w := hi))
  obtain ⟨p1, p2⟩ := up_parts h hi
  rw [he] at p1 p2
  refine ⟨fun x => ?_, iff_of_true rfl (idx_lt.1 hi)⟩
  simp only [List.mem_append, List.mem_cons]
  rw [mem_split hi x]
  constructor
  ·
   rintro (h | h | h)
   ·
    exact .inr ⟨.inl h, p1 x h⟩
   ·
    exact .inl h
   ·
    exact .inr ⟨.inr (.inr h), p2 x h⟩
  ·
   rintro (h | ⟨h | h | h, hn⟩)
   ·
    exact .inr (.inl h)
   ·
    exact .inl h
   ·
    rw [h] at hn; exact absurd he hn
   ·
    exact .inr (.inr h)
 ·
  rename_i hi
  split at hp
  ·
   cases hp
  ·
   cases hp
   have hn : ¬ ∃ x ∈ L, f x = f o := fun h => hi (idx_lt.2 h)
   refine ⟨fun x => ?_, iff_of_false (by simp) hn⟩
   simp only [List.mem_append, List.mem_cons]
   have e : x ∈ L ↔ x ∈ L.take (L.findIdx fun x => sGt (f x) (f o)) ∨ x ∈ L.drop (L.findIdx fun x => sGt (f x) (f o)) := by rw [← List.mem_append, List.take_append_drop]
   rw [e]
   constructor
   ·
    rintro (h | h | h)
    ·
     exact .inr ⟨.inl h, fun e' => hn ⟨x, e.2 (.inl h), e'⟩⟩
    ·
     exact .inl h
    ·
     exact .inr ⟨.inr h, fun e' => hn ⟨x, e.2 (.inr h), e'⟩⟩
   ·
    rintro (h | ⟨h | h, _⟩)
    ·
     exact .inr (.inl h)
    ·
     exact .inl h
    ·
     exact .inr (.inr h)
theorem put_some (hl : L.length < 256) : ∃ r, putL f L o = some r := by
 rw [putL]
 split
 ·
  exact ⟨_, rfl⟩
 ·
  rw [if_neg (by omega)]; exact ⟨_, rfl⟩
theorem put_len {r : List α × Bool} (hp : putL f L o = some r) : r.1.length ≤ L.length + 1 := by
 rw [putL] at hp
 split at hp
 ·
  cases hp; simp; omega
 ·
  split at hp
  ·
   cases hp
  ·
   cases hp; simp; omega
theorem up_put {r : List α × Bool} (h : Up f L) (hp : putL f L o = some r) : Up f r.1 := by
 rw [putL] at hp
 split at hp
 ·
  rename_i hi
  cases hp
  exact up_replace f h hi ((sEq_iff _ _).1 (List.findIdx_getElem (xs := L) (p := fun x => sEq (f x) (f o)) (w := hi)))
 ·
  rename_i hi
  split at hp
  ·
   cases hp
  ·
   cases hp
   refine up_insert f h (fun x hx => ?_) rfl
   exact sEq_false (fun e => hi (idx_lt.2 ⟨x, hx, e⟩))
theorem comm_put {p : α} (h : Up f L) (hn : f o ≠ f p) (hl : L.length ≤ 254) : ∃ r1 r2 r3 r4, putL f L o = some r1 ∧ putL f r1.1 p = some r2 ∧ putL f L p = some r3 ∧ putL f r3.1 o = some r4 ∧ r2.1 = r4.1 := by
 obtain ⟨r1, e1⟩ := put_some (f := f) (L := L) (o := o) (by omega)
 obtain ⟨r3, e3⟩ := put_some (f := f) (L := L) (o := p) (by omega)
 have l1 := put_len e1
 have l3 := put_len e3
 obtain ⟨r2, e2⟩ := put_some (f := f) (L := r1.1) (o := p) (by omega)
 obtain ⟨r4, e4⟩ := put_some (f := f) (L := r3.1) (o := o) (by omega)
 have u1 := up_put h e1
 have u3 := up_put h e3
 refine ⟨r1, r2, r3, r4, e1, e2, e3, e4, up_ext (up_put u1 e2) (up_put u3 e4) fun x => ?_⟩
 rw [(mem_putL u1 e2).1, (mem_putL u3 e4).1, (mem_putL h e1).1, (mem_putL h e3).1]
 constructor
 ·
  rintro (rfl | ⟨rfl | ⟨h1, h2⟩, h3⟩)
  ·
   exact .inr ⟨.inl rfl, hn.symm⟩
  ·
   exact .inl rfl
  ·
   exact .inr ⟨.inr ⟨h1, h3⟩, h2⟩
 ·
  rintro (rfl | ⟨rfl | ⟨h1, h2⟩, h3⟩)
  ·
   exact .inr ⟨.inl rfl, hn⟩
  ·
   exact .inl rfl
  ·
   exact .inr ⟨.inr ⟨h1, h3⟩, h2⟩
end
theorem somePod {x : StateD} {o : PodD} (h : (putSPod x o).2.2 = 0) : ∃ r, putL (fun y : PodD => y.1) x.1 o = some r ∧ putSPod x o = (withLPod x r.1, r.2, 0) := by
 obtain ⟨r, hr⟩ : ∃ r, putL (fun y : PodD => y.1) x.1 o = r := ⟨_, rfl⟩
 rw [putSPod, hr] at h ⊢
 cases r with
 | none => cases h
 | some r => exact ⟨r, rfl, rfl⟩
theorem pOPod (x : StateD) {o : ObjectD} (hc : checkO o = 0) (hk : o.1 = 1) : putO x o = putSPod x o.2.1 := by simp [putO, hc, hk]
theorem nOPod {o : ObjectD} (hk : o.1 = 1) : nameO o = o.2.1.1 := by simp [nameO, hk]
theorem cOPod {x : StateD} {o : ObjectD} (hk : o.1 = 1) : countO x o.1 = x.1.length := by simp [countO, hk]
theorem diagPod {x : StateD} {o p : ObjectD} (hok : StOK x) (hn : o.2.1.1 ≠ p.2.1.1) (hl : x.1.length ≤ 254) (e1 : putO x o = putSPod x o.2.1) (e2 : putO x p = putSPod x p.2.1) (a1 : ∀ y, putO y o = putSPod y o.2.1) (a2 : ∀ y, putO y p = putSPod y p.2.1) : (putO x p).2.2 = 0 ∧ (putO (putO x p).1 o).2.2 = 0 ∧ (putO (putO x p).1 o).1 = (putO (putO x o).1 p).1 := by
 obtain ⟨r1, r2, r3, r4, q1, q2, q3, q4, e⟩ := comm_put (f := fun y : PodD => y.1) (L := x.1) (o := o.2.1) (p := p.2.1) ((rises_up _).1 hok.o0.2.2) hn hl
 have s1 : putSPod x o.2.1 = (withLPod x r1.1, r1.2, 0) := by rw [putSPod, q1]
 have s3 : putSPod x p.2.1 = (withLPod x r3.1, r3.2, 0) := by rw [putSPod, q3]
 have s2 : putSPod (withLPod x r1.1) p.2.1 = (withLPod (withLPod x r1.1) r2.1, r2.2, 0) := by rw [putSPod, show putL (fun y : PodD => y.1) (withLPod x r1.1).1 p.2.1 = some r2 from q2]
 have s4 : putSPod (withLPod x r3.1) o.2.1 = (withLPod (withLPod x r3.1) r4.1, r4.2, 0) := by rw [putSPod, show putL (fun y : PodD => y.1) (withLPod x r3.1).1 o.2.1 = some r4 from q4]
 rw [e2, s3, a1, s4, e1, s1, a2, s2]
 exact ⟨rfl, rfl, by rw [e]; rfl⟩
theorem someNode {x : StateD} {o : NodeD} (h : (putSNode x o).2.2 = 0) : ∃ r, putL (fun y : NodeD => y.1) x.2.1 o = some r ∧ putSNode x o = (withLNode x r.1, r.2, 0) := by
 obtain ⟨r, hr⟩ : ∃ r, putL (fun y : NodeD => y.1) x.2.1 o = r := ⟨_, rfl⟩
 rw [putSNode, hr] at h ⊢
 cases r with
 | none => cases h
 | some r => exact ⟨r, rfl, rfl⟩
theorem pONode (x : StateD) {o : ObjectD} (hc : checkO o = 0) (hk : o.1 = 2) : putO x o = putSNode x o.2.2.1 := by simp [putO, hc, hk]
theorem nONode {o : ObjectD} (hk : o.1 = 2) : nameO o = o.2.2.1.1 := by simp [nameO, hk]
theorem cONode {x : StateD} {o : ObjectD} (hk : o.1 = 2) : countO x o.1 = x.2.1.length := by simp [countO, hk]
theorem diagNode {x : StateD} {o p : ObjectD} (hok : StOK x) (hn : o.2.2.1.1 ≠ p.2.2.1.1) (hl : x.2.1.length ≤ 254) (e1 : putO x o = putSNode x o.2.2.1) (e2 : putO x p = putSNode x p.2.2.1) (a1 : ∀ y, putO y o = putSNode y o.2.2.1) (a2 : ∀ y, putO y p = putSNode y p.2.2.1) : (putO x p).2.2 = 0 ∧ (putO (putO x p).1 o).2.2 = 0 ∧ (putO (putO x p).1 o).1 = (putO (putO x o).1 p).1 := by
 obtain ⟨r1, r2, r3, r4, q1, q2, q3, q4, e⟩ := comm_put (f := fun y : NodeD => y.1) (L := x.2.1) (o := o.2.2.1) (p := p.2.2.1) ((rises_up _).1 hok.o1.2.2) hn hl
 have s1 : putSNode x o.2.2.1 = (withLNode x r1.1, r1.2, 0) := by rw [putSNode, q1]
 have s3 : putSNode x p.2.2.1 = (withLNode x r3.1, r3.2, 0) := by rw [putSNode, q3]
 have s2 : putSNode (withLNode x r1.1) p.2.2.1 = (withLNode (withLNode x r1.1) r2.1, r2.2, 0) := by rw [putSNode, show putL (fun y : NodeD => y.1) (withLNode x r1.1).2.1 p.2.2.1 = some r2 from q2]
 have s4 : putSNode (withLNode x r3.1) o.2.2.1 = (withLNode (withLNode x r3.1) r4.1, r4.2, 0) := by rw [putSNode, show putL (fun y : NodeD => y.1) (withLNode x r3.1).2.1 o.2.2.1 = some r4 from q4]
 rw [e2, s3, a1, s4, e1, s1, a2, s2]
 exact ⟨rfl, rfl, by rw [e]; rfl⟩
theorem someVolume {x : StateD} {o : VolumeD} (h : (putSVolume x o).2.2 = 0) : ∃ r, putL (fun y : VolumeD => y.1) x.2.2.1 o = some r ∧ putSVolume x o = (withLVolume x r.1, r.2, 0) := by
 obtain ⟨r, hr⟩ : ∃ r, putL (fun y : VolumeD => y.1) x.2.2.1 o = r := ⟨_, rfl⟩
 rw [putSVolume, hr] at h ⊢
 cases r with
 | none => cases h
 | some r => exact ⟨r, rfl, rfl⟩
theorem pOVolume (x : StateD) {o : ObjectD} (hc : checkO o = 0) (hk : o.1 = 3) : putO x o = putSVolume x o.2.2.2.1 := by simp [putO, hc, hk]
theorem nOVolume {o : ObjectD} (hk : o.1 = 3) : nameO o = o.2.2.2.1.1 := by simp [nameO, hk]
theorem cOVolume {x : StateD} {o : ObjectD} (hk : o.1 = 3) : countO x o.1 = x.2.2.1.length := by simp [countO, hk]
theorem diagVolume {x : StateD} {o p : ObjectD} (hok : StOK x) (hn : o.2.2.2.1.1 ≠ p.2.2.2.1.1) (hl : x.2.2.1.length ≤ 254) (e1 : putO x o = putSVolume x o.2.2.2.1) (e2 : putO x p = putSVolume x p.2.2.2.1) (a1 : ∀ y, putO y o = putSVolume y o.2.2.2.1) (a2 : ∀ y, putO y p = putSVolume y p.2.2.2.1) : (putO x p).2.2 = 0 ∧ (putO (putO x p).1 o).2.2 = 0 ∧ (putO (putO x p).1 o).1 = (putO (putO x o).1 p).1 := by
 obtain ⟨r1, r2, r3, r4, q1, q2, q3, q4, e⟩ := comm_put (f := fun y : VolumeD => y.1) (L := x.2.2.1) (o := o.2.2.2.1) (p := p.2.2.2.1) ((rises_up _).1 hok.o2.2.2) hn hl
 have s1 : putSVolume x o.2.2.2.1 = (withLVolume x r1.1, r1.2, 0) := by rw [putSVolume, q1]
 have s3 : putSVolume x p.2.2.2.1 = (withLVolume x r3.1, r3.2, 0) := by rw [putSVolume, q3]
 have s2 : putSVolume (withLVolume x r1.1) p.2.2.2.1 = (withLVolume (withLVolume x r1.1) r2.1, r2.2, 0) := by rw [putSVolume, show putL (fun y : VolumeD => y.1) (withLVolume x r1.1).2.2.1 p.2.2.2.1 = some r2 from q2]
 have s4 : putSVolume (withLVolume x r3.1) o.2.2.2.1 = (withLVolume (withLVolume x r3.1) r4.1, r4.2, 0) := by rw [putSVolume, show putL (fun y : VolumeD => y.1) (withLVolume x r3.1).2.2.1 o.2.2.2.1 = some r4 from q4]
 rw [e2, s3, a1, s4, e1, s1, a2, s2]
 exact ⟨rfl, rfl, by rw [e]; rfl⟩
theorem someClaim {x : StateD} {o : ClaimD} (h : (putSClaim x o).2.2 = 0) : ∃ r, putL (fun y : ClaimD => y.1) x.2.2.2.1 o = some r ∧ putSClaim x o = (withLClaim x r.1, r.2, 0) := by
 obtain ⟨r, hr⟩ : ∃ r, putL (fun y : ClaimD => y.1) x.2.2.2.1 o = r := ⟨_, rfl⟩
 rw [putSClaim, hr] at h ⊢
 cases r with
 | none => cases h
 | some r => exact ⟨r, rfl, rfl⟩
theorem pOClaim (x : StateD) {o : ObjectD} (hc : checkO o = 0) (hk : o.1 = 4) : putO x o = putSClaim x o.2.2.2.2.1 := by simp [putO, hc, hk]
theorem nOClaim {o : ObjectD} (hk : o.1 = 4) : nameO o = o.2.2.2.2.1.1 := by simp [nameO, hk]
theorem cOClaim {x : StateD} {o : ObjectD} (hk : o.1 = 4) : countO x o.1 = x.2.2.2.1.length := by simp [countO, hk]
theorem diagClaim {x : StateD} {o p : ObjectD} (hok : StOK x) (hn : o.2.2.2.2.1.1 ≠ p.2.2.2.2.1.1) (hl : x.2.2.2.1.length ≤ 254) (e1 : putO x o = putSClaim x o.2.2.2.2.1) (e2 : putO x p = putSClaim x p.2.2.2.2.1) (a1 : ∀ y, putO y o = putSClaim y o.2.2.2.2.1) (a2 : ∀ y, putO y p = putSClaim y p.2.2.2.2.1) : (putO x p).2.2 = 0 ∧ (putO (putO x p).1 o).2.2 = 0 ∧ (putO (putO x p).1 o).1 = (putO (putO x o).1 p).1 := by
 obtain ⟨r1, r2, r3, r4, q1, q2, q3, q4, e⟩ := comm_put (f := fun y : ClaimD => y.1) (L := x.2.2.2.1) (o := o.2.2.2.2.1) (p := p.2.2.2.2.1) ((rises_up _).1 hok.o3.2.2) hn hl
 have s1 : putSClaim x o.2.2.2.2.1 = (withLClaim x r1.1, r1.2, 0) := by rw [putSClaim, q1]
 have s3 : putSClaim x p.2.2.2.2.1 = (withLClaim x r3.1, r3.2, 0) := by rw [putSClaim, q3]
 have s2 : putSClaim (withLClaim x r1.1) p.2.2.2.2.1 = (withLClaim (withLClaim x r1.1) r2.1, r2.2, 0) := by rw [putSClaim, show putL (fun y : ClaimD => y.1) (withLClaim x r1.1).2.2.2.1 p.2.2.2.2.1 = some r2 from q2]
 have s4 : putSClaim (withLClaim x r3.1) o.2.2.2.2.1 = (withLClaim (withLClaim x r3.1) r4.1, r4.2, 0) := by rw [putSClaim, show putL (fun y : ClaimD => y.1) (withLClaim x r3.1).2.2.2.1 o.2.2.2.2.1 = some r4 from q4]
 rw [e2, s3, a1, s4, e1, s1, a2, s2]
 exact ⟨rfl, rfl, by rw [e]; rfl⟩
theorem someClass {x : StateD} {o : ClassD} (h : (putSClass x o).2.2 = 0) : ∃ r, putL (fun y : ClassD => y.1) x.2.2.2.2.1 o = some r ∧ putSClass x o = (withLClass x r.1, r.2, 0) := by
 obtain ⟨r, hr⟩ : ∃ r, putL (fun y : ClassD => y.1) x.2.2.2.2.1 o = r := ⟨_, rfl⟩
 rw [putSClass, hr] at h ⊢
 cases r with
 | none => cases h
 | some r => exact ⟨r, rfl, rfl⟩
theorem pOClass (x : StateD) {o : ObjectD} (hc : checkO o = 0) (hk : o.1 = 5) : putO x o = putSClass x o.2.2.2.2.2.1 := by simp [putO, hc, hk]
theorem nOClass {o : ObjectD} (hk : o.1 = 5) : nameO o = o.2.2.2.2.2.1.1 := by simp [nameO, hk]
theorem cOClass {x : StateD} {o : ObjectD} (hk : o.1 = 5) : countO x o.1 = x.2.2.2.2.1.length := by simp [countO, hk]
theorem diagClass {x : StateD} {o p : ObjectD} (hok : StOK x) (hn : o.2.2.2.2.2.1.1 ≠ p.2.2.2.2.2.1.1) (hl : x.2.2.2.2.1.length ≤ 254) (e1 : putO x o = putSClass x o.2.2.2.2.2.1) (e2 : putO x p = putSClass x p.2.2.2.2.2.1) (a1 : ∀ y, putO y o = putSClass y o.2.2.2.2.2.1) (a2 : ∀ y, putO y p = putSClass y p.2.2.2.2.2.1) : (putO x p).2.2 = 0 ∧ (putO (putO x p).1 o).2.2 = 0 ∧ (putO (putO x p).1 o).1 = (putO (putO x o).1 p).1 := by
 obtain ⟨r1, r2, r3, r4, q1, q2, q3, q4, e⟩ := comm_put (f := fun y : ClassD => y.1) (L := x.2.2.2.2.1) (o := o.2.2.2.2.2.1) (p := p.2.2.2.2.2.1) ((rises_up _).1 hok.o4.2.2) hn hl
 have s1 : putSClass x o.2.2.2.2.2.1 = (withLClass x r1.1, r1.2, 0) := by rw [putSClass, q1]
 have s3 : putSClass x p.2.2.2.2.2.1 = (withLClass x r3.1, r3.2, 0) := by rw [putSClass, q3]
 have s2 : putSClass (withLClass x r1.1) p.2.2.2.2.2.1 = (withLClass (withLClass x r1.1) r2.1, r2.2, 0) := by rw [putSClass, show putL (fun y : ClassD => y.1) (withLClass x r1.1).2.2.2.2.1 p.2.2.2.2.2.1 = some r2 from q2]
 have s4 : putSClass (withLClass x r3.1) o.2.2.2.2.2.1 = (withLClass (withLClass x r3.1) r4.1, r4.2, 0) := by rw [putSClass, show putL (fun y : ClassD => y.1) (withLClass x r3.1).2.2.2.2.1 o.2.2.2.2.2.1 = some r4 from q4]
 rw [e2, s3, a1, s4, e1, s1, a2, s2]
 exact ⟨rfl, rfl, by rw [e]; rfl⟩
theorem someBudget {x : StateD} {o : BudgetD} (h : (putSBudget x o).2.2 = 0) : ∃ r, putL (fun y : BudgetD => y.1) x.2.2.2.2.2 o = some r ∧ putSBudget x o = (withLBudget x r.1, r.2, 0) := by
 obtain ⟨r, hr⟩ : ∃ r, putL (fun y : BudgetD => y.1) x.2.2.2.2.2 o = r := ⟨_, rfl⟩
 rw [putSBudget, hr] at h ⊢
 cases r with
 | none => cases h
 | some r => exact ⟨r, rfl, rfl⟩
theorem pOBudget (x : StateD) {o : ObjectD} (hc : checkO o = 0) (hk : o.1 = 6) : putO x o = putSBudget x o.2.2.2.2.2.2 := by simp [putO, hc, hk]
theorem nOBudget {o : ObjectD} (hk : o.1 = 6) : nameO o = o.2.2.2.2.2.2.1 := by simp [nameO, hk]
theorem cOBudget {x : StateD} {o : ObjectD} (hk : o.1 = 6) : countO x o.1 = x.2.2.2.2.2.length := by simp [countO, hk]
theorem diagBudget {x : StateD} {o p : ObjectD} (hok : StOK x) (hn : o.2.2.2.2.2.2.1 ≠ p.2.2.2.2.2.2.1) (hl : x.2.2.2.2.2.length ≤ 254) (e1 : putO x o = putSBudget x o.2.2.2.2.2.2) (e2 : putO x p = putSBudget x p.2.2.2.2.2.2) (a1 : ∀ y, putO y o = putSBudget y o.2.2.2.2.2.2) (a2 : ∀ y, putO y p = putSBudget y p.2.2.2.2.2.2) : (putO x p).2.2 = 0 ∧ (putO (putO x p).1 o).2.2 = 0 ∧ (putO (putO x p).1 o).1 = (putO (putO x o).1 p).1 := by
 obtain ⟨r1, r2, r3, r4, q1, q2, q3, q4, e⟩ := comm_put (f := fun y : BudgetD => y.1) (L := x.2.2.2.2.2) (o := o.2.2.2.2.2.2) (p := p.2.2.2.2.2.2) ((rises_up _).1 hok.o5.2.2) hn hl
 have s1 : putSBudget x o.2.2.2.2.2.2 = (withLBudget x r1.1, r1.2, 0) := by rw [putSBudget, q1]
 have s3 : putSBudget x p.2.2.2.2.2.2 = (withLBudget x r3.1, r3.2, 0) := by rw [putSBudget, q3]
 have s2 : putSBudget (withLBudget x r1.1) p.2.2.2.2.2.2 = (withLBudget (withLBudget x r1.1) r2.1, r2.2, 0) := by rw [putSBudget, show putL (fun y : BudgetD => y.1) (withLBudget x r1.1).2.2.2.2.2 p.2.2.2.2.2.2 = some r2 from q2]
 have s4 : putSBudget (withLBudget x r3.1) o.2.2.2.2.2.2 = (withLBudget (withLBudget x r3.1) r4.1, r4.2, 0) := by rw [putSBudget, show putL (fun y : BudgetD => y.1) (withLBudget x r3.1).2.2.2.2.2 o.2.2.2.2.2.2 = some r4 from q4]
 rw [e2, s3, a1, s4, e1, s1, a2, s2]
 exact ⟨rfl, rfl, by rw [e]; rfl⟩
theorem six {n : Int} (h : 1 ≤ n ∧ n ≤ 6) : n = 1 ∨ n = 2 ∨ n = 3 ∨ n = 4 ∨ n = 5 ∨ n = 6 := by omega
theorem put_check {x : StateD} {o : ObjectD} (h : (putO x o).2.2 = 0) : checkO o = 0 := by
 by_cases hc : checkO o = 0
 ·
  exact hc
 ·
  rw [putO, if_neg hc] at h; exact absurd h hc
theorem order_ok {x : StateD} {o p : ObjectD} (hok : StOK x) (hne : ¬ (o.1 = p.1 ∧ nameO o = nameO p)) (hc1 : countO x o.1 ≤ 254) (h1 : (putO x o).2.2 = 0) (h2 : (putO (putO x o).1 p).2.2 = 0) : (putO x p).2.2 = 0 ∧ (putO (putO x p).1 o).2.2 = 0 ∧ (putO (putO x p).1 o).1 = (putO (putO x o).1 p).1 := by
 have c1 := put_check h1
 have c2 := put_check h2
 rcases six (checkO_zero c1).1 with ho | ho | ho | ho | ho | ho
 ·
  rcases six (checkO_zero c2).1 with hp | hp | hp | hp | hp | hp
  ·
   exact diagPod hok (fun e => hne ⟨by rw [ho, hp], by rw [nOPod ho, nOPod hp]; exact e⟩) (by have := hc1; rw [cOPod ho] at this; omega) (by rw [pOPod x c1 ho]) (by rw [pOPod x c2 hp]) (fun y => pOPod y c1 ho) (fun y => pOPod y c2 hp)
  ·
   rw [pOPod x c1 ho] at h1 h2 ⊢
   obtain ⟨r1, q1, e1⟩ := somePod h1
   rw [e1] at h2 ⊢
   have h2' : (putSNode (withLPod x r1.1) p.2.2.1).2.2 = 0 := by rw [pONode _ c2 hp] at h2; exact h2
   obtain ⟨r2, q2, e2⟩ := someNode h2'
   have e3 : putSNode x p.2.2.1 = (withLNode x r2.1, r2.2, 0) := by rw [putSNode, show putL (fun y : NodeD => y.1) x.2.1 p.2.2.1 = some r2 from q2]
   have e4 : putSPod (withLNode x r2.1) o.2.1 = (withLPod (withLNode x r2.1) r1.1, r1.2, 0) := by rw [putSPod, show putL (fun y : PodD => y.1) (withLNode x r2.1).1 o.2.1 = some r1 from q1]
   rw [pONode x c2 hp, e3, pOPod _ c1 ho, e4, pONode _ c2 hp, e2]
   exact ⟨rfl, rfl, rfl⟩
  ·
   rw [pOPod x c1 ho] at h1 h2 ⊢
   obtain ⟨r1, q1, e1⟩ := somePod h1
   rw [e1] at h2 ⊢
   have h2' : (putSVolume (withLPod x r1.1) p.2.2.2.1).2.2 = 0 := by rw [pOVolume _ c2 hp] at h2; exact h2
   obtain ⟨r2, q2, e2⟩ := someVolume h2'
   have e3 : putSVolume x p.2.2.2.1 = (withLVolume x r2.1, r2.2, 0) := by rw [putSVolume, show putL (fun y : VolumeD => y.1) x.2.2.1 p.2.2.2.1 = some r2 from q2]
   have e4 : putSPod (withLVolume x r2.1) o.2.1 = (withLPod (withLVolume x r2.1) r1.1, r1.2, 0) := by rw [putSPod, show putL (fun y : PodD => y.1) (withLVolume x r2.1).1 o.2.1 = some r1 from q1]
   rw [pOVolume x c2 hp, e3, pOPod _ c1 ho, e4, pOVolume _ c2 hp, e2]
   exact ⟨rfl, rfl, rfl⟩
  ·
   rw [pOPod x c1 ho] at h1 h2 ⊢
   obtain ⟨r1, q1, e1⟩ := somePod h1
   rw [e1] at h2 ⊢
   have h2' : (putSClaim (withLPod x r1.1) p.2.2.2.2.1).2.2 = 0 := by rw [pOClaim _ c2 hp] at h2; exact h2
   obtain ⟨r2, q2, e2⟩ := someClaim h2'
   have e3 : putSClaim x p.2.2.2.2.1 = (withLClaim x r2.1, r2.2, 0) := by rw [putSClaim, show putL (fun y : ClaimD => y.1) x.2.2.2.1 p.2.2.2.2.1 = some r2 from q2]
   have e4 : putSPod (withLClaim x r2.1) o.2.1 = (withLPod (withLClaim x r2.1) r1.1, r1.2, 0) := by rw [putSPod, show putL (fun y : PodD => y.1) (withLClaim x r2.1).1 o.2.1 = some r1 from q1]
   rw [pOClaim x c2 hp, e3, pOPod _ c1 ho, e4, pOClaim _ c2 hp, e2]
   exact ⟨rfl, rfl, rfl⟩
  ·
   rw [pOPod x c1 ho] at h1 h2 ⊢
   obtain ⟨r1, q1, e1⟩ := somePod h1
   rw [e1] at h2 ⊢
   have h2' : (putSClass (withLPod x r1.1) p.2.2.2.2.2.1).2.2 = 0 := by rw [pOClass _ c2 hp] at h2; exact h2
   obtain ⟨r2, q2, e2⟩ := someClass h2'
   have e3 : putSClass x p.2.2.2.2.2.1 = (withLClass x r2.1, r2.2, 0) := by rw [putSClass, show putL (fun y : ClassD => y.1) x.2.2.2.2.1 p.2.2.2.2.2.1 = some r2 from q2]
   have e4 : putSPod (withLClass x r2.1) o.2.1 = (withLPod (withLClass x r2.1) r1.1, r1.2, 0) := by rw [putSPod, show putL (fun y : PodD => y.1) (withLClass x r2.1).1 o.2.1 = some r1 from q1]
   rw [pOClass x c2 hp, e3, pOPod _ c1 ho, e4, pOClass _ c2 hp, e2]
   exact ⟨rfl, rfl, rfl⟩
  ·
   rw [pOPod x c1 ho] at h1 h2 ⊢
   obtain ⟨r1, q1, e1⟩ := somePod h1
   rw [e1] at h2 ⊢
   have h2' : (putSBudget (withLPod x r1.1) p.2.2.2.2.2.2).2.2 = 0 := by rw [pOBudget _ c2 hp] at h2; exact h2
   obtain ⟨r2, q2, e2⟩ := someBudget h2'
   have e3 : putSBudget x p.2.2.2.2.2.2 = (withLBudget x r2.1, r2.2, 0) := by rw [putSBudget, show putL (fun y : BudgetD => y.1) x.2.2.2.2.2 p.2.2.2.2.2.2 = some r2 from q2]
   have e4 : putSPod (withLBudget x r2.1) o.2.1 = (withLPod (withLBudget x r2.1) r1.1, r1.2, 0) := by rw [putSPod, show putL (fun y : PodD => y.1) (withLBudget x r2.1).1 o.2.1 = some r1 from q1]
   rw [pOBudget x c2 hp, e3, pOPod _ c1 ho, e4, pOBudget _ c2 hp, e2]
   exact ⟨rfl, rfl, rfl⟩
 ·
  rcases six (checkO_zero c2).1 with hp | hp | hp | hp | hp | hp
  ·
   rw [pONode x c1 ho] at h1 h2 ⊢
   obtain ⟨r1, q1, e1⟩ := someNode h1
   rw [e1] at h2 ⊢
   have h2' : (putSPod (withLNode x r1.1) p.2.1).2.2 = 0 := by rw [pOPod _ c2 hp] at h2; exact h2
   obtain ⟨r2, q2, e2⟩ := somePod h2'
   have e3 : putSPod x p.2.1 = (withLPod x r2.1, r2.2, 0) := by rw [putSPod, show putL (fun y : PodD => y.1) x.1 p.2.1 = some r2 from q2]
   have e4 : putSNode (withLPod x r2.1) o.2.2.1 = (withLNode (withLPod x r2.1) r1.1, r1.2, 0) := by rw [putSNode, show putL (fun y : NodeD => y.1) (withLPod x r2.1).2.1 o.2.2.1 = some r1 from q1]
   rw [pOPod x c2 hp, e3, pONode _ c1 ho, e4, pOPod _ c2 hp, e2]
   exact ⟨rfl, rfl, rfl⟩
  ·
   exact diagNode hok (fun e => hne ⟨by rw [ho, hp], by rw [nONode ho, nONode hp]; exact e⟩) (by have := hc1; rw [cONode ho] at this; omega) (by rw [pONode x c1 ho]) (by rw [pONode x c2 hp]) (fun y => pONode y c1 ho) (fun y => pONode y c2 hp)
  ·
   rw [pONode x c1 ho] at h1 h2 ⊢
   obtain ⟨r1, q1, e1⟩ := someNode h1
   rw [e1] at h2 ⊢
   have h2' : (putSVolume (withLNode x r1.1) p.2.2.2.1).2.2 = 0 := by rw [pOVolume _ c2 hp] at h2; exact h2
   obtain ⟨r2, q2, e2⟩ := someVolume h2'
   have e3 : putSVolume x p.2.2.2.1 = (withLVolume x r2.1, r2.2, 0) := by rw [putSVolume, show putL (fun y : VolumeD => y.1) x.2.2.1 p.2.2.2.1 = some r2 from q2]
   have e4 : putSNode (withLVolume x r2.1) o.2.2.1 = (withLNode (withLVolume x r2.1) r1.1, r1.2, 0) := by rw [putSNode, show putL (fun y : NodeD => y.1) (withLVolume x r2.1).2.1 o.2.2.1 = some r1 from q1]
   rw [pOVolume x c2 hp, e3, pONode _ c1 ho, e4, pOVolume _ c2 hp, e2]
   exact ⟨rfl, rfl, rfl⟩
  ·
   rw [pONode x c1 ho] at h1 h2 ⊢
   obtain ⟨r1, q1, e1⟩ := someNode h1
   rw [e1] at h2 ⊢
   have h2' : (putSClaim (withLNode x r1.1) p.2.2.2.2.1).2.2 = 0 := by rw [pOClaim _ c2 hp] at h2; exact h2
   obtain ⟨r2, q2, e2⟩ := someClaim h2'
   have e3 : putSClaim x p.2.2.2.2.1 = (withLClaim x r2.1, r2.2, 0) := by rw [putSClaim, show putL (fun y : ClaimD => y.1) x.2.2.2.1 p.2.2.2.2.1 = some r2 from q2]
   have e4 : putSNode (withLClaim x r2.1) o.2.2.1 = (withLNode (withLClaim x r2.1) r1.1, r1.2, 0) := by rw [putSNode, show putL (fun y : NodeD => y.1) (withLClaim x r2.1).2.1 o.2.2.1 = some r1 from q1]
   rw [pOClaim x c2 hp, e3, pONode _ c1 ho, e4, pOClaim _ c2 hp, e2]
   exact ⟨rfl, rfl, rfl⟩
  ·
   rw [pONode x c1 ho] at h1 h2 ⊢
   obtain ⟨r1, q1, e1⟩ := someNode h1
   rw [e1] at h2 ⊢
   have h2' : (putSClass (withLNode x r1.1) p.2.2.2.2.2.1).2.2 = 0 := by rw [pOClass _ c2 hp] at h2; exact h2
   obtain ⟨r2, q2, e2⟩ := someClass h2'
   have e3 : putSClass x p.2.2.2.2.2.1 = (withLClass x r2.1, r2.2, 0) := by rw [putSClass, show putL (fun y : ClassD => y.1) x.2.2.2.2.1 p.2.2.2.2.2.1 = some r2 from q2]
   have e4 : putSNode (withLClass x r2.1) o.2.2.1 = (withLNode (withLClass x r2.1) r1.1, r1.2, 0) := by rw [putSNode, show putL (fun y : NodeD => y.1) (withLClass x r2.1).2.1 o.2.2.1 = some r1 from q1]
   rw [pOClass x c2 hp, e3, pONode _ c1 ho, e4, pOClass _ c2 hp, e2]
   exact ⟨rfl, rfl, rfl⟩
  ·
   rw [pONode x c1 ho] at h1 h2 ⊢
   obtain ⟨r1, q1, e1⟩ := someNode h1
   rw [e1] at h2 ⊢
   have h2' : (putSBudget (withLNode x r1.1) p.2.2.2.2.2.2).2.2 = 0 := by rw [pOBudget _ c2 hp] at h2; exact h2
   obtain ⟨r2, q2, e2⟩ := someBudget h2'
   have e3 : putSBudget x p.2.2.2.2.2.2 = (withLBudget x r2.1, r2.2, 0) := by rw [putSBudget, show putL (fun y : BudgetD => y.1) x.2.2.2.2.2 p.2.2.2.2.2.2 = some r2 from q2]
   have e4 : putSNode (withLBudget x r2.1) o.2.2.1 = (withLNode (withLBudget x r2.1) r1.1, r1.2, 0) := by rw [putSNode, show putL (fun y : NodeD => y.1) (withLBudget x r2.1).2.1 o.2.2.1 = some r1 from q1]
   rw [pOBudget x c2 hp, e3, pONode _ c1 ho, e4, pOBudget _ c2 hp, e2]
   exact ⟨rfl, rfl, rfl⟩
 ·
  rcases six (checkO_zero c2).1 with hp | hp | hp | hp | hp | hp
  ·
   rw [pOVolume x c1 ho] at h1 h2 ⊢
   obtain ⟨r1, q1, e1⟩ := someVolume h1
   rw [e1] at h2 ⊢
   have h2' : (putSPod (withLVolume x r1.1) p.2.1).2.2 = 0 := by rw [pOPod _ c2 hp] at h2; exact h2
   obtain ⟨r2, q2, e2⟩ := somePod h2'
   have e3 : putSPod x p.2.1 = (withLPod x r2.1, r2.2, 0) := by rw [putSPod, show putL (fun y : PodD => y.1) x.1 p.2.1 = some r2 from q2]
   have e4 : putSVolume (withLPod x r2.1) o.2.2.2.1 = (withLVolume (withLPod x r2.1) r1.1, r1.2, 0) := by rw [putSVolume, show putL (fun y : VolumeD => y.1) (withLPod x r2.1).2.2.1 o.2.2.2.1 = some r1 from q1]
   rw [pOPod x c2 hp, e3, pOVolume _ c1 ho, e4, pOPod _ c2 hp, e2]
   exact ⟨rfl, rfl, rfl⟩
  ·
   rw [pOVolume x c1 ho] at h1 h2 ⊢
   obtain ⟨r1, q1, e1⟩ := someVolume h1
   rw [e1] at h2 ⊢
   have h2' : (putSNode (withLVolume x r1.1) p.2.2.1).2.2 = 0 := by rw [pONode _ c2 hp] at h2; exact h2
   obtain ⟨r2, q2, e2⟩ := someNode h2'
   have e3 : putSNode x p.2.2.1 = (withLNode x r2.1, r2.2, 0) := by rw [putSNode, show putL (fun y : NodeD => y.1) x.2.1 p.2.2.1 = some r2 from q2]
   have e4 : putSVolume (withLNode x r2.1) o.2.2.2.1 = (withLVolume (withLNode x r2.1) r1.1, r1.2, 0) := by rw [putSVolume, show putL (fun y : VolumeD => y.1) (withLNode x r2.1).2.2.1 o.2.2.2.1 = some r1 from q1]
   rw [pONode x c2 hp, e3, pOVolume _ c1 ho, e4, pONode _ c2 hp, e2]
   exact ⟨rfl, rfl, rfl⟩
  ·
   exact diagVolume hok (fun e => hne ⟨by rw [ho, hp], by rw [nOVolume ho, nOVolume hp]; exact e⟩) (by have := hc1; rw [cOVolume ho] at this; omega) (by rw [pOVolume x c1 ho]) (by rw [pOVolume x c2 hp]) (fun y => pOVolume y c1 ho) (fun y => pOVolume y c2 hp)
  ·
   rw [pOVolume x c1 ho] at h1 h2 ⊢
   obtain ⟨r1, q1, e1⟩ := someVolume h1
   rw [e1] at h2 ⊢
   have h2' : (putSClaim (withLVolume x r1.1) p.2.2.2.2.1).2.2 = 0 := by rw [pOClaim _ c2 hp] at h2; exact h2
   obtain ⟨r2, q2, e2⟩ := someClaim h2'
   have e3 : putSClaim x p.2.2.2.2.1 = (withLClaim x r2.1, r2.2, 0) := by rw [putSClaim, show putL (fun y : ClaimD => y.1) x.2.2.2.1 p.2.2.2.2.1 = some r2 from q2]
   have e4 : putSVolume (withLClaim x r2.1) o.2.2.2.1 = (withLVolume (withLClaim x r2.1) r1.1, r1.2, 0) := by rw [putSVolume, show putL (fun y : VolumeD => y.1) (withLClaim x r2.1).2.2.1 o.2.2.2.1 = some r1 from q1]
   rw [pOClaim x c2 hp, e3, pOVolume _ c1 ho, e4, pOClaim _ c2 hp, e2]
   exact ⟨rfl, rfl, rfl⟩
  ·
   rw [pOVolume x c1 ho] at h1 h2 ⊢
   obtain ⟨r1, q1, e1⟩ := someVolume h1
   rw [e1] at h2 ⊢
   have h2' : (putSClass (withLVolume x r1.1) p.2.2.2.2.2.1).2.2 = 0 := by rw [pOClass _ c2 hp] at h2; exact h2
   obtain ⟨r2, q2, e2⟩ := someClass h2'
   have e3 : putSClass x p.2.2.2.2.2.1 = (withLClass x r2.1, r2.2, 0) := by rw [putSClass, show putL (fun y : ClassD => y.1) x.2.2.2.2.1 p.2.2.2.2.2.1 = some r2 from q2]
   have e4 : putSVolume (withLClass x r2.1) o.2.2.2.1 = (withLVolume (withLClass x r2.1) r1.1, r1.2, 0) := by rw [putSVolume, show putL (fun y : VolumeD => y.1) (withLClass x r2.1).2.2.1 o.2.2.2.1 = some r1 from q1]
   rw [pOClass x c2 hp, e3, pOVolume _ c1 ho, e4, pOClass _ c2 hp, e2]
   exact ⟨rfl, rfl, rfl⟩
  ·
   rw [pOVolume x c1 ho] at h1 h2 ⊢
   obtain ⟨r1, q1, e1⟩ := someVolume h1
   rw [e1] at h2 ⊢
   have h2' : (putSBudget (withLVolume x r1.1) p.2.2.2.2.2.2).2.2 = 0 := by rw [pOBudget _ c2 hp] at h2; exact h2
   obtain ⟨r2, q2, e2⟩ := someBudget h2'
   have e3 : putSBudget x p.2.2.2.2.2.2 = (withLBudget x r2.1, r2.2, 0) := by rw [putSBudget, show putL (fun y : BudgetD => y.1) x.2.2.2.2.2 p.2.2.2.2.2.2 = some r2 from q2]
   have e4 : putSVolume (withLBudget x r2.1) o.2.2.2.1 = (withLVolume (withLBudget x r2.1) r1.1, r1.2, 0) := by rw [putSVolume, show putL (fun y : VolumeD => y.1) (withLBudget x r2.1).2.2.1 o.2.2.2.1 = some r1 from q1]
   rw [pOBudget x c2 hp, e3, pOVolume _ c1 ho, e4, pOBudget _ c2 hp, e2]
   exact ⟨rfl, rfl, rfl⟩
 ·
  rcases six (checkO_zero c2).1 with hp | hp | hp | hp | hp | hp
  ·
   rw [pOClaim x c1 ho] at h1 h2 ⊢
   obtain ⟨r1, q1, e1⟩ := someClaim h1
   rw [e1] at h2 ⊢
   have h2' : (putSPod (withLClaim x r1.1) p.2.1).2.2 = 0 := by rw [pOPod _ c2 hp] at h2; exact h2
   obtain ⟨r2, q2, e2⟩ := somePod h2'
   have e3 : putSPod x p.2.1 = (withLPod x r2.1, r2.2, 0) := by rw [putSPod, show putL (fun y : PodD => y.1) x.1 p.2.1 = some r2 from q2]
   have e4 : putSClaim (withLPod x r2.1) o.2.2.2.2.1 = (withLClaim (withLPod x r2.1) r1.1, r1.2, 0) := by rw [putSClaim, show putL (fun y : ClaimD => y.1) (withLPod x r2.1).2.2.2.1 o.2.2.2.2.1 = some r1 from q1]
   rw [pOPod x c2 hp, e3, pOClaim _ c1 ho, e4, pOPod _ c2 hp, e2]
   exact ⟨rfl, rfl, rfl⟩
  ·
   rw [pOClaim x c1 ho] at h1 h2 ⊢
   obtain ⟨r1, q1, e1⟩ := someClaim h1
   rw [e1] at h2 ⊢
   have h2' : (putSNode (withLClaim x r1.1) p.2.2.1).2.2 = 0 := by rw [pONode _ c2 hp] at h2; exact h2
   obtain ⟨r2, q2, e2⟩ := someNode h2'
   have e3 : putSNode x p.2.2.1 = (withLNode x r2.1, r2.2, 0) := by rw [putSNode, show putL (fun y : NodeD => y.1) x.2.1 p.2.2.1 = some r2 from q2]
   have e4 : putSClaim (withLNode x r2.1) o.2.2.2.2.1 = (withLClaim (withLNode x r2.1) r1.1, r1.2, 0) := by rw [putSClaim, show putL (fun y : ClaimD => y.1) (withLNode x r2.1).2.2.2.1 o.2.2.2.2.1 = some r1 from q1]
   rw [pONode x c2 hp, e3, pOClaim _ c1 ho, e4, pONode _ c2 hp, e2]
   exact ⟨rfl, rfl, rfl⟩
  ·
   rw [pOClaim x c1 ho] at h1 h2 ⊢
   obtain ⟨r1, q1, e1⟩ := someClaim h1
   rw [e1] at h2 ⊢
   have h2' : (putSVolume (withLClaim x r1.1) p.2.2.2.1).2.2 = 0 := by rw [pOVolume _ c2 hp] at h2; exact h2
   obtain ⟨r2, q2, e2⟩ := someVolume h2'
   have e3 : putSVolume x p.2.2.2.1 = (withLVolume x r2.1, r2.2, 0) := by rw [putSVolume, show putL (fun y : VolumeD => y.1) x.2.2.1 p.2.2.2.1 = some r2 from q2]
   have e4 : putSClaim (withLVolume x r2.1) o.2.2.2.2.1 = (withLClaim (withLVolume x r2.1) r1.1, r1.2, 0) := by rw [putSClaim, show putL (fun y : ClaimD => y.1) (withLVolume x r2.1).2.2.2.1 o.2.2.2.2.1 = some r1 from q1]
   rw [pOVolume x c2 hp, e3, pOClaim _ c1 ho, e4, pOVolume _ c2 hp, e2]
   exact ⟨rfl, rfl, rfl⟩
  ·
   exact diagClaim hok (fun e => hne ⟨by rw [ho, hp], by rw [nOClaim ho, nOClaim hp]; exact e⟩) (by have := hc1; rw [cOClaim ho] at this; omega) (by rw [pOClaim x c1 ho]) (by rw [pOClaim x c2 hp]) (fun y => pOClaim y c1 ho) (fun y => pOClaim y c2 hp)
  ·
   rw [pOClaim x c1 ho] at h1 h2 ⊢
   obtain ⟨r1, q1, e1⟩ := someClaim h1
   rw [e1] at h2 ⊢
   have h2' : (putSClass (withLClaim x r1.1) p.2.2.2.2.2.1).2.2 = 0 := by rw [pOClass _ c2 hp] at h2; exact h2
   obtain ⟨r2, q2, e2⟩ := someClass h2'
   have e3 : putSClass x p.2.2.2.2.2.1 = (withLClass x r2.1, r2.2, 0) := by rw [putSClass, show putL (fun y : ClassD => y.1) x.2.2.2.2.1 p.2.2.2.2.2.1 = some r2 from q2]
   have e4 : putSClaim (withLClass x r2.1) o.2.2.2.2.1 = (withLClaim (withLClass x r2.1) r1.1, r1.2, 0) := by rw [putSClaim, show putL (fun y : ClaimD => y.1) (withLClass x r2.1).2.2.2.1 o.2.2.2.2.1 = some r1 from q1]
   rw [pOClass x c2 hp, e3, pOClaim _ c1 ho, e4, pOClass _ c2 hp, e2]
   exact ⟨rfl, rfl, rfl⟩
  ·
   rw [pOClaim x c1 ho] at h1 h2 ⊢
   obtain ⟨r1, q1, e1⟩ := someClaim h1
   rw [e1] at h2 ⊢
   have h2' : (putSBudget (withLClaim x r1.1) p.2.2.2.2.2.2).2.2 = 0 := by rw [pOBudget _ c2 hp] at h2; exact h2
   obtain ⟨r2, q2, e2⟩ := someBudget h2'
   have e3 : putSBudget x p.2.2.2.2.2.2 = (withLBudget x r2.1, r2.2, 0) := by rw [putSBudget, show putL (fun y : BudgetD => y.1) x.2.2.2.2.2 p.2.2.2.2.2.2 = some r2 from q2]
   have e4 : putSClaim (withLBudget x r2.1) o.2.2.2.2.1 = (withLClaim (withLBudget x r2.1) r1.1, r1.2, 0) := by rw [putSClaim, show putL (fun y : ClaimD => y.1) (withLBudget x r2.1).2.2.2.1 o.2.2.2.2.1 = some r1 from q1]
   rw [pOBudget x c2 hp, e3, pOClaim _ c1 ho, e4, pOBudget _ c2 hp, e2]
   exact ⟨rfl, rfl, rfl⟩
 ·
  rcases six (checkO_zero c2).1 with hp | hp | hp | hp | hp | hp
  ·
   rw [pOClass x c1 ho] at h1 h2 ⊢
   obtain ⟨r1, q1, e1⟩ := someClass h1
   rw [e1] at h2 ⊢
   have h2' : (putSPod (withLClass x r1.1) p.2.1).2.2 = 0 := by rw [pOPod _ c2 hp] at h2; exact h2
   obtain ⟨r2, q2, e2⟩ := somePod h2'
   have e3 : putSPod x p.2.1 = (withLPod x r2.1, r2.2, 0) := by rw [putSPod, show putL (fun y : PodD => y.1) x.1 p.2.1 = some r2 from q2]
   have e4 : putSClass (withLPod x r2.1) o.2.2.2.2.2.1 = (withLClass (withLPod x r2.1) r1.1, r1.2, 0) := by rw [putSClass, show putL (fun y : ClassD => y.1) (withLPod x r2.1).2.2.2.2.1 o.2.2.2.2.2.1 = some r1 from q1]
   rw [pOPod x c2 hp, e3, pOClass _ c1 ho, e4, pOPod _ c2 hp, e2]
   exact ⟨rfl, rfl, rfl⟩
  ·
   rw [pOClass x c1 ho] at h1 h2 ⊢
   obtain ⟨r1, q1, e1⟩ := someClass h1
   rw [e1] at h2 ⊢
   have h2' : (putSNode (withLClass x r1.1) p.2.2.1).2.2 = 0 := by rw [pONode _ c2 hp] at h2; exact h2
   obtain ⟨r2, q2, e2⟩ := someNode h2'
   have e3 : putSNode x p.2.2.1 = (withLNode x r2.1, r2.2, 0) := by rw [putSNode, show putL (fun y : NodeD => y.1) x.2.1 p.2.2.1 = some r2 from q2]
   have e4 : putSClass (withLNode x r2.1) o.2.2.2.2.2.1 = (withLClass (withLNode x r2.1) r1.1, r1.2, 0) := by rw [putSClass, show putL (fun y : ClassD => y.1) (withLNode x r2.1).2.2.2.2.1 o.2.2.2.2.2.1 = some r1 from q1]
   rw [pONode x c2 hp, e3, pOClass _ c1 ho, e4, pONode _ c2 hp, e2]
   exact ⟨rfl, rfl, rfl⟩
  ·
   rw [pOClass x c1 ho] at h1 h2 ⊢
   obtain ⟨r1, q1, e1⟩ := someClass h1
   rw [e1] at h2 ⊢
   have h2' : (putSVolume (withLClass x r1.1) p.2.2.2.1).2.2 = 0 := by rw [pOVolume _ c2 hp] at h2; exact h2
   obtain ⟨r2, q2, e2⟩ := someVolume h2'
   have e3 : putSVolume x p.2.2.2.1 = (withLVolume x r2.1, r2.2, 0) := by rw [putSVolume, show putL (fun y : VolumeD => y.1) x.2.2.1 p.2.2.2.1 = some r2 from q2]
   have e4 : putSClass (withLVolume x r2.1) o.2.2.2.2.2.1 = (withLClass (withLVolume x r2.1) r1.1, r1.2, 0) := by rw [putSClass, show putL (fun y : ClassD => y.1) (withLVolume x r2.1).2.2.2.2.1 o.2.2.2.2.2.1 = some r1 from q1]
   rw [pOVolume x c2 hp, e3, pOClass _ c1 ho, e4, pOVolume _ c2 hp, e2]
   exact ⟨rfl, rfl, rfl⟩
  ·
   rw [pOClass x c1 ho] at h1 h2 ⊢
   obtain ⟨r1, q1, e1⟩ := someClass h1
   rw [e1] at h2 ⊢
   have h2' : (putSClaim (withLClass x r1.1) p.2.2.2.2.1).2.2 = 0 := by rw [pOClaim _ c2 hp] at h2; exact h2
   obtain ⟨r2, q2, e2⟩ := someClaim h2'
   have e3 : putSClaim x p.2.2.2.2.1 = (withLClaim x r2.1, r2.2, 0) := by rw [putSClaim, show putL (fun y : ClaimD => y.1) x.2.2.2.1 p.2.2.2.2.1 = some r2 from q2]
   have e4 : putSClass (withLClaim x r2.1) o.2.2.2.2.2.1 = (withLClass (withLClaim x r2.1) r1.1, r1.2, 0) := by rw [putSClass, show putL (fun y : ClassD => y.1) (withLClaim x r2.1).2.2.2.2.1 o.2.2.2.2.2.1 = some r1 from q1]
   rw [pOClaim x c2 hp, e3, pOClass _ c1 ho, e4, pOClaim _ c2 hp, e2]
   exact ⟨rfl, rfl, rfl⟩
  ·
   exact diagClass hok (fun e => hne ⟨by rw [ho, hp], by rw [nOClass ho, nOClass hp]; exact e⟩) (by have := hc1; rw [cOClass ho] at this; omega) (by rw [pOClass x c1 ho]) (by rw [pOClass x c2 hp]) (fun y => pOClass y c1 ho) (fun y => pOClass y c2 hp)
  ·
   rw [pOClass x c1 ho] at h1 h2 ⊢
   obtain ⟨r1, q1, e1⟩ := someClass h1
   rw [e1] at h2 ⊢
   have h2' : (putSBudget (withLClass x r1.1) p.2.2.2.2.2.2).2.2 = 0 := by rw [pOBudget _ c2 hp] at h2; exact h2
   obtain ⟨r2, q2, e2⟩ := someBudget h2'
   have e3 : putSBudget x p.2.2.2.2.2.2 = (withLBudget x r2.1, r2.2, 0) := by rw [putSBudget, show putL (fun y : BudgetD => y.1) x.2.2.2.2.2 p.2.2.2.2.2.2 = some r2 from q2]
   have e4 : putSClass (withLBudget x r2.1) o.2.2.2.2.2.1 = (withLClass (withLBudget x r2.1) r1.1, r1.2, 0) := by rw [putSClass, show putL (fun y : ClassD => y.1) (withLBudget x r2.1).2.2.2.2.1 o.2.2.2.2.2.1 = some r1 from q1]
   rw [pOBudget x c2 hp, e3, pOClass _ c1 ho, e4, pOBudget _ c2 hp, e2]
   exact ⟨rfl, rfl, rfl⟩
 ·
  rcases six (checkO_zero c2).1 with hp | hp | hp | hp | hp | hp
  ·
   rw [pOBudget x c1 ho] at h1 h2 ⊢
   obtain ⟨r1, q1, e1⟩ := someBudget h1
   rw [e1] at h2 ⊢
   have h2' : (putSPod (withLBudget x r1.1) p.2.1).2.2 = 0 := by rw [pOPod _ c2 hp] at h2; exact h2
   obtain ⟨r2, q2, e2⟩ := somePod h2'
   have e3 : putSPod x p.2.1 = (withLPod x r2.1, r2.2, 0) := by rw [putSPod, show putL (fun y : PodD => y.1) x.1 p.2.1 = some r2 from q2]
   have e4 : putSBudget (withLPod x r2.1) o.2.2.2.2.2.2 = (withLBudget (withLPod x r2.1) r1.1, r1.2, 0) := by rw [putSBudget, show putL (fun y : BudgetD => y.1) (withLPod x r2.1).2.2.2.2.2 o.2.2.2.2.2.2 = some r1 from q1]
   rw [pOPod x c2 hp, e3, pOBudget _ c1 ho, e4, pOPod _ c2 hp, e2]
   exact ⟨rfl, rfl, rfl⟩
  ·
   rw [pOBudget x c1 ho] at h1 h2 ⊢
   obtain ⟨r1, q1, e1⟩ := someBudget h1
   rw [e1] at h2 ⊢
   have h2' : (putSNode (withLBudget x r1.1) p.2.2.1).2.2 = 0 := by rw [pONode _ c2 hp] at h2; exact h2
   obtain ⟨r2, q2, e2⟩ := someNode h2'
   have e3 : putSNode x p.2.2.1 = (withLNode x r2.1, r2.2, 0) := by rw [putSNode, show putL (fun y : NodeD => y.1) x.2.1 p.2.2.1 = some r2 from q2]
   have e4 : putSBudget (withLNode x r2.1) o.2.2.2.2.2.2 = (withLBudget (withLNode x r2.1) r1.1, r1.2, 0) := by rw [putSBudget, show putL (fun y : BudgetD => y.1) (withLNode x r2.1).2.2.2.2.2 o.2.2.2.2.2.2 = some r1 from q1]
   rw [pONode x c2 hp, e3, pOBudget _ c1 ho, e4, pONode _ c2 hp, e2]
   exact ⟨rfl, rfl, rfl⟩
  ·
   rw [pOBudget x c1 ho] at h1 h2 ⊢
   obtain ⟨r1, q1, e1⟩ := someBudget h1
   rw [e1] at h2 ⊢
   have h2' : (putSVolume (withLBudget x r1.1) p.2.2.2.1).2.2 = 0 := by rw [pOVolume _ c2 hp] at h2; exact h2
   obtain ⟨r2, q2, e2⟩ := someVolume h2'
   have e3 : putSVolume x p.2.2.2.1 = (withLVolume x r2.1, r2.2, 0) := by rw [putSVolume, show putL (fun y : VolumeD => y.1) x.2.2.1 p.2.2.2.1 = some r2 from q2]
   have e4 : putSBudget (withLVolume x r2.1) o.2.2.2.2.2.2 = (withLBudget (withLVolume x r2.1) r1.1, r1.2, 0) := by rw [putSBudget, show putL (fun y : BudgetD => y.1) (withLVolume x r2.1).2.2.2.2.2 o.2.2.2.2.2.2 = some r1 from q1]
   rw [pOVolume x c2 hp, e3, pOBudget _ c1 ho, e4, pOVolume _ c2 hp, e2]
   exact ⟨rfl, rfl, rfl⟩
  ·
   rw [pOBudget x c1 ho] at h1 h2 ⊢
   obtain ⟨r1, q1, e1⟩ := someBudget h1
   rw [e1] at h2 ⊢
   have h2' : (putSClaim (withLBudget x r1.1) p.2.2.2.2.1).2.2 = 0 := by rw [pOClaim _ c2 hp] at h2; exact h2
   obtain ⟨r2, q2, e2⟩ := someClaim h2'
   have e3 : putSClaim x p.2.2.2.2.1 = (withLClaim x r2.1, r2.2, 0) := by rw [putSClaim, show putL (fun y : ClaimD => y.1) x.2.2.2.1 p.2.2.2.2.1 = some r2 from q2]
   have e4 : putSBudget (withLClaim x r2.1) o.2.2.2.2.2.2 = (withLBudget (withLClaim x r2.1) r1.1, r1.2, 0) := by rw [putSBudget, show putL (fun y : BudgetD => y.1) (withLClaim x r2.1).2.2.2.2.2 o.2.2.2.2.2.2 = some r1 from q1]
   rw [pOClaim x c2 hp, e3, pOBudget _ c1 ho, e4, pOClaim _ c2 hp, e2]
   exact ⟨rfl, rfl, rfl⟩
  ·
   rw [pOBudget x c1 ho] at h1 h2 ⊢
   obtain ⟨r1, q1, e1⟩ := someBudget h1
   rw [e1] at h2 ⊢
   have h2' : (putSClass (withLBudget x r1.1) p.2.2.2.2.2.1).2.2 = 0 := by rw [pOClass _ c2 hp] at h2; exact h2
   obtain ⟨r2, q2, e2⟩ := someClass h2'
   have e3 : putSClass x p.2.2.2.2.2.1 = (withLClass x r2.1, r2.2, 0) := by rw [putSClass, show putL (fun y : ClassD => y.1) x.2.2.2.2.1 p.2.2.2.2.2.1 = some r2 from q2]
   have e4 : putSBudget (withLClass x r2.1) o.2.2.2.2.2.2 = (withLBudget (withLClass x r2.1) r1.1, r1.2, 0) := by rw [putSBudget, show putL (fun y : BudgetD => y.1) (withLClass x r2.1).2.2.2.2.2 o.2.2.2.2.2.2 = some r1 from q1]
   rw [pOClass x c2 hp, e3, pOBudget _ c1 ho, e4, pOClass _ c2 hp, e2]
   exact ⟨rfl, rfl, rfl⟩
  ·
   exact diagBudget hok (fun e => hne ⟨by rw [ho, hp], by rw [nOBudget ho, nOBudget hp]; exact e⟩) (by have := hc1; rw [cOBudget ho] at this; omega) (by rw [pOBudget x c1 ho]) (by rw [pOBudget x c2 hp]) (fun y => pOBudget y c1 ho) (fun y => pOBudget y c2 hp)
end Go.Proofs.YtikncmcceeacmaaGreat

namespace Go.Proofs.YtikncmcceeacmaaGreat
set_option maxHeartbeats 16000000
set_option maxRecDepth 100000
open Tryz Go.RowKit
set_option linter.unusedSimpArgs false
section
variable {α : Type} [Inhabited α] {R : Rep α} {k : Nat}
theorem Fresh.setCell (w : World) (p : Addr) (x : Value) : Fresh (w.setCell p x) = Fresh w := by funext b; simp [Fresh]
def Src (R : Rep α) (k : Nat) (A : Where) (u : World) (a : Option Addr) (m : Nat) (N : List α) : Prop :=
 N.length = m ∧ ((a = none ∧ N = []) ∨ ∃ ad xs, a = some ad ∧ Chunks R k A u xs N ∧ (∀ j y, xs[j]? = some y → u.cell? (ad.add j) = some y) ∧ ∀ y ∈ xs, y.oneCell' = true)
theorem Src.weak (hR : Firm R k) {A A' : Where} {u : World} {a : Option Addr} {m : Nat} {N : List α} (h : Src R k A u a m N) (hA : ∀ b, b < u.heap.size → A b → A' b) : Src R k A' u a m N := by
 obtain ⟨h1, h2⟩ := h
 refine ⟨h1, ?_⟩
 rcases h2 with h2 | ⟨ad, xs, e, h3, h4, h5⟩
 ·
  exact .inl h2
 ·
  exact .inr ⟨ad, xs, e, h3.weak hR hA, h4, h5⟩
end
theorem BoxL.range {u : World} {D : Nat} {cs : List Value} (h : BoxL u D cs) : u.rangeAt D 0 cs := fun j v hj => by rw [Nat.zero_add]; exact (h.2 j v hj).1
theorem BoxL.there {u : World} {D : Nat} {cs : List Value} (h : BoxL u D cs) : u.there D 0 cs.length := fun j hj => by
 have := h.2 j cs[j] (List.getElem?_eq_getElem hj)
 rw [Nat.zero_add, this.1, this.2]
 exact ⟨rfl, rfl⟩
def Stays (W : World) (G : World → Prop) : Prop := ∀ u u', G u → Kept (Fresh W) u u' → G u'
theorem Stays.none (W : World) : Stays W (fun _ => True) := fun _ _ _ _ => trivial
theorem Stays.add {α : Type} [Inhabited α] {R : Rep α} {k bytes : Nat} {W u : World} {G : World → Prop} (hG : Stays W G) (hg : G u) (hR : Firm R k) {a : Option Addr} {n c : Nat} {L : List α} (hs : SlAt R k bytes (Fresh W) u a n c L) :
  ∃ G', Stays W G' ∧ G' u ∧ (∀ v, G' v → G v) ∧ ∀ v, G' v → SlAt R k bytes (Fresh W) v a n c L :=
 ⟨fun v => G v ∧ SlAt R k bytes (Fresh W) v a n c L, fun _ _ h k => ⟨hG _ _ h.1 k, h.2.kept hR k⟩, ⟨hg, hs⟩, fun _ h => h.1, fun _ h => h.2⟩
end Go.Proofs.YtikncmcceeacmaaGreat

