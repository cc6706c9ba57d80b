/- Two pods' boxes, a term's box, and a list of that term; plain: both ways of keeping apart. No condition. -/
import Derived.Test.YtfnafgmengefaaaDoorV03
import Derived.Test.YtfnafgmengefaaaDoorQ08
namespace Go.Proofs.YtfnafgmengefaaaDoor
open Go.RowKit
set_option linter.unusedSimpArgs false
set_option maxRecDepth 100000

section
variable {P : Program} {md : Region.Mode} {ops : Array Oper} {Q : Exit → Act → World → Prop} {S : World → Prop} {oi : Oper} {d fuel : Nat} {listed : Array Bool} {a : Act} {w : World}
theorem tbs (i j : Nat) {oj : Oper} (h : ∀ K' : Act → World → Prop, Shut (∀ v w, S w → (S w → wpAnyH P md ops Q S fuel (listed.setIfInBounds i true) (a.put (some d) v) w) → K' (a.put oi.dst v) w) → if Region.wanted oi (yielded ops a.tmps) = true then Oper.wp P oi a w K' Q else K' (a.put oi.dst undef) w)
    (h' : ∀ K' : Act → World → Prop, Shut (∀ v w, S w → (S w → wpAnyH P md ops Q S fuel (listed.setIfInBounds j true) a w) → K' (a.put oj.dst v) w) → if Region.wanted oj (yielded ops a.tmps) = true then Oper.wp P oj a w K' Q else K' (a.put oj.dst undef) w)
    (hi : ops[i]? = some oi := by rfl) (hd : oi.dst = some d := by rfl) (hj : ops[j]? = some oj := by rfl) (he : oj.dst = none := by rfl) (hr : Region.ready md ops listed = [i, j] := by kernel_rfl) : wpAnyH P md ops Q S (fuel + 1) listed a w :=
  wpAnyH_ready hr (by simp) (AllReadyH.cons hi (fun K' hK => h K' (fun v w h1 h2 => hK.out _ w h1 (fun h3 => hd ▸ h2 h3))) (AllReadyH.cons hj (fun K' hK => h' K' (fun v w h1 h2 => hK.out _ w h1 (fun h3 => by rw [he]; exact h2 h3))) AllReadyH.nil))
end

/-- The boxes of the two pods (c, d) and of the term (tl); g: the block of a list of the term, if it is made. -/
def BS (w : World) (tl c d : List Value) (g : Option Nat) (u : World) : Prop :=
  BoxL u w.heap.size c ∧ BoxL u (w.heap.size + 1) d ∧ BoxL u (w.heap.size + 1 + 1) tl ∧ (∀ G, g = some G → BoxL u G tl ∧ w.heap.size + 1 + 1 < G) ∧ Below w.heap.size w u
theorem BS.drew {w u : World} {tl c d : List Value} {g : Option Nat} (h : BS w tl c d g u) : BS w tl c d g u.drew :=
  have hb : Below u.heap.size u u.drew := (Below.refl _ _).drew
  ⟨h.1.on hb, h.2.1.on hb, h.2.2.1.on hb, fun G e => ⟨(h.2.2.2.1 G e).1.on hb, (h.2.2.2.1 G e).2⟩, on2 h.2.2.2.2 hb⟩
theorem BS.mk {w u : World} {tl c d : List Value} (h : BS w tl c d none u) (T : TypeId) : BS w tl c d (some u.heap.size) (u.alloc (.cells tl.toArray T)) :=
  have hb : Below u.heap.size u (u.alloc (.cells tl.toArray T)) := (Below.refl _ _).alloc (Nat.le_refl _) _
  ⟨h.1.on hb, h.2.1.on hb, h.2.2.1.on hb, fun G e => by cases e; exact ⟨BoxL.new u T tl, h.2.2.1.1⟩, on2 h.2.2.2.2 hb⟩
theorem BS.mk8 {w u : World} {tl c d : List Value} {G : Nat} (h : BS w tl c d none u) (T : TypeId) (hG : u.heap.size = G) : BS w tl c d (some G) (u.alloc (.cells tl.toArray T)) := hG ▸ h.mk T
theorem BS.setP {w u : World} {tl c d : List Value} {g : Option Nat} (h : BS w tl c d g u) (i : Nat) (v : Value) (hi : i < c.length) : BS w tl (c.set i v) d g (u.setCell ⟨w.heap.size, i, none⟩ v) :=
  ⟨h.1.set i v hi, h.2.1.other (by simp) _, h.2.2.1.other (by simp; omega) _, fun G e => ⟨(h.2.2.2.1 G e).1.other (by have := (h.2.2.2.1 G e).2; simp; omega) _, (h.2.2.2.1 G e).2⟩, h.2.2.2.2.setCell (Nat.le_refl _) _⟩
theorem BS.setQ {w u : World} {tl c d : List Value} {g : Option Nat} (h : BS w tl c d g u) (i : Nat) (v : Value) (hi : i < d.length) : BS w tl c (d.set i v) g (u.setCell ⟨w.heap.size + 1, i, none⟩ v) :=
  ⟨h.1.other (by simp) _, h.2.1.set i v hi, h.2.2.1.other (by simp) _, fun G e => ⟨(h.2.2.2.1 G e).1.other (by have := (h.2.2.2.1 G e).2; simp; omega) _, (h.2.2.2.1 G e).2⟩, h.2.2.2.2.setCell (by simp) _⟩

def oneApP (p : PodD) (t : TermD) : PodD := (p.1, p.2.1, p.2.2.1, p.2.2.2.1, p.2.2.2.2.1, p.2.2.2.2.2.1, p.2.2.2.2.2.2.1, p.2.2.2.2.2.2.2.1, p.2.2.2.2.2.2.2.2.1, [t], p.2.2.2.2.2.2.2.2.2.2)
theorem RPod.oneAp {A : Where} {w : World} {cs : List Value} {p : PodD} {a : Option Addr} {cap : Nat} {t : TermD} (h : RPod A w cs p) (hs : SlAt RTerm 2 40 A w a 1 cap [t]) : RPod A w (cs.set 11 (.slice a 1 cap)) (oneApP p t) := by
  obtain ⟨h2, h6, h7, h8, h9, h10, h11, h12, h13, rfl, p0, p1, p2, p3, p4, p5, p6, _, p8, p9, p10, p11⟩ := h.out
  exact RPod.mk (x := oneApP p t) (h11 := (a, 1, cap)) p0 p1 p2 p3 p4 p5 p6 hs p8 p9 p10 p11
/-- One keeps apart from the other: both ways. -/
theorem one_term {w u : World} {r1 : Option Addr} {r2 r3 : Nat} {t : TermD} {G : Nat} (hb : Below w.heap.size w u) (hR : SlAt RReq 3 48 (fun _ => True) w r1 r2 r3 t.1 ∧ t.2.size ≤ 140737488355328) (hG : BoxL u G [.slice r1 r2 r3, .string t.2]) : SlAt RTerm 2 40 (fun _ => True) u (some ⟨G, 0, none⟩) 1 1 [t] := by
  refine ⟨rfl, Nat.le_refl _, (fun e => by cases e), by omega, fun _ => ⟨G, 0, rfl, hG.1, trivial, fun i hi => ?_⟩⟩
  obtain rfl : i = 0 := by omega
  exact ⟨[.slice r1 r2 r3, .string t.2], RTerm.mk (x := t) (h0 := (r1, r2, r3)) (hR.1.on RReq.firm hb) hR.2, fun j v hj => by simpa using (hG.2 j v hj).1⟩
theorem RPod.lit8 {A : Where} {w : World} {cs : List Value} {x : PodD} (h : RPod A w cs x) : ∃ v0 v1 v2 v3 v4 v5 v6 v7 v8 v9 v10 v11 v12 v13 v14 v15 : Value, cs = [v0, v1, v2, v3, v4, v5, v6, v7, v8, v9, v10, v11, v12, v13, v14, v15] := by
  obtain ⟨_, _, _, _, _, _, _, _, _, rfl, _⟩ := h.out
  exact ⟨_, _, _, _, _, _, _, _, _, _, _, _, _, _, _, _, rfl⟩
theorem both_plain (p q : PodD) (L : List Lab) (t : TermD) (hn : sEq p.1 q.1 = false) :
    (nearP (oneApP (noNrP p) t) L [(noApP (noNrP q), L)] = 10 ∧ nearP (noApP (noNrP q)) L [(oneApP (noNrP p) t, L)] = 11) ∨ (nearP (oneApP (noNrP p) t) L [(noApP (noNrP q), L)] = 0 ∧ nearP (noApP (noNrP q)) L [(oneApP (noNrP p) t, L)] = 0) := by
  have hn' : sEq q.1 p.1 = false := by unfold sEq at hn ⊢; rw [← hn]; exact BEq.comm
  rw [near_ref, near_ref]
  have o1 : othersN (oneApP (noNrP p) t).1 [(noApP (noNrP q), L)] = [(noApP (noNrP q), L)] := by
    unfold othersN
    rw [List.filter_cons_of_pos (by show (!sEq q.1 p.1) = true; rw [hn']; rfl)]; rfl
  have o2 : othersN (noApP (noNrP q)).1 [(oneApP (noNrP p) t, L)] = [(oneApP (noNrP p) t, L)] := by
    unfold othersN
    rw [List.filter_cons_of_pos (by show (!sEq p.1 q.1) = true; rw [hn]; rfl)]; rfl
  unfold refN
  rw [o1, o2]
  have a1 : whyR8 (pLabs (oneApP (noNrP p) t)) (pNear (oneApP (noNrP p) t)) (pApart (oneApP (noNrP p) t)) L [(noApP (noNrP q), L)] = if (matchL (pLabs q) t.1 && sameL L L t.2) = true then 10 else 0 := by
    show whyR8 (pLabs p) [] [t] L [(noApP (noNrP q), L)] = _
    have e1 : pApart (noApP (noNrP q)) = [] := rfl
    have e2 : pLabs (noApP (noNrP q)) = pLabs q := rfl
    unfold whyR8 thereT rOthX
    simp [e1, e2]
  have a2 : whyR8 (pLabs (noApP (noNrP q))) (pNear (noApP (noNrP q))) (pApart (noApP (noNrP q))) L [(oneApP (noNrP p) t, L)] = if (matchL (pLabs q) t.1 && sameL L L t.2) = true then 11 else 0 := by
    show whyR8 (pLabs q) [] [] L [(oneApP (noNrP p) t, L)] = _
    have e1 : pApart (oneApP (noNrP p) t) = [t] := rfl
    unfold whyR8 rOthX
    simp [e1]
  rw [a1, a2]
  cases (matchL (pLabs q) t.1 && sameL L L t.2) <;> simp
end Go.Proofs.YtfnafgmengefaaaDoor
