/- Several rows of one's own side by side: an append to one leaves the others. Plain facts on worlds. No condition. Two rows of one's own side by side: picks, and the names of volumes that are picked; the plan as far as it has come. Plain facts on worlds. No condition. base.Texts and base.Ints give rows of their own. Condition: the slice lies as is said of it. The document's Free of layer 10: the names of the volumes that are free. Condition: the state lies as is said of it. The document's Plan of layer 10. Condition: the arguments lie as is said of them; the claims in use and the pod's are together not above a thousand millions. slices.Clone at the six kinds of objects: rows of one's own. Condition: what is cloned lies as is said of it. -/
import Derived.Test.YtgofpmcoffgffaaQ05
import Derived.Test.YtgofpmcoffgffaaQ15
import Derived.Test.YtgofpmcoffgffaaQ04
import Derived.Test.YtgofpmcoffgffaaQ02
import Derived.Test.YtgofpmcoffgffaaQ07
import Derived.Great.BuildSlice
import Derived.Test.YtgofpmcoffgffaaQ13
import Derived.Test.YtgofpmcoffgffaaQ03
namespace Go.Proofs.Ytgofpmcoffgffaa
open Go.RowKit
set_option linter.unusedSimpArgs false

section
variable {α : Type} [Inhabited α] {R : Rep α} {k : Nat}
theorem Row.lt {A : Where} {w0 u : World} {e : TypeId} {v : Value} {L : List α} (h : Row R k A w0 u e v L) {b : Nat} (hb : v.ownBlock = some b) : w0.heap.size ≤ b ∧ b < u.heap.size := by
  obtain ⟨xs, h1, _⟩ := h
  exact h1.2.lt b hb
theorem Row.grown (hR : Firm R k) {A : Where} {w0 u u' : World} {row : Option Nat} {e : TypeId} {v : Value} {L : List α} (h : Row R k A w0 u e v L) (hg : u.grownBy u' row) (hn : ∀ b, row = some b → w0.heap.size ≤ b ∧ v.ownBlock ≠ some b ∧ ¬ A b) : Row R k A w0 u' e v L := by
  obtain ⟨xs, ⟨h1, h0, h2⟩, h3⟩ := h
  refine ⟨xs, ⟨?_, h0, ?_⟩, h3.kept hR (Kept.grown hg (fun b hb h => (hn b hb).2.2 h.1))⟩
  · exact Below.grown h1 hg h1.size (fun b hb => (hn b hb).1)
  · rcases h2 with h2 | ⟨g, cap, cur, hv, hg0, hh, r⟩
    · exact .inl h2
    · refine .inr ⟨g, cap, cur, hv, hg0, ?_, r⟩
      rw [hg.block g ?_ ?_]
      · exact hh
      · rcases Nat.lt_or_ge g u.heap.size with h | h
        · exact h
        · rw [Array.getElem?_eq_none h] at hh; cases hh
      · intro e1
        have := (hn g e1.symm).2.1
        rw [hv] at this
        exact this rfl
/-- An append of what lies in a slice, or in none, with the place of the new row. -/
theorem row_appendP_wp (hR : Firm R k) {o : Oper} {a : Act} {K : Act → World → Prop} {Q : Exit → Act → World → Prop} {A : Where} {w0 u : World} (s x : Operand) (t e : TypeId)
    (ho : o.op = .call { callee := .builtin .append, args := #[s, x], argTypes := #[t, t] }) (z : Value) (bytes : Nat) (hinfo : (Try.prog.info? e).map (fun i => (i.zero, i.size, i.bytes)) = some (some z, k, bytes)) (ht : Try.prog.underlying t = some (.slice e)) (hzs : z.cells.size = k) (hk0 : 0 < k) (hby : 1 ≤ bytes)
    (v : Value) (L : List α) (hs : a.eval s = v) (hrow : Row R k A w0 u e v L)
    (ad : Option Addr) (m c : Nat) (N : List α) (hx : a.eval x = .slice ad m c) (hN : Src R k (fun b => A b ∧ v.ownBlock ≠ some b) u ad m N) (hb : (L.length + N.length) * bytes ≤ 140737488355328)
    (h : ∀ v' u', Row R k A w0 u' e v' (L ++ N) → u.grownBy u' v.ownBlock → (v'.ownBlock = v.ownBlock ∨ v'.ownBlock = some u.heap.size) → K (a.put o.dst v') u') : o.wp Try.prog a u K Q := by
  obtain ⟨hm, hN⟩ := hN
  rcases hN with ⟨rfl, rfl⟩ | ⟨ad, news, rfl, hN, hcells, h1⟩
  · obtain rfl : m = 0 := by simpa using hm.symm
    obtain ⟨i0, hi, hz0, hz1, hz2⟩ := info_parts hinfo
    have hr : ∀ ty, (Builtin.append_ #[t, t] ty #[v, .slice none 0 c]).run Try.prog u = .ok v u := by
      intro ty
      obtain ⟨xs, hown, _⟩ := hrow
      rcases hown.2.2 with ⟨rfl, _⟩ | ⟨g, cap, cur, rfl, _, hg, hnc, _⟩
      · simp [Builtin.append_, run_underlying ht, sizeOf, typeInfo, hi, Builtin.lenOf, Builtin.firstCells, loadCells, loadCellsFrom]
      · simp [Builtin.append_, run_underlying ht, sizeOf, typeInfo, hi, Builtin.lenOf, Builtin.firstCells, loadCells, loadCellsFrom, hnc, storeCells]
    unfold Oper.wp execOp
    simp only [ho, resolve, invoke, builtin, Sem.run_bind, Sem.run_pure, Result.andThen_ok, List.map_toArray, List.map_cons, List.map_nil, hs, hx, hr]
    exact h v u (by simpa using hrow) ⟨rfl, rfl, rfl, Nat.le_refl _, fun _ _ _ => rfl⟩ (.inl rfl)
  · subst hm
    obtain ⟨i0, hi, hz0, hz1, hz2⟩ := info_parts hinfo
    obtain ⟨xs, hown, hch⟩ := hrow
    have hmul : (L.length + N.length) * 1 ≤ (L.length + N.length) * bytes := Nat.mul_le_mul_left _ hby
    obtain ⟨v', u', hr, h2, h3, h4, h5⟩ := run_append_own_at (P := Try.prog) u w0.heap.size t o.type e i0 z k bytes ht hi hz0 hz1 hz2 hzs hk0 v L.length xs hown.2 ad N.length c news hN.1 hcells h1 (by unfold maxLen; omega) hb hown.1.size
    unfold Oper.wp execOp
    simp only [ho, resolve, invoke, builtin, Sem.run_bind, Sem.run_pure, Result.andThen_ok, List.map_toArray, List.map_cons, List.map_nil, hs, hx, hr]
    refine (h v' u' ⟨xs ++ news, ⟨hown.row h3, by rw [List.length_append]; exact h2⟩, ?_⟩ h3 h5)
    have put : ∀ {ys : List Value} {M : List α}, Chunks R k (fun b => A b ∧ v.ownBlock ≠ some b) u ys M → Chunks R k (fun b => A b ∧ v'.ownBlock ≠ some b) u' ys M := fun {ys M} hc => by
      have c1 := hc.weak hR (A' := fun b => (A b ∧ v.ownBlock ≠ some b) ∧ b < u.heap.size) (fun b hb h => ⟨h, hb⟩)
      have c2 := c1.kept hR (Kept.grown h3 (fun b e => fun h => h.1.2 e))
      refine c2.weak hR (fun b _ h => ⟨h.1.1, fun e => ?_⟩)
      rcases h5 with h5 | h5
      · rw [h5] at e; exact h.1.2 e
      · rw [h5] at e
        have : u.heap.size = b := by simpa using e
        exact absurd h.2 (by omega)
    obtain ⟨l1, c1⟩ := put hch
    obtain ⟨l2, c2⟩ := put hN
    refine ⟨by rw [List.length_append, List.length_append, l1, l2, Nat.add_mul], fun i hi => ?_⟩
    rcases Nat.lt_or_ge i L.length with h' | h'
    · obtain ⟨cs, q1, q2⟩ := c1 i h'
      have e : (L ++ N).getD i default = L.getD i default := by rw [getE _ _ hi, getE _ _ h', List.getElem_append_left h']
      refine ⟨cs, by rw [e]; exact q1, fun j hj => ?_⟩
      rw [List.getElem?_append_left (by have : (i + 1) * k ≤ L.length * k := Nat.mul_le_mul_right k h'; rw [Nat.add_mul] at this; omega)]
      exact q2 j hj
    · have h'' : i - L.length < N.length := by simp at hi; omega
      obtain ⟨cs, q1, q2⟩ := c2 (i - L.length) h''
      have e : (L ++ N).getD i default = N.getD (i - L.length) default := by rw [getE _ _ hi, getE _ _ h'', List.getElem_append_right h']
      refine ⟨cs, by rw [e]; exact q1, fun j hj => ?_⟩
      have hle : L.length * k ≤ i * k := Nat.mul_le_mul_right k h'
      rw [List.getElem?_append_right (by omega), l1, idx_part i L.length k j h', ← q2 j hj]
/-- At a plain region's list of operations. -/
theorem row_appendP (hR : Firm R k) {ops : Array Oper} {rest : List Oper} {o : Oper} {a : Act} {Q : Exit → Act → World → Prop} {A : Where} {w0 u : World} (hgd : Region.wanted o (yielded ops a.tmps) = true) (s x : Operand) (t e : TypeId)
    (ho : o.op = .call { callee := .builtin .append, args := #[s, x], argTypes := #[t, t] }) (z : Value) (bytes : Nat) (hinfo : (Try.prog.info? e).map (fun i => (i.zero, i.size, i.bytes)) = some (some z, k, bytes)) (ht : Try.prog.underlying t = some (.slice e)) (hzs : z.cells.size = k) (hk0 : 0 < k) (hby : 1 ≤ bytes)
    (v : Value) (L : List α) (hs : a.eval s = v) (hrow : Row R k A w0 u e v L)
    (ad : Option Addr) (m c : Nat) (N : List α) (hx : a.eval x = .slice ad m c) (hN : Src R k (fun b => A b ∧ v.ownBlock ≠ some b) u ad m N) (hb : (L.length + N.length) * bytes ≤ 140737488355328)
    (h : ∀ v' u', Row R k A w0 u' e v' (L ++ N) → u.grownBy u' v.ownBlock → (v'.ownBlock = v.ownBlock ∨ v'.ownBlock = some u.heap.size) → wpList Try.prog ops Q rest (a.put o.dst v') u') : wpList Try.prog ops Q (o :: rest) a u :=
  BigFrame.wpList_want hgd (fun _ hK => row_appendP_wp hR s x t e ho z bytes hinfo ht hzs hk0 hby v L hs hrow ad m c N hx hN hb (fun v' u' h2 h3 h4 => hK _ _ (h v' u' h2 h3 h4)))
end
end Go.Proofs.Ytgofpmcoffgffaa
namespace Go.Proofs.Ytgofpmcoffgffaa
open Go.RowKit
set_option linter.unusedSimpArgs false
set_option maxRecDepth 100000

def TwoR (w0 u : World) (v1 v2 : Value) (o : List PickD) (l : List ByteArray) : Prop :=
  Row RLabel 2 (fun _ => False) w0 u 68 v1 o ∧ Row RStr 1 (fun _ => False) w0 u 9 v2 l ∧ ∀ b, v1.ownBlock = some b → v2.ownBlock ≠ some b
theorem TwoR.below {w0 u : World} {v1 v2 : Value} {o : List PickD} {l : List ByteArray} (h : TwoR w0 u v1 v2 o l) : Below w0.heap.size w0 u := h.1.below
theorem TwoR.on {w0 u u' : World} {v1 v2 : Value} {o : List PickD} {l : List ByteArray} (h : TwoR w0 u v1 v2 o l) (hb : Below u.heap.size u u') : TwoR w0 u' v1 v2 o l := ⟨h.1.on RLabel.firm hb, h.2.1.on RStr.firm hb, h.2.2⟩
theorem TwoR.start {w0 : World} {u : World} (hb : Below w0.heap.size w0 u) : TwoR w0 ((u.alloc (.cells #[] 68)).alloc (.cells #[] 9)) (.slice (some ⟨u.heap.size, 0, none⟩) 0 0) (.slice (some ⟨u.heap.size + 1, 0, none⟩) 0 0) [] [] := by
  have h1 : Row RLabel 2 (fun _ => False) w0 (u.alloc (.cells #[] 68)) 68 (.slice (some ⟨u.heap.size, 0, none⟩) 0 0) [] := Row.start _ w0 u _ hb
  have h2 : Row RStr 1 (fun _ => False) w0 ((u.alloc (.cells #[] 68)).alloc (.cells #[] 9)) 9 (.slice (some ⟨(u.alloc (.cells #[] 68)).heap.size, 0, none⟩) 0 0) [] := Row.start _ w0 _ _ h1.below
  refine ⟨h1.on RLabel.firm ((Below.refl _ _).alloc (Nat.le_refl _) _), by simpa using h2, fun b hb hc => ?_⟩
  simp only [Value.ownBlock, Option.some.injEq] at hb hc
  omega
theorem TwoR.fst {w0 u u' : World} {v1 v2 v1' : Value} {o o' : List PickD} {l : List ByteArray} (h : TwoR w0 u v1 v2 o l) (hr : Row RLabel 2 (fun _ => False) w0 u' 68 v1' o') (hg : u.grownBy u' v1.ownBlock) (hw : v1'.ownBlock = v1.ownBlock ∨ v1'.ownBlock = some u.heap.size) : TwoR w0 u' v1' v2 o' l := by
  obtain ⟨h1, h2, h3⟩ := h
  refine ⟨hr, h2.grown RStr.firm hg (fun b hb => ⟨(h1.lt hb).1, h3 b hb, id⟩), fun b hb => ?_⟩
  rcases hw with hw | hw
  · exact h3 b (hw ▸ hb)
  · rw [hw] at hb
    injection hb with hb
    subst hb
    exact fun e => by have := (h2.lt e).2; omega
theorem TwoR.snd {w0 u u' : World} {v1 v2 v2' : Value} {o : List PickD} {l l' : List ByteArray} (h : TwoR w0 u v1 v2 o l) (hr : Row RStr 1 (fun _ => False) w0 u' 9 v2' l') (hg : u.grownBy u' v2.ownBlock) (hw : v2'.ownBlock = v2.ownBlock ∨ v2'.ownBlock = some u.heap.size) : TwoR w0 u' v1 v2' o l' := by
  obtain ⟨h1, h2, h3⟩ := h
  refine ⟨h1.grown RLabel.firm hg (fun b hb => ⟨(h2.lt hb).1, fun e => h3 b e hb, id⟩), hr, fun b hb => ?_⟩
  rcases hw with hw | hw
  · rw [hw]; exact h3 b hb
  · rw [hw]
    intro e
    injection e with e
    have := (h1.lt hb).2
    omega
theorem src_one10 {α : Type} [Inhabited α] {R : Rep α} {k : Nat} (hR : Firm R k) (hF : Flat R) {A : Where} {u : World} {B : Nat} {cs : List Value} {x : α} (hb : BoxL u B cs) (hr : R (fun _ => True) u cs x) : Src R k A u (some ⟨B, 0, none⟩) 1 [x] := by
  have h : SlAt R k 1 (fun _ => True) u (some ⟨B, 0, none⟩) 1 1 [x] := by
    refine ⟨rfl, Nat.le_refl _, (fun h => by cases h), by decide, fun _ => ⟨B, 0, rfl, hb.1, trivial, fun i hi => ?_⟩⟩
    obtain rfl : i = 0 := by omega
    refine ⟨cs, hr, fun j v hj => ?_⟩
    have := (hb.2 j v hj).1
    simpa using this
  exact (h.src hR).flat hF
theorem planL_cons (st : VC) (K : List ClassD) (NL : List Lab) (nm : ByteArray) (r : List ByteArray) (out : List PickD) : planL st K NL (nm :: r) out = match stepP st K NL (out.map Prod.snd) nm with | .error e => .error e | .ok none => planL st K NL r out | .ok (some pk) => planL st K NL r (out ++ [pk]) := rfl
theorem plan_append {st : VC} {K : List ClassD} {NL : List Lab} : ∀ (P Q : List ByteArray) (out : List PickD), planL st K NL (P ++ Q) out = match planL st K NL P out with | .error e => .error e | .ok o => planL st K NL Q o
  | [], Q, out => rfl
  | nm :: P, Q, out => by
    rw [List.cons_append, planL_cons, planL_cons]
    cases stepP st K NL (out.map Prod.snd) nm with
    | error e => rfl
    | ok o =>
      cases o with
      | none => exact plan_append P Q out
      | some pk => exact plan_append P Q (out ++ [pk])
/-- One claim more. -/
theorem plan_step {st : VC} {K : List ClassD} {NL : List Lab} {L : List ByteArray} {k : Nat} {out : List PickD} (hk : k < L.length) (h : planL st K NL (L.take k) [] = .ok out) :
    (∀ e, stepP st K NL (out.map Prod.snd) (L.getD k default) = .error e → planL st K NL L [] = .error e) ∧ (stepP st K NL (out.map Prod.snd) (L.getD k default) = .ok none → planL st K NL (L.take (k + 1)) [] = .ok out) ∧ ∀ pk, stepP st K NL (out.map Prod.snd) (L.getD k default) = .ok (some pk) → planL st K NL (L.take (k + 1)) [] = .ok (out ++ [pk]) := by
  have e1 : L.take (k + 1) = L.take k ++ [L.getD k default] := by rw [List.take_succ_eq_append_getElem hk, List.getD_eq_getElem?_getD, List.getElem?_eq_getElem hk]; rfl
  have e2 : planL st K NL (L.take (k + 1)) [] = planL st K NL [L.getD k default] out := by rw [e1, plan_append, h]
  refine ⟨fun e he => ?_, fun he => ?_, fun pk he => ?_⟩
  · rw [← List.take_append_drop (k + 1) L, plan_append, e2]
    unfold planL
    rw [he]
  · rw [e2]
    unfold planL
    rw [he]
    rfl
  · rw [e2]
    unfold planL
    rw [he]
    rfl
end Go.Proofs.Ytgofpmcoffgffaa
namespace Go.Proofs.Ytgofpmcoffgffaa
open Go.RowKit
set_option linter.unusedSimpArgs false
set_option maxRecDepth 100000

set_option maxHeartbeats 1000000 in
theorem Texts_row (a : Option Addr) (n cap : Nat) (A : Where) (L : List ByteArray) (w : World) (hL : Hid (SlAt RStr 1 16 A w a n cap L)) : Calls Try.prog 52 #[.slice a n cap] w fun e w' => ∃ v, e = .returned v ∧ Row RStr 1 (fun _ => False) w w' 9 v L := by
  have hb0 : Below w.heap.size w (w.alloc (.cells #[] 9)) := by go_grown
  have HR : Hid (Row RStr 1 (fun _ => False) w (w.alloc (.cells #[] 9)) 9 (.slice (some ⟨w.heap.size, 0, none⟩) 0 0) []) := Row.start _ w w _ (Below.refl _ _)
  have HN : Hid (Src RStr 1 (fun b => False ∧ Value.ownBlock (.slice (some ⟨w.heap.size, 0, none⟩) 0 0) ≠ some b) (w.alloc (.cells #[] 9)) a n L) := ((hL.out.on RStr.firm hb0).src RStr.firm).flat RStr.flat
  have HB : Hid ((([] : List ByteArray).length + L.length) * 16 ≤ 140737488355328) := by have h1 := hL.out.2.2.2.1; have h2 := hL.out.1; rw [Hid, h2]; simp; omega
  clear hb0 hL
  go_enter Try.func52, Try.ntmps52
  go_wp2_with (at_builtin; go_must (refine row_appendS RStr.firm (A := (fun _ => False)) (w0 := w) rfl _ _ 31 9 rfl _ 16 infostr Try.underlying31 rfl (by decide) (by decide) _ [] rfl HR.out a n cap L rfl HN.out HB.out ?_); intro v1 w1 hrow1 hg1)
  go_ret
  exact ⟨v1, rfl, by simpa using hrow1⟩
set_option maxHeartbeats 1000000 in
theorem Ints_row (a : Option Addr) (n cap : Nat) (A : Where) (L : List Int) (w : World) (hL : Hid (SlAt RInt 1 8 A w a n cap L)) : Calls Try.prog 50 #[.slice a n cap] w fun e w' => ∃ v, e = .returned v ∧ Row RInt 1 (fun _ => False) w w' 3 v L := by
  have hb0 : Below w.heap.size w (w.alloc (.cells #[] 3)) := by go_grown
  have HR : Hid (Row RInt 1 (fun _ => False) w (w.alloc (.cells #[] 3)) 3 (.slice (some ⟨w.heap.size, 0, none⟩) 0 0) []) := Row.start _ w w _ (Below.refl _ _)
  have HN : Hid (Src RInt 1 (fun b => False ∧ Value.ownBlock (.slice (some ⟨w.heap.size, 0, none⟩) 0 0) ≠ some b) (w.alloc (.cells #[] 3)) a n L) := ((hL.out.on RInt.firm hb0).src RInt.firm).flat RInt.flat
  have HB : Hid ((([] : List Int).length + L.length) * 8 ≤ 140737488355328) := by have h1 := hL.out.2.2.2.1; have h2 := hL.out.1; rw [Hid, h2]; simp; omega
  clear hb0 hL
  go_enter Try.func50, Try.ntmps50
  go_wp2_with (at_builtin; go_must (refine row_appendS RInt.firm (A := (fun _ => False)) (w0 := w) rfl _ _ 28 3 rfl _ 8 infoint Try.underlying28 rfl (by decide) (by decide) _ [] rfl HR.out a n cap L rfl HN.out HB.out ?_); intro v1 w1 hrow1 hg1)
  go_ret
  exact ⟨v1, rfl, by simpa using hrow1⟩
end Go.Proofs.Ytgofpmcoffgffaa
namespace Go.Proofs.Ytgofpmcoffgffaa
open Go.RowKit
set_option linter.unusedSimpArgs false
set_option maxRecDepth 100000

theorem free_take {L : List VolumeD} {k : Nat} (h : k < L.length) : freeP (L.take (k + 1)) = freeP (L.take k) ++ (if sEq (vCl (L.getD k default)) B0 = true then [(L.getD k default).1] else []) := by
  unfold freeP
  rw [List.take_succ_eq_append_getElem h, List.filter_append, List.map_append, List.getD_eq_getElem?_getD, List.getElem?_eq_getElem h]
  simp only [Option.getD_some]
  generalize L[k] = y
  congr 1
  simp only [List.filter_cons, List.filter_nil]
  split <;> rfl
theorem free_le (L : List VolumeD) : (freeP L).length ≤ L.length := by unfold freeP; rw [List.length_map]; exact List.length_filter_le _ _
theorem infoS10 : (Try.prog.info? 9).map (fun i => (i.zero, i.size, i.bytes)) = some (some (.string ⟨#[]⟩), 1, 16) := by kernel_rfl
end Go.Proofs.Ytgofpmcoffgffaa
namespace Go.Proofs.Ytgofpmcoffgffaa
open Go.RowKit
set_option linter.unusedSimpArgs false
set_option maxRecDepth 100000

abbrev pClm (p : PodD) : List ByteArray := p.2.2.2.2.2.2.2.2.2.2.2.1
abbrev iDsk (i : InfoD) : List ByteArray := i.2.2.2.2
abbrev iNum (i : InfoD) : Int := i.1.2.2.2.2.2.2
def planD (p : PodD) (i : InfoD) (x : StateD) : List PickD × Int := planP (stVC x) (sKs x) (iLabs i) (pClm p) (iDsk i) (iNum i)
theorem RPod.clm10 {A : Where} {w : World} {cs : List Value} {p : PodD} (h : RPod A w cs p) : ∃ h13 : Hd, cs[13]? = some (.slice h13.1 h13.2.1 h13.2.2) ∧ SlAt RStr 1 16 A w h13.1 h13.2.1 h13.2.2 (pClm p) := by
  obtain ⟨h2, h6, h7, h8, h9, h10, h11, h12, h13, rfl, _, _, _, _, _, _, _, _, _, s13, _⟩ := h.out
  exact ⟨h13, rfl, s13⟩
theorem want10 {c : Prop} [Decidable c] {A B : Prop} (h : c) (k : A) : if c then A else B := by rw [if_pos h]; exact k
/-- What Plan hands back. -/
def PlOut10 (w : World) (r : List PickD × Int) (e : Ending) (w' : World) : Prop := ∃ v, e = .returned (.tuple #[v, .int .i64 r.2]) ∧ Row RLabel 2 (fun _ => False) w w' 68 v r.1
theorem PlOut10.no {w w' : World} {r : List PickD × Int} {e : Int} (hr : r = ([], e)) (hb : Below w.heap.size w w') : PlOut10 w r (.returned (.tuple #[.slice none 0 0, .int .i64 e])) w' := by
  subst hr
  exact ⟨_, rfl, (Row.nil (fun _ => False) w 68).on RLabel.firm hb⟩
theorem Row.sl10 {α : Type} [Inhabited α] {R : Rep α} {k : Nat} (hR : Firm R k) {bytes : Nat} {A : Where} {w0 u : World} {e : TypeId} {v : Value} {L : List α} (h : Row R k A w0 u e v L) (hb : L.length * bytes ≤ 140737488351232) :
    ∃ a n cap, v = .slice a n cap ∧ SlAt R k bytes (fun _ => True) u a n cap L := by
  obtain ⟨xs, h1, h2⟩ := h
  obtain ⟨a, cap, e1, h3⟩ := sl_of_owns (bytes := bytes) hR h1.2 h2 hb
  exact ⟨a, _, cap, e1, h3.weak hR (fun b _ _ => trivial)⟩
theorem infoPk10 : (Try.prog.info? 68).map (fun i => (i.zero, i.size, i.bytes)) = some (some (.agg #[.string ⟨#[]⟩, .string ⟨#[]⟩]), 2, 32) := by kernel_rfl
theorem sizeCl10 : (Try.prog.info? 57).map (·.size) = some 4 := by kernel_rfl
theorem sizeIn10 : (Try.prog.info? 38).map (·.size) = some 15 := by kernel_rfl
end Go.Proofs.Ytgofpmcoffgffaa
namespace Go.Proofs.Ytgofpmcoffgffaa
open Go.RowKit Go.Maps
set_option linter.unusedSimpArgs false
set_option maxRecDepth 100000

def Lo10 (A : Where) (w : World) : Where := fun b => A b ∧ b < w.heap.size
theorem sl_none10 {α : Type} [Inhabited α] {R : Rep α} {k bytes : Nat} {A : Where} {w : World} {n cap : Nat} {L : List α} (h : SlAt R k bytes A w none n cap L) : n = 0 ∧ cap = 0 ∧ L = [] := by
  obtain ⟨h1, h2, h3, _, _⟩ := h
  have := h3 rfl
  subst this
  obtain rfl : n = 0 := by omega
  exact ⟨rfl, rfl, List.length_eq_zero_iff.1 h1⟩
theorem infcPod : (Try.prog.info? 33).map (fun i => (i.zero, i.size, i.bytes)) = some (some (.agg zPod.toArray), 16, 296) := by kernel_rfl
set_option maxHeartbeats 1000000 in
theorem ClonePod10 (a : Option Addr) (n cap : Nat) (A : Where) (L : List PodD) (w : World) (hL : SlAt RPod 16 296 A w a n cap L) : Calls Try.prog 61 #[.slice a n cap] w fun e w' => ∃ v, e = .returned v ∧ Row RPod 16 (Lo10 A w) w w' 33 v L := by
  have hb0 : Below w.heap.size w (w.alloc (.cells #[] 33)) := by go_grown
  rcases a with _ | ad
  · have hE := fun w => Lib.run_eql_slice_nil (P := Try.prog) w 39 33 none 0 0 0 0 Try.underlying39
    obtain ⟨rfl, rfl, rfl⟩ := sl_none10 hL
    have HP : Hid (Row RPod 16 (Lo10 A w) w w 33 (.slice none 0 0) ([] : List PodD)) := Row.nil _ _ _
    clear hL
    go_enter Try.func61, Try.ntmps61
    go_wp2_with fail
    go_ret
    exact ⟨_, rfl, HP.out⟩
  · have hE := fun w => Lib.run_eql_slice_nil (P := Try.prog) w 39 33 (some ad) n cap 0 0 Try.underlying39
    have hL' : SlAt RPod 16 296 (Lo10 A w) w (some ad) n cap L := hL.weak RPod.firm (fun b hb h => ⟨h, hb⟩)
    obtain ⟨xs, hc, hcell, hone⟩ := (hL'.on RPod.firm hb0).chunks RPod.firm
    have hn := hL.1
    have hbb := hL.2.2.2.1
    subst hn
    have HR : Hid (Row RPod 16 (Lo10 A w) w (w.alloc (.cells #[] 33)) 33 (.slice (some ⟨w.heap.size, 0, none⟩) 0 0) ([] : List PodD)) := Row.start _ w w _ (Below.refl _ _)
    have HC : Hid (Chunks RPod 16 (fun b => Lo10 A w b ∧ Value.ownBlock (.slice (some ⟨w.heap.size, 0, none⟩) 0 0) ≠ some b) (w.alloc (.cells #[] 33)) xs L) := hc.weak RPod.firm (fun b _ h => ⟨h, by simp only [Value.ownBlock, ne_eq, Option.some.injEq]; have := h.2; omega⟩)
    have HX : Hid (∀ j y, xs[j]? = some y → (w.alloc (.cells #[] 33)).cell? (ad.add j) = some y) := hcell
    have HO : Hid (∀ y ∈ xs, y.oneCell' = true) := hone
    clear hc hcell hone hL hL'
    go_enter Try.func61, Try.ntmps61
    go_wp2_with (at_builtin; go_must (refine row_append RPod.firm (A := (Lo10 A w)) (w0 := w) rfl _ _ 39 33 rfl _ 296 infcPod Try.underlying39 rfl (by decide) (by decide) _ [] rfl HR.out ad L.length cap xs L rfl rfl HC.out HX.out HO.out (by simp; omega) ?_); intro v1 w1 hrow1 hg1)
    go_ret
    exact ⟨_, rfl, by simpa using hrow1⟩
theorem infcNode : (Try.prog.info? 36).map (fun i => (i.zero, i.size, i.bytes)) = some (some (.agg zNode.toArray), 9, 112) := by kernel_rfl
set_option maxHeartbeats 1000000 in
theorem CloneNode10 (a : Option Addr) (n cap : Nat) (A : Where) (L : List NodeD) (w : World) (hL : SlAt RNode 9 112 A w a n cap L) : Calls Try.prog 62 #[.slice a n cap] w fun e w' => ∃ v, e = .returned v ∧ Row RNode 9 (Lo10 A w) w w' 36 v L := by
  have hb0 : Below w.heap.size w (w.alloc (.cells #[] 36)) := by go_grown
  rcases a with _ | ad
  · have hE := fun w => Lib.run_eql_slice_nil (P := Try.prog) w 40 36 none 0 0 0 0 Try.underlying40
    obtain ⟨rfl, rfl, rfl⟩ := sl_none10 hL
    have HP : Hid (Row RNode 9 (Lo10 A w) w w 36 (.slice none 0 0) ([] : List NodeD)) := Row.nil _ _ _
    clear hL
    go_enter Try.func62, Try.ntmps62
    go_wp2_with fail
    go_ret
    exact ⟨_, rfl, HP.out⟩
  · have hE := fun w => Lib.run_eql_slice_nil (P := Try.prog) w 40 36 (some ad) n cap 0 0 Try.underlying40
    have hL' : SlAt RNode 9 112 (Lo10 A w) w (some ad) n cap L := hL.weak RNode.firm (fun b hb h => ⟨h, hb⟩)
    obtain ⟨xs, hc, hcell, hone⟩ := (hL'.on RNode.firm hb0).chunks RNode.firm
    have hn := hL.1
    have hbb := hL.2.2.2.1
    subst hn
    have HR : Hid (Row RNode 9 (Lo10 A w) w (w.alloc (.cells #[] 36)) 36 (.slice (some ⟨w.heap.size, 0, none⟩) 0 0) ([] : List NodeD)) := Row.start _ w w _ (Below.refl _ _)
    have HC : Hid (Chunks RNode 9 (fun b => Lo10 A w b ∧ Value.ownBlock (.slice (some ⟨w.heap.size, 0, none⟩) 0 0) ≠ some b) (w.alloc (.cells #[] 36)) xs L) := hc.weak RNode.firm (fun b _ h => ⟨h, by simp only [Value.ownBlock, ne_eq, Option.some.injEq]; have := h.2; omega⟩)
    have HX : Hid (∀ j y, xs[j]? = some y → (w.alloc (.cells #[] 36)).cell? (ad.add j) = some y) := hcell
    have HO : Hid (∀ y ∈ xs, y.oneCell' = true) := hone
    clear hc hcell hone hL hL'
    go_enter Try.func62, Try.ntmps62
    go_wp2_with (at_builtin; go_must (refine row_append RNode.firm (A := (Lo10 A w)) (w0 := w) rfl _ _ 40 36 rfl _ 112 infcNode Try.underlying40 rfl (by decide) (by decide) _ [] rfl HR.out ad L.length cap xs L rfl rfl HC.out HX.out HO.out (by simp; omega) ?_); intro v1 w1 hrow1 hg1)
    go_ret
    exact ⟨_, rfl, by simpa using hrow1⟩
theorem infcVolume : (Try.prog.info? 59).map (fun i => (i.zero, i.size, i.bytes)) = some (some (.agg zVolume.toArray), 5, 80) := by kernel_rfl
set_option maxHeartbeats 1000000 in
theorem CloneVolume10 (a : Option Addr) (n cap : Nat) (A : Where) (L : List VolumeD) (w : World) (hL : SlAt RVolume 5 80 A w a n cap L) : Calls Try.prog 63 #[.slice a n cap] w fun e w' => ∃ v, e = .returned v ∧ Row RVolume 5 (Lo10 A w) w w' 59 v L := by
  have hb0 : Below w.heap.size w (w.alloc (.cells #[] 59)) := by go_grown
  rcases a with _ | ad
  · have hE := fun w => Lib.run_eql_slice_nil (P := Try.prog) w 41 59 none 0 0 0 0 Try.underlying41
    obtain ⟨rfl, rfl, rfl⟩ := sl_none10 hL
    have HP : Hid (Row RVolume 5 (Lo10 A w) w w 59 (.slice none 0 0) ([] : List VolumeD)) := Row.nil _ _ _
    clear hL
    go_enter Try.func63, Try.ntmps63
    go_wp2_with fail
    go_ret
    exact ⟨_, rfl, HP.out⟩
  · have hE := fun w => Lib.run_eql_slice_nil (P := Try.prog) w 41 59 (some ad) n cap 0 0 Try.underlying41
    have hL' : SlAt RVolume 5 80 (Lo10 A w) w (some ad) n cap L := hL.weak RVolume.firm (fun b hb h => ⟨h, hb⟩)
    obtain ⟨xs, hc, hcell, hone⟩ := (hL'.on RVolume.firm hb0).chunks RVolume.firm
    have hn := hL.1
    have hbb := hL.2.2.2.1
    subst hn
    have HR : Hid (Row RVolume 5 (Lo10 A w) w (w.alloc (.cells #[] 59)) 59 (.slice (some ⟨w.heap.size, 0, none⟩) 0 0) ([] : List VolumeD)) := Row.start _ w w _ (Below.refl _ _)
    have HC : Hid (Chunks RVolume 5 (fun b => Lo10 A w b ∧ Value.ownBlock (.slice (some ⟨w.heap.size, 0, none⟩) 0 0) ≠ some b) (w.alloc (.cells #[] 59)) xs L) := hc.weak RVolume.firm (fun b _ h => ⟨h, by simp only [Value.ownBlock, ne_eq, Option.some.injEq]; have := h.2; omega⟩)
    have HX : Hid (∀ j y, xs[j]? = some y → (w.alloc (.cells #[] 59)).cell? (ad.add j) = some y) := hcell
    have HO : Hid (∀ y ∈ xs, y.oneCell' = true) := hone
    clear hc hcell hone hL hL'
    go_enter Try.func63, Try.ntmps63
    go_wp2_with (at_builtin; go_must (refine row_append RVolume.firm (A := (Lo10 A w)) (w0 := w) rfl _ _ 41 59 rfl _ 80 infcVolume Try.underlying41 rfl (by decide) (by decide) _ [] rfl HR.out ad L.length cap xs L rfl rfl HC.out HX.out HO.out (by simp; omega) ?_); intro v1 w1 hrow1 hg1)
    go_ret
    exact ⟨_, rfl, by simpa using hrow1⟩
theorem infcClaim : (Try.prog.info? 57).map (fun i => (i.zero, i.size, i.bytes)) = some (some (.agg zClaim.toArray), 4, 56) := by kernel_rfl
set_option maxHeartbeats 1000000 in
theorem CloneClaim10 (a : Option Addr) (n cap : Nat) (A : Where) (L : List ClaimD) (w : World) (hL : SlAt RClaim 4 56 A w a n cap L) : Calls Try.prog 64 #[.slice a n cap] w fun e w' => ∃ v, e = .returned v ∧ Row RClaim 4 (Lo10 A w) w w' 57 v L := by
  have hb0 : Below w.heap.size w (w.alloc (.cells #[] 57)) := by go_grown
  rcases a with _ | ad
  · have hE := fun w => Lib.run_eql_slice_nil (P := Try.prog) w 42 57 none 0 0 0 0 Try.underlying42
    obtain ⟨rfl, rfl, rfl⟩ := sl_none10 hL
    have HP : Hid (Row RClaim 4 (Lo10 A w) w w 57 (.slice none 0 0) ([] : List ClaimD)) := Row.nil _ _ _
    clear hL
    go_enter Try.func64, Try.ntmps64
    go_wp2_with fail
    go_ret
    exact ⟨_, rfl, HP.out⟩
  · have hE := fun w => Lib.run_eql_slice_nil (P := Try.prog) w 42 57 (some ad) n cap 0 0 Try.underlying42
    have hL' : SlAt RClaim 4 56 (Lo10 A w) w (some ad) n cap L := hL.weak RClaim.firm (fun b hb h => ⟨h, hb⟩)
    obtain ⟨xs, hc, hcell, hone⟩ := (hL'.on RClaim.firm hb0).chunks RClaim.firm
    have hn := hL.1
    have hbb := hL.2.2.2.1
    subst hn
    have HR : Hid (Row RClaim 4 (Lo10 A w) w (w.alloc (.cells #[] 57)) 57 (.slice (some ⟨w.heap.size, 0, none⟩) 0 0) ([] : List ClaimD)) := Row.start _ w w _ (Below.refl _ _)
    have HC : Hid (Chunks RClaim 4 (fun b => Lo10 A w b ∧ Value.ownBlock (.slice (some ⟨w.heap.size, 0, none⟩) 0 0) ≠ some b) (w.alloc (.cells #[] 57)) xs L) := hc.weak RClaim.firm (fun b _ h => ⟨h, by simp only [Value.ownBlock, ne_eq, Option.some.injEq]; have := h.2; omega⟩)
    have HX : Hid (∀ j y, xs[j]? = some y → (w.alloc (.cells #[] 57)).cell? (ad.add j) = some y) := hcell
    have HO : Hid (∀ y ∈ xs, y.oneCell' = true) := hone
    clear hc hcell hone hL hL'
    go_enter Try.func64, Try.ntmps64
    go_wp2_with (at_builtin; go_must (refine row_append RClaim.firm (A := (Lo10 A w)) (w0 := w) rfl _ _ 42 57 rfl _ 56 infcClaim Try.underlying42 rfl (by decide) (by decide) _ [] rfl HR.out ad L.length cap xs L rfl rfl HC.out HX.out HO.out (by simp; omega) ?_); intro v1 w1 hrow1 hg1)
    go_ret
    exact ⟨_, rfl, by simpa using hrow1⟩
theorem infcClass : (Try.prog.info? 65).map (fun i => (i.zero, i.size, i.bytes)) = some (some (.agg zClass.toArray), 2, 24) := by kernel_rfl
set_option maxHeartbeats 1000000 in
theorem CloneClass10 (a : Option Addr) (n cap : Nat) (A : Where) (L : List ClassD) (w : World) (hL : SlAt RClass 2 24 A w a n cap L) : Calls Try.prog 65 #[.slice a n cap] w fun e w' => ∃ v, e = .returned v ∧ Row RClass 2 (Lo10 A w) w w' 65 v L := by
  have hb0 : Below w.heap.size w (w.alloc (.cells #[] 65)) := by go_grown
  rcases a with _ | ad
  · have hE := fun w => Lib.run_eql_slice_nil (P := Try.prog) w 43 65 none 0 0 0 0 Try.underlying43
    obtain ⟨rfl, rfl, rfl⟩ := sl_none10 hL
    have HP : Hid (Row RClass 2 (Lo10 A w) w w 65 (.slice none 0 0) ([] : List ClassD)) := Row.nil _ _ _
    clear hL
    go_enter Try.func65, Try.ntmps65
    go_wp2_with fail
    go_ret
    exact ⟨_, rfl, HP.out⟩
  · have hE := fun w => Lib.run_eql_slice_nil (P := Try.prog) w 43 65 (some ad) n cap 0 0 Try.underlying43
    have hL' : SlAt RClass 2 24 (Lo10 A w) w (some ad) n cap L := hL.weak RClass.firm (fun b hb h => ⟨h, hb⟩)
    obtain ⟨xs, hc, hcell, hone⟩ := (hL'.on RClass.firm hb0).chunks RClass.firm
    have hn := hL.1
    have hbb := hL.2.2.2.1
    subst hn
    have HR : Hid (Row RClass 2 (Lo10 A w) w (w.alloc (.cells #[] 65)) 65 (.slice (some ⟨w.heap.size, 0, none⟩) 0 0) ([] : List ClassD)) := Row.start _ w w _ (Below.refl _ _)
    have HC : Hid (Chunks RClass 2 (fun b => Lo10 A w b ∧ Value.ownBlock (.slice (some ⟨w.heap.size, 0, none⟩) 0 0) ≠ some b) (w.alloc (.cells #[] 65)) xs L) := hc.weak RClass.firm (fun b _ h => ⟨h, by simp only [Value.ownBlock, ne_eq, Option.some.injEq]; have := h.2; omega⟩)
    have HX : Hid (∀ j y, xs[j]? = some y → (w.alloc (.cells #[] 65)).cell? (ad.add j) = some y) := hcell
    have HO : Hid (∀ y ∈ xs, y.oneCell' = true) := hone
    clear hc hcell hone hL hL'
    go_enter Try.func65, Try.ntmps65
    go_wp2_with (at_builtin; go_must (refine row_append RClass.firm (A := (Lo10 A w)) (w0 := w) rfl _ _ 43 65 rfl _ 24 infcClass Try.underlying43 rfl (by decide) (by decide) _ [] rfl HR.out ad L.length cap xs L rfl rfl HC.out HX.out HO.out (by simp; omega) ?_); intro v1 w1 hrow1 hg1)
    go_ret
    exact ⟨_, rfl, by simpa using hrow1⟩
theorem infcBudget : (Try.prog.info? 95).map (fun i => (i.zero, i.size, i.bytes)) = some (some (.agg zBudget.toArray), 3, 48) := by kernel_rfl
set_option maxHeartbeats 1000000 in
theorem CloneBudget10 (a : Option Addr) (n cap : Nat) (A : Where) (L : List BudgetD) (w : World) (hL : SlAt RBudget 3 48 A w a n cap L) : Calls Try.prog 66 #[.slice a n cap] w fun e w' => ∃ v, e = .returned v ∧ Row RBudget 3 (Lo10 A w) w w' 95 v L := by
  have hb0 : Below w.heap.size w (w.alloc (.cells #[] 95)) := by go_grown
  rcases a with _ | ad
  · have hE := fun w => Lib.run_eql_slice_nil (P := Try.prog) w 44 95 none 0 0 0 0 Try.underlying44
    obtain ⟨rfl, rfl, rfl⟩ := sl_none10 hL
    have HP : Hid (Row RBudget 3 (Lo10 A w) w w 95 (.slice none 0 0) ([] : List BudgetD)) := Row.nil _ _ _
    clear hL
    go_enter Try.func66, Try.ntmps66
    go_wp2_with fail
    go_ret
    exact ⟨_, rfl, HP.out⟩
  · have hE := fun w => Lib.run_eql_slice_nil (P := Try.prog) w 44 95 (some ad) n cap 0 0 Try.underlying44
    have hL' : SlAt RBudget 3 48 (Lo10 A w) w (some ad) n cap L := hL.weak RBudget.firm (fun b hb h => ⟨h, hb⟩)
    obtain ⟨xs, hc, hcell, hone⟩ := (hL'.on RBudget.firm hb0).chunks RBudget.firm
    have hn := hL.1
    have hbb := hL.2.2.2.1
    subst hn
    have HR : Hid (Row RBudget 3 (Lo10 A w) w (w.alloc (.cells #[] 95)) 95 (.slice (some ⟨w.heap.size, 0, none⟩) 0 0) ([] : List BudgetD)) := Row.start _ w w _ (Below.refl _ _)
    have HC : Hid (Chunks RBudget 3 (fun b => Lo10 A w b ∧ Value.ownBlock (.slice (some ⟨w.heap.size, 0, none⟩) 0 0) ≠ some b) (w.alloc (.cells #[] 95)) xs L) := hc.weak RBudget.firm (fun b _ h => ⟨h, by simp only [Value.ownBlock, ne_eq, Option.some.injEq]; have := h.2; omega⟩)
    have HX : Hid (∀ j y, xs[j]? = some y → (w.alloc (.cells #[] 95)).cell? (ad.add j) = some y) := hcell
    have HO : Hid (∀ y ∈ xs, y.oneCell' = true) := hone
    clear hc hcell hone hL hL'
    go_enter Try.func66, Try.ntmps66
    go_wp2_with (at_builtin; go_must (refine row_append RBudget.firm (A := (Lo10 A w)) (w0 := w) rfl _ _ 44 95 rfl _ 48 infcBudget Try.underlying44 rfl (by decide) (by decide) _ [] rfl HR.out ad L.length cap xs L rfl rfl HC.out HX.out HO.out (by simp; omega) ?_); intro v1 w1 hrow1 hg1)
    go_ret
    exact ⟨_, rfl, by simpa using hrow1⟩
end Go.Proofs.Ytgofpmcoffgffaa
