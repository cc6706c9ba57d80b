/- Functions of the program, each walked under the conditions that its theorem names. -/
import Derived.WideKeyEntry
import Derived.Maps.Range
import Derived.Maps.OwnSet
import Derived.Sort.KeysCollected
import Derived.Great.BuildSlice
import Derived.Deep.CutBlock
import Derived.Test.YtnffafjamiffnaaGreatQ11
set_option linter.unusedSimpArgs false
set_option maxRecDepth 100000
set_option maxHeartbeats 32000000
namespace Go.Proofs.YtnffafjamiffnaaGreat
open Go.RowKit
theorem zEI {α : Type} {lt eq : α -> α -> Bool} (he : ∀ a b, eq a b = true -> a = b) (s x : α) : ∀ L : List α, x ∈ insB lt eq L s ↔ x ∈ L \/ x = s
 | [] => by simp [insB]
 | y :: L => by
  have ih := zEI (lt := lt) he s x L
  unfold insB
  split
  ·simp only [List.mem_cons, ih]
   constructor
   ·rintro (h | h | h)
    ·exact .inl (.inl h)
    ·exact .inl (.inr h)
    ·exact .inr h
   ·rintro ((h | h) | h)
    ·exact .inl h
    ·exact .inr (.inl h)
    ·exact .inr (.inr h)
  ·split
   ·rename_i h1 h2
    have := he _ _ h2
    subst this
    simp only [List.mem_cons]
    constructor
    ·intro h; exact .inl h
    ·rintro (h | h)
     ·exact h
     ·exact .inl h
   ·simp only [List.mem_cons]
    constructor
    ·rintro (h | h | h)
     ·exact .inr h
     ·exact .inl (.inl h)
     ·exact .inl (.inr h)
    ·rintro ((h | h) | h)
     ·exact .inr (.inl h)
     ·exact .inr (.inr h)
     ·exact .inl h
theorem zEr {α : Type} {lt eq : α -> α -> Bool} (he : ∀ a b, eq a b = true -> a = b) (x : α) : ∀ (L M : List α), x ∈ L.foldl (insB lt eq) M ↔ x ∈ M \/ x ∈ L
 | [], M => by simp
 | y :: L, M => by
  rw [List.foldl_cons, zEr he x L (insB lt eq M y), zEI he]
  simp only [List.mem_cons]
  constructor
  ·rintro ((h | h) | h)
   ·exact .inl h
   ·exact .inr (.inl h)
   ·exact .inr (.inr h)
  ·rintro (h | h | h)
   ·exact .inl (.inl h)
   ·exact .inl (.inr h)
   ·exact .inr h
theorem zCT {α : Type} {lt eq : α -> α -> Bool} (he : ∀ a b, eq a b = true -> a = b) (x : α) (L : List α) : x ∈ sortB lt eq L ↔ x ∈ L := by
 unfold sortB; rw [zEr he]; simp
theorem zE7 {α : Type} {eq : α -> α -> Bool} (he : ∀ a b, eq a b = true ↔ a = b) (L : List α) (s : α) : hasB eq L s = true ↔ s ∈ L := by
 unfold hasB
 rw [List.any_eq_true]
 constructor
 ·rintro ⟨x, h1, h2⟩; rw [<- (he x s).1 h2]; exact h1
 ·intro h; exact ⟨s, h, (he s s).2 rfl⟩
theorem zE0 (a b : Int) : iEq a b = true ↔ a = b := by simp [iEq]
theorem mem_sorted (x : ByteArray) (L : List ByteArray) : x ∈ sortB sLt sEq L ↔ x ∈ L := zCT (fun a b h => (zA7 a b).1 h) x L
end Go.Proofs.YtnffafjamiffnaaGreat
namespace Go.Proofs.YtnffafjamiffnaaGreat
open Go.RowKit Go.Maps Go.ChangeMaps
theorem lawK : WideMaps.KeyLaw Tryz.prog 161 := deep_law_laid zGb (m := 2) (by omega) rowLab (by kernel_rfl) wideLab
theorem zDu {w : World} {b : Nat} {o : Obj} (h : w.heap[b]? = some o) : setBlock w b o = w := by
 unfold setBlock
 have e : w.heap.setIfInBounds b o = w.heap := by
  apply Array.ext_getElem?
  intro i
  by_cases hi : b = i
  ·subst hi
   rw [h]
   have := (Array.getElem?_eq_some_iff.1 h).1
   simp [this]
  ·simp [Array.getElem?_setIfInBounds, hi]
 rw [e]
theorem zDK (w : World) (b : Nat) (o p : Obj) : setBlock (setBlock w b o) b p = setBlock w b p := by simp [setBlock]
theorem zDV {w : World} {b : Nat} {es : Array MapEntry} {ck : Nat} (hb : w.heap[b]? = some (.map es ck)) (es' : Array MapEntry) (ck' : Nat) : w.grownBy (setBlock w b (.map es' ck')) (some b) :=
 World.mapTurned.grown ⟨es, ck, es', ck', hb, rfl⟩
abbrev OwnsL (w : World) (mb n : Nat) (D : DataW Unit) : Prop := w.ownsMap Tryz.prog 161 (plainElem Tryz.prog 3) mb n D
theorem ent_run {w : World} {mb n : Nat} {D : DataW Unit} (h : OwnsL w mb n D) (t : TypeId) (ht : Tryz.prog.underlying t = some (.map 161 3)) {K : Value} {kl : Lit} (hk : keyOf Tryz.prog 161 K = some kl) {c0 : Int} (hat : D.atKey kl (.lit (.int .i64 0)) = .lit (.int .i64 c0)) (hn : n < 140737488355328) :
  ∃ (v0 : Value) (st : Int) (u1 : World), (Instr.mapEntry t (.map (some mb)) K).run Tryz.prog w = .ok (.tuple #[v0, .int .i64 st]) u1 /\ w.grownBy u1 (some mb) /\
   (Instr.lookup t (.map (some mb)) K false).run Tryz.prog u1 = .ok (.int .i64 c0) u1 /\
   ∀ c, (Lit.int .i64 c).wf = true -> ∃ w', (Instr.entryStore t (.map (some mb)) (.int .i64 st) (.int .i64 c)).run Tryz.prog u1 = .ok () w' /\ OwnsL w' mb (n + 1) (D.put kl (.lit (.int .i64 c))) /\ w.grownBy w' (some mb) := by
 have hown := h
 have hnm : n < maxLen := Nat.lt_of_lt_of_le hn zD9
 obtain ⟨c1, hrun, hat1, _⟩ := hown.lookup_int zFc ht Tryz.underlying3 (zD5 w) hk
 obtain rfl : c0 = c1 := by rw [hat] at hat1; simpa using hat1
 obtain ⟨es, clock, hb, F, hs, hD⟩ := h
 obtain ⟨v0, st, es1, clock1, hme, _, hst⟩ := WideElems.entry_then_store lawK ht (fun u => zD5 u) hb F hk
 have hu1 : (setBlock w mb (.map es1 clock1)).heap[mb]? = some (.map es1 clock1) := heap_setBlock_same hb _
 refine ⟨v0, st, setBlock w mb (.map es1 clock1), hme, zDV hb _ _, ?_, fun c hc => ?_⟩
 ·rcases zFc.find w hk es.toList F.keys with ⟨h1, h2⟩ | ⟨j, e0, h1, h2, h3⟩
  ·have hme' : (Instr.mapEntry t (.map (some mb)) K).run Tryz.prog w = .ok (.tuple #[.int .i64 0, goInt clock]) (setBlock w mb (.map (es.push ⟨K, .int .i64 0, clock⟩) (clock + 1))) := by
    simp [Instr.mapEntry, run_underlying ht, MapKept.run_getObj_map hb, zFc.check w false hk, h1, zD5, MapKept.run_setObj_map _ hb, Result.andThen, setBlock]
   have hup : (Instr.mapUpdate t (.map (some mb)) K (.int .i64 0)).run Tryz.prog w = .ok () (setBlock w mb (.map (es.push ⟨K, .int .i64 0, clock⟩) (clock + 1))) := by
    simp [Instr.mapUpdate, run_underlying ht, MapKept.run_getObj_map hb, zFc.check w false hk, h1, MapKept.run_setObj_map _ hb, Result.andThen, setBlock]
   have hlk : (Instr.lookup t (.map (some mb)) K false).run Tryz.prog w = .ok (.int .i64 0) w := by
    simp [Instr.lookup, run_underlying ht, MapKept.run_getObj_map hb, zFc.check w _ hk, h1, zD5, Result.andThen]
   rw [hlk] at hrun
   obtain rfl : (0 : Int) = c0 := by simpa using hrun
   rw [hme] at hme'
   have hw : setBlock w mb (.map es1 clock1) = setBlock w mb (.map (es.push ⟨K, .int .i64 0, clock⟩) (clock + 1)) := by
    injection hme'
   obtain ⟨w', hu', hown', _⟩ := hown.update zFc ht hnm hk (plainElem_int (H := Unit) Tryz.underlying3 (q := .i64) (a := 0) (by decide))
   rw [hup] at hu'
   have hw' : setBlock w mb (.map (es.push ⟨K, .int .i64 0, clock⟩) (clock + 1)) = w' := by injection hu'
   rw [hw, hw']
   obtain ⟨c2, hr2, ha2, _⟩ := hown'.lookup_int zFc ht Tryz.underlying3 (zD5 w') hk
   rw [atKey_put_same hown.isMap (zFc.key hk)] at ha2
   obtain rfl : (0 : Int) = c2 := by simpa using ha2
   exact hr2
  ·have hj : es[j]? = some e0 := by simpa using h2
   have hsame : es.modify j (fun e => { e with key := K }) = es := by
    apply Array.ext'
    rw [Array.toList_modify, modify_eq_set _ _ _ _ h2]
    have : ({ e0 with key := K } : MapEntry) = e0 := by rw [<- h3]
    rw [this]
    exact WideElems.set_self _ _ _ h2
   have hme' : (Instr.mapEntry t (.map (some mb)) K).run Tryz.prog w = .ok (.tuple #[e0.val, goInt e0.born]) (setBlock w mb (.map es clock)) := by
    simp [Instr.mapEntry, run_underlying ht, MapKept.run_getObj_map hb, zFc.check w false hk, h1, hj, h3, zFc.stays w hk, hsame, MapKept.run_setObj_map _ hb, Result.andThen, setBlock]
   rw [hme] at hme'
   have hw : setBlock w mb (.map es1 clock1) = setBlock w mb (.map es clock) := by injection hme'
   rw [hw, zDu hb]
   exact hrun
 ·obtain ⟨es', clock', he, hu⟩ := hst _ (.int .i64 c) hu1
  obtain ⟨w', hu', hown', hg'⟩ := hown.update zFc ht hnm hk (plainElem_int (H := Unit) Tryz.underlying3 hc)
  rw [hu] at hu'
  have hw' : setBlock w mb (.map es' clock') = w' := by injection hu'
  rw [zDK, hw'] at he
  exact ⟨w', he, hown', hg'⟩
def setF (f : Lab -> Int) (d : Lab) (c : Int) : Lab -> Int := fun e => if sEq e.1 d.1 && sEq e.2 d.2 then c else f e
theorem eqF {e d : Lab} : (sEq e.1 d.1 && sEq e.2 d.2) = true ↔ e = d := by
 rw [Bool.and_eq_true, zA7, zA7]
 exact ⟨fun h => Prod.ext h.1 h.2, fun h => by subst h; exact ⟨rfl, rfl⟩⟩
theorem zBj (f : Lab -> Int) (d : Lab) (c : Int) : setF f d c d = c := by unfold setF; rw [if_pos (eqF.2 rfl)]
theorem zBU {f : Lab -> Int} {d e : Lab} {c : Int} (h : e ≠ d) : setF f d c e = f e := by unfold setF; rw [if_neg (fun k => h (eqF.1 k))]
theorem TellsF.put {D : DataW Unit} {f : Lab -> Int} (hm : IsMap D) (h : TellsF D f) {d : Lab} (hd : okL d) {c : Int} (hc : c ≠ 0) : TellsF (D.put (kL d) (.lit (.int .i64 c))) (setF f d c) := by
 refine ⟨fun e he => ?_, fun k hk => ?_⟩
 ·by_cases q : e = d
  ·subst q; rw [has_put_same hm (kL_is _), atKey_put_same hm (kL_is _), zBj]; simp [hc]
  ·have hne : kL e ≠ kL d := fun x => q (kL_inj he hd x)
   rw [has_put_other hne, atKey_put_other hne, zBU q]
   exact h.1 e he
 ·by_cases q : k = kL d
  ·exact ⟨d, hd, q.symm⟩
  ·rw [has_put_other q] at hk; exact h.2 k hk
theorem TellsF.del {D : DataW Unit} {f : Lab -> Int} (h : TellsF D f) {d : Lab} (hd : okL d) (c : DataW Unit) : TellsF ((D.put (kL d) c).del (kL d)) (setF f d 0) := by
 refine ⟨fun e he => ?_, fun k hk => ?_⟩
 ·by_cases q : e = d
  ·subst q; rw [has_del_same, atKey_del_same, zBj]; simp
  ·have hne : kL e ≠ kL d := fun x => q (kL_inj he hd x)
   rw [has_del_other hne, atKey_del_other hne, has_put_other hne, atKey_put_other hne, zBU q]
   exact h.1 e he
 ·by_cases q : k = kL d
  ·exact ⟨d, hd, q.symm⟩
  ·rw [has_del_other q, has_put_other q] at hk; exact h.2 k hk
end Go.Proofs.YtnffafjamiffnaaGreat
namespace Go.Proofs.YtnffafjamiffnaaGreat
open Go.RowKit
theorem src_one10 {α : Type} [Inhabited α] {R : Rep α} {k : Nat} (hR : Firm R k) (hF : Flat R) {A : Where} {u : World} {B : Nat} {cs : List Value} {x : α} (hb : BoxL u B cs) (hr : R (fun _ => True) u cs x) : Src R k A u (some ⟨B, 0, none⟩) 1 [x] := by
 have h : SlAt R k 1 (fun _ => True) u (some ⟨B, 0, none⟩) 1 1 [x] := by
  refine ⟨rfl, Nat.le_refl _, (fun h => by cases h), by decide, fun _ => ⟨B, 0, rfl, hb.1, trivial, fun i hi => ?_⟩⟩
  obtain rfl : i = 0 := by omega
  refine ⟨cs, hr, fun j v hj => ?_⟩
  have := (hb.2 j v hj).1
  simpa using this
 exact (h.src hR).flat hF
theorem zDi (st : VC) (K : List ClassD) (NL : List Lab) (nm : ByteArray) (r : List ByteArray) (out : List PickD) : planL st K NL (nm :: r) out = match stepP st K NL (out.map Prod.snd) nm with | .error e => .error e | .ok none => planL st K NL r out | .ok (some pk) => planL st K NL r (out ++ [pk]) := rfl
theorem zB1 {st : VC} {K : List ClassD} {NL : List Lab} : ∀ (P Q : List ByteArray) (out : List PickD), planL st K NL (P ++ Q) out = match planL st K NL P out with | .error e => .error e | .ok o => planL st K NL Q o
 | [], Q, out => rfl
 | nm :: P, Q, out => by
  rw [List.cons_append, zDi, zDi]
  cases stepP st K NL (out.map Prod.snd) nm with
  | error e => rfl
  | ok o =>
   cases o with
   | none => exact zB1 P Q out
   | some pk => exact zB1 P Q (out ++ [pk])
theorem plan_step {st : VC} {K : List ClassD} {NL : List Lab} {L : List ByteArray} {k : Nat} {out : List PickD} (hk : k < L.length) (h : planL st K NL (L.take k) [] = .ok out) :
  (∀ e, stepP st K NL (out.map Prod.snd) (L.getD k default) = .error e -> planL st K NL L [] = .error e) /\ (stepP st K NL (out.map Prod.snd) (L.getD k default) = .ok none -> planL st K NL (L.take (k + 1)) [] = .ok out) /\ ∀ pk, stepP st K NL (out.map Prod.snd) (L.getD k default) = .ok (some pk) -> planL st K NL (L.take (k + 1)) [] = .ok (out ++ [pk]) := by
 have e1 : L.take (k + 1) = L.take k ++ [L.getD k default] := by rw [List.take_succ_eq_append_getElem hk, List.getD_eq_getElem?_getD, List.getElem?_eq_getElem hk]; rfl
 have e2 : planL st K NL (L.take (k + 1)) [] = planL st K NL [L.getD k default] out := by rw [e1, zB1, h]
 refine ⟨fun e he => ?_, fun he => ?_, fun pk he => ?_⟩
 ·rw [<- List.take_append_drop (k + 1) L, zB1, e2]
  unfold planL
  rw [he]
 ·rw [e2]
  unfold planL
  rw [he]
  rfl
 ·rw [e2]
  unfold planL
  rw [he]
  rfl
theorem zGn : ∀ a : List UInt8, Op.bytesLess a a = false
 | [] => rfl
 | a :: x => by simp [Op.bytesLess, zGn x]
theorem bl_tot : ∀ a b : List UInt8, a ≠ b -> Op.bytesLess b a = !Op.bytesLess a b
 | [], [], h => absurd rfl h
 | [], _ :: _, _ => rfl
 | _ :: _, [], _ => rfl
 | a :: x, b :: y, h => by
  by_cases e : a = b
  ·subst e
   have ih := bl_tot x y (fun e => h (by rw [e]))
   simp [Op.bytesLess, ih]
  ·have hne : a.toNat ≠ b.toNat := fun h' => e (UInt8.toNat_inj.1 h')
   by_cases hl : a < b
   ·have h1 : ¬ b < a := fun h' => by have p : a.toNat < b.toNat := hl; have q : b.toNat < a.toNat := h'; omega
    have e2 : ¬ b = a := fun e' => e e'.symm
    simp [Op.bytesLess, hl, h1, e2]
   ·have h1 : b < a := by
     show b.toNat < a.toNat
     have : ¬ a.toNat < b.toNat := hl
     omega
    simp [Op.bytesLess, hl, h1, e]
theorem zBo : ∀ a b c : List UInt8, Op.bytesLess a b = true -> Op.bytesLess b c = true -> Op.bytesLess a c = true
 | _, [], _, h, _ => by simp [Op.bytesLess] at h
 | _, _ :: _, [], _, h => by simp [Op.bytesLess] at h
 | [], _ :: _, _ :: _, _, _ => rfl
 | a :: x, b :: y, c :: z, h1, h2 => by
  simp only [Op.bytesLess, Bool.or_eq_true, Bool.and_eq_true, decide_eq_true_eq, beq_iff_eq] at h1 h2 |-
  rcases h1 with h1 | ⟨rfl, h1⟩ <;> rcases h2 with h2 | ⟨rfl, h2⟩
  ·exact .inl (UInt8.lt_trans h1 h2)
  ·exact .inl h1
  ·exact .inl h2
  ·exact .inr ⟨rfl, zBo x y z h1 h2⟩
section
variable {α : Type} {lt eq : α -> α -> Bool}
structure OrdB (lt eq : α -> α -> Bool) : Prop where
 eqi : ∀ a b, eq a b = true ↔ a = b
 irr : ∀ a, lt a a = false
 tr : ∀ a b c, lt a b = true -> lt b c = true -> lt a c = true
 tot : ∀ a b, a ≠ b -> lt a b = true \/ lt b a = true
def UpB (lt : α -> α -> Bool) (L : List α) : Prop := L.Pairwise (fun a b => lt a b = true)
theorem UpB.ins (h : OrdB lt eq) (s : α) : ∀ L : List α, UpB lt L -> UpB lt (insB lt eq L s)
 | [], _ => by simp [insB, UpB]
 | x :: xs, hL => by
  obtain ⟨h1, h2⟩ := List.pairwise_cons.1 hL
  unfold insB
  split
  ·rename_i h3
   refine List.pairwise_cons.2 ⟨fun y hy => ?_, UpB.ins h s xs h2⟩
   rcases (zEI (fun a b e => (h.eqi a b).1 e) s y xs).1 hy with h4 | h4
   ·exact h1 y h4
   ·rw [h4]; exact h3
  ·split
   ·exact hL
   ·rename_i h3 h4
    have hne : x ≠ s := fun e => h4 ((h.eqi x s).2 e)
    have hlt : lt s x = true := (h.tot x s hne).resolve_left h3
    refine List.pairwise_cons.2 ⟨fun y hy => ?_, hL⟩
    rcases List.mem_cons.1 hy with h5 | h5
    ·rw [h5]; exact hlt
    ·exact h.tr s x y hlt (h1 y h5)
theorem UpB.sort (h : OrdB lt eq) (L : List α) : UpB lt (sortB lt eq L) := by
 unfold sortB
 suffices H : ∀ (L M : List α), UpB lt M -> UpB lt (L.foldl (insB lt eq) M) from H L [] List.Pairwise.nil
 intro L
 induction L with
 | nil => intro M hM; exact hM
 | cons x L ih => intro M hM; exact ih _ (UpB.ins h x M hM)
theorem UpB.one (h : OrdB lt eq) : ∀ L M : List α, UpB lt L -> UpB lt M -> (∀ x, x ∈ L ↔ x ∈ M) -> L = M
 | [], [], _, _, _ => rfl
 | [], y :: ys, _, _, hm => absurd ((hm y).2 List.mem_cons_self) (by simp)
 | x :: xs, [], _, _, hm => absurd ((hm x).1 List.mem_cons_self) (by simp)
 | x :: xs, y :: ys, hL, hM, hm => by
  obtain ⟨a1, a2⟩ := List.pairwise_cons.1 hL
  obtain ⟨b1, b2⟩ := List.pairwise_cons.1 hM
  have e : x = y := by
   rcases List.mem_cons.1 ((hm x).1 List.mem_cons_self) with h1 | h1
   ·exact h1
   ·rcases List.mem_cons.1 ((hm y).2 List.mem_cons_self) with h2 | h2
    ·exact h2.symm
    ·have := h.tr x y x (a1 y h2) (b1 x h1)
     rw [h.irr] at this
     cases this
  subst e
  have ne : ∀ z, lt x z = true -> z ≠ x := fun z hz e => by rw [e, h.irr] at hz; cases hz
  rw [UpB.one h xs ys a2 b2 (fun z => ⟨fun hz => ?_, fun hz => ?_⟩)]
  ·exact (List.mem_cons.1 ((hm z).1 (List.mem_cons_of_mem _ hz))).resolve_left (ne z (a1 z hz))
  ·exact (List.mem_cons.1 ((hm z).2 (List.mem_cons_of_mem _ hz))).resolve_left (ne z (b1 z hz))
end
theorem ordI : OrdB iLt iEq := ⟨zE0, by simp [iLt], by simp only [iLt, decide_eq_true_eq]; omega, by simp only [iLt, decide_eq_true_eq]; omega⟩
theorem toList_inj {a b : ByteArray} (h : a.toList = b.toList) : a = b := (zA7 a b).1 (by simp [sEq, h])
theorem ordS : OrdB sLt sEq := ⟨zA7, fun a => zGn _, fun a b c h1 h2 => zBo _ _ _ h1 h2, fun a b h => by
 have := bl_tot a.toList b.toList (fun e => h (toList_inj e))
 unfold sLt
 cases h1 : Op.bytesLess a.toList b.toList
 ·right; rw [this, h1]; rfl
 ·left; rfl⟩
def wantSum (u : ResD) (L : List PodD) : ResD := L.foldl (fun u p => plusR u (pWant p)) u
def allP (n : NodeD) (L : List PodD) : InfoD := (n, sortB sLt sEq (L.map (·.1)), wantSum (0, 0, 0) L, sortB iLt iEq (L.flatMap pPorts), sortB sLt sEq (L.flatMap pClaims))
end Go.Proofs.YtnffafjamiffnaaGreat
namespace Go.Proofs.YtnffafjamiffnaaGreat
open Go.RowKit Go.Maps Go.ChangeMaps
theorem law9 : Keyed Tryz.prog 9 := string_keyed Tryz.underlying9
theorem zBg : (140737488355328 : Nat) <= maxLen := by decide
theorem zeroI9 (w : World) : (zeroValue 3).run Tryz.prog w = .ok (.int .i64 0) w := by kernel_rfl
def kT (s : ByteArray) : Lit := .string s.data.toList
theorem zGX {s : ByteArray} (h : s.size <= 140737488355328) : keyOf Tryz.prog 9 (.string s) = some (kT s) := WideMaps.keyOf_string_mk Tryz.underlying9 (Nat.le_trans h zBg)
theorem kT_is (s : ByteArray) : WideAt.IsKeyLit (kT s) := by unfold kT; trivial
theorem kT_inj {s t : ByteArray} (h : kT s = kT t) : s = t := by
 unfold kT at h
 simp only [Lit.string.injEq] at h
 cases s; cases t
 simpa using h
abbrev OwnsT (w : World) (mb n : Nat) (D : DataW Unit) : Prop := w.ownsMap Tryz.prog 9 (plainElem Tryz.prog 3) mb n D
def MpAt (w : World) (mb n : Nat) (f : ByteArray -> Nat) (q : ByteArray -> Bool) : Prop :=
 ∃ D : DataW Unit, OwnsT w mb n D /\ (∀ s, Maps.has D (kT s) = q s /\ D.atKey (kT s) (.lit (.int .i64 0)) = .lit (.int .i64 (f s : Int))) /\ ∀ s, f s <= n
theorem MpAt.lt {w : World} {mb n : Nat} {f : ByteArray -> Nat} {q : ByteArray -> Bool} (h : MpAt w mb n f q) : mb < w.heap.size := by obtain ⟨D, h1, _⟩ := h; exact h1.lt
theorem MpAt.same {w w' : World} {mb n : Nat} {f : ByteArray -> Nat} {q : ByteArray -> Bool} (h : MpAt w mb n f q) (hb : w'.heap[mb]? = w.heap[mb]?) : MpAt w' mb n f q := by
 obtain ⟨D, ⟨es, ck, h1, h2⟩, h3⟩ := h
 exact ⟨D, ⟨es, ck, hb.trans h1, h2⟩, h3⟩
theorem MpAt.on {w w' : World} {mb n : Nat} {f : ByteArray -> Nat} {q : ByteArray -> Bool} (h : MpAt w mb n f q) (hb : Below w.heap.size w w') : MpAt w' mb n f q := h.same (hb.block mb h.lt)
theorem MpAt.turned {w w' : World} {mb n : Nat} {f : ByteArray -> Nat} {q : ByteArray -> Bool} {F : Where} (h : MpAt w mb n f q) (ht : Turns F w w') (hF : ¬ F mb) : MpAt w' mb n f q := h.same (ht.block mb h.lt hF)
theorem MpAt.made (w : World) : MpAt (w.alloc (.map #[] 0)) w.heap.size 0 (fun _ => 0) (fun _ => false) :=
 ⟨.map [], World.ownsMap_made _ _ _ _, fun _ => ⟨rfl, rfl⟩, fun _ => Nat.le_refl _⟩
theorem MpAt.mono {w : World} {mb n n' : Nat} {f : ByteArray -> Nat} {q : ByteArray -> Bool} (h : MpAt w mb n f q) (hn : n <= n') : MpAt w mb n' f q := by
 obtain ⟨D, h1, h2, h3⟩ := h
 exact ⟨D, h1.mono hn, h2, fun s => Nat.le_trans (h3 s) hn⟩
theorem MpAt.as {w : World} {mb n : Nat} {f g : ByteArray -> Nat} {q r : ByteArray -> Bool} (h : MpAt w mb n f q) (e : ∀ s, f s = g s) (e' : ∀ s, q s = r s) : MpAt w mb n g r := by
 obtain rfl : f = g := funext e
 obtain rfl : q = r := funext e'
 exact h
theorem MpAt.le {w : World} {mb n : Nat} {f : ByteArray -> Nat} {q : ByteArray -> Bool} (h : MpAt w mb n f q) (s : ByteArray) : f s <= n := by obtain ⟨_, _, _, h3⟩ := h; exact h3 s
theorem MpAt.look {w : World} {mb n : Nat} {f : ByteArray -> Nat} {q : ByteArray -> Bool} (h : MpAt w mb n f q) (t : TypeId) (ht : Tryz.prog.underlying t = some (.map 9 3)) {s : ByteArray} (hs : s.size <= 140737488355328) :
  (Instr.lookup t (.map (some mb)) (.string s) false).run Tryz.prog w = .ok (.int .i64 (f s : Int)) w := by
 obtain ⟨D, h1, h2, _⟩ := h
 obtain ⟨c, hrun, hat, _⟩ := h1.lookup_int law9 ht Tryz.underlying3 (zeroI9 w) (zGX hs)
 rw [(h2 s).2] at hat
 obtain rfl : (f s : Int) = c := by simpa using hat
 exact hrun
def upF (f : ByteArray -> Nat) (s : ByteArray) : ByteArray -> Nat := fun t => if sEq t s = true then f t + 1 else f t
def upQ (q : ByteArray -> Bool) (s : ByteArray) : ByteArray -> Bool := fun t => q t || sEq t s
theorem MpAt.inc {w : World} {mb n : Nat} {f : ByteArray -> Nat} {q : ByteArray -> Bool} (h : MpAt w mb n f q) (t : TypeId) (ht : Tryz.prog.underlying t = some (.map 9 3)) {s : ByteArray} (hs : s.size <= 140737488355328) (hn : n < 140737488355328) :
  ∃ w' : World, (Instr.mapUpdate t (.map (some mb)) (.string s) (.int .i64 ((f s : Int) + 1))).run Tryz.prog w = .ok () w' /\ MpAt w' mb (n + 1) (upF f s) (upQ q s) /\ w.grownBy w' (some mb) := by
 obtain ⟨D, h1, h2, h3⟩ := h
 have hle := h3 s
 obtain ⟨w', hes, hown, hg'⟩ := h1.update law9 ht (Nat.lt_of_lt_of_le hn zBg) (zGX hs) (plainElem_int (H := Unit) Tryz.underlying3 (q := .i64) (a := (f s : Int) + 1) (WalkArith.wf_i64 (by omega)))
 refine ⟨w', hes, ⟨_, hown, fun t => ?_, fun t => ?_⟩, hg'⟩
 ·unfold upF upQ
  by_cases e : sEq t s = true
  ·rw [if_pos e, e, (zA7 _ _).1 e, has_put_same h1.isMap (kT_is _), atKey_put_same h1.isMap (kT_is _)]
   exact ⟨by simp, by simp⟩
  ·have hne : kT t ≠ kT s := fun x => e ((zA7 _ _).2 (kT_inj x))
   rw [if_neg e, has_put_other hne, atKey_put_other hne, (h2 t).1, (h2 t).2]
   simp only [Bool.not_eq_true] at e
   rw [e]
   exact ⟨by simp, rfl⟩
 ·have := h3 t
  unfold upF
  split <;> omega
theorem cb_le9 : ∀ a b : List UInt8, Lib.compareBytes a b < 0 -> a <= b
 | [], _, _ => List.nil_le _
 | _ :: _, [], h => by simp [Lib.compareBytes] at h
 | a :: xs, b :: ys, h => by
  rw [List.cons_le_cons_iff]
  rcases zBH a b xs ys with ⟨p, e⟩ | ⟨p, e⟩ | ⟨p, e⟩
  ·exact .inl (UInt8.lt_iff_toNat_lt.2 p)
  ·rw [e] at h; omega
  ·rw [e] at h; exact .inr ⟨UInt8.toNat_inj.1 p, cb_le9 xs ys h⟩
theorem le_of_sLt {a b : ByteArray} (h : sLt a b = true) : a.data.toList <= b.data.toList := cb_le9 _ _ ((zAl a b).1 h)
theorem MpAt.keys {w : World} {mb n : Nat} {f : ByteArray -> Nat} {q : ByteArray -> Bool} (h : MpAt w mb n f q) : ∃ D : DataW Unit, OwnsT w mb n D /\ Maps.size D <= n /\
  ∀ (M : List ByteArray) (ss : List (List UInt8)), Srt9 M -> (∀ x, x ∈ M ↔ q x = true) -> ss.Perm (strKeys D) -> ss.mergeSort (fun x y => decide (x <= y)) = M.map (fun s => s.data.toList) := by
 obtain ⟨D, h1, h2, h3⟩ := h
 refine ⟨D, h1, h1.size_le, fun M ss hM hq hp => ?_⟩
 have hnd : (M.map (fun s : ByteArray => s.data.toList)).Nodup := by
  refine List.pairwise_map.2 (hM.imp fun {a b} hab e => ?_)
  have : a = b := by cases a; cases b; simpa using e
  subst this
  exact sLt_irr a hab
 have hperm : (M.map (fun s : ByteArray => s.data.toList)).Perm (strKeys D) := by
  obtain ⟨es, hD, hpw, _⟩ := h1.entries law9
  obtain ⟨es', hD', hko⟩ := h1.keysOf
  obtain rfl : es = es' := by rw [hD] at hD'; simpa using hD'
  subst hD
  refine perm_strKeys hpw (fun p hp => by obtain ⟨v, hv⟩ := hko p hp; obtain ⟨x, _, hx, _⟩ := Maps.keyOf_str Tryz.underlying9 hv; exact ⟨x, hx⟩) hnd (fun x => ?_)
  have e := (h2 ⟨x.toArray⟩).1
  rw [show kT ⟨x.toArray⟩ = .string x from by simp [kT]] at e
  rw [e, <- hq, List.mem_map]
  constructor
  ·rintro ⟨s, hs, rfl⟩; simpa using hs
  ·intro hx; exact ⟨_, hx, by simp⟩
 have e1 := mergeSort_of_perm (hp.trans hperm.symm)
 rw [show (fun x y : List UInt8 => decide (x <= y)) = leB from rfl, e1]
 refine List.mergeSort_of_pairwise (List.pairwise_map.2 (hM.imp fun {a b} hab => ?_))
 simpa [leB] using le_of_sLt hab
end Go.Proofs.YtnffafjamiffnaaGreat
namespace Go.Proofs.YtnffafjamiffnaaGreat
open Go.RowKit Go.Maps
def addF (f : Lab -> Int) (q : Lab -> Bool) (c : Int) : Lab -> Int := fun d => f d + (if q d = true then c else 0)
theorem zEi {f : Lab -> Int} {q : Lab -> Bool} {c : Int} (h : ∀ d, q d = false) : ∀ d, f d = addF f q c d := fun d => by unfold addF; rw [h d]; simp
theorem addF_dom {f : Lab -> Int} {L : List Lab} {key : ByteArray} {c : Int} (h : (getL L key).2 = true) : ∀ e, setF f (domL L key) (f (domL L key) + c) e = addF f (atD L key) c e := fun e => by
 by_cases q : e = domL L key
 ·subst q; unfold addF; rw [zBj, if_pos (zES.2 ⟨h, rfl⟩)]
 ·unfold addF; rw [zBU q, if_neg (fun k => q (zES.1 k).2)]; simp
theorem zDg {A : Where} {w : World} {a : Option Addr} {n cap : Nat} {L : List Lab} (h : SlAt RLabel 2 32 A w a n cap L) : ∀ l ∈ L, okL l := (zDy h).2.1
theorem dom_ok {L : List Lab} {key : ByteArray} (hk : key.size <= 140737488355328) (hL : ∀ l ∈ L, okL l) (h : (getL L key).2 = true) : okL (domL L key) := ⟨hk, (hL _ (zGj h)).2⟩
def DcS (B mb : Nat) (key v : ByteArray) (c : Int) (u : World) : Prop := u.cell? ⟨B, 0, none⟩ = some (.string key) /\ u.cell? ⟨B, 1, none⟩ = some (.string v) /\ (Instr.lookup 214 (.map (some mb)) (.agg #[.string key, .string v]) false).run Tryz.prog u = .ok (.int .i64 c) u
theorem zCM {w : World} {mb N : Nat} {f : Lab -> Int} (hc : Hid (CntAt w mb N f)) (hN : N < 70368744177664) (a : Option Addr) (n cap : Nat) (A : Where) (L : List Lab) (key : ByteArray) (by_ : Int) (hL : Hid (SlAt RLabel 2 32 A w a n cap L)) (hk : key.size <= 140737488355328) (hby : by_ = 1 \/ by_ = -1) :
  Calls Tryz.prog 163 #[.map (some mb), .slice a n cap, .string key, .int .i64 by_] w fun e w' => e = .returned (.tuple #[]) /\ CntAt w' mb (N + 1) (addF f (atD L key) by_) /\ Turns (fun b => b = mb) w w' := by
 have hD := zBL a n cap A L key w hL
 have HO : Hid ((getL L key).2 = true -> okL (domL L key)) := dom_ok hk (zDg hL.out)
 have HF : Hid ((getL L key).2 = false -> ∀ d, f d = addF f (atD L key) by_ d) := fun h => zEi (fun d => by unfold atD; rw [h]; rfl)
 have HA : Hid ((getL L key).2 = true -> ∀ e, setF f (key, (getL L key).1) (f (key, (getL L key).1) + by_) e = addF f (atD L key) by_ e) := fun h => addF_dom h
 have HB := hc.out.le (domL L key)
 simp only [domL] at HO HB
 clear hL
 generalize hg : addF f (atD L key) by_ = g at HF HA |-
 clear hg
 generalize (getL L key).1 = v at hD HO HA HB
 generalize (getL L key).2 = t at hD HO HF HA
 go_enter Tryz.func163, Tryz.ntmps163
 go_wp2_with fail
 refine hD.mono ?_
 clear hD
 rintro e w1 ⟨rfl, hb1⟩
 cases t
 ·have HC : Hid (CntAt w1 mb (N + 1) g) := ((hc.out.on hb1).mono (Nat.le_succ _)).as (HF.out rfl)
  clear HO HF HA HB hc
  go_wp2_with fail
  refine bodyPost_ret (results_none rfl _ _ _) rfl ?_
  exact ⟨rfl, HC.out.on (by go_grown), Turns.below (on2 hb1 (by go_grown))⟩
 ·have hok := HO.out rfl
  have hA := HA.out rfl
  clear HF HO HA
  obtain ⟨W2, hW2⟩ : ∃ W, W = w1.alloc (.cells #[.string key, .string v] 161) := ⟨_, rfl⟩
  have B2 : Below w.heap.size w W2 := by rw [hW2]; exact on2 hb1 (by go_grown)
  have q : BoxL W2 w1.heap.size [.string key, .string v] := by rw [hW2]; exact BoxL.new w1 161 [.string key, .string v]
  have hcm := hc.out.on B2
  have hne : w1.heap.size ≠ mb := fun e => by have h1 := hc.out.lt; have h2 := hb1.size; omega
  obtain ⟨D, hown, hT, hle⟩ := hcm
  obtain ⟨v0, st, u1, hme, hg1, hlk1, hst⟩ := ent_run hown.drew 214 Tryz.underlying214 (zDd hok) (hT.1 _ hok).2 (by omega)
  have hwf : (Lit.int .i64 (f (key, v) + by_)).wf = true := WalkArith.wf_i64 (by omega)
  obtain ⟨w', hes, hown', hg'⟩ := hst _ hwf
  have hlk0 : (Instr.lookup 214 (.map (some mb)) (.agg #[.string key, .string v]) false).run Tryz.prog W2.drew = .ok (.int .i64 (f (key, v))) W2.drew := CntAt.look ⟨D, hown.drew, hT, hle⟩ _ Tryz.underlying214 hok
  have HS0 : Hid (DcS w1.heap.size mb key v (f (key, v)) W2.drew) := ⟨(q.2 0 _ rfl).1, (q.2 1 _ rfl).1, hlk0⟩
  have hc1 : ∀ j, u1.cell? ⟨w1.heap.size, j, none⟩ = W2.cell? ⟨w1.heap.size, j, none⟩ := fun j => World.cell?_of_block (w := W2.drew) (hg1.block _ q.1 (by simpa using hne))
  have HS1 : Hid (DcS w1.heap.size mb key v (f (key, v)) u1) := ⟨(hc1 0).trans (q.2 0 _ rfl).1, (hc1 1).trans (q.2 1 _ rfl).1, hlk1⟩
  have hc2 : ∀ j, w'.cell? ⟨w1.heap.size, j, none⟩ = W2.cell? ⟨w1.heap.size, j, none⟩ := fun j => World.cell?_of_block (w := W2.drew) (hg'.block _ q.1 (by simpa using hne))
  have e0 := (hc2 0).trans (q.2 0 _ rfl).1
  have e1 := (hc2 1).trans (q.2 1 _ rfl).1
  have HT2 : Hid (Turns (fun b => b = mb) w w') := (Turns.below B2.drew).trans (Turns.grown hg' (fun b e => by simpa using e.symm))
  have hm : IsMap D := hown.isMap
  obtain ⟨c2, hlk2, ha2, _⟩ := hown'.lookup_int zFc Tryz.underlying214 Tryz.underlying3 (zD5 w') (zDd hok)
  rw [atKey_put_same hm (kL_is _)] at ha2
  obtain rfl : f (key, v) + by_ = c2 := by simpa using ha2
  have HLe : Hid (∀ e, -((N + 1 : Nat) : Int) <= g e /\ g e <= ((N + 1 : Nat) : Int)) := fun e => by
   rw [<- hA e]
   by_cases qe : e = (key, v)
   ·subst qe; rw [zBj]; omega
   ·rw [zBU qe]; have := hle e; omega
  have HP : Hid (f (key, v) + by_ ≠ 0 -> TellsF (D.put (kL (key, v)) (.lit (.int .i64 (f (key, v) + by_)))) g) := fun hz => by
   have := hT.put hm hok hz
   rwa [show setF f (key, v) (f (key, v) + by_) = g from funext hA] at this
  have HQ : Hid (f (key, v) + by_ = 0 -> TellsF ((D.put (kL (key, v)) (.lit (.int .i64 (f (key, v) + by_)))).del (kL (key, v))) g) := fun hz => by
   have h1 := hT.del hok (.lit (.int .i64 (f (key, v) + by_)))
   have h2 := funext hA
   rw [hz] at h2
   rwa [show setF f (key, v) 0 = g from h2] at h1
  clear hA hT ha2 hm
  have hsum : -9223372036854775808 <= f (key, v) + by_ /\ f (key, v) + by_ <= 9223372036854775807 := by omega
  have hwr : IntKind.i64.wrap (f (key, v) + by_) = f (key, v) + by_ := IntWalk.i64_in _ hsum
  generalize hfc : f (key, v) = c at *
  clear hlk0 hlk1 hst hg1 hg' hc1 hc2 q B2 hb1 hwf hown hle hc hN HB hfc f
  go_upto_region 2 with fail
  rw [<- hW2]
  clear hW2
  refine u0 7 (DcS w1.heap.size mb key v c) HS0.out (fun gH => ?_)
  refine' uk 0 ?_ ?_; rotate_left
  ·intro u ⟨_, _, _⟩; go_simp; try with_reducible rfl
  try go_frame
  refine' uk 1 ?_ ?_; rotate_left
  ·intro u ⟨_, _, _⟩; go_simp; try with_reducible rfl
  try go_frame
  refine' uk 3 ?_ ?_; rotate_left
  ·intro u ⟨_, _, _⟩; go_simp; try with_reducible rfl
  try go_frame
  refine' uk 2 ?_ ?_; rotate_left
  ·intro u ⟨_, _, _⟩; go_simp; try with_reducible rfl
  try go_frame
  refine' uk 4 ?_ ?_; rotate_left
  ·intro u ⟨_, _, _⟩; go_simp; try with_reducible rfl
  try go_frame
  refine ur 5 (fun K hK => ?_)
  go_simp
  refine hK.out _ _ HS1.out (fun gI => ?_)
  clear hK K gH; have gH := gI; clear gI
  try go_frame
  refine' uk 6 ?_ ?_; rotate_left
  ·intro u ⟨_, _, _⟩; go_simp; try with_reducible rfl
  try go_frame
  refine uz 7 (fun K hK => ?_)
  go_simp
  refine hK.out _ (NoPanic.normal ?_)
  try go_frame
  clear hK K gH
  by_cases hz : c + by_ = 0
  ·have HE := HQ.out hz
   have hz' : (c + by_ == 0) = true := by simpa using hz
   have hzr : Hid (c + by_ = 0) := hz
   clear hz HP HQ
   go_wp2_with (first | (at_delete; refine wpList_delete_own _ rfl _ _ 214 161 rfl 3 zFc Tryz.underlying214 _ mb (N + 1) _ rfl hown' _ _ rfl (zDd hok) ?_; intro w3 hown3 hturn3) | fail)
   go_end0
   exact ⟨rfl, ⟨_, hown3, HE, HLe.out⟩, HT2.out.trans (Turns.map hturn3 rfl)⟩
  ·have HE := HP.out hz
   have hz' : (c + by_ == 0) = false := by simpa using hz
   clear hz HP HQ
   go_wp2_with fail
   go_end0
   exact ⟨rfl, ⟨_, hown', HE, HLe.out⟩, HT2.out⟩
end Go.Proofs.YtnffafjamiffnaaGreat
namespace Go.Proofs.YtnffafjamiffnaaGreat
open Go.RowKit
abbrev pClm (p : PodD) : List ByteArray := p.2.2.2.2.2.2.2.2.2.2.2.1
abbrev iDsk (i : InfoD) : List ByteArray := i.2.2.2.2
abbrev iNum (i : InfoD) : Int := i.1.2.2.2.2.2.2
theorem RPod.clm10 {A : Where} {w : World} {cs : List Value} {p : PodD} (h : RPod A w cs p) : ∃ h13 : Hd, cs[13]? = some (.slice h13.1 h13.2.1 h13.2.2) /\ SlAt RStr 1 16 A w h13.1 h13.2.1 h13.2.2 (pClm p) := by
 obtain ⟨h2, h6, h7, h8, h9, h10, h11, h12, h13, rfl, _, _, _, _, _, _, _, _, _, s13, _⟩ := h.out
 exact ⟨h13, rfl, s13⟩
theorem Row.sl10 {α : Type} [Inhabited α] {R : Rep α} {k : Nat} (hR : Firm R k) {bytes : Nat} {A : Where} {w0 u : World} {e : TypeId} {v : Value} {L : List α} (h : Row R k A w0 u e v L) (hb : L.length * bytes <= 140737488351232) :
  ∃ a n cap, v = .slice a n cap /\ SlAt R k bytes (fun _ => True) u a n cap L := by
 obtain ⟨xs, h1, h2⟩ := h
 obtain ⟨a, cap, e1, h3⟩ := zAf (bytes := bytes) hR h1.2 h2 hb
 exact ⟨a, _, cap, e1, h3.weak hR (fun b _ _ => trivial)⟩
theorem infoPk10 : (Tryz.prog.info? 127).map (fun i => (i.zero, i.size, i.bytes)) = some (some (.agg #[.string ⟨#[]⟩, .string ⟨#[]⟩]), 2, 32) := by kernel_rfl
def nameL (F : List PodD) : List ByteArray := F.map (·.1)
def fstStep (F : List PodD) (p : PodD) : List PodD := if hasB sEq (nameL F) p.1 = true then F else F ++ [p]
def firstsP (L : List PodD) : List PodD := L.foldl fstStep []
def tupP (F : List PodD) : AccD := (nameL F, wantSum (0, 0, 0) F, F.flatMap pPorts, F.flatMap pClaims)
theorem tup_step (F : List PodD) (p : PodD) : ofStep (tupP F) p = tupP (fstStep F p) := by
 unfold ofStep fstStep
 show (if hasB sEq (nameL F) p.1 = true then tupP F else _) = _
 split
 ·rfl
 ·simp [tupP, nameL, wantSum]
theorem tup_fold : ∀ (L F : List PodD), L.foldl ofStep (tupP F) = tupP (L.foldl fstStep F)
 | [], _ => rfl
 | p :: L, F => by rw [List.foldl_cons, List.foldl_cons, tup_step, tup_fold]
theorem zBe (L : List PodD) {k : Nat} (hk : k < L.length) : firstsP (L.take (k + 1)) = fstStep (firstsP (L.take k)) (L.getD k default) := by
 rw [<- zAo hk]; simp [firstsP]
theorem fst_len (F : List PodD) (p : PodD) : (fstStep F p).length <= F.length + 1 := by unfold fstStep; split <;> simp
theorem zC4 (L : List PodD) : ∀ k, k <= L.length -> (firstsP (L.take k)).length <= k := by
 intro k
 induction k with
 | zero => intro _; simp [firstsP]
 | succ k ih =>
  intro hk
  rw [zBe L (by omega)]
  have := fst_len (firstsP (L.take k)) (L.getD k default)
  have := ih (by omega)
  omega
theorem fst_sum (f : PodD -> Nat) : ∀ (L F : List PodD), sumBy f (L.foldl fstStep F) <= sumBy f F + sumBy f L
 | [], F => by simp [sumBy]
 | p :: L, F => by
  rw [List.foldl_cons]
  have h := fst_sum f L (fstStep F p)
  have h1 : sumBy f (fstStep F p) <= sumBy f F + f p := by
   unfold fstStep
   split
   ·omega
   ·rw [zB7]; simp [sumBy]
  have h2 : sumBy f (p :: L) = f p + sumBy f L := by simp [sumBy]
  omega
end Go.Proofs.YtnffafjamiffnaaGreat
