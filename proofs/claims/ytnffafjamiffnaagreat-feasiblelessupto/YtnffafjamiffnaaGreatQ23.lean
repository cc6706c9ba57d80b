/- info.of: what a node has of pods of which no name stands twice. Condition: the arguments lie as is said of them; the pods' ports and claims together are within what an append may ask. -/
import Derived.Test.YtnffafjamiffnaaGreatQ17
set_option linter.unusedSimpArgs false
set_option maxRecDepth 100000
set_option maxHeartbeats 32000000
namespace Go.Proofs.YtnffafjamiffnaaGreat
open Go.RowKit
def ThrL (w : World) (cs : List Value) : Prop := ∀ v ∈ cs.drop 9, ∀ a n c, v = .slice a n c -> Thr w a n
theorem zAz (u : World) (t : TypeId) (zs cs : List Value) (hl : zs.length = cs.length) : BoxL ((u.alloc (.cells zs.toArray t)).setCells u.heap.size 0 cs) u.heap.size cs := by
 have hb := BoxL.new u t zs
 have hth : (u.alloc (.cells zs.toArray t)).there u.heap.size 0 cs.length := hl ▸ hb.there
 have hr := World.rangeAt_setCells_same (u.alloc (.cells zs.toArray t)) u.heap.size 0 cs hth
 have ht2 := World.there_setCells hth u.heap.size 0 cs
 refine ⟨Nat.lt_of_lt_of_le hb.1 (zA1 (A := fun _ => False) (b := u.heap.size) (fun h => h) (vs := cs) (o := 0) (u := u.alloc (.cells zs.toArray t))).1, fun j v hj => ?_⟩
 have h1 := hr j v hj
 have h2 := (ht2 j (List.getElem?_eq_some_iff.1 hj).1).2
 rw [Nat.zero_add] at h1 h2
 exact ⟨h1, h2⟩
theorem Thr.cells {u : World} {a : Option Addr} {n : Nat} (h : Thr u a n) (b o : Nat) (vs : List Value) : Thr (u.setCells b o vs) a n := fun B off e => World.there_setCells (h B off e) b o vs
theorem thrL3 {w : World} {c0 c1 c2 c3 c4 c5 c6 c7 c8 : Value} {a9 a13 a14 : Option Addr} {n9 m9 n13 m13 n14 m14 : Nat} {ua ub uc : Int} (h9 : Thr w a9 n9) (h13 : Thr w a13 n13) (h14 : Thr w a14 n14) :
  ThrL w [c0, c1, c2, c3, c4, c5, c6, c7, c8, .slice a9 n9 m9, .int .i64 ua, .int .i64 ub, .int .i64 uc, .slice a13 n13 m13, .slice a14 n14 m14] := by
 intro v hv a n c e
 simp only [List.drop_succ_cons, List.drop_zero, List.mem_cons, List.not_mem_nil, or_false] at hv
 rcases hv with rfl | rfl | rfl | rfl | rfl | rfl
 ·injection e with e1 e2 e3; subst e1 e2; exact h9
 ·cases e
 ·cases e
 ·cases e
 ·injection e with e1 e2 e3; subst e1 e2; exact h13
 ·injection e with e1 e2 e3; subst e1 e2; exact h14
structure OfB (w X u : World) (N Z Q : List Value) (s6 s7 s8 : Value) (A6 : List ByteArray) (A7 : List Int) (A8 : List ByteArray) (D : Nat) (C : List Value) : Prop where
 st : OfSt w X u N Z Q s6 s7 s8 A6 A7 A8
 bx : BoxL u D C
 hD : w.heap.size + 1 + 1 < D
 n6 : s6.ownBlock ≠ some D
 n7 : s7.ownBlock ≠ some D
 n8 : s8.ownBlock ≠ some D
section
variable {w X u : World} {N Z Q : List Value} {s6 s7 s8 : Value} {A6 : List ByteArray} {A7 : List Int} {A8 : List ByteArray} {D : Nat} {C : List Value}
theorem OfB.on (h : OfB w X u N Z Q s6 s7 s8 A6 A7 A8 D C) {u' : World} (hb : Below u.heap.size u u') : OfB w X u' N Z Q s6 s7 s8 A6 A7 A8 D C :=
 ⟨h.st.on hb, h.bx.on hb, h.hD, h.n6, h.n7, h.n8⟩
theorem OfB.new (h : OfSt w X u N Z Q s6 s7 s8 A6 A7 A8) {u' : World} (hb : Below u.heap.size u u') (hx : BoxL u' u.heap.size C) : OfB w X u' N Z Q s6 s7 s8 A6 A7 A8 u.heap.size C :=
 ⟨h.on hb, hx, h.box.sz, fun e => Nat.lt_irrefl _ (h.r6.lt e).2, fun e => Nat.lt_irrefl _ (h.r7.lt e).2, fun e => Nat.lt_irrefl _ (h.r8.lt e).2⟩
theorem OfB.app6 (h : OfB w X u N Z Q s6 s7 s8 A6 A7 A8 D C) {u' : World} {v : Value} {B : List ByteArray} (hr : Row RStr 1 (fun _ => False) X u' 9 v B) (hg : u.grownBy u' s6.ownBlock) (hp : v.ownBlock = s6.ownBlock \/ v.ownBlock = some u.heap.size) : OfB w X u' N Z Q v s7 s8 B A7 A8 D C := by
 refine ⟨h.st.app6 hr hg hp, h.bx.kept (A := fun b => s6.ownBlock ≠ some b) (Kept.grown hg (fun k e h => h e)) h.n6, h.hD, fun e => ?_, h.n7, h.n8⟩
 rcases hp with hp | hp
 ·exact h.n6 (hp ▸ e)
 ·have := h.bx.1; rw [hp] at e; injection e with e; omega
theorem OfB.app7 (h : OfB w X u N Z Q s6 s7 s8 A6 A7 A8 D C) {u' : World} {v : Value} {B : List Int} (hr : Row RInt 1 (fun _ => False) X u' 3 v B) (hg : u.grownBy u' s7.ownBlock) (hp : v.ownBlock = s7.ownBlock \/ v.ownBlock = some u.heap.size) : OfB w X u' N Z Q s6 v s8 A6 B A8 D C := by
 refine ⟨h.st.app7 hr hg hp, h.bx.kept (A := fun b => s7.ownBlock ≠ some b) (Kept.grown hg (fun k e h => h e)) h.n7, h.hD, h.n6, fun e => ?_, h.n8⟩
 rcases hp with hp | hp
 ·exact h.n7 (hp ▸ e)
 ·have := h.bx.1; rw [hp] at e; injection e with e; omega
theorem OfB.app8 (h : OfB w X u N Z Q s6 s7 s8 A6 A7 A8 D C) {u' : World} {v : Value} {B : List ByteArray} (hr : Row RStr 1 (fun _ => False) X u' 9 v B) (hg : u.grownBy u' s8.ownBlock) (hp : v.ownBlock = s8.ownBlock \/ v.ownBlock = some u.heap.size) : OfB w X u' N Z Q s6 s7 v A6 A7 B D C := by
 refine ⟨h.st.app8 hr hg hp, h.bx.kept (A := fun b => s8.ownBlock ≠ some b) (Kept.grown hg (fun k e h => h e)) h.n8, h.hD, h.n6, h.n7, fun e => ?_⟩
 rcases hp with hp | hp
 ·exact h.n8 (hp ▸ e)
 ·have := h.bx.1; rw [hp] at e; injection e with e; omega
end
def OmS (w : World) (N Q : List Value) (u : World) : Prop := BoxL u w.heap.size N /\ BoxL u (w.heap.size + 1 + 1) Q
theorem of_calls (ns : List Value) (a : Option Addr) (n cap : Nat) (A A' : Where) (x : NodeD) (L : List PodD) (w : World) (hN : Hid (RNode A w ns x)) (hL : Hid (SlAt RPod 16 296 A' w a n cap L)) (hF : Hid (FitsP L)) : Calls Tryz.prog 56 #[.agg ns.toArray, .slice a n cap] w fun e w' => ∃ cs', e = .returned (.agg cs'.toArray) /\ InfoAt A (Fresh w) w' cs' (allP x L) /\ ThrL w' cs' /\ Below w.heap.size w w' := by
 obtain ⟨nn, nl, nt, no, ⟨ga, gb, gc⟩, np, nd⟩ := x
 have hN0 := hN
 obtain ⟨⟨a1, n1, m1⟩, ⟨a2, n2, m2⟩, rfl, _⟩ := hN.out.out
 simp only at hN0 |-
 clear hN
 have hlen := hL.out.len (by decide)
 have hn : Hid (L.length = n) := hL.out.1
 have hbb : Hid (n * 296 <= 140737488351232) := hL.out.2.2.2.1
 obtain ⟨W3, hW3⟩ : ∃ W3, W3 = (((w.alloc (.cells #[.string nn, .slice a1 n1 m1, .slice a2 n2 m2, .bool no, .int .i64 ga, .int .i64 gb, .int .i64 gc, .int .i64 np, .int .i64 nd] 54)).alloc (.cells #[.string ⟨#[]⟩, .slice none 0 0, .slice none 0 0, .bool false, .int .i64 0, .int .i64 0, .int .i64 0, .int .i64 0, .int .i64 0, .slice none 0 0, .int .i64 0, .int .i64 0, .int .i64 0, .slice none 0 0, .slice none 0 0] 63)).alloc (.cells #[.int .i64 0, .int .i64 0, .int .i64 0] 41)) := ⟨_, rfl⟩
 have B3 : Hid (PB w W3 [.string nn, .slice a1 n1 m1, .slice a2 n2 m2, .bool no, .int .i64 ga, .int .i64 gb, .int .i64 gc, .int .i64 np, .int .i64 nd] [.string ⟨#[]⟩, .slice none 0 0, .slice none 0 0, .bool false, .int .i64 0, .int .i64 0, .int .i64 0, .int .i64 0, .int .i64 0, .slice none 0 0, .int .i64 0, .int .i64 0, .int .i64 0, .slice none 0 0, .slice none 0 0] [.int .i64 0, .int .i64 0, .int .i64 0]) := by
  rw [hW3]
  refine ⟨(BoxL.new w 54 [.string nn, .slice a1 n1 m1, .slice a2 n2 m2, .bool no, .int .i64 ga, .int .i64 gb, .int .i64 gc, .int .i64 np, .int .i64 nd]).on (((Below.refl _ _).alloc (Nat.le_refl _) _).alloc (by simp) _), ?_, ?_, by go_grown⟩
  ·have := (BoxL.new (w.alloc (.cells #[.string nn, .slice a1 n1 m1, .slice a2 n2 m2, .bool no, .int .i64 ga, .int .i64 gb, .int .i64 gc, .int .i64 np, .int .i64 nd] 54)) 63 [.string ⟨#[]⟩, .slice none 0 0, .slice none 0 0, .bool false, .int .i64 0, .int .i64 0, .int .i64 0, .int .i64 0, .int .i64 0, .slice none 0 0, .int .i64 0, .int .i64 0, .int .i64 0, .slice none 0 0, .slice none 0 0]).on ((Below.refl _ _).alloc (Nat.le_refl _) (.cells #[.int .i64 0, .int .i64 0, .int .i64 0] 41))
   simpa using this
  ·have := BoxL.new ((w.alloc (.cells #[.string nn, .slice a1 n1 m1, .slice a2 n2 m2, .bool no, .int .i64 ga, .int .i64 gb, .int .i64 gc, .int .i64 np, .int .i64 nd] 54)).alloc (.cells #[.string ⟨#[]⟩, .slice none 0 0, .slice none 0 0, .bool false, .int .i64 0, .int .i64 0, .int .i64 0, .int .i64 0, .int .i64 0, .slice none 0 0, .int .i64 0, .int .i64 0, .int .i64 0, .slice none 0 0, .slice none 0 0] 63)) 41 [.int .i64 0, .int .i64 0, .int .i64 0]
   simpa using this
 have HI0 : Hid (OfSt w W3 W3 [.string nn, .slice a1 n1 m1, .slice a2 n2 m2, .bool no, .int .i64 ga, .int .i64 gb, .int .i64 gc, .int .i64 np, .int .i64 nd] [.string ⟨#[]⟩, .slice none 0 0, .slice none 0 0, .bool false, .int .i64 0, .int .i64 0, .int .i64 0, .int .i64 0, .int .i64 0, .slice none 0 0, .int .i64 0, .int .i64 0, .int .i64 0, .slice none 0 0, .slice none 0 0] [.int .i64 0, .int .i64 0, .int .i64 0] (.slice none 0 0) (.slice none 0 0) (.slice none 0 0) (tupP (L.take 0)).1 (tupP (L.take 0)).2.2.1 (tupP (L.take 0)).2.2.2) := ⟨B3.out, Row.nil _ W3 _, Row.nil _ W3 _, Row.nil _ W3 _, fun b h => by simp [Value.ownBlock] at h, fun b h => by simp [Value.ownBlock] at h, fun b h => by simp [Value.ownBlock] at h⟩
 go_enter Tryz.func56, Tryz.ntmps56
 go_wp2_with fail
 rw [<- hW3]
 clear hW3
 go_loopw [5, 6, 7, 13] (fun s6 s8 s7 i wr => ∃ (k : Nat) (X : World), k <= n /\ i = .int .i64 k /\ Hid (OfSt w X wr [.string nn, .slice a1 n1 m1, .slice a2 n2 m2, .bool no, .int .i64 ga, .int .i64 gb, .int .i64 gc, .int .i64 np, .int .i64 nd] [.string ⟨#[]⟩, .slice none 0 0, .slice none 0 0, .bool false, .int .i64 0, .int .i64 0, .int .i64 0, .int .i64 0, .int .i64 0, .slice none 0 0, .int .i64 0, .int .i64 0, .int .i64 0, .slice none 0 0, .slice none 0 0] [.int .i64 (tupP (L.take k)).2.1.1, .int .i64 (tupP (L.take k)).2.1.2.1, .int .i64 (tupP (L.take k)).2.1.2.2] s6 s7 s8 (tupP (L.take k)).1 (tupP (L.take k)).2.2.1 (tupP (L.take k)).2.2.2)) (fun _ _ _ i _ => n - (intOf i).toNat)
 case atStart => exact ⟨0, W3, Nat.zero_le _, rfl, HI0⟩
 case round =>
  obtain ⟨k, X, hk, rfl, hI⟩ := hrel
  by_cases hlt : k < n
  ·have hltz : (k : Int) < (n : Int) := by omega
   have hkl : k < L.length := by rw [hn.out]; exact hlt
   obtain ⟨D, off, rfl, hD, _, cs, hr, hv⟩ := hL.out.get hlt
   have HT : Hid _ := tup_succ L hkl
   have HB : Hid _ := tup_fits hF.out hkl
   have HA : Hid ((tupP (L.take k)).1.length <= k) := by rw [Hid, (zBu _).1, List.length_take]; omega
   generalize L.getD k default = p at hr HT HB
   generalize (tupP (L.take k)) = s at hI HT HB HA
   obtain ⟨nms, ⟨ua, ub, uc⟩, pts, dks⟩ := s
   obtain ⟨nm, pri, lab, ⟨wa, wb, wc⟩, brs, ask, prf, prt, nea, apa, spr, clm, nod, hop⟩ := p
   have hone := RPod.firm.one hr
   obtain ⟨h2, h6, h7, h8, ⟨a9, n9, m9⟩, h10, h11, h12, ⟨a13, n13, m13⟩, rfl, hp0, _, _, _, _, t9, _, _, _, t13, _, _⟩ := hr.out
   simp only at hI HB HA t9 t13 hv HT hone
   have HT2 : Hid ((tupP (L.take (k + 1))) = (nms ++ [nm], ((addI ua wa), (addI ub wb), (addI uc wc)), pts ++ prt, dks ++ clm)) := HT.out
   have T9 : Hid (SlAt RInt 1 8 A' w a9 n9 m9 prt) := t9
   have T13 : Hid (SlAt RStr 1 16 A' w a13 n13 m13 clm) := t13
   have HB9 : Hid ((pts.length + prt.length) * 8 <= 140737488355328) := by have h1 := HB.out.1; simp only [pPorts] at h1; rw [Hid]; omega
   have HB13 : Hid ((dks.length + clm.length) * 16 <= 140737488355328) := by have h1 := HB.out.2; simp only [pClaims] at h1; rw [Hid]; omega
   have HB6 : Hid ((nms.length + [nm].length) * 16 <= 140737488355328) := by have h1 := HA.out; have h2 := hbb.out; simp [Hid]; omega
   have hbw : Below w.heap.size w wr := hI.out.box.b
   have HV : Hid (wr.rangeAt D (off + k * 16) [.string nm, .int .i64 pri, .slice h2.1 h2.2.1 h2.2.2, .int .i64 wa, .int .i64 wb, .int .i64 wc, .slice h6.1 h6.2.1 h6.2.2, .slice h7.1 h7.2.1 h7.2.2, .slice h8.1 h8.2.1 h8.2.2, .slice a9 n9 m9, .slice h10.1 h10.2.1 h10.2.2, .slice h11.1 h11.2.1 h11.2.2, .slice h12.1 h12.2.1 h12.2.2, .slice a13 n13 m13, .string nod, .string hop]) := fun j v hj => (hbw.cell hD).trans (hv j v hj)
   have hi : (Tryz.prog.info? 49).map (·.size) = some ([.string nm, .int .i64 pri, .slice h2.1 h2.2.1 h2.2.2, .int .i64 wa, .int .i64 wb, .int .i64 wc, .slice h6.1 h6.2.1 h6.2.2, .slice h7.1 h7.2.1 h7.2.2, .slice h8.1 h8.2.1 h8.2.2, .slice a9 n9 m9, .slice h10.1 h10.2.1 h10.2.2, .slice h11.1 h11.2.1 h11.2.2, .slice h12.1 h12.2.1 h12.2.2, .slice a13 n13 m13, .string nod, .string hop] : List Value).length := zAM
   have H1 : Hid ((([.string nm, .int .i64 pri, .slice h2.1 h2.2.1 h2.2.2, .int .i64 wa, .int .i64 wb, .int .i64 wc, .slice h6.1 h6.2.1 h6.2.2, .slice h7.1 h7.2.1 h7.2.2, .slice h8.1 h8.2.1 h8.2.2, .slice a9 n9 m9, .slice h10.1 h10.2.1 h10.2.2, .slice h11.1 h11.2.1 h11.2.2, .slice h12.1 h12.2.1 h12.2.2, .slice a13 n13 m13, .string nod, .string hop] : List Value).toArray).all (·.oneCell') = true) := all_oneCell_toArray hone
   clear hr hv t9 t13 HT HB hone
   obtain ⟨wb0, hwb⟩ : ∃ wb0, wb0 = (wr.alloc (.cells #[.string ⟨#[]⟩, .int .i64 0, .slice none 0 0, .int .i64 0, .int .i64 0, .int .i64 0, .slice none 0 0, .slice none 0 0, .slice none 0 0, .slice none 0 0, .slice none 0 0, .slice none 0 0, .slice none 0 0, .slice none 0 0, .string ⟨#[]⟩, .string ⟨#[]⟩] 49)).setCells wr.heap.size 0 [.string nm, .int .i64 pri, .slice h2.1 h2.2.1 h2.2.2, .int .i64 wa, .int .i64 wb, .int .i64 wc, .slice h6.1 h6.2.1 h6.2.2, .slice h7.1 h7.2.1 h7.2.2, .slice h8.1 h8.2.1 h8.2.2, .slice a9 n9 m9, .slice h10.1 h10.2.1 h10.2.2, .slice h11.1 h11.2.1 h11.2.2, .slice h12.1 h12.2.1 h12.2.2, .slice a13 n13 m13, .string nod, .string hop] := ⟨_, rfl⟩
   have HTH : Hid ((wr.alloc (.cells #[.string ⟨#[]⟩, .int .i64 0, .slice none 0 0, .int .i64 0, .int .i64 0, .int .i64 0, .slice none 0 0, .slice none 0 0, .slice none 0 0, .slice none 0 0, .slice none 0 0, .slice none 0 0, .slice none 0 0, .slice none 0 0, .string ⟨#[]⟩, .string ⟨#[]⟩] 49)).there wr.heap.size 0 16) := (BoxL.new wr 49 [.string ⟨#[]⟩, .int .i64 0, .slice none 0 0, .int .i64 0, .int .i64 0, .int .i64 0, .slice none 0 0, .slice none 0 0, .slice none 0 0, .slice none 0 0, .slice none 0 0, .slice none 0 0, .slice none 0 0, .slice none 0 0, .string ⟨#[]⟩, .string ⟨#[]⟩]).there
   have HBX : Hid (BoxL wb0 wr.heap.size [.string nm, .int .i64 pri, .slice h2.1 h2.2.1 h2.2.2, .int .i64 wa, .int .i64 wb, .int .i64 wc, .slice h6.1 h6.2.1 h6.2.2, .slice h7.1 h7.2.1 h7.2.2, .slice h8.1 h8.2.1 h8.2.2, .slice a9 n9 m9, .slice h10.1 h10.2.1 h10.2.2, .slice h11.1 h11.2.1 h11.2.2, .slice h12.1 h12.2.1 h12.2.2, .slice a13 n13 m13, .string nod, .string hop]) := by rw [hwb]; exact zAz wr 49 [.string ⟨#[]⟩, .int .i64 0, .slice none 0 0, .int .i64 0, .int .i64 0, .int .i64 0, .slice none 0 0, .slice none 0 0, .slice none 0 0, .slice none 0 0, .slice none 0 0, .slice none 0 0, .slice none 0 0, .slice none 0 0, .string ⟨#[]⟩, .string ⟨#[]⟩] [.string nm, .int .i64 pri, .slice h2.1 h2.2.1 h2.2.2, .int .i64 wa, .int .i64 wb, .int .i64 wc, .slice h6.1 h6.2.1 h6.2.2, .slice h7.1 h7.2.1 h7.2.2, .slice h8.1 h8.2.1 h8.2.2, .slice a9 n9 m9, .slice h10.1 h10.2.1 h10.2.2, .slice h11.1 h11.2.1 h11.2.2, .slice h12.1 h12.2.1 h12.2.2, .slice a13 n13 m13, .string nod, .string hop] rfl
   have HBB : Hid (Below wr.heap.size wr wb0) := by rw [hwb]; exact zA0 ((Below.refl _ _).alloc (Nat.le_refl _) _) (Nat.le_refl _)
   have HWB : Hid (wb0 = (wr.alloc (.cells #[.string ⟨#[]⟩, .int .i64 0, .slice none 0 0, .int .i64 0, .int .i64 0, .int .i64 0, .slice none 0 0, .slice none 0 0, .slice none 0 0, .slice none 0 0, .slice none 0 0, .slice none 0 0, .slice none 0 0, .slice none 0 0, .string ⟨#[]⟩, .string ⟨#[]⟩] 49)).setCells wr.heap.size 0 (([.string nm, .int .i64 pri, .slice h2.1 h2.2.1 h2.2.2, .int .i64 wa, .int .i64 wb, .int .i64 wc, .slice h6.1 h6.2.1 h6.2.2, .slice h7.1 h7.2.1 h7.2.2, .slice h8.1 h8.2.1 h8.2.2, .slice a9 n9 m9, .slice h10.1 h10.2.1 h10.2.2, .slice h11.1 h11.2.1 h11.2.2, .slice h12.1 h12.2.1 h12.2.2, .slice a13 n13 m13, .string nod, .string hop] : List Value).toArray).toList) := hwb
   clear hwb
   have HO1 : Hid (OfB w X (wb0.alloc (.cells #[.string nm] 9)) [.string nn, .slice a1 n1 m1, .slice a2 n2 m2, .bool no, .int .i64 ga, .int .i64 gb, .int .i64 gc, .int .i64 np, .int .i64 nd] [.string ⟨#[]⟩, .slice none 0 0, .slice none 0 0, .bool false, .int .i64 0, .int .i64 0, .int .i64 0, .int .i64 0, .int .i64 0, .slice none 0 0, .int .i64 0, .int .i64 0, .int .i64 0, .slice none 0 0, .slice none 0 0] [.int .i64 ua, .int .i64 ub, .int .i64 uc] u5 u7 u6 nms pts dks wr.heap.size [.string nm, .int .i64 pri, .slice h2.1 h2.2.1 h2.2.2, .int .i64 wa, .int .i64 wb, .int .i64 wc, .slice h6.1 h6.2.1 h6.2.2, .slice h7.1 h7.2.1 h7.2.2, .slice h8.1 h8.2.1 h8.2.2, .slice a9 n9 m9, .slice h10.1 h10.2.1 h10.2.2, .slice h11.1 h11.2.1 h11.2.2, .slice h12.1 h12.2.1 h12.2.2, .slice a13 n13 m13, .string nod, .string hop]) := (OfB.new hI.out HBB.out HBX.out).on ((Below.refl _ _).alloc (Nat.le_refl _) _)
   obtain ⟨c0, _⟩ := HBX.out.2 0 _ rfl
   have HN : Hid (Src RStr 1 (fun b => False /\ Value.ownBlock u5 ≠ some b) (wb0.alloc (.cells #[.string nm] 9)) (some ⟨wb0.heap.size, 0, none⟩) 1 [nm]) := ⟨rfl, .inr ⟨_, [.string nm], rfl, zAQ RStr.firm ⟨rfl, hp0⟩, zAV wb0 [.string nm] 9, by simp [Value.oneCell']⟩⟩
   go_upto_region 8 with (first | (refine wpList_load_mid rfl 49 _ rfl D (off + k * 16) rfl [.string nm, .int .i64 pri, .slice h2.1 h2.2.1 h2.2.2, .int .i64 wa, .int .i64 wb, .int .i64 wc, .slice h6.1 h6.2.1 h6.2.2, .slice h7.1 h7.2.1 h7.2.2, .slice h8.1 h8.2.1 h8.2.2, .slice a9 n9 m9, .slice h10.1 h10.2.1 h10.2.2, .slice h11.1 h11.2.1 h11.2.2, .slice h12.1 h12.2.1 h12.2.2, .slice a13 n13 m13, .string nod, .string hop] _ HV.out Tryz.underlying49 rfl hi ?_) | (refine wpList_store_mid rfl 49 _ _ rfl wr.heap.size 0 (([.string nm, .int .i64 pri, .slice h2.1 h2.2.1 h2.2.2, .int .i64 wa, .int .i64 wb, .int .i64 wc, .slice h6.1 h6.2.1 h6.2.2, .slice h7.1 h7.2.1 h7.2.2, .slice h8.1 h8.2.1 h8.2.2, .slice a9 n9 m9, .slice h10.1 h10.2.1 h10.2.2, .slice h11.1 h11.2.1 h11.2.2, .slice h12.1 h12.2.1 h12.2.2, .slice a13 n13 m13, .string nod, .string hop] : List Value).toArray) rfl rfl HTH.out hi H1.out ?_; refine zAH HWB.out ?_) | (at_builtin; go_must (refine zAL RStr.firm (A := (fun _ => False)) (w0 := X) rfl _ _ 31 9 rfl _ 16 zC5 Tryz.underlying31 rfl (by decide) (by decide) _ nms rfl HO1.out.st.r6 (some ⟨wb0.heap.size, 0, none⟩) 1 1 [nm] rfl HN.out HB6.out ?_); intro x6 y1 hr6 hg6 hp6))
   have HO2 : Hid (OfB w X y1 [.string nn, .slice a1 n1 m1, .slice a2 n2 m2, .bool no, .int .i64 ga, .int .i64 gb, .int .i64 gc, .int .i64 np, .int .i64 nd] [.string ⟨#[]⟩, .slice none 0 0, .slice none 0 0, .bool false, .int .i64 0, .int .i64 0, .int .i64 0, .int .i64 0, .int .i64 0, .slice none 0 0, .int .i64 0, .int .i64 0, .int .i64 0, .slice none 0 0, .slice none 0 0] [.int .i64 ua, .int .i64 ub, .int .i64 uc] x6 u7 u6 (nms ++ [nm]) pts dks wr.heap.size [.string nm, .int .i64 pri, .slice h2.1 h2.2.1 h2.2.2, .int .i64 wa, .int .i64 wb, .int .i64 wc, .slice h6.1 h6.2.1 h6.2.2, .slice h7.1 h7.2.1 h7.2.2, .slice h8.1 h8.2.1 h8.2.2, .slice a9 n9 m9, .slice h10.1 h10.2.1 h10.2.2, .slice h11.1 h11.2.1 h11.2.2, .slice h12.1 h12.2.1 h12.2.2, .slice a13 n13 m13, .string nod, .string hop]) := HO1.out.app6 hr6 hg6 hp6
   clear hr6 hg6 hp6 HN HB6 HO1 c0 HV HTH HWB H1 HBX
   obtain ⟨c9, _⟩ := HO2.out.bx.2 9 _ rfl
   have HN9 : Hid (Src RInt 1 (fun b => False /\ Value.ownBlock u7 ≠ some b) y1 a9 n9 prt) := (((T9.out.on RInt.firm HO2.out.st.box.b).src RInt.firm).flat RInt.flat)
   go_upto_region 9 with (at_builtin; go_must (refine zAL RInt.firm (A := (fun _ => False)) (w0 := X) rfl _ _ 45 3 rfl _ 8 zCo Tryz.underlying45 rfl (by decide) (by decide) _ pts rfl HO2.out.st.r7 a9 n9 m9 prt rfl HN9.out HB9.out ?_); intro x7 y2 hr7 hg7 hp7)
   have HO3 : Hid (OfB w X y2 [.string nn, .slice a1 n1 m1, .slice a2 n2 m2, .bool no, .int .i64 ga, .int .i64 gb, .int .i64 gc, .int .i64 np, .int .i64 nd] [.string ⟨#[]⟩, .slice none 0 0, .slice none 0 0, .bool false, .int .i64 0, .int .i64 0, .int .i64 0, .int .i64 0, .int .i64 0, .slice none 0 0, .int .i64 0, .int .i64 0, .int .i64 0, .slice none 0 0, .slice none 0 0] [.int .i64 ua, .int .i64 ub, .int .i64 uc] x6 x7 u6 (nms ++ [nm]) (pts ++ prt) dks wr.heap.size [.string nm, .int .i64 pri, .slice h2.1 h2.2.1 h2.2.2, .int .i64 wa, .int .i64 wb, .int .i64 wc, .slice h6.1 h6.2.1 h6.2.2, .slice h7.1 h7.2.1 h7.2.2, .slice h8.1 h8.2.1 h8.2.2, .slice a9 n9 m9, .slice h10.1 h10.2.1 h10.2.2, .slice h11.1 h11.2.1 h11.2.2, .slice h12.1 h12.2.1 h12.2.2, .slice a13 n13 m13, .string nod, .string hop]) := HO2.out.app7 hr7 hg7 hp7
   clear hr7 hg7 hp7 HN9 HB9 HO2 c9
   obtain ⟨c13, _⟩ := HO3.out.bx.2 13 _ rfl
   have HN13 : Hid (Src RStr 1 (fun b => False /\ Value.ownBlock u6 ≠ some b) y2 a13 n13 clm) := (((T13.out.on RStr.firm HO3.out.st.box.b).src RStr.firm).flat RStr.flat)
   go_upto_region 10 with (at_builtin; go_must (refine zAL RStr.firm (A := (fun _ => False)) (w0 := X) rfl _ _ 31 9 rfl _ 16 zC5 Tryz.underlying31 rfl (by decide) (by decide) _ dks rfl HO3.out.st.r8 a13 n13 m13 clm rfl HN13.out HB13.out ?_); intro x8 y3 hr8 hg8 hp8)
   have HO4 : Hid (OfB w X y3 [.string nn, .slice a1 n1 m1, .slice a2 n2 m2, .bool no, .int .i64 ga, .int .i64 gb, .int .i64 gc, .int .i64 np, .int .i64 nd] [.string ⟨#[]⟩, .slice none 0 0, .slice none 0 0, .bool false, .int .i64 0, .int .i64 0, .int .i64 0, .int .i64 0, .int .i64 0, .slice none 0 0, .int .i64 0, .int .i64 0, .int .i64 0, .slice none 0 0, .slice none 0 0] [.int .i64 ua, .int .i64 ub, .int .i64 uc] x6 x7 x8 (nms ++ [nm]) (pts ++ prt) (dks ++ clm) wr.heap.size [.string nm, .int .i64 pri, .slice h2.1 h2.2.1 h2.2.2, .int .i64 wa, .int .i64 wb, .int .i64 wc, .slice h6.1 h6.2.1 h6.2.2, .slice h7.1 h7.2.1 h7.2.2, .slice h8.1 h8.2.1 h8.2.2, .slice a9 n9 m9, .slice h10.1 h10.2.1 h10.2.2, .slice h11.1 h11.2.1 h11.2.2, .slice h12.1 h12.2.1 h12.2.2, .slice a13 n13 m13, .string nod, .string hop]) := HO3.out.app8 hr8 hg8 hp8
   clear hr8 hg8 hp8 HN13 HB13 HO3 c13
   obtain ⟨c3, _⟩ := HO4.out.bx.2 3 _ rfl
   obtain ⟨c4, _⟩ := HO4.out.bx.2 4 _ rfl
   obtain ⟨c5, _⟩ := HO4.out.bx.2 5 _ rfl
   obtain ⟨q0, _⟩ := HO4.out.st.box.q.2 0 _ rfl
   obtain ⟨q1, _⟩ := HO4.out.st.box.q.2 1 _ rfl
   obtain ⟨q2, _⟩ := HO4.out.st.box.q.2 2 _ rfl
   go_wp2_with fail
   refine (zDk ua ub uc wa wb wc y3).mono ?_
   rintro e y4 ⟨rfl, hb4⟩
   have hI4 := HO4.out.st.on hb4
   clear c3 c4 c5 q0 q1 q2 hb4 HO4
   obtain ⟨q0, f0⟩ := hI4.box.q.2 0 _ rfl
   obtain ⟨q1, f1⟩ := hI4.box.q.2 1 _ rfl
   obtain ⟨q2, f2⟩ := hI4.box.q.2 2 _ rfl
   have hI5 := ((hI4.set 0 (.int .i64 (addI ua wa)) (by simp)).set 1 (.int .i64 (addI ub wb)) (by simp)).set 2 (.int .i64 (addI uc wc)) (by simp)
   obtain ⟨X5, hX5⟩ : ∃ X5, X5 = (((X.setCell ⟨w.heap.size + 1 + 1, 0, none⟩ (.int .i64 (addI ua wa))).setCell ⟨w.heap.size + 1 + 1, 1, none⟩ (.int .i64 (addI ub wb))).setCell ⟨w.heap.size + 1 + 1, 2, none⟩ (.int .i64 (addI uc wc))) := ⟨_, rfl⟩
   rw [<- hX5] at hI5
   have HI5 : Hid (OfSt w X5 (((y4.setCell ⟨w.heap.size + 1 + 1, 0, none⟩ (.int .i64 (addI ua wa))).setCell ⟨w.heap.size + 1 + 1, 1, none⟩ (.int .i64 (addI ub wb))).setCell ⟨w.heap.size + 1 + 1, 2, none⟩ (.int .i64 (addI uc wc))) [.string nn, .slice a1 n1 m1, .slice a2 n2 m2, .bool no, .int .i64 ga, .int .i64 gb, .int .i64 gc, .int .i64 np, .int .i64 nd] [.string ⟨#[]⟩, .slice none 0 0, .slice none 0 0, .bool false, .int .i64 0, .int .i64 0, .int .i64 0, .int .i64 0, .int .i64 0, .slice none 0 0, .int .i64 0, .int .i64 0, .int .i64 0, .slice none 0 0, .slice none 0 0] [.int .i64 (addI ua wa), .int .i64 (addI ub wb), .int .i64 (addI uc wc)] x6 x7 x8 (nms ++ [nm]) (pts ++ prt) (dks ++ clm)) := hI5
   clear hX5 hI5 hI4
   go_wp2_with fail
   clear q0 q1 q2 f0 f1 f2
   go_roundw
   case rel => exact ⟨k + 1, X5, by omega, by go_num, by rw [HT2.out]; exact HI5⟩
   case measure => simp [intOf]; omega
  ·have hk9 : L.take k = L := List.take_of_length_le (by rw [hn.out]; omega)
   rw [hk9] at hI
   have HA : Hid ((tupP L).1.length <= n) := by rw [Hid, (zBu _).1]; exact Nat.le_of_eq hn.out
   have HB : Hid ((tupP L).2.2.1.length * 8 <= 140737488351232 /\ (tupP L).2.2.2.length * 16 <= 140737488351232) := by rw [Hid, (zBu _).2.1, (zBu _).2.2]; exact hF.out
   have HE : Hid (allP (nn, nl, nt, no, (ga, gb, gc), np, nd) L = accInfo (nn, nl, nt, no, (ga, gb, gc), np, nd) (tupP L)) := rfl
   have hlz : ¬ ((k : Int) < (n : Int)) := by omega
   generalize tupP L = s at hI HA HB HE
   obtain ⟨nms, ⟨ua, ub, uc⟩, pts, dks⟩ := s
   simp only at hI HA HB HE
   obtain ⟨b6, c6, e6, hS6⟩ := hI.out.r6.sl (bytes := 16) RStr.firm (by have h1 := HA.out; have h2 := hbb.out; omega)
   subst e6
   obtain ⟨b7, c7, e7, hS7⟩ := hI.out.r7.sl (bytes := 8) RInt.firm HB.out.1
   subst e7
   obtain ⟨b8, c8, e8, hS8⟩ := hI.out.r8.sl (bytes := 16) RStr.firm HB.out.2
   subst e8
   have HS6 : Hid (SlAt RStr 1 16 _ wr b6 nms.length c6 nms) := hS6
   have HS7 : Hid (SlAt RInt 1 8 _ wr b7 pts.length c7 pts) := hS7
   have HS8 : Hid (SlAt RStr 1 16 _ wr b8 dks.length c8 dks) := hS8
   have HB0 : Hid (PB w wr [.string nn, .slice a1 n1 m1, .slice a2 n2 m2, .bool no, .int .i64 ga, .int .i64 gb, .int .i64 gc, .int .i64 np, .int .i64 nd] [.string ⟨#[]⟩, .slice none 0 0, .slice none 0 0, .bool false, .int .i64 0, .int .i64 0, .int .i64 0, .int .i64 0, .int .i64 0, .slice none 0 0, .int .i64 0, .int .i64 0, .int .i64 0, .slice none 0 0, .slice none 0 0] [.int .i64 ua, .int .i64 ub, .int .i64 uc]) := hI.out.box
   generalize nms.length = j6 at HS6 HA |-
   clear hS6 hS7 hS8 hI hk9
   have HS : Hid (∀ u : World, Below wr.heap.size wr u -> OmS w [.string nn, .slice a1 n1 m1, .slice a2 n2 m2, .bool no, .int .i64 ga, .int .i64 gb, .int .i64 gc, .int .i64 np, .int .i64 nd] [.int .i64 ua, .int .i64 ub, .int .i64 uc] u) := fun u hb => ⟨(HB0.out.on hb).p, (HB0.out.on hb).q⟩
   go_wp2_with fail
   refine wp_region_noPanic ?_
   refine wp_region_held_drew (S := OmS w [.string nn, .slice a1 n1 m1, .slice a2 n2 m2, .bool no, .int .i64 ga, .int .i64 gb, .int .i64 gc, .int .i64 np, .int .i64 nd] [.int .i64 ua, .int .i64 ub, .int .i64 uc]) (by kernel_rfl) (HS.out _ (Below.refl _ _).drew) (fun gH => ?_)
   refine' tk 0 ?_ ?_; rotate_left
   ·intro u hu; have cp0 := (hu.1.2 0 _ rfl).1; have cp1 := (hu.1.2 1 _ rfl).1; have cp2 := (hu.1.2 2 _ rfl).1; have cp3 := (hu.1.2 3 _ rfl).1; have cp4 := (hu.1.2 4 _ rfl).1; have cp5 := (hu.1.2 5 _ rfl).1; have cp6 := (hu.1.2 6 _ rfl).1; have cp7 := (hu.1.2 7 _ rfl).1; have cp8 := (hu.1.2 8 _ rfl).1; clear hu; go_simp; try with_reducible rfl
   try go_frame
   refine tp 1 ?_
   try go_frame
   refine' tk 3 ?_ ?_; rotate_left
   ·intro u hu; have cy0 := (hu.2.2 0 _ rfl).1; have cy1 := (hu.2.2 1 _ rfl).1; have cy2 := (hu.2.2 2 _ rfl).1; clear hu; go_simp; try with_reducible rfl
   try go_frame
   refine tp 4 ?_
   try go_frame
   refine tp 6 ?_
   try go_frame
   refine tr 2 (fun K hK => ?_)
   go_simp
   refine (zGU b6 j6 c6 _ nms wr.drew (HS6.out.on RStr.firm (Below.refl _ _).drew)).mono ?_
   rintro e y1 ⟨g9, k9, rfl, r9, z9, hb1⟩
   have by1 : Below wr.heap.size wr y1 := on2 (Below.refl _ _).drew hb1
   have r9 := r9.weak (A' := (fun b => w.heap.size + 1 + 1 < b)) RStr.firm (fun b _ hb => Nat.lt_of_lt_of_le (HB0.out.on (Below.refl _ _).drew).sz hb)
   generalize hl9 : (sortB sLt sEq nms).length = l9 at r9 z9 |-
   clear hl9
   go_wp2_with fail
   refine hK.out _ _ (HS.out _ by1) (fun gI => ?_)
   clear hK K gH; have gH := gI; clear gI
   try go_frame
   refine tr 5 (fun K hK => ?_)
   go_simp
   refine (joinedI1 b7 pts.length c7 _ pts y1 (HS7.out.on RInt.firm by1)).mono ?_
   rintro e y2 ⟨g13, k13, rfl, r13, z13, hb2⟩
   have by2 := on2 by1 hb2
   have r13 := r13.weak (A' := (fun b => w.heap.size + 1 + 1 < b)) RInt.firm (fun b _ hb => Nat.lt_of_lt_of_le (HB0.out.on by1).sz hb)
   have r9 := r9.on RStr.firm hb2
   have z9 := z9.on hb2
   generalize hl13 : (sortB iLt iEq pts).length = l13 at r13 z13 |-
   clear hl13
   go_wp2_with fail
   refine hK.out _ _ (HS.out _ by2) (fun gI => ?_)
   clear hK K gH; have gH := gI; clear gI
   try go_frame
   refine tr 7 (fun K hK => ?_)
   go_simp
   refine (zGU b8 dks.length c8 _ dks y2 (HS8.out.on RStr.firm by2)).mono ?_
   rintro e y3 ⟨g14, k14, rfl, r14, z14, hb3⟩
   have by3 := on2 by2 hb3
   have r14 := r14.weak (A' := (fun b => w.heap.size + 1 + 1 < b)) RStr.firm (fun b _ hb => Nat.lt_of_lt_of_le (HB0.out.on by2).sz hb)
   have r9 := r9.on RStr.firm hb3
   have z9 := z9.on hb3
   have r13 := r13.on RInt.firm hb3
   have z13 := z13.on hb3
   generalize hl14 : (sortB sLt sEq dks).length = l14 at r14 z14 |-
   clear hl14
   go_wp2_with fail
   refine hK.out _ _ (HS.out _ by3) (fun gI => ?_)
   clear hK K gH; have gH := gI; clear gI
   try go_frame
   refine tp 8 ?_
   try go_frame
   have C8 := HB0.out.on by3
   have hsz := C8.sz
   have hgz : ¬ (fun b => w.heap.size + 1 + 1 < b) (w.heap.size + 1) := fun h => Nat.lt_irrefl _ (Nat.lt_of_le_of_lt (Nat.le_succ _) h)
   have HK : ∀ u, Kept (fun b => w.heap.size + 1 + 1 < b) y3 u -> Below w.heap.size w u -> InfoAt A (Fresh w) u [.string nn, .slice a1 n1 m1, .slice a2 n2 m2, .bool no, .int .i64 ga, .int .i64 gb, .int .i64 gc, .int .i64 np, .int .i64 nd, .slice g9 l9 k9, .int .i64 ua, .int .i64 ub, .int .i64 uc, .slice g13 l13 k13, .slice g14 l14 k14] (accInfo (nn, nl, nt, no, (ga, gb, gc), np, nd) (nms, (ua, ub, uc), pts, dks)) := fun u hk hb => ⟨[.string nn, .slice a1 n1 m1, .slice a2 n2 m2, .bool no, .int .i64 ga, .int .i64 gb, .int .i64 gc, .int .i64 np, .int .i64 nd], [.slice g9 l9 k9, .int .i64 ua, .int .i64 ub, .int .i64 uc, .slice g13 l13 k13, .slice g14 l14 k14], rfl, RNode.firm.kept hN0.out (Kept.below hb), ⟨[.slice g9 l9 k9], _, rfl, ⟨g9, l9, k9, rfl, ((r9.kept RStr.firm hk).weak RStr.firm (fun b _ hb => show w.heap.size <= b by have h1 : w.heap.size + 1 + 1 < b := hb; omega))⟩, ⟨[.int .i64 ua, .int .i64 ub, .int .i64 uc], _, rfl, RRes.mk (x := (ua, ub, uc)), ⟨[.slice g13 l13 k13], _, rfl, ⟨g13, l13, k13, rfl, ((r13.kept RInt.firm hk).weak RInt.firm (fun b _ hb => show w.heap.size <= b by have h1 : w.heap.size + 1 + 1 < b := hb; omega))⟩, ⟨g14, l14, k14, rfl, ((r14.kept RStr.firm hk).weak RStr.firm (fun b _ hb => show w.heap.size <= b by have h1 : w.heap.size + 1 + 1 < b := hb; omega))⟩⟩⟩⟩⟩
   have hbz : Below w.heap.size w (y3.setCells (w.heap.size + 1) 0 [.string nn, .slice a1 n1 m1, .slice a2 n2 m2, .bool no, .int .i64 ga, .int .i64 gb, .int .i64 gc, .int .i64 np, .int .i64 nd, .slice g9 l9 k9, .int .i64 ua, .int .i64 ub, .int .i64 uc, .slice g13 l13 k13, .slice g14 l14 k14]) := zA0 C8.b (by omega)
   have HE2 := HK _ (zA1 (vs := [.string nn, .slice a1 n1 m1, .slice a2 n2 m2, .bool no, .int .i64 ga, .int .i64 gb, .int .i64 gc, .int .i64 np, .int .i64 nd, .slice g9 l9 k9, .int .i64 ua, .int .i64 ub, .int .i64 uc, .slice g13 l13 k13, .slice g14 l14 k14]) (o := 0) hgz) hbz
   have H1 := all_oneCell_toArray (HE2.one)
   have HI : (Tryz.prog.info? 63).map (·.size) = some (([.string nn, .slice a1 n1 m1, .slice a2 n2 m2, .bool no, .int .i64 ga, .int .i64 gb, .int .i64 gc, .int .i64 np, .int .i64 nd, .slice g9 l9 k9, .int .i64 ua, .int .i64 ub, .int .i64 uc, .slice g13 l13 k13, .slice g14 l14 k14] : List Value).toArray).size := by kernel_rfl
   have HRG : Hid ((y3.setCells (w.heap.size + 1) 0 [.string nn, .slice a1 n1 m1, .slice a2 n2 m2, .bool no, .int .i64 ga, .int .i64 gb, .int .i64 gc, .int .i64 np, .int .i64 nd, .slice g9 l9 k9, .int .i64 ua, .int .i64 ub, .int .i64 uc, .slice g13 l13 k13, .slice g14 l14 k14]).rangeAt (w.heap.size + 1) 0 [.string nn, .slice a1 n1 m1, .slice a2 n2 m2, .bool no, .int .i64 ga, .int .i64 gb, .int .i64 gc, .int .i64 np, .int .i64 nd, .slice g9 l9 k9, .int .i64 ua, .int .i64 ub, .int .i64 uc, .slice g13 l13 k13, .slice g14 l14 k14]) := World.rangeAt_setCells_same _ _ _ _ C8.z.there
   have HTL : ThrL (y3.setCells (w.heap.size + 1) 0 [.string nn, .slice a1 n1 m1, .slice a2 n2 m2, .bool no, .int .i64 ga, .int .i64 gb, .int .i64 gc, .int .i64 np, .int .i64 nd, .slice g9 l9 k9, .int .i64 ua, .int .i64 ub, .int .i64 uc, .slice g13 l13 k13, .slice g14 l14 k14]) [.string nn, .slice a1 n1 m1, .slice a2 n2 m2, .bool no, .int .i64 ga, .int .i64 gb, .int .i64 gc, .int .i64 np, .int .i64 nd, .slice g9 l9 k9, .int .i64 ua, .int .i64 ub, .int .i64 uc, .slice g13 l13 k13, .slice g14 l14 k14] := thrL3 (z9.cells _ _ _) (z13.cells _ _ _) (z14.cells _ _ _)
   refine ts 9 (fun K hK => ?_)
   refine want_yes (by rfl) (wp_store_mid 63 _ _ rfl (w.heap.size + 1) 0 ([.string nn, .slice a1 n1 m1, .slice a2 n2 m2, .bool no, .int .i64 ga, .int .i64 gb, .int .i64 gc, .int .i64 np, .int .i64 nd, .slice g9 l9 k9, .int .i64 ua, .int .i64 ub, .int .i64 uc, .slice g13 l13 k13, .slice g14 l14 k14] : List Value).toArray rfl rfl C8.z.there HI H1 ?_)
   obtain ⟨W8, hW8⟩ : ∃ W8, W8 = y3.setCells (w.heap.size + 1) 0 [.string nn, .slice a1 n1 m1, .slice a2 n2 m2, .bool no, .int .i64 ga, .int .i64 gb, .int .i64 gc, .int .i64 np, .int .i64 nd, .slice g9 l9 k9, .int .i64 ua, .int .i64 ub, .int .i64 uc, .slice g13 l13 k13, .slice g14 l14 k14] := ⟨_, rfl⟩
   have hS8 : OmS w [.string nn, .slice a1 n1 m1, .slice a2 n2 m2, .bool no, .int .i64 ga, .int .i64 gb, .int .i64 gc, .int .i64 np, .int .i64 nd] [.int .i64 ua, .int .i64 ub, .int .i64 uc] W8 := by rw [hW8]; exact ⟨C8.p.kept (A := fun b => b ≠ w.heap.size + 1) (zA1 (fun h => h rfl)) (by omega), C8.q.kept (A := fun b => b ≠ w.heap.size + 1) (zA1 (fun h => h rfl)) (by omega)⟩
   rw [<- hW8] at HRG HE2 hbz HTL
   refine at_world hW8 ?_
   refine hK.out undef _ hS8 (fun gI => ?_)
   clear hK K gH; have gH := gI; clear gI
   try go_frame
   rw [<- HE.out] at HE2
   have HE3 : Hid (InfoAt A (Fresh w) W8 [.string nn, .slice a1 n1 m1, .slice a2 n2 m2, .bool no, .int .i64 ga, .int .i64 gb, .int .i64 gc, .int .i64 np, .int .i64 nd, .slice g9 l9 k9, .int .i64 ua, .int .i64 ub, .int .i64 uc, .slice g13 l13 k13, .slice g14 l14 k14] (allP (nn, nl, nt, no, (ga, gb, gc), np, nd) L)) := HE2
   have HB3 : Hid (Below w.heap.size w W8) := hbz
   have HT3 : Hid (ThrL W8 [.string nn, .slice a1 n1 m1, .slice a2 n2 m2, .bool no, .int .i64 ga, .int .i64 gb, .int .i64 gc, .int .i64 np, .int .i64 nd, .slice g9 l9 k9, .int .i64 ua, .int .i64 ub, .int .i64 uc, .slice g13 l13 k13, .slice g14 l14 k14]) := HTL
   clear HE2 hbz H1 HK C8 r9 r13 r14 z9 z13 z14 hW8 HTL
   refine wpAnyH_done (by kernel_rfl) ?_ _
   refine NoPanic.normal ?_
   go_wp2_with fail
   refine bodyPost_ret (v := .agg ([.string nn, .slice a1 n1 m1, .slice a2 n2 m2, .bool no, .int .i64 ga, .int .i64 gb, .int .i64 gc, .int .i64 np, .int .i64 nd, .slice g9 l9 k9, .int .i64 ua, .int .i64 ub, .int .i64 uc, .slice g13 l13 k13, .slice g14 l14 k14] : List Value).toArray) (zE5 (p := 4) (ty := 63) rfl _ _ (w.heap.size + 1) [.string nn, .slice a1 n1 m1, .slice a2 n2 m2, .bool no, .int .i64 ga, .int .i64 gb, .int .i64 gc, .int .i64 np, .int .i64 nd, .slice g9 l9 k9, .int .i64 ua, .int .i64 ub, .int .i64 uc, .slice g13 l13 k13, .slice g14 l14 k14] _ rfl HRG.out Tryz.underlying63 rfl HI) rfl ⟨[.string nn, .slice a1 n1 m1, .slice a2 n2 m2, .bool no, .int .i64 ga, .int .i64 gb, .int .i64 gc, .int .i64 np, .int .i64 nd, .slice g9 l9 k9, .int .i64 ua, .int .i64 ub, .int .i64 uc, .slice g13 l13 k13, .slice g14 l14 k14], rfl, HE3.out, HT3.out, HB3.out⟩
end Go.Proofs.YtnffafjamiffnaaGreat
