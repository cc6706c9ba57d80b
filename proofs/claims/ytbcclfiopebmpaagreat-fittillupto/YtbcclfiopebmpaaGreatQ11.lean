/- info.of: what a node has of pods of which no name stands twice. Condition: the arguments lie as is said of them; the pods' ports and claims together are within what an append may ask. info.Of: what a node has of pods. Condition: the arguments lie as is said of them; the pods' ports and claims together are within what an append may ask. Arguments as they come in: texts and slices of structs, read off memory. No condition beyond the row's own reach. Arguments as they come in, whatever their type: read off memory, they lie as said. No condition beyond the row's own reach. -/
import Derived.Test.YtbcclfiopebmpaaGreatQ06
import Derived.Test.YtbcclfiopebmpaaGreatQ09
import Derived.Test.YtbcclfiopebmpaaGreatQ10
import Derived.Test.YtbcclfiopebmpaaGreatQ07
import Derived.Test.YtbcclfiopebmpaaGreatQ01
import Derived.Deep.Slices
import Derived.Deep.Strs
import Derived.SizedLaws
namespace Go.Proofs.YtbcclfiopebmpaaGreat
open Go.RowKit
set_option linter.unusedSimpArgs false
set_option maxRecDepth 100000

/-- The lists of an info may be written. -/
def ThrL (w : World) (cs : List Value) : Prop := ∀ v ∈ cs.drop 9, ∀ a n c, v = .slice a n c → Thr w a n
/-- A struct variable's new block, written over. -/
theorem box_set (u : World) (t : TypeId) (zs cs : List Value) (hl : zs.length = cs.length) : BoxL ((u.alloc (.cells zs.toArray t)).setCells u.heap.size 0 cs) u.heap.size cs := by
  have hb := BoxL.new u t zs
  have hth : (u.alloc (.cells zs.toArray t)).there u.heap.size 0 cs.length := hl ▸ hb.there
  have hr := World.rangeAt_setCells_same (u.alloc (.cells zs.toArray t)) u.heap.size 0 cs hth
  have ht2 := World.there_setCells hth u.heap.size 0 cs
  refine ⟨Nat.lt_of_lt_of_le hb.1 (kept_setCells (A := fun _ => False) (b := u.heap.size) (fun h => h) (vs := cs) (o := 0) (u := u.alloc (.cells zs.toArray t))).1, fun j v hj => ?_⟩
  have h1 := hr j v hj
  have h2 := (ht2 j (List.getElem?_eq_some_iff.1 hj).1).2
  rw [Nat.zero_add] at h1 h2
  exact ⟨h1, h2⟩
theorem Thr.cells {u : World} {a : Option Addr} {n : Nat} (h : Thr u a n) (b o : Nat) (vs : List Value) : Thr (u.setCells b o vs) a n := fun B off e => World.there_setCells (h B off e) b o vs
theorem thrL3 {w : World} {c0 c1 c2 c3 c4 c5 c6 c7 c8 : Value} {a9 a13 a14 : Option Addr} {n9 m9 n13 m13 n14 m14 : Nat} {ua ub uc : Int} (h9 : Thr w a9 n9) (h13 : Thr w a13 n13) (h14 : Thr w a14 n14) :
    ThrL w [c0, c1, c2, c3, c4, c5, c6, c7, c8, .slice a9 n9 m9, .int .i64 ua, .int .i64 ub, .int .i64 uc, .slice a13 n13 m13, .slice a14 n14 m14] := by
  intro v hv a n c e
  simp only [List.drop_succ_cons, List.drop_zero, List.mem_cons, List.not_mem_nil, or_false] at hv
  rcases hv with rfl | rfl | rfl | rfl | rfl | rfl
  · injection e with e1 e2 e3; subst e1 e2; exact h9
  · cases e
  · cases e
  · cases e
  · injection e with e1 e2 e3; subst e1 e2; exact h13
  · injection e with e1 e2 e3; subst e1 e2; exact h14
/-- The blocks, the three rows, and the block of the pod at hand. -/
structure OfB (w X u : World) (N Z Q : List Value) (s6 s7 s8 : Value) (A6 : List ByteArray) (A7 : List Int) (A8 : List ByteArray) (D : Nat) (C : List Value) : Prop where
  st : OfSt w X u N Z Q s6 s7 s8 A6 A7 A8
  bx : BoxL u D C
  hD : w.heap.size + 1 + 1 < D
  n6 : s6.ownBlock ≠ some D
  n7 : s7.ownBlock ≠ some D
  n8 : s8.ownBlock ≠ some D
section
variable {w X u : World} {N Z Q : List Value} {s6 s7 s8 : Value} {A6 : List ByteArray} {A7 : List Int} {A8 : List ByteArray} {D : Nat} {C : List Value}
theorem OfB.on (h : OfB w X u N Z Q s6 s7 s8 A6 A7 A8 D C) {u' : World} (hb : Below u.heap.size u u') : OfB w X u' N Z Q s6 s7 s8 A6 A7 A8 D C :=
  ⟨h.st.on hb, h.bx.on hb, h.hD, h.n6, h.n7, h.n8⟩
theorem OfB.new (h : OfSt w X u N Z Q s6 s7 s8 A6 A7 A8) {u' : World} (hb : Below u.heap.size u u') (hx : BoxL u' u.heap.size C) : OfB w X u' N Z Q s6 s7 s8 A6 A7 A8 u.heap.size C :=
  ⟨h.on hb, hx, h.box.sz, fun e => Nat.lt_irrefl _ (h.r6.lt e).2, fun e => Nat.lt_irrefl _ (h.r7.lt e).2, fun e => Nat.lt_irrefl _ (h.r8.lt e).2⟩
theorem OfB.app6 (h : OfB w X u N Z Q s6 s7 s8 A6 A7 A8 D C) {u' : World} {v : Value} {B : List ByteArray} (hr : Row RStr 1 (fun _ => False) X u' 9 v B) (hg : u.grownBy u' s6.ownBlock) (hp : v.ownBlock = s6.ownBlock ∨ v.ownBlock = some u.heap.size) : OfB w X u' N Z Q v s7 s8 B A7 A8 D C := by
  refine ⟨h.st.app6 hr hg hp, h.bx.kept (A := fun b => s6.ownBlock ≠ some b) (Kept.grown hg (fun k e h => h e)) h.n6, h.hD, fun e => ?_, h.n7, h.n8⟩
  rcases hp with hp | hp
  · exact h.n6 (hp ▸ e)
  · have := h.bx.1; rw [hp] at e; injection e with e; omega
theorem OfB.app7 (h : OfB w X u N Z Q s6 s7 s8 A6 A7 A8 D C) {u' : World} {v : Value} {B : List Int} (hr : Row RInt 1 (fun _ => False) X u' 3 v B) (hg : u.grownBy u' s7.ownBlock) (hp : v.ownBlock = s7.ownBlock ∨ v.ownBlock = some u.heap.size) : OfB w X u' N Z Q s6 v s8 A6 B A8 D C := by
  refine ⟨h.st.app7 hr hg hp, h.bx.kept (A := fun b => s7.ownBlock ≠ some b) (Kept.grown hg (fun k e h => h e)) h.n7, h.hD, h.n6, fun e => ?_, h.n8⟩
  rcases hp with hp | hp
  · exact h.n7 (hp ▸ e)
  · have := h.bx.1; rw [hp] at e; injection e with e; omega
theorem OfB.app8 (h : OfB w X u N Z Q s6 s7 s8 A6 A7 A8 D C) {u' : World} {v : Value} {B : List ByteArray} (hr : Row RStr 1 (fun _ => False) X u' 9 v B) (hg : u.grownBy u' s8.ownBlock) (hp : v.ownBlock = s8.ownBlock ∨ v.ownBlock = some u.heap.size) : OfB w X u' N Z Q s6 s7 v A6 A7 B D C := by
  refine ⟨h.st.app8 hr hg hp, h.bx.kept (A := fun b => s8.ownBlock ≠ some b) (Kept.grown hg (fun k e h => h e)) h.n8, h.hD, h.n6, h.n7, fun e => ?_⟩
  rcases hp with hp | hp
  · exact h.n8 (hp ▸ e)
  · have := h.bx.1; rw [hp] at e; injection e with e; omega
end
def OmS (w : World) (N Q : List Value) (u : World) : Prop := BoxL u w.heap.size N ∧ BoxL u (w.heap.size + 1 + 1) Q
set_option maxHeartbeats 16000000 in
theorem of_calls (ns : List Value) (a : Option Addr) (n cap : Nat) (A A' : Where) (x : NodeD) (L : List PodD) (w : World) (hN : Hid (RNode A w ns x)) (hL : Hid (SlAt RPod 16 296 A' w a n cap L)) (hF : Hid (FitsP L)) : Calls Tryz.prog 18 #[.agg ns.toArray, .slice a n cap] w fun e w' => ∃ cs', e = .returned (.agg cs'.toArray) ∧ InfoAt A (Fresh w) w' cs' (allP x L) ∧ ThrL w' cs' ∧ Below w.heap.size w w' := by
  obtain ⟨nn, nl, nt, no, ⟨ga, gb, gc⟩, np, nd⟩ := x
  have hN0 := hN
  obtain ⟨⟨a1, n1, m1⟩, ⟨a2, n2, m2⟩, rfl, _⟩ := hN.out.out
  simp only at hN0 ⊢
  clear hN
  have hlen := hL.out.len (by decide)
  have hn : Hid (L.length = n) := hL.out.1
  have hbb : Hid (n * 296 ≤ 140737488351232) := hL.out.2.2.2.1
  obtain ⟨W3, hW3⟩ : ∃ W3, W3 = (((w.alloc (.cells #[.string nn, .slice a1 n1 m1, .slice a2 n2 m2, .bool no, .int .i64 ga, .int .i64 gb, .int .i64 gc, .int .i64 np, .int .i64 nd] 36)).alloc (.cells #[.string ⟨#[]⟩, .slice none 0 0, .slice none 0 0, .bool false, .int .i64 0, .int .i64 0, .int .i64 0, .int .i64 0, .int .i64 0, .slice none 0 0, .int .i64 0, .int .i64 0, .int .i64 0, .slice none 0 0, .slice none 0 0] 44)).alloc (.cells #[.int .i64 0, .int .i64 0, .int .i64 0] 24)) := ⟨_, rfl⟩
  have B3 : Hid (PB w W3 [.string nn, .slice a1 n1 m1, .slice a2 n2 m2, .bool no, .int .i64 ga, .int .i64 gb, .int .i64 gc, .int .i64 np, .int .i64 nd] [.string ⟨#[]⟩, .slice none 0 0, .slice none 0 0, .bool false, .int .i64 0, .int .i64 0, .int .i64 0, .int .i64 0, .int .i64 0, .slice none 0 0, .int .i64 0, .int .i64 0, .int .i64 0, .slice none 0 0, .slice none 0 0] [.int .i64 0, .int .i64 0, .int .i64 0]) := by
    rw [hW3]
    refine ⟨(BoxL.new w 36 [.string nn, .slice a1 n1 m1, .slice a2 n2 m2, .bool no, .int .i64 ga, .int .i64 gb, .int .i64 gc, .int .i64 np, .int .i64 nd]).on (((Below.refl _ _).alloc (Nat.le_refl _) _).alloc (by simp) _), ?_, ?_, by go_grown⟩
    · have := (BoxL.new (w.alloc (.cells #[.string nn, .slice a1 n1 m1, .slice a2 n2 m2, .bool no, .int .i64 ga, .int .i64 gb, .int .i64 gc, .int .i64 np, .int .i64 nd] 36)) 44 [.string ⟨#[]⟩, .slice none 0 0, .slice none 0 0, .bool false, .int .i64 0, .int .i64 0, .int .i64 0, .int .i64 0, .int .i64 0, .slice none 0 0, .int .i64 0, .int .i64 0, .int .i64 0, .slice none 0 0, .slice none 0 0]).on ((Below.refl _ _).alloc (Nat.le_refl _) (.cells #[.int .i64 0, .int .i64 0, .int .i64 0] 24))
      simpa using this
    · have := BoxL.new ((w.alloc (.cells #[.string nn, .slice a1 n1 m1, .slice a2 n2 m2, .bool no, .int .i64 ga, .int .i64 gb, .int .i64 gc, .int .i64 np, .int .i64 nd] 36)).alloc (.cells #[.string ⟨#[]⟩, .slice none 0 0, .slice none 0 0, .bool false, .int .i64 0, .int .i64 0, .int .i64 0, .int .i64 0, .int .i64 0, .slice none 0 0, .int .i64 0, .int .i64 0, .int .i64 0, .slice none 0 0, .slice none 0 0] 44)) 24 [.int .i64 0, .int .i64 0, .int .i64 0]
      simpa using this
  have HI0 : Hid (OfSt w W3 W3 [.string nn, .slice a1 n1 m1, .slice a2 n2 m2, .bool no, .int .i64 ga, .int .i64 gb, .int .i64 gc, .int .i64 np, .int .i64 nd] [.string ⟨#[]⟩, .slice none 0 0, .slice none 0 0, .bool false, .int .i64 0, .int .i64 0, .int .i64 0, .int .i64 0, .int .i64 0, .slice none 0 0, .int .i64 0, .int .i64 0, .int .i64 0, .slice none 0 0, .slice none 0 0] [.int .i64 0, .int .i64 0, .int .i64 0] (.slice none 0 0) (.slice none 0 0) (.slice none 0 0) (tupP (L.take 0)).1 (tupP (L.take 0)).2.2.1 (tupP (L.take 0)).2.2.2) := ⟨B3.out, Row.nil _ W3 _, Row.nil _ W3 _, Row.nil _ W3 _, fun b h => by simp [Value.ownBlock] at h, fun b h => by simp [Value.ownBlock] at h, fun b h => by simp [Value.ownBlock] at h⟩
  go_enter Tryz.func18, Tryz.ntmps18
  go_wp2_with fail
  rw [← hW3]
  clear hW3
  go_loopw [5, 6, 7, 13] (fun s6 s8 s7 i wr => ∃ (k : Nat) (X : World), k ≤ n ∧ i = .int .i64 k ∧ Hid (OfSt w X wr [.string nn, .slice a1 n1 m1, .slice a2 n2 m2, .bool no, .int .i64 ga, .int .i64 gb, .int .i64 gc, .int .i64 np, .int .i64 nd] [.string ⟨#[]⟩, .slice none 0 0, .slice none 0 0, .bool false, .int .i64 0, .int .i64 0, .int .i64 0, .int .i64 0, .int .i64 0, .slice none 0 0, .int .i64 0, .int .i64 0, .int .i64 0, .slice none 0 0, .slice none 0 0] [.int .i64 (tupP (L.take k)).2.1.1, .int .i64 (tupP (L.take k)).2.1.2.1, .int .i64 (tupP (L.take k)).2.1.2.2] s6 s7 s8 (tupP (L.take k)).1 (tupP (L.take k)).2.2.1 (tupP (L.take k)).2.2.2)) (fun _ _ _ i _ => n - (intOf i).toNat)
  case atStart => exact ⟨0, W3, Nat.zero_le _, rfl, HI0⟩
  case round =>
    obtain ⟨k, X, hk, rfl, hI⟩ := hrel
    by_cases hlt : k < n
    · have hltz : (k : Int) < (n : Int) := by omega
      have hkl : k < L.length := by rw [hn.out]; exact hlt
      obtain ⟨D, off, rfl, hD, _, cs, hr, hv⟩ := hL.out.get hlt
      have HT : Hid _ := tup_succ L hkl
      have HB : Hid _ := tup_fits hF.out hkl
      have HA : Hid ((tupP (L.take k)).1.length ≤ k) := by rw [Hid, (tup_lens _).1, List.length_take]; omega
      generalize L.getD k default = p at hr HT HB
      generalize (tupP (L.take k)) = s at hI HT HB HA
      obtain ⟨nms, ⟨ua, ub, uc⟩, pts, dks⟩ := s
      obtain ⟨nm, pri, lab, ⟨wa, wb, wc⟩, brs, ask, prf, prt, nea, apa, spr, clm, nod, hop⟩ := p
      have hone := RPod.firm.one hr
      obtain ⟨h2, h6, h7, h8, ⟨a9, n9, m9⟩, h10, h11, h12, ⟨a13, n13, m13⟩, rfl, hp0, _, _, _, _, t9, _, _, _, t13, _, _⟩ := hr.out
      simp only at hI HB HA t9 t13 hv HT hone
      have HT2 : Hid ((tupP (L.take (k + 1))) = (nms ++ [nm], ((addI ua wa), (addI ub wb), (addI uc wc)), pts ++ prt, dks ++ clm)) := HT.out
      have T9 : Hid (SlAt RInt 1 8 A' w a9 n9 m9 prt) := t9
      have T13 : Hid (SlAt RStr 1 16 A' w a13 n13 m13 clm) := t13
      have HB9 : Hid ((pts.length + prt.length) * 8 ≤ 140737488355328) := by have h1 := HB.out.1; simp only [pPorts] at h1; rw [Hid]; omega
      have HB13 : Hid ((dks.length + clm.length) * 16 ≤ 140737488355328) := by have h1 := HB.out.2; simp only [pClaims] at h1; rw [Hid]; omega
      have HB6 : Hid ((nms.length + [nm].length) * 16 ≤ 140737488355328) := by have h1 := HA.out; have h2 := hbb.out; simp [Hid]; omega
      have hbw : Below w.heap.size w wr := hI.out.box.b
      have HV : Hid (wr.rangeAt D (off + k * 16) [.string nm, .int .i64 pri, .slice h2.1 h2.2.1 h2.2.2, .int .i64 wa, .int .i64 wb, .int .i64 wc, .slice h6.1 h6.2.1 h6.2.2, .slice h7.1 h7.2.1 h7.2.2, .slice h8.1 h8.2.1 h8.2.2, .slice a9 n9 m9, .slice h10.1 h10.2.1 h10.2.2, .slice h11.1 h11.2.1 h11.2.2, .slice h12.1 h12.2.1 h12.2.2, .slice a13 n13 m13, .string nod, .string hop]) := fun j v hj => (hbw.cell hD).trans (hv j v hj)
      have hi : (Tryz.prog.info? 33).map (·.size) = some ([.string nm, .int .i64 pri, .slice h2.1 h2.2.1 h2.2.2, .int .i64 wa, .int .i64 wb, .int .i64 wc, .slice h6.1 h6.2.1 h6.2.2, .slice h7.1 h7.2.1 h7.2.2, .slice h8.1 h8.2.1 h8.2.2, .slice a9 n9 m9, .slice h10.1 h10.2.1 h10.2.2, .slice h11.1 h11.2.1 h11.2.2, .slice h12.1 h12.2.1 h12.2.2, .slice a13 n13 m13, .string nod, .string hop] : List Value).length := sizePod
      have H1 : Hid ((([.string nm, .int .i64 pri, .slice h2.1 h2.2.1 h2.2.2, .int .i64 wa, .int .i64 wb, .int .i64 wc, .slice h6.1 h6.2.1 h6.2.2, .slice h7.1 h7.2.1 h7.2.2, .slice h8.1 h8.2.1 h8.2.2, .slice a9 n9 m9, .slice h10.1 h10.2.1 h10.2.2, .slice h11.1 h11.2.1 h11.2.2, .slice h12.1 h12.2.1 h12.2.2, .slice a13 n13 m13, .string nod, .string hop] : List Value).toArray).all (·.oneCell') = true) := all_oneCell_toArray hone
      clear hr hv t9 t13 HT HB hone
      obtain ⟨wb0, hwb⟩ : ∃ wb0, wb0 = (wr.alloc (.cells #[.string ⟨#[]⟩, .int .i64 0, .slice none 0 0, .int .i64 0, .int .i64 0, .int .i64 0, .slice none 0 0, .slice none 0 0, .slice none 0 0, .slice none 0 0, .slice none 0 0, .slice none 0 0, .slice none 0 0, .slice none 0 0, .string ⟨#[]⟩, .string ⟨#[]⟩] 33)).setCells wr.heap.size 0 [.string nm, .int .i64 pri, .slice h2.1 h2.2.1 h2.2.2, .int .i64 wa, .int .i64 wb, .int .i64 wc, .slice h6.1 h6.2.1 h6.2.2, .slice h7.1 h7.2.1 h7.2.2, .slice h8.1 h8.2.1 h8.2.2, .slice a9 n9 m9, .slice h10.1 h10.2.1 h10.2.2, .slice h11.1 h11.2.1 h11.2.2, .slice h12.1 h12.2.1 h12.2.2, .slice a13 n13 m13, .string nod, .string hop] := ⟨_, rfl⟩
      have HTH : Hid ((wr.alloc (.cells #[.string ⟨#[]⟩, .int .i64 0, .slice none 0 0, .int .i64 0, .int .i64 0, .int .i64 0, .slice none 0 0, .slice none 0 0, .slice none 0 0, .slice none 0 0, .slice none 0 0, .slice none 0 0, .slice none 0 0, .slice none 0 0, .string ⟨#[]⟩, .string ⟨#[]⟩] 33)).there wr.heap.size 0 16) := (BoxL.new wr 33 [.string ⟨#[]⟩, .int .i64 0, .slice none 0 0, .int .i64 0, .int .i64 0, .int .i64 0, .slice none 0 0, .slice none 0 0, .slice none 0 0, .slice none 0 0, .slice none 0 0, .slice none 0 0, .slice none 0 0, .slice none 0 0, .string ⟨#[]⟩, .string ⟨#[]⟩]).there
      have HBX : Hid (BoxL wb0 wr.heap.size [.string nm, .int .i64 pri, .slice h2.1 h2.2.1 h2.2.2, .int .i64 wa, .int .i64 wb, .int .i64 wc, .slice h6.1 h6.2.1 h6.2.2, .slice h7.1 h7.2.1 h7.2.2, .slice h8.1 h8.2.1 h8.2.2, .slice a9 n9 m9, .slice h10.1 h10.2.1 h10.2.2, .slice h11.1 h11.2.1 h11.2.2, .slice h12.1 h12.2.1 h12.2.2, .slice a13 n13 m13, .string nod, .string hop]) := by rw [hwb]; exact box_set wr 33 [.string ⟨#[]⟩, .int .i64 0, .slice none 0 0, .int .i64 0, .int .i64 0, .int .i64 0, .slice none 0 0, .slice none 0 0, .slice none 0 0, .slice none 0 0, .slice none 0 0, .slice none 0 0, .slice none 0 0, .slice none 0 0, .string ⟨#[]⟩, .string ⟨#[]⟩] [.string nm, .int .i64 pri, .slice h2.1 h2.2.1 h2.2.2, .int .i64 wa, .int .i64 wb, .int .i64 wc, .slice h6.1 h6.2.1 h6.2.2, .slice h7.1 h7.2.1 h7.2.2, .slice h8.1 h8.2.1 h8.2.2, .slice a9 n9 m9, .slice h10.1 h10.2.1 h10.2.2, .slice h11.1 h11.2.1 h11.2.2, .slice h12.1 h12.2.1 h12.2.2, .slice a13 n13 m13, .string nod, .string hop] rfl
      have HBB : Hid (Below wr.heap.size wr wb0) := by rw [hwb]; exact below_setCells ((Below.refl _ _).alloc (Nat.le_refl _) _) (Nat.le_refl _)
      have HWB : Hid (wb0 = (wr.alloc (.cells #[.string ⟨#[]⟩, .int .i64 0, .slice none 0 0, .int .i64 0, .int .i64 0, .int .i64 0, .slice none 0 0, .slice none 0 0, .slice none 0 0, .slice none 0 0, .slice none 0 0, .slice none 0 0, .slice none 0 0, .slice none 0 0, .string ⟨#[]⟩, .string ⟨#[]⟩] 33)).setCells wr.heap.size 0 (([.string nm, .int .i64 pri, .slice h2.1 h2.2.1 h2.2.2, .int .i64 wa, .int .i64 wb, .int .i64 wc, .slice h6.1 h6.2.1 h6.2.2, .slice h7.1 h7.2.1 h7.2.2, .slice h8.1 h8.2.1 h8.2.2, .slice a9 n9 m9, .slice h10.1 h10.2.1 h10.2.2, .slice h11.1 h11.2.1 h11.2.2, .slice h12.1 h12.2.1 h12.2.2, .slice a13 n13 m13, .string nod, .string hop] : List Value).toArray).toList) := hwb
      clear hwb
      have HO1 : Hid (OfB w X (wb0.alloc (.cells #[.string nm] 9)) [.string nn, .slice a1 n1 m1, .slice a2 n2 m2, .bool no, .int .i64 ga, .int .i64 gb, .int .i64 gc, .int .i64 np, .int .i64 nd] [.string ⟨#[]⟩, .slice none 0 0, .slice none 0 0, .bool false, .int .i64 0, .int .i64 0, .int .i64 0, .int .i64 0, .int .i64 0, .slice none 0 0, .int .i64 0, .int .i64 0, .int .i64 0, .slice none 0 0, .slice none 0 0] [.int .i64 ua, .int .i64 ub, .int .i64 uc] u5 u7 u6 nms pts dks wr.heap.size [.string nm, .int .i64 pri, .slice h2.1 h2.2.1 h2.2.2, .int .i64 wa, .int .i64 wb, .int .i64 wc, .slice h6.1 h6.2.1 h6.2.2, .slice h7.1 h7.2.1 h7.2.2, .slice h8.1 h8.2.1 h8.2.2, .slice a9 n9 m9, .slice h10.1 h10.2.1 h10.2.2, .slice h11.1 h11.2.1 h11.2.2, .slice h12.1 h12.2.1 h12.2.2, .slice a13 n13 m13, .string nod, .string hop]) := (OfB.new hI.out HBB.out HBX.out).on ((Below.refl _ _).alloc (Nat.le_refl _) _)
      obtain ⟨c0, _⟩ := HBX.out.2 0 _ rfl
      have HN : Hid (Src RStr 1 (fun b => False ∧ Value.ownBlock u5 ≠ some b) (wb0.alloc (.cells #[.string nm] 9)) (some ⟨wb0.heap.size, 0, none⟩) 1 [nm]) := ⟨rfl, .inr ⟨_, [.string nm], rfl, chunk_one RStr.firm ⟨rfl, hp0⟩, one_cells wb0 [.string nm] 9, by simp [Value.oneCell']⟩⟩
      go_upto_region 8 with (first | (refine wpList_load_mid rfl 33 _ rfl D (off + k * 16) rfl [.string nm, .int .i64 pri, .slice h2.1 h2.2.1 h2.2.2, .int .i64 wa, .int .i64 wb, .int .i64 wc, .slice h6.1 h6.2.1 h6.2.2, .slice h7.1 h7.2.1 h7.2.2, .slice h8.1 h8.2.1 h8.2.2, .slice a9 n9 m9, .slice h10.1 h10.2.1 h10.2.2, .slice h11.1 h11.2.1 h11.2.2, .slice h12.1 h12.2.1 h12.2.2, .slice a13 n13 m13, .string nod, .string hop] _ HV.out Tryz.underlying33 rfl hi ?_) | (refine wpList_store_mid rfl 33 _ _ rfl wr.heap.size 0 (([.string nm, .int .i64 pri, .slice h2.1 h2.2.1 h2.2.2, .int .i64 wa, .int .i64 wb, .int .i64 wc, .slice h6.1 h6.2.1 h6.2.2, .slice h7.1 h7.2.1 h7.2.2, .slice h8.1 h8.2.1 h8.2.2, .slice a9 n9 m9, .slice h10.1 h10.2.1 h10.2.2, .slice h11.1 h11.2.1 h11.2.2, .slice h12.1 h12.2.1 h12.2.2, .slice a13 n13 m13, .string nod, .string hop] : List Value).toArray) rfl rfl HTH.out hi H1.out ?_; refine wpl_at HWB.out ?_) | (at_builtin; go_must (refine row_appendP RStr.firm (A := (fun _ => False)) (w0 := X) rfl _ _ 31 9 rfl _ 16 infostr Tryz.underlying31 rfl (by decide) (by decide) _ nms rfl HO1.out.st.r6 (some ⟨wb0.heap.size, 0, none⟩) 1 1 [nm] rfl HN.out HB6.out ?_); intro x6 y1 hr6 hg6 hp6))
      have HO2 : Hid (OfB w X y1 [.string nn, .slice a1 n1 m1, .slice a2 n2 m2, .bool no, .int .i64 ga, .int .i64 gb, .int .i64 gc, .int .i64 np, .int .i64 nd] [.string ⟨#[]⟩, .slice none 0 0, .slice none 0 0, .bool false, .int .i64 0, .int .i64 0, .int .i64 0, .int .i64 0, .int .i64 0, .slice none 0 0, .int .i64 0, .int .i64 0, .int .i64 0, .slice none 0 0, .slice none 0 0] [.int .i64 ua, .int .i64 ub, .int .i64 uc] x6 u7 u6 (nms ++ [nm]) pts dks wr.heap.size [.string nm, .int .i64 pri, .slice h2.1 h2.2.1 h2.2.2, .int .i64 wa, .int .i64 wb, .int .i64 wc, .slice h6.1 h6.2.1 h6.2.2, .slice h7.1 h7.2.1 h7.2.2, .slice h8.1 h8.2.1 h8.2.2, .slice a9 n9 m9, .slice h10.1 h10.2.1 h10.2.2, .slice h11.1 h11.2.1 h11.2.2, .slice h12.1 h12.2.1 h12.2.2, .slice a13 n13 m13, .string nod, .string hop]) := HO1.out.app6 hr6 hg6 hp6
      clear hr6 hg6 hp6 HN HB6 HO1 c0 HV HTH HWB H1 HBX
      obtain ⟨c9, _⟩ := HO2.out.bx.2 9 _ rfl
      have HN9 : Hid (Src RInt 1 (fun b => False ∧ Value.ownBlock u7 ≠ some b) y1 a9 n9 prt) := (((T9.out.on RInt.firm HO2.out.st.box.b).src RInt.firm).flat RInt.flat)
      go_upto_region 9 with (at_builtin; go_must (refine row_appendP RInt.firm (A := (fun _ => False)) (w0 := X) rfl _ _ 28 3 rfl _ 8 infoint Tryz.underlying28 rfl (by decide) (by decide) _ pts rfl HO2.out.st.r7 a9 n9 m9 prt rfl HN9.out HB9.out ?_); intro x7 y2 hr7 hg7 hp7)
      have HO3 : Hid (OfB w X y2 [.string nn, .slice a1 n1 m1, .slice a2 n2 m2, .bool no, .int .i64 ga, .int .i64 gb, .int .i64 gc, .int .i64 np, .int .i64 nd] [.string ⟨#[]⟩, .slice none 0 0, .slice none 0 0, .bool false, .int .i64 0, .int .i64 0, .int .i64 0, .int .i64 0, .int .i64 0, .slice none 0 0, .int .i64 0, .int .i64 0, .int .i64 0, .slice none 0 0, .slice none 0 0] [.int .i64 ua, .int .i64 ub, .int .i64 uc] x6 x7 u6 (nms ++ [nm]) (pts ++ prt) dks wr.heap.size [.string nm, .int .i64 pri, .slice h2.1 h2.2.1 h2.2.2, .int .i64 wa, .int .i64 wb, .int .i64 wc, .slice h6.1 h6.2.1 h6.2.2, .slice h7.1 h7.2.1 h7.2.2, .slice h8.1 h8.2.1 h8.2.2, .slice a9 n9 m9, .slice h10.1 h10.2.1 h10.2.2, .slice h11.1 h11.2.1 h11.2.2, .slice h12.1 h12.2.1 h12.2.2, .slice a13 n13 m13, .string nod, .string hop]) := HO2.out.app7 hr7 hg7 hp7
      clear hr7 hg7 hp7 HN9 HB9 HO2 c9
      obtain ⟨c13, _⟩ := HO3.out.bx.2 13 _ rfl
      have HN13 : Hid (Src RStr 1 (fun b => False ∧ Value.ownBlock u6 ≠ some b) y2 a13 n13 clm) := (((T13.out.on RStr.firm HO3.out.st.box.b).src RStr.firm).flat RStr.flat)
      go_upto_region 10 with (at_builtin; go_must (refine row_appendP RStr.firm (A := (fun _ => False)) (w0 := X) rfl _ _ 31 9 rfl _ 16 infostr Tryz.underlying31 rfl (by decide) (by decide) _ dks rfl HO3.out.st.r8 a13 n13 m13 clm rfl HN13.out HB13.out ?_); intro x8 y3 hr8 hg8 hp8)
      have HO4 : Hid (OfB w X y3 [.string nn, .slice a1 n1 m1, .slice a2 n2 m2, .bool no, .int .i64 ga, .int .i64 gb, .int .i64 gc, .int .i64 np, .int .i64 nd] [.string ⟨#[]⟩, .slice none 0 0, .slice none 0 0, .bool false, .int .i64 0, .int .i64 0, .int .i64 0, .int .i64 0, .int .i64 0, .slice none 0 0, .int .i64 0, .int .i64 0, .int .i64 0, .slice none 0 0, .slice none 0 0] [.int .i64 ua, .int .i64 ub, .int .i64 uc] x6 x7 x8 (nms ++ [nm]) (pts ++ prt) (dks ++ clm) wr.heap.size [.string nm, .int .i64 pri, .slice h2.1 h2.2.1 h2.2.2, .int .i64 wa, .int .i64 wb, .int .i64 wc, .slice h6.1 h6.2.1 h6.2.2, .slice h7.1 h7.2.1 h7.2.2, .slice h8.1 h8.2.1 h8.2.2, .slice a9 n9 m9, .slice h10.1 h10.2.1 h10.2.2, .slice h11.1 h11.2.1 h11.2.2, .slice h12.1 h12.2.1 h12.2.2, .slice a13 n13 m13, .string nod, .string hop]) := HO3.out.app8 hr8 hg8 hp8
      clear hr8 hg8 hp8 HN13 HB13 HO3 c13
      obtain ⟨c3, _⟩ := HO4.out.bx.2 3 _ rfl
      obtain ⟨c4, _⟩ := HO4.out.bx.2 4 _ rfl
      obtain ⟨c5, _⟩ := HO4.out.bx.2 5 _ rfl
      obtain ⟨q0, _⟩ := HO4.out.st.box.q.2 0 _ rfl
      obtain ⟨q1, _⟩ := HO4.out.st.box.q.2 1 _ rfl
      obtain ⟨q2, _⟩ := HO4.out.st.box.q.2 2 _ rfl
      go_wp2_with fail
      refine (Plus_calls ua ub uc wa wb wc y3).mono ?_
      rintro e y4 ⟨rfl, hb4⟩
      have hI4 := HO4.out.st.on hb4
      clear c3 c4 c5 q0 q1 q2 hb4 HO4
      obtain ⟨q0, f0⟩ := hI4.box.q.2 0 _ rfl
      obtain ⟨q1, f1⟩ := hI4.box.q.2 1 _ rfl
      obtain ⟨q2, f2⟩ := hI4.box.q.2 2 _ rfl
      have hI5 := ((hI4.set 0 (.int .i64 (addI ua wa)) (by simp)).set 1 (.int .i64 (addI ub wb)) (by simp)).set 2 (.int .i64 (addI uc wc)) (by simp)
      obtain ⟨X5, hX5⟩ : ∃ X5, X5 = (((X.setCell ⟨w.heap.size + 1 + 1, 0, none⟩ (.int .i64 (addI ua wa))).setCell ⟨w.heap.size + 1 + 1, 1, none⟩ (.int .i64 (addI ub wb))).setCell ⟨w.heap.size + 1 + 1, 2, none⟩ (.int .i64 (addI uc wc))) := ⟨_, rfl⟩
      rw [← hX5] at hI5
      have HI5 : Hid (OfSt w X5 (((y4.setCell ⟨w.heap.size + 1 + 1, 0, none⟩ (.int .i64 (addI ua wa))).setCell ⟨w.heap.size + 1 + 1, 1, none⟩ (.int .i64 (addI ub wb))).setCell ⟨w.heap.size + 1 + 1, 2, none⟩ (.int .i64 (addI uc wc))) [.string nn, .slice a1 n1 m1, .slice a2 n2 m2, .bool no, .int .i64 ga, .int .i64 gb, .int .i64 gc, .int .i64 np, .int .i64 nd] [.string ⟨#[]⟩, .slice none 0 0, .slice none 0 0, .bool false, .int .i64 0, .int .i64 0, .int .i64 0, .int .i64 0, .int .i64 0, .slice none 0 0, .int .i64 0, .int .i64 0, .int .i64 0, .slice none 0 0, .slice none 0 0] [.int .i64 (addI ua wa), .int .i64 (addI ub wb), .int .i64 (addI uc wc)] x6 x7 x8 (nms ++ [nm]) (pts ++ prt) (dks ++ clm)) := hI5
      clear hX5 hI5 hI4
      go_wp2_with fail
      clear q0 q1 q2 f0 f1 f2
      go_roundw
      case rel => exact ⟨k + 1, X5, by omega, by go_num, by rw [HT2.out]; exact HI5⟩
      case measure => simp [intOf]; omega
    · have hk9 : L.take k = L := List.take_of_length_le (by rw [hn.out]; omega)
      rw [hk9] at hI
      have HA : Hid ((tupP L).1.length ≤ n) := by rw [Hid, (tup_lens _).1]; exact Nat.le_of_eq hn.out
      have HB : Hid ((tupP L).2.2.1.length * 8 ≤ 140737488351232 ∧ (tupP L).2.2.2.length * 16 ≤ 140737488351232) := by rw [Hid, (tup_lens _).2.1, (tup_lens _).2.2]; exact hF.out
      have HE : Hid (allP (nn, nl, nt, no, (ga, gb, gc), np, nd) L = accInfo (nn, nl, nt, no, (ga, gb, gc), np, nd) (tupP L)) := rfl
      have hlz : ¬ ((k : Int) < (n : Int)) := by omega
      generalize tupP L = s at hI HA HB HE
      obtain ⟨nms, ⟨ua, ub, uc⟩, pts, dks⟩ := s
      simp only at hI HA HB HE
      obtain ⟨b6, c6, e6, hS6⟩ := hI.out.r6.sl (bytes := 16) RStr.firm (by have h1 := HA.out; have h2 := hbb.out; omega)
      subst e6
      obtain ⟨b7, c7, e7, hS7⟩ := hI.out.r7.sl (bytes := 8) RInt.firm HB.out.1
      subst e7
      obtain ⟨b8, c8, e8, hS8⟩ := hI.out.r8.sl (bytes := 16) RStr.firm HB.out.2
      subst e8
      have HS6 : Hid (SlAt RStr 1 16 _ wr b6 nms.length c6 nms) := hS6
      have HS7 : Hid (SlAt RInt 1 8 _ wr b7 pts.length c7 pts) := hS7
      have HS8 : Hid (SlAt RStr 1 16 _ wr b8 dks.length c8 dks) := hS8
      have HB0 : Hid (PB w wr [.string nn, .slice a1 n1 m1, .slice a2 n2 m2, .bool no, .int .i64 ga, .int .i64 gb, .int .i64 gc, .int .i64 np, .int .i64 nd] [.string ⟨#[]⟩, .slice none 0 0, .slice none 0 0, .bool false, .int .i64 0, .int .i64 0, .int .i64 0, .int .i64 0, .int .i64 0, .slice none 0 0, .int .i64 0, .int .i64 0, .int .i64 0, .slice none 0 0, .slice none 0 0] [.int .i64 ua, .int .i64 ub, .int .i64 uc]) := hI.out.box
      generalize nms.length = j6 at HS6 HA ⊢
      clear hS6 hS7 hS8 hI hk9
      have HS : Hid (∀ u : World, Below wr.heap.size wr u → OmS w [.string nn, .slice a1 n1 m1, .slice a2 n2 m2, .bool no, .int .i64 ga, .int .i64 gb, .int .i64 gc, .int .i64 np, .int .i64 nd] [.int .i64 ua, .int .i64 ub, .int .i64 uc] u) := fun u hb => ⟨(HB0.out.on hb).p, (HB0.out.on hb).q⟩
      go_wp2_with fail
      refine wp_region_noPanic ?_
      refine wp_region_held_drew (S := OmS w [.string nn, .slice a1 n1 m1, .slice a2 n2 m2, .bool no, .int .i64 ga, .int .i64 gb, .int .i64 gc, .int .i64 np, .int .i64 nd] [.int .i64 ua, .int .i64 ub, .int .i64 uc]) (by kernel_rfl) (HS.out _ (Below.refl _ _).drew) (fun hHeld => ?_)
      refine' tk 0 ?_ ?_; rotate_left
      · intro u hu; have cp0 := (hu.1.2 0 _ rfl).1; have cp1 := (hu.1.2 1 _ rfl).1; have cp2 := (hu.1.2 2 _ rfl).1; have cp3 := (hu.1.2 3 _ rfl).1; have cp4 := (hu.1.2 4 _ rfl).1; have cp5 := (hu.1.2 5 _ rfl).1; have cp6 := (hu.1.2 6 _ rfl).1; have cp7 := (hu.1.2 7 _ rfl).1; have cp8 := (hu.1.2 8 _ rfl).1; clear hu; go_simp; try with_reducible rfl
      try go_frame
      refine' tk 1 ?_ ?_; rotate_left
      · intro u hu; clear hu; go_simp; try with_reducible rfl
      try go_frame
      refine' tk 3 ?_ ?_; rotate_left
      · intro u hu; have cy0 := (hu.2.2 0 _ rfl).1; have cy1 := (hu.2.2 1 _ rfl).1; have cy2 := (hu.2.2 2 _ rfl).1; clear hu; go_simp; try with_reducible rfl
      try go_frame
      refine' tk 4 ?_ ?_; rotate_left
      · intro u hu; clear hu; go_simp; try with_reducible rfl
      try go_frame
      refine' tk 6 ?_ ?_; rotate_left
      · intro u hu; clear hu; go_simp; try with_reducible rfl
      try go_frame
      refine tr 2 (fun K hK => ?_)
      go_simp
      refine (joinedS1 b6 j6 c6 _ nms wr.drew (HS6.out.on RStr.firm (Below.refl _ _).drew)).mono ?_
      rintro e y1 ⟨g9, k9, rfl, r9, z9, hb1⟩
      have by1 : Below wr.heap.size wr y1 := on2 (Below.refl _ _).drew hb1
      have r9 := r9.weak (A' := (fun b => w.heap.size + 1 + 1 < b)) RStr.firm (fun b _ hb => Nat.lt_of_lt_of_le (HB0.out.on (Below.refl _ _).drew).sz hb)
      generalize hl9 : (sortB sLt sEq nms).length = l9 at r9 z9 ⊢
      clear hl9
      go_wp2_with fail
      refine hK.out _ _ (HS.out _ by1) (fun hHeld2 => ?_)
      clear hK K hHeld; have hHeld := hHeld2; clear hHeld2
      try go_frame
      refine tr 5 (fun K hK => ?_)
      go_simp
      refine (joinedI1 b7 pts.length c7 _ pts y1 (HS7.out.on RInt.firm by1)).mono ?_
      rintro e y2 ⟨g13, k13, rfl, r13, z13, hb2⟩
      have by2 := on2 by1 hb2
      have r13 := r13.weak (A' := (fun b => w.heap.size + 1 + 1 < b)) RInt.firm (fun b _ hb => Nat.lt_of_lt_of_le (HB0.out.on by1).sz hb)
      have r9 := r9.on RStr.firm hb2
      have z9 := z9.on hb2
      generalize hl13 : (sortB iLt iEq pts).length = l13 at r13 z13 ⊢
      clear hl13
      go_wp2_with fail
      refine hK.out _ _ (HS.out _ by2) (fun hHeld2 => ?_)
      clear hK K hHeld; have hHeld := hHeld2; clear hHeld2
      try go_frame
      refine tr 7 (fun K hK => ?_)
      go_simp
      refine (joinedS1 b8 dks.length c8 _ dks y2 (HS8.out.on RStr.firm by2)).mono ?_
      rintro e y3 ⟨g14, k14, rfl, r14, z14, hb3⟩
      have by3 := on2 by2 hb3
      have r14 := r14.weak (A' := (fun b => w.heap.size + 1 + 1 < b)) RStr.firm (fun b _ hb => Nat.lt_of_lt_of_le (HB0.out.on by2).sz hb)
      have r9 := r9.on RStr.firm hb3
      have z9 := z9.on hb3
      have r13 := r13.on RInt.firm hb3
      have z13 := z13.on hb3
      generalize hl14 : (sortB sLt sEq dks).length = l14 at r14 z14 ⊢
      clear hl14
      go_wp2_with fail
      refine hK.out _ _ (HS.out _ by3) (fun hHeld2 => ?_)
      clear hK K hHeld; have hHeld := hHeld2; clear hHeld2
      try go_frame
      refine' tk 8 ?_ ?_; rotate_left
      · intro u hu; clear hu; go_simp; try with_reducible rfl
      try go_frame
      have C8 := HB0.out.on by3
      have hsz := C8.sz
      have hgz : ¬ (fun b => w.heap.size + 1 + 1 < b) (w.heap.size + 1) := fun h => Nat.lt_irrefl _ (Nat.lt_of_le_of_lt (Nat.le_succ _) h)
      have HK : ∀ u, Kept (fun b => w.heap.size + 1 + 1 < b) y3 u → Below w.heap.size w u → InfoAt A (Fresh w) u [.string nn, .slice a1 n1 m1, .slice a2 n2 m2, .bool no, .int .i64 ga, .int .i64 gb, .int .i64 gc, .int .i64 np, .int .i64 nd, .slice g9 l9 k9, .int .i64 ua, .int .i64 ub, .int .i64 uc, .slice g13 l13 k13, .slice g14 l14 k14] (accInfo (nn, nl, nt, no, (ga, gb, gc), np, nd) (nms, (ua, ub, uc), pts, dks)) := fun u hk hb => ⟨[.string nn, .slice a1 n1 m1, .slice a2 n2 m2, .bool no, .int .i64 ga, .int .i64 gb, .int .i64 gc, .int .i64 np, .int .i64 nd], [.slice g9 l9 k9, .int .i64 ua, .int .i64 ub, .int .i64 uc, .slice g13 l13 k13, .slice g14 l14 k14], rfl, RNode.firm.kept hN0.out (Kept.below hb), ⟨[.slice g9 l9 k9], _, rfl, ⟨g9, l9, k9, rfl, ((r9.kept RStr.firm hk).weak RStr.firm (fun b _ hb => show w.heap.size ≤ b by have h1 : w.heap.size + 1 + 1 < b := hb; omega))⟩, ⟨[.int .i64 ua, .int .i64 ub, .int .i64 uc], _, rfl, RRes.mk (x := (ua, ub, uc)), ⟨[.slice g13 l13 k13], _, rfl, ⟨g13, l13, k13, rfl, ((r13.kept RInt.firm hk).weak RInt.firm (fun b _ hb => show w.heap.size ≤ b by have h1 : w.heap.size + 1 + 1 < b := hb; omega))⟩, ⟨g14, l14, k14, rfl, ((r14.kept RStr.firm hk).weak RStr.firm (fun b _ hb => show w.heap.size ≤ b by have h1 : w.heap.size + 1 + 1 < b := hb; omega))⟩⟩⟩⟩⟩
      have hbz : Below w.heap.size w (y3.setCells (w.heap.size + 1) 0 [.string nn, .slice a1 n1 m1, .slice a2 n2 m2, .bool no, .int .i64 ga, .int .i64 gb, .int .i64 gc, .int .i64 np, .int .i64 nd, .slice g9 l9 k9, .int .i64 ua, .int .i64 ub, .int .i64 uc, .slice g13 l13 k13, .slice g14 l14 k14]) := below_setCells C8.b (by omega)
      have HE2 := HK _ (kept_setCells (vs := [.string nn, .slice a1 n1 m1, .slice a2 n2 m2, .bool no, .int .i64 ga, .int .i64 gb, .int .i64 gc, .int .i64 np, .int .i64 nd, .slice g9 l9 k9, .int .i64 ua, .int .i64 ub, .int .i64 uc, .slice g13 l13 k13, .slice g14 l14 k14]) (o := 0) hgz) hbz
      have H1 := all_oneCell_toArray (HE2.one)
      have HI : (Tryz.prog.info? 44).map (·.size) = some (([.string nn, .slice a1 n1 m1, .slice a2 n2 m2, .bool no, .int .i64 ga, .int .i64 gb, .int .i64 gc, .int .i64 np, .int .i64 nd, .slice g9 l9 k9, .int .i64 ua, .int .i64 ub, .int .i64 uc, .slice g13 l13 k13, .slice g14 l14 k14] : List Value).toArray).size := by kernel_rfl
      have HRG : Hid ((y3.setCells (w.heap.size + 1) 0 [.string nn, .slice a1 n1 m1, .slice a2 n2 m2, .bool no, .int .i64 ga, .int .i64 gb, .int .i64 gc, .int .i64 np, .int .i64 nd, .slice g9 l9 k9, .int .i64 ua, .int .i64 ub, .int .i64 uc, .slice g13 l13 k13, .slice g14 l14 k14]).rangeAt (w.heap.size + 1) 0 [.string nn, .slice a1 n1 m1, .slice a2 n2 m2, .bool no, .int .i64 ga, .int .i64 gb, .int .i64 gc, .int .i64 np, .int .i64 nd, .slice g9 l9 k9, .int .i64 ua, .int .i64 ub, .int .i64 uc, .slice g13 l13 k13, .slice g14 l14 k14]) := World.rangeAt_setCells_same _ _ _ _ C8.z.there
      have HTL : ThrL (y3.setCells (w.heap.size + 1) 0 [.string nn, .slice a1 n1 m1, .slice a2 n2 m2, .bool no, .int .i64 ga, .int .i64 gb, .int .i64 gc, .int .i64 np, .int .i64 nd, .slice g9 l9 k9, .int .i64 ua, .int .i64 ub, .int .i64 uc, .slice g13 l13 k13, .slice g14 l14 k14]) [.string nn, .slice a1 n1 m1, .slice a2 n2 m2, .bool no, .int .i64 ga, .int .i64 gb, .int .i64 gc, .int .i64 np, .int .i64 nd, .slice g9 l9 k9, .int .i64 ua, .int .i64 ub, .int .i64 uc, .slice g13 l13 k13, .slice g14 l14 k14] := thrL3 (z9.cells _ _ _) (z13.cells _ _ _) (z14.cells _ _ _)
      refine ts 9 (fun K hK => ?_)
      refine want_yes (by rfl) (wp_store_mid 44 _ _ rfl (w.heap.size + 1) 0 ([.string nn, .slice a1 n1 m1, .slice a2 n2 m2, .bool no, .int .i64 ga, .int .i64 gb, .int .i64 gc, .int .i64 np, .int .i64 nd, .slice g9 l9 k9, .int .i64 ua, .int .i64 ub, .int .i64 uc, .slice g13 l13 k13, .slice g14 l14 k14] : List Value).toArray rfl rfl C8.z.there HI H1 ?_)
      obtain ⟨W8, hW8⟩ : ∃ W8, W8 = y3.setCells (w.heap.size + 1) 0 [.string nn, .slice a1 n1 m1, .slice a2 n2 m2, .bool no, .int .i64 ga, .int .i64 gb, .int .i64 gc, .int .i64 np, .int .i64 nd, .slice g9 l9 k9, .int .i64 ua, .int .i64 ub, .int .i64 uc, .slice g13 l13 k13, .slice g14 l14 k14] := ⟨_, rfl⟩
      have hS8 : OmS w [.string nn, .slice a1 n1 m1, .slice a2 n2 m2, .bool no, .int .i64 ga, .int .i64 gb, .int .i64 gc, .int .i64 np, .int .i64 nd] [.int .i64 ua, .int .i64 ub, .int .i64 uc] W8 := by rw [hW8]; exact ⟨C8.p.kept (A := fun b => b ≠ w.heap.size + 1) (kept_setCells (fun h => h rfl)) (by omega), C8.q.kept (A := fun b => b ≠ w.heap.size + 1) (kept_setCells (fun h => h rfl)) (by omega)⟩
      rw [← hW8] at HRG HE2 hbz HTL
      refine at_world hW8 ?_
      refine hK.out undef _ hS8 (fun hHeld2 => ?_)
      clear hK K hHeld; have hHeld := hHeld2; clear hHeld2
      try go_frame
      rw [← HE.out] at HE2
      have HE3 : Hid (InfoAt A (Fresh w) W8 [.string nn, .slice a1 n1 m1, .slice a2 n2 m2, .bool no, .int .i64 ga, .int .i64 gb, .int .i64 gc, .int .i64 np, .int .i64 nd, .slice g9 l9 k9, .int .i64 ua, .int .i64 ub, .int .i64 uc, .slice g13 l13 k13, .slice g14 l14 k14] (allP (nn, nl, nt, no, (ga, gb, gc), np, nd) L)) := HE2
      have HB3 : Hid (Below w.heap.size w W8) := hbz
      have HT3 : Hid (ThrL W8 [.string nn, .slice a1 n1 m1, .slice a2 n2 m2, .bool no, .int .i64 ga, .int .i64 gb, .int .i64 gc, .int .i64 np, .int .i64 nd, .slice g9 l9 k9, .int .i64 ua, .int .i64 ub, .int .i64 uc, .slice g13 l13 k13, .slice g14 l14 k14]) := HTL
      clear HE2 hbz H1 HK C8 r9 r13 r14 z9 z13 z14 hW8 HTL
      refine wpAnyH_done (by kernel_rfl) ?_ _
      refine NoPanic.normal ?_
      go_wp2_with fail
      refine bodyPost_ret (v := .agg ([.string nn, .slice a1 n1 m1, .slice a2 n2 m2, .bool no, .int .i64 ga, .int .i64 gb, .int .i64 gc, .int .i64 np, .int .i64 nd, .slice g9 l9 k9, .int .i64 ua, .int .i64 ub, .int .i64 uc, .slice g13 l13 k13, .slice g14 l14 k14] : List Value).toArray) (res_cell (p := 4) (ty := 44) rfl _ _ (w.heap.size + 1) [.string nn, .slice a1 n1 m1, .slice a2 n2 m2, .bool no, .int .i64 ga, .int .i64 gb, .int .i64 gc, .int .i64 np, .int .i64 nd, .slice g9 l9 k9, .int .i64 ua, .int .i64 ub, .int .i64 uc, .slice g13 l13 k13, .slice g14 l14 k14] _ rfl HRG.out Tryz.underlying44 rfl HI) rfl ⟨[.string nn, .slice a1 n1 m1, .slice a2 n2 m2, .bool no, .int .i64 ga, .int .i64 gb, .int .i64 gc, .int .i64 np, .int .i64 nd, .slice g9 l9 k9, .int .i64 ua, .int .i64 ub, .int .i64 uc, .slice g13 l13 k13, .slice g14 l14 k14], rfl, HE3.out, HT3.out, HB3.out⟩
end Go.Proofs.YtbcclfiopebmpaaGreat
namespace Go.Proofs.YtbcclfiopebmpaaGreat
open Go.RowKit
set_option linter.unusedSimpArgs false
set_option maxRecDepth 100000

set_option maxHeartbeats 8000000 in
theorem Of_calls (ns : List Value) (a : Option Addr) (n cap : Nat) (A A' : Where) (x : NodeD) (L : List PodD) (w : World) (hN : Hid (RNode A w ns x)) (hL : Hid (SlAt RPod 16 296 A' w a n cap L)) (hF : Hid (FitsP L)) : Calls Tryz.prog 10 #[.agg ns.toArray, .slice a n cap] w fun e w' => ∃ cs', e = .returned (.agg cs'.toArray) ∧ InfoAt A (Fresh w) w' cs' (ofP x L) ∧ ThrL w' cs' ∧ Below w.heap.size w w' := by
  obtain ⟨nn, nl, nt, no, ⟨ga, gb, gc⟩, np, nd⟩ := x
  have hN0 := hN
  obtain ⟨⟨a1, n1, m1⟩, ⟨a2, n2, m2⟩, rfl, _⟩ := hN.out.out
  simp only at hN0 ⊢
  clear hN
  have hn : Hid (L.length = n) := hL.out.1
  have hbb : Hid (n * 296 ≤ 140737488351232) := hL.out.2.2.2.1
  have HE : Hid (allP (nn, nl, nt, no, (ga, gb, gc), np, nd) (firstsP L) = ofP (nn, nl, nt, no, (ga, gb, gc), np, nd) L) := firsts_all _ L
  generalize ofP (nn, nl, nt, no, (ga, gb, gc), np, nd) L = rr at HE ⊢
  obtain ⟨W2, hW2⟩ : ∃ W2, W2 = ((w.alloc (.cells #[.string nn, .slice a1 n1 m1, .slice a2 n2 m2, .bool no, .int .i64 ga, .int .i64 gb, .int .i64 gc, .int .i64 np, .int .i64 nd] 36)).alloc (.cells #[.string ⟨#[]⟩, .slice none 0 0, .slice none 0 0, .bool false, .int .i64 0, .int .i64 0, .int .i64 0, .int .i64 0, .int .i64 0, .slice none 0 0, .int .i64 0, .int .i64 0, .int .i64 0, .slice none 0 0, .slice none 0 0] 44)) := ⟨_, rfl⟩
  have BN : Hid (BoxL W2 w.heap.size [.string nn, .slice a1 n1 m1, .slice a2 n2 m2, .bool no, .int .i64 ga, .int .i64 gb, .int .i64 gc, .int .i64 np, .int .i64 nd]) := by rw [hW2]; exact (BoxL.new w 36 [.string nn, .slice a1 n1 m1, .slice a2 n2 m2, .bool no, .int .i64 ga, .int .i64 gb, .int .i64 gc, .int .i64 np, .int .i64 nd]).on ((Below.refl _ _).alloc (Nat.le_refl _) _)
  have BZ : Hid (BoxL W2 (w.heap.size + 1) [.string ⟨#[]⟩, .slice none 0 0, .slice none 0 0, .bool false, .int .i64 0, .int .i64 0, .int .i64 0, .int .i64 0, .int .i64 0, .slice none 0 0, .int .i64 0, .int .i64 0, .int .i64 0, .slice none 0 0, .slice none 0 0]) := by
    rw [Hid, hW2]
    have := BoxL.new (w.alloc (.cells #[.string nn, .slice a1 n1 m1, .slice a2 n2 m2, .bool no, .int .i64 ga, .int .i64 gb, .int .i64 gc, .int .i64 np, .int .i64 nd] 36)) 44 [.string ⟨#[]⟩, .slice none 0 0, .slice none 0 0, .bool false, .int .i64 0, .int .i64 0, .int .i64 0, .int .i64 0, .int .i64 0, .slice none 0 0, .int .i64 0, .int .i64 0, .int .i64 0, .slice none 0 0, .slice none 0 0]
    simpa using this
  have B2 : Hid (Below w.heap.size w W2) := by rw [Hid, hW2]; go_grown
  have HS : Hid (∀ u : World, Below W2.heap.size W2 u → BoxL u w.heap.size [.string nn, .slice a1 n1 m1, .slice a2 n2 m2, .bool no, .int .i64 ga, .int .i64 gb, .int .i64 gc, .int .i64 np, .int .i64 nd]) := fun u hb => BN.out.on hb
  go_enter Tryz.func10, Tryz.ntmps10
  go_wp2_with fail
  rw [← hW2]
  clear hW2
  refine wp_region_noPanic ?_
  refine wp_region_held_drew (S := fun u => BoxL u w.heap.size [.string nn, .slice a1 n1 m1, .slice a2 n2 m2, .bool no, .int .i64 ga, .int .i64 gb, .int .i64 gc, .int .i64 np, .int .i64 nd]) (by kernel_rfl) (HS.out _ (Below.refl _ _).drew) (fun hHeld => ?_)
  refine' tk 0 ?_ ?_; rotate_left
  · intro u hu; have cp0 := (hu.2 0 _ rfl).1; have cp1 := (hu.2 1 _ rfl).1; have cp2 := (hu.2 2 _ rfl).1; have cp3 := (hu.2 3 _ rfl).1; have cp4 := (hu.2 4 _ rfl).1; have cp5 := (hu.2 5 _ rfl).1; have cp6 := (hu.2 6 _ rfl).1; have cp7 := (hu.2 7 _ rfl).1; have cp8 := (hu.2 8 _ rfl).1; clear hu; go_simp; try with_reducible rfl
  try go_frame
  refine' tk 1 ?_ ?_; rotate_left
  · intro u hu; clear hu; go_simp; try with_reducible rfl
  try go_frame
  refine tr 2 (fun K hK => ?_)
  go_simp
  refine (firsts_calls a n cap A' L W2.drew (hL.out.on RPod.firm B2.out.drew)).mono ?_
  rintro e y1 ⟨v1, rfl, hr1⟩
  have by1 : Below W2.heap.size W2 y1 := on2 (Below.refl _ _).drew hr1.below
  have hfl : (firstsP L).length ≤ n := by have := firsts_len L L.length (Nat.le_refl _); rwa [List.take_of_length_le (Nat.le_refl _), hn.out] at this
  obtain ⟨b1, c1, e1, s1⟩ := hr1.sl (bytes := 296) RPod.firm (Nat.le_trans (Nat.mul_le_mul_right 296 hfl) hbb.out)
  subst e1
  have S1 : Hid (SlAt RPod 16 296 _ y1 b1 (firstsP L).length c1 (firstsP L)) := s1
  have hbg : Below w.heap.size w y1 := on2 B2.out by1
  clear hr1 s1 hfl
  generalize (firstsP L).length = l1 at S1 ⊢
  go_wp2_with fail
  refine hK.out _ _ (HS.out _ by1) (fun hHeld2 => ?_)
  clear hK K hHeld; have hHeld := hHeld2; clear hHeld2
  try go_frame
  refine tr 3 (fun K hK => ?_)
  go_simp
  refine (of_calls [.string nn, .slice a1 n1 m1, .slice a2 n2 m2, .bool no, .int .i64 ga, .int .i64 gb, .int .i64 gc, .int .i64 np, .int .i64 nd] b1 l1 c1 (fun b => A b ∧ b < w.heap.size) _ (nn, nl, nt, no, (ga, gb, gc), np, nd) (firstsP L) y1 (RNode.firm.kept (RNode.firm.weak hN0.out (fun b hb h => ⟨h, hb⟩)) (Kept.below hbg)) S1.out hF.out.firsts).mono ?_
  rintro e y2 ⟨fs, rfl, hI2, hT2, hb2⟩
  have by2 := on2 by1 hb2
  go_wp2_with fail
  refine hK.out _ _ (HS.out _ by2) (fun hHeld2 => ?_)
  clear hK K hHeld; have hHeld := hHeld2; clear hHeld2
  try go_frame
  have hfl : fs.length = 15 := hI2.len
  have HI : Hid ((Tryz.prog.info? 44).map (·.size) = some fs.toArray.size) := by have e : fs.toArray.size = 15 := (by simp [hfl]); rw [Hid, e]; kernel_rfl
  have H1 : Hid (fs.toArray.all (·.oneCell') = true) := all_oneCell_toArray hI2.one
  have hZ := BZ.out.on by2
  have hwz : w.heap.size + 1 < W2.heap.size := BZ.out.1
  have HZ : Hid (y2.there (w.heap.size + 1) 0 fs.toArray.size) := by have e : fs.toArray.size = 15 := (by simp [hfl]); rw [Hid, e]; exact hZ.there
  have HRG : Hid ((y2.setCells (w.heap.size + 1) 0 fs).rangeAt (w.heap.size + 1) 0 fs) := World.rangeAt_setCells_same _ _ _ _ (by have e : fs.toArray.size = fs.length := (by simp); have := HZ.out; rwa [e] at this)
  have HBw : Hid (Below w.heap.size w (y2.setCells (w.heap.size + 1) 0 fs)) := below_setCells (on2 B2.out by2) (by omega)
  have hsz1 := by1.size
  have HE2 : Hid (InfoAt A (Fresh w) (y2.setCells (w.heap.size + 1) 0 fs) fs rr) := by rw [← HE.out]; exact (hI2.kept (kept_setCells (fun h => absurd h.2 (by omega))) (kept_setCells (Fresh.not (by omega)))).weak (fun b _ h => h.1) (fun b _ h => Nat.le_trans hbg.size h)
  have HT2 : Hid (ThrL (y2.setCells (w.heap.size + 1) 0 fs) fs) := fun v hv a n c e => (hT2 v hv a n c e).cells _ _ _
  have HSS : Hid (BoxL (y2.setCells (w.heap.size + 1) 0 fs.toArray.toList) w.heap.size [.string nn, .slice a1 n1 m1, .slice a2 n2 m2, .bool no, .int .i64 ga, .int .i64 gb, .int .i64 gc, .int .i64 np, .int .i64 nd]) := (BN.out.on by2).kept (A := fun b => b ≠ w.heap.size + 1) (kept_setCells (fun h => h rfl)) (by omega)
  clear hI2 hT2 hZ
  refine ts 4 (fun K hK => ?_)
  refine want_yes (by rfl) (wp_store_mid 44 _ _ rfl (w.heap.size + 1) 0 fs.toArray rfl rfl HZ.out HI.out H1.out ?_)
  refine hK.out undef _ HSS.out (fun hHeld2 => ?_)
  clear hK K hHeld; have hHeld := hHeld2; clear hHeld2
  try go_frame
  refine wpAnyH_done (by kernel_rfl) ?_ _
  refine NoPanic.normal ?_
  go_wp2_with fail
  refine bodyPost_ret (v := .agg fs.toArray) (res_cell (p := 4) (ty := 44) rfl _ _ (w.heap.size + 1) fs _ rfl HRG.out Tryz.underlying44 rfl (by have e : fs.toArray.size = fs.length := (by simp); have := HI.out; rwa [e] at this)) rfl ⟨fs, rfl, HE2.out, HT2.out, HBw.out⟩
end Go.Proofs.YtbcclfiopebmpaaGreat
namespace Go.Proofs.YtbcclfiopebmpaaGreat
open Go.ChangeShapes Go.WideShapes Go.ChangeAt Go.RowKit

/-- What a datum weighs is within reach. -/
def Light {H : Type} (d : DataW H) (t : TypeId) : Prop := ∀ n ∈ d.weights Tryz.prog t, n ≤ 140737488351232
theorem light_all {H : Type} {e : TypeId} : ∀ {ds : List (DataW H)} {d : DataW H}, d ∈ ds → (∀ n ∈ DataW.weightsAll Tryz.prog e ds, n ≤ 140737488351232) → Light d e
  | [], _, h, _ => by simp at h
  | x :: ds, d, h, hw => by
    rcases List.mem_cons.1 h with rfl | h
    · intro n hn; exact hw n (by simp [DataW.weightsAll, hn])
    · exact light_all h (fun n hn => hw n (by simp [DataW.weightsAll, hn]))
theorem light_slice {H : Type} {t e : TypeId} {elems spare : List (DataW H)} (hu : Tryz.prog.underlying t = some (.slice e)) (h : Light (.slice elems spare) t) : elems.length * Tryz.prog.bytesOf e ≤ 140737488351232 ∧ ∀ d ∈ elems, Light d e := by
  unfold Light at h
  simp only [DataW.weights, hu, List.mem_cons, List.mem_append] at h
  refine ⟨?_, fun d hd => light_all hd (fun n hn => h n (.inr (.inl hn)))⟩
  have := h _ (.inl rfl)
  rw [Nat.add_mul] at this
  omega
theorem light_struct {H : Type} {t : TypeId} {fs : Array Field} {parts : List (DataW H)} (hu : Tryz.prog.underlying t = some (.struct fs)) (h : Light (.agg parts) t) {j : Nat} {tj : TypeId} {d : DataW H} (ht : (fs.toList.map (·.type))[j]? = some tj) (hd : parts[j]? = some d) : Light d tj := by
  intro n hn
  refine h n ?_
  simp only [DataW.weights, hu]
  exact DataW.weights_mem_each ht hd n hn
theorem light_arg {H : Type} {ts : List TypeId} {ds : List (DataW H)} (h : (DataW.weightsEach Tryz.prog ts ds).all (· ≤ reachBytes) = true) {j : Nat} {t : TypeId} {d : DataW H} (ht : ts[j]? = some t) (hd : ds[j]? = some d) : Light d t := by
  intro n hn
  have := List.all_eq_true.1 h _ (DataW.weights_mem_each ht hd n hn)
  have hre : reachBytes = 140737488351232 := by decide
  rw [hre] at this
  simpa using this

section
variable {H : Type} {enc : TypeId × Value → H} {W : World} {base n : Nat} {sp : Nat → Bool} {held : Bool}

theorem open_str {v : Value} {x : DataW H × List MemPlace} (h : DataW.trod enc Tryz.prog W base sp held n 9 [v] = some x) (hl : Light x.1 9) : ∃ s : ByteArray, v = .string s ∧ s.size ≤ 140737488355328 := by
  obtain ⟨s, hs, rfl, _⟩ := DataW.trod_string Tryz.underlying9 h
  refine ⟨s, by simpa using hs, ?_⟩
  have := hl s.data.toList.length (by simp [DataW.weights])
  simp at this
  omega

theorem addr_lt {B off : Nat} {spot : Option _} {v : Value} (h : W.cell? ⟨B, off, spot⟩ = some v) : B < W.heap.size := by
  rcases Nat.lt_or_ge B W.heap.size with h2 | h2
  · exact h2
  · simp [World.cell?, Array.getElem?_eq_none h2] at h

theorem getD_range {α : Type} [Inhabited α] (f : Nat → α) (len i : Nat) (h : i < len) : ((List.range len).map f).getD i default = f i := by
  rw [getE _ _ (by simpa using h)]; simp

theorem open_row {α : Type} [Inhabited α] {en : α → List Value} {k bytes : Nat} {ok : α → Prop} {t e : TypeId} (hu : Tryz.prog.underlying t = some (.slice e)) (ck : Tryz.prog.cellsOf e = k) (bk : Tryz.prog.bytesOf e = bytes) (hk : ∀ x, (en x).length = k) (hk0 : 0 < k) (hb1 : 1 ≤ bytes)
    (hE : ∀ {m : Nat} {cs : List Value} {x : DataW H × List MemPlace}, DataW.trod enc Tryz.prog W base sp held m e cs = some x → Light x.1 e → ∃ y : α, cs = en y ∧ ok y)
    {v : Value} {x : DataW H × List MemPlace} (h : DataW.trod enc Tryz.prog W base sp held n t [v] = some x) (hl : Light x.1 t) :
    ∃ (a : Option Addr) (L : List α) (cap : Nat), v = .slice a L.length cap ∧ RowAt en k ok W a L ∧ L.length * bytes ≤ 140737488351232 ∧ (a = none → cap = 0) ∧ L.length ≤ cap := by
  rcases Go.Deep.open_slice hu h with ⟨hv, _⟩ | ⟨a, len, cap, m, nn, D, Pl, hv, _, hlc, _, hm, rfl, hel⟩
  · exact ⟨none, [], 0, by simpa using hv, RowAt.nil _ _, by simp, fun _ => rfl, by simp⟩
  · obtain rfl : v = .slice (some a) len cap := by simpa using hv
    obtain ⟨w1, w2⟩ := light_slice hu hl
    simp only [List.length_map, List.length_range, bk] at w1
    have hlb : len * 1 ≤ len * bytes := Nat.mul_le_mul_left _ hb1
    have hml : len ≤ m := by rw [hm]; split <;> omega
    rw [ck] at hel
    have each : ∀ i, i < len → ∃ y : α, (∀ j u, (en y)[j]? = some u → W.cell? ((a.add (i * k)).add j) = some u) ∧ ok y := fun i hi => by
      obtain ⟨cs', h1, h2⟩ := hel i (by omega)
      obtain ⟨y, rfl, ho⟩ := hE h2 (w2 _ (List.mem_map.2 ⟨i, List.mem_range.2 hi, rfl⟩))
      obtain ⟨_, _, hcell⟩ := World.cells?_some h1
      refine ⟨y, fun j u hj => ?_, ho⟩
      have hjk : j < k := by
        have := (List.getElem?_eq_some_iff.1 hj).1
        rwa [hk] at this
      rw [hcell j hjk, hj]
    obtain ⟨f, hf⟩ := Go.Deep.choose_lt each
    refine ⟨some a, (List.range len).map f, cap, by simp, ⟨by simp; omega, ?_, fun hn => ?_⟩, by simpa using w1, (fun h => by cases h), by simpa using hlc⟩
    · intro s hs
      obtain ⟨i, hi, rfl⟩ := List.mem_map.1 hs
      exact (hf i (List.mem_range.1 hi)).2
    · have hpos : 0 < len := by
        rcases Nat.eq_zero_or_pos len with h0 | h0
        · subst h0; exact absurd rfl hn
        · exact h0
      obtain ⟨B, off, spot⟩ := a
      have hex : ∃ u, (en (f 0))[0]? = some u := by
        cases e : en (f 0) with
        | nil => have := hk (f 0); rw [e] at this; simp at this; omega
        | cons u r => exact ⟨u, rfl⟩
      obtain ⟨u0, hu0⟩ := hex
      have hc0 := (hf 0 hpos).1 0 u0 hu0
      have hsp : spot = none := by
        have := World.cell?_spot hc0
        simpa [Addr.add] using this
      subst hsp
      rw [add_lit, add_lit] at hc0
      refine ⟨B, off, rfl, addr_lt hc0, fun i hi j u hj => ?_⟩
      have hi' : i < len := by simpa using hi
      rw [getD_range f len i hi'] at hj
      have := (hf i hi').1 j u hj
      rwa [add_lit, add_lit] at this
theorem trod_struct4 {t : TypeId} {f0 f1 f2 f3 : Field} {fuel : Nat} {cs : List Value} {x : DataW H × List MemPlace} (ht : Tryz.prog.underlying t = some (.struct #[f0, f1, f2, f3])) (h : DataW.trod enc Tryz.prog W base sp held fuel t cs = some x) :
    ∃ y0 y1 y2 y3 n, x = (.agg [y0.1, y1.1, y2.1, y3.1], y0.2 ++ (y1.2 ++ (y2.2 ++ y3.2))) ∧ cs.length = Tryz.prog.cellsOf t ∧ DataW.trod enc Tryz.prog W base sp held n f0.type ((cs.drop f0.offset).take (Tryz.prog.cellsOf f0.type)) = some y0 ∧
      DataW.trod enc Tryz.prog W base sp held n f1.type ((cs.drop f1.offset).take (Tryz.prog.cellsOf f1.type)) = some y1 ∧ DataW.trod enc Tryz.prog W base sp held n f2.type ((cs.drop f2.offset).take (Tryz.prog.cellsOf f2.type)) = some y2 ∧ DataW.trod enc Tryz.prog W base sp held n f3.type ((cs.drop f3.offset).take (Tryz.prog.cellsOf f3.type)) = some y3 := by
  obtain ⟨xs, n, _, rfl, hl, hlen, hf⟩ := DataW.trod_struct ht h
  match xs, hlen with
  | [y0, y1, y2, y3], _ => exact ⟨y0, y1, y2, y3, n, by simp, hl, by simpa using hf 0 f0 rfl, by simpa using hf 1 f1 rfl, by simpa using hf 2 f2 rfl, by simpa using hf 3 f3 rfl⟩
end
end Go.Proofs.YtbcclfiopebmpaaGreat
namespace Go.Proofs.YtbcclfiopebmpaaGreat
open Go.ChangeShapes Go.WideShapes Go.ChangeAt Go.RowKit

/-- What is read as of that type lies as said. -/
def Opens {α : Type} (R : Rep α) (t : TypeId) : Prop :=
  ∀ {H : Type} {enc : TypeId × Value → H} {W : World} {base n : Nat} {sp : Nat → Bool} {held : Bool} {cs : List Value} {x : DataW H × List MemPlace},
    DataW.trod enc Tryz.prog W base sp held n t cs = some x → Light x.1 t → ∃ y, R (fun _ => True) W cs y
theorem opens_str : Opens RStr 9 := by
  intro H enc W base n sp held cs x h hl
  obtain ⟨s, hs, rfl, _⟩ := DataW.trod_string Tryz.underlying9 h
  refine ⟨s, hs, ?_⟩
  have := hl s.data.toList.length (by simp [DataW.weights])
  simp at this
  omega
theorem opens_int : Opens RInt 3 := by
  intro H enc W base n sp held cs x h _
  obtain ⟨e, e1, _, _⟩ := DataW.trod_int Tryz.underlying3 h
  exact ⟨e, e1⟩
theorem opens_bool : Opens RBool 4 := by
  intro H enc W base n sp held cs x h _
  obtain ⟨b, b1, _⟩ := DataW.trod_bool Tryz.underlying4 h
  exact ⟨b, b1⟩
theorem opens_slice {α : Type} [Inhabited α] {R : Rep α} {k bytes : Nat} {t e : TypeId} (hR : Firm R k) (hu : Tryz.prog.underlying t = some (.slice e)) (ck : Tryz.prog.cellsOf e = k) (bk : Tryz.prog.bytesOf e = bytes) (hk0 : 0 < k) (hE : Opens R e) : Opens (RSl R k bytes) t := by
  intro H enc W base n sp held cs x h hl
  rcases Go.Deep.open_slice hu h with ⟨hv, _⟩ | ⟨a, len, cap, m, nn, D, Pl, hv, _, hlc, _, hm, rfl, hel⟩
  · exact ⟨[], none, 0, 0, hv, SlAt.nil _ _ _ _ (fun _ => rfl)⟩
  · obtain ⟨w1, w2⟩ := light_slice hu hl
    simp only [List.length_map, List.length_range, bk] at w1
    have hml : len ≤ m := by rw [hm]; split <;> omega
    rw [ck] at hel
    have each : ∀ i, i < len → ∃ y : α, ∃ cs, R (fun _ => True) W cs y ∧ ∀ j u, cs[j]? = some u → W.cell? ((a.add (i * k)).add j) = some u := fun i hi => by
      obtain ⟨cs', h1, h2⟩ := hel i (by omega)
      obtain ⟨y, hy⟩ := hE h2 (w2 _ (List.mem_map.2 ⟨i, List.mem_range.2 hi, rfl⟩))
      obtain ⟨_, _, hcell⟩ := World.cells?_some h1
      refine ⟨y, cs', hy, fun j u hj => ?_⟩
      have hjk : j < k := by
        have := (List.getElem?_eq_some_iff.1 hj).1
        rwa [hR.len hy] at this
      rw [hcell j hjk, hj]
    obtain ⟨f, hf⟩ := Go.Deep.choose_lt each
    refine ⟨(List.range len).map f, some a, len, cap, hv, by simp, hlc, (fun h => by cases h), w1, fun hpos => ?_⟩
    obtain ⟨B, off, spot⟩ := a
    obtain ⟨cs0, hr0, hc0⟩ := hf 0 hpos
    have hex : ∃ u, cs0[0]? = some u := by
      cases e : cs0 with
      | nil => have := hR.len hr0; rw [e] at this; simp at this; omega
      | cons u r => exact ⟨u, rfl⟩
    obtain ⟨u0, hu0⟩ := hex
    have hc0 := hc0 0 u0 hu0
    have hsp : spot = none := by
      have := World.cell?_spot hc0
      simpa [Addr.add] using this
    subst hsp
    rw [add_lit, add_lit] at hc0
    refine ⟨B, off, rfl, addr_lt hc0, trivial, fun i hi => ?_⟩
    obtain ⟨cs, hr, hc⟩ := hf i hi
    refine ⟨cs, by rw [getD_range f len i hi]; exact hr, fun j u hj => ?_⟩
    have := hc j u hj
    rwa [add_lit, add_lit] at this
/-- The same of a struct's fields from a place on. -/
def OpensFs {α : Type} (fs : List Field) (off total : Nat) (R : Rep α) : Prop :=
  ∀ {H : Type} {enc : TypeId × Value → H} {W : World} {base n : Nat} {sp : Nat → Bool} {held : Bool} {cs : List Value}, cs.length = total →
    (∀ (j : Nat) (f : Field), fs[j]? = some f → ∃ d, DataW.trod enc Tryz.prog W base sp held n f.type ((cs.drop f.offset).take (Tryz.prog.cellsOf f.type)) = some d ∧ Light d.1 f.type) → ∃ y, R (fun _ => True) W (cs.drop off) y
theorem opensFs_last {α : Type} {R : Rep α} {f : Field} {off total : Nat} (ho : f.offset = off) (ht : off + Tryz.prog.cellsOf f.type = total) (h : Opens R f.type) : OpensFs [f] off total R := by
  intro H enc W base n sp held cs hl hf
  obtain ⟨d, h1, h2⟩ := hf 0 f rfl
  rw [ho, List.take_of_length_le (by rw [List.length_drop]; omega)] at h1
  exact h h1 h2
theorem opensFs_cons {α β : Type} {R : Rep α} {S : Rep β} {f : Field} {fs : List Field} {off m total : Nat} (ho : f.offset = off) (hm : off + Tryz.prog.cellsOf f.type = m) (h : Opens R f.type) (hs : OpensFs fs m total S) : OpensFs (f :: fs) off total (RPair R S) := by
  intro H enc W base n sp held cs hl hf
  obtain ⟨d, h1, h2⟩ := hf 0 f rfl
  rw [ho] at h1
  obtain ⟨y, hy⟩ := h h1 h2
  obtain ⟨z, hz⟩ := hs (cs := cs) hl (fun j g hg => hf (j + 1) g (by simpa using hg))
  refine ⟨(y, z), (cs.drop off).take (Tryz.prog.cellsOf f.type), cs.drop m, ?_, hy, hz⟩
  rw [← hm, ← List.drop_drop]
  exact (List.take_append_drop _ _).symm
theorem opens_struct {α : Type} {R : Rep α} {t : TypeId} {fs : Array Field} {total : Nat} (hu : Tryz.prog.underlying t = some (.struct fs)) (hc : Tryz.prog.cellsOf t = total) (h : OpensFs fs.toList 0 total R) : Opens R t := by
  intro H enc W base n sp held cs x hx hl
  obtain ⟨xs, m, _, rfl, hlen, hxs, hf⟩ := DataW.trod_struct hu hx
  have := h (enc := enc) (W := W) (base := base) (n := m) (sp := sp) (held := held) (cs := cs) (by rw [hlen, hc]) (fun j f hj => by
    have hj' : fs[j]? = some f := by simpa using hj
    have h1 := hf j f hj'
    have hlt : j < xs.length := by
      have := (Array.getElem?_eq_some_iff.1 hj').1
      omega
    have h2 : xs[j]? = some xs[j] := List.getElem?_eq_getElem hlt
    rw [h2] at h1
    refine ⟨xs[j], h1, light_struct hu hl (j := j) (by simp [hj']) (by simp [h2])⟩)
  simpa using this
theorem arg_agg {P : Program} {t : TypeId} {fs : Array Field} (hu : P.underlying t = some (.struct fs)) {H : Type} {enc : TypeId × Value → H} {W : World} {base b0 : Nat} {r : Reach} {sp : Nat → Bool} {held : Bool} {v : Value} {d : DataW H} {p : List MemPlace}
    (hv : Value.okWide P W r b0 t v) (hd : DataW.Trod enc P W base sp held t v d p) : ∃ (cs : Array Value) (fuel : Nat), v = .agg cs ∧ DataW.trod enc P W base sp held fuel t cs.toList = some (d, p) := by
  obtain ⟨cs, rfl, _⟩ := okWide_struct hu hv
  obtain ⟨fuel, hf⟩ := hd
  exact ⟨cs, fuel, rfl, hf⟩
set_option maxRecDepth 100000 in
/-- A struct that is handed in. -/
theorem opens_arg {α : Type} {R : Rep α} {t : TypeId} {fs : Array Field} (hu : Tryz.prog.underlying t = some (.struct fs)) (h : Opens R t) {H : Type} {enc : TypeId × Value → H} {W : World} {base b0 : Nat} {r : Reach} {sp : Nat → Bool} {held : Bool} {v : Value} {d : DataW H} {p : List MemPlace}
    (hv : Value.okWide Tryz.prog W r b0 t v) (hd : DataW.Trod enc Tryz.prog W base sp held t v d p) (hl : Light d t) : ∃ cs y, v = .agg cs ∧ R (fun _ => True) W cs.toList y := by
  obtain ⟨cs, fuel, e, hf⟩ := arg_agg hu hv hd
  obtain ⟨y, hy⟩ := h hf hl
  exact ⟨cs, y, e, hy⟩
end Go.Proofs.YtbcclfiopebmpaaGreat
