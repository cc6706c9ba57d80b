/- Functions of the program, each walked under the conditions that its theorem names. -/
import Derived.Test.YtnffafjamiffnaaGreatQ14
import Derived.Test.YtnffafjamiffnaaGreatQ15
set_option linter.unusedSimpArgs false
set_option maxRecDepth 100000
set_option maxHeartbeats 32000000
namespace Go.Proofs.YtnffafjamiffnaaGreat
open Go.RowKit Go.Maps
def RH (v : Value) : Option (DataW Value × List MemPlace) := some (.held v, [])
abbrev nilS : Value := .slice none 0 0
def HdAt (w : World) (mb n : Nat) (f : ByteArray -> Value) : Prop :=
 ∃ D : DataW Value, w.ownsMap Tryz.prog 9 RH mb n D /\ ∀ s, D.atKey (kS s) (.held nilS) = .held (f s)
theorem HdAt.lt {w : World} {mb n : Nat} {f : ByteArray -> Value} (h : HdAt w mb n f) : mb < w.heap.size := by obtain ⟨D, h1, _⟩ := h; exact h1.lt
theorem HdAt.same {w w' : World} {mb n : Nat} {f : ByteArray -> Value} (h : HdAt w mb n f) (hb : w'.heap[mb]? = w.heap[mb]?) : HdAt w' mb n f := by
 obtain ⟨D, ⟨es, ck, h1, h2⟩, h3⟩ := h
 exact ⟨D, ⟨es, ck, hb.trans h1, h2⟩, h3⟩
theorem HdAt.on {w w' : World} {mb n : Nat} {f : ByteArray -> Value} (h : HdAt w mb n f) (hb : Below w.heap.size w w') : HdAt w' mb n f := h.same (hb.block mb h.lt)
theorem HdAt.made (w : World) : HdAt (w.alloc (.map #[] 0)) w.heap.size 0 (fun _ => nilS) := ⟨.map [], World.ownsMap_made _ _ _ _, fun _ => rfl⟩
theorem HdAt.isMap {w : World} {mb n : Nat} {f : ByteArray -> Value} (h : HdAt w mb n f) : ∃ es ck, w.heap[mb]? = some (.map es ck) := by obtain ⟨D, ⟨es, ck, h1, _⟩, _⟩ := h; exact ⟨es, ck, h1⟩
theorem zeroPods (w : World) : (zeroValue 22).run Tryz.prog w = .ok nilS w := by kernel_rfl
theorem HdAt.look {w : World} {mb n : Nat} {f : ByteArray -> Value} (h : HdAt w mb n f) (t : TypeId) (ht : Tryz.prog.underlying t = some (.map 9 22)) {s : ByteArray} (hs : s.size <= 140737488355328) :
  (Instr.lookup t (.map (some mb)) (.string s) false).run Tryz.prog w = .ok (f s) w := by
 obtain ⟨D, h1, h2⟩ := h
 obtain ⟨v, ps, hrun, hv⟩ := h1.lookup lawS ht (zeroPods w) (zd := .held nilS) (zp := []) rfl (zGm hs)
 rw [h2 s] at hv
 simp only [RH, Option.some.injEq, Prod.mk.injEq, DataW.held.injEq] at hv
 rw [hrun, hv.1]
theorem HdAt.put {w : World} {mb n : Nat} {f : ByteArray -> Value} (h : HdAt w mb n f) (t : TypeId) (ht : Tryz.prog.underlying t = some (.map 9 22)) {s : ByteArray} (hs : s.size <= 140737488355328) (hn : n < 140737488355328) (v : Value) :
  ∃ w' : World, (Instr.mapUpdate t (.map (some mb)) (.string s) v).run Tryz.prog w = .ok () w' /\ HdAt w' mb (n + 1) (fun t => if sEq t s = true then v else f t) /\ w.grownBy w' (some mb) := by
 obtain ⟨D, h1, h2⟩ := h
 obtain ⟨w', hes, hown, hg'⟩ := h1.update lawS ht (Nat.lt_of_lt_of_le hn (by unfold maxLen; omega)) (val := v) (zGm hs) rfl
 refine ⟨w', hes, ⟨_, hown, fun t => ?_⟩, hg'⟩
 show _ = DataW.held (if sEq t s = true then v else f t)
 by_cases e : sEq t s = true
 ·obtain rfl := (zA7 _ _).1 e
  rw [atKey_put_same h1.isMap (kS_is _), if_pos e]
 ·have hne : kS t ≠ kS s := fun x => e ((zA7 _ _).2 (kS_inj x))
  rw [atKey_put_other hne, h2 t, if_neg e]
def grpP (L : List PodD) (s : ByteArray) : List PodD := L.filter (fun p => sEq (pNode p) s && !sEq (pNode p) ⟨#[]⟩)
structure GrpSt (A : Where) (w u : World) (mb n : Nat) (f : ByteArray -> Value) (L : List PodD) : Prop where
 map : HdAt u mb n f
 row : ∀ s, Row RPod 16 A w u 49 (f s) (grpP L s)
 own : ∀ s t b, s ≠ t -> (f s).ownBlock = some b -> (f t).ownBlock ≠ some b
 low : w.heap.size <= mb
theorem GrpSt.below {A : Where} {w u : World} {mb n : Nat} {f : ByteArray -> Value} {L : List PodD} (h : GrpSt A w u mb n f L) : Below w.heap.size w u := (h.row ⟨#[]⟩).below
theorem GrpSt.on {A : Where} {w u u' : World} {mb n : Nat} {f : ByteArray -> Value} {L : List PodD} (h : GrpSt A w u mb n f L) (hb : Below u.heap.size u u') : GrpSt A w u' mb n f L := ⟨h.map.on hb, fun s => (h.row s).on RPod.firm hb, h.own, h.low⟩
theorem Row.ne_hd {α : Type} [Inhabited α] {R : Rep α} {k : Nat} {A : Where} {w0 u : World} {e : TypeId} {v : Value} {L : List α} (h : Row R k A w0 u e v L) {mb n : Nat} {f : ByteArray -> Value} (hs : HdAt u mb n f) : v.ownBlock ≠ some mb := by
 intro e
 obtain ⟨es, ck, hm⟩ := hs.isMap
 obtain ⟨xs, h1, _⟩ := h
 obtain ⟨_, ⟨rfl, _⟩ | ⟨g, cap, cur, rfl, _, hh, _⟩⟩ := h1.2
 ·cases e
 ·simp only [Value.ownBlock, Option.some.injEq] at e
  subst e
  rw [hm] at hh
  cases hh
theorem grp_len (L : List PodD) (s : ByteArray) (k : Nat) : (grpP (L.take k) s).length <= k := Nat.le_trans (List.length_filter_le _ _) (by rw [List.length_take]; omega)
theorem GrpSt.step {A : Where} {w u u1 u2 : World} {mb n : Nat} {f : ByteArray -> Value} {L : List PodD} {q : PodD} {v : Value} (hA : ∀ b, A b -> b < w.heap.size) (h : GrpSt A w u mb n f L) (hne : sEq (pNode q) ⟨#[]⟩ = false) (hr : Row RPod 16 A w u1 49 v (grpP L (pNode q) ++ [q])) (hg : u.grownBy u1 (f (pNode q)).ownBlock) (hw : v.ownBlock = (f (pNode q)).ownBlock \/ ∃ b, v.ownBlock = some b /\ u.heap.size <= b)
  (hm : HdAt u2 mb (n + 1) (fun t => if sEq t (pNode q) = true then v else f t)) (hg2 : u1.grownBy u2 (some mb)) : GrpSt A w u2 mb (n + 1) (fun t => if sEq t (pNode q) = true then v else f t) (L ++ [q]) := by
 have hmb := h.map.lt
 have hf := h.row (pNode q)
 have hvm : v.ownBlock ≠ some mb := by
  rcases hw with hw | ⟨b, hb, hl⟩
  ·rw [hw]; exact hf.ne_hd h.map
  ·rw [hb]; intro e; injection e with e; omega
 have gq : ∀ s, grpP (L ++ [q]) s = grpP L s ++ (if sEq (pNode q) s = true then [q] else []) := fun s => by
  unfold grpP
  rw [List.filter_append]
  congr 1
  by_cases e : sEq (pNode q) s = true
  ·simp [e, hne]
  ·simp [e]
 refine ⟨hm, fun s => ?_, fun s t b hst hs => ?_, h.low⟩
 ·rw [gq]
  by_cases e : sEq s (pNode q) = true
  ·have e' := (zA7 _ _).1 e
   subst e'
   rw [if_pos e, if_pos e]
   exact hr.grown RPod.firm hg2 (fun b hb => by injection hb with hb; subst hb; exact ⟨h.low, hvm, fun hx => by have := hA _ hx; have := h.low; omega⟩)
  ·have e2 : ¬ sEq (pNode q) s = true := fun x => e ((zA7 _ _).2 ((zA7 _ _).1 x).symm)
   rw [if_neg e, if_neg e2, List.append_nil]
   have hne2 : s ≠ pNode q := fun x => e ((zA7 _ _).2 x)
   have r1 := (h.row s).grown RPod.firm hg (fun b hb => ⟨(hf.lt hb).1, fun x => h.own s (pNode q) b hne2 x hb, fun hx => by have := hA _ hx; have := (hf.lt hb).1; omega⟩)
   exact r1.grown RPod.firm hg2 (fun b hb => by injection hb with hb; subst hb; exact ⟨h.low, (h.row s).ne_hd h.map, fun hx => by have := hA _ hx; have := h.low; omega⟩)
 ·have key : ∀ s, ¬ sEq s (pNode q) = true -> ∀ b, v.ownBlock = some b -> (f s).ownBlock ≠ some b := fun s hs b hb x => by
   have hne2 : s ≠ pNode q := fun y => hs ((zA7 _ _).2 y)
   rcases hw with hw | ⟨b', hb', hl⟩
   ·exact h.own s (pNode q) b hne2 x (hw ▸ hb)
   ·rw [hb] at hb'; injection hb' with hb'; have := ((h.row s).lt x).2; omega
  by_cases e1 : sEq s (pNode q) = true
  ·rw [if_pos e1] at hs
   by_cases e2 : sEq t (pNode q) = true
   ·exact absurd (((zA7 _ _).1 e1).trans ((zA7 _ _).1 e2).symm) hst
   ·rw [if_neg e2]; exact key t e2 b hs
  ·rw [if_neg e1] at hs
   by_cases e2 : sEq t (pNode q) = true
   ·rw [if_pos e2]; exact fun x => key s e1 b x hs
   ·rw [if_neg e2]; exact h.own s t b hst hs
end Go.Proofs.YtnffafjamiffnaaGreat
namespace Go.Proofs.YtnffafjamiffnaaGreat
open Go.RowKit Go.Sort Go.Lib
theorem joinedS0 (a : Option Addr) (n cap : Nat) (A : Where) (L : List ByteArray) (a' : Option Addr) (n' cap' : Nat) (A' : Where) (M N : List ByteArray) (hN : N = L ++ M) (w : World) (hL : Hid (SlAt RStr 1 16 A w a n cap L)) (hM : Hid (SlAt RStr 1 16 A' w a' n' cap' M)) (hF : Hid ((L.length + M.length) * 16 <= 140737488351232)) : Calls Tryz.prog 80 #[.slice a n cap, .slice a' n' cap'] w fun e w' => ∃ b c, e = .returned (.slice b (sortB sLt sEq N).length c) /\ SlAt RStr 1 16 (Fresh w) w' b (sortB sLt sEq N).length c (sortB sLt sEq N) /\ Thr w' b (sortB sLt sEq N).length /\ Below w.heap.size w w' := by
 have HN1 : Hid (Src RStr 1 A w a n L) := hL.out.src RStr.firm
 have HN2 : Hid (∀ u, Below w.heap.size w u -> Src RStr 1 A' u a' n' M) := fun u hb => (hM.out.on RStr.firm hb).src RStr.firm
 have HB1 : Hid ((([] : List ByteArray).length + L.length) * 16 <= 140737488355328) := by have h1 := hF.out; rw [Hid]; simp only [List.length_nil]; omega
 have HB2 : Hid ((L.length + M.length) * 16 <= 140737488355328) := by have h1 := hF.out; rw [Hid]; omega
 have hNl : Hid (N.length * 16 <= 140737488351232) := by rw [Hid, hN, List.length_append]; exact hF.out
 have hcap : a = none -> cap = 0 := hL.out.2.2.1
 clear hL hM hF
 rcases a with _ | ad
 ·obtain rfl := hcap rfl
  clear hcap
  go_enter Tryz.func80, Tryz.ntmps80
  go_wp2_with (at_builtin; first | (refine zB6 RStr.firm RStr.flat (w0 := w) rfl _ _ 31 9 rfl _ 16 zC5 Tryz.underlying31 rfl (by decide) (by decide) _ [] rfl (OutR.nil w 9 none) none n 0 L rfl HN1.out HB1.out ?_; intro v1 u1 hr1; rw [List.nil_append] at hr1) | (go_must (refine zB6 RStr.firm RStr.flat (w0 := w) rfl _ _ 31 9 rfl _ 16 zC5 Tryz.underlying31 rfl (by decide) (by decide) _ L rfl hr1 a' n' cap' M rfl (HN2.out u1 hr1.below) HB2.out ?_); intro v2 u2 hr2))
  clear hr1 HN1 HN2 HB1 HB2
  rw [<- hN] at hr2
  clear hN
  by_cases hE : N = []
  ·subst hE
   obtain ⟨b, c, rfl, hbc⟩ := hr2.empty
   have hbel : Hid (Below w.heap.size w u2) := hr2.below
   have hbc2 : Hid (b = none -> c = 0) := hbc
   clear hr2 hbc
   refine (zDc b c u2).mono ?_
   rintro e w' ⟨rfl, rfl⟩
   go_wp2_with fail
   refine (Tryz.slices_Compact_string_empty b c w').mono ?_
   rintro e w2 ⟨rfl, rfl⟩
   go_wp2_with fail
   go_ret
   exact ⟨b, c, rfl, SlAt.nil _ _ _ _ hbc2.out, fun B off _ j hj => absurd hj (Nat.not_lt_zero j), hbel.out⟩
  ·have hrow : Row RStr 1 (fun _ => False) w u2 9 v2 N := by
    rcases hr2 with ⟨h0, _⟩ | h
    ·exact absurd h0 hE
    ·exact h
   clear hr2
   obtain ⟨g, c, rfl, hg, hnc, hH, hrest⟩ := sortedS hE hrow
   clear hrow
   have hlen : N.length <= 140737488351232 := by have := hNl.out; omega
   have hS := SortS g 0 c (N.map ByteArray.toList) u2 hH hg (by rw [List.length_map]; omega)
   rw [List.length_map] at hS
   have hml : ((N.map ByteArray.toList).mergeSort fun x y => decide (x <= y)).length = N.length := by rw [List.length_mergeSort, List.length_map]
   have hcl : (Lib.compact ((N.map ByteArray.toList).mergeSort fun x y => decide (x <= y))).length = (sortB sLt sEq N).length := by rw [sortS, List.length_map]
   clear hH
   have HR0 : Hid (∀ n os, Holds encStr (grow (putRow encStr (Sort.ahead u2 n) g 0 ((N.map ByteArray.toList).mergeSort fun x y => decide (x <= y)).toArray) os) g 0 ((N.map ByteArray.toList).mergeSort fun x y => decide (x <= y)).toArray /\ ∀ q, Row RStr 1 (fun _ => False) w (putRow encStr (Sort.ahead (grow (putRow encStr (Sort.ahead u2 n) g 0 ((N.map ByteArray.toList).mergeSort fun x y => decide (x <= y)).toArray) os) q) g 0 (Lib.compact ((N.map ByteArray.toList).mergeSort fun x y => decide (x <= y)) ++ List.replicate (((N.map ByteArray.toList).mergeSort fun x y => decide (x <= y)).length - (Lib.compact ((N.map ByteArray.toList).mergeSort fun x y => decide (x <= y))).length) []).toArray) 9 (.slice (some ⟨g, 0, none⟩) (sortB sLt sEq N).length c) (sortB sLt sEq N)) := hrest
   clear hrest
   have HM : Hid (((N.map ByteArray.toList).mergeSort fun x y => decide (x <= y)).length = N.length) := hml
   have HC : Hid ((Lib.compact ((N.map ByteArray.toList).mergeSort fun x y => decide (x <= y))).length = (sortB sLt sEq N).length) := hcl
   clear hml hcl
   refine hS.mono ?_
   rintro e u3 ⟨rfl, k, os, hu3⟩
   have HU : Hid (u3 = grow (putRow encStr (Sort.ahead u2 k) g 0 ((N.map ByteArray.toList).mergeSort fun x y => decide (x <= y)).toArray) os) := hu3
   clear hS hu3
   go_wp2_with fail
   have hu3 := HU.out
   obtain ⟨H2, H3⟩ := HR0.out k os
   rw [<- hu3] at H2 H3
   clear HR0 hu3 HU
   have hC := Tryz.slices_Compact_string g 0 c ((N.map ByteArray.toList).mergeSort fun x y => decide (x <= y)) u3 H2 (by rw [HM.out]; omega) (by rw [HM.out]; omega)
   rw [HM.out] at hC
   have H4 : Hid (∀ q, Row RStr 1 (fun _ => False) w (putRow encStr (Sort.ahead u3 q) g 0 (Lib.compact ((N.map ByteArray.toList).mergeSort fun x y => decide (x <= y)) ++ List.replicate (N.length - (Lib.compact ((N.map ByteArray.toList).mergeSort fun x y => decide (x <= y))).length) []).toArray) 9 (.slice (some ⟨g, 0, none⟩) (sortB sLt sEq N).length c) (sortB sLt sEq N)) := fun q => by have := H3 q; rw [HM.out] at this; exact this
   clear H2 H3
   refine hC.mono ?_
   rintro e u4 ⟨he, q, hu4⟩
   rw [HC.out] at he
   subst he
   have H5 : Row RStr 1 (fun _ => False) w u4 9 (.slice (some ⟨g, 0, none⟩) (sortB sLt sEq N).length c) (sortB sLt sEq N) := by rw [hu4]; exact H4.out q
   have H6 : Hid (SlAt RStr 1 16 (Fresh w) u4 (some ⟨g, 0, none⟩) (sortB sLt sEq N).length c (sortB sLt sEq N) /\ Thr u4 (some ⟨g, 0, none⟩) (sortB sLt sEq N).length /\ Below w.heap.size w u4) := by
    obtain ⟨a2, c2, e2, s2⟩ := H5.sl (bytes := 16) RStr.firm (by have h1 := zBE sLt sEq N; have h2 := hNl.out; exact Nat.le_trans (Nat.mul_le_mul_right 16 h1) h2)
    injection e2 with e3 e4 e5
    subst e3 e5
    exact ⟨s2.weak RStr.firm (fun b _ h => by rcases h with h | h; exact absurd h id; exact h), H5.thr, H5.below⟩
   clear H5 H4 hC hu4
   go_wp2_with fail
   go_ret
   exact ⟨_, _, rfl, H6.out.1, H6.out.2.1, H6.out.2.2⟩
 ·clear hcap
  go_enter Tryz.func80, Tryz.ntmps80
  go_wp2_with (at_builtin; first | (refine zB6 RStr.firm RStr.flat (w0 := w) rfl _ _ 31 9 rfl _ 16 zC5 Tryz.underlying31 rfl (by decide) (by decide) _ [] rfl (OutR.nil w 9 (some ad)) (some ad) n cap L rfl HN1.out HB1.out ?_; intro v1 u1 hr1; rw [List.nil_append] at hr1) | (go_must (refine zB6 RStr.firm RStr.flat (w0 := w) rfl _ _ 31 9 rfl _ 16 zC5 Tryz.underlying31 rfl (by decide) (by decide) _ L rfl hr1 a' n' cap' M rfl (HN2.out u1 hr1.below) HB2.out ?_); intro v2 u2 hr2))
  clear hr1 HN1 HN2 HB1 HB2
  rw [<- hN] at hr2
  clear hN
  by_cases hE : N = []
  ·subst hE
   obtain ⟨b, c, rfl, hbc⟩ := hr2.empty
   have hbel : Hid (Below w.heap.size w u2) := hr2.below
   have hbc2 : Hid (b = none -> c = 0) := hbc
   clear hr2 hbc
   refine (zDc b c u2).mono ?_
   rintro e w' ⟨rfl, rfl⟩
   go_wp2_with fail
   refine (Tryz.slices_Compact_string_empty b c w').mono ?_
   rintro e w2 ⟨rfl, rfl⟩
   go_wp2_with fail
   go_ret
   exact ⟨b, c, rfl, SlAt.nil _ _ _ _ hbc2.out, fun B off _ j hj => absurd hj (Nat.not_lt_zero j), hbel.out⟩
  ·have hrow : Row RStr 1 (fun _ => False) w u2 9 v2 N := by
    rcases hr2 with ⟨h0, _⟩ | h
    ·exact absurd h0 hE
    ·exact h
   clear hr2
   obtain ⟨g, c, rfl, hg, hnc, hH, hrest⟩ := sortedS hE hrow
   clear hrow
   have hlen : N.length <= 140737488351232 := by have := hNl.out; omega
   have hS := SortS g 0 c (N.map ByteArray.toList) u2 hH hg (by rw [List.length_map]; omega)
   rw [List.length_map] at hS
   have hml : ((N.map ByteArray.toList).mergeSort fun x y => decide (x <= y)).length = N.length := by rw [List.length_mergeSort, List.length_map]
   have hcl : (Lib.compact ((N.map ByteArray.toList).mergeSort fun x y => decide (x <= y))).length = (sortB sLt sEq N).length := by rw [sortS, List.length_map]
   clear hH
   have HR0 : Hid (∀ n os, Holds encStr (grow (putRow encStr (Sort.ahead u2 n) g 0 ((N.map ByteArray.toList).mergeSort fun x y => decide (x <= y)).toArray) os) g 0 ((N.map ByteArray.toList).mergeSort fun x y => decide (x <= y)).toArray /\ ∀ q, Row RStr 1 (fun _ => False) w (putRow encStr (Sort.ahead (grow (putRow encStr (Sort.ahead u2 n) g 0 ((N.map ByteArray.toList).mergeSort fun x y => decide (x <= y)).toArray) os) q) g 0 (Lib.compact ((N.map ByteArray.toList).mergeSort fun x y => decide (x <= y)) ++ List.replicate (((N.map ByteArray.toList).mergeSort fun x y => decide (x <= y)).length - (Lib.compact ((N.map ByteArray.toList).mergeSort fun x y => decide (x <= y))).length) []).toArray) 9 (.slice (some ⟨g, 0, none⟩) (sortB sLt sEq N).length c) (sortB sLt sEq N)) := hrest
   clear hrest
   have HM : Hid (((N.map ByteArray.toList).mergeSort fun x y => decide (x <= y)).length = N.length) := hml
   have HC : Hid ((Lib.compact ((N.map ByteArray.toList).mergeSort fun x y => decide (x <= y))).length = (sortB sLt sEq N).length) := hcl
   clear hml hcl
   refine hS.mono ?_
   rintro e u3 ⟨rfl, k, os, hu3⟩
   have HU : Hid (u3 = grow (putRow encStr (Sort.ahead u2 k) g 0 ((N.map ByteArray.toList).mergeSort fun x y => decide (x <= y)).toArray) os) := hu3
   clear hS hu3
   go_wp2_with fail
   have hu3 := HU.out
   obtain ⟨H2, H3⟩ := HR0.out k os
   rw [<- hu3] at H2 H3
   clear HR0 hu3 HU
   have hC := Tryz.slices_Compact_string g 0 c ((N.map ByteArray.toList).mergeSort fun x y => decide (x <= y)) u3 H2 (by rw [HM.out]; omega) (by rw [HM.out]; omega)
   rw [HM.out] at hC
   have H4 : Hid (∀ q, Row RStr 1 (fun _ => False) w (putRow encStr (Sort.ahead u3 q) g 0 (Lib.compact ((N.map ByteArray.toList).mergeSort fun x y => decide (x <= y)) ++ List.replicate (N.length - (Lib.compact ((N.map ByteArray.toList).mergeSort fun x y => decide (x <= y))).length) []).toArray) 9 (.slice (some ⟨g, 0, none⟩) (sortB sLt sEq N).length c) (sortB sLt sEq N)) := fun q => by have := H3 q; rw [HM.out] at this; exact this
   clear H2 H3
   refine hC.mono ?_
   rintro e u4 ⟨he, q, hu4⟩
   rw [HC.out] at he
   subst he
   have H5 : Row RStr 1 (fun _ => False) w u4 9 (.slice (some ⟨g, 0, none⟩) (sortB sLt sEq N).length c) (sortB sLt sEq N) := by rw [hu4]; exact H4.out q
   have H6 : Hid (SlAt RStr 1 16 (Fresh w) u4 (some ⟨g, 0, none⟩) (sortB sLt sEq N).length c (sortB sLt sEq N) /\ Thr u4 (some ⟨g, 0, none⟩) (sortB sLt sEq N).length /\ Below w.heap.size w u4) := by
    obtain ⟨a2, c2, e2, s2⟩ := H5.sl (bytes := 16) RStr.firm (by have h1 := zBE sLt sEq N; have h2 := hNl.out; exact Nat.le_trans (Nat.mul_le_mul_right 16 h1) h2)
    injection e2 with e3 e4 e5
    subst e3 e5
    exact ⟨s2.weak RStr.firm (fun b _ h => by rcases h with h | h; exact absurd h id; exact h), H5.thr, H5.below⟩
   clear H5 H4 hC hu4
   go_wp2_with fail
   go_ret
   exact ⟨_, _, rfl, H6.out.1, H6.out.2.1, H6.out.2.2⟩
theorem joinedI0 (a : Option Addr) (n cap : Nat) (A : Where) (L : List Int) (a' : Option Addr) (n' cap' : Nat) (A' : Where) (M N : List Int) (hN : N = L ++ M) (w : World) (hL : Hid (SlAt RInt 1 8 A w a n cap L)) (hM : Hid (SlAt RInt 1 8 A' w a' n' cap' M)) (hF : Hid ((L.length + M.length) * 8 <= 140737488351232)) : Calls Tryz.prog 81 #[.slice a n cap, .slice a' n' cap'] w fun e w' => ∃ b c, e = .returned (.slice b (sortB iLt iEq N).length c) /\ SlAt RInt 1 8 (Fresh w) w' b (sortB iLt iEq N).length c (sortB iLt iEq N) /\ Thr w' b (sortB iLt iEq N).length /\ Below w.heap.size w w' := by
 have HN1 : Hid (Src RInt 1 A w a n L) := hL.out.src RInt.firm
 have HN2 : Hid (∀ u, Below w.heap.size w u -> Src RInt 1 A' u a' n' M) := fun u hb => (hM.out.on RInt.firm hb).src RInt.firm
 have HB1 : Hid ((([] : List Int).length + L.length) * 8 <= 140737488355328) := by have h1 := hF.out; rw [Hid]; simp only [List.length_nil]; omega
 have HB2 : Hid ((L.length + M.length) * 8 <= 140737488355328) := by have h1 := hF.out; rw [Hid]; omega
 have hNl : Hid (N.length * 8 <= 140737488351232) := by rw [Hid, hN, List.length_append]; exact hF.out
 have hcap : a = none -> cap = 0 := hL.out.2.2.1
 clear hL hM hF
 rcases a with _ | ad
 ·obtain rfl := hcap rfl
  clear hcap
  go_enter Tryz.func81, Tryz.ntmps81
  go_wp2_with (at_builtin; first | (refine zB6 RInt.firm RInt.flat (w0 := w) rfl _ _ 45 3 rfl _ 8 zCo Tryz.underlying45 rfl (by decide) (by decide) _ [] rfl (OutR.nil w 3 none) none n 0 L rfl HN1.out HB1.out ?_; intro v1 u1 hr1; rw [List.nil_append] at hr1) | (go_must (refine zB6 RInt.firm RInt.flat (w0 := w) rfl _ _ 45 3 rfl _ 8 zCo Tryz.underlying45 rfl (by decide) (by decide) _ L rfl hr1 a' n' cap' M rfl (HN2.out u1 hr1.below) HB2.out ?_); intro v2 u2 hr2))
  clear hr1 HN1 HN2 HB1 HB2
  rw [<- hN] at hr2
  clear hN
  by_cases hE : N = []
  ·subst hE
   obtain ⟨b, c, rfl, hbc⟩ := hr2.empty
   have hbel : Hid (Below w.heap.size w u2) := hr2.below
   have hbc2 : Hid (b = none -> c = 0) := hbc
   clear hr2 hbc
   refine (zDa b c u2).mono ?_
   rintro e w' ⟨rfl, rfl⟩
   go_wp2_with fail
   refine (Tryz.slices_Compact_int_empty b c w').mono ?_
   rintro e w2 ⟨rfl, rfl⟩
   go_wp2_with fail
   go_ret
   exact ⟨b, c, rfl, SlAt.nil _ _ _ _ hbc2.out, fun B off _ j hj => absurd hj (Nat.not_lt_zero j), hbel.out⟩
  ·have hrow : Row RInt 1 (fun _ => False) w u2 3 v2 N := by
    rcases hr2 with ⟨h0, _⟩ | h
    ·exact absurd h0 hE
    ·exact h
   clear hr2
   obtain ⟨g, c, rfl, hg, hnc, hH, hrest⟩ := sortedI hE hrow
   clear hrow
   have hlen : N.length <= 140737488351232 := by have := hNl.out; omega
   have hS := SortI g 0 c N u2 hH hg (by omega)
   have hml : (N.mergeSort fun x y => decide (x <= y)).length = N.length := by rw [List.length_mergeSort]
   have hcl : (Lib.compact (N.mergeSort fun x y => decide (x <= y))).length = (sortB iLt iEq N).length := by rw [sortI]
   clear hH
   have HR0 : Hid (∀ n os, Holds (Value.int .i64) (grow (putRow (Value.int .i64) (Sort.ahead u2 n) g 0 (N.mergeSort fun x y => decide (x <= y)).toArray) os) g 0 (N.mergeSort fun x y => decide (x <= y)).toArray /\ ∀ q, Row RInt 1 (fun _ => False) w (putRow (Value.int .i64) (Sort.ahead (grow (putRow (Value.int .i64) (Sort.ahead u2 n) g 0 (N.mergeSort fun x y => decide (x <= y)).toArray) os) q) g 0 (Lib.compact (N.mergeSort fun x y => decide (x <= y)) ++ List.replicate ((N.mergeSort fun x y => decide (x <= y)).length - (Lib.compact (N.mergeSort fun x y => decide (x <= y))).length) 0).toArray) 3 (.slice (some ⟨g, 0, none⟩) (sortB iLt iEq N).length c) (sortB iLt iEq N)) := hrest
   clear hrest
   have HM : Hid ((N.mergeSort fun x y => decide (x <= y)).length = N.length) := hml
   have HC : Hid ((Lib.compact (N.mergeSort fun x y => decide (x <= y))).length = (sortB iLt iEq N).length) := hcl
   clear hml hcl
   refine hS.mono ?_
   rintro e u3 ⟨rfl, k, os, hu3⟩
   have HU : Hid (u3 = grow (putRow (Value.int .i64) (Sort.ahead u2 k) g 0 (N.mergeSort fun x y => decide (x <= y)).toArray) os) := hu3
   clear hS hu3
   go_wp2_with fail
   have hu3 := HU.out
   obtain ⟨H2, H3⟩ := HR0.out k os
   rw [<- hu3] at H2 H3
   clear HR0 hu3 HU
   have hC := Tryz.slices_Compact_int g 0 c (N.mergeSort fun x y => decide (x <= y)) u3 H2 (by rw [HM.out]; omega) (by rw [HM.out]; omega)
   rw [HM.out] at hC
   have H4 : Hid (∀ q, Row RInt 1 (fun _ => False) w (putRow (Value.int .i64) (Sort.ahead u3 q) g 0 (Lib.compact (N.mergeSort fun x y => decide (x <= y)) ++ List.replicate (N.length - (Lib.compact (N.mergeSort fun x y => decide (x <= y))).length) 0).toArray) 3 (.slice (some ⟨g, 0, none⟩) (sortB iLt iEq N).length c) (sortB iLt iEq N)) := fun q => by have := H3 q; rw [HM.out] at this; exact this
   clear H2 H3
   refine hC.mono ?_
   rintro e u4 ⟨he, q, hu4⟩
   rw [HC.out] at he
   subst he
   have H5 : Row RInt 1 (fun _ => False) w u4 3 (.slice (some ⟨g, 0, none⟩) (sortB iLt iEq N).length c) (sortB iLt iEq N) := by rw [hu4]; exact H4.out q
   have H6 : Hid (SlAt RInt 1 8 (Fresh w) u4 (some ⟨g, 0, none⟩) (sortB iLt iEq N).length c (sortB iLt iEq N) /\ Thr u4 (some ⟨g, 0, none⟩) (sortB iLt iEq N).length /\ Below w.heap.size w u4) := by
    obtain ⟨a2, c2, e2, s2⟩ := H5.sl (bytes := 8) RInt.firm (by have h1 := zBE iLt iEq N; have h2 := hNl.out; exact Nat.le_trans (Nat.mul_le_mul_right 8 h1) h2)
    injection e2 with e3 e4 e5
    subst e3 e5
    exact ⟨s2.weak RInt.firm (fun b _ h => by rcases h with h | h; exact absurd h id; exact h), H5.thr, H5.below⟩
   clear H5 H4 hC hu4
   go_wp2_with fail
   go_ret
   exact ⟨_, _, rfl, H6.out.1, H6.out.2.1, H6.out.2.2⟩
 ·clear hcap
  go_enter Tryz.func81, Tryz.ntmps81
  go_wp2_with (at_builtin; first | (refine zB6 RInt.firm RInt.flat (w0 := w) rfl _ _ 45 3 rfl _ 8 zCo Tryz.underlying45 rfl (by decide) (by decide) _ [] rfl (OutR.nil w 3 (some ad)) (some ad) n cap L rfl HN1.out HB1.out ?_; intro v1 u1 hr1; rw [List.nil_append] at hr1) | (go_must (refine zB6 RInt.firm RInt.flat (w0 := w) rfl _ _ 45 3 rfl _ 8 zCo Tryz.underlying45 rfl (by decide) (by decide) _ L rfl hr1 a' n' cap' M rfl (HN2.out u1 hr1.below) HB2.out ?_); intro v2 u2 hr2))
  clear hr1 HN1 HN2 HB1 HB2
  rw [<- hN] at hr2
  clear hN
  by_cases hE : N = []
  ·subst hE
   obtain ⟨b, c, rfl, hbc⟩ := hr2.empty
   have hbel : Hid (Below w.heap.size w u2) := hr2.below
   have hbc2 : Hid (b = none -> c = 0) := hbc
   clear hr2 hbc
   refine (zDa b c u2).mono ?_
   rintro e w' ⟨rfl, rfl⟩
   go_wp2_with fail
   refine (Tryz.slices_Compact_int_empty b c w').mono ?_
   rintro e w2 ⟨rfl, rfl⟩
   go_wp2_with fail
   go_ret
   exact ⟨b, c, rfl, SlAt.nil _ _ _ _ hbc2.out, fun B off _ j hj => absurd hj (Nat.not_lt_zero j), hbel.out⟩
  ·have hrow : Row RInt 1 (fun _ => False) w u2 3 v2 N := by
    rcases hr2 with ⟨h0, _⟩ | h
    ·exact absurd h0 hE
    ·exact h
   clear hr2
   obtain ⟨g, c, rfl, hg, hnc, hH, hrest⟩ := sortedI hE hrow
   clear hrow
   have hlen : N.length <= 140737488351232 := by have := hNl.out; omega
   have hS := SortI g 0 c N u2 hH hg (by omega)
   have hml : (N.mergeSort fun x y => decide (x <= y)).length = N.length := by rw [List.length_mergeSort]
   have hcl : (Lib.compact (N.mergeSort fun x y => decide (x <= y))).length = (sortB iLt iEq N).length := by rw [sortI]
   clear hH
   have HR0 : Hid (∀ n os, Holds (Value.int .i64) (grow (putRow (Value.int .i64) (Sort.ahead u2 n) g 0 (N.mergeSort fun x y => decide (x <= y)).toArray) os) g 0 (N.mergeSort fun x y => decide (x <= y)).toArray /\ ∀ q, Row RInt 1 (fun _ => False) w (putRow (Value.int .i64) (Sort.ahead (grow (putRow (Value.int .i64) (Sort.ahead u2 n) g 0 (N.mergeSort fun x y => decide (x <= y)).toArray) os) q) g 0 (Lib.compact (N.mergeSort fun x y => decide (x <= y)) ++ List.replicate ((N.mergeSort fun x y => decide (x <= y)).length - (Lib.compact (N.mergeSort fun x y => decide (x <= y))).length) 0).toArray) 3 (.slice (some ⟨g, 0, none⟩) (sortB iLt iEq N).length c) (sortB iLt iEq N)) := hrest
   clear hrest
   have HM : Hid ((N.mergeSort fun x y => decide (x <= y)).length = N.length) := hml
   have HC : Hid ((Lib.compact (N.mergeSort fun x y => decide (x <= y))).length = (sortB iLt iEq N).length) := hcl
   clear hml hcl
   refine hS.mono ?_
   rintro e u3 ⟨rfl, k, os, hu3⟩
   have HU : Hid (u3 = grow (putRow (Value.int .i64) (Sort.ahead u2 k) g 0 (N.mergeSort fun x y => decide (x <= y)).toArray) os) := hu3
   clear hS hu3
   go_wp2_with fail
   have hu3 := HU.out
   obtain ⟨H2, H3⟩ := HR0.out k os
   rw [<- hu3] at H2 H3
   clear HR0 hu3 HU
   have hC := Tryz.slices_Compact_int g 0 c (N.mergeSort fun x y => decide (x <= y)) u3 H2 (by rw [HM.out]; omega) (by rw [HM.out]; omega)
   rw [HM.out] at hC
   have H4 : Hid (∀ q, Row RInt 1 (fun _ => False) w (putRow (Value.int .i64) (Sort.ahead u3 q) g 0 (Lib.compact (N.mergeSort fun x y => decide (x <= y)) ++ List.replicate (N.length - (Lib.compact (N.mergeSort fun x y => decide (x <= y))).length) 0).toArray) 3 (.slice (some ⟨g, 0, none⟩) (sortB iLt iEq N).length c) (sortB iLt iEq N)) := fun q => by have := H3 q; rw [HM.out] at this; exact this
   clear H2 H3
   refine hC.mono ?_
   rintro e u4 ⟨he, q, hu4⟩
   rw [HC.out] at he
   subst he
   have H5 : Row RInt 1 (fun _ => False) w u4 3 (.slice (some ⟨g, 0, none⟩) (sortB iLt iEq N).length c) (sortB iLt iEq N) := by rw [hu4]; exact H4.out q
   have H6 : Hid (SlAt RInt 1 8 (Fresh w) u4 (some ⟨g, 0, none⟩) (sortB iLt iEq N).length c (sortB iLt iEq N) /\ Thr u4 (some ⟨g, 0, none⟩) (sortB iLt iEq N).length /\ Below w.heap.size w u4) := by
    obtain ⟨a2, c2, e2, s2⟩ := H5.sl (bytes := 8) RInt.firm (by have h1 := zBE iLt iEq N; have h2 := hNl.out; exact Nat.le_trans (Nat.mul_le_mul_right 8 h1) h2)
    injection e2 with e3 e4 e5
    subst e3 e5
    exact ⟨s2.weak RInt.firm (fun b _ h => by rcases h with h | h; exact absurd h id; exact h), H5.thr, H5.below⟩
   clear H5 H4 hC hu4
   go_wp2_with fail
   go_ret
   exact ⟨_, _, rfl, H6.out.1, H6.out.2.1, H6.out.2.2⟩
theorem zGU (a : Option Addr) (n cap : Nat) (A : Where) (L : List ByteArray) (w : World) (hL : Hid (SlAt RStr 1 16 A w a n cap L)) : Calls Tryz.prog 80 #[.slice a n cap, .slice none 0 0] w fun e w' => ∃ b c, e = .returned (.slice b (sortB sLt sEq L).length c) /\ SlAt RStr 1 16 (Fresh w) w' b (sortB sLt sEq L).length c (sortB sLt sEq L) /\ Thr w' b (sortB sLt sEq L).length /\ Below w.heap.size w w' :=
 joinedS0 a n cap A L none 0 0 A [] L (by simp) w hL (SlAt.nil _ _ _ _ (fun _ => rfl)) (by have h1 := hL.out.1; have h2 := hL.out.2.2.2.1; rw [Hid, h1]; simpa using h2)
theorem joinedI1 (a : Option Addr) (n cap : Nat) (A : Where) (L : List Int) (w : World) (hL : Hid (SlAt RInt 1 8 A w a n cap L)) : Calls Tryz.prog 81 #[.slice a n cap, .slice none 0 0] w fun e w' => ∃ b c, e = .returned (.slice b (sortB iLt iEq L).length c) /\ SlAt RInt 1 8 (Fresh w) w' b (sortB iLt iEq L).length c (sortB iLt iEq L) /\ Thr w' b (sortB iLt iEq L).length /\ Below w.heap.size w w' :=
 joinedI0 a n cap A L none 0 0 A [] L (by simp) w hL (SlAt.nil _ _ _ _ (fun _ => rfl)) (by have h1 := hL.out.1; have h2 := hL.out.2.2.2.1; rw [Hid, h1]; simpa using h2)
end Go.Proofs.YtnffafjamiffnaaGreat
namespace Go.Proofs.YtnffafjamiffnaaGreat
open Go.RowKit
def nameN (F : List NodeD) : List ByteArray := F.map (·.1)
def fstStepN (F : List NodeD) (p : NodeD) : List NodeD := if hasB sEq (nameN F) p.1 = true then F else F ++ [p]
def firstsN (L : List NodeD) : List NodeD := L.foldl fstStepN []
theorem zBG (L : List NodeD) {k : Nat} (hk : k < L.length) : firstsN (L.take (k + 1)) = fstStepN (firstsN (L.take k)) (L.getD k default) := by
 rw [<- zAo hk]; simp [firstsN]
theorem fst_lenN (F : List NodeD) (p : NodeD) : (fstStepN F p).length <= F.length + 1 := by unfold fstStepN; split <;> simp
theorem zBh (L : List NodeD) : ∀ k, k <= L.length -> (firstsN (L.take k)).length <= k := by
 intro k
 induction k with
 | zero => intro _; simp [firstsN]
 | succ k ih =>
  intro hk
  rw [zBG L (by omega)]
  have := fst_lenN (firstsN (L.take k)) (L.getD k default)
  have := ih (by omega)
  omega
theorem zDo : (Tryz.prog.info? 54).map (fun i => (i.zero, i.size, i.bytes)) = some (some (.agg #[.string ⟨#[]⟩, .slice none 0 0, .slice none 0 0, .bool false, .int .i64 0, .int .i64 0, .int .i64 0, .int .i64 0, .int .i64 0]), 9, 112) := by kernel_rfl
theorem zBN : (Tryz.prog.info? 54).map (·.size) = some 9 := by kernel_rfl
theorem RNode.lit0 {A : Where} {w : World} {cs : List Value} {q : NodeD} (h : RNode A w cs q) : q.1.size <= 140737488355328 /\ ∃ v1 v2 v3 v4 v5 v6 v7 v8 : Value, cs = [.string q.1, v1, v2, v3, v4, v5, v6, v7, v8] := by
 obtain ⟨_, _, rfl, hp, _⟩ := h.out
 exact ⟨hp, _, _, _, _, _, _, _, _, rfl⟩
structure FirStN (A : Where) (w u : World) (mb n : Nat) (v : Value) (F : List NodeD) : Prop where
 set : SetAt u mb n (fun s => hasB sEq (nameN F) s)
 row : Row RNode 9 (fun b => A b /\ b < w.heap.size) w u 54 v F
theorem FirStN.on {A : Where} {w u u' : World} {mb n : Nat} {v : Value} {F : List NodeD} (h : FirStN A w u mb n v F) (hb : Below u.heap.size u u') : FirStN A w u' mb n v F := ⟨h.set.on hb, h.row.on RNode.firm hb⟩
end Go.Proofs.YtnffafjamiffnaaGreat
