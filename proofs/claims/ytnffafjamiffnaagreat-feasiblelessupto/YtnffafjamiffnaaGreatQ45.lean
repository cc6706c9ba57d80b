/- Functions of the program, each walked under the conditions that its theorem names. -/
import Derived.Test.YtnffafjamiffnaaGreatQ43
set_option linter.unusedSimpArgs false
set_option maxRecDepth 100000
set_option maxHeartbeats 32000000
namespace Go.Proofs.YtnffafjamiffnaaGreat
open Go.RowKit Go.Maps
def AkOut (n : Nat) (why : Nat -> Int) (pk : Nat -> List PickD) (w : World) (e : Ending) (w' : World) : Prop :=
 (∃ k, k < n /\ (∀ j, j < k -> why j = 0) /\ why k ≠ 0 /\ e = .returned (.tuple #[.int .i64 (why k), .slice none 0 0]) /\ Below w.heap.size w w') \/
 ((∀ j, j < n -> why j = 0) /\ ∃ a m c, e = .returned (.tuple #[.int .i64 0, .slice a m c]) /\ SlAt RLabel 2 32 (fun _ => True) w' a m c ((List.range n).flatMap pk) /\ Below w.heap.size w w')
theorem infoPk12 : (Tryz.prog.info? 127).map (fun i => (i.zero, i.size, i.bytes)) = some (some (.agg #[.string ⟨#[]⟩, .string ⟨#[]⟩]), 2, 32) := by kernel_rfl
theorem zHS {A A' : Where} {u : World} {a : Option Addr} {m c : Nat} {N : List PickD} (h : SlAt RLabel 2 32 A u a m c N) : Src RLabel 2 A' u a m N := by
 obtain ⟨hm, hN⟩ := h.src RLabel.firm
 refine ⟨hm, hN.imp id ?_⟩
 rintro ⟨ad, news, rfl, hc, hx, h1⟩
 exact ⟨ad, news, rfl, ⟨hc.1, fun i hi => by obtain ⟨cs, hr, hv⟩ := hc.2 i hi; exact ⟨cs, hr, hv⟩⟩, hx, h1⟩
theorem zCL (pk : Nat -> List PickD) (k : Nat) : (List.range (k + 1)).flatMap pk = (List.range k).flatMap pk ++ pk k := by rw [List.range_succ, List.flatMap_append]; simp
theorem zBK (pk : Nat -> List PickD) : ∀ {k n : Nat}, k <= n -> ((List.range k).flatMap pk).length <= ((List.range n).flatMap pk).length
 | k, 0, h => by
  obtain rfl : k = 0 := by omega
  exact Nat.le_refl _
 | k, n + 1, h => by
  by_cases e : k = n + 1
  ·subst e; exact Nat.le_refl _
  ·rw [zCL, List.length_append]; have := zBK pk (k := k) (n := n) (by omega); omega
theorem ask_calls (iv : Value) (Bq : Nat) (n c : Nat) (g : Nat -> Nat) (lb : Nat -> Array Value) (is : List Value) (i : InfoD) (why : Nat -> Int) (pk : Nat -> List PickD) (w : World) (hi : RInfo (fun _ => True) w is i)
  (hq : Hid (∀ u, Below w.heap.size w u -> ∀ k, k < n -> u.cell? ⟨Bq, k, none⟩ = some (.func (.func (g k)) #[] (lb k)) /\ Bq < u.heap.size))
  (hen : Hid (∀ k, k < n -> ∀ args w, (callFunc (g k) args).run Tryz.prog w = .ok (.enter (g k) args) w))
  (hC : Hid (∀ u, Below w.heap.size w u -> ∀ k, k < n -> Calls Tryz.prog (g k) (#[.agg is.toArray] ++ lb k) u (QOut (why k) (pk k) u)))
  (hb : ((List.range n).flatMap pk).length * 32 <= 140737488351232) (hnb : n <= 1000000) :
  Calls Tryz.prog 59 #[.agg #[iv, .slice (some ⟨Bq, 0, none⟩) n c], .agg is.toArray] w (AkOut n why pk w) := by
 have hi15 : (Tryz.prog.info? 63).map (·.size) = some is.length := by rw [RInfo.firm.len hi]; exact zBT
 obtain ⟨W1, hW1⟩ : ∃ W, W = w.alloc (.cells #[iv, .slice (some ⟨Bq, 0, none⟩) n c] 123) := ⟨_, rfl⟩
 obtain ⟨W2, hW2⟩ : ∃ W, W = W1.alloc (.cells is.toArray 63) := ⟨_, rfl⟩
 have B1 : Below w.heap.size w W1 := by rw [hW1]; exact (Below.refl _ _).alloc (Nat.le_refl _) _
 have B2 : Below W1.heap.size W1 W2 := by rw [hW2]; exact (Below.refl _ _).alloc (Nat.le_refl _) _
 have z1 : W1.heap.size = w.heap.size + 1 := by rw [hW1]; simp
 have q1 : BoxL W2 w.heap.size [iv, .slice (some ⟨Bq, 0, none⟩) n c] := by refine BoxL.on ?_ B2; rw [hW1]; exact BoxL.new w 123 _
 have q2 : BoxL W2 (w.heap.size + 1) is := by rw [<- z1, hW2]; exact BoxL.new W1 63 is
 have y1 := (q1.2 1 _ rfl).1
 have l1 := q1.1
 have HB2 : Hid (Below w.heap.size w W2) := on2 B1 B2
 have HR : Hid (∀ u, Below W2.heap.size W2 u -> u.rangeAt (w.heap.size + 1) 0 is /\ w.heap.size + 1 < u.heap.size) := fun u hu => ⟨(q2.on hu).range, (q2.on hu).1⟩
 have H0 : Hid (Row RLabel 2 (fun _ => True) W2 W2 127 (.slice none 0 0) ((List.range 0).flatMap pk)) := Row.nil _ _ _
 clear hi B1 B2 z1 q1 q2
 go_enter Tryz.func59, Tryz.ntmps59
 go_upto_region 1 with fail
 rw [<- hW1, <- hW2]
 clear hW1 hW2
 go_wp2_with fail
 go_loopw [6, 14] (fun o j wr => ∃ k : Nat, k <= n /\ j = .int .i64 k /\ Hid (Row RLabel 2 (fun _ => True) W2 wr 127 o ((List.range k).flatMap pk) /\ ∀ j, j < k -> why j = 0)) (fun _ j _ => n - (intOf j).toNat)
 case atStart => exact ⟨0, Nat.zero_le _, rfl, H0, fun j h => by omega⟩
 case round =>
  obtain ⟨k, hk, rfl, hst⟩ := hrel
  have hbr : Below W2.heap.size W2 wr := hst.out.1.below
  by_cases hlt : k < n
  ·have hltz : (k : Int) < (n : Int) := by omega
   have hb9 := on2 HB2.out hbr
   obtain ⟨cq, lq⟩ := hq.out wr hb9 k hlt
   have hek := hen.out k hlt
   have hCk := hC.out wr hb9 k hlt
   obtain ⟨hr, lr⟩ := HR.out wr hbr
   have HRr : Hid (wr.rangeAt (w.heap.size + 1) 0 is) := hr
   have HT : Hid ((List.range (k + 1)).flatMap pk = (List.range k).flatMap pk ++ pk k) := zCL pk k
   have HLe : Hid (((List.range (k + 1)).flatMap pk).length <= ((List.range n).flatMap pk).length) := zBK pk (by omega)
   have HY : Hid (∀ u, Below wr.heap.size wr u -> Below w.heap.size w u) := fun u hu => on2 hb9 hu
   generalize g k = gk at cq hek hCk
   generalize lb k = lk at cq hCk
   generalize hwk : why k = wk at hCk
   have HWk : Hid (why k = wk) := hwk
   clear hwk hr
   go_wp2_with (first | (refine wpList_load_mid rfl 63 _ rfl (w.heap.size + 1) 0 rfl is _ HRr.out Tryz.underlying63 rfl hi15 ?_) | fail)
   refine hCk.mono ?_
   rintro e z1 ⟨pa, pn, pc, rfl, sp, d1⟩
   clear hCk cq hek HRr
   by_cases hz : wk = 0
   ·subst hz
    have b1 : Below wr.heap.size wr z1 := d1
    have hrow1 : Row RLabel 2 (fun _ => True) W2 z1 127 u6 ((List.range k).flatMap pk) := hst.out.1.on RLabel.firm b1
    have HZ : Hid (∀ j, j < k + 1 -> why j = 0) := fun j hj => by
     by_cases e : j = k
     ·subst e; exact HWk.out
     ·exact hst.out.2 j (by omega)
    have HSr : Hid (Src RLabel 2 (fun b => (fun _ => True) b /\ u6.ownBlock ≠ some b) z1 pa pn (pk k)) := zHS sp
    have HRw : Hid (Row RLabel 2 (fun _ => True) W2 z1 127 u6 ((List.range k).flatMap pk)) := hrow1
    have HOb : Hid ((((List.range k).flatMap pk).length + (pk k).length) * 32 <= 140737488355328) := by have h1 := HLe.out; rw [HT.out, List.length_append] at h1; rw [Hid]; omega
    clear hst hrow1 sp d1 b1 HWk HLe
    generalize (List.range k).flatMap pk = G at HRw HOb HT
    go_wp2_with (at_builtin; go_must (refine zAL RLabel.firm (A := (fun _ => True)) (w0 := W2) rfl _ _ 30 127 rfl _ 32 infoPk12 Tryz.underlying30 rfl (by decide) (by decide) u6 G rfl HRw.out pa pn pc (pk k) rfl HSr.out HOb.out ?_); intro v7 y7 hr7 hg7 hw7)
    have HN : Hid (Row RLabel 2 (fun _ => True) W2 y7 127 v7 ((List.range (k + 1)).flatMap pk) /\ ∀ j, j < k + 1 -> why j = 0) := ⟨by rw [HT.out]; exact hr7, HZ.out⟩
    clear hr7 hg7 hw7 HT HSr HRw HOb HZ
    go_roundw
    case rel => exact ⟨k + 1, by omega, by go_num, HN⟩
    case measure => simp [intOf]; omega
   ·have HE : Hid (k < n /\ (∀ j, j < k -> why j = 0) /\ why k = wk /\ wk ≠ 0 /\ Below w.heap.size w z1) := ⟨hlt, hst.out.2, HWk.out, hz, HY.out z1 d1⟩
    clear hst sp d1 HT HLe HWk
    go_wp2_with fail
    go_ret2
    exact .inl ⟨k, HE.out.1, HE.out.2.1, by rw [HE.out.2.2.1]; exact HE.out.2.2.2.1, by rw [HE.out.2.2.1]; rfl, HE.out.2.2.2.2⟩
  ·obtain rfl : n = k := by omega
   obtain ⟨oa, oc, rfl, so⟩ := hst.out.1.sl (bytes := 32) RLabel.firm hb
   have HE : Hid ((∀ j, j < n -> why j = 0) /\ SlAt RLabel 2 32 (fun _ => True) wr oa ((List.range n).flatMap pk).length oc ((List.range n).flatMap pk) /\ Below w.heap.size w wr) := ⟨hst.out.2, so.weak RLabel.firm (fun _ _ _ => trivial), on2 HB2.out hbr⟩
   clear hst so hbr
   obtain ⟨ol, hol⟩ : ∃ l, ((List.range n).flatMap pk).length = l := ⟨_, rfl⟩
   rw [hol] at HE hb |-
   clear hol
   go_wp2_with fail
   go_ret2
   exact .inr ⟨HE.out.1, oa, ol, oc, rfl, HE.out.2.1, HE.out.2.2⟩
def QsAt (A : Where) (ss : List Value) (x : StateD) (ps : List Value) (Bs Bp Bl Bq : Nat) (b : Option Addr) (m c : Nat) (w' : World) : Prop :=
 BoxL w' Bs ss /\ BoxL w' Bp ps /\ BoxL w' Bl [.slice b m c] /\ SlAt RPlaced 17 320 A w' b m c (placedP x) /\ BoxL w' Bq [.func (.func 104) #[] #[.pointer (some ⟨Bp, 0, none⟩)], .func (.func 106) #[] #[.pointer (some ⟨Bp, 0, none⟩), .pointer (some ⟨Bl, 0, none⟩)], .func (.func 108) #[] #[.pointer (some ⟨Bp, 0, none⟩), .pointer (some ⟨Bs, 0, none⟩), .pointer (some ⟨Bl, 0, none⟩)], .func (.func 110) #[] #[.pointer (some ⟨Bp, 0, none⟩), .pointer (some ⟨Bs, 0, none⟩)]]
def QsOut (D : Where) (ss : List Value) (x : StateD) (ps : List Value) (w : World) (e : Ending) (w' : World) : Prop :=
 ∃ Bs Bp Bl Bq b m c, e = .returned (.slice (some ⟨Bq, 0, none⟩) 4 4) /\ QsAt (OrF D w) ss x ps Bs Bp Bl Bq b m c w' /\ (w.heap.size <= Bs /\ w.heap.size <= Bp /\ w.heap.size <= Bl /\ w.heap.size <= Bq) /\ Below w.heap.size w w'
theorem QsAt.on {A : Where} {ss : List Value} {x : StateD} {ps : List Value} {Bs Bp Bl Bq : Nat} {b : Option Addr} {m c : Nat} {w w' : World} (h : QsAt A ss x ps Bs Bp Bl Bq b m c w) (hb : Below w.heap.size w w') : QsAt A ss x ps Bs Bp Bl Bq b m c w' := ⟨h.1.on hb, h.2.1.on hb, h.2.2.1.on hb, h.2.2.2.1.on RPlaced.firm hb, h.2.2.2.2.on hb⟩
theorem QsAt.kept {A : Where} {ss : List Value} {x : StateD} {ps : List Value} {Bs Bp Bl Bq : Nat} {b : Option Addr} {m c : Nat} {w w' : World} (h : QsAt A ss x ps Bs Bp Bl Bq b m c w) (hk : Kept A w w') (h1 : A Bs) (h2 : A Bp) (h3 : A Bl) (h4 : A Bq) : QsAt A ss x ps Bs Bp Bl Bq b m c w' := ⟨h.1.kept hk h1, h.2.1.kept hk h2, h.2.2.1.kept hk h3, h.2.2.2.1.kept RPlaced.firm hk, h.2.2.2.2.kept hk h4⟩
theorem QsAt.weak {A A' : Where} {ss : List Value} {x : StateD} {ps : List Value} {Bs Bp Bl Bq : Nat} {b : Option Addr} {m c : Nat} {w : World} (h : QsAt A ss x ps Bs Bp Bl Bq b m c w) (hk : ∀ b, b < w.heap.size -> A b -> A' b) : QsAt A' ss x ps Bs Bp Bl Bq b m c w := ⟨h.1, h.2.1, h.2.2.1, h.2.2.2.1.weak RPlaced.firm hk, h.2.2.2.2⟩
theorem zDA (D : Where) (ss : List Value) (x : StateD) (ps : List Value) (w : World) (hs : RState D w ss x) (hnd : (x.2.1.map Prod.fst).Nodup) (hb : x.1.length * 320 <= 140737488351232) :
  Calls Tryz.prog 83 #[.agg ss.toArray, .agg ps.toArray] w (QsOut D ss x ps w) := by
 have hi6 : (Tryz.prog.info? 29).map (·.size) = some ss.length := by rw [RState.firm.len hs]; exact zAS
 obtain ⟨W1, hW1⟩ : ∃ W, W = w.alloc (.cells ss.toArray 29) := ⟨_, rfl⟩
 obtain ⟨W2, hW2⟩ : ∃ W, W = W1.alloc (.cells ps.toArray 49) := ⟨_, rfl⟩
 have B1 : Below w.heap.size w W1 := by rw [hW1]; exact (Below.refl _ _).alloc (Nat.le_refl _) _
 have B2 : Below W1.heap.size W1 W2 := by rw [hW2]; exact (Below.refl _ _).alloc (Nat.le_refl _) _
 have z1 : W1.heap.size = w.heap.size + 1 := by rw [hW1]; simp
 have q1 : BoxL W2 w.heap.size ss := by refine BoxL.on ?_ B2; rw [hW1]; exact BoxL.new w 29 ss
 have q2 : BoxL W2 (w.heap.size + 1) ps := by rw [<- z1, hW2]; exact BoxL.new W1 49 ps
 have HR : Hid (W2.rangeAt w.heap.size 0 ss) := q1.range
 have l1 := q1.1
 have HQ : Hid (BoxL W2 w.heap.size ss /\ BoxL W2 (w.heap.size + 1) ps /\ Below w.heap.size w W2) := ⟨q1, q2, on2 B1 B2⟩
 have hC := zDQ ss x W2 D (RState.firm.kept hs (Kept.below (on2 B1 B2))) hnd hb
 have hpl := zHM x
 have hb' : (placedP x).length * 320 <= 140737488351232 := by omega
 clear hs B1 B2 z1 q1 q2
 go_enter Tryz.func83, Tryz.ntmps83
 go_upto_region 1 with fail
 rw [<- hW1, <- hW2]
 clear hW1 hW2
 go_wp2_with (first | (refine wpList_load_mid rfl 29 _ rfl w.heap.size 0 rfl ss _ HR.out Tryz.underlying29 rfl hi6 ?_) | fail)
 refine hC.mono ?_
 rintro e u1 ⟨v, rfl, hr⟩
 clear hC HR
 have d1 : Below W2.heap.size W2 u1 := hr.below
 obtain ⟨b, c, rfl, sp⟩ := hr.sl (bytes := 320) RPlaced.firm hb'
 obtain ⟨z1, hz1⟩ : ∃ z, z = u1.alloc (.cells #[.slice b (placedP x).length c] 188) := ⟨_, rfl⟩
 obtain ⟨z2, hz2⟩ : ∃ z, z = z1.alloc (.cells #[.func (.func 104) #[] #[.pointer (some ⟨(w.heap.size + 1), 0, none⟩)], .func (.func 106) #[] #[.pointer (some ⟨(w.heap.size + 1), 0, none⟩), .pointer (some ⟨u1.heap.size, 0, none⟩)], .func (.func 108) #[] #[.pointer (some ⟨(w.heap.size + 1), 0, none⟩), .pointer (some ⟨w.heap.size, 0, none⟩), .pointer (some ⟨u1.heap.size, 0, none⟩)], .func (.func 110) #[] #[.pointer (some ⟨(w.heap.size + 1), 0, none⟩), .pointer (some ⟨w.heap.size, 0, none⟩)]] 164) := ⟨_, rfl⟩
 have d2 : Below u1.heap.size u1 z1 := by rw [hz1]; exact (Below.refl _ _).alloc (Nat.le_refl _) _
 have d3 : Below z1.heap.size z1 z2 := by rw [hz2]; exact (Below.refl _ _).alloc (Nat.le_refl _) _
 have e1 : z1.heap.size = u1.heap.size + 1 := by rw [hz1]; simp
 have ql : BoxL z1 u1.heap.size [.slice b (placedP x).length c] := by rw [hz1]; exact BoxL.new u1 188 _
 have qq : BoxL z2 z1.heap.size [.func (.func 104) #[] #[.pointer (some ⟨(w.heap.size + 1), 0, none⟩)], .func (.func 106) #[] #[.pointer (some ⟨(w.heap.size + 1), 0, none⟩), .pointer (some ⟨u1.heap.size, 0, none⟩)], .func (.func 108) #[] #[.pointer (some ⟨(w.heap.size + 1), 0, none⟩), .pointer (some ⟨w.heap.size, 0, none⟩), .pointer (some ⟨u1.heap.size, 0, none⟩)], .func (.func 110) #[] #[.pointer (some ⟨(w.heap.size + 1), 0, none⟩), .pointer (some ⟨w.heap.size, 0, none⟩)]] := by rw [hz2]; exact BoxL.new z1 164 _
 have hsW : w.heap.size <= W2.heap.size := HQ.out.2.2.size
 have hsU : w.heap.size <= u1.heap.size := Nat.le_trans hsW d1.size
 have HE : Hid (QsAt (OrF D w) ss x ps w.heap.size (w.heap.size + 1) u1.heap.size (u1.heap.size + 1) b (placedP x).length c z2 /\ (w.heap.size <= w.heap.size /\ w.heap.size <= w.heap.size + 1 /\ w.heap.size <= u1.heap.size /\ w.heap.size <= u1.heap.size + 1) /\ Below w.heap.size w z2) := ⟨⟨HQ.out.1.on (on2 d1 (on2 d2 d3)), HQ.out.2.1.on (on2 d1 (on2 d2 d3)), ql.on d3, (sp.weak RPlaced.firm (fun b _ ha => by
  rcases ha with ha | ha
  ·exact .inl ha.1
  ·exact .inr (Nat.le_trans hsW ha))).on RPlaced.firm (on2 d2 d3), e1 ▸ qq⟩, ⟨Nat.le_refl _, Nat.le_succ _, hsU, Nat.le_succ_of_le hsU⟩, on2 HQ.out.2.2 (on2 d1 (on2 d2 d3))⟩
 clear hsW hsU
 have HZ : Hid (z2 = (u1.alloc (.cells #[.slice b (placedP x).length c] 188)).alloc (.cells #[.func (.func 104) #[] #[.pointer (some ⟨(w.heap.size + 1), 0, none⟩)], .func (.func 106) #[] #[.pointer (some ⟨(w.heap.size + 1), 0, none⟩), .pointer (some ⟨u1.heap.size, 0, none⟩)], .func (.func 108) #[] #[.pointer (some ⟨(w.heap.size + 1), 0, none⟩), .pointer (some ⟨w.heap.size, 0, none⟩), .pointer (some ⟨u1.heap.size, 0, none⟩)], .func (.func 110) #[] #[.pointer (some ⟨(w.heap.size + 1), 0, none⟩), .pointer (some ⟨w.heap.size, 0, none⟩)]] 164)) := by rw [Hid, hz2, hz1]
 clear hr sp d1 d2 d3 ql qq hz1 hz2 e1 hpl hb' hb
 generalize (placedP x).length = pl at HE HZ |-
 go_wp2_with fail
 go_ret
 rw [<- HZ.out]
 exact ⟨_, _, _, _, _, _, _, by simp, HE.out.1, HE.out.2.1, HE.out.2.2⟩
theorem zHd {L : List ByteArray} {s : ByteArray} (h : s ∈ L) : hasB sEq L s = true := by
 unfold hasB; rw [List.any_eq_true]; exact ⟨s, h, (zA7 _ _).2 rfl⟩
theorem zHJ (F : List NodeD) (q : NodeD) (h : (F.map Prod.fst).Nodup) : ((fstStepN F q).map Prod.fst).Nodup := by
 unfold fstStepN
 by_cases e : hasB sEq (nameN F) q.1 = true
 ·rw [if_pos e]; exact h
 ·rw [if_neg e, List.map_append, List.nodup_append]
  refine ⟨h, by simp, fun a ha b hb => ?_⟩
  simp only [List.map_cons, List.map_nil, List.mem_singleton] at hb
  subst hb
  exact fun x => e (zHd (x ▸ ha))
theorem zCf : ∀ (L F : List NodeD), (F.map Prod.fst).Nodup -> ((L.foldl fstStepN F).map Prod.fst).Nodup
 | [], _, h => h
 | q :: r, F, h => by rw [List.foldl_cons]; exact zCf r _ (zHJ F q h)
theorem zEO (L : List NodeD) : ((firstsN L).map Prod.fst).Nodup := zCf L [] List.nodup_nil
def ViOut (y : StateD) (ps : List Value) (w : World) (e : Ending) (w' : World) : Prop :=
 ∃ ia ic ds Bs Bp Bl Bq b m c, e = .returned (.agg #[.slice ia (infosP y).length ic, .slice (some ⟨Bq, 0, none⟩) 4 4]) /\ SlAt RInfo 15 208 (fun _ => True) w' ia (infosP y).length ic (infosP y) /\ RState (fun _ => True) w' ds y /\ QsAt (fun _ => True) ds y ps Bs Bp Bl Bq b m c w' /\ Below w.heap.size w w'
theorem zFM (ss : List Value) (x : StateD) (ps : List Value) (p : PodD) (w : World) (hs : RState (fun _ => True) w ss x) (hp : RPod (fun _ => True) w ps p) (hF : ∀ s, FitsP (grpP (firstsP (aroundP x p.1).1) s)) (hb1 : (firstsN (aroundP x p.1).2.1).length * 208 <= 140737488351232) (hb2 : (aroundP x p.1).1.length * 320 <= 140737488351232) :
  Calls Tryz.prog 58 #[.agg ss.toArray, .agg ps.toArray] w (ViOut (aroundP x p.1) ps w) := by
 have hi6 : (Tryz.prog.info? 29).map (·.size) = some ss.length := by rw [RState.firm.len hs]; exact zAS
 have hi16 : (Tryz.prog.info? 49).map (·.size) = some ps.length := by rw [RPod.firm.len hp]; exact zAM
 obtain ⟨hnm, hp0⟩ : p.1.size <= 140737488355328 /\ ps[0]? = some (.string p.1) := by obtain ⟨h1, _, _, _, _, _, _, _, _, _, _, _, _, _, _, _, rfl⟩ := hp.lit0; exact ⟨h1, rfl⟩
 have hnd : ((aroundP x p.1).2.1.map Prod.fst).Nodup := zEO x.2.1
 obtain ⟨W1, hW1⟩ : ∃ W, W = w.alloc (.cells ss.toArray 29) := ⟨_, rfl⟩
 obtain ⟨W2, hW2⟩ : ∃ W, W = W1.alloc (.cells ps.toArray 49) := ⟨_, rfl⟩
 obtain ⟨W3, hW3⟩ : ∃ W, W = W2.alloc (.cells #[.slice none 0 0, .slice none 0 0] 123) := ⟨_, rfl⟩
 have B1 : Below w.heap.size w W1 := by rw [hW1]; exact (Below.refl _ _).alloc (Nat.le_refl _) _
 have B2 : Below W1.heap.size W1 W2 := by rw [hW2]; exact (Below.refl _ _).alloc (Nat.le_refl _) _
 have B3 : Below W2.heap.size W2 W3 := by rw [hW3]; exact (Below.refl _ _).alloc (Nat.le_refl _) _
 have z1 : W1.heap.size = w.heap.size + 1 := by rw [hW1]; simp
 have z2 : W2.heap.size = w.heap.size + 1 + 1 := by rw [hW2]; simp [z1]
 have q1 : BoxL W3 w.heap.size ss := by refine BoxL.on (BoxL.on ?_ B2) B3; rw [hW1]; exact BoxL.new w 29 ss
 have q2 : BoxL W3 (w.heap.size + 1) ps := by refine BoxL.on ?_ B3; rw [<- z1, hW2]; exact BoxL.new W1 49 ps
 have q3 : BoxL W3 (w.heap.size + 1 + 1) [.slice none 0 0, .slice none 0 0] := by rw [<- z2, hW3]; exact BoxL.new W2 123 _
 have HR : Hid (W3.rangeAt w.heap.size 0 ss) := q1.range
 have y0 := (q2.2 0 _ hp0).1
 have l1 := q1.1
 have l2 := q2.1
 have BB : Below w.heap.size w W3 := on2 (on2 B1 B2) B3
 have HQ : Hid (BoxL W3 w.heap.size ss /\ BoxL W3 (w.heap.size + 1) ps /\ BoxL W3 (w.heap.size + 1 + 1) [.slice none 0 0, .slice none 0 0] /\ Below w.heap.size w W3) := ⟨q1, q2, q3, BB⟩
 have hC := zF5 (fun b => b < w.heap.size) ss x p.1 W3 hnm (RState.firm.kept (RState.firm.weak hs (fun b hb _ => hb)) (Kept.below BB))
 have hw3 : W3.heap.size = w.heap.size + 1 + 1 + 1 := by rw [hW3]; simp [z2]
 have HW3 : Hid (W3.heap.size = w.heap.size + 1 + 1 + 1) := hw3
 clear hs hp B1 B2 B3 BB z1 z2 q1 q2 q3 hp0 hw3
 generalize aroundP x p.1 = y at hF hb1 hb2 hnd hC |-
 generalize p.1 = nm at y0 hC hnm
 go_enter Tryz.func58, Tryz.ntmps58
 go_upto_region 1 with fail
 rw [<- hW1, <- hW2, <- hW3]
 clear hW1 hW2 hW3
 go_wp2_with (first | (refine wpList_load_mid rfl 29 _ rfl w.heap.size 0 rfl ss _ HR.out Tryz.underlying29 rfl hi6 ?_) | fail)
 refine hC.mono ?_
 rintro e u1 ⟨ds, rfl, hds, d1⟩
 clear hC HR y0
 have hl6 : ds.length = 6 := RState.firm.len hds
 have hl6s : ss.length = 6 := by have h8 := hi6; rw [zAS] at h8; injection h8 with h8; exact h8.symm
 have hi6d : (Tryz.prog.info? 29).map (·.size) = some ds.length := by rw [hl6]; exact zAS
 have qs1 := HQ.out.1.on d1
 obtain ⟨X, hX⟩ : ∃ X, X = u1.setCells w.heap.size 0 ds := ⟨_, rfl⟩
 have kX : Kept (fun b => b ≠ w.heap.size) u1 X := by rw [hX]; exact zA1 (fun h => h rfl)
 have bX : Below w.heap.size w X := by rw [hX]; exact zA0 (on2 HQ.out.2.2.2 d1) (Nat.le_refl _)
 have qX1 : BoxL X w.heap.size ds := by rw [hX]; exact zA2 qs1 (by rw [hl6, hl6s])
 have qX2 := (HQ.out.2.1.on d1).kept kX (by omega)
 have qX3 := (HQ.out.2.2.1.on d1).kept kX (by omega)
 have HTh : Hid (u1.there w.heap.size 0 ds.toArray.size) := by have e8 : ds.toArray.size = ss.length := List.size_toArray.trans (hl6.trans hl6s.symm); have h8 := qs1.there; rw [<- e8] at h8; exact h8
 have HO : Hid (ds.toArray.all (·.oneCell') = true) := all_oneCell_toArray (RState.firm.one hds)
 have HX : Hid (X = u1.setCells w.heap.size 0 ds.toArray.toList) := by rw [Hid, hX]
 have hw3 := HW3.out
 obtain ⟨E, hE⟩ : ∃ E : Where, E = fun b => b < w.heap.size \/ w.heap.size + 3 <= b := ⟨_, rfl⟩
 have hdX : RState E X ds y := RState.firm.weak (RState.firm.kept hds (kX.weak (fun b hb => by rcases hb with ⟨hb, _⟩ | hb <;> omega))) (fun b _ hb => by rw [hE]; rcases hb with ⟨hb, _⟩ | hb; exact .inl hb; exact .inr (by omega))
 have hX3 : w.heap.size + 3 <= X.heap.size := qX3.1
 have HEU : Hid (∀ b, X.heap.size <= b -> E b) := fun b hb => by rw [hE]; exact .inr (by omega)
 have HEN : Hid (¬ E (w.heap.size + 1 + 1)) := by rw [Hid, hE]; omega
 have HDS : Hid (∀ u, Below X.heap.size X u -> RState E u ds y) := fun u hu => RState.firm.kept hdX (Kept.below hu)
 have HK : Hid (BoxL X w.heap.size ds /\ BoxL X (w.heap.size + 1) ps /\ BoxL X (w.heap.size + 1 + 1) [.slice none 0 0, .slice none 0 0] /\ Below w.heap.size w X) := ⟨qX1, qX2, qX3, bX⟩
 have l8 := qs1.1
 clear hE hX3 hX kX bX qX1 qX2 qX3 hds hdX qs1 d1 HQ hw3 HW3 hl6s l1 l2
 go_upto_region 2 with (first | (refine wpList_store_mid rfl 29 _ _ rfl w.heap.size 0 ds.toArray rfl rfl HTh.out (by simpa using hi6d) HO.out ?_; refine zAH HX.out ?_) | fail)
 clear HTh HO HX l8
 refine u0 6 (fun z => Below X.heap.size X z) (Below.refl _ _).drew (fun gH => ?_)
 have hb0 : Below X.heap.size X X.drew := (Below.refl _ _).drew
 generalize hwd : X.drew = wd at gH hb0 |-
 clear hwd
 try go_frame
 refine uq 0 (.agg ds.toArray) (yieldsIf_load_mid (by rfl) 29 _ rfl w.heap.size 0 rfl ds _ (fun u hu => (HK.out.1.on hu).range) Tryz.underlying29 rfl hi6d) ?_ (hi := rfl)
 try go_frame
 refine uq 2 (.agg ds.toArray) (yieldsIf_load_mid (by rfl) 29 _ rfl w.heap.size 0 rfl ds _ (fun u hu => (HK.out.1.on hu).range) Tryz.underlying29 rfl hi6d) ?_ (hi := rfl)
 try go_frame
 refine uq 3 (.agg ps.toArray) (yieldsIf_load_mid (by rfl) 49 _ rfl (w.heap.size + 1) 0 rfl ps _ (fun u hu => (HK.out.2.1.on hu).range) Tryz.underlying49 rfl hi16) ?_ (hi := rfl)
 try go_frame
 have hC1 := zHc E ds y wd (HDS.out wd hb0) hF hb1
 refine ur 1 (fun K hK => ?_)
 go_simp
 refine hC1.mono ?_
 rintro e u2 ⟨v, rfl, hr⟩
 have d2 : Below wd.heap.size wd u2 := hr.below
 have hb2' : Below X.heap.size X u2 := on2 hb0 d2
 have hil : (infosP y).length * 208 <= 140737488351232 := by unfold infosP; rw [List.length_map]; exact hb1
 obtain ⟨ia, ic, rfl, si⟩ := hr.sl (bytes := 208) RInfo.firm hil
 have HSI : Hid (SlAt RInfo 15 208 E u2 ia (infosP y).length ic (infosP y)) := si.weak RInfo.firm (fun b _ ha => by
  rcases ha with ha | ha
  ·rcases ha with ha | ha
   ·exact ha
   ·exact HEU.out b (Nat.le_trans hb0.size ha)
  ·exact HEU.out b (Nat.le_trans hb0.size ha))
 clear hC1 hr si
 go_wp2_with fail
 refine hK.out _ _ hb2' (fun gI => ?_)
 clear hK K gH; have gH := gI; clear gI
 try go_frame
 have hC2 := zDA E ds y ps u2 (HDS.out u2 hb2') hnd hb2
 refine ur 4 (fun K hK => ?_)
 go_simp
 refine hC2.mono ?_
 rintro e u3 ⟨Bs, Bp, Bl, Bq, b, m, c, rfl, hqs, hbs, d3⟩
 have hb3 : Below X.heap.size X u3 := on2 hb2' d3
 have HSI3 : Hid (SlAt RInfo 15 208 E u3 ia (infosP y).length ic (infosP y)) := HSI.out.on RInfo.firm d3
 have HQS : Hid (QsAt E ds y ps Bs Bp Bl Bq b m c u3) := hqs.weak (fun b _ ha => by
  rcases ha with ha | ha
  ·exact ha
  ·exact HEU.out b (Nat.le_trans hb2'.size ha))
 have HBQ : Hid (E Bs /\ E Bp /\ E Bl /\ E Bq) := ⟨HEU.out _ (Nat.le_trans hb2'.size hbs.1), HEU.out _ (Nat.le_trans hb2'.size hbs.2.1), HEU.out _ (Nat.le_trans hb2'.size hbs.2.2.1), HEU.out _ (Nat.le_trans hb2'.size hbs.2.2.2)⟩
 clear hqs hbs HSI
 clear hC2
 go_wp2_with fail
 refine hK.out _ _ hb3 (fun gI => ?_)
 clear hK K gH; have gH := gI; clear gI
 try go_frame
 refine' uk 5 ?_ ?_; rotate_left
 ·intro u hu; clear hu; go_simp; try with_reducible rfl
 try go_frame
 have qv := HK.out.2.2.1.on hb3
 obtain ⟨U, hU⟩ : ∃ U, U = u3.setCells (w.heap.size + 1 + 1) 0 [.slice ia (infosP y).length ic, .slice (some ⟨Bq, 0, none⟩) 4 4] := ⟨_, rfl⟩
 refine uz 6 (fun K hK => ?_)
 refine zA4 (by rfl) (wp_store_mid 123 _ _ rfl (w.heap.size + 1 + 1) 0 #[.slice ia (infosP y).length ic, .slice (some ⟨Bq, 0, none⟩) 4 4] rfl rfl qv.there (by kernel_rfl) (by simp [Value.oneCell']) ?_)
 refine hK.out _ (NoPanic.normal ?_)
 clear hK K
 rw [show (#[.slice ia (infosP y).length ic, .slice (some ⟨Bq, 0, none⟩) 4 4] : Array Value).toList = [.slice ia (infosP y).length ic, .slice (some ⟨Bq, 0, none⟩) 4 4] from rfl, <- hU]
 have kU : Kept E u3 U := by rw [hU]; exact zA1 HEN.out
 have qU : BoxL U (w.heap.size + 1 + 1) [.slice ia (infosP y).length ic, .slice (some ⟨Bq, 0, none⟩) 4 4] := by rw [hU]; exact zA2 qv rfl
 have bU : Below w.heap.size w U := by rw [hU]; exact zA0 (on2 HK.out.2.2.2 hb3) (by omega)
 have HE : Hid (SlAt RInfo 15 208 (fun _ => True) U ia (infosP y).length ic (infosP y) /\ RState (fun _ => True) U ds y /\ QsAt (fun _ => True) ds y ps Bs Bp Bl Bq b m c U /\ Below w.heap.size w U) := ⟨(HSI3.out.kept RInfo.firm kU).weak RInfo.firm (fun _ _ _ => trivial), RState.firm.weak (RState.firm.kept (HDS.out u3 hb3) kU) (fun _ _ _ => trivial), (HQS.out.kept kU HBQ.out.1 HBQ.out.2.1 HBQ.out.2.2.1 HBQ.out.2.2.2).weak (fun _ _ _ => trivial), bU⟩
 have HRU : Hid (U.rangeAt (w.heap.size + 1 + 1) 0 [.slice ia (infosP y).length ic, .slice (some ⟨Bq, 0, none⟩) 4 4]) := qU.range
 have hi2 : (Tryz.prog.info? 123).map (·.size) = some ([.slice ia (infosP y).length ic, .slice (some ⟨Bq, 0, none⟩) 4 4] : List Value).length := by kernel_rfl
 have lU := qU.1
 clear hU kU qU bU qv HSI3 HQS HBQ HEN HEU HDS HK hb3
 obtain ⟨il, hil9⟩ : ∃ l, (infosP y).length = l := ⟨_, rfl⟩
 have hIL : Hid ((infosP y).length = il) := hil9
 rw [hil9] at HE HRU hi2
 try rw [hil9]
 clear hil9 hil
 go_wp2_with (first | (refine wpList_load_mid rfl 123 _ rfl (w.heap.size + 1 + 1) 0 rfl [.slice ia il ic, .slice (some ⟨Bq, 0, none⟩) 4 4] _ HRU.out Tryz.underlying123 rfl hi2 ?_) | fail)
 refine bodyPost_ret (v := .agg ([.slice ia il ic, .slice (some ⟨Bq, 0, none⟩) 4 4] : List Value).toArray) (zE5 (p := 4) (ty := 123) rfl _ _ (w.heap.size + 1 + 1) [.slice ia il ic, .slice (some ⟨Bq, 0, none⟩) 4 4] _ rfl HRU.out Tryz.underlying123 rfl hi2) rfl ?_
 exact ⟨_, _, _, _, _, _, _, _, _, _, by rw [hIL.out], by rw [hIL.out]; exact HE.out.1, HE.out.2.1, HE.out.2.2.1, HE.out.2.2.2⟩
def whyF (y : StateD) (p : PodD) (i : InfoD) : Nat -> Int
 | 0 => why1 p i
 | 1 => nearP p (iLabs i) (placedP y)
 | 2 => spreadP 12 p (iLabs i) y.2.1 (placedP y)
 | _ => (planQ p i y).2
def pkF (y : StateD) (p : PodD) (i : InfoD) : Nat -> List PickD
 | 0 => []
 | 1 => []
 | 2 => []
 | _ => (planQ p i y).1
theorem pkF_all (y : StateD) (p : PodD) (i : InfoD) : (List.range 4).flatMap (pkF y p i) = (planQ p i y).1 := by
 rw [show List.range 4 = [0, 1, 2, 3] from rfl]; simp [pkF]
structure AskFit (y : StateD) (p : PodD) : Prop where
 near : (pNear p).length < 1000000000
 apart : (pApart p).length < 1000000000
 cost : cost (placedP y) < 70368744177000
 picks : ∀ i : InfoD, (planQ p i y).1.length * 32 <= 140737488351232
def gF : Nat -> Nat
 | 0 => 104
 | 1 => 106
 | 2 => 108
 | _ => 110
def lbF (Bs Bp Bl : Nat) : Nat -> Array Value
 | 0 => #[.pointer (some ⟨Bp, 0, none⟩)]
 | 1 => #[.pointer (some ⟨Bp, 0, none⟩), .pointer (some ⟨Bl, 0, none⟩)]
 | 2 => #[.pointer (some ⟨Bp, 0, none⟩), .pointer (some ⟨Bs, 0, none⟩), .pointer (some ⟨Bl, 0, none⟩)]
 | _ => #[.pointer (some ⟨Bp, 0, none⟩), .pointer (some ⟨Bs, 0, none⟩)]
theorem zEb (iv : Value) (ds : List Value) (y : StateD) (ps : List Value) (p : PodD) (Bs Bp Bl Bq : Nat) (b : Option Addr) (m c : Nat) (is : List Value) (i : InfoD) (w : World) (hs : RState (fun _ => True) w ds y) (hp : RPod (fun _ => True) w ps p) (hi : RInfo (fun _ => True) w is i) (hq : QsAt (fun _ => True) ds y ps Bs Bp Bl Bq b m c w) (hf : AskFit y p) :
  Calls Tryz.prog 59 #[.agg #[iv, .slice (some ⟨Bq, 0, none⟩) 4 4], .agg is.toArray] w (AkOut 4 (whyF y p i) (pkF y p i) w) := by
 refine ask_calls iv Bq 4 4 gF (lbF Bs Bp Bl) is i (whyF y p i) (pkF y p i) w hi (fun u hu k hk => ?_) (fun k hk => ?_) (fun u hu k hk => ?_) ?_ (by decide)
 ·have q := hq.2.2.2.2.on hu
  rcases k with _ | _ | _ | _ | k
  ·exact ⟨(q.2 0 _ rfl).1, q.1⟩
  ·exact ⟨(q.2 1 _ rfl).1, q.1⟩
  ·exact ⟨(q.2 2 _ rfl).1, q.1⟩
  ·exact ⟨(q.2 3 _ rfl).1, q.1⟩
  ·omega
 ·rcases k with _ | _ | _ | _ | k
  ·exact enters_of Tryz.func104 (by kernel_rfl) rfl
  ·exact enters_of Tryz.func106 (by kernel_rfl) rfl
  ·exact enters_of Tryz.func108 (by kernel_rfl) rfl
  ·exact enters_of Tryz.func110 (by kernel_rfl) rfl
  ·omega
 ·have qq := hq.on hu
  have hs' := RState.firm.kept hs (Kept.below hu)
  have hp' := RPod.firm.kept hp (Kept.below hu)
  have hi' := RInfo.firm.kept hi (Kept.below hu)
  rcases k with _ | _ | _ | _ | k
  ·exact q1_calls Bp ps p is i u qq.2.1 hp' hi'
  ·exact q2_calls Bp ps p Bl b m c (placedP y) is i u qq.2.1 hp' hi' qq.2.2.1 qq.2.2.2.1 hf.near hf.apart hf.cost
  ·obtain ⟨⟨a0, n0, m0⟩, ⟨a1, n1, m1⟩, ⟨a2, n2, m2⟩, ⟨a3, n3, m3⟩, ⟨a4, n4, m4⟩, ⟨a5, n5, m5⟩, he, s0, s1, _⟩ := hs'.out
   simp only at s0 s1 he
   have q0 := qq.1
   rw [he] at q0
   exact q3_calls Bp ps p Bs _ a1 n1 m1 _ _ _ _ y.2.1 Bl b m c (placedP y) is i u qq.2.1 hp' hi' q0 s1 qq.2.2.1 qq.2.2.2.1
  ·exact q4_calls Bp ps p Bs ds y is i u qq.2.1 hp' hi' qq.1 hs'
  ·omega
 ·rw [pkF_all]; exact hf.picks i
end Go.Proofs.YtnffafjamiffnaaGreat
