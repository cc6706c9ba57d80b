/- plan.pick: the smallest volume that suits is taken off the shelf. Condition: the plan and the claim lie as is said of them; each volume has a name of its own. -/
import Derived.Test.YtnffafjamiffnaaGreatQ35
set_option linter.unusedSimpArgs false
set_option maxRecDepth 100000
set_option maxHeartbeats 32000000
namespace Go.Proofs.YtnffafjamiffnaaGreat
open Go.RowKit Go.Maps
def PkOut (w Wp : World) (X : Nat) (lv0 : Value) (C : List Value) (NL : List Lab) (V : List VolumeD) (c : ClaimD) (out : List PickD) (e : Ending) (u' : World) : Prop :=
 (bestP c NL V (out.map Prod.snd) = none /\ e = .returned (.int .i64 14) /\ Below w.heap.size w u') \/
 ∃ j lv pv, bestP c NL V (out.map Prod.snd) = some j /\ e = .returned (.int .i64 0) /\ PlS w Wp X lv0 C NL V V.length u' lv pv ((out ++ [(c.1, (V.getD j default).1)]).map Prod.snd) (out ++ [(c.1, (V.getD j default).1)])
theorem zHP (w Wp : World) (X : Nat) (lv0 : Value) (la : Option Addr) (ln lc : Nat) (ca : Option Addr) (cn cc cm : Nat) (va : Option Addr) (vn vc vm : Nat) (ka : Option Addr) (kn kc km : Nat) (NL : List Lab) (V : List VolumeD) (lv pv : Value) (out : List PickD) (cs : List Value) (A : Where) (c : ClaimD) (u : World) (hs : PlS w Wp X lv0 [.slice la ln lc, .slice ca cn cc, .map (some cm), .slice va vn vc, .map (some vm), .slice ka kn kc, .map (some km)] NL V V.length u lv pv (out.map Prod.snd) out) (hv : V.length * 80 <= 140737488355328) (hn : (vNs V).Nodup) (hc : RClaim A u cs c) :
  Calls Tryz.prog 180 #[.pointer (some ⟨X, 0, none⟩), .agg cs.toArray] u (PkOut w Wp X lv0 [.slice la ln lc, .slice ca cn cc, .map (some cm), .slice va vn vc, .map (some vm), .slice ka kn kc, .map (some km)] NL V c out) := by
 obtain ⟨L, hL⟩ : ∃ L, L = leftP NL V (out.map Prod.snd) := ⟨_, rfl⟩
 have hLl : L.length <= V.length := by have := hs.ln; rw [<- hL] at this; omega
 obtain ⟨ga, gn, gc, rfl⟩ := hs.lf.head
 obtain ⟨pa, pn, pc, rfl⟩ := hs.pk.head
 have hgn : gn = L.length := by
  obtain ⟨_, _, _, e, s⟩ := hs.lf.sl10 (bytes := 72) RVolume.firm (by rw [<- hL]; omega)
  cases e
  rw [<- s.1, hL]
 have hlc := RClaim.firm.len hc
 have hic : (Tryz.prog.info? 96).map (·.size) = some cs.length := by rw [hlc]; exact zBi
 obtain ⟨W1, hW1⟩ : ∃ W, W = u.alloc (.cells cs.toArray 96) := ⟨_, rfl⟩
 have B1 : Below u.heap.size u W1 := by rw [hW1]; go_grown
 have q1 : BoxL W1 u.heap.size cs := by rw [hW1]; exact BoxL.new u 96 _
 obtain ⟨e0, _⟩ := hc.all10
 have HA : Hid (∀ z, Below W1.heap.size W1 z -> PlS w Wp X lv0 [.slice la ln lc, .slice ca cn cc, .map (some cm), .slice va vn vc, .map (some vm), .slice ka kn kc, .map (some km)] NL V V.length z (.slice ga gn gc) (.slice pa pn pc) (out.map Prod.snd) out /\ BoxL z u.heap.size cs /\ RClaim A z cs c /\ SlAt RVolume 5 72 (fun _ => True) z ga gn gc L) := fun z hb => by
  have h1 := hs.on (on2 B1 hb)
  obtain ⟨_, _, _, e, s⟩ := h1.lf.sl10 (bytes := 72) RVolume.firm (by rw [<- hL]; omega)
  cases e
  exact ⟨h1, q1.on hb, RClaim.firm.kept hc (Kept.below (on2 B1 hb)), by rw [hL]; exact s⟩
 have HQ : Hid (∀ z, Below W1.heap.size W1 z -> z.cell? ⟨X, 7, none⟩ = some (.slice ga gn gc) /\ z.rangeAt u.heap.size 0 cs) := fun z hb => by
  obtain ⟨h1, h2, _, _⟩ := HA.out z hb
  exact ⟨(h1.bx.2 7 _ rfl).1, h2.range⟩
 have HD : Hid (Wp.heap.size <= u.heap.size /\ Below w.heap.size w W1) := ⟨hs.kp.1, on2 hs.bw B1⟩
 have Hpu : Hid (∀ b, (Value.slice pa pn pc).ownBlock = some b -> b < u.heap.size) := fun b hb => (hs.pk.lt hb).2
 obtain ⟨l, hl⟩ : ∃ l, l = suitI c L gn := ⟨_, rfl⟩
 have Hl : Hid (suitI c (leftP NL V (out.map Prod.snd)) (leftP NL V (out.map Prod.snd)).length = l) := by rw [Hid, hl, hgn, hL]
 have Hin : Hid (∀ x ∈ l, x < gn) := fun x hx => by rw [hl] at hx; exact (zBk.1 hx).1
 have HL : Hid (L = leftP NL V (out.map Prod.snd)) := hL
 have Hgn : Hid (gn = L.length) := hgn
 have hg8 : gn * 8 <= 140737488351232 := by omega
 have HLl : Hid (L.length <= V.length) := hLl
 have Hlen : Hid (out.length + L.length <= V.length) := by have := hs.ln; rw [<- hL] at this; exact this
 clear hs hc B1 q1 hL hgn hLl hl
 go_enter Tryz.func180, Tryz.ntmps180
 go_upto_region 1 with fail
 rw [<- hW1]
 clear hW1
 refine t0 (fun z => Below W1.heap.size W1 z) (Below.refl _ _).drew (fun gH => ?_)
 generalize hwd : W1.drew = wd at gH |-
 clear hwd
 try go_frame
 refine' tk 0 ?_ ?_; rotate_left
 ·intro u hu; obtain ⟨f1, _⟩ := HQ.out u hu; clear hu; go_simp; try with_reducible rfl
 try go_frame
 refine' tk 1 ?_ ?_; rotate_left
 ·intro u hu; obtain ⟨f1, _⟩ := HQ.out u hu; clear hu; go_simp; try with_reducible rfl
 try go_frame
 refine' tk 2 ?_ ?_; rotate_left
 ·intro u hu; obtain ⟨f1, _⟩ := HQ.out u hu; clear hu; go_simp; try with_reducible rfl
 try go_frame
 refine' tk 3 ?_ ?_; rotate_left
 ·intro u hu; obtain ⟨f1, _⟩ := HQ.out u hu; clear hu; go_simp; try with_reducible rfl
 try go_frame
 refine tq 4 (.agg cs.toArray) (yieldsIf_load_mid (by rfl) 96 _ rfl u.heap.size 0 rfl cs _ (fun z hz => (HQ.out z hz).2) Tryz.underlying96 rfl hic) ?_ (hi := rfl)
 try go_frame
 refine' tk 6 ?_ ?_; rotate_left
 ·intro u hu; obtain ⟨f1, _⟩ := HQ.out u hu; clear hu; go_simp; try with_reducible rfl
 try go_frame
 refine' tk 7 ?_ ?_; rotate_left
 ·intro u hu; obtain ⟨f1, _⟩ := HQ.out u hu; clear hu; go_simp; try with_reducible rfl
 try go_frame
 refine' tk 8 ?_ ?_; rotate_left
 ·intro u hu; obtain ⟨f1, _⟩ := HQ.out u hu; clear hu; go_simp; try with_reducible rfl
 try go_frame
 refine' tk 9 ?_ ?_; rotate_left
 ·intro u hu; obtain ⟨f1, _⟩ := HQ.out u hu; clear hu; go_simp; try with_reducible rfl
 try go_frame
 refine' tk 10 ?_ ?_; rotate_left
 ·intro u hu; obtain ⟨f1, _⟩ := HQ.out u hu; clear hu; go_simp; try with_reducible rfl
 try go_frame
 refine tr 5 (fun K hK => ?_)
 go_simp
 refine (zDv ga gn gc 72 _ L cs _ c _ (HA.out _ gH).2.2.2 hg8 (HA.out _ gH).2.2.1).mono ?_
 rintro e w5 ⟨v5, rfl, r5⟩
 have b5 := on2 gH r5.below
 have hll : suitI c L gn = l := by have := Hl.out; rw [<- HL.out, <- Hgn.out] at this; exact this
 rw [hll] at r5
 obtain ⟨sa, sn, sc, rfl, s5⟩ := r5.sl10 (bytes := 8) RInt.firm (by rw [<- hll]; have := zGr c L gn; omega)
 go_wp2_with fail
 refine hK.out _ _ b5 (fun gI => ?_)
 clear hK K gH; have gH := gI; clear gI
 try go_frame
 clear hll r5
 obtain ⟨z5, hz5⟩ : ∃ z : Int, z = if sn = 0 then 0 else ((minT (ltAt L) l (sn - 1) : Nat) : Int) := ⟨_, rfl⟩
 obtain ⟨b5b, hb5b⟩ : ∃ b : Bool, b = !decide (sn = 0) := ⟨_, rfl⟩
 have Hz5 : Hid (z5 = if sn = 0 then 0 else ((minT (ltAt L) l (sn - 1) : Nat) : Int)) := hz5
 have Hb5 : Hid (b5b = !decide (sn = 0)) := hb5b
 clear hz5 hb5b
 refine tr 11 (fun K hK => ?_)
 go_simp
 refine (zCc sa sn sc _ l ga gn gc 72 _ L w5 s5 (HA.out _ gH).2.2.2 Hin z5 b5b Hz5 Hb5).mono ?_
 rintro e w6 ⟨rfl, d6⟩
 have b6 := on2 gH d6
 go_wp2_with fail
 refine hK.out _ _ b6 (fun gI => ?_)
 clear hK K gH; have gH := gI; clear gI
 try go_frame
 refine tp 12 ?_
 try go_frame
 refine tp 13 ?_
 try go_frame
 refine tp 14 ?_
 try go_frame
 refine tp 15 ?_
 try go_frame
 refine tp 16 ?_
 try go_frame
 refine tz ?_
 have hsn : sn = l.length := by have := s5.1; rw [List.length_map] at this; exact this.symm
 clear gH d6 s5 b5 HQ
 obtain ⟨ps, qc, rc, sv⟩ := HA.out w6 b6
 by_cases h0 : sn = 0
 ·have hno : bestP c NL V (out.map Prod.snd) = none := pick_none (by rw [Hl.out]; exact List.eq_nil_of_length_eq_zero (by omega))
  have HF : Hid (bestP c NL V (out.map Prod.snd) = none /\ Below w.heap.size w w6) := ⟨hno, ps.bw⟩
  have hb5 : b5b = false := by rw [Hb5.out, h0]; rfl
  subst hb5
  clear hno ps qc rc sv HA HD Hpu Hl Hin HL Hgn HLl Hlen b6 hsn Hz5 Hb5 h0
  go_wp2_with fail
  go_ret
  exact .inl ⟨HF.out.1, rfl, HF.out.2⟩
 ·obtain ⟨t, ht⟩ : ∃ t, t = minT (ltAt L) l (sn - 1) := ⟨_, rfl⟩
  have hps := pick_some (l := l) (at' := t) Hl.out (by omega) (by rw [ht, hsn, HL.out])
  rw [<- HL.out] at hps
  obtain ⟨htl, j, hbj, hnm⟩ := hps
  have hb5 : b5b = true := by rw [Hb5.out]; simpa using h0
  have hz5 : z5 = (t : Int) := by rw [Hz5.out, if_neg h0, ht]
  subst hb5
  subst hz5
  clear Hz5 Hb5
  have htg : t < gn := by rw [Hgn.out]; exact htl
  have htz : (t : Int) < (gn : Int) := by omega
  obtain ⟨g, cap, eg⟩ := ps.lf.place (by rw [<- HL.out]; omega)
  have hsl : ga = some ⟨g, 0, none⟩ /\ gc = cap := by
   have e2 : ga = some ⟨g, 0, none⟩ /\ gn = (leftP NL V (out.map Prod.snd)).length /\ gc = cap := by simpa using eg
   exact ⟨e2.1, e2.2.2⟩
  obtain ⟨rfl, rfl⟩ := hsl
  clear eg
  obtain ⟨Bq, oq, eq, hBq, _, ys, hy, hyv⟩ := sv.get htg
  obtain ⟨rfl, rfl⟩ : g = Bq /\ 0 = oq := by simpa using eq
  have d0 := hyv 0 _ hy.all10.1
  rw [Nat.add_zero] at d0
  have hz1 : (L.getD t default).1.size <= 140737488355328 := hy.head10.2
  have hz0 : c.1.size <= 140737488355328 := rc.head10.2
  have cN := (qc.2 0 _ e0).1
  have cX := (ps.bx.2 7 _ rfl).1
  have cP := (ps.bx.2 8 _ rfl).1
  have hxx := ps.xx
  have hgx := ps.gx g ps.lo.symm
  have HS : Hid (∀ z, Kept (fun b => b = X \/ b = u.heap.size \/ b = g) w6 z -> z.cell? ⟨X, 8, none⟩ = some (.slice pa pn pc) /\ z.cell? ⟨X, 7, none⟩ = some (.slice (some ⟨g, 0, none⟩) gn gc) /\ z.cell? ⟨u.heap.size, 0, none⟩ = some (.string c.1) /\ z.cell? ⟨g, t * 5, none⟩ = some (.string (L.getD t default).1)) := fun z hk => ⟨(hk.cell (p := ⟨X, 8, none⟩) (.inl rfl) ps.bx.1).trans cP, (hk.cell (p := ⟨X, 7, none⟩) (.inl rfl) ps.bx.1).trans cX, (hk.cell (p := ⟨u.heap.size, 0, none⟩) (.inr (.inl rfl)) qc.1).trans cN, (hk.cell (p := ⟨g, t * 5, none⟩) (.inr (.inr rfl)) hBq).trans (by rw [Nat.zero_add] at d0; exact d0)⟩
  have HPS : Hid (∀ z, Below w6.heap.size w6 z -> PlS w Wp X lv0 [.slice la ln lc, .slice ca cn cc, .map (some cm), .slice va vn vc, .map (some vm), .slice ka kn kc, .map (some km)] NL V V.length z (.slice (some ⟨g, 0, none⟩) gn gc) (.slice pa pn pc) (out.map Prod.snd) out) := fun z hb => ps.on hb
  have Hpo : Hid (∀ b, (Value.slice pa pn pc).ownBlock = some b -> ¬ (b = X \/ b = u.heap.size \/ b = g)) := fun b hb e => by
   have h1 := ps.po b hb
   have h2 := Hpu.out b hb
   rcases e with e | e | e
   ·omega
   ·omega
   ·have := hgx.2.1; omega
  have HX : Hid (X < w6.heap.size) := ps.bx.1
  have Hbj : Hid (bestP c NL V (out.map Prod.snd) = some j /\ (V.getD j default).1 = (L.getD t default).1) := ⟨hbj, hnm⟩
  clear ps qc rc sv hy hyv d0 cN cX cP HA hbj hnm eq hBq hsn h0 ht htl e0
  generalize hnn : (L.getD t default).1 = vn' at HS hz1 Hbj
  generalize hcn : c.1 = cn' at HS hz0
  have Hcn : Hid (c.1 = cn') := hcn
  have Hnn : Hid ((L.getD t default).1 = vn') := hnn
  clear hcn hnn
  go_upto_region 4 with fail
  refine u0 20 (fun z => z.cell? ⟨X, 8, none⟩ = some (.slice pa pn pc) /\ z.cell? ⟨X, 7, none⟩ = some (.slice (some ⟨g, 0, none⟩) gn gc) /\ z.cell? ⟨u.heap.size, 0, none⟩ = some (.string cn') /\ z.cell? ⟨g, t * 5, none⟩ = some (.string vn')) (HS.out _ (Kept.drew _ _)) (fun gH => ?_)
  obtain ⟨w7, hw7⟩ : ∃ w7, w7 = w6.drew := ⟨_, rfl⟩
  have b7 : Below w6.heap.size w6 w7 := by rw [hw7]; exact (Below.refl _ _).drew
  rw [<- hw7] at gH |-
  clear hw7
  try go_frame
  refine' uk 0 ?_ ?_; rotate_left
  ·intro u ⟨f1, f2, f3, f4⟩; go_simp; try with_reducible rfl
  try go_frame
  refine' uk 1 ?_ ?_; rotate_left
  ·intro u ⟨f1, f2, f3, f4⟩; go_simp; try with_reducible rfl
  try go_frame
  refine' uk 2 ?_ ?_; rotate_left
  ·intro u ⟨f1, f2, f3, f4⟩; go_simp; try with_reducible rfl
  try go_frame
  refine' uk 3 ?_ ?_; rotate_left
  ·intro u ⟨f1, f2, f3, f4⟩; go_simp; try with_reducible rfl
  try go_frame
  refine' uk 4 ?_ ?_; rotate_left
  ·intro u ⟨f1, f2, f3, f4⟩; go_simp; try with_reducible rfl
  try go_frame
  refine' uk 5 ?_ ?_; rotate_left
  ·intro u ⟨f1, f2, f3, f4⟩; go_simp; try with_reducible rfl
  try go_frame
  refine' uk 6 ?_ ?_; rotate_left
  ·intro u ⟨f1, f2, f3, f4⟩; go_simp; try with_reducible rfl
  try go_frame
  refine' uk 7 ?_ ?_; rotate_left
  ·intro u ⟨f1, f2, f3, f4⟩; go_simp; try with_reducible rfl
  try go_frame
  refine' uk 8 ?_ ?_; rotate_left
  ·intro u ⟨f1, f2, f3, f4⟩; go_simp; try with_reducible rfl
  try go_frame
  refine' uk 9 ?_ ?_; rotate_left
  ·intro u ⟨f1, f2, f3, f4⟩; go_simp; try with_reducible rfl
  try go_frame
  refine' uk 10 ?_ ?_; rotate_left
  ·intro u ⟨f1, f2, f3, f4⟩; go_simp; try with_reducible rfl
  try go_frame
  refine' uk 11 ?_ ?_; rotate_left
  ·intro u ⟨f1, f2, f3, f4⟩; go_simp; try with_reducible rfl
  try go_frame
  refine' uk 12 ?_ ?_; rotate_left
  ·intro u ⟨f1, f2, f3, f4⟩; go_simp; try with_reducible rfl
  try go_frame
  refine' uk 13 ?_ ?_; rotate_left
  ·intro u ⟨f1, f2, f3, f4⟩; go_simp; try with_reducible rfl
  try go_frame
  refine' uk 14 ?_ ?_; rotate_left
  ·intro u ⟨f1, f2, f3, f4⟩; go_simp; try with_reducible rfl
  try go_frame
  refine' uk 15 ?_ ?_; rotate_left
  ·intro u ⟨f1, f2, f3, f4⟩; go_simp; try with_reducible rfl
  try go_frame
  obtain ⟨Wb, hWb⟩ : ∃ W, W = w7.alloc (.cells #[.string cn', .string vn'] 127) := ⟨_, rfl⟩
  have bWb : Below w7.heap.size w7 Wb := by rw [hWb]; go_grown
  have qWb : BoxL Wb w7.heap.size [.string cn', .string vn'] := by rw [hWb]; exact BoxL.new w7 127 _
  have psb := HPS.out Wb (on2 b7 bWb)
  have hSr : Src RLabel 2 (fun b => False /\ (Value.slice pa pn pc).ownBlock ≠ some b) Wb (some ⟨w7.heap.size, 0, none⟩) 1 [(cn', vn')] := src_one10 RLabel.firm RLabel.flat qWb ⟨[.string cn'], [.string vn'], rfl, ⟨rfl, hz0⟩, ⟨rfl, hz1⟩⟩
  refine ur 16 (fun K hK => ?_)
  go_simp
  refine hK.out _ _ (HS.out _ (hWb ▸ Kept.below (on2 b7 bWb))) (fun gI => ?_)
  rw [<- hWb] at gI |-
  clear hK K gH; have gH := gI; clear gI
  try go_frame
  clear hWb
  refine ur 17 (fun K hK => ?_)
  refine zA4 (by rfl) (zAX RLabel.firm (A := fun _ => False) (w0 := w) _ _ 30 127 rfl _ 32 infoPk10 Tryz.underlying30 rfl (by decide) (by decide) (.slice pa pn pc) out rfl psb.pk (some ⟨w7.heap.size, 0, none⟩) 1 1 [(cn', vn')] rfl hSr (by have h1 := Hlen.out; rw [List.length_singleton]; omega) ?_)
  intro v9 w9 r9 g9 o9
  obtain ⟨a9, n9, c9, rfl⟩ := r9.head
  refine hK.out _ _ (HS.out _ ((Kept.below (on2 b7 bWb)).trans (Kept.grown g9 Hpo.out))) (fun gI => ?_)
  clear hK K gH; have gH := gI; clear gI
  try go_frame
  refine' uk 18 ?_ ?_; rotate_left
  ·intro u ⟨f1, f2, f3, f4⟩; go_simp; try with_reducible rfl
  try go_frame
  refine' uk 19 ?_ ?_; rotate_left
  ·intro u ⟨f1, f2, f3, f4⟩; go_simp; try with_reducible rfl
  try go_frame
  have p9 := psb.app g9 r9 o9
  obtain ⟨U, hU⟩ : ∃ U, U = w9.setCell ⟨X, 8, none⟩ (.slice a9 n9 c9) := ⟨_, rfl⟩
  rw [<- hU] at p9
  obtain ⟨f8, _, _, _⟩ := gH
  have q8 : w9.frozen? ⟨X, 8, none⟩ = false := by have h1 : BoxL w9 X _ := psb.bx.kept (A := fun b => b = X \/ b = u.heap.size \/ b = g) (Kept.grown g9 Hpo.out) (.inl rfl); exact (h1.2 8 _ rfl).2
  refine uz 20 (fun K hK => ?_)
  go_simp
  rw [<- hU]
  refine hK.out _ (NoPanic.normal ?_)
  try go_frame
  clear hK K
  clear hU f8 q8 g9 r9 o9 psb hSr qWb bWb b7 HS Hpo HPS
  have hrow : Row RVolume 5 (fun b => b < w.heap.size) w U 79 (.slice (some ⟨g, 0, none⟩) gn gc) L := by rw [HL.out]; exact p9.lf
  obtain ⟨m, hm⟩ : ∃ m, gn = m + 1 := ⟨gn - 1, by omega⟩
  have hCd := zF1 _ w g gn gc L t (t + 1) m U hrow Hgn.out.symm htg rfl hm
  have cX := (p9.bx.2 7 _ rfl).1
  have fX := (p9.bx.2 7 _ rfl).2
  have hXU := p9.bx.1
  have HP9 : Hid (∀ U2, Kept (fun b => b ≠ g) U U2 -> Row RVolume 5 (fun b => b < w.heap.size) w U2 79 (.slice (some ⟨g, 0, none⟩) m gc) (L.eraseIdx t) -> PlS w Wp X lv0 [.slice la ln lc, .slice ca cn cc, .map (some cm), .slice va vn vc, .map (some vm), .slice ka kn kc, .map (some km)] NL V V.length (U2.setCell ⟨X, 7, none⟩ (.slice (some ⟨g, 0, none⟩) m gc)) (.slice (some ⟨g, 0, none⟩) m gc) (.slice a9 n9 c9) ((out ++ [(c.1, (V.getD j default).1)]).map Prod.snd) (out ++ [(c.1, (V.getD j default).1)]) /\ U2.cell? ⟨X, 7, none⟩ = some (.slice (some ⟨g, 0, none⟩) gn gc) /\ U2.frozen? ⟨X, 7, none⟩ = false) := fun U2 hk hr => by
   have e1 := zHe hn (NL := NL) (picked := out.map Prod.snd) (k := t) (by rw [<- HL.out, <- Hgn.out]; exact htg)
   rw [<- HL.out, Hnn.out] at e1
   have e2 : (out ++ [(c.1, (V.getD j default).1)]).map Prod.snd = out.map Prod.snd ++ [vn'] := by rw [List.map_append, Hbj.out.2]; rfl
   have e3 : L.eraseIdx t = leftP NL V ((out ++ [(c.1, (V.getD j default).1)]).map Prod.snd) := by rw [e2]; exact e1
   have b2 : BoxL U2 X _ := p9.bx.kept hk hgx.2.2.symm
   refine ⟨?_, (b2.2 7 _ rfl).1, (b2.2 7 _ rfl).2⟩
   have h9 := p9.cut (off' := (out ++ [(c.1, (V.getD j default).1)]).map Prod.snd) hk (by rw [<- e3]; exact hr) (by rw [<- e3, List.length_eraseIdx_of_lt (by rw [<- Hgn.out]; exact htg), <- HL.out, <- Hgn.out]; omega)
   rw [Hcn.out, Hbj.out.2]
   rw [Hcn.out, Hbj.out.2] at h9
   exact h9
  have Hbb : Hid (bestP c NL V (out.map Prod.snd) = some j) := Hbj.out.1
  clear p9 hrow hm Hlen HLl Hl Hin Hnn Hcn Hbj HD Hpu HL Hgn
  go_wp2_with fail
  refine hCd.mono ?_
  rintro e U2 ⟨rfl, r2, k2⟩
  obtain ⟨p10, cX2, fX2⟩ := HP9.out U2 k2 r2
  have hXl : X < U2.heap.size := Nat.lt_of_lt_of_le hXU k2.1
  obtain ⟨U3, hU3⟩ : ∃ U3, U3 = U2.setCell ⟨X, 7, none⟩ (.slice (some ⟨g, 0, none⟩) m gc) := ⟨_, rfl⟩
  rw [<- hU3] at p10
  have HF : Hid (PlS w Wp X lv0 [.slice la ln lc, .slice ca cn cc, .map (some cm), .slice va vn vc, .map (some vm), .slice ka kn kc, .map (some km)] NL V V.length U3 (.slice (some ⟨g, 0, none⟩) m gc) (.slice a9 n9 c9) ((out ++ [(c.1, (V.getD j default).1)]).map Prod.snd) (out ++ [(c.1, (V.getD j default).1)])) := p10
  clear hCd HP9 p10 r2 k2 cX fX
  go_wp2_with fail
  try rw [<- hU3]
  go_ret
  exact .inr ⟨j, _, _, Hbb.out, rfl, by first | exact HF.out | (rw [<- hU3]; exact HF.out)⟩
end Go.Proofs.YtnffafjamiffnaaGreat
