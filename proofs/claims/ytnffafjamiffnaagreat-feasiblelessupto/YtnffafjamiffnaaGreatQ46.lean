/- Functions of the program, each walked under the conditions that its theorem names. -/
import Derived.Test.YtnffafjamiffnaaGreatQ45
set_option linter.unusedSimpArgs false
set_option maxRecDepth 100000
set_option maxHeartbeats 32000000
namespace Go.Proofs.YtnffafjamiffnaaGreat
open Go.RowKit Go.Maps
theorem RInfo.lit0 {A : Where} {w : World} {cs : List Value} {q : InfoD} (h : RInfo A w cs q) : q.1.1.size <= 140737488355328 /\ ∃ i1 i2 i3 i4 i5 i6 i7 i8 i9 i10 i11 i12 i13 i14 : Value, cs = [.string q.1.1, i1, i2, i3, i4, i5, i6, i7, i8, i9, i10, i11, i12, i13, i14] := by
 obtain ⟨_, _, _, _, _, rfl, hz, _⟩ := h.out
 exact ⟨hz, _, _, _, _, _, _, _, _, _, _, _, _, _, _, rfl⟩
theorem AkOut.from {n : Nat} {why : Nat -> Int} {pk : Nat -> List PickD} {w v : World} {e : Ending} {w' : World} (h : AkOut n why pk v e w') (hb : Below w.heap.size w v) : AkOut n why pk w e w' := by
 rcases h with ⟨k, h1, h2, h3, h4, h5⟩ | ⟨h1, a, m, c, h2, h3, h4⟩
 ·exact .inl ⟨k, h1, h2, h3, h4, on2 hb h5⟩
 ·exact .inr ⟨h1, a, m, c, h2, h3, on2 hb h4⟩
def CkOut (y : StateD) (p : PodD) (L : List InfoD) (s : ByteArray) (w : World) (e : Ending) (w' : World) : Prop :=
 (∃ k, k < L.length /\ (∀ j, j < k -> sEq (L.getD j default).1.1 s = false) /\ sEq (L.getD k default).1.1 s = true /\ AkOut 4 (whyF y p (L.getD k default)) (pkF y p (L.getD k default)) w e w') \/
 ((∀ j, j < L.length -> sEq (L.getD j default).1.1 s = false) /\ e = .returned (.tuple #[.int .i64 16, .slice none 0 0]) /\ Below w.heap.size w w')
theorem infoVw12 : (Tryz.prog.info? 123).map (·.size) = some 2 := by kernel_rfl
theorem zF4 (ss : List Value) (x : StateD) (ps : List Value) (p : PodD) (s : ByteArray) (w : World) (hs : RState (fun _ => True) w ss x) (hp : RPod (fun _ => True) w ps p) (hF : ∀ s, FitsP (grpP (firstsP (aroundP x p.1).1) s)) (hb1 : (firstsN (aroundP x p.1).2.1).length * 208 <= 140737488351232) (hb2 : (aroundP x p.1).1.length * 320 <= 140737488351232) (hf : AskFit (aroundP x p.1) p) :
  Calls Tryz.prog 23 #[.agg ss.toArray, .agg ps.toArray, .string s] w (CkOut (aroundP x p.1) p (infosP (aroundP x p.1)) s w) := by
 have hi6 : (Tryz.prog.info? 29).map (·.size) = some ss.length := by rw [RState.firm.len hs]; exact zAS
 have hi16 : (Tryz.prog.info? 49).map (·.size) = some ps.length := by rw [RPod.firm.len hp]; exact zAM
 obtain ⟨W1, hW1⟩ : ∃ W, W = w.alloc (.cells ss.toArray 29) := ⟨_, rfl⟩
 obtain ⟨W2, hW2⟩ : ∃ W, W = W1.alloc (.cells ps.toArray 49) := ⟨_, rfl⟩
 have B1 : Below w.heap.size w W1 := by rw [hW1]; exact (Below.refl _ _).alloc (Nat.le_refl _) _
 have B2 : Below W1.heap.size W1 W2 := by rw [hW2]; exact (Below.refl _ _).alloc (Nat.le_refl _) _
 have z1 : W1.heap.size = w.heap.size + 1 := by rw [hW1]; simp
 have q1 : BoxL W2 w.heap.size ss := by refine BoxL.on ?_ B2; rw [hW1]; exact BoxL.new w 29 ss
 have q2 : BoxL W2 (w.heap.size + 1) ps := by rw [<- z1, hW2]; exact BoxL.new W1 49 ps
 have HR1 : Hid (W2.rangeAt w.heap.size 0 ss) := q1.range
 have HR2 : Hid (W2.rangeAt (w.heap.size + 1) 0 ps) := q2.range
 have l1 := q1.1
 have l2 := q2.1
 have BB : Below w.heap.size w W2 := on2 B1 B2
 have HB2 : Hid (Below w.heap.size w W2) := BB
 have hC := zFM ss x ps p W2 (RState.firm.kept hs (Kept.below BB)) (RPod.firm.kept hp (Kept.below BB)) hF hb1 hb2
 have HPd : Hid (∀ u, Below W2.heap.size W2 u -> RPod (fun _ => True) u ps p) := fun u hu => RPod.firm.kept hp (Kept.below (on2 BB hu))
 have hil : (infosP (aroundP x p.1)).length * 208 <= 140737488351232 := by unfold infosP; rw [List.length_map]; exact hb1
 clear hs hp B1 B2 z1 q1 q2 BB hF hb1 hb2
 generalize aroundP x p.1 = y at hC hf hil |-
 go_enter Tryz.func23, Tryz.ntmps23
 go_upto_region 1 with fail
 rw [<- hW1, <- hW2]
 clear hW1 hW2
 go_wp2_with (first | (refine wpList_load_mid rfl 29 _ rfl w.heap.size 0 rfl ss _ HR1.out Tryz.underlying29 rfl hi6 ?_) | (refine wpList_load_mid rfl 49 _ rfl (w.heap.size + 1) 0 rfl ps _ HR2.out Tryz.underlying49 rfl hi16 ?_) | fail)
 refine hC.mono ?_
 rintro e u1 ⟨ia, ic, ds, Bs, Bp, Bl, Bq, b, m, c, rfl, si, hds, hqs, d1⟩
 clear hC HR1 HR2 l1 l2
 generalize hIL : infosP y = L at si hil |-
 have HIL : Hid (infosP y = L) := hIL
 clear hIL
 obtain ⟨il, hil9⟩ : ∃ l, L.length = l := ⟨_, rfl⟩
 have HL : Hid (L.length = il) := hil9
 rw [hil9] at si hil |-
 clear hil9
 obtain ⟨Z, hZ⟩ : ∃ Z, Z = (u1.alloc (.cells #[.slice none 0 0, .slice none 0 0] 123)).setCells u1.heap.size 0 [.slice ia il ic, .slice (some ⟨Bq, 0, none⟩) 4 4] := ⟨_, rfl⟩
 have HTH : Hid ((u1.alloc (.cells #[.slice none 0 0, .slice none 0 0] 123)).there u1.heap.size 0 2) := (BoxL.new u1 123 [.slice none 0 0, .slice none 0 0]).there
 have HBX : Hid (BoxL Z u1.heap.size [.slice ia il ic, .slice (some ⟨Bq, 0, none⟩) 4 4]) := by rw [hZ]; exact zAz u1 123 [.slice none 0 0, .slice none 0 0] [.slice ia il ic, .slice (some ⟨Bq, 0, none⟩) 4 4] rfl
 have HZ : Hid (Z = (u1.alloc (.cells #[.slice none 0 0, .slice none 0 0] 123)).setCells u1.heap.size 0 (([.slice ia il ic, .slice (some ⟨Bq, 0, none⟩) 4 4] : List Value).toArray).toList) := hZ
 have H1 : Hid ((([.slice ia il ic, .slice (some ⟨Bq, 0, none⟩) 4 4] : List Value).toArray).all (·.oneCell') = true) := by simp [Hid, Value.oneCell']
 have d2 : Below u1.heap.size u1 Z := by rw [hZ]; exact zA0 ((Below.refl _ _).alloc (Nat.le_refl _) _) (Nat.le_refl _)
 have hi2 : (Tryz.prog.info? 123).map (·.size) = some ([.slice ia il ic, .slice (some ⟨Bq, 0, none⟩) 4 4] : List Value).length := infoVw12
 have HZB : Hid (Below w.heap.size w Z) := on2 HB2.out (on2 d1 d2)
 have HU : Hid (∀ u, Below Z.heap.size Z u -> SlAt RInfo 15 208 (fun _ => True) u ia il ic L /\ RState (fun _ => True) u ds y /\ RPod (fun _ => True) u ps p /\ QsAt (fun _ => True) ds y ps Bs Bp Bl Bq b m c u /\ BoxL u u1.heap.size [.slice ia il ic, .slice (some ⟨Bq, 0, none⟩) 4 4]) := fun u hu => ⟨si.on RInfo.firm (on2 d2 hu), RState.firm.kept hds (Kept.below (on2 d2 hu)), HPd.out u (on2 d1 (on2 d2 hu)), hqs.on (on2 d2 hu), HBX.out.on hu⟩
 have f0 := (HBX.out.2 0 _ rfl).1
 have lZ := HBX.out.1
 have H0 : Hid (Below Z.heap.size Z Z) := Below.refl _ _
 clear si hds hqs hZ d1 d2 HBX HPd HB2
 go_upto_region 2 with (first | (refine wpList_store_mid rfl 123 _ _ rfl u1.heap.size 0 (([.slice ia il ic, .slice (some ⟨Bq, 0, none⟩) 4 4] : List Value).toArray) rfl rfl HTH.out hi2 H1.out ?_; refine zAH HZ.out ?_) | fail)
 clear HTH HZ H1
 go_wp2_with fail
 go_loopw [17] (fun j wr => ∃ k : Nat, k <= il /\ j = .int .i64 k /\ Hid (Below Z.heap.size Z wr /\ ∀ j, j < k -> sEq (L.getD j default).1.1 s = false)) (fun j _ => il - (intOf j).toNat)
 case atStart => exact ⟨0, Nat.zero_le _, rfl, H0.out, fun j h => by omega⟩
 case round =>
  obtain ⟨k, hk, rfl, hst⟩ := hrel
  have hbr : Below Z.heap.size Z wr := hst.out.1
  obtain ⟨si, hds, hpd, hqs, qV⟩ := HU.out wr hbr
  by_cases hlt : k < il
  ·have hltz : (k : Int) < (il : Int) := by omega
   obtain ⟨B, off, hBe, hBl, hBs, xs, hrn, hv⟩ := si.get hlt
   subst hBe
   have HLk : Hid (k < L.length) := by rw [Hid, HL.out]; exact hlt
   generalize hx9 : L.getD k default = x9 at hrn
   have HX9 : Hid (L.getD k default = x9) := hx9
   clear hx9
   obtain ⟨hsx, v1, v2, v3, v4, v5, v6, v7, v8, v9, v10, v11, v12, v13, v14, rfl⟩ := hrn.lit0
   have HV : Hid (wr.rangeAt B (off + k * 15) [.string x9.1.1, v1, v2, v3, v4, v5, v6, v7, v8, v9, v10, v11, v12, v13, v14]) := hv
   have hi : (Tryz.prog.info? 63).map (·.size) = some ([.string x9.1.1, v1, v2, v3, v4, v5, v6, v7, v8, v9, v10, v11, v12, v13, v14] : List Value).length := zBT
   have H1 : Hid ((([.string x9.1.1, v1, v2, v3, v4, v5, v6, v7, v8, v9, v10, v11, v12, v13, v14] : List Value).toArray).all (·.oneCell') = true) := all_oneCell_toArray (RInfo.firm.one hrn)
   obtain ⟨wb, hwb⟩ : ∃ wb, wb = (wr.alloc (.cells #[.string ⟨#[]⟩, .slice none 0 0, .slice none 0 0, .bool false, .int .i64 0, .int .i64 0, .int .i64 0, .int .i64 0, .int .i64 0, .slice none 0 0, .int .i64 0, .int .i64 0, .int .i64 0, .slice none 0 0, .slice none 0 0] 63)).setCells wr.heap.size 0 [.string x9.1.1, v1, v2, v3, v4, v5, v6, v7, v8, v9, v10, v11, v12, v13, v14] := ⟨_, rfl⟩
   have HTH : Hid ((wr.alloc (.cells #[.string ⟨#[]⟩, .slice none 0 0, .slice none 0 0, .bool false, .int .i64 0, .int .i64 0, .int .i64 0, .int .i64 0, .int .i64 0, .slice none 0 0, .int .i64 0, .int .i64 0, .int .i64 0, .slice none 0 0, .slice none 0 0] 63)).there wr.heap.size 0 15) := (BoxL.new wr 63 [.string ⟨#[]⟩, .slice none 0 0, .slice none 0 0, .bool false, .int .i64 0, .int .i64 0, .int .i64 0, .int .i64 0, .int .i64 0, .slice none 0 0, .int .i64 0, .int .i64 0, .int .i64 0, .slice none 0 0, .slice none 0 0]).there
   have HBX : Hid (BoxL wb wr.heap.size [.string x9.1.1, v1, v2, v3, v4, v5, v6, v7, v8, v9, v10, v11, v12, v13, v14]) := by rw [hwb]; exact zAz wr 63 [.string ⟨#[]⟩, .slice none 0 0, .slice none 0 0, .bool false, .int .i64 0, .int .i64 0, .int .i64 0, .int .i64 0, .int .i64 0, .slice none 0 0, .int .i64 0, .int .i64 0, .int .i64 0, .slice none 0 0, .slice none 0 0] [.string x9.1.1, v1, v2, v3, v4, v5, v6, v7, v8, v9, v10, v11, v12, v13, v14] rfl
   have hbb : Below wr.heap.size wr wb := by rw [hwb]; exact zA0 ((Below.refl _ _).alloc (Nat.le_refl _) _) (Nat.le_refl _)
   have HBB : Hid (Below wr.heap.size wr wb) := hbb
   have HWB : Hid (wb = (wr.alloc (.cells #[.string ⟨#[]⟩, .slice none 0 0, .slice none 0 0, .bool false, .int .i64 0, .int .i64 0, .int .i64 0, .int .i64 0, .int .i64 0, .slice none 0 0, .int .i64 0, .int .i64 0, .int .i64 0, .slice none 0 0, .slice none 0 0] 63)).setCells wr.heap.size 0 (([.string x9.1.1, v1, v2, v3, v4, v5, v6, v7, v8, v9, v10, v11, v12, v13, v14] : List Value).toArray).toList) := hwb
   clear hwb
   have c0 := (HBX.out.2 0 _ rfl).1
   have HRG : Hid (wb.rangeAt wr.heap.size 0 [.string x9.1.1, v1, v2, v3, v4, v5, v6, v7, v8, v9, v10, v11, v12, v13, v14]) := HBX.out.range
   have HRV : Hid (wb.rangeAt u1.heap.size 0 [.slice (some ⟨B, off, none⟩) il ic, .slice (some ⟨Bq, 0, none⟩) 4 4]) := (qV.on hbb).range
   have lV := (qV.on hbb).1
   have hlb := HBX.out.1
   have hC := zEb (.slice (some ⟨B, off, none⟩) il ic) ds y ps p Bs Bp Bl Bq b m c [.string x9.1.1, v1, v2, v3, v4, v5, v6, v7, v8, v9, v10, v11, v12, v13, v14] x9 wb (RState.firm.kept hds (Kept.below hbb)) (RPod.firm.kept hpd (Kept.below hbb)) (RInfo.firm.kept hrn (Kept.below hbb)) (hqs.on hbb) hf
   have hq : (x9.1.1.toList == s.toList) = sEq x9.1.1 s := rfl
   obtain ⟨bo, hbo⟩ : ∃ b, sEq x9.1.1 s = b := ⟨_, rfl⟩
   rw [hbo] at hq
   have HBo : Hid (sEq x9.1.1 s = bo) := hbo
   clear hbo hrn hv si hds hpd hqs qV hbb HBX
   cases bo
   ·go_wp2_with (first | (refine wpList_load_mid rfl 63 _ rfl B (off + k * 15) rfl [.string x9.1.1, v1, v2, v3, v4, v5, v6, v7, v8, v9, v10, v11, v12, v13, v14] _ HV.out Tryz.underlying63 rfl hi ?_) | (refine wpList_store_mid rfl 63 _ _ rfl wr.heap.size 0 (([.string x9.1.1, v1, v2, v3, v4, v5, v6, v7, v8, v9, v10, v11, v12, v13, v14] : List Value).toArray) rfl rfl HTH.out hi H1.out ?_; refine zAH HWB.out ?_) | fail)
    clear hC
    have HN : Hid (Below Z.heap.size Z wb /\ ∀ j, j < k + 1 -> sEq (L.getD j default).1.1 s = false) := ⟨on2 hbr HBB.out, fun j hj => by
     by_cases e : j = k
     ·rw [e, HX9.out]; exact HBo.out
     ·exact hst.out.2 j (by omega)⟩
    go_roundw
    case rel => exact ⟨k + 1, by omega, by go_num, HN⟩
    case measure => simp [intOf]; omega
   ·go_wp2_with (first | (refine wpList_load_mid rfl 63 _ rfl B (off + k * 15) rfl [.string x9.1.1, v1, v2, v3, v4, v5, v6, v7, v8, v9, v10, v11, v12, v13, v14] _ HV.out Tryz.underlying63 rfl hi ?_) | (refine wpList_store_mid rfl 63 _ _ rfl wr.heap.size 0 (([.string x9.1.1, v1, v2, v3, v4, v5, v6, v7, v8, v9, v10, v11, v12, v13, v14] : List Value).toArray) rfl rfl HTH.out hi H1.out ?_; refine zAH HWB.out ?_) | (refine wpList_load_mid rfl 123 _ rfl u1.heap.size 0 rfl [.slice (some ⟨B, off, none⟩) il ic, .slice (some ⟨Bq, 0, none⟩) 4 4] _ HRV.out Tryz.underlying123 rfl hi2 ?_) | (refine wpList_load_mid rfl 63 _ rfl wr.heap.size 0 rfl [.string x9.1.1, v1, v2, v3, v4, v5, v6, v7, v8, v9, v10, v11, v12, v13, v14] _ HRG.out Tryz.underlying63 rfl hi ?_) | fail)
    have HO : Hid (∀ e w', AkOut 4 (whyF y p x9) (pkF y p x9) wb e w' -> CkOut y p L s w e w') := fun e w' h => .inl ⟨k, HLk.out, hst.out.2, by rw [HX9.out]; exact HBo.out, by rw [HX9.out]; exact h.from (on2 HZB.out (on2 hbr HBB.out))⟩
    refine hC.mono ?_
    clear hC
    intro e u5 hak
    have HAK : Hid (CkOut y p (infosP y) s w e u5) := by rw [Hid, HIL.out]; exact HO.out e u5 hak
    rcases hak with ⟨kk, _, _, _, rfl, _⟩ | ⟨_, a7, m7, c7, rfl, _, _⟩
    ·--M8
     clear HO
     go_wp2_with fail
     go_ret2
     exact HAK.out
    ·clear HO
     go_wp2_with fail
     go_ret2
     exact HAK.out
  ·obtain rfl : il = k := by omega
   have HE : Hid (CkOut y p (infosP y) s w (.returned (.tuple #[.int .i64 16, .slice none 0 0])) wr) := by
    rw [Hid, HIL.out]
    exact .inr ⟨by rw [HL.out]; exact hst.out.2, rfl, on2 HZB.out hbr⟩
   clear hst hbr si hds hpd hqs qV
   go_wp2_with fail
   go_ret2
   exact HE.out
def askP (y : StateD) (p : PodD) (i : InfoD) : Int × List PickD :=
 if whyF y p i 0 ≠ 0 then (whyF y p i 0, []) else if whyF y p i 1 ≠ 0 then (whyF y p i 1, []) else if whyF y p i 2 ≠ 0 then (whyF y p i 2, []) else if whyF y p i 3 ≠ 0 then (whyF y p i 3, []) else (0, (planQ p i y).1)
def ansP (y : StateD) (p : PodD) (s : ByteArray) : Int × List PickD :=
 match (infosP y).find? (fun i : InfoD => sEq i.1.1 s) with
 | none => (16, [])
 | some i => askP y p i
def CkR (r : Int × List PickD) (w : World) (e : Ending) (w' : World) : Prop := ∃ a n c, e = .returned (.tuple #[.int .i64 r.1, .slice a n c]) /\ SlAt RLabel 2 32 (fun _ => True) w' a n c r.2 /\ Below w.heap.size w w'
theorem AkOut.ans {y : StateD} {p : PodD} {i : InfoD} {w : World} {e : Ending} {w' : World} (h : AkOut 4 (whyF y p i) (pkF y p i) w e w') : CkR (askP y p i) w e w' := by
 have hno : ∀ {j : Nat}, whyF y p i j = 0 -> ¬ (whyF y p i j ≠ 0) := fun h h2 => h2 h
 rcases h with ⟨k, hk, h0, h1, rfl, hb⟩ | ⟨h0, a, m, c, rfl, hs, hb⟩
 ·have ha : askP y p i = (whyF y p i k, []) := by
   unfold askP
   rcases (show k = 0 \/ k = 1 \/ k = 2 \/ k = 3 by omega) with rfl | rfl | rfl | rfl
   ·rw [if_pos h1]
   ·rw [if_neg (hno (h0 0 (by omega))), if_pos h1]
   ·rw [if_neg (hno (h0 0 (by omega))), if_neg (hno (h0 1 (by omega))), if_pos h1]
   ·rw [if_neg (hno (h0 0 (by omega))), if_neg (hno (h0 1 (by omega))), if_neg (hno (h0 2 (by omega))), if_pos h1]
  rw [ha]
  exact ⟨none, 0, 0, rfl, SlAt.nil _ _ _ _ (fun _ => rfl), hb⟩
 ·have ha : askP y p i = (0, (planQ p i y).1) := by
   unfold askP
   rw [if_neg (hno (h0 0 (by omega))), if_neg (hno (h0 1 (by omega))), if_neg (hno (h0 2 (by omega))), if_neg (hno (h0 3 (by omega)))]
  rw [ha]
  rw [pkF_all] at hs
  exact ⟨a, m, c, rfl, hs, hb⟩
theorem zEv {α : Type} [Inhabited α] {f : α -> Bool} : ∀ {L : List α} {k : Nat}, k < L.length -> (∀ j, j < k -> f (L.getD j default) = false) -> f (L.getD k default) = true -> L.find? f = some (L.getD k default)
 | [], k, h, _, _ => by simp at h
 | a :: L, 0, _, _, h => by
  rw [List.getD_cons_zero] at h |-
  rw [List.find?_cons, h]
 | a :: L, k + 1, hk, h0, h => by
  have h1 := h0 0 (by omega)
  rw [List.getD_cons_zero] at h1
  rw [List.getD_cons_succ] at h |-
  rw [List.find?_cons, h1]
  exact zEv (by simpa using hk) (fun j hj => by have := h0 (j + 1) (by omega); rwa [List.getD_cons_succ] at this) h
theorem zEn {α : Type} [Inhabited α] {f : α -> Bool} : ∀ {L : List α}, (∀ j, j < L.length -> f (L.getD j default) = false) -> L.find? f = none
 | [], _ => rfl
 | a :: L, h0 => by
  have h1 := h0 0 (by simp)
  rw [List.getD_cons_zero] at h1
  rw [List.find?_cons, h1]
  exact zEn (fun j hj => by have := h0 (j + 1) (by simpa using hj); rwa [List.getD_cons_succ] at this)
theorem CkOut.ans {y : StateD} {p : PodD} {s : ByteArray} {w : World} {e : Ending} {w' : World} (h : CkOut y p (infosP y) s w e w') : CkR (ansP y p s) w e w' := by
 unfold ansP
 rcases h with ⟨k, hk, h0, h1, h2⟩ | ⟨h0, rfl, hb⟩
 ·rw [zEv (f := fun i : InfoD => sEq i.1.1 s) hk h0 h1]
  exact h2.ans
 ·rw [zEn (f := fun i : InfoD => sEq i.1.1 s) h0]
  exact ⟨none, 0, 0, rfl, SlAt.nil _ _ _ _ (fun _ => rfl), hb⟩
structure FeFit (x : StateD) (p : PodD) : Prop where
 grp : ∀ s, FitsP (grpP (firstsP (aroundP x p.1).1) s)
 nod : (firstsN (aroundP x p.1).2.1).length * 208 <= 140737488351232
 pod : (aroundP x p.1).1.length * 320 <= 140737488351232
 ask : AskFit (aroundP x p.1) p
theorem zB8 (ss : List Value) (x : StateD) (ps : List Value) (p : PodD) (s : ByteArray) (w : World) (hs : RState (fun _ => True) w ss x) (hp : RPod (fun _ => True) w ps p) (hf : FeFit x p) :
  Calls Tryz.prog 23 #[.agg ss.toArray, .agg ps.toArray, .string s] w (CkR (ansP (aroundP x p.1) p s) w) :=
 (zF4 ss x ps p s w hs hp hf.grp hf.nod hf.pod hf.ask).mono (fun _ _ h => h.ans)
theorem zAP {α : Type} (f : α -> Nat) (g : α -> Bool) : ∀ L : List α, sumBy f (L.filter g) <= sumBy f L
 | [] => Nat.le_refl _
 | a :: L => by
  have h := zAP f g L
  rw [List.filter_cons]
  unfold sumBy at *
  split
  ·simp only [List.map_cons, List.sum_cons]; omega
  ·simp only [List.map_cons, List.sum_cons]; omega
theorem zCK (f : PodD -> Nat) (L : List PodD) : sumBy f (firstsP L) <= sumBy f L := by
 have := fst_sum f L []
 unfold firstsP
 simpa [sumBy] using this
theorem zC8 {α : Type} {f g : α -> Nat} (h : ∀ x, f x <= g x) : ∀ L : List α, sumBy f L <= sumBy g L
 | [] => Nat.le_refl _
 | a :: L => by
  have := zC8 h L
  have := h a
  unfold sumBy at *
  simp only [List.map_cons, List.sum_cons]
  omega
theorem zCa {st : VC} {K : List ClassD} {NL : List Lab} : ∀ {claims : List ByteArray} {out l : List PickD}, planL st K NL claims out = .ok l -> l.length <= out.length + claims.length
 | [], out, l, h => by
  unfold planL at h
  cases h
  simp
 | c :: claims, out, l, h => by
  unfold planL at h
  cases e : stepP st K NL (out.map Prod.snd) c with
  | error x => rw [e] at h; cases h
  | ok o =>
   rw [e] at h
   cases o with
   | none =>
    have := zCa h
    simp only [List.length_cons]
    omega
   | some pk =>
    have := zCa h
    simp only [List.length_cons, List.length_append, List.length_nil] at *
    omega
theorem planQ_len (p : PodD) (i : InfoD) (y : StateD) : (planQ p i y).1.length <= (pClm p).length := by
 unfold planQ planP
 cases e : planL (allL Prod.fst (sVs y), sCs y) (sKs y) (iLabs i) (allL id (pClm p)) [] with
 | error x => simp
 | ok l =>
  have h1 := zCa e
  have h2 := zD2 id (pClm p)
  simp only
  split
  ·simp
  ·simp only [List.length_nil] at h1; show l.length <= _; omega
theorem zC0 {α : Type} : ∀ L : List α, sumBy (fun _ => 1) L = L.length
 | [] => rfl
 | _ :: L => by have := zC0 L; simp only [sumBy, List.map_cons, List.sum_cons, List.length_cons] at this |-; omega
def bPod (x : PodD) : Nat := 1 + (pPorts x).length + (pNear x).length + (pApart x).length + (pClaims x).length
theorem zHk (p : PodD) : pClm p = pClaims p := rfl
theorem zCP {x : StateD} {p : PodD} (h : sumBy bPod x.1 + x.2.1.length + bPod p <= 16777216) : FeFit x p := by
 have hb : ∀ f : PodD -> Nat, (∀ q, f q <= bPod q) -> sumBy f (aroundP x p.1).1 <= sumBy bPod x.1 := fun f hf => by
  have h1 := zCK f (x.1.filter (fun q : PodD => !hasB sEq [p.1] q.1))
  have h2 := zAP f (fun q : PodD => !hasB sEq [p.1] q.1) x.1
  have h3 := zC8 hf x.1
  show sumBy f (firstsP (x.1.filter (fun q : PodD => !hasB sEq [p.1] q.1))) <= _
  omega
 have hl : (aroundP x p.1).1.length <= sumBy bPod x.1 := by
  have h1 := hb (fun _ => 1) (fun q => by unfold bPod; omega)
  rw [zC0] at h1
  exact h1
 have hn : (firstsN (aroundP x p.1).2.1).length <= x.2.1.length := Nat.le_trans (zAr _) (zAr _)
 refine ⟨fun s => ?_, by omega, by omega, ?_, ?_, ?_, fun i => ?_⟩
 ·have h1 : ∀ f : PodD -> Nat, (∀ q, f q <= bPod q) -> sumBy f (grpP (firstsP (aroundP x p.1).1) s) <= sumBy bPod x.1 := fun f hf => by
   have h1 := zAP f (fun q => sEq (pNode q) s && !sEq (pNode q) ⟨#[]⟩) (firstsP (aroundP x p.1).1)
   have h2 := zCK f (aroundP x p.1).1
   have h3 := hb f hf
   unfold grpP
   omega
  have p1 := h1 (fun q => (pPorts q).length) (fun q => by unfold bPod; omega)
  have p2 := h1 (fun q => (pClaims q).length) (fun q => by unfold bPod; omega)
  exact ⟨by omega, by omega⟩
 ·unfold bPod at h; omega
 ·unfold bPod at h; omega
 ·have h1 : cost (placedP (aroundP x p.1)) <= sumBy bPod x.1 := by
   have h2 := hb (fun q => 1 + (pApart q).length) (fun q => by unfold bPod; omega)
   have h3 := zAP (fun q : PodD => 1 + (pApart q).length) (fun q => !sEq (pNode q) ⟨#[]⟩) (aroundP x p.1).1
   have h4 : cost (placedP (aroundP x p.1)) = sumBy (fun q : PodD => 1 + (pApart q).length) ((aroundP x p.1).1.filter (fun q => !sEq (pNode q) ⟨#[]⟩)) := by
    unfold cost placedP sumBy
    rw [List.map_map]
    rfl
   omega
  omega
 ·have h1 := planQ_len p i (aroundP x p.1)
  rw [zHk] at h1
  unfold bPod at h
  omega
theorem zDY {A0 A1 A2 A3 A4 A5 : Where} {w u : World} {g0 g1 g2 g3 g4 g5 : Value} {x : StateD} (r0 : Row RPod 16 A0 w u 49 g0 x.1) (r1 : Row RNode 9 A1 w u 54 g1 x.2.1) (r2 : Row RVolume 5 A2 w u 79 g2 x.2.2.1) (r3 : Row RClaim 4 A3 w u 96 g3 x.2.2.2.1) (r4 : Row RClass 2 A4 w u 99 g4 x.2.2.2.2.1) (r5 : Row RBudget 3 A5 w u 82 g5 x.2.2.2.2.2) {A : Where} {wz : World} {cs : List Value} {y : StateD} (hR : RState A wz cs y) (e0 : x.1.length <= y.1.length) (e1 : x.2.1.length <= y.2.1.length) (e2 : x.2.2.1.length <= y.2.2.1.length) (e3 : x.2.2.2.1.length <= y.2.2.2.1.length) (e4 : x.2.2.2.2.1.length <= y.2.2.2.2.1.length) (e5 : x.2.2.2.2.2.length <= y.2.2.2.2.2.length) :
  RState (fun _ => True) u [g0, g1, g2, g3, g4, g5] x := by
 obtain ⟨h0, h1, h2, h3, h4, h5, -, s0, s1, s2, s3, s4, s5⟩ := hR.out
 have b0 := s0.2.2.2.1
 have b1 := s1.2.2.2.1
 have b2 := s2.2.2.2.1
 have b3 := s3.2.2.2.1
 have b4 := s4.2.2.2.1
 have b5 := s5.2.2.2.1
 have l0 := s0.1
 have l1 := s1.1
 have l2 := s2.1
 have l3 := s3.1
 have l4 := s4.1
 have l5 := s5.1
 obtain ⟨a0, n0, m0, rfl, t0⟩ := r0.sl10 (bytes := 296) RPod.firm (by omega)
 obtain ⟨a1, n1, m1, rfl, t1⟩ := r1.sl10 (bytes := 112) RNode.firm (by omega)
 obtain ⟨a2, n2, m2, rfl, t2⟩ := r2.sl10 (bytes := 80) RVolume.firm (by omega)
 obtain ⟨a3, n3, m3, rfl, t3⟩ := r3.sl10 (bytes := 56) RClaim.firm (by omega)
 obtain ⟨a4, n4, m4, rfl, t4⟩ := r4.sl10 (bytes := 24) RClass.firm (by omega)
 obtain ⟨a5, n5, m5, rfl, t5⟩ := r5.sl10 (bytes := 48) RBudget.firm (by omega)
 exact RState.mk (x := x) (h0 := (a0, n0, m0)) (h1 := (a1, n1, m1)) (h2 := (a2, n2, m2)) (h3 := (a3, n3, m3)) (h4 := (a4, n4, m4)) (h5 := (a5, n5, m5)) t0 t1 t2 t3 t4 t5
abbrev podS (n : UInt8) (c : Int) : PodD := (⟨#[n]⟩, 0, [], (c, 0, 0), [], [], [], [], [], [], [], [], ⟨#[]⟩, ⟨#[]⟩)
abbrev podC (n : UInt8) (c : Int) : List Value := [.string ⟨#[n]⟩, .int .i64 0, .slice none 0 0, .int .i64 c, .int .i64 0, .int .i64 0, .slice none 0 0, .slice none 0 0, .slice none 0 0, .slice none 0 0, .slice none 0 0, .slice none 0 0, .slice none 0 0, .slice none 0 0, .string ⟨#[]⟩, .string ⟨#[]⟩]
abbrev nodC : List Value := [.string ⟨#[110]⟩, .slice none 0 0, .slice none 0 0, .bool false, .int .i64 1000, .int .i64 0, .int .i64 0, .int .i64 9, .int .i64 0]
def smD : StateD := ([podS 97 500, podS 98 600], [(⟨#[110]⟩, [], [], false, (1000, 0, 0), 9, 0)], [], [], [], [])
theorem zAJ {α : Type} [Inhabited α] {R : Rep α} {k bytes : Nat} (A : Where) (u : World) : SlAt R k bytes A u none 0 0 [] := ⟨rfl, Nat.le_refl _, fun _ => rfl, by omega, fun h => absurd h (Nat.lt_irrefl _)⟩
theorem zGS {α : Type} [Inhabited α] {R : Rep α} {k bytes : Nat} {A : Where} {u : World} {B n : Nat} {cs : List Value} {L : List α} (hb : BoxL u B cs) (hA : A B) (hn : L.length = n) (hby : n * bytes <= 140737488351232) (h : ∀ i, i < n -> ∃ ds, R A u ds (L.getD i default) /\ ∀ j v, ds[j]? = some v -> cs[i * k + j]? = some v) : SlAt R k bytes A u (some ⟨B, 0, none⟩) n n L :=
 ⟨hn, Nat.le_refl _, (fun e => by cases e), hby, fun _ => ⟨B, 0, rfl, hb.1, hA, fun i hi => by
  obtain ⟨ds, h1, h2⟩ := h i hi
  refine ⟨ds, h1, fun j v hj => ?_⟩
  have := (hb.2 _ _ (h2 j v hj)).1
  rwa [Nat.zero_add]⟩⟩
theorem bz11 (n : UInt8) : (⟨#[n]⟩ : ByteArray).size <= 140737488355328 := by show 1 <= _; omega
theorem bn11 : (⟨#[]⟩ : ByteArray).size <= 140737488355328 := by decide
theorem zCs (A : Where) (u : World) (n : UInt8) (c : Int) : RPod A u (podC n c) (podS n c) :=
 RPod.mk (x := podS n c) (h2 := (none, 0, 0)) (h6 := (none, 0, 0)) (h7 := (none, 0, 0)) (h8 := (none, 0, 0)) (h9 := (none, 0, 0)) (h10 := (none, 0, 0)) (h11 := (none, 0, 0)) (h12 := (none, 0, 0)) (h13 := (none, 0, 0)) (bz11 _) (zAJ _ _) (zAJ _ _) (zAJ _ _) (zAJ _ _) (zAJ _ _) (zAJ _ _) (zAJ _ _) (zAJ _ _) (zAJ _ _) bn11 bn11
abbrev smC (b : Nat) : List Value := [.slice (some ⟨b + 1, 0, none⟩) 2 2, .slice (some ⟨b, 0, none⟩) 1 1, .slice none 0 0, .slice none 0 0, .slice none 0 0, .slice none 0 0]
theorem sm_at {u : World} {b : Nat} (q1 : BoxL u b nodC) (q2 : BoxL u (b + 1) (podC 97 500 ++ podC 98 600)) : RState (fun _ => True) u (smC b) smD := by
 have sN : SlAt RNode 9 112 (fun _ => True) u (some ⟨b, 0, none⟩) 1 1 smD.2.1 := zGS q1 trivial rfl (by decide) (fun i hi => by
  obtain rfl : i = 0 := by omega
  exact ⟨_, RNode.mk (x := (⟨#[110]⟩, [], [], false, (1000, 0, 0), 9, 0)) (h1 := (none, 0, 0)) (h2 := (none, 0, 0)) (bz11 _) (zAJ _ _) (zAJ _ _), fun j v hj => by rw [Nat.zero_mul, Nat.zero_add]; exact hj⟩)
 have sP : SlAt RPod 16 296 (fun _ => True) u (some ⟨b + 1, 0, none⟩) 2 2 smD.1 := zGS q2 trivial rfl (by decide) (fun i hi => by
  rcases (show i = 0 \/ i = 1 by omega) with rfl | rfl
  ·exact ⟨_, zCs _ _ 97 500, fun j v hj => by
    rw [Nat.zero_mul, Nat.zero_add, List.getElem?_append_left (List.getElem?_eq_some_iff.1 hj).1]; exact hj⟩
  ·exact ⟨_, zCs _ _ 98 600, fun j v hj => by
    rw [List.getElem?_append_right (by show 16 <= _; omega)]
    show (podC 98 600)[1 * 16 + j - 16]? = some v
    rw [show 1 * 16 + j - 16 = j by omega]; exact hj⟩)
 exact RState.mk (x := smD) (h0 := (some ⟨b + 1, 0, none⟩, 2, 2)) (h1 := (some ⟨b, 0, none⟩, 1, 1)) (h2 := (none, 0, 0)) (h3 := (none, 0, 0)) (h4 := (none, 0, 0)) (h5 := (none, 0, 0)) sP sN (zAJ _ _) (zAJ _ _) (zAJ _ _) (zAJ _ _)
def SmOut (w : World) (e : Ending) (u : World) : Prop := ∃ b, e = .returned (.agg #[.slice (some ⟨b + 1, 0, none⟩) 2 2, .slice (some ⟨b, 0, none⟩) 1 1, .slice none 0 0, .slice none 0 0, .slice none 0 0, .slice none 0 0]) /\ BoxL u b nodC /\ BoxL u (b + 1) (podC 97 500 ++ podC 98 600) /\ w.heap.size <= b /\ Below w.heap.size w u
theorem zGF (w : World) : Calls Tryz.prog 48 #[] w (SmOut w) := by
 go_enter Tryz.func48, Tryz.ntmps48
 go_wp2_with fail
 obtain ⟨W1, hW1⟩ : ∃ W, W = w.alloc (.cells #[.slice (some ⟨w.heap.size + 1 + 1, 0, none⟩) 2 2, .slice (some ⟨w.heap.size + 1, 0, none⟩) 1 1, .slice none 0 0, .slice none 0 0, .slice none 0 0, .slice none 0 0] 29) := ⟨_, rfl⟩
 obtain ⟨W2, hW2⟩ : ∃ W, W = W1.alloc (.cells #[.string ⟨#[110]⟩, .slice none 0 0, .slice none 0 0, .bool false, .int .i64 1000, .int .i64 0, .int .i64 0, .int .i64 9, .int .i64 0] 54) := ⟨_, rfl⟩
 obtain ⟨W3, hW3⟩ : ∃ W, W = W2.alloc (.cells #[.string ⟨#[97]⟩, .int .i64 0, .slice none 0 0, .int .i64 500, .int .i64 0, .int .i64 0, .slice none 0 0, .slice none 0 0, .slice none 0 0, .slice none 0 0, .slice none 0 0, .slice none 0 0, .slice none 0 0, .slice none 0 0, .string ⟨#[]⟩, .string ⟨#[]⟩, .string ⟨#[98]⟩, .int .i64 0, .slice none 0 0, .int .i64 600, .int .i64 0, .int .i64 0, .slice none 0 0, .slice none 0 0, .slice none 0 0, .slice none 0 0, .slice none 0 0, .slice none 0 0, .slice none 0 0, .slice none 0 0, .string ⟨#[]⟩, .string ⟨#[]⟩] 49) := ⟨_, rfl⟩
 rw [<- hW1, <- hW2, <- hW3]
 have B1 : Below w.heap.size w W1 := by rw [hW1]; exact (Below.refl _ _).alloc (Nat.le_refl _) _
 have B2 : Below W1.heap.size W1 W2 := by rw [hW2]; exact (Below.refl _ _).alloc (Nat.le_refl _) _
 have B3 : Below W2.heap.size W2 W3 := by rw [hW3]; exact (Below.refl _ _).alloc (Nat.le_refl _) _
 have z1 : W1.heap.size = w.heap.size + 1 := by rw [hW1]; simp
 have z2 : W2.heap.size = w.heap.size + 1 + 1 := by rw [hW2]; simp [z1]
 have q0 : BoxL W3 w.heap.size [.slice (some ⟨w.heap.size + 1 + 1, 0, none⟩) 2 2, .slice (some ⟨w.heap.size + 1, 0, none⟩) 1 1, .slice none 0 0, .slice none 0 0, .slice none 0 0, .slice none 0 0] := by refine BoxL.on (BoxL.on ?_ B2) B3; rw [hW1]; exact BoxL.new w 29 _
 have q1 : BoxL W3 (w.heap.size + 1) nodC := by refine BoxL.on ?_ B3; rw [<- z1, hW2]; exact BoxL.new W1 54 _
 have q2 : BoxL W3 (w.heap.size + 1 + 1) (podC 97 500 ++ podC 98 600) := by rw [<- z2, hW3]; exact BoxL.new W2 49 _
 have HE : Hid (BoxL W3 (w.heap.size + 1) nodC /\ BoxL W3 (w.heap.size + 1 + 1) (podC 97 500 ++ podC 98 600) /\ Below w.heap.size w W3) := ⟨q1, q2, on2 (on2 B1 B2) B3⟩
 have e0 := (q0.2 0 _ rfl).1
 have e1 := (q0.2 1 _ rfl).1
 have e2 := (q0.2 2 _ rfl).1
 have e3 := (q0.2 3 _ rfl).1
 have e4 := (q0.2 4 _ rfl).1
 have e5 := (q0.2 5 _ rfl).1
 clear hW1 hW2 hW3 q0 q1 q2 B1 B2 B3 z1 z2
 refine bodyPost_ret (v := .agg #[.slice (some ⟨w.heap.size + 1 + 1, 0, none⟩) 2 2, .slice (some ⟨w.heap.size + 1, 0, none⟩) 1 1, .slice none 0 0, .slice none 0 0, .slice none 0 0, .slice none 0 0]) (by simp [results, Tryz.results48, go_sem, e0, e1, e2, e3, e4, e5, Result.andThen]) rfl ?_
 exact ⟨w.heap.size + 1, rfl, HE.out.1, HE.out.2.1, by omega, HE.out.2.2⟩
end Go.Proofs.YtnffafjamiffnaaGreat
