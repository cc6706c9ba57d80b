/- Functions of the program, each walked under the conditions that its theorem names. -/
import Derived.Test.YtnffafjamiffnaaGreatQ27
import Derived.Test.YtnffafjamiffnaaGreatQ28
set_option linter.unusedSimpArgs false
set_option maxRecDepth 100000
set_option maxHeartbeats 32000000
namespace Go.Proofs.YtnffafjamiffnaaGreat
open Go.RowKit Go.Maps
theorem zBz (a9 : Option Addr) (n9 m9 : Nat) (E : Where) (nms : List ByteArray) (a : Option Addr) (n cap : Nat) (A : Where) (L : List PodD) (w : World) (hNm : Hid (SlAt RStr 1 16 E w a9 n9 m9 nms)) (hL : Hid (SlAt RPod 16 296 A w a n cap L)) : Calls Tryz.prog 37 #[.slice a n cap, .slice a9 n9 m9] w fun e w' => ∃ v, e = .returned v /\ Row RPod 16 (fun b => A b /\ b < w.heap.size) w w' 49 v (L.filter (fun q : PodD => !hasB sEq nms q.1)) := by
 have hmm := zAk
 have hlen := hL.out.len (by decide)
 have hlen9 := hNm.out.len (by decide)
 have hn : Hid (L.length = n) := hL.out.1
 have hn9 : Hid (nms.length = n9) := hNm.out.1
 have hbb : Hid (n * 296 <= 140737488351232) := hL.out.2.2.2.1
 obtain ⟨W1, hW1⟩ : ∃ W1, W1 = w.alloc (.map #[] 0) := ⟨_, rfl⟩
 have H0 : Hid (SetAt W1 w.heap.size 0 (fun s => hasB sEq (nms.take 0) s) /\ Below w.heap.size w W1) := by
  rw [hW1]
  exact ⟨(SetAt.made w).as (fun s => rfl), (Below.refl _ _).alloc (Nat.le_refl _) _⟩
 go_enter Tryz.func37, Tryz.ntmps37
 go_wp2_with fail
 rw [<- hW1]
 clear hW1
 go_loopw [18] (fun i wr => ∃ k : Nat, k <= n9 /\ i = .int .i64 k /\ Hid (SetAt wr w.heap.size k (fun s => hasB sEq (nms.take k) s) /\ Below w.heap.size w wr)) (fun i _ => n9 - (intOf i).toNat)
 case atStart => exact ⟨0, Nat.zero_le _, rfl, H0⟩
 case round =>
  obtain ⟨k, hk, rfl, hst⟩ := hrel
  by_cases hlt : k < n9
  ·have hltz : (k : Int) < (n9 : Int) := by omega
   have hkl : k < nms.length := by rw [hn9.out]; exact hlt
   obtain ⟨D, off, rfl, hD, _, cs, hr, hv⟩ := hNm.out.get hlt
   obtain ⟨rfl, hsz⟩ := hr
   have d0 := (hst.out.2.cell (p := ⟨D, off + k * 1 + 0, none⟩) hD).trans (hv 0 _ rfl)
   simp only [Nat.mul_one, Nat.add_zero] at d0
   clear hv
   have HN : Hid (∀ s, hasB sEq (nms.take (k + 1)) s = (hasB sEq (nms.take k) s || sEq s (nms.getD k default))) := fun s => hasB_take _ _ hkl
   generalize nms.getD k default = x at d0 HN hsz
   have HS : Hid (SetAt wr w.heap.size k (fun s => hasB sEq (nms.take k) s)) := hst.out.1
   have HBw : Hid (Below w.heap.size w wr) := hst.out.2
   have hkn : k < 140737488355328 := by omega
   have HE : Hid (∀ wf, SetAt wf w.heap.size (k + 1) (fun t => hasB sEq (nms.take k) t || sEq t x) -> wr.grownBy wf (some w.heap.size) -> SetAt wf w.heap.size (k + 1) (fun s => hasB sEq (nms.take (k + 1)) s) /\ Below w.heap.size w wf) := fun wf hs hg => ⟨hs.as (fun s => (HN.out s).symm), Below.grown HBw.out hg HBw.out.size (fun j hj => by cases hj; exact Nat.le_refl _)⟩
   clear hst
   go_wp2_with (at_mapUpdate; go_must (refine zCh rfl _ _ _ 145 rfl Tryz.underlying145 w.heap.size k _ x hsz hkn rfl HS.out rfl rfl ?_); intro wf hsf hgf)
   have HZ := HE.out wf hsf hgf
   go_roundw
   case rel => exact ⟨k + 1, by omega, by go_num, HZ⟩
   case measure => simp [intOf]; omega
  ·have hk9 : nms.take k = nms := List.take_of_length_le (by rw [hn9.out]; omega)
   rw [hk9] at hst
   have hlz : ¬ ((k : Int) < (n9 : Int)) := by omega
   have HS : Hid (SetAt wr w.heap.size k (fun s => hasB sEq nms s)) := hst.out.1
   have HBw : Hid (Below w.heap.size w wr) := hst.out.2
   have HZ0 : Hid (OthSt A w wr w.heap.size k (fun s : ByteArray => hasB sEq nms s) (.slice none 0 0) ((L.take 0).filter (fun q : PodD => !hasB sEq nms q.1))) := ⟨HS.out, (Row.nil _ w _).on RPod.firm HBw.out⟩
   clear hst hk9
   go_wp2_with fail
   clear HS HBw
   generalize hkp : (fun q : PodD => !hasB sEq nms q.1) = kp at HZ0 |-
   have HKP : Hid (∀ q : PodD, kp q = !(fun s : ByteArray => hasB sEq nms s) q.1) := fun q => by rw [<- hkp]
   generalize hkq : (fun s : ByteArray => hasB sEq nms s) = kq at HZ0 HKP
   have HKE : Hid ((fun q : PodD => !hasB sEq nms q.1) = kp) := hkp
   clear hkp hkq
   go_loopw [8, 28] (fun v i wr => ∃ j : Nat, j <= n /\ i = .int .i64 j /\ Hid (OthSt A w wr w.heap.size k kq v ((L.take j).filter kp))) (fun _ i _ => n - (intOf i).toNat)
   case atStart => exact ⟨0, Nat.zero_le _, rfl, HZ0⟩
   case round =>
    obtain ⟨j, hj, rfl, hst⟩ := hrel
    by_cases hlt2 : j < n
    ·have hltz : (j : Int) < (n : Int) := by omega
     have hjl : j < L.length := by rw [hn.out]; exact hlt2
     have hbw : Below w.heap.size w wr := hst.out.row.below
     obtain ⟨D, off, rfl, hD, _, cs, hr, hv⟩ := hL.out.get hlt2
     have HT : Hid ((L.take (j + 1)).filter kp = (L.take j).filter kp ++ (if kp (L.getD j default) = true then [L.getD j default] else [])) := zFx kp L hjl
     have HCt : Hid (((L.take j).filter kp).length <= j) := Nat.le_trans (List.length_filter_le _ _) (by rw [List.length_take]; omega)
     have HQ := HKP.out (L.getD j default)
     generalize L.getD j default = q at hr HT HQ
     generalize (L.take j).filter kp = G at hst HT HCt
     have hrA : RPod (fun b => A b /\ b < w.heap.size) w cs q := RPod.firm.weak hr (fun b hb h => ⟨h, hb⟩)
     obtain ⟨hsz, v1, v2, v3, v4, v5, v6, v7, v8, v9, v10, v11, v12, v13, v14, v15, rfl⟩ := hr.lit0
     have HV : Hid (wr.rangeAt D (off + j * 16) [.string q.1, v1, v2, v3, v4, v5, v6, v7, v8, v9, v10, v11, v12, v13, v14, v15]) := fun i v hi => (hbw.cell hD).trans (hv i v hi)
     have hi : (Tryz.prog.info? 49).map (·.size) = some ([.string q.1, v1, v2, v3, v4, v5, v6, v7, v8, v9, v10, v11, v12, v13, v14, v15] : List Value).length := zAM
     have H1 : Hid ((([.string q.1, v1, v2, v3, v4, v5, v6, v7, v8, v9, v10, v11, v12, v13, v14, v15] : List Value).toArray).all (·.oneCell') = true) := all_oneCell_toArray (RPod.firm.one hr)
     have HA : Hid (RPod (fun b => A b /\ b < w.heap.size) w [.string q.1, v1, v2, v3, v4, v5, v6, v7, v8, v9, v10, v11, v12, v13, v14, v15] q) := hrA
     clear hr hv hrA
     obtain ⟨wb, hwb⟩ : ∃ wb, wb = (wr.alloc (.cells #[.string ⟨#[]⟩, .int .i64 0, .slice none 0 0, .int .i64 0, .int .i64 0, .int .i64 0, .slice none 0 0, .slice none 0 0, .slice none 0 0, .slice none 0 0, .slice none 0 0, .slice none 0 0, .slice none 0 0, .slice none 0 0, .string ⟨#[]⟩, .string ⟨#[]⟩] 49)).setCells wr.heap.size 0 [.string q.1, v1, v2, v3, v4, v5, v6, v7, v8, v9, v10, v11, v12, v13, v14, v15] := ⟨_, rfl⟩
     have HTH : Hid ((wr.alloc (.cells #[.string ⟨#[]⟩, .int .i64 0, .slice none 0 0, .int .i64 0, .int .i64 0, .int .i64 0, .slice none 0 0, .slice none 0 0, .slice none 0 0, .slice none 0 0, .slice none 0 0, .slice none 0 0, .slice none 0 0, .slice none 0 0, .string ⟨#[]⟩, .string ⟨#[]⟩] 49)).there wr.heap.size 0 16) := (BoxL.new wr 49 [.string ⟨#[]⟩, .int .i64 0, .slice none 0 0, .int .i64 0, .int .i64 0, .int .i64 0, .slice none 0 0, .slice none 0 0, .slice none 0 0, .slice none 0 0, .slice none 0 0, .slice none 0 0, .slice none 0 0, .slice none 0 0, .string ⟨#[]⟩, .string ⟨#[]⟩]).there
     have HBX : Hid (BoxL wb wr.heap.size [.string q.1, v1, v2, v3, v4, v5, v6, v7, v8, v9, v10, v11, v12, v13, v14, v15]) := by rw [hwb]; exact zAz wr 49 [.string ⟨#[]⟩, .int .i64 0, .slice none 0 0, .int .i64 0, .int .i64 0, .int .i64 0, .slice none 0 0, .slice none 0 0, .slice none 0 0, .slice none 0 0, .slice none 0 0, .slice none 0 0, .slice none 0 0, .slice none 0 0, .string ⟨#[]⟩, .string ⟨#[]⟩] [.string q.1, v1, v2, v3, v4, v5, v6, v7, v8, v9, v10, v11, v12, v13, v14, v15] rfl
     have HBB : Hid (Below wr.heap.size wr wb) := by rw [hwb]; exact zA0 ((Below.refl _ _).alloc (Nat.le_refl _) _) (Nat.le_refl _)
     have HWB : Hid (wb = (wr.alloc (.cells #[.string ⟨#[]⟩, .int .i64 0, .slice none 0 0, .int .i64 0, .int .i64 0, .int .i64 0, .slice none 0 0, .slice none 0 0, .slice none 0 0, .slice none 0 0, .slice none 0 0, .slice none 0 0, .slice none 0 0, .slice none 0 0, .string ⟨#[]⟩, .string ⟨#[]⟩] 49)).setCells wr.heap.size 0 (([.string q.1, v1, v2, v3, v4, v5, v6, v7, v8, v9, v10, v11, v12, v13, v14, v15] : List Value).toArray).toList) := hwb
     clear hwb
     obtain ⟨c0, _⟩ := HBX.out.2 0 _ rfl
     have HSc : Hid (SetAt wb w.heap.size k kq) := hst.out.set.on HBB.out
     obtain ⟨wd, hwd⟩ : ∃ wd, wd = wb.alloc (.cells #[] 146) := ⟨_, rfl⟩
     have hbd : Below wb.heap.size wb wd := by rw [hwd]; exact (Below.refl _ _).alloc (Nat.le_refl _) _
     have HWD : Hid (wd = wb.alloc (.cells #[] 146)) := hwd
     clear hwd
     cases hq : kq q.1 with
     | true =>
      rw [hq] at HQ
      have HZ : Hid (OthSt A w (wb.alloc (.cells #[] 146)) w.heap.size k kq u8 ((L.take (j + 1)).filter kp)) := by
       have e1 : (L.take (j + 1)).filter kp = G := by rw [HT.out, HQ]; simp
       rw [Hid, e1]
       exact (hst.out.on HBB.out).on ((Below.refl wb.heap.size wb).alloc (Nat.le_refl _) (.cells #[] 146))
      clear HT HQ HBX hst
      go_wp2_with (first | (refine wpList_load_mid rfl 49 _ rfl D (off + j * 16) rfl [.string q.1, v1, v2, v3, v4, v5, v6, v7, v8, v9, v10, v11, v12, v13, v14, v15] _ HV.out Tryz.underlying49 rfl hi ?_) | (refine wpList_store_mid rfl 49 _ _ rfl wr.heap.size 0 (([.string q.1, v1, v2, v3, v4, v5, v6, v7, v8, v9, v10, v11, v12, v13, v14, v15] : List Value).toArray) rfl rfl HTH.out hi H1.out ?_; refine zAH HWB.out ?_) | (at_lookup; go_must (refine zAZ rfl _ _ 145 rfl Tryz.underlying145 w.heap.size k _ q.1 hsz rfl HSc.out rfl true hq ?_)))
      go_roundw
      case rel => exact ⟨j + 1, by omega, by go_num, HZ⟩
      case measure => simp [intOf]; omega
     | false =>
      rw [hq] at HQ
      have HRd : Hid (wd.rangeAt wr.heap.size 0 [.string q.1, v1, v2, v3, v4, v5, v6, v7, v8, v9, v10, v11, v12, v13, v14, v15]) := (HBX.out.on hbd).range
      have hrw : Row RPod 16 (fun b => A b /\ b < w.heap.size) w wd 49 u8 G := (hst.out.row.on RPod.firm HBB.out).on RPod.firm hbd
      have hsd : SetAt wd w.heap.size k kq := HSc.out.on hbd
      have hne : Value.ownBlock u8 ≠ some w.heap.size := hrw.ne_set hsd
      have HR3 : Hid (Row RPod 16 (fun b => A b /\ b < w.heap.size) w (wd.alloc (.cells #[.string q.1, v1, v2, v3, v4, v5, v6, v7, v8, v9, v10, v11, v12, v13, v14, v15] 49)) 49 u8 G) := hrw.on RPod.firm ((Below.refl _ _).alloc (Nat.le_refl _) _)
      have HCh : Hid (Chunks RPod 16 (fun b => (fun b => A b /\ b < w.heap.size) b /\ Value.ownBlock u8 ≠ some b) (wd.alloc (.cells #[.string q.1, v1, v2, v3, v4, v5, v6, v7, v8, v9, v10, v11, v12, v13, v14, v15] 49)) [.string q.1, v1, v2, v3, v4, v5, v6, v7, v8, v9, v10, v11, v12, v13, v14, v15] [q]) := by
       have h3 := HR3.out
       exact zAQ RPod.firm (RPod.firm.weak (RPod.firm.kept HA.out (Kept.below h3.below)) (fun b _ hb => ⟨hb, fun e => by have h1 := (h3.lt e).1; have h2 := hb.2; omega⟩))
      have HX : Hid (∀ i v, ([.string q.1, v1, v2, v3, v4, v5, v6, v7, v8, v9, v10, v11, v12, v13, v14, v15] : List Value)[i]? = some v -> (wd.alloc (.cells #[.string q.1, v1, v2, v3, v4, v5, v6, v7, v8, v9, v10, v11, v12, v13, v14, v15] 49)).cell? ((⟨wd.heap.size, 0, none⟩ : Addr).add i) = some v) := zAV wd _ 49
      have HO : Hid (∀ v ∈ [.string q.1, v1, v2, v3, v4, v5, v6, v7, v8, v9, v10, v11, v12, v13, v14, v15], v.oneCell' = true) := RPod.firm.one HA.out
      have HLb : Hid ((G.length + [q].length) * 296 <= 140737488355328) := by have h1 := zBO hbb.out hlt2; have h2 := HCt.out; rw [Hid, List.length_singleton]; omega
      have HE : Hid (∀ (vn : Value) (w4 : World), Row RPod 16 (fun b => A b /\ b < w.heap.size) w w4 49 vn (G ++ [q]) -> (wd.alloc (.cells #[.string q.1, v1, v2, v3, v4, v5, v6, v7, v8, v9, v10, v11, v12, v13, v14, v15] 49)).grownBy w4 (Value.ownBlock u8) -> OthSt A w w4 w.heap.size k kq vn ((L.take (j + 1)).filter kp)) := fun vn w4 hr hg => by
       have e1 : (L.take (j + 1)).filter kp = G ++ [q] := by rw [HT.out, HQ]; simp
       rw [e1]
       exact ⟨(hsd.on ((Below.refl _ _).alloc (Nat.le_refl _) _)).grown hg hne, hr⟩
      clear hrw hne hsd HT HQ HBX hst hbd
      go_wp2_with (first | (refine wpList_load_mid rfl 49 _ rfl D (off + j * 16) rfl [.string q.1, v1, v2, v3, v4, v5, v6, v7, v8, v9, v10, v11, v12, v13, v14, v15] _ HV.out Tryz.underlying49 rfl hi ?_) | (refine wpList_store_mid rfl 49 _ _ rfl wr.heap.size 0 (([.string q.1, v1, v2, v3, v4, v5, v6, v7, v8, v9, v10, v11, v12, v13, v14, v15] : List Value).toArray) rfl rfl HTH.out hi H1.out ?_; refine zAH HWB.out ?_) | (at_lookup; go_must (refine zAZ rfl _ _ 145 rfl Tryz.underlying145 w.heap.size k _ q.1 hsz rfl HSc.out rfl false hq ?_)) | (refine zAH HWD.out ?_; refine wpList_load_mid rfl 49 _ rfl wr.heap.size 0 rfl [.string q.1, v1, v2, v3, v4, v5, v6, v7, v8, v9, v10, v11, v12, v13, v14, v15] _ HRd.out Tryz.underlying49 rfl hi ?_) | (at_builtin; go_must (refine zAF RPod.firm (A := (fun b => A b /\ b < w.heap.size)) (w0 := w) rfl _ _ 22 49 rfl _ 296 zE3 Tryz.underlying22 rfl (by decide) (by decide) u8 G rfl HR3.out ⟨wd.heap.size, 0, none⟩ 1 1 _ [q] rfl rfl HCh.out HX.out HO.out HLb.out ?_); intro vn w4 hrow4 hg4))
      have HZ := HE.out vn w4 hrow4 hg4
      go_roundw
      case rel => exact ⟨j + 1, by omega, by go_num, HZ⟩
      case measure => simp [intOf]; omega
    ·have hk9 : L.take j = L := List.take_of_length_le (by rw [hn.out]; omega)
     rw [hk9] at hst
     have hlz2 : ¬ ((j : Int) < (n : Int)) := by omega
     go_wp2_with fail
     go_ret
     exact ⟨_, rfl, by rw [HKE.out]; exact hst.out.row⟩
theorem zFe {w : World} {T : TalD} {ts : List Value} {A A' : Where} {mb N : Nat} {f : Lab -> Int} (b1 : Option Addr) (b2 b3 : Nat) (R : List Ask) (key : ByteArray) (z : Bool) (hz : z = true ↔ ∀ d, okL d -> f d = 0) (hc : Hid (CntAt w mb N f)) (hT' : Hid (RTally A w ts T)) (hr : Hid (SlAt RReq 3 48 A' w b1 b2 b3 R)) :
  Calls Tryz.prog 196 #[.agg ts.toArray, .agg #[.slice b1 b2 b3, .string key, .map (some mb)]] w fun e w' => e = .returned (.bool (z && matchL T.2.1 R)) /\ Below w.heap.size w w' := by
 obtain ⟨⟨a1, n1, m1⟩, ⟨a2, n2, m2⟩, ⟨a3, n3, m3⟩, rfl, _, s1, _, _⟩ := hT'.out.out
 simp only at s1 |-
 obtain ⟨W2, hW2⟩ : ∃ W, W = (w.alloc (.cells #[.string T.1, .slice a1 n1 m1, .slice a2 n2 m2, .slice a3 n3 m3, .map (some T.2.2.2.2)] 216)).alloc (.cells #[.slice b1 b2 b3, .string key, .map (some mb)] 254) := ⟨_, rfl⟩
 have B2 : Below w.heap.size w W2 := by rw [hW2]; go_grown
 have q0 : BoxL W2 w.heap.size [.string T.1, .slice a1 n1 m1, .slice a2 n2 m2, .slice a3 n3 m3, .map (some T.2.2.2.2)] := by rw [hW2]; exact (BoxL.new w 216 _).on ((Below.refl _ _).alloc (Nat.le_refl _) _)
 have q1 : BoxL W2 (w.heap.size + 1) [.slice b1 b2 b3, .string key, .map (some mb)] := by have h1 := BoxL.new (w.alloc (.cells #[.string T.1, .slice a1 n1 m1, .slice a2 n2 m2, .slice a3 n3 m3, .map (some T.2.2.2.2)] 216)) 254 [.slice b1 b2 b3, .string key, .map (some mb)]; rw [hW2]; simpa using h1
 have c1 := (q0.2 1 _ rfl).1
 have d0 := (q1.2 0 _ rfl).1
 have d2 := (q1.2 2 _ rfl).1
 obtain ⟨c, hlen, hc0⟩ := (hc.out.on B2).len 214 Tryz.underlying214
 have HM := zB3 a1 n1 m1 A T.2.1 b1 b2 b3 A' R W2 (s1.on RLabel.firm B2) (hr.out.on RReq.firm B2)
 have HB2 : Hid (Below w.heap.size w W2) := B2
 have hcz : (c == 0) = z := by rw [Bool.eq_iff_iff, beq_iff_eq, hc0, hz]
 clear q0 q1 s1 hr hc hT' B2 hc0 hz
 generalize matchL T.2.1 R = mt at HM |-
 go_enter Tryz.func196, Tryz.ntmps196
 go_upto_region 1 with fail
 rw [<- hW2]
 clear hW2
 cases z
 ·go_wp2_with fail
  go_ret
  exact ⟨rfl, HB2.out⟩
 ·go_wp2_with fail
  refine HM.mono ?_
  rintro e w3 ⟨rfl, hb3⟩
  have HB3 : Hid (Below w.heap.size w w3) := on2 HB2.out hb3
  clear HM hb3 hlen c1 d0 d2
  go_wp2_with fail
  go_ret
  exact ⟨by simp, HB3.out⟩
end Go.Proofs.YtnffafjamiffnaaGreat
