/- Functions of the program, each walked under the conditions that its theorem names. -/
import Derived.Test.YtnffafjamiffnaaGreatQ21
import Derived.Test.YtnffafjamiffnaaGreatQ23
set_option linter.unusedSimpArgs false
set_option maxRecDepth 100000
set_option maxHeartbeats 32000000
namespace Go.Proofs.YtnffafjamiffnaaGreat
open Go.RowKit Go.Maps
theorem zCF {u z : World} {B i : Nat} (h : z.heap[B]? = u.heap[B]?) : z.frozen? ⟨B, i, none⟩ = u.frozen? ⟨B, i, none⟩ := by
 unfold World.frozen?
 simp only [h]
def GvOut (u : World) (Bc oc Bv ov : Nat) (c : ClaimD) (v : VolumeD) (e : Ending) (u' : World) : Prop :=
 ∃ z, Below u.heap.size u z /\ ((okA c v = false /\ e = .returned (.bool false) /\ u' = z) \/ (okA c v = true /\ e = .returned (.bool true) /\ u' = (z.setCell ⟨Bc, oc + 3, none⟩ (.string v.1)).setCell ⟨Bv, ov + 4, none⟩ (.string c.1)))
theorem okA_split (c : ClaimD) (v : VolumeD) : okA c v = (sEq (cVo c) B0 && (sEq (vCl v) B0 && suitP c v)) := by
 unfold okA suitP
 have : (!decide (v.2.1 < c.2.1)) = decide (c.2.1 <= v.2.1) := by
  by_cases h : v.2.1 < c.2.1 <;> simp [h] <;> omega
 rw [this]
theorem zHT (Bc oc Bv ov : Nat) (cs : List Value) (A : Where) (c : ClaimD) (vs : List Value) (A' : Where) (v : VolumeD) (u : World) (hc : RClaim A u cs c) (hv : RVolume A' u vs v) (rc : u.rangeAt Bc oc cs) (rv : u.rangeAt Bv ov vs) (hBc : Bc < u.heap.size) (hBv : Bv < u.heap.size) (hne : Bc ≠ Bv) (fc : u.frozen? ⟨Bc, oc + 3, none⟩ = false) (fv : u.frozen? ⟨Bv, ov + 4, none⟩ = false) :
  Calls Tryz.prog 71 #[.pointer (some ⟨Bc, oc, none⟩), .pointer (some ⟨Bv, ov, none⟩)] u (GvOut u Bc oc Bv ov c v) := by
 have hlc := RClaim.firm.len hc
 have hlv := RVolume.firm.len hv
 have hic : (Tryz.prog.info? 96).map (·.size) = some cs.length := by rw [hlc]; exact zBi
 have hiv : (Tryz.prog.info? 79).map (·.size) = some vs.length := by rw [hlv]; exact zAa
 obtain ⟨e0, _, _, e3, _⟩ := hc.all10
 obtain ⟨y0, _, _, _, y4⟩ := hv.all10
 have HR : Hid (∀ z, Below u.heap.size u z -> z.rangeAt Bc oc cs /\ z.rangeAt Bv ov vs) := fun z hb => ⟨fun j w hj => (hb.cell hBc).trans (rc j w hj), fun j w hj => (hb.cell hBv).trans (rv j w hj)⟩
 have HC : Hid (∀ z, Below u.heap.size u z -> RClaim A z cs c /\ RVolume A' z vs v) := fun z hb => ⟨RClaim.firm.kept hc (Kept.below hb), RVolume.firm.kept hv (Kept.below hb)⟩
 have HF : Hid (∀ z, Below u.heap.size u z -> z.cell? ⟨Bc, oc, none⟩ = some (.string c.1) /\ z.cell? ⟨Bv, ov, none⟩ = some (.string v.1) /\ z.cell? ⟨Bc, oc + 3, none⟩ = some (.string (cVo c)) /\ z.cell? ⟨Bv, ov + 4, none⟩ = some (.string (vCl v)) /\ z.frozen? ⟨Bc, oc + 3, none⟩ = false /\ z.frozen? ⟨Bv, ov + 4, none⟩ = false /\ Bc < z.heap.size /\ Bv < z.heap.size) := fun z hb => by
  obtain ⟨h1, h2⟩ := HR.out z hb
  refine ⟨by have := h1 0 _ e0; simpa using this, by have := h2 0 _ y0; simpa using this, h1 3 _ e3, h2 4 _ y4, ?_, ?_, Nat.lt_of_lt_of_le hBc hb.size, Nat.lt_of_lt_of_le hBv hb.size⟩
  ·rw [zCF (hb.block Bc hBc)]; exact fc
  ·rw [zCF (hb.block Bv hBv)]; exact fv
 have Hok : Hid (okA c v = (sEq (cVo c) B0 && (sEq (vCl v) B0 && suitP c v))) := okA_split c v
 have HCh : Hid (∀ z, Below u.heap.size u z -> Calls Tryz.prog 92 #[.agg cs.toArray] z fun e w' => e = .returned (.bool (!sEq (cVo c) B0)) /\ Below z.heap.size z w') := fun z hb => zBB cs _ c z (HC.out z hb).1
 have HCf : Hid (∀ z, Below u.heap.size u z -> Calls Tryz.prog 93 #[.agg vs.toArray] z fun e w' => e = .returned (.bool (sEq (vCl v) B0)) /\ Below z.heap.size z w') := fun z hb => zCJ vs _ v z (HC.out z hb).2
 have HCs : Hid (∀ z, Below u.heap.size u z -> Calls Tryz.prog 94 #[.agg vs.toArray, .agg cs.toArray] z fun e w' => e = .returned (.bool (suitP c v)) /\ Below z.heap.size z w') := fun z hb => zCb vs _ v cs _ c z (HC.out z hb).2 (HC.out z hb).1
 clear hc hv rc rv fc fv e0 e3 y0 y4 HC
 generalize sEq (cVo c) B0 = p1 at Hok HCh
 generalize sEq (vCl v) B0 = p2 at Hok HCf
 generalize suitP c v = p3 at Hok HCs
 go_enter Tryz.func71, Tryz.ntmps71
 go_upto_region 1 with fail
 refine t0 (fun z => Below u.heap.size u z) (Below.refl _ _).drew (fun gH => ?_)
 generalize hwd : u.drew = wd at gH |-
 clear hwd
 try go_frame
 refine tp 0 ?_
 try go_frame
 refine tp 1 ?_
 try go_frame
 refine tq 2 (.agg cs.toArray) (yieldsIf_load_mid (by rfl) 96 _ rfl Bc oc rfl cs _ (fun z hz => (HR.out z hz).1) Tryz.underlying96 rfl hic) ?_ (hi := rfl)
 try go_frame
 refine tr 3 (fun K hK => ?_)
 go_simp
 refine (HCh.out _ gH).mono ?_
 rintro e w3 ⟨rfl, d3⟩
 have b3 := on2 gH d3
 go_wp2_with fail
 refine hK.out _ _ b3 (fun gI => ?_)
 clear hK K gH; have gH := gI; clear gI
 try go_frame
 cases p1 with
 | false =>
  refine tp 4 ?_
  try go_frame
  refine tn 5 ?_
  try go_frame
  refine tn 6 ?_
  try go_frame
  refine tn 7 ?_
  try go_frame
  refine tn 8 ?_
  try go_frame
  refine tn 9 ?_
  try go_frame
  refine tp 10 ?_
  try go_frame
  refine tp 11 ?_
  try go_frame
  refine tn 12 ?_
  try go_frame
  refine tn 13 ?_
  try go_frame
  refine tn 14 ?_
  try go_frame
  refine tn 15 ?_
  try go_frame
  refine tn 16 ?_
  try go_frame
  refine tn 17 ?_
  try go_frame
  refine tn 18 ?_
  try go_frame
  refine tn 19 ?_
  try go_frame
  refine tp 20 ?_
  try go_frame
  refine tz ?_
  have HE : Hid (okA c v = false /\ Below u.heap.size u w3) := ⟨by rw [Hok.out]; simp, gH⟩
  clear Hok HCh HCf HCs HR HF gH
  go_wp2_with fail
  go_ret
  exact ⟨_, HE.out.2, .inl ⟨HE.out.1, rfl, rfl⟩⟩
 | true =>
  refine tp 4 ?_
  try go_frame
  refine tp 5 ?_
  try go_frame
  refine tp 6 ?_
  try go_frame
  refine tq 7 (.agg vs.toArray) (yieldsIf_load_mid (by rfl) 79 _ rfl Bv ov rfl vs _ (fun z hz => (HR.out z hz).2) Tryz.underlying79 rfl hiv) ?_ (hi := rfl)
  try go_frame
  refine tr 8 (fun K hK => ?_)
  go_simp
  refine (HCf.out _ gH).mono ?_
  rintro e w8 ⟨rfl, d8⟩
  have b8 := on2 gH d8
  go_wp2_with fail
  refine hK.out _ _ b8 (fun gI => ?_)
  clear hK K gH; have gH := gI; clear gI
  try go_frame
  cases p2 with
  | false =>
   refine tp 9 ?_
   try go_frame
   refine tp 10 ?_
   try go_frame
   refine tp 11 ?_
   try go_frame
   refine tn 12 ?_
   try go_frame
   refine tn 13 ?_
   try go_frame
   refine tn 14 ?_
   try go_frame
   refine tn 15 ?_
   try go_frame
   refine tn 16 ?_
   try go_frame
   refine tn 17 ?_
   try go_frame
   refine tn 18 ?_
   try go_frame
   refine tn 19 ?_
   try go_frame
   refine tp 20 ?_
   try go_frame
   refine tz ?_
   have HE : Hid (okA c v = false /\ Below u.heap.size u w8) := ⟨by rw [Hok.out]; simp, gH⟩
   clear Hok HCh HCf HCs HR HF gH
   go_wp2_with fail
   go_ret
   exact ⟨_, HE.out.2, .inl ⟨HE.out.1, rfl, rfl⟩⟩
  | true =>
   refine tp 9 ?_
   try go_frame
   refine tp 10 ?_
   try go_frame
   refine tp 11 ?_
   try go_frame
   refine tp 12 ?_
   try go_frame
   refine tp 13 ?_
   try go_frame
   refine tq 14 (.agg vs.toArray) (yieldsIf_load_mid (by rfl) 79 _ rfl Bv ov rfl vs _ (fun z hz => (HR.out z hz).2) Tryz.underlying79 rfl hiv) ?_ (hi := rfl)
   try go_frame
   refine tp 15 ?_
   try go_frame
   refine tp 16 ?_
   try go_frame
   refine tq 17 (.agg cs.toArray) (yieldsIf_load_mid (by rfl) 96 _ rfl Bc oc rfl cs _ (fun z hz => (HR.out z hz).1) Tryz.underlying96 rfl hic) ?_ (hi := rfl)
   try go_frame
   refine tr 18 (fun K hK => ?_)
   go_simp
   refine (HCs.out _ gH).mono ?_
   rintro e w18 ⟨rfl, d18⟩
   have b18 := on2 gH d18
   go_wp2_with fail
   refine hK.out _ _ b18 (fun gI => ?_)
   clear hK K gH; have gH := gI; clear gI
   try go_frame
   cases p3 with
   | false =>
    refine tp 19 ?_
    try go_frame
    refine tp 20 ?_
    try go_frame
    refine tz ?_
    have HE : Hid (okA c v = false /\ Below u.heap.size u w18) := ⟨by rw [Hok.out]; simp, gH⟩
    clear Hok HCh HCf HCs HR HF gH
    go_wp2_with fail
    go_ret
    exact ⟨_, HE.out.2, .inl ⟨HE.out.1, rfl, rfl⟩⟩
   | true =>
    refine tp 19 ?_
    try go_frame
    refine tp 20 ?_
    try go_frame
    refine tz ?_
    have HE : Hid (okA c v = true) := by rw [Hid, Hok.out]; rfl
    have Hb : Hid (Below u.heap.size u w18) := gH
    clear Hok HCh HCf HCs HR gH b3 d3 b8 d8 b18 d18
    go_upto_region 3 with fail
    have bD : Below u.heap.size u w18.drew := Hb.out.drew
    obtain ⟨g1, g2, g3, g4, g5, g6, g7, g8⟩ := HF.out _ bD
    refine t0 (fun z => z.cell? ⟨Bc, oc, none⟩ = some (.string c.1) /\ z.cell? ⟨Bv, ov, none⟩ = some (.string v.1)) ⟨g1, g2⟩ (fun gH => ?_)
    generalize hwe : w18.drew = we at *
    clear hwe
    try go_frame
    refine' tk 0 ?_ ?_; rotate_left
    ·intro u hu; have f1 := hu.1; have f2 := hu.2; clear hu; go_simp; try with_reducible rfl
    try go_frame
    refine' tk 1 ?_ ?_; rotate_left
    ·intro u hu; have f1 := hu.1; have f2 := hu.2; clear hu; go_simp; try with_reducible rfl
    try go_frame
    refine' tk 2 ?_ ?_; rotate_left
    ·intro u hu; have f1 := hu.1; have f2 := hu.2; clear hu; go_simp; try with_reducible rfl
    try go_frame
    refine' tk 3 ?_ ?_; rotate_left
    ·intro u hu; have f1 := hu.1; have f2 := hu.2; clear hu; go_simp; try with_reducible rfl
    try go_frame
    refine' tk 4 ?_ ?_; rotate_left
    ·intro u hu; have f1 := hu.1; have f2 := hu.2; clear hu; go_simp; try with_reducible rfl
    try go_frame
    refine' tk 5 ?_ ?_; rotate_left
    ·intro u hu; have f1 := hu.1; have f2 := hu.2; clear hu; go_simp; try with_reducible rfl
    try go_frame
    refine' tk 6 ?_ ?_; rotate_left
    ·intro u hu; have f1 := hu.1; have f2 := hu.2; clear hu; go_simp; try with_reducible rfl
    try go_frame
    refine' tk 7 ?_ ?_; rotate_left
    ·intro u hu; have f1 := hu.1; have f2 := hu.2; clear hu; go_simp; try with_reducible rfl
    try go_frame
    refine' tk 8 ?_ ?_; rotate_left
    ·intro u hu; have f1 := hu.1; have f2 := hu.2; clear hu; go_simp; try with_reducible rfl
    try go_frame
    refine' tk 9 ?_ ?_; rotate_left
    ·intro u hu; have f1 := hu.1; have f2 := hu.2; clear hu; go_simp; try with_reducible rfl
    try go_frame
    refine' tk 10 ?_ ?_; rotate_left
    ·intro u hu; have f1 := hu.1; have f2 := hu.2; clear hu; go_simp; try with_reducible rfl
    try go_frame
    refine' tk 11 ?_ ?_; rotate_left
    ·intro u hu; have f1 := hu.1; have f2 := hu.2; clear hu; go_simp; try with_reducible rfl
    try go_frame
    obtain ⟨U1, hU1⟩ : ∃ U1, U1 = we.setCell ⟨Bc, oc + 3, none⟩ (.string v.1) := ⟨_, rfl⟩
    have k1 : U1.cell? ⟨Bc, oc, none⟩ = some (.string c.1) /\ U1.cell? ⟨Bv, ov, none⟩ = some (.string v.1) := by rw [hU1]; exact ⟨(World.cell?_setCell_other _ _ _ _ (fun e => by have := congrArg Addr.off e; simp at this)).trans g1, (World.cell?_setCell_far _ _ _ _ hne).trans g2⟩
    have k4 : U1.cell? ⟨Bv, ov + 4, none⟩ = some (.string (vCl v)) := by rw [hU1]; exact (World.cell?_setCell_far _ _ _ _ hne).trans g4
    have k6 : U1.frozen? ⟨Bv, ov + 4, none⟩ = false := by rw [hU1, World.frozen?_setCell]; exact g6
    have k8 : Bv < U1.heap.size := by rw [hU1]; simpa using g8
    refine ts 12 (fun K hK => ?_)
    go_simp
    rw [<- hU1]
    refine hK.out undef _ k1 (fun gI => ?_)
    clear hK K gH; have gH := gI; clear gI
    try go_frame
    refine tp 13 ?_
    try go_frame
    refine tp 14 ?_
    try go_frame
    obtain ⟨U2, hU2⟩ : ∃ U2, U2 = U1.setCell ⟨Bv, ov + 4, none⟩ (.string c.1) := ⟨_, rfl⟩
    have k2 : U2.cell? ⟨Bc, oc, none⟩ = some (.string c.1) /\ U2.cell? ⟨Bv, ov, none⟩ = some (.string v.1) := by rw [hU2]; exact ⟨(World.cell?_setCell_far _ _ _ _ (Ne.symm hne)).trans k1.1, (World.cell?_setCell_other _ _ _ _ (fun e => by have := congrArg Addr.off e; simp at this)).trans k1.2⟩
    have HW : Hid (U2 = (we.setCell ⟨Bc, oc + 3, none⟩ (.string v.1)).setCell ⟨Bv, ov + 4, none⟩ (.string c.1)) := by rw [Hid, hU2, hU1]
    clear hU1
    refine ts 15 (fun K hK => ?_)
    go_simp
    rw [<- hU2]
    refine hK.out undef _ k2 (fun gI => ?_)
    clear hK K gH; have gH := gI; clear gI
    try go_frame
    clear hU2
    refine tz ?_
    clear k1 k2 k4 k6 k8 g1 g2 g3 g4 g5 g6 g7 g8 gH HF
    go_wp2_with fail
    go_ret
    exact ⟨we, bD, .inr ⟨HE.out, rfl, HW.out⟩⟩
theorem RPod.lit14 {A : Where} {w : World} {cs : List Value} {q : PodD} (h : RPod A w cs q) : q.1.size <= 140737488355328 /\ (pNode q).size <= 140737488355328 /\ ∃ v1 v2 v3 v4 v5 v6 v7 v8 v9 v10 v11 v12 v13 v15 : Value, cs = [.string q.1, v1, v2, v3, v4, v5, v6, v7, v8, v9, v10, v11, v12, v13, .string (pNode q), v15] := by
 obtain ⟨_, _, _, _, _, _, _, _, _, rfl, hp, _, _, _, _, _, _, _, _, _, hn, _⟩ := h.out
 exact ⟨hp, hn, _, _, _, _, _, _, _, _, _, _, _, _, _, _, rfl⟩
theorem zFu (w : World) : (Instr.makeMap 109 none).run Tryz.prog w = .ok (.map (some w.heap.size)) (w.alloc (.map #[] 0)) := by
 simp [Instr.makeMap, run_underlying Tryz.underlying109, asInt, newObj, asIntOf, Result.andThen]
 rfl
theorem HdAt.mono {w : World} {mb n n' : Nat} {f : ByteArray -> Value} (h : HdAt w mb n f) (hn : n <= n') : HdAt w mb n' f := by obtain ⟨D, h1, h2⟩ := h; exact ⟨D, h1.mono hn, h2⟩
theorem GrpSt.skip {A : Where} {w u : World} {mb n : Nat} {f : ByteArray -> Value} {L : List PodD} {q : PodD} (h : GrpSt A w u mb n f L) (hq : sEq (pNode q) ⟨#[]⟩ = true) : GrpSt A w u mb (n + 1) f (L ++ [q]) := by
 refine ⟨h.map.mono (Nat.le_succ _), fun s => ?_, h.own, h.low⟩
 have : grpP (L ++ [q]) s = grpP L s := by unfold grpP; rw [List.filter_append]; simp [hq]
 rw [this]
 exact h.row s
theorem zFa (a : Option Addr) (n cap : Nat) (A : Where) (L : List PodD) (w : World) (hL : Hid (SlAt RPod 16 296 A w a n cap L)) : Calls Tryz.prog 51 #[.slice a n cap] w fun e w' => ∃ mb f, e = .returned (.map (some mb)) /\ GrpSt (fun b => A b /\ b < w.heap.size) w w' mb n f L := by
 have hmm := zFu
 have hlen := hL.out.len (by decide)
 have hn : Hid (L.length = n) := hL.out.1
 have hbb : Hid (n * 296 <= 140737488351232) := hL.out.2.2.2.1
 obtain ⟨W1, hW1⟩ : ∃ W1, W1 = w.alloc (.map #[] 0) := ⟨_, rfl⟩
 have H0 : Hid (∃ f, GrpSt (fun b => A b /\ b < w.heap.size) w W1 w.heap.size 0 f (L.take 0)) := by
  rw [hW1]
  exact ⟨_, HdAt.made w, fun s => (Row.nil _ w _).on RPod.firm ((Below.refl _ _).alloc (Nat.le_refl _) _), fun s t b _ h => (by cases h), Nat.le_refl _⟩
 go_enter Tryz.func51, Tryz.ntmps51
 go_wp2_with fail
 rw [<- hW1]
 clear hW1
 go_loopw [9] (fun i wr => ∃ k : Nat, k <= n /\ i = .int .i64 k /\ Hid (∃ f, GrpSt (fun b => A b /\ b < w.heap.size) w wr w.heap.size k f (L.take k))) (fun i _ => n - (intOf i).toNat)
 case atStart => exact ⟨0, Nat.zero_le _, rfl, H0⟩
 case round =>
  obtain ⟨k, hk, rfl, hst⟩ := hrel
  by_cases hlt : k < n
  ·have hltz : (k : Int) < (n : Int) := by omega
   have hkl : k < L.length := by rw [hn.out]; exact hlt
   obtain ⟨f, hst⟩ := hst.out
   have hbw : Below w.heap.size w wr := hst.below
   obtain ⟨D, off, rfl, hD, _, cs, hr, hv⟩ := hL.out.get hlt
   have HT : Hid (L.take k ++ [L.getD k default] = L.take (k + 1)) := zAo hkl
   have HCt : Hid (∀ s, (grpP (L.take k) s).length <= k) := fun s => grp_len L s k
   generalize L.getD k default = q at hr HT
   have hrA : RPod (fun b => A b /\ b < w.heap.size) w cs q := RPod.firm.weak hr (fun b hb h => ⟨h, hb⟩)
   obtain ⟨hsz, hsn, v1, v2, v3, v4, v5, v6, v7, v8, v9, v10, v11, v12, v13, v15, rfl⟩ := hr.lit14
   have HV : Hid (wr.rangeAt D (off + k * 16) [.string q.1, v1, v2, v3, v4, v5, v6, v7, v8, v9, v10, v11, v12, v13, .string (pNode q), v15]) := fun j v hj => (hbw.cell hD).trans (hv j v hj)
   have hi : (Tryz.prog.info? 49).map (·.size) = some ([.string q.1, v1, v2, v3, v4, v5, v6, v7, v8, v9, v10, v11, v12, v13, .string (pNode q), v15] : List Value).length := zAM
   have H1 : Hid ((([.string q.1, v1, v2, v3, v4, v5, v6, v7, v8, v9, v10, v11, v12, v13, .string (pNode q), v15] : List Value).toArray).all (·.oneCell') = true) := all_oneCell_toArray (RPod.firm.one hr)
   have HA : Hid (RPod (fun b => A b /\ b < w.heap.size) w [.string q.1, v1, v2, v3, v4, v5, v6, v7, v8, v9, v10, v11, v12, v13, .string (pNode q), v15] q) := hrA
   clear hr hv hrA
   obtain ⟨wb, hwb⟩ : ∃ wb, wb = (wr.alloc (.cells #[.string ⟨#[]⟩, .int .i64 0, .slice none 0 0, .int .i64 0, .int .i64 0, .int .i64 0, .slice none 0 0, .slice none 0 0, .slice none 0 0, .slice none 0 0, .slice none 0 0, .slice none 0 0, .slice none 0 0, .slice none 0 0, .string ⟨#[]⟩, .string ⟨#[]⟩] 49)).setCells wr.heap.size 0 [.string q.1, v1, v2, v3, v4, v5, v6, v7, v8, v9, v10, v11, v12, v13, .string (pNode q), v15] := ⟨_, rfl⟩
   have HTH : Hid ((wr.alloc (.cells #[.string ⟨#[]⟩, .int .i64 0, .slice none 0 0, .int .i64 0, .int .i64 0, .int .i64 0, .slice none 0 0, .slice none 0 0, .slice none 0 0, .slice none 0 0, .slice none 0 0, .slice none 0 0, .slice none 0 0, .slice none 0 0, .string ⟨#[]⟩, .string ⟨#[]⟩] 49)).there wr.heap.size 0 16) := (BoxL.new wr 49 [.string ⟨#[]⟩, .int .i64 0, .slice none 0 0, .int .i64 0, .int .i64 0, .int .i64 0, .slice none 0 0, .slice none 0 0, .slice none 0 0, .slice none 0 0, .slice none 0 0, .slice none 0 0, .slice none 0 0, .slice none 0 0, .string ⟨#[]⟩, .string ⟨#[]⟩]).there
   have HBX : Hid (BoxL wb wr.heap.size [.string q.1, v1, v2, v3, v4, v5, v6, v7, v8, v9, v10, v11, v12, v13, .string (pNode q), v15]) := by rw [hwb]; exact zAz wr 49 [.string ⟨#[]⟩, .int .i64 0, .slice none 0 0, .int .i64 0, .int .i64 0, .int .i64 0, .slice none 0 0, .slice none 0 0, .slice none 0 0, .slice none 0 0, .slice none 0 0, .slice none 0 0, .slice none 0 0, .slice none 0 0, .string ⟨#[]⟩, .string ⟨#[]⟩] [.string q.1, v1, v2, v3, v4, v5, v6, v7, v8, v9, v10, v11, v12, v13, .string (pNode q), v15] rfl
   have HBB : Hid (Below wr.heap.size wr wb) := by rw [hwb]; exact zA0 ((Below.refl _ _).alloc (Nat.le_refl _) _) (Nat.le_refl _)
   have HWB : Hid (wb = (wr.alloc (.cells #[.string ⟨#[]⟩, .int .i64 0, .slice none 0 0, .int .i64 0, .int .i64 0, .int .i64 0, .slice none 0 0, .slice none 0 0, .slice none 0 0, .slice none 0 0, .slice none 0 0, .slice none 0 0, .slice none 0 0, .slice none 0 0, .string ⟨#[]⟩, .string ⟨#[]⟩] 49)).setCells wr.heap.size 0 (([.string q.1, v1, v2, v3, v4, v5, v6, v7, v8, v9, v10, v11, v12, v13, .string (pNode q), v15] : List Value).toArray).toList) := hwb
   clear hwb
   have c14 := (HBX.out.2 14 _ rfl).1
   have hltb := HBX.out.1
   have HG : Hid (GrpSt (fun b => A b /\ b < w.heap.size) w wb w.heap.size k f (L.take k)) := hst.on HBB.out
   have hmlt : w.heap.size < wr.heap.size := hst.map.lt
   have hrowb := hst.row
   clear hst
   have hq1 : (pNode q).toList.isEmpty = sEq (pNode q) ⟨#[]⟩ := isE9 _
   cases hq : sEq (pNode q) ⟨#[]⟩ with
   | true =>
    rw [hq] at hq1
    have HZ : Hid (∃ f, GrpSt (fun b => A b /\ b < w.heap.size) w wb w.heap.size (k + 1) f (L.take (k + 1))) := ⟨f, by rw [<- HT.out]; exact HG.out.skip hq⟩
    clear HG HT hq HBX
    go_wp2_with (first | (refine wpList_load_mid rfl 49 _ rfl D (off + k * 16) rfl [.string q.1, v1, v2, v3, v4, v5, v6, v7, v8, v9, v10, v11, v12, v13, .string (pNode q), v15] _ HV.out Tryz.underlying49 rfl hi ?_) | (refine wpList_store_mid rfl 49 _ _ rfl wr.heap.size 0 (([.string q.1, v1, v2, v3, v4, v5, v6, v7, v8, v9, v10, v11, v12, v13, .string (pNode q), v15] : List Value).toArray) rfl rfl HTH.out hi H1.out ?_; refine zAH HWB.out ?_))
    go_roundw
    case rel => exact ⟨k + 1, by omega, by go_num, HZ⟩
    case measure => simp [intOf]; omega
   | false =>
    rw [hq] at hq1
    obtain ⟨fv, hfv⟩ : ∃ v, f (pNode q) = v := ⟨_, rfl⟩
    have HFV : Hid (f (pNode q) = fv) := hfv
    have HF : Hid (∀ u, Kept (fun b => b = wr.heap.size \/ b = w.heap.size) wb u -> u.cell? ⟨wr.heap.size, 14, none⟩ = some (.string (pNode q)) /\ (Instr.lookup 109 (.map (some w.heap.size)) (.string (pNode q)) false).run Tryz.prog u = .ok fv u) := fun u hu => ⟨((HBX.out.kept hu (.inl rfl)).2 14 _ rfl).1, by rw [<- hfv]; exact (HG.out.map.same (hu.2 _ (.inr rfl) HG.out.map.lt)).look 109 Tryz.underlying109 hsn⟩
    have HRG : Hid (∀ u, Kept (fun b => b = wr.heap.size \/ b = w.heap.size) wb u -> u.rangeAt wr.heap.size 0 [.string q.1, v1, v2, v3, v4, v5, v6, v7, v8, v9, v10, v11, v12, v13, .string (pNode q), v15]) := fun u hu => (HBX.out.kept hu (.inl rfl)).range
    have HQ : Hid (sEq (pNode q) ⟨#[]⟩ = false) := hq
    have HNB : Hid (fv.ownBlock ≠ some wr.heap.size) := fun e => by have h8 := hrowb (pNode q); rw [hfv] at h8; have := (h8.lt e).2; omega
    clear hfv hq
    go_upto_region 6 with (first | (refine wpList_load_mid rfl 49 _ rfl D (off + k * 16) rfl [.string q.1, v1, v2, v3, v4, v5, v6, v7, v8, v9, v10, v11, v12, v13, .string (pNode q), v15] _ HV.out Tryz.underlying49 rfl hi ?_) | (refine wpList_store_mid rfl 49 _ _ rfl wr.heap.size 0 (([.string q.1, v1, v2, v3, v4, v5, v6, v7, v8, v9, v10, v11, v12, v13, .string (pNode q), v15] : List Value).toArray) rfl rfl HTH.out hi H1.out ?_; refine zAH HWB.out ?_))
    clear HV HTH HWB H1 c14
    refine u0 10 (fun z => Kept (fun b => b = wr.heap.size \/ b = w.heap.size) wb z) (Kept.drew _ _) (fun gH => ?_)
    have hb0 : Below wb.heap.size wb wb.drew := (Below.refl _ _).drew
    generalize hwd : wb.drew = wd at gH hb0 |-
    clear hwd
    try go_frame
    refine' uk 0 ?_ ?_; rotate_left
    ·intro u hu; obtain ⟨c14, hlk⟩ := HF.out u hu; clear hu; go_simp; try with_reducible rfl
    try go_frame
    refine' uk 1 ?_ ?_; rotate_left
    ·intro u hu; obtain ⟨c14, hlk⟩ := HF.out u hu; clear hu; go_simp; try with_reducible rfl
    try go_frame
    refine' uk 2 ?_ ?_; rotate_left
    ·intro u hu; obtain ⟨c14, hlk⟩ := HF.out u hu; clear hu; go_simp; try with_reducible rfl
    try go_frame
    refine' uk 3 ?_ ?_; rotate_left
    ·intro u hu; obtain ⟨c14, hlk⟩ := HF.out u hu; clear hu; go_simp; try with_reducible rfl
    try go_frame
    refine' uk 4 ?_ ?_; rotate_left
    ·intro u hu; obtain ⟨c14, hlk⟩ := HF.out u hu; clear hu; go_simp; try with_reducible rfl
    try go_frame
    refine' uk 5 ?_ ?_; rotate_left
    ·intro u hu; obtain ⟨c14, hlk⟩ := HF.out u hu; clear hu; go_simp; try with_reducible rfl
    try go_frame
    refine' uk 6 ?_ ?_; rotate_left
    ·intro u hu; obtain ⟨c14, hlk⟩ := HF.out u hu; clear hu; go_simp; try with_reducible rfl
    try go_frame
    refine uq 7 (.agg #[.string q.1, v1, v2, v3, v4, v5, v6, v7, v8, v9, v10, v11, v12, v13, .string (pNode q), v15]) (yieldsIf_load_mid (by rfl) 49 _ rfl wr.heap.size 0 rfl [.string q.1, v1, v2, v3, v4, v5, v6, v7, v8, v9, v10, v11, v12, v13, .string (pNode q), v15] _ (fun u hu => HRG.out u hu) Tryz.underlying49 rfl hi) ?_ (hi := rfl)
    try go_frame
    refine ur 8 (fun K hK => ?_)
    go_simp
    obtain ⟨u1, hu1⟩ : ∃ u1, u1 = wd.alloc (.cells #[.string q.1, v1, v2, v3, v4, v5, v6, v7, v8, v9, v10, v11, v12, v13, .string (pNode q), v15] 49) := ⟨_, rfl⟩
    have d1 : Below wd.heap.size wd u1 := by rw [hu1]; exact (Below.refl _ _).alloc (Nat.le_refl _) _
    have hb1 : Below wb.heap.size wb u1 := on2 hb0 d1
    have hX : ∀ i v, ([.string q.1, v1, v2, v3, v4, v5, v6, v7, v8, v9, v10, v11, v12, v13, .string (pNode q), v15] : List Value)[i]? = some v -> u1.cell? ((⟨wd.heap.size, 0, none⟩ : Addr).add i) = some v := by rw [hu1]; exact zAV wd _ 49
    refine hK.out _ _ (hu1 ▸ Kept.below hb1) (fun gI => ?_)
    rw [<- hu1] at gI |-
    clear hu1
    clear hK K gH; have gH := gI; clear gI
    try go_frame
    have g1 : GrpSt (fun b => A b /\ b < w.heap.size) w u1 w.heap.size k f (L.take k) := HG.out.on hb1
    have r1 := g1.row (pNode q)
    rw [HFV.out] at r1
    have hsrc : Src RPod 16 (fun b => (fun b => A b /\ b < w.heap.size) b /\ fv.ownBlock ≠ some b) u1 (some ⟨wd.heap.size, 0, none⟩) 1 [q] := ⟨rfl, .inr ⟨_, [.string q.1, v1, v2, v3, v4, v5, v6, v7, v8, v9, v10, v11, v12, v13, .string (pNode q), v15], rfl, zAQ RPod.firm (RPod.firm.weak (RPod.firm.kept HA.out (Kept.below r1.below)) (fun b _ hb => ⟨hb, fun e => by have h1 := (r1.lt e).1; have h2 := hb.2; omega⟩)), hX, RPod.firm.one HA.out⟩⟩
    refine ur 9 (fun K hK => ?_)
    refine zAX RPod.firm (A := (fun b => A b /\ b < w.heap.size)) (w0 := w) _ _ 22 49 rfl _ 296 zE3 Tryz.underlying22 rfl (by decide) (by decide) fv (grpP (L.take k) (pNode q)) rfl r1 (some ⟨wd.heap.size, 0, none⟩) 1 1 [q] rfl hsrc (by have h1 := zBO hbb.out hlt; have h2 := HCt.out (pNode q); rw [List.length_singleton]; omega) ?_
    intro v2 u2 r2 gr2 hp2
    have hk2 : Kept (fun b => b = wr.heap.size \/ b = w.heap.size) u1 u2 := Kept.grown gr2 (fun b hb hx => by
     rcases hx with rfl | rfl
     ·exact absurd hb HNB.out
     ·exact absurd hb (r1.ne_hd g1.map))
    refine hK.out _ _ (gH.trans hk2) (fun gI => ?_)
    clear hK K gH; have gH := gI; clear gI
    try go_frame
    obtain ⟨u3, hrun, hm3, hg3⟩ := (g1.map.same (hk2.2 _ (.inr rfl) g1.map.lt)).put 109 Tryz.underlying109 hsn (by omega) v2
    have HZ : Hid (∃ f, GrpSt (fun b => A b /\ b < w.heap.size) w u3 w.heap.size (k + 1) f (L.take (k + 1))) := ⟨_, by rw [<- HT.out]; exact g1.step (fun b hb => hb.2) HQ.out r2 (by rw [HFV.out]; exact gr2) (by rw [HFV.out]; exact hp2.imp id (fun h => ⟨_, h, Nat.le_refl _⟩)) hm3 hg3⟩
    refine uz 10 (fun K hK => ?_)
    go_simp
    refine hK.out _ (NoPanic.normal ?_)
    try go_frame
    clear hK K
    clear hrun hm3 hg3 g1 r1 hsrc r2 gr2 hp2 hk2 gH hX hb0 hb1 d1 HF HRG HG HT HFV HCt HA HBX
    go_wp2_with fail
    go_roundw
    case rel => exact ⟨k + 1, by omega, by go_num, HZ⟩
    case measure => simp [intOf]; omega
  ·have hk9 : L.take k = L := List.take_of_length_le (by rw [hn.out]; omega)
   rw [hk9] at hst
   obtain rfl : n = k := by omega
   go_wp2_with fail
   go_ret
   obtain ⟨f, h9⟩ := hst.out
   exact ⟨_, f, rfl, h9⟩
structure OthSt (A : Where) (w u : World) (mb n : Nat) (q : ByteArray -> Bool) (v : Value) (F : List PodD) : Prop where
 set : SetAt u mb n q
 row : Row RPod 16 (fun b => A b /\ b < w.heap.size) w u 49 v F
theorem OthSt.on {A : Where} {w u u' : World} {mb n : Nat} {q : ByteArray -> Bool} {v : Value} {F : List PodD} (h : OthSt A w u mb n q v F) (hb : Below u.heap.size u u') : OthSt A w u' mb n q v F := ⟨h.set.on hb, h.row.on RPod.firm hb⟩
theorem hasB_take (L : List ByteArray) (s : ByteArray) {k : Nat} (hk : k < L.length) : hasB sEq (L.take (k + 1)) s = (hasB sEq (L.take k) s || sEq s (L.getD k default)) := by
 rw [<- zAo hk, zBJ]
end Go.Proofs.YtnffafjamiffnaaGreat
