/- Functions of the program, each walked under the conditions that its theorem names. -/
import Derived.Test.YtnffafjamiffnaaGreatQ14
import Derived.Test.YtnffafjamiffnaaGreatQ16
set_option linter.unusedSimpArgs false
set_option maxRecDepth 100000
set_option maxHeartbeats 32000000
namespace Go.Proofs.YtnffafjamiffnaaGreat
open Go.RowKit Go.Maps
theorem zAp (cs : List Value) (q : PodD) (A : Where) (w : World) (h : Hid (RPod A w cs q)) : Calls Tryz.prog 30 #[.agg cs.toArray] w fun e w' => e = .returned (.string q.1) /\ Below w.heap.size w w' := by
 obtain ⟨_, v1, v2, v3, v4, v5, v6, v7, v8, v9, v10, v11, v12, v13, v14, v15, rfl⟩ := h.out.lit0
 obtain ⟨W1, hW1⟩ : ∃ W1, W1 = w.alloc (.cells #[.string q.1, v1, v2, v3, v4, v5, v6, v7, v8, v9, v10, v11, v12, v13, v14, v15] 49) := ⟨_, rfl⟩
 have HB : Hid (Below w.heap.size w W1) := by rw [hW1]; exact (Below.refl _ _).alloc (Nat.le_refl _) _
 have c0 := ((BoxL.new w 49 [.string q.1, v1, v2, v3, v4, v5, v6, v7, v8, v9, v10, v11, v12, v13, v14, v15]).2 0 _ rfl).1
 have HW : Hid (W1 = w.alloc (.cells #[.string q.1, v1, v2, v3, v4, v5, v6, v7, v8, v9, v10, v11, v12, v13, v14, v15] 49)) := hW1
 rw [show (w.alloc (.cells ([.string q.1, v1, v2, v3, v4, v5, v6, v7, v8, v9, v10, v11, v12, v13, v14, v15] : List Value).toArray 49)) = W1 from hW1.symm] at c0
 clear hW1 h
 go_enter Tryz.func30, Tryz.ntmps30
 go_wp2_with fail
 go_ret
 exact ⟨by simp, HW.out ▸ HB.out⟩
theorem zEE (a : Option Addr) (n cap : Nat) (A : Where) (L : List PodD) (w : World) (hL : Hid (SlAt RPod 16 296 A w a n cap L)) : Calls Tryz.prog 101 #[.slice a n cap, .func (.func 30) #[] #[]] w fun e w' => ∃ v, e = .returned v /\ Row RPod 16 (fun b => A b /\ b < w.heap.size) w w' 49 v (firstsP L) := by
 have hmm := zAk
 have hlen := hL.out.len (by decide)
 have hn : Hid (L.length = n) := hL.out.1
 have hbb : Hid (n * 296 <= 140737488351232) := hL.out.2.2.2.1
 obtain ⟨W1, hW1⟩ : ∃ W1, W1 = w.alloc (.map #[] 0) := ⟨_, rfl⟩
 have H0 : Hid (FirSt A w W1 w.heap.size 0 (.slice none 0 0) (firstsP (L.take 0))) := by
  rw [hW1]
  exact ⟨(SetAt.made w).as (fun s => rfl), (Row.nil _ w _).on RPod.firm ((Below.refl _ _).alloc (Nat.le_refl _) _)⟩
 go_enter Tryz.func101, Tryz.ntmps101
 go_wp2_with fail
 rw [<- hW1]
 clear hW1
 go_loopw [5, 16] (fun v i wr => ∃ k : Nat, k <= n /\ i = .int .i64 k /\ Hid (FirSt A w wr w.heap.size k v (firstsP (L.take k)))) (fun _ i _ => n - (intOf i).toNat)
 case atStart => exact ⟨0, Nat.zero_le _, rfl, H0⟩
 case round =>
  obtain ⟨k, hk, rfl, hst⟩ := hrel
  by_cases hlt : k < n
  ·have hltz : (k : Int) < (n : Int) := by omega
   have hkl : k < L.length := by rw [hn.out]; exact hlt
   have hbw : Below w.heap.size w wr := hst.out.row.below
   obtain ⟨D, off, rfl, hD, _, cs, hr, hv⟩ := hL.out.get hlt
   have HT : Hid (firstsP (L.take (k + 1)) = fstStep (firstsP (L.take k)) (L.getD k default)) := zBe L hkl
   have HCt : Hid ((firstsP (L.take k)).length <= k) := zC4 L k (by omega)
   generalize L.getD k default = q at hr HT
   generalize firstsP (L.take k) = G at hst HT HCt
   have hrA : RPod (fun b => A b /\ b < w.heap.size) w cs q := RPod.firm.weak hr (fun b hb h => ⟨h, hb⟩)
   obtain ⟨hsz, v1, v2, v3, v4, v5, v6, v7, v8, v9, v10, v11, v12, v13, v14, v15, rfl⟩ := hr.lit0
   have HV : Hid (wr.rangeAt D (off + k * 16) [.string q.1, v1, v2, v3, v4, v5, v6, v7, v8, v9, v10, v11, v12, v13, v14, v15]) := fun j v hj => (hbw.cell hD).trans (hv j v hj)
   have hi : (Tryz.prog.info? 49).map (·.size) = some ([.string q.1, v1, v2, v3, v4, v5, v6, v7, v8, v9, v10, v11, v12, v13, v14, v15] : List Value).length := zAM
   have H1 : Hid ((([.string q.1, v1, v2, v3, v4, v5, v6, v7, v8, v9, v10, v11, v12, v13, v14, v15] : List Value).toArray).all (·.oneCell') = true) := all_oneCell_toArray (RPod.firm.one hr)
   have HA : Hid (RPod (fun b => A b /\ b < w.heap.size) w [.string q.1, v1, v2, v3, v4, v5, v6, v7, v8, v9, v10, v11, v12, v13, v14, v15] q) := hrA
   clear hr hv hrA
   obtain ⟨wb, hwb⟩ : ∃ wb, wb = (wr.alloc (.cells #[.string ⟨#[]⟩, .int .i64 0, .slice none 0 0, .int .i64 0, .int .i64 0, .int .i64 0, .slice none 0 0, .slice none 0 0, .slice none 0 0, .slice none 0 0, .slice none 0 0, .slice none 0 0, .slice none 0 0, .slice none 0 0, .string ⟨#[]⟩, .string ⟨#[]⟩] 49)).setCells wr.heap.size 0 [.string q.1, v1, v2, v3, v4, v5, v6, v7, v8, v9, v10, v11, v12, v13, v14, v15] := ⟨_, rfl⟩
   have HTH : Hid ((wr.alloc (.cells #[.string ⟨#[]⟩, .int .i64 0, .slice none 0 0, .int .i64 0, .int .i64 0, .int .i64 0, .slice none 0 0, .slice none 0 0, .slice none 0 0, .slice none 0 0, .slice none 0 0, .slice none 0 0, .slice none 0 0, .slice none 0 0, .string ⟨#[]⟩, .string ⟨#[]⟩] 49)).there wr.heap.size 0 16) := (BoxL.new wr 49 [.string ⟨#[]⟩, .int .i64 0, .slice none 0 0, .int .i64 0, .int .i64 0, .int .i64 0, .slice none 0 0, .slice none 0 0, .slice none 0 0, .slice none 0 0, .slice none 0 0, .slice none 0 0, .slice none 0 0, .slice none 0 0, .string ⟨#[]⟩, .string ⟨#[]⟩]).there
   have HRG : Hid (wb.rangeAt wr.heap.size 0 [.string q.1, v1, v2, v3, v4, v5, v6, v7, v8, v9, v10, v11, v12, v13, v14, v15]) := by rw [hwb]; exact World.rangeAt_setCells_same _ _ _ _ HTH.out
   have HBB : Hid (Below wr.heap.size wr wb) := by rw [hwb]; exact zA0 ((Below.refl _ _).alloc (Nat.le_refl _) _) (Nat.le_refl _)
   have HSZ : Hid (wr.heap.size < wb.heap.size) := World.block_lt_of_cell? wb ⟨wr.heap.size, 0 + 0, none⟩ (HRG.out 0 _ rfl)
   have HWB : Hid (wb = (wr.alloc (.cells #[.string ⟨#[]⟩, .int .i64 0, .slice none 0 0, .int .i64 0, .int .i64 0, .int .i64 0, .slice none 0 0, .slice none 0 0, .slice none 0 0, .slice none 0 0, .slice none 0 0, .slice none 0 0, .slice none 0 0, .slice none 0 0, .string ⟨#[]⟩, .string ⟨#[]⟩] 49)).setCells wr.heap.size 0 (([.string q.1, v1, v2, v3, v4, v5, v6, v7, v8, v9, v10, v11, v12, v13, v14, v15] : List Value).toArray).toList) := hwb
   clear hwb
   have HP : Hid (∀ u, Below wb.heap.size wb u -> RPod (fun b => A b /\ b < w.heap.size) u [.string q.1, v1, v2, v3, v4, v5, v6, v7, v8, v9, v10, v11, v12, v13, v14, v15] q) := fun u hb => RPod.firm.kept HA.out (Kept.below (on2 (on2 hbw HBB.out) hb))
   go_wp2_with (first | (refine wpList_load_mid rfl 49 _ rfl D (off + k * 16) rfl [.string q.1, v1, v2, v3, v4, v5, v6, v7, v8, v9, v10, v11, v12, v13, v14, v15] _ HV.out Tryz.underlying49 rfl hi ?_) | (refine wpList_store_mid rfl 49 _ _ rfl wr.heap.size 0 (([.string q.1, v1, v2, v3, v4, v5, v6, v7, v8, v9, v10, v11, v12, v13, v14, v15] : List Value).toArray) rfl rfl HTH.out hi H1.out ?_; refine zAH HWB.out ?_) | (refine wpList_load_mid rfl 49 _ rfl wr.heap.size 0 rfl [.string q.1, v1, v2, v3, v4, v5, v6, v7, v8, v9, v10, v11, v12, v13, v14, v15] _ HRG.out Tryz.underlying49 rfl hi ?_))
   refine (zAp [.string q.1, v1, v2, v3, v4, v5, v6, v7, v8, v9, v10, v11, v12, v13, v14, v15] q _ wb (HP.out wb (Below.refl _ _))).mono ?_
   rintro e wc ⟨rfl, hbc⟩
   have HSc : Hid (SetAt wc w.heap.size k (fun s => hasB sEq (nameL G) s)) := (hst.out.set.on HBB.out).on hbc
   cases hq : hasB sEq (nameL G) q.1
   ·have HSc2 : Hid (∀ u, Below wc.heap.size wc u -> SetAt u w.heap.size k (fun s => hasB sEq (nameL G) s)) := fun u hb => HSc.out.on hb
    have HRc : Hid (∀ u, Below wc.heap.size wc u -> u.rangeAt wr.heap.size 0 [.string q.1, v1, v2, v3, v4, v5, v6, v7, v8, v9, v10, v11, v12, v13, v14, v15] /\ wr.heap.size < u.heap.size) := fun u hb => ⟨zAn (zAn HRG.out hbc HSZ.out) hb (Nat.lt_of_lt_of_le HSZ.out hbc.size), Nat.lt_of_lt_of_le (Nat.lt_of_lt_of_le HSZ.out hbc.size) hb.size⟩
    have HQ : Hid (hasB sEq (nameL G) q.1 = false) := hq
    clear hq
    obtain ⟨wd, hwd⟩ : ∃ wd, wd = wc.alloc (.cells #[] 146) := ⟨_, rfl⟩
    have hbd : Below wc.heap.size wc wd := by rw [hwd]; exact (Below.refl _ _).alloc (Nat.le_refl _) _
    have HRd := (HRc.out wd hbd).1
    have HRd2 : Hid (wd.rangeAt wr.heap.size 0 [.string q.1, v1, v2, v3, v4, v5, v6, v7, v8, v9, v10, v11, v12, v13, v14, v15]) := HRd
    clear HRd
    go_wp2_with (first | (at_lookup; refine zAZ rfl _ _ 145 rfl Tryz.underlying145 w.heap.size k _ q.1 hsz rfl HSc.out rfl false HQ.out ?_) | (refine zAH hwd ?_; refine wpList_load_mid rfl 49 _ rfl wr.heap.size 0 rfl [.string q.1, v1, v2, v3, v4, v5, v6, v7, v8, v9, v10, v11, v12, v13, v14, v15] _ HRd2.out Tryz.underlying49 rfl hi ?_))
    rw [<- hwd]
    refine (zAp [.string q.1, v1, v2, v3, v4, v5, v6, v7, v8, v9, v10, v11, v12, v13, v14, v15] q _ wd (HP.out wd (on2 hbc hbd))).mono ?_
    rintro e we ⟨rfl, hbe⟩
    have hce : Below wc.heap.size wc we := on2 hbd hbe
    have HSe : Hid (SetAt we w.heap.size k (fun s => hasB sEq (nameL G) s)) := HSc2.out we hce
    have hmb : w.heap.size < wr.heap.size := hst.out.set.lt
    have HRF : Hid (∀ wf, we.grownBy wf (some w.heap.size) -> wf.rangeAt wr.heap.size 0 [.string q.1, v1, v2, v3, v4, v5, v6, v7, v8, v9, v10, v11, v12, v13, v14, v15]) := fun wf hg => zAy (HRc.out we hce).1 (HRc.out we hce).2 hg (fun e => by injection e with e; omega)
    have hrw : Row RPod 16 (fun b => A b /\ b < w.heap.size) w we 49 u5 G := ((hst.out.row.on RPod.firm HBB.out).on RPod.firm hbc).on RPod.firm hce
    have hne : Value.ownBlock u5 ≠ some w.heap.size := hrw.ne_set HSe.out
    have HRW : Hid (∀ wf, we.grownBy wf (some w.heap.size) -> Row RPod 16 (fun b => A b /\ b < w.heap.size) w wf 49 u5 G) := fun wf hg => hrw.grown RPod.firm hg (fun b hb => by injection hb with hb; subst hb; exact ⟨Nat.le_refl _, hne, fun h => Nat.lt_irrefl _ h.2⟩)
    have HR3 : Hid (∀ wf, we.grownBy wf (some w.heap.size) -> Row RPod 16 (fun b => A b /\ b < w.heap.size) w (wf.alloc (.cells #[.string q.1, v1, v2, v3, v4, v5, v6, v7, v8, v9, v10, v11, v12, v13, v14, v15] 49)) 49 u5 G) := fun wf hg => (HRW.out wf hg).on RPod.firm ((Below.refl _ _).alloc (Nat.le_refl _) _)
    have HCh : Hid (∀ wf, we.grownBy wf (some w.heap.size) -> Chunks RPod 16 (fun b => (fun b => A b /\ b < w.heap.size) b /\ Value.ownBlock u5 ≠ some b) (wf.alloc (.cells #[.string q.1, v1, v2, v3, v4, v5, v6, v7, v8, v9, v10, v11, v12, v13, v14, v15] 49)) [.string q.1, v1, v2, v3, v4, v5, v6, v7, v8, v9, v10, v11, v12, v13, v14, v15] [q]) := fun wf hg => by
     have h3 := HR3.out wf hg
     exact zAQ RPod.firm (RPod.firm.weak (RPod.firm.kept HA.out (Kept.below h3.below)) (fun b _ hb => ⟨hb, fun e => by have h1 := (h3.lt e).1; have h2 := hb.2; omega⟩))
    have HX : Hid (∀ wf : World, ∀ j v, ([.string q.1, v1, v2, v3, v4, v5, v6, v7, v8, v9, v10, v11, v12, v13, v14, v15] : List Value)[j]? = some v -> (wf.alloc (.cells #[.string q.1, v1, v2, v3, v4, v5, v6, v7, v8, v9, v10, v11, v12, v13, v14, v15] 49)).cell? ((⟨wf.heap.size, 0, none⟩ : Addr).add j) = some v) := fun wf => zAV wf _ 49
    have HO : Hid (∀ v ∈ [.string q.1, v1, v2, v3, v4, v5, v6, v7, v8, v9, v10, v11, v12, v13, v14, v15], v.oneCell' = true) := RPod.firm.one HA.out
    have HLb : Hid ((G.length + [q].length) * 296 <= 140737488355328) := by have h1 := zBO hbb.out hlt; have h2 := HCt.out; rw [Hid, List.length_singleton]; omega
    have hkn : k < 140737488355328 := by omega
    have HE : Hid (∀ (wf : World) (vn : Value) (w4 : World), SetAt wf w.heap.size (k + 1) (fun t => hasB sEq (nameL G) t || sEq t q.1) -> Row RPod 16 (fun b => A b /\ b < w.heap.size) w w4 49 vn (G ++ [q]) -> (wf.alloc (.cells #[.string q.1, v1, v2, v3, v4, v5, v6, v7, v8, v9, v10, v11, v12, v13, v14, v15] 49)).grownBy w4 (Value.ownBlock u5) -> FirSt A w w4 w.heap.size (k + 1) vn (firstsP (L.take (k + 1)))) := fun wf vn w4 hs hr hg => by
     have e1 : firstsP (L.take (k + 1)) = G ++ [q] := by rw [HT.out]; unfold fstStep; rw [HQ.out]; rfl
     rw [e1]
     exact ⟨((hs.on ((Below.refl _ _).alloc (Nat.le_refl _) _)).grown hg hne).as (fun s => by rw [show nameL (G ++ [q]) = nameL G ++ [q.1] by simp [nameL], zBJ]), hr⟩
    clear hrw hne HRc HSc2 HRW hce hbe hbd hwd HRd2 HV HTH HWB H1
    go_wp2_with (first | (at_mapUpdate; go_must (refine zCh rfl _ _ _ 145 rfl Tryz.underlying145 w.heap.size k _ q.1 hsz hkn rfl HSe.out rfl rfl ?_); intro wf hsf hgf) | (refine wpList_load_mid rfl 49 _ rfl wr.heap.size 0 rfl [.string q.1, v1, v2, v3, v4, v5, v6, v7, v8, v9, v10, v11, v12, v13, v14, v15] _ (HRF.out _ hgf) Tryz.underlying49 rfl hi ?_) | (at_builtin; go_must (refine zAF RPod.firm (A := (fun b => A b /\ b < w.heap.size)) (w0 := w) rfl _ _ 22 49 rfl _ 296 zE3 Tryz.underlying22 rfl (by decide) (by decide) u5 G rfl (HR3.out _ hgf) ⟨wf.heap.size, 0, none⟩ 1 1 _ [q] rfl rfl (HCh.out _ hgf) (HX.out _) HO.out HLb.out ?_); intro vn w4 hrow4 hg4))
    have HZ := HE.out wf vn w4 hsf hrow4 hg4
    go_roundw
    case rel => exact ⟨k + 1, by omega, by go_num, HZ⟩
    case measure => simp [intOf]; omega
   ·have HZ : Hid (FirSt A w (wc.alloc (.cells #[] 146)) w.heap.size (k + 1) u5 (firstsP (L.take (k + 1)))) := by
     have e1 : firstsP (L.take (k + 1)) = G := by rw [HT.out]; unfold fstStep; rw [hq]; rfl
     rw [Hid, e1]
     have h1 := ((hst.out.on HBB.out).on hbc).on ((Below.refl wc.heap.size wc).alloc (Nat.le_refl _) (.cells #[] 146))
     exact ⟨h1.set.mono (Nat.le_succ _), h1.row⟩
    clear HV HTH HWB H1 HT
    go_wp2_with (at_lookup; refine zAZ rfl _ _ 145 rfl Tryz.underlying145 w.heap.size k _ q.1 hsz rfl HSc.out rfl true hq ?_)
    go_roundw
    case rel => exact ⟨k + 1, by omega, by go_num, HZ⟩
    case measure => simp [intOf]; omega
  ·have hk9 : L.take k = L := List.take_of_length_le (by rw [hn.out]; omega)
   rw [hk9] at hst
   have hlz : ¬ ((k : Int) < (n : Int)) := by omega
   go_wp2_with fail
   go_ret
   exact ⟨_, rfl, hst.out.row⟩
end Go.Proofs.YtnffafjamiffnaaGreat
namespace Go.Proofs.YtnffafjamiffnaaGreat
open Go.RowKit
theorem zGR : (Tryz.prog.info? 49).map (·.size) = some 16 := by kernel_rfl
theorem zFD : (Tryz.prog.info? 63).map (·.size) = some 15 := by kernel_rfl
theorem wpl_w {P : Program} {ops : Array Oper} {Q : Exit -> Act -> World -> Prop} {rest : List Oper} {a : Act} {u W : World} (h : W = u) (k : wpList P ops Q rest a W) : wpList P ops Q rest a u := h ▸ k
theorem want_yes7 {c : Prop} [Decidable c] {A B : Prop} (h : c) (k : A) : if c then A else B := by rw [if_pos h]; exact k
theorem at_w7 {K : Act -> World -> Prop} {a : Act} {u W : World} (h : W = u) (k : K a W) : K a u := h ▸ k
theorem zGV {u : World} {D : Nat} {zs cs : List Value} (hb : BoxL u D zs) (hl : zs.length = cs.length) : BoxL (u.setCells D 0 cs) D cs := by
 have hth : u.there D 0 cs.length := hl ▸ hb.there
 have hr := World.rangeAt_setCells_same u D 0 cs hth
 have ht2 := World.there_setCells hth D 0 cs
 refine ⟨Nat.lt_of_lt_of_le hb.1 (zA1 (A := fun _ => False) (b := D) (fun h => h) (vs := cs) (o := 0) (u := u)).1, fun j v hj => ?_⟩
 have h1 := hr j v hj
 have h2 := (ht2 j (List.getElem?_eq_some_iff.1 hj).1).2
 rw [Nat.zero_add] at h1 h2
 exact ⟨h1, h2⟩
theorem RPod.litW {A : Where} {w : World} {cs : List Value} {q : PodD} (h : RPod A w cs q) : ∃ v0 v1 v2 v6 v7 v8 v9 v10 v11 v12 v13 v14 v15 : Value, cs = [v0, v1, v2, .int .i64 (pWant q).1, .int .i64 (pWant q).2.1, .int .i64 (pWant q).2.2, v6, v7, v8, v9, v10, v11, v12, v13, v14, v15] := by
 obtain ⟨_, _, _, _, _, _, _, _, _, rfl, _⟩ := h.out
 exact ⟨_, _, _, _, _, _, _, _, _, _, _, _, _, rfl⟩
theorem RInfo.lit7 {A : Where} {w : World} {cs : List Value} {q : InfoD} (h : RInfo A w cs q) : ∃ f0 f1 f2 f3 f4 f5 f6 f7 f8 f9 f10 f11 f12 f13 f14 : Value, cs = [f0, f1, f2, f3, f4, f5, f6, f7, f8, f9, f10, f11, f12, f13, f14] := by
 obtain ⟨_, _, _, _, _, rfl, _⟩ := h.out
 exact ⟨_, _, _, _, _, _, _, _, _, _, _, _, _, _, _, rfl⟩
theorem zEP (a : Int) : sumI (fun _ => a) 1 = clampI a := by
 simp only [sumI, addI]
 rw [show clampI 0 = 0 from rfl, Int.zero_add, zEC]
def VoS (w : World) (P I : List Value) (u : World) : Prop := BoxL u w.heap.size P /\ BoxL u (w.heap.size + 1) I
theorem zDz (ds cs : List Value) (A : Where) (y : PodD) (x : InfoD) (w : World) (h : Hid (RPod A w ds y)) (h' : Hid (RInfo A w cs x)) : Calls Tryz.prog 118 #[.agg ds.toArray, .agg cs.toArray] w fun e w' => ∃ vs, e = .returned (.agg vs.toArray) /\ RVisit A w' vs (y, x, wantP y, freeP x) /\ Below w.heap.size w w' := by
 have HP : Hid (∀ u, Below w.heap.size w u -> RPod A u ds y) := fun u hb => RPod.firm.kept h.out (Kept.below hb)
 have HI : Hid (∀ u, Below w.heap.size w u -> RInfo A u cs x) := fun u hb => RInfo.firm.kept h'.out (Kept.below hb)
 have HOP := RPod.firm.one h.out
 have HOI := RInfo.firm.one h'.out
 obtain ⟨v0, v1, v2, v6, v7, v8, v9, v10, v11, v12, v13, v14, v15, rfl⟩ := h.out.litW
 obtain ⟨f0, f1, f2, f3, f4, f5, f6, f7, f8, f9, f10, f11, f12, f13, f14, rfl⟩ := h'.out.lit7
 have hwant : Hid (wantP y = (clampI (pWant y).1, clampI (pWant y).2.1, clampI (pWant y).2.2)) := rfl
 rw [hwant.out]
 generalize pWant y = wt at HP HOP
 obtain ⟨wa, wb, wc⟩ := wt
 simp only at HP HOP |-
 have hO : Hid ((([v0, v1, v2, .int .i64 wa, .int .i64 wb, .int .i64 wc, v6, v7, v8, v9, v10, v11, v12, v13, v14, v15, f0, f1, f2, f3, f4, f5, f6, f7, f8, f9, f10, f11, f12, f13, f14, .int .i64 (clampI wa), .int .i64 (clampI wb), .int .i64 (clampI wc), .int .i64 (freeP x).1, .int .i64 (freeP x).2.1, .int .i64 (freeP x).2.2] : List Value).toArray).all (·.oneCell') = true) := by
  refine all_oneCell_toArray (fun v hv => ?_)
  rw [show [v0, v1, v2, .int .i64 wa, .int .i64 wb, .int .i64 wc, v6, v7, v8, v9, v10, v11, v12, v13, v14, v15, f0, f1, f2, f3, f4, f5, f6, f7, f8, f9, f10, f11, f12, f13, f14, .int .i64 (clampI wa), .int .i64 (clampI wb), .int .i64 (clampI wc), .int .i64 (freeP x).1, .int .i64 (freeP x).2.1, .int .i64 (freeP x).2.2] = [v0, v1, v2, .int .i64 wa, .int .i64 wb, .int .i64 wc, v6, v7, v8, v9, v10, v11, v12, v13, v14, v15] ++ ([f0, f1, f2, f3, f4, f5, f6, f7, f8, f9, f10, f11, f12, f13, f14] ++ [.int .i64 (clampI wa), .int .i64 (clampI wb), .int .i64 (clampI wc), .int .i64 (freeP x).1, .int .i64 (freeP x).2.1, .int .i64 (freeP x).2.2]) from rfl] at hv
  rcases List.mem_append.1 hv with hv | hv
  ·exact HOP v hv
  ·rcases List.mem_append.1 hv with hv | hv
   ·exact HOI v hv
   ·simp only [List.mem_cons, List.not_mem_nil, or_false] at hv
    rcases hv with rfl | rfl | rfl | rfl | rfl | rfl <;> rfl
 clear h h' HOP HOI
 have HFr := fun u hb => zHY [f0, f1, f2, f3, f4, f5, f6, f7, f8, f9, f10, f11, f12, f13, f14] A x u (HI.out u hb)
 have HM : Hid (∀ u, Below w.heap.size w u -> RVisit A u [v0, v1, v2, .int .i64 wa, .int .i64 wb, .int .i64 wc, v6, v7, v8, v9, v10, v11, v12, v13, v14, v15, f0, f1, f2, f3, f4, f5, f6, f7, f8, f9, f10, f11, f12, f13, f14, .int .i64 (clampI wa), .int .i64 (clampI wb), .int .i64 (clampI wc), .int .i64 (freeP x).1, .int .i64 (freeP x).2.1, .int .i64 (freeP x).2.2] (y, x, (clampI wa, clampI wb, clampI wc), freeP x)) := fun u hb => RVisit.mk (HP.out u hb) (HI.out u hb)
 generalize freeP x = fr at HFr hO HM
 obtain ⟨fa, fb, fc⟩ := fr
 simp only at HFr hO HM
 have HFr' : Hid (∀ u, Below w.heap.size w u -> Calls Tryz.prog 151 #[.agg #[f0, f1, f2, f3, f4, f5, f6, f7, f8, f9, f10, f11, f12, f13, f14]] u fun e w' => e = .returned (.agg #[.int .i64 fa, .int .i64 fb, .int .i64 fc]) /\ Below u.heap.size u w') := fun u hb => HFr u hb
 clear HFr HI HP
 obtain ⟨W3, hW3⟩ : ∃ W3, W3 = ((w.alloc (.cells #[v0, v1, v2, .int .i64 wa, .int .i64 wb, .int .i64 wc, v6, v7, v8, v9, v10, v11, v12, v13, v14, v15] 49)).alloc (.cells #[f0, f1, f2, f3, f4, f5, f6, f7, f8, f9, f10, f11, f12, f13, f14] 63)).alloc (.cells #[.string ⟨#[]⟩, .int .i64 0, .slice none 0 0, .int .i64 0, .int .i64 0, .int .i64 0, .slice none 0 0, .slice none 0 0, .slice none 0 0, .slice none 0 0, .slice none 0 0, .slice none 0 0, .slice none 0 0, .slice none 0 0, .string ⟨#[]⟩, .string ⟨#[]⟩, .string ⟨#[]⟩, .slice none 0 0, .slice none 0 0, .bool false, .int .i64 0, .int .i64 0, .int .i64 0, .int .i64 0, .int .i64 0, .slice none 0 0, .int .i64 0, .int .i64 0, .int .i64 0, .slice none 0 0, .slice none 0 0, .int .i64 0, .int .i64 0, .int .i64 0, .int .i64 0, .int .i64 0, .int .i64 0] 205) := ⟨_, rfl⟩
 have B3 : Hid (Below w.heap.size w W3) := by rw [Hid, hW3]; go_grown
 have HS : Hid (∀ u, Below W3.heap.size W3 u -> VoS w [v0, v1, v2, .int .i64 wa, .int .i64 wb, .int .i64 wc, v6, v7, v8, v9, v10, v11, v12, v13, v14, v15] [f0, f1, f2, f3, f4, f5, f6, f7, f8, f9, f10, f11, f12, f13, f14] u) := fun u hb => by
  have h1 := ((BoxL.new w 49 [v0, v1, v2, .int .i64 wa, .int .i64 wb, .int .i64 wc, v6, v7, v8, v9, v10, v11, v12, v13, v14, v15]).on ((Below.refl _ _).alloc (Nat.le_refl _) (.cells #[f0, f1, f2, f3, f4, f5, f6, f7, f8, f9, f10, f11, f12, f13, f14] 63))).on ((Below.refl _ _).alloc (Nat.le_refl _) (.cells #[.string ⟨#[]⟩, .int .i64 0, .slice none 0 0, .int .i64 0, .int .i64 0, .int .i64 0, .slice none 0 0, .slice none 0 0, .slice none 0 0, .slice none 0 0, .slice none 0 0, .slice none 0 0, .slice none 0 0, .slice none 0 0, .string ⟨#[]⟩, .string ⟨#[]⟩, .string ⟨#[]⟩, .slice none 0 0, .slice none 0 0, .bool false, .int .i64 0, .int .i64 0, .int .i64 0, .int .i64 0, .int .i64 0, .slice none 0 0, .int .i64 0, .int .i64 0, .int .i64 0, .slice none 0 0, .slice none 0 0, .int .i64 0, .int .i64 0, .int .i64 0, .int .i64 0, .int .i64 0, .int .i64 0] 205))
  have h2 := (BoxL.new (w.alloc (.cells #[v0, v1, v2, .int .i64 wa, .int .i64 wb, .int .i64 wc, v6, v7, v8, v9, v10, v11, v12, v13, v14, v15] 49)) 63 [f0, f1, f2, f3, f4, f5, f6, f7, f8, f9, f10, f11, f12, f13, f14]).on ((Below.refl _ _).alloc (Nat.le_refl _) (.cells #[.string ⟨#[]⟩, .int .i64 0, .slice none 0 0, .int .i64 0, .int .i64 0, .int .i64 0, .slice none 0 0, .slice none 0 0, .slice none 0 0, .slice none 0 0, .slice none 0 0, .slice none 0 0, .slice none 0 0, .slice none 0 0, .string ⟨#[]⟩, .string ⟨#[]⟩, .string ⟨#[]⟩, .slice none 0 0, .slice none 0 0, .bool false, .int .i64 0, .int .i64 0, .int .i64 0, .int .i64 0, .int .i64 0, .slice none 0 0, .int .i64 0, .int .i64 0, .int .i64 0, .slice none 0 0, .slice none 0 0, .int .i64 0, .int .i64 0, .int .i64 0, .int .i64 0, .int .i64 0, .int .i64 0] 205))
  rw [hW3] at hb
  exact ⟨h1.on hb, by simpa using h2.on hb⟩
 have HZ : Hid (∀ u, Below W3.heap.size W3 u -> BoxL u (w.heap.size + 1 + 1) [.string ⟨#[]⟩, .int .i64 0, .slice none 0 0, .int .i64 0, .int .i64 0, .int .i64 0, .slice none 0 0, .slice none 0 0, .slice none 0 0, .slice none 0 0, .slice none 0 0, .slice none 0 0, .slice none 0 0, .slice none 0 0, .string ⟨#[]⟩, .string ⟨#[]⟩, .string ⟨#[]⟩, .slice none 0 0, .slice none 0 0, .bool false, .int .i64 0, .int .i64 0, .int .i64 0, .int .i64 0, .int .i64 0, .slice none 0 0, .int .i64 0, .int .i64 0, .int .i64 0, .slice none 0 0, .slice none 0 0, .int .i64 0, .int .i64 0, .int .i64 0, .int .i64 0, .int .i64 0, .int .i64 0]) := fun u hb => by
  have h1 := BoxL.new ((w.alloc (.cells #[v0, v1, v2, .int .i64 wa, .int .i64 wb, .int .i64 wc, v6, v7, v8, v9, v10, v11, v12, v13, v14, v15] 49)).alloc (.cells #[f0, f1, f2, f3, f4, f5, f6, f7, f8, f9, f10, f11, f12, f13, f14] 63)) 205 [.string ⟨#[]⟩, .int .i64 0, .slice none 0 0, .int .i64 0, .int .i64 0, .int .i64 0, .slice none 0 0, .slice none 0 0, .slice none 0 0, .slice none 0 0, .slice none 0 0, .slice none 0 0, .slice none 0 0, .slice none 0 0, .string ⟨#[]⟩, .string ⟨#[]⟩, .string ⟨#[]⟩, .slice none 0 0, .slice none 0 0, .bool false, .int .i64 0, .int .i64 0, .int .i64 0, .int .i64 0, .int .i64 0, .slice none 0 0, .int .i64 0, .int .i64 0, .int .i64 0, .slice none 0 0, .slice none 0 0, .int .i64 0, .int .i64 0, .int .i64 0, .int .i64 0, .int .i64 0, .int .i64 0]
  rw [hW3] at hb
  simpa using h1.on hb
 have hiP : (Tryz.prog.info? 49).map (·.size) = some ([v0, v1, v2, .int .i64 wa, .int .i64 wb, .int .i64 wc, v6, v7, v8, v9, v10, v11, v12, v13, v14, v15] : List Value).length := zGR
 have hiI : (Tryz.prog.info? 63).map (·.size) = some ([f0, f1, f2, f3, f4, f5, f6, f7, f8, f9, f10, f11, f12, f13, f14] : List Value).length := zFD
 have hsz : Hid (w.heap.size + 2 < W3.heap.size) := by rw [Hid, hW3]; simp
 go_enter Tryz.func118, Tryz.ntmps118
 go_wp2_with fail
 rw [<- hW3]
 clear hW3
 refine wp_region_noPanic ?_
 refine wp_region_held_drew (S := VoS w [v0, v1, v2, .int .i64 wa, .int .i64 wb, .int .i64 wc, v6, v7, v8, v9, v10, v11, v12, v13, v14, v15] [f0, f1, f2, f3, f4, f5, f6, f7, f8, f9, f10, f11, f12, f13, f14]) (by kernel_rfl) (HS.out _ (Below.refl _ _).drew) (fun gH => ?_)
 refine tq 0 (.agg ([v0, v1, v2, .int .i64 wa, .int .i64 wb, .int .i64 wc, v6, v7, v8, v9, v10, v11, v12, v13, v14, v15] : List Value).toArray) (yieldsIf_load_mid rfl 49 _ rfl w.heap.size 0 rfl [v0, v1, v2, .int .i64 wa, .int .i64 wb, .int .i64 wc, v6, v7, v8, v9, v10, v11, v12, v13, v14, v15] _ (fun u hu => hu.1.range) Tryz.underlying49 rfl hiP) ?_
 try go_frame
 refine tq 1 (.agg ([f0, f1, f2, f3, f4, f5, f6, f7, f8, f9, f10, f11, f12, f13, f14] : List Value).toArray) (yieldsIf_load_mid rfl 63 _ rfl (w.heap.size + 1) 0 rfl [f0, f1, f2, f3, f4, f5, f6, f7, f8, f9, f10, f11, f12, f13, f14] _ (fun u hu => hu.2.range) Tryz.underlying63 rfl hiI) ?_
 try go_frame
 refine tq 6 (.agg ([f0, f1, f2, f3, f4, f5, f6, f7, f8, f9, f10, f11, f12, f13, f14] : List Value).toArray) (yieldsIf_load_mid rfl 63 _ rfl (w.heap.size + 1) 0 rfl [f0, f1, f2, f3, f4, f5, f6, f7, f8, f9, f10, f11, f12, f13, f14] _ (fun u hu => hu.2.range) Tryz.underlying63 rfl hiI) ?_
 try go_frame
 refine tp 2 ?_
 try go_frame
 refine' tk 3 ?_ ?_; rotate_left
 ·intro u hu; have c3 := (hu.1.2 3 _ rfl).1; have c4 := (hu.1.2 4 _ rfl).1; have c5 := (hu.1.2 5 _ rfl).1; clear hu; go_simp; try with_reducible rfl
 try go_frame
 refine tr 4 (fun K hK => ?_)
 go_simp
 obtain ⟨u1, hu1⟩ : ∃ u1, u1 = (W3.alloc (.cells #[.int .i64 wa, .int .i64 wb, .int .i64 wc] 41)).drew := ⟨_, rfl⟩
 have d1 : Below W3.heap.size W3 u1 := by rw [hu1]; exact ((Below.refl _ _).alloc (Nat.le_refl _) _).drew
 have hS1 := Sum_some W3.heap.size 0 1 1 (fun _ => wa) (fun _ => wb) (fun _ => wc) u1 (by decide) (by rw [hu1]; simp) (fun i hi => by
  obtain rfl : i = 0 := by omega
  rw [hu1]; exact ⟨by simp [go_sem], by simp [go_sem], by simp [go_sem]⟩)
 rw [zEP, zEP, zEP] at hS1
 refine hK.out _ _ (HS.out _ (hu1 ▸ d1)) (fun gI => ?_)
 rw [<- hu1] at gI |-
 clear hu1
 clear hK K gH; have gH := gI; clear gI
 try go_frame
 refine tr 5 (fun K hK => ?_)
 go_simp
 refine hS1.mono ?_
 rintro e u2 ⟨rfl, hb2⟩
 have d2 := on2 d1 hb2
 clear hS1
 go_wp2_with fail
 refine hK.out _ _ (HS.out _ d2) (fun gI => ?_)
 clear hK K gH; have gH := gI; clear gI
 try go_frame
 refine tr 7 (fun K hK => ?_)
 go_simp
 refine (HFr'.out u2 (on2 B3.out d2)).mono ?_
 rintro e u3 ⟨rfl, hb3⟩
 have d3 := on2 d2 hb3
 go_wp2_with fail
 refine hK.out _ _ (HS.out _ d3) (fun gI => ?_)
 clear hK K gH; have gH := gI; clear gI
 try go_frame
 refine tp 8 ?_
 try go_frame
 have hZ3 := HZ.out u3 d3
 obtain ⟨W4, hW4⟩ : ∃ W4, W4 = u3.setCells (w.heap.size + 1 + 1) 0 [v0, v1, v2, .int .i64 wa, .int .i64 wb, .int .i64 wc, v6, v7, v8, v9, v10, v11, v12, v13, v14, v15, f0, f1, f2, f3, f4, f5, f6, f7, f8, f9, f10, f11, f12, f13, f14, .int .i64 (clampI wa), .int .i64 (clampI wb), .int .i64 (clampI wc), .int .i64 fa, .int .i64 fb, .int .i64 fc] := ⟨_, rfl⟩
 have hX4 : BoxL W4 (w.heap.size + 1 + 1) [v0, v1, v2, .int .i64 wa, .int .i64 wb, .int .i64 wc, v6, v7, v8, v9, v10, v11, v12, v13, v14, v15, f0, f1, f2, f3, f4, f5, f6, f7, f8, f9, f10, f11, f12, f13, f14, .int .i64 (clampI wa), .int .i64 (clampI wb), .int .i64 (clampI wc), .int .i64 fa, .int .i64 fb, .int .i64 fc] := by rw [hW4]; exact zGV hZ3 rfl
 have HB4 : Hid (Below w.heap.size w W4) := by rw [Hid, hW4]; exact zA0 (on2 B3.out d3) (by omega)
 have hk4 : Kept (fun b => b ≠ w.heap.size + 1 + 1) u3 W4 := by rw [hW4]; exact zA1 (fun h => h rfl)
 have HV4 : Hid (RVisit A W4 [v0, v1, v2, .int .i64 wa, .int .i64 wb, .int .i64 wc, v6, v7, v8, v9, v10, v11, v12, v13, v14, v15, f0, f1, f2, f3, f4, f5, f6, f7, f8, f9, f10, f11, f12, f13, f14, .int .i64 (clampI wa), .int .i64 (clampI wb), .int .i64 (clampI wc), .int .i64 fa, .int .i64 fb, .int .i64 fc] (y, x, (clampI wa, clampI wb, clampI wc), (fa, fb, fc))) := HM.out _ HB4.out
 have hS4 : VoS w [v0, v1, v2, .int .i64 wa, .int .i64 wb, .int .i64 wc, v6, v7, v8, v9, v10, v11, v12, v13, v14, v15] [f0, f1, f2, f3, f4, f5, f6, f7, f8, f9, f10, f11, f12, f13, f14] W4 := ⟨(HS.out _ d3).1.kept hk4 (by omega), (HS.out _ d3).2.kept hk4 (by omega)⟩
 have HRG : Hid (W4.rangeAt (w.heap.size + 1 + 1) 0 [v0, v1, v2, .int .i64 wa, .int .i64 wb, .int .i64 wc, v6, v7, v8, v9, v10, v11, v12, v13, v14, v15, f0, f1, f2, f3, f4, f5, f6, f7, f8, f9, f10, f11, f12, f13, f14, .int .i64 (clampI wa), .int .i64 (clampI wb), .int .i64 (clampI wc), .int .i64 fa, .int .i64 fb, .int .i64 fc]) := hX4.range
 have hT3 : u3.there (w.heap.size + 1 + 1) 0 ([v0, v1, v2, .int .i64 wa, .int .i64 wb, .int .i64 wc, v6, v7, v8, v9, v10, v11, v12, v13, v14, v15, f0, f1, f2, f3, f4, f5, f6, f7, f8, f9, f10, f11, f12, f13, f14, .int .i64 (clampI wa), .int .i64 (clampI wb), .int .i64 (clampI wc), .int .i64 fa, .int .i64 fb, .int .i64 fc] : List Value).toArray.size := hZ3.there
 have hE4 : W4 = u3.setCells (w.heap.size + 1 + 1) 0 ([v0, v1, v2, .int .i64 wa, .int .i64 wb, .int .i64 wc, v6, v7, v8, v9, v10, v11, v12, v13, v14, v15, f0, f1, f2, f3, f4, f5, f6, f7, f8, f9, f10, f11, f12, f13, f14, .int .i64 (clampI wa), .int .i64 (clampI wb), .int .i64 (clampI wc), .int .i64 fa, .int .i64 fb, .int .i64 fc] : List Value).toArray.toList := hW4
 clear hW4 hk4 hX4 hZ3 HM
 refine ts 9 (fun K hK => ?_)
 refine want_yes7 (by rfl) (wp_store_mid 205 _ _ rfl (w.heap.size + 1 + 1) 0 ([v0, v1, v2, .int .i64 wa, .int .i64 wb, .int .i64 wc, v6, v7, v8, v9, v10, v11, v12, v13, v14, v15, f0, f1, f2, f3, f4, f5, f6, f7, f8, f9, f10, f11, f12, f13, f14, .int .i64 (clampI wa), .int .i64 (clampI wb), .int .i64 (clampI wc), .int .i64 fa, .int .i64 fb, .int .i64 fc] : List Value).toArray rfl rfl hT3 zBx hO.out ?_)
 refine at_w7 hE4 ?_
 refine hK.out _ _ hS4 (fun gI => ?_)
 clear hK K gH hE4 hT3
 refine wpAnyH_done (by kernel_rfl) ?_ _
 refine NoPanic.normal ?_
 go_wp2_with fail
 refine bodyPost_ret (v := .agg ([v0, v1, v2, .int .i64 wa, .int .i64 wb, .int .i64 wc, v6, v7, v8, v9, v10, v11, v12, v13, v14, v15, f0, f1, f2, f3, f4, f5, f6, f7, f8, f9, f10, f11, f12, f13, f14, .int .i64 (clampI wa), .int .i64 (clampI wb), .int .i64 (clampI wc), .int .i64 fa, .int .i64 fb, .int .i64 fc] : List Value).toArray) (zE5 (p := 4) (ty := 205) rfl _ _ (w.heap.size + 1 + 1) [v0, v1, v2, .int .i64 wa, .int .i64 wb, .int .i64 wc, v6, v7, v8, v9, v10, v11, v12, v13, v14, v15, f0, f1, f2, f3, f4, f5, f6, f7, f8, f9, f10, f11, f12, f13, f14, .int .i64 (clampI wa), .int .i64 (clampI wb), .int .i64 (clampI wc), .int .i64 fa, .int .i64 fb, .int .i64 fc] _ rfl HRG.out Tryz.underlying205 rfl zBx) rfl ⟨[v0, v1, v2, .int .i64 wa, .int .i64 wb, .int .i64 wc, v6, v7, v8, v9, v10, v11, v12, v13, v14, v15, f0, f1, f2, f3, f4, f5, f6, f7, f8, f9, f10, f11, f12, f13, f14, .int .i64 (clampI wa), .int .i64 (clampI wb), .int .i64 (clampI wc), .int .i64 fa, .int .i64 fb, .int .i64 fc], rfl, HV4.out, HB4.out⟩
abbrev reaC : List Value := [.int .i64 1, .func (.func 152) #[] #[], .int .i64 2, .func (.func 153) #[] #[], .int .i64 3, .func (.func 154) #[] #[], .int .i64 4, .func (.func 155) #[] #[], .int .i64 5, .func (.func 156) #[] #[], .int .i64 6, .func (.func 157) #[] #[], .int .i64 7, .func (.func 158) #[] #[], .int .i64 8, .func (.func 159) #[] #[]]
theorem zEc (w : World) : Calls Tryz.prog 119 #[] w fun e w' => e = .returned (.slice (some ⟨w.heap.size, 0, none⟩) 8 8) /\ BoxL w' w.heap.size reaC /\ Below w.heap.size w w' := by
 have hb : Hid (BoxL (w.alloc (.cells #[.int .i64 1, .func (.func 152) #[] #[], .int .i64 2, .func (.func 153) #[] #[], .int .i64 3, .func (.func 154) #[] #[], .int .i64 4, .func (.func 155) #[] #[], .int .i64 5, .func (.func 156) #[] #[], .int .i64 6, .func (.func 157) #[] #[], .int .i64 7, .func (.func 158) #[] #[], .int .i64 8, .func (.func 159) #[] #[]] 211)) w.heap.size reaC) := BoxL.new w 211 reaC
 have hg : Hid (Below w.heap.size w (w.alloc (.cells #[.int .i64 1, .func (.func 152) #[] #[], .int .i64 2, .func (.func 153) #[] #[], .int .i64 3, .func (.func 154) #[] #[], .int .i64 4, .func (.func 155) #[] #[], .int .i64 5, .func (.func 156) #[] #[], .int .i64 6, .func (.func 157) #[] #[], .int .i64 7, .func (.func 158) #[] #[], .int .i64 8, .func (.func 159) #[] #[]] 211))) := by rw [Hid]; go_grown
 go_enter Tryz.func119, Tryz.ntmps119
 go_wp2_with fail
 go_ret
 exact ⟨rfl, hb.out, hg.out⟩
def reaB (y : PodD) (x : InfoD) (k : Nat) : Bool := ((whyR y x).getD k default).2
def ReaAt (k g : Nat) : Prop :=
 reaC[k * 2]? = some (.int .i64 ((k + 1 : Nat) : Int)) /\ reaC[k * 2 + 1]? = some (.func (.func g) #[] #[]) /\ (∀ args w, (callFunc g args).run Tryz.prog w = .ok (.enter g args) w) /\
 ∀ (cs : List Value) (A : Where) (y : PodD) (x : InfoD) (u : World), RVisit A u cs (y, x, wantP y, freeP x) -> Calls Tryz.prog g #[.agg cs.toArray] u fun e w' => e = .returned (.bool (reaB y x k)) /\ Below u.heap.size u w'
theorem reason_at {k : Nat} (hk : k < 8) : ∃ g, ReaAt k g := by
 obtain rfl | rfl | rfl | rfl | rfl | rfl | rfl | rfl : k = 0 \/ k = 1 \/ k = 2 \/ k = 3 \/ k = 4 \/ k = 5 \/ k = 6 \/ k = 7 := by omega
 ·exact ⟨152, rfl, rfl, enters_of Tryz.func152 (by kernel_rfl) rfl, fun cs A y x u h => off_calls cs A _ u h⟩
 ·exact ⟨153, rfl, rfl, enters_of Tryz.func153 (by kernel_rfl) rfl, fun cs A y x u h => zE4 cs A _ u h⟩
 ·exact ⟨154, rfl, rfl, enters_of Tryz.func154 (by kernel_rfl) rfl, fun cs A y x u h => zDX cs A _ u h⟩
 ·exact ⟨155, rfl, rfl, enters_of Tryz.func155 (by kernel_rfl) rfl, fun cs A y x u h => zEB cs A _ u h⟩
 ·exact ⟨156, rfl, rfl, enters_of Tryz.func156 (by kernel_rfl) rfl, fun cs A y x u h => zHZ cs A _ u h⟩
 ·exact ⟨157, rfl, rfl, enters_of Tryz.func157 (by kernel_rfl) rfl, fun cs A y x u h => zDP cs A _ u h⟩
 ·exact ⟨158, rfl, rfl, enters_of Tryz.func158 (by kernel_rfl) rfl, fun cs A y x u h => zDN cs A _ u h⟩
 ·exact ⟨159, rfl, rfl, enters_of Tryz.func159 (by kernel_rfl) rfl, fun cs A y x u h => zCX cs A _ u h⟩
end Go.Proofs.YtnffafjamiffnaaGreat
