/- Functions of the program, each walked under the conditions that its theorem names. -/
import Derived.Laws.EntriesVeiled
import Derived.Test.YtnffafjamiffnaaGreatQ17
import Derived.Test.YtnffafjamiffnaaGreatQ18
set_option linter.unusedSimpArgs false
set_option maxRecDepth 100000
set_option maxHeartbeats 32000000
namespace Go.Proofs.YtnffafjamiffnaaGreat
open Go.RowKit Go.Maps
theorem zBW (cs : List Value) (q : NodeD) (A : Where) (w : World) (h : Hid (RNode A w cs q)) : Calls Tryz.prog 55 #[.agg cs.toArray] w fun e w' => e = .returned (.string q.1) /\ Below w.heap.size w w' := by
 obtain ⟨_, v1, v2, v3, v4, v5, v6, v7, v8, rfl⟩ := h.out.lit0
 obtain ⟨W1, hW1⟩ : ∃ W1, W1 = w.alloc (.cells #[.string q.1, v1, v2, v3, v4, v5, v6, v7, v8] 54) := ⟨_, rfl⟩
 have HB : Hid (Below w.heap.size w W1) := by rw [hW1]; exact (Below.refl _ _).alloc (Nat.le_refl _) _
 have c0 := ((BoxL.new w 54 [.string q.1, v1, v2, v3, v4, v5, v6, v7, v8]).2 0 _ rfl).1
 have HW : Hid (W1 = w.alloc (.cells #[.string q.1, v1, v2, v3, v4, v5, v6, v7, v8] 54)) := hW1
 rw [show (w.alloc (.cells ([.string q.1, v1, v2, v3, v4, v5, v6, v7, v8] : List Value).toArray 54)) = W1 from hW1.symm] at c0
 clear hW1 h
 go_enter Tryz.func55, Tryz.ntmps55
 go_wp2_with fail
 go_ret
 exact ⟨by simp, HW.out ▸ HB.out⟩
theorem zEW (a : Option Addr) (n cap : Nat) (A : Where) (L : List NodeD) (w : World) (hL : Hid (SlAt RNode 9 112 A w a n cap L)) : Calls Tryz.prog 54 #[.slice a n cap, .func (.func 55) #[] #[]] w fun e w' => ∃ v, e = .returned v /\ Row RNode 9 (fun b => A b /\ b < w.heap.size) w w' 54 v (firstsN L) := by
 have hmm := zAk
 have hlen := hL.out.len (by decide)
 have hn : Hid (L.length = n) := hL.out.1
 have hbb : Hid (n * 112 <= 140737488351232) := hL.out.2.2.2.1
 obtain ⟨W1, hW1⟩ : ∃ W1, W1 = w.alloc (.map #[] 0) := ⟨_, rfl⟩
 have H0 : Hid (FirStN A w W1 w.heap.size 0 (.slice none 0 0) (firstsN (L.take 0))) := by
  rw [hW1]
  exact ⟨(SetAt.made w).as (fun s => rfl), (Row.nil _ w _).on RNode.firm ((Below.refl _ _).alloc (Nat.le_refl _) _)⟩
 go_enter Tryz.func54, Tryz.ntmps54
 go_wp2_with fail
 rw [<- hW1]
 clear hW1
 go_loopw [5, 16] (fun v i wr => ∃ k : Nat, k <= n /\ i = .int .i64 k /\ Hid (FirStN A w wr w.heap.size k v (firstsN (L.take k)))) (fun _ i _ => n - (intOf i).toNat)
 case atStart => exact ⟨0, Nat.zero_le _, rfl, H0⟩
 case round =>
  obtain ⟨k, hk, rfl, hst⟩ := hrel
  by_cases hlt : k < n
  ·have hltz : (k : Int) < (n : Int) := by omega
   have hkl : k < L.length := by rw [hn.out]; exact hlt
   have hbw : Below w.heap.size w wr := hst.out.row.below
   obtain ⟨D, off, rfl, hD, _, cs, hr, hv⟩ := hL.out.get hlt
   have HT : Hid (firstsN (L.take (k + 1)) = fstStepN (firstsN (L.take k)) (L.getD k default)) := zBG L hkl
   have HCt : Hid ((firstsN (L.take k)).length <= k) := zBh L k (by omega)
   generalize L.getD k default = q at hr HT
   generalize firstsN (L.take k) = G at hst HT HCt
   have hrA : RNode (fun b => A b /\ b < w.heap.size) w cs q := RNode.firm.weak hr (fun b hb h => ⟨h, hb⟩)
   obtain ⟨hsz, v1, v2, v3, v4, v5, v6, v7, v8, rfl⟩ := hr.lit0
   have HV : Hid (wr.rangeAt D (off + k * 9) [.string q.1, v1, v2, v3, v4, v5, v6, v7, v8]) := fun j v hj => (hbw.cell hD).trans (hv j v hj)
   have hi : (Tryz.prog.info? 54).map (·.size) = some ([.string q.1, v1, v2, v3, v4, v5, v6, v7, v8] : List Value).length := zBN
   have H1 : Hid ((([.string q.1, v1, v2, v3, v4, v5, v6, v7, v8] : List Value).toArray).all (·.oneCell') = true) := all_oneCell_toArray (RNode.firm.one hr)
   have HA : Hid (RNode (fun b => A b /\ b < w.heap.size) w [.string q.1, v1, v2, v3, v4, v5, v6, v7, v8] q) := hrA
   clear hr hv hrA
   obtain ⟨wb, hwb⟩ : ∃ wb, wb = (wr.alloc (.cells #[.string ⟨#[]⟩, .slice none 0 0, .slice none 0 0, .bool false, .int .i64 0, .int .i64 0, .int .i64 0, .int .i64 0, .int .i64 0] 54)).setCells wr.heap.size 0 [.string q.1, v1, v2, v3, v4, v5, v6, v7, v8] := ⟨_, rfl⟩
   have HTH : Hid ((wr.alloc (.cells #[.string ⟨#[]⟩, .slice none 0 0, .slice none 0 0, .bool false, .int .i64 0, .int .i64 0, .int .i64 0, .int .i64 0, .int .i64 0] 54)).there wr.heap.size 0 9) := (BoxL.new wr 54 [.string ⟨#[]⟩, .slice none 0 0, .slice none 0 0, .bool false, .int .i64 0, .int .i64 0, .int .i64 0, .int .i64 0, .int .i64 0]).there
   have HRG : Hid (wb.rangeAt wr.heap.size 0 [.string q.1, v1, v2, v3, v4, v5, v6, v7, v8]) := by rw [hwb]; exact World.rangeAt_setCells_same _ _ _ _ HTH.out
   have HBB : Hid (Below wr.heap.size wr wb) := by rw [hwb]; exact zA0 ((Below.refl _ _).alloc (Nat.le_refl _) _) (Nat.le_refl _)
   have HSZ : Hid (wr.heap.size < wb.heap.size) := World.block_lt_of_cell? wb ⟨wr.heap.size, 0 + 0, none⟩ (HRG.out 0 _ rfl)
   have HWB : Hid (wb = (wr.alloc (.cells #[.string ⟨#[]⟩, .slice none 0 0, .slice none 0 0, .bool false, .int .i64 0, .int .i64 0, .int .i64 0, .int .i64 0, .int .i64 0] 54)).setCells wr.heap.size 0 (([.string q.1, v1, v2, v3, v4, v5, v6, v7, v8] : List Value).toArray).toList) := hwb
   clear hwb
   have HP : Hid (∀ u, Below wb.heap.size wb u -> RNode (fun b => A b /\ b < w.heap.size) u [.string q.1, v1, v2, v3, v4, v5, v6, v7, v8] q) := fun u hb => RNode.firm.kept HA.out (Kept.below (on2 (on2 hbw HBB.out) hb))
   go_wp2_with (first | (refine wpList_load_mid rfl 54 _ rfl D (off + k * 9) rfl [.string q.1, v1, v2, v3, v4, v5, v6, v7, v8] _ HV.out Tryz.underlying54 rfl hi ?_) | (refine wpList_store_mid rfl 54 _ _ rfl wr.heap.size 0 (([.string q.1, v1, v2, v3, v4, v5, v6, v7, v8] : List Value).toArray) rfl rfl HTH.out hi H1.out ?_; refine zAH HWB.out ?_) | (refine wpList_load_mid rfl 54 _ rfl wr.heap.size 0 rfl [.string q.1, v1, v2, v3, v4, v5, v6, v7, v8] _ HRG.out Tryz.underlying54 rfl hi ?_))
   refine (zBW [.string q.1, v1, v2, v3, v4, v5, v6, v7, v8] q _ wb (HP.out wb (Below.refl _ _))).mono ?_
   rintro e wc ⟨rfl, hbc⟩
   have HSc : Hid (SetAt wc w.heap.size k (fun s => hasB sEq (nameN G) s)) := (hst.out.set.on HBB.out).on hbc
   cases hq : hasB sEq (nameN G) q.1
   ·have HSc2 : Hid (∀ u, Below wc.heap.size wc u -> SetAt u w.heap.size k (fun s => hasB sEq (nameN G) s)) := fun u hb => HSc.out.on hb
    have HRc : Hid (∀ u, Below wc.heap.size wc u -> u.rangeAt wr.heap.size 0 [.string q.1, v1, v2, v3, v4, v5, v6, v7, v8] /\ wr.heap.size < u.heap.size) := fun u hb => ⟨zAn (zAn HRG.out hbc HSZ.out) hb (Nat.lt_of_lt_of_le HSZ.out hbc.size), Nat.lt_of_lt_of_le (Nat.lt_of_lt_of_le HSZ.out hbc.size) hb.size⟩
    have HQ : Hid (hasB sEq (nameN G) q.1 = false) := hq
    clear hq
    obtain ⟨wd, hwd⟩ : ∃ wd, wd = wc.alloc (.cells #[] 146) := ⟨_, rfl⟩
    have hbd : Below wc.heap.size wc wd := by rw [hwd]; exact (Below.refl _ _).alloc (Nat.le_refl _) _
    have HRd := (HRc.out wd hbd).1
    have HRd2 : Hid (wd.rangeAt wr.heap.size 0 [.string q.1, v1, v2, v3, v4, v5, v6, v7, v8]) := HRd
    clear HRd
    go_wp2_with (first | (at_lookup; refine zAZ rfl _ _ 145 rfl Tryz.underlying145 w.heap.size k _ q.1 hsz rfl HSc.out rfl false HQ.out ?_) | (refine zAH hwd ?_; refine wpList_load_mid rfl 54 _ rfl wr.heap.size 0 rfl [.string q.1, v1, v2, v3, v4, v5, v6, v7, v8] _ HRd2.out Tryz.underlying54 rfl hi ?_))
    rw [<- hwd]
    refine (zBW [.string q.1, v1, v2, v3, v4, v5, v6, v7, v8] q _ wd (HP.out wd (on2 hbc hbd))).mono ?_
    rintro e we ⟨rfl, hbe⟩
    have hce : Below wc.heap.size wc we := on2 hbd hbe
    have HSe : Hid (SetAt we w.heap.size k (fun s => hasB sEq (nameN G) s)) := HSc2.out we hce
    have hmb : w.heap.size < wr.heap.size := hst.out.set.lt
    have HRF : Hid (∀ wf, we.grownBy wf (some w.heap.size) -> wf.rangeAt wr.heap.size 0 [.string q.1, v1, v2, v3, v4, v5, v6, v7, v8]) := fun wf hg => zAy (HRc.out we hce).1 (HRc.out we hce).2 hg (fun e => by injection e with e; omega)
    have hrw : Row RNode 9 (fun b => A b /\ b < w.heap.size) w we 54 u5 G := ((hst.out.row.on RNode.firm HBB.out).on RNode.firm hbc).on RNode.firm hce
    have hne : Value.ownBlock u5 ≠ some w.heap.size := hrw.ne_set HSe.out
    have HRW : Hid (∀ wf, we.grownBy wf (some w.heap.size) -> Row RNode 9 (fun b => A b /\ b < w.heap.size) w wf 54 u5 G) := fun wf hg => hrw.grown RNode.firm hg (fun b hb => by injection hb with hb; subst hb; exact ⟨Nat.le_refl _, hne, fun h => Nat.lt_irrefl _ h.2⟩)
    have HR3 : Hid (∀ wf, we.grownBy wf (some w.heap.size) -> Row RNode 9 (fun b => A b /\ b < w.heap.size) w (wf.alloc (.cells #[.string q.1, v1, v2, v3, v4, v5, v6, v7, v8] 54)) 54 u5 G) := fun wf hg => (HRW.out wf hg).on RNode.firm ((Below.refl _ _).alloc (Nat.le_refl _) _)
    have HCh : Hid (∀ wf, we.grownBy wf (some w.heap.size) -> Chunks RNode 9 (fun b => (fun b => A b /\ b < w.heap.size) b /\ Value.ownBlock u5 ≠ some b) (wf.alloc (.cells #[.string q.1, v1, v2, v3, v4, v5, v6, v7, v8] 54)) [.string q.1, v1, v2, v3, v4, v5, v6, v7, v8] [q]) := fun wf hg => by
     have h3 := HR3.out wf hg
     exact zAQ RNode.firm (RNode.firm.weak (RNode.firm.kept HA.out (Kept.below h3.below)) (fun b _ hb => ⟨hb, fun e => by have h1 := (h3.lt e).1; have h2 := hb.2; omega⟩))
    have HX : Hid (∀ wf : World, ∀ j v, ([.string q.1, v1, v2, v3, v4, v5, v6, v7, v8] : List Value)[j]? = some v -> (wf.alloc (.cells #[.string q.1, v1, v2, v3, v4, v5, v6, v7, v8] 54)).cell? ((⟨wf.heap.size, 0, none⟩ : Addr).add j) = some v) := fun wf => zAV wf _ 54
    have HO : Hid (∀ v ∈ [.string q.1, v1, v2, v3, v4, v5, v6, v7, v8], v.oneCell' = true) := RNode.firm.one HA.out
    have HLb : Hid ((G.length + [q].length) * 112 <= 140737488355328) := by have h1 := zBO hbb.out hlt; have h2 := HCt.out; rw [Hid, List.length_singleton]; omega
    have hkn : k < 140737488355328 := by omega
    have HE : Hid (∀ (wf : World) (vn : Value) (w4 : World), SetAt wf w.heap.size (k + 1) (fun t => hasB sEq (nameN G) t || sEq t q.1) -> Row RNode 9 (fun b => A b /\ b < w.heap.size) w w4 54 vn (G ++ [q]) -> (wf.alloc (.cells #[.string q.1, v1, v2, v3, v4, v5, v6, v7, v8] 54)).grownBy w4 (Value.ownBlock u5) -> FirStN A w w4 w.heap.size (k + 1) vn (firstsN (L.take (k + 1)))) := fun wf vn w4 hs hr hg => by
     have e1 : firstsN (L.take (k + 1)) = G ++ [q] := by rw [HT.out]; unfold fstStepN; rw [HQ.out]; rfl
     rw [e1]
     exact ⟨((hs.on ((Below.refl _ _).alloc (Nat.le_refl _) _)).grown hg hne).as (fun s => by rw [show nameN (G ++ [q]) = nameN G ++ [q.1] by simp [nameN], zBJ]), hr⟩
    clear hrw hne HRc HSc2 HRW hce hbe hbd hwd HRd2 HV HTH HWB H1
    go_wp2_with (first | (at_mapUpdate; go_must (refine zCh rfl _ _ _ 145 rfl Tryz.underlying145 w.heap.size k _ q.1 hsz hkn rfl HSe.out rfl rfl ?_); intro wf hsf hgf) | (refine wpList_load_mid rfl 54 _ rfl wr.heap.size 0 rfl [.string q.1, v1, v2, v3, v4, v5, v6, v7, v8] _ (HRF.out _ hgf) Tryz.underlying54 rfl hi ?_) | (at_builtin; go_must (refine zAF RNode.firm (A := (fun b => A b /\ b < w.heap.size)) (w0 := w) rfl _ _ 23 54 rfl _ 112 zDo Tryz.underlying23 rfl (by decide) (by decide) u5 G rfl (HR3.out _ hgf) ⟨wf.heap.size, 0, none⟩ 1 1 _ [q] rfl rfl (HCh.out _ hgf) (HX.out _) HO.out HLb.out ?_); intro vn w4 hrow4 hg4))
    have HZ := HE.out wf vn w4 hsf hrow4 hg4
    go_roundw
    case rel => exact ⟨k + 1, by omega, by go_num, HZ⟩
    case measure => simp [intOf]; omega
   ·have HZ : Hid (FirStN A w (wc.alloc (.cells #[] 146)) w.heap.size (k + 1) u5 (firstsN (L.take (k + 1)))) := by
     have e1 : firstsN (L.take (k + 1)) = G := by rw [HT.out]; unfold fstStepN; rw [hq]; rfl
     rw [Hid, e1]
     have h1 := ((hst.out.on HBB.out).on hbc).on ((Below.refl wc.heap.size wc).alloc (Nat.le_refl _) (.cells #[] 146))
     exact ⟨h1.set.mono (Nat.le_succ _), h1.row⟩
    clear HV HTH HWB H1 HT
    go_wp2_with (at_lookup; refine zAZ rfl _ _ 145 rfl Tryz.underlying145 w.heap.size k _ q.1 hsz rfl HSc.out rfl true hq ?_)
    go_roundw
    case rel => exact ⟨k + 1, by omega, by go_num, HZ⟩
    case measure => simp [intOf]; omega
  ·have hk9 : L.take k = L := List.take_of_length_le (by rw [hn.out]; omega)
   rw [hk9] at hst
   have hlz : ¬ ((k : Int) < (n : Int)) := by omega
   go_wp2_with fail
   go_ret
   exact ⟨_, rfl, hst.out.row⟩
theorem zAi (cs : List Value) (q : NodeD) (A : Where) (w : World) (h : Hid (RNode A w cs q)) : Calls Tryz.prog 32 #[.agg cs.toArray] w fun e w' => e = .returned (.string q.1) /\ Below w.heap.size w w' := by
 obtain ⟨_, v1, v2, v3, v4, v5, v6, v7, v8, rfl⟩ := h.out.lit0
 obtain ⟨W1, hW1⟩ : ∃ W1, W1 = w.alloc (.cells #[.string q.1, v1, v2, v3, v4, v5, v6, v7, v8] 54) := ⟨_, rfl⟩
 have HB : Hid (Below w.heap.size w W1) := by rw [hW1]; exact (Below.refl _ _).alloc (Nat.le_refl _) _
 have c0 := ((BoxL.new w 54 [.string q.1, v1, v2, v3, v4, v5, v6, v7, v8]).2 0 _ rfl).1
 have HW : Hid (W1 = w.alloc (.cells #[.string q.1, v1, v2, v3, v4, v5, v6, v7, v8] 54)) := hW1
 rw [show (w.alloc (.cells ([.string q.1, v1, v2, v3, v4, v5, v6, v7, v8] : List Value).toArray 54)) = W1 from hW1.symm] at c0
 clear hW1 h
 go_enter Tryz.func32, Tryz.ntmps32
 go_wp2_with fail
 go_ret
 exact ⟨by simp, HW.out ▸ HB.out⟩
theorem zDW (a : Option Addr) (n cap : Nat) (A : Where) (L : List NodeD) (w : World) (hL : Hid (SlAt RNode 9 112 A w a n cap L)) : Calls Tryz.prog 102 #[.slice a n cap, .func (.func 32) #[] #[]] w fun e w' => ∃ v, e = .returned v /\ Row RNode 9 (fun b => A b /\ b < w.heap.size) w w' 54 v (firstsN L) := by
 have hmm := zAk
 have hlen := hL.out.len (by decide)
 have hn : Hid (L.length = n) := hL.out.1
 have hbb : Hid (n * 112 <= 140737488351232) := hL.out.2.2.2.1
 obtain ⟨W1, hW1⟩ : ∃ W1, W1 = w.alloc (.map #[] 0) := ⟨_, rfl⟩
 have H0 : Hid (FirStN A w W1 w.heap.size 0 (.slice none 0 0) (firstsN (L.take 0))) := by
  rw [hW1]
  exact ⟨(SetAt.made w).as (fun s => rfl), (Row.nil _ w _).on RNode.firm ((Below.refl _ _).alloc (Nat.le_refl _) _)⟩
 go_enter Tryz.func102, Tryz.ntmps102
 go_wp2_with fail
 rw [<- hW1]
 clear hW1
 go_loopw [5, 16] (fun v i wr => ∃ k : Nat, k <= n /\ i = .int .i64 k /\ Hid (FirStN A w wr w.heap.size k v (firstsN (L.take k)))) (fun _ i _ => n - (intOf i).toNat)
 case atStart => exact ⟨0, Nat.zero_le _, rfl, H0⟩
 case round =>
  obtain ⟨k, hk, rfl, hst⟩ := hrel
  by_cases hlt : k < n
  ·have hltz : (k : Int) < (n : Int) := by omega
   have hkl : k < L.length := by rw [hn.out]; exact hlt
   have hbw : Below w.heap.size w wr := hst.out.row.below
   obtain ⟨D, off, rfl, hD, _, cs, hr, hv⟩ := hL.out.get hlt
   have HT : Hid (firstsN (L.take (k + 1)) = fstStepN (firstsN (L.take k)) (L.getD k default)) := zBG L hkl
   have HCt : Hid ((firstsN (L.take k)).length <= k) := zBh L k (by omega)
   generalize L.getD k default = q at hr HT
   generalize firstsN (L.take k) = G at hst HT HCt
   have hrA : RNode (fun b => A b /\ b < w.heap.size) w cs q := RNode.firm.weak hr (fun b hb h => ⟨h, hb⟩)
   obtain ⟨hsz, v1, v2, v3, v4, v5, v6, v7, v8, rfl⟩ := hr.lit0
   have HV : Hid (wr.rangeAt D (off + k * 9) [.string q.1, v1, v2, v3, v4, v5, v6, v7, v8]) := fun j v hj => (hbw.cell hD).trans (hv j v hj)
   have hi : (Tryz.prog.info? 54).map (·.size) = some ([.string q.1, v1, v2, v3, v4, v5, v6, v7, v8] : List Value).length := zBN
   have H1 : Hid ((([.string q.1, v1, v2, v3, v4, v5, v6, v7, v8] : List Value).toArray).all (·.oneCell') = true) := all_oneCell_toArray (RNode.firm.one hr)
   have HA : Hid (RNode (fun b => A b /\ b < w.heap.size) w [.string q.1, v1, v2, v3, v4, v5, v6, v7, v8] q) := hrA
   clear hr hv hrA
   obtain ⟨wb, hwb⟩ : ∃ wb, wb = (wr.alloc (.cells #[.string ⟨#[]⟩, .slice none 0 0, .slice none 0 0, .bool false, .int .i64 0, .int .i64 0, .int .i64 0, .int .i64 0, .int .i64 0] 54)).setCells wr.heap.size 0 [.string q.1, v1, v2, v3, v4, v5, v6, v7, v8] := ⟨_, rfl⟩
   have HTH : Hid ((wr.alloc (.cells #[.string ⟨#[]⟩, .slice none 0 0, .slice none 0 0, .bool false, .int .i64 0, .int .i64 0, .int .i64 0, .int .i64 0, .int .i64 0] 54)).there wr.heap.size 0 9) := (BoxL.new wr 54 [.string ⟨#[]⟩, .slice none 0 0, .slice none 0 0, .bool false, .int .i64 0, .int .i64 0, .int .i64 0, .int .i64 0, .int .i64 0]).there
   have HRG : Hid (wb.rangeAt wr.heap.size 0 [.string q.1, v1, v2, v3, v4, v5, v6, v7, v8]) := by rw [hwb]; exact World.rangeAt_setCells_same _ _ _ _ HTH.out
   have HBB : Hid (Below wr.heap.size wr wb) := by rw [hwb]; exact zA0 ((Below.refl _ _).alloc (Nat.le_refl _) _) (Nat.le_refl _)
   have HSZ : Hid (wr.heap.size < wb.heap.size) := World.block_lt_of_cell? wb ⟨wr.heap.size, 0 + 0, none⟩ (HRG.out 0 _ rfl)
   have HWB : Hid (wb = (wr.alloc (.cells #[.string ⟨#[]⟩, .slice none 0 0, .slice none 0 0, .bool false, .int .i64 0, .int .i64 0, .int .i64 0, .int .i64 0, .int .i64 0] 54)).setCells wr.heap.size 0 (([.string q.1, v1, v2, v3, v4, v5, v6, v7, v8] : List Value).toArray).toList) := hwb
   clear hwb
   have HP : Hid (∀ u, Below wb.heap.size wb u -> RNode (fun b => A b /\ b < w.heap.size) u [.string q.1, v1, v2, v3, v4, v5, v6, v7, v8] q) := fun u hb => RNode.firm.kept HA.out (Kept.below (on2 (on2 hbw HBB.out) hb))
   go_wp2_with (first | (refine wpList_load_mid rfl 54 _ rfl D (off + k * 9) rfl [.string q.1, v1, v2, v3, v4, v5, v6, v7, v8] _ HV.out Tryz.underlying54 rfl hi ?_) | (refine wpList_store_mid rfl 54 _ _ rfl wr.heap.size 0 (([.string q.1, v1, v2, v3, v4, v5, v6, v7, v8] : List Value).toArray) rfl rfl HTH.out hi H1.out ?_; refine zAH HWB.out ?_) | (refine wpList_load_mid rfl 54 _ rfl wr.heap.size 0 rfl [.string q.1, v1, v2, v3, v4, v5, v6, v7, v8] _ HRG.out Tryz.underlying54 rfl hi ?_))
   refine (zAi [.string q.1, v1, v2, v3, v4, v5, v6, v7, v8] q _ wb (HP.out wb (Below.refl _ _))).mono ?_
   rintro e wc ⟨rfl, hbc⟩
   have HSc : Hid (SetAt wc w.heap.size k (fun s => hasB sEq (nameN G) s)) := (hst.out.set.on HBB.out).on hbc
   cases hq : hasB sEq (nameN G) q.1
   ·have HSc2 : Hid (∀ u, Below wc.heap.size wc u -> SetAt u w.heap.size k (fun s => hasB sEq (nameN G) s)) := fun u hb => HSc.out.on hb
    have HRc : Hid (∀ u, Below wc.heap.size wc u -> u.rangeAt wr.heap.size 0 [.string q.1, v1, v2, v3, v4, v5, v6, v7, v8] /\ wr.heap.size < u.heap.size) := fun u hb => ⟨zAn (zAn HRG.out hbc HSZ.out) hb (Nat.lt_of_lt_of_le HSZ.out hbc.size), Nat.lt_of_lt_of_le (Nat.lt_of_lt_of_le HSZ.out hbc.size) hb.size⟩
    have HQ : Hid (hasB sEq (nameN G) q.1 = false) := hq
    clear hq
    obtain ⟨wd, hwd⟩ : ∃ wd, wd = wc.alloc (.cells #[] 146) := ⟨_, rfl⟩
    have hbd : Below wc.heap.size wc wd := by rw [hwd]; exact (Below.refl _ _).alloc (Nat.le_refl _) _
    have HRd := (HRc.out wd hbd).1
    have HRd2 : Hid (wd.rangeAt wr.heap.size 0 [.string q.1, v1, v2, v3, v4, v5, v6, v7, v8]) := HRd
    clear HRd
    go_wp2_with (first | (at_lookup; refine zAZ rfl _ _ 145 rfl Tryz.underlying145 w.heap.size k _ q.1 hsz rfl HSc.out rfl false HQ.out ?_) | (refine zAH hwd ?_; refine wpList_load_mid rfl 54 _ rfl wr.heap.size 0 rfl [.string q.1, v1, v2, v3, v4, v5, v6, v7, v8] _ HRd2.out Tryz.underlying54 rfl hi ?_))
    rw [<- hwd]
    refine (zAi [.string q.1, v1, v2, v3, v4, v5, v6, v7, v8] q _ wd (HP.out wd (on2 hbc hbd))).mono ?_
    rintro e we ⟨rfl, hbe⟩
    have hce : Below wc.heap.size wc we := on2 hbd hbe
    have HSe : Hid (SetAt we w.heap.size k (fun s => hasB sEq (nameN G) s)) := HSc2.out we hce
    have hmb : w.heap.size < wr.heap.size := hst.out.set.lt
    have HRF : Hid (∀ wf, we.grownBy wf (some w.heap.size) -> wf.rangeAt wr.heap.size 0 [.string q.1, v1, v2, v3, v4, v5, v6, v7, v8]) := fun wf hg => zAy (HRc.out we hce).1 (HRc.out we hce).2 hg (fun e => by injection e with e; omega)
    have hrw : Row RNode 9 (fun b => A b /\ b < w.heap.size) w we 54 u5 G := ((hst.out.row.on RNode.firm HBB.out).on RNode.firm hbc).on RNode.firm hce
    have hne : Value.ownBlock u5 ≠ some w.heap.size := hrw.ne_set HSe.out
    have HRW : Hid (∀ wf, we.grownBy wf (some w.heap.size) -> Row RNode 9 (fun b => A b /\ b < w.heap.size) w wf 54 u5 G) := fun wf hg => hrw.grown RNode.firm hg (fun b hb => by injection hb with hb; subst hb; exact ⟨Nat.le_refl _, hne, fun h => Nat.lt_irrefl _ h.2⟩)
    have HR3 : Hid (∀ wf, we.grownBy wf (some w.heap.size) -> Row RNode 9 (fun b => A b /\ b < w.heap.size) w (wf.alloc (.cells #[.string q.1, v1, v2, v3, v4, v5, v6, v7, v8] 54)) 54 u5 G) := fun wf hg => (HRW.out wf hg).on RNode.firm ((Below.refl _ _).alloc (Nat.le_refl _) _)
    have HCh : Hid (∀ wf, we.grownBy wf (some w.heap.size) -> Chunks RNode 9 (fun b => (fun b => A b /\ b < w.heap.size) b /\ Value.ownBlock u5 ≠ some b) (wf.alloc (.cells #[.string q.1, v1, v2, v3, v4, v5, v6, v7, v8] 54)) [.string q.1, v1, v2, v3, v4, v5, v6, v7, v8] [q]) := fun wf hg => by
     have h3 := HR3.out wf hg
     exact zAQ RNode.firm (RNode.firm.weak (RNode.firm.kept HA.out (Kept.below h3.below)) (fun b _ hb => ⟨hb, fun e => by have h1 := (h3.lt e).1; have h2 := hb.2; omega⟩))
    have HX : Hid (∀ wf : World, ∀ j v, ([.string q.1, v1, v2, v3, v4, v5, v6, v7, v8] : List Value)[j]? = some v -> (wf.alloc (.cells #[.string q.1, v1, v2, v3, v4, v5, v6, v7, v8] 54)).cell? ((⟨wf.heap.size, 0, none⟩ : Addr).add j) = some v) := fun wf => zAV wf _ 54
    have HO : Hid (∀ v ∈ [.string q.1, v1, v2, v3, v4, v5, v6, v7, v8], v.oneCell' = true) := RNode.firm.one HA.out
    have HLb : Hid ((G.length + [q].length) * 112 <= 140737488355328) := by have h1 := zBO hbb.out hlt; have h2 := HCt.out; rw [Hid, List.length_singleton]; omega
    have hkn : k < 140737488355328 := by omega
    have HE : Hid (∀ (wf : World) (vn : Value) (w4 : World), SetAt wf w.heap.size (k + 1) (fun t => hasB sEq (nameN G) t || sEq t q.1) -> Row RNode 9 (fun b => A b /\ b < w.heap.size) w w4 54 vn (G ++ [q]) -> (wf.alloc (.cells #[.string q.1, v1, v2, v3, v4, v5, v6, v7, v8] 54)).grownBy w4 (Value.ownBlock u5) -> FirStN A w w4 w.heap.size (k + 1) vn (firstsN (L.take (k + 1)))) := fun wf vn w4 hs hr hg => by
     have e1 : firstsN (L.take (k + 1)) = G ++ [q] := by rw [HT.out]; unfold fstStepN; rw [HQ.out]; rfl
     rw [e1]
     exact ⟨((hs.on ((Below.refl _ _).alloc (Nat.le_refl _) _)).grown hg hne).as (fun s => by rw [show nameN (G ++ [q]) = nameN G ++ [q.1] by simp [nameN], zBJ]), hr⟩
    clear hrw hne HRc HSc2 HRW hce hbe hbd hwd HRd2 HV HTH HWB H1
    go_wp2_with (first | (at_mapUpdate; go_must (refine zCh rfl _ _ _ 145 rfl Tryz.underlying145 w.heap.size k _ q.1 hsz hkn rfl HSe.out rfl rfl ?_); intro wf hsf hgf) | (refine wpList_load_mid rfl 54 _ rfl wr.heap.size 0 rfl [.string q.1, v1, v2, v3, v4, v5, v6, v7, v8] _ (HRF.out _ hgf) Tryz.underlying54 rfl hi ?_) | (at_builtin; go_must (refine zAF RNode.firm (A := (fun b => A b /\ b < w.heap.size)) (w0 := w) rfl _ _ 23 54 rfl _ 112 zDo Tryz.underlying23 rfl (by decide) (by decide) u5 G rfl (HR3.out _ hgf) ⟨wf.heap.size, 0, none⟩ 1 1 _ [q] rfl rfl (HCh.out _ hgf) (HX.out _) HO.out HLb.out ?_); intro vn w4 hrow4 hg4))
    have HZ := HE.out wf vn w4 hsf hrow4 hg4
    go_roundw
    case rel => exact ⟨k + 1, by omega, by go_num, HZ⟩
    case measure => simp [intOf]; omega
   ·have HZ : Hid (FirStN A w (wc.alloc (.cells #[] 146)) w.heap.size (k + 1) u5 (firstsN (L.take (k + 1)))) := by
     have e1 : firstsN (L.take (k + 1)) = G := by rw [HT.out]; unfold fstStepN; rw [hq]; rfl
     rw [Hid, e1]
     have h1 := ((hst.out.on HBB.out).on hbc).on ((Below.refl wc.heap.size wc).alloc (Nat.le_refl _) (.cells #[] 146))
     exact ⟨h1.set.mono (Nat.le_succ _), h1.row⟩
    clear HV HTH HWB H1 HT
    go_wp2_with (at_lookup; refine zAZ rfl _ _ 145 rfl Tryz.underlying145 w.heap.size k _ q.1 hsz rfl HSc.out rfl true hq ?_)
    go_roundw
    case rel => exact ⟨k + 1, by omega, by go_num, HZ⟩
    case measure => simp [intOf]; omega
  ·have hk9 : L.take k = L := List.take_of_length_le (by rw [hn.out]; omega)
   rw [hk9] at hst
   have hlz : ¬ ((k : Int) < (n : Int)) := by omega
   go_wp2_with fail
   go_ret
   exact ⟨_, rfl, hst.out.row⟩
end Go.Proofs.YtnffafjamiffnaaGreat
namespace Go.Proofs.YtnffafjamiffnaaGreat
open Go.RowKit
theorem why1_at {y : PodD} {x : InfoD} {k : Nat} (hk : k < 8) (hn : ∀ j, j < k -> reaB y x j = false) (hy : reaB y x k = true) : why1 y x = ((k + 1 : Nat) : Int) := by
 simp only [reaB, whyR, why1, whyL, yes] at *
 obtain rfl | rfl | rfl | rfl | rfl | rfl | rfl | rfl : k = 0 \/ k = 1 \/ k = 2 \/ k = 3 \/ k = 4 \/ k = 5 \/ k = 6 \/ k = 7 := by omega
 ·simp at hy; simp [hy]
 ·have n0 := hn 0 (by omega); simp at n0 hy; simp [n0, hy]
 ·have n0 := hn 0 (by omega); have n1 := hn 1 (by omega); simp at n0 n1 hy; simp [n0, n1, hy]
 ·have n0 := hn 0 (by omega); have n1 := hn 1 (by omega); have n2 := hn 2 (by omega); simp at n0 n1 n2 hy; simp [n0, n1, n2, hy]
 ·have n0 := hn 0 (by omega); have n1 := hn 1 (by omega); have n2 := hn 2 (by omega); have n3 := hn 3 (by omega); simp at n0 n1 n2 n3 hy; simp [n0, n1, n2, n3, hy]
 ·have n0 := hn 0 (by omega); have n1 := hn 1 (by omega); have n2 := hn 2 (by omega); have n3 := hn 3 (by omega); have n4 := hn 4 (by omega); simp at n0 n1 n2 n3 n4 hy; simp [n0, n1, n2, n3, n4, hy]
 ·have n0 := hn 0 (by omega); have n1 := hn 1 (by omega); have n2 := hn 2 (by omega); have n3 := hn 3 (by omega); have n4 := hn 4 (by omega); have n5 := hn 5 (by omega); simp at n0 n1 n2 n3 n4 n5 hy; simp [n0, n1, n2, n3, n4, n5, hy]
 ·have n0 := hn 0 (by omega); have n1 := hn 1 (by omega); have n2 := hn 2 (by omega); have n3 := hn 3 (by omega); have n4 := hn 4 (by omega); have n5 := hn 5 (by omega); have n6 := hn 6 (by omega); simp at n0 n1 n2 n3 n4 n5 n6 hy; simp [n0, n1, n2, n3, n4, n5, n6, hy]
theorem why1_no {y : PodD} {x : InfoD} (hn : ∀ j, j < 8 -> reaB y x j = false) : why1 y x = 0 := by
 have n0 := hn 0 (by omega); have n1 := hn 1 (by omega); have n2 := hn 2 (by omega); have n3 := hn 3 (by omega); have n4 := hn 4 (by omega); have n5 := hn 5 (by omega); have n6 := hn 6 (by omega); have n7 := hn 7 (by omega)
 simp only [reaB, whyR, why1, whyL, yes] at *
 simp at n0 n1 n2 n3 n4 n5 n6 n7
 simp [n0, n1, n2, n3, n4, n5, n6, n7]
theorem zFS (ds cs : List Value) (A : Where) (y : PodD) (x : InfoD) (w : World) (h : Hid (RPod A w ds y)) (h' : Hid (RInfo A w cs x)) : Calls Tryz.prog 105 #[.agg ds.toArray, .agg cs.toArray] w fun e w' => e = .returned (.int .i64 (why1 y x)) /\ Below w.heap.size w w' := by
 have hiP : (Tryz.prog.info? 49).map (·.size) = some ds.length := by rw [RPod.firm.len h.out]; exact zGR
 have hiI : (Tryz.prog.info? 63).map (·.size) = some cs.length := by rw [RInfo.firm.len h'.out]; exact zFD
 obtain ⟨W2, hW2⟩ : ∃ W2, W2 = (w.alloc (.cells ds.toArray 49)).alloc (.cells cs.toArray 63) := ⟨_, rfl⟩
 have B2 : Hid (Below w.heap.size w W2) := by rw [Hid, hW2]; go_grown
 have HX : Hid (BoxL W2 w.heap.size ds) := by rw [hW2]; exact (BoxL.new w 49 ds).on ((Below.refl _ _).alloc (Nat.le_refl _) _)
 have HY : Hid (BoxL W2 (w.heap.size + 1) cs) := by have h1 := BoxL.new (w.alloc (.cells ds.toArray 49)) 63 cs; rw [Hid, hW2]; simpa using h1
 have hV := zDz ds cs A y x W2 (RPod.firm.kept h.out (Kept.below B2.out)) (RInfo.firm.kept h'.out (Kept.below B2.out))
 have HW2 : Hid (W2 = (w.alloc (.cells ds.toArray 49)).alloc (.cells cs.toArray 63)) := hW2
 clear h h' hW2
 go_enter Tryz.func105, Tryz.ntmps105
 go_wp2_with (first | (refine wpl_w HW2.out ?_; refine wpList_load_mid rfl 49 _ rfl w.heap.size 0 rfl ds _ HX.out.range Tryz.underlying49 rfl hiP ?_) | (refine wpList_load_mid rfl 63 _ rfl (w.heap.size + 1) 0 rfl cs _ HY.out.range Tryz.underlying63 rfl hiI ?_) | fail)
 clear HW2
 refine hV.mono ?_
 clear hV
 rintro e w3 ⟨vs, rfl, hv, hb3⟩
 have hl : vs.length = 37 := RVisit.firm.len hv
 have hiV : (Tryz.prog.info? 205).map (·.size) = some vs.toArray.size := by have e : vs.toArray.size = 37 := (by simp [hl]); rw [e]; exact zBx
 have hiV' : (Tryz.prog.info? 205).map (·.size) = some vs.length := by rw [hl]; exact zBx
 have HO : Hid (vs.toArray.all (·.oneCell') = true) := all_oneCell_toArray (RVisit.firm.one hv)
 have HT : Hid ((w3.alloc (.cells #[.string ⟨#[]⟩, .int .i64 0, .slice none 0 0, .int .i64 0, .int .i64 0, .int .i64 0, .slice none 0 0, .slice none 0 0, .slice none 0 0, .slice none 0 0, .slice none 0 0, .slice none 0 0, .slice none 0 0, .slice none 0 0, .string ⟨#[]⟩, .string ⟨#[]⟩, .string ⟨#[]⟩, .slice none 0 0, .slice none 0 0, .bool false, .int .i64 0, .int .i64 0, .int .i64 0, .int .i64 0, .int .i64 0, .slice none 0 0, .int .i64 0, .int .i64 0, .int .i64 0, .slice none 0 0, .slice none 0 0, .int .i64 0, .int .i64 0, .int .i64 0, .int .i64 0, .int .i64 0, .int .i64 0] 205)).there w3.heap.size 0 vs.toArray.size) := by have e : vs.toArray.size = 37 := (by simp [hl]); rw [Hid, e]; exact (BoxL.new w3 205 [.string ⟨#[]⟩, .int .i64 0, .slice none 0 0, .int .i64 0, .int .i64 0, .int .i64 0, .slice none 0 0, .slice none 0 0, .slice none 0 0, .slice none 0 0, .slice none 0 0, .slice none 0 0, .slice none 0 0, .slice none 0 0, .string ⟨#[]⟩, .string ⟨#[]⟩, .string ⟨#[]⟩, .slice none 0 0, .slice none 0 0, .bool false, .int .i64 0, .int .i64 0, .int .i64 0, .int .i64 0, .int .i64 0, .slice none 0 0, .int .i64 0, .int .i64 0, .int .i64 0, .slice none 0 0, .slice none 0 0, .int .i64 0, .int .i64 0, .int .i64 0, .int .i64 0, .int .i64 0, .int .i64 0]).there
 obtain ⟨W4, hW4⟩ : ∃ W4, W4 = (w3.alloc (.cells #[.string ⟨#[]⟩, .int .i64 0, .slice none 0 0, .int .i64 0, .int .i64 0, .int .i64 0, .slice none 0 0, .slice none 0 0, .slice none 0 0, .slice none 0 0, .slice none 0 0, .slice none 0 0, .slice none 0 0, .slice none 0 0, .string ⟨#[]⟩, .string ⟨#[]⟩, .string ⟨#[]⟩, .slice none 0 0, .slice none 0 0, .bool false, .int .i64 0, .int .i64 0, .int .i64 0, .int .i64 0, .int .i64 0, .slice none 0 0, .int .i64 0, .int .i64 0, .int .i64 0, .slice none 0 0, .slice none 0 0, .int .i64 0, .int .i64 0, .int .i64 0, .int .i64 0, .int .i64 0, .int .i64 0] 205)).setCells w3.heap.size 0 vs := ⟨_, rfl⟩
 have HX4 : Hid (BoxL W4 w3.heap.size vs) := by rw [hW4]; exact zGV (BoxL.new w3 205 [.string ⟨#[]⟩, .int .i64 0, .slice none 0 0, .int .i64 0, .int .i64 0, .int .i64 0, .slice none 0 0, .slice none 0 0, .slice none 0 0, .slice none 0 0, .slice none 0 0, .slice none 0 0, .slice none 0 0, .slice none 0 0, .string ⟨#[]⟩, .string ⟨#[]⟩, .string ⟨#[]⟩, .slice none 0 0, .slice none 0 0, .bool false, .int .i64 0, .int .i64 0, .int .i64 0, .int .i64 0, .int .i64 0, .slice none 0 0, .int .i64 0, .int .i64 0, .int .i64 0, .slice none 0 0, .slice none 0 0, .int .i64 0, .int .i64 0, .int .i64 0, .int .i64 0, .int .i64 0, .int .i64 0]) (by rw [hl]; rfl)
 have B4 : Hid (Below w3.heap.size w3 W4) := by rw [Hid, hW4]; exact zA0 ((Below.refl _ _).alloc (Nat.le_refl _) _) (Nat.le_refl _)
 have HW4 : Hid (W4 = (w3.alloc (.cells #[.string ⟨#[]⟩, .int .i64 0, .slice none 0 0, .int .i64 0, .int .i64 0, .int .i64 0, .slice none 0 0, .slice none 0 0, .slice none 0 0, .slice none 0 0, .slice none 0 0, .slice none 0 0, .slice none 0 0, .slice none 0 0, .string ⟨#[]⟩, .string ⟨#[]⟩, .string ⟨#[]⟩, .slice none 0 0, .slice none 0 0, .bool false, .int .i64 0, .int .i64 0, .int .i64 0, .int .i64 0, .int .i64 0, .slice none 0 0, .int .i64 0, .int .i64 0, .int .i64 0, .slice none 0 0, .slice none 0 0, .int .i64 0, .int .i64 0, .int .i64 0, .int .i64 0, .int .i64 0, .int .i64 0] 205)).setCells w3.heap.size 0 vs.toArray.toList) := by rw [Hid, hW4]
 have HV4 : Hid (∀ u, Below W4.heap.size W4 u -> RVisit A u vs (y, x, wantP y, freeP x)) := fun u hb => RVisit.firm.kept hv (Kept.below (on2 B4.out hb))
 have B04 : Hid (Below w.heap.size w W4) := on2 (on2 B2.out hb3) B4.out
 clear hW4 hv hb3 HX HY B2 hl
 go_wp2_with (first | (refine wpList_store_mid rfl 205 _ _ rfl w3.heap.size 0 vs.toArray rfl rfl HT.out hiV HO.out ?_; refine wpl_w HW4.out ?_) | fail)
 refine (zEc W4).mono ?_
 rintro e w5 ⟨rfl, hR, hb5⟩
 have B5 : Hid (Below W4.heap.size W4 w5) := hb5
 have HR : Hid (BoxL w5 W4.heap.size reaC) := hR
 clear hR hb5 HW4 HO HT
 go_wp2_with fail
 go_loopw [13] (fun i wr => ∃ k : Nat, k <= 8 /\ i = .int .i64 k /\ Below w5.heap.size w5 wr /\ Hid (∀ j, j < k -> reaB y x j = false)) (fun i _ => 8 - (intOf i).toNat)
 case atStart => exact ⟨0, Nat.zero_le _, rfl, Below.refl _ _, fun j hj => absurd hj (Nat.not_lt_zero _)⟩
 case round =>
  obtain ⟨k, hk, rfl, hbel, hall⟩ := hrel
  by_cases hlt : k < 8
  ·
   obtain ⟨g, hg⟩ := reason_at hlt
   obtain ⟨hq0, hq1, hge, hgc⟩ := hg
   have hbw : Below W4.heap.size W4 wr := on2 B5.out hbel
   have HC : Hid (∀ u, Below wr.heap.size wr u -> Calls Tryz.prog g #[.agg vs.toArray] u fun e w' => e = .returned (.bool (reaB y x k)) /\ Below u.heap.size u w') := fun u hb => hgc vs A y x u (HV4.out u (on2 hbw hb))
   have c0 := ((HR.out.on hbel).2 _ _ hq0).1
   have c1 := ((HR.out.on hbel).2 _ _ hq1).1
   clear hgc hq0 hq1
   have hbx : Hid (∀ u, Below wr.heap.size wr u -> BoxL u w3.heap.size vs) := fun u hb => (HX4.out.on hbw).on hb
   have hne : Hid (W4.heap.size < wr.heap.size) := Nat.lt_of_lt_of_le HR.out.1 hbel.size
   cases hm : reaB y x k
   ·have HG : Hid (∀ j, j < k + 1 -> reaB y x j = false) := fun j hj => by
     rcases Nat.lt_succ_iff_lt_or_eq.1 hj with h | rfl
     ·exact hall.out j h
     ·exact hm
    rw [hm] at HC
    clear hm hall
    go_wp2_with (first | (refine wpList_load_mid rfl 205 _ rfl w3.heap.size 0 rfl vs _ (hbx.out _ (by go_grown)).range Tryz.underlying205 rfl hiV' ?_) | fail)
    refine (HC.out _ (by go_grown)).mono ?_
    rintro e w6 ⟨rfl, hb6⟩
    have hb' : Below w5.heap.size w5 w6 := on2 hbel (on2 (by go_grown) hb6)
    clear HC c0 c1 hb6 hbel hbx
    go_wp2_with fail
    go_roundw
    case rel => exact ⟨k + 1, by omega, by go_num, hb', HG⟩
    case measure => simp [intOf]; omega
   ·have HF : Hid (why1 y x = ((k + 1 : Nat) : Int)) := why1_at hlt hall.out hm
    rw [hm] at HC
    clear hm hall
    go_wp2_with (first | (refine wpList_load_mid rfl 205 _ rfl w3.heap.size 0 rfl vs _ (hbx.out _ (by go_grown)).range Tryz.underlying205 rfl hiV' ?_) | fail)
    have q0 : BoxL (wr.alloc (.cells #[.int .i64 ((k + 1 : Nat) : Int), .func (.func g) #[] #[]] 211)) wr.heap.size [.int .i64 ((k + 1 : Nat) : Int), .func (.func g) #[] #[]] := BoxL.new wr 211 _
    refine (HC.out _ (by go_grown)).mono ?_
    rintro e w6 ⟨rfl, hb6⟩
    have hb' : Below w.heap.size w w6 := on2 (on2 B04.out B5.out) (on2 hbel (on2 (by go_grown) hb6))
    have z0 := ((q0.on hb6).2 0 _ rfl).1
    clear HC c0 c1 hb6 hbel hbx
    go_wp2_with fail
    go_ret
    exact ⟨zFh HF.out.symm, hb'⟩
  ·have HF : Hid (why1 y x = 0) := why1_no (fun j hj => hall.out j (by omega))
   go_wp2_with fail
   go_ret
   exact ⟨zFh HF.out.symm, on2 (on2 B04.out B5.out) hbel⟩
end Go.Proofs.YtnffafjamiffnaaGreat
