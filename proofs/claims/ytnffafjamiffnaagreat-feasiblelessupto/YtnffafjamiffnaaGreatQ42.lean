/- feasible.placedIn: the bound pods of a state, each with the labels of its node. Conditions: the state lies as is said of it, each node has a name of its own; what is placed is no more than memory holds. -/
import Derived.Test.YtnffafjamiffnaaGreatQ39
set_option linter.unusedSimpArgs false
set_option maxRecDepth 100000
set_option maxHeartbeats 32000000
namespace Go.Proofs.YtnffafjamiffnaaGreat
open Go.RowKit Go.Maps
def nodeLabs (N : List NodeD) (s : ByteArray) : List Lab := match fI (N.map Prod.fst) s with | some k => (N.getD k default).2.1 | none => []
def placedP (x : StateD) : List PlacedD := (x.1.filter (fun p => !sEq (pNode p) ⟨#[]⟩)).map (fun p => (p, nodeLabs x.2.1 (pNode p)))
theorem zHM (x : StateD) : (placedP x).length <= x.1.length := by unfold placedP; rw [List.length_map]; exact List.length_filter_le _ _
def placedT (N : List NodeD) (L : List PodD) (k : Nat) : List PlacedD := ((L.take k).filter (fun p => !sEq (pNode p) ⟨#[]⟩)).map (fun p => (p, nodeLabs N (pNode p)))
theorem zFO (N : List NodeD) (L : List PodD) {k : Nat} (hk : k < L.length) : placedT N L (k + 1) = placedT N L k ++ (if sEq (pNode (L.getD k default)) ⟨#[]⟩ = true then [] else [(L.getD k default, nodeLabs N (pNode (L.getD k default)))]) := by
 unfold placedT
 rw [List.take_succ_eq_append_getElem hk, List.filter_append, List.map_append, List.getD_eq_getElem?_getD, List.getElem?_eq_getElem hk]
 congr 1
 by_cases h : sEq (pNode L[k]) ⟨#[]⟩ = true
 ·simp [h]
 ·simp [h]
theorem zG9 (N : List NodeD) (L : List PodD) (k : Nat) : (placedT N L k).length <= k := by unfold placedT; rw [List.length_map]; exact Nat.le_trans (List.length_filter_le _ _) (by rw [List.length_take]; omega)
theorem zGg : (Tryz.prog.info? 68).map (fun i => (i.zero, i.size, i.bytes)) = some (some (.agg #[.string ⟨#[]⟩, .int .i64 0, .slice none 0 0, .int .i64 0, .int .i64 0, .int .i64 0, .slice none 0 0, .slice none 0 0, .slice none 0 0, .slice none 0 0, .slice none 0 0, .slice none 0 0, .slice none 0 0, .slice none 0 0, .string ⟨#[]⟩, .string ⟨#[]⟩, .slice none 0 0]), 17, 320) := by kernel_rfl
theorem zBc (cs : List Value) (A : Where) (q : PodD) (w : World) (h : Hid (RPod A w cs q)) : Calls Tryz.prog 33 #[.agg cs.toArray] w fun e w' => e = .returned (.bool (!sEq (pNode q) ⟨#[]⟩)) /\ Below w.heap.size w w' := by
 obtain ⟨_, _, v1, v2, v3, v4, v5, v6, v7, v8, v9, v10, v11, v12, v13, v15, rfl⟩ := h.out.lit14
 obtain ⟨W1, hW1⟩ : ∃ W1, W1 = w.alloc (.cells #[.string q.1, v1, v2, v3, v4, v5, v6, v7, v8, v9, v10, v11, v12, v13, .string (pNode q), v15] 49) := ⟨_, rfl⟩
 have HB : Hid (Below w.heap.size w W1) := by rw [hW1]; exact (Below.refl _ _).alloc (Nat.le_refl _) _
 have c14 : W1.cell? ⟨w.heap.size, 14, none⟩ = some (.string (pNode q)) := by rw [hW1]; exact ((BoxL.new w 49 [.string q.1, v1, v2, v3, v4, v5, v6, v7, v8, v9, v10, v11, v12, v13, .string (pNode q), v15]).2 14 _ rfl).1
 have hq1 : (pNode q).toList.isEmpty = sEq (pNode q) ⟨#[]⟩ := isE9 _
 clear h
 obtain ⟨b, hb⟩ : ∃ b, sEq (pNode q) ⟨#[]⟩ = b := ⟨_, rfl⟩
 rw [hb] at hq1 |-
 clear hb
 go_enter Tryz.func33, Tryz.ntmps33
 go_upto_region 1 with fail
 rw [<- hW1]
 clear hW1
 go_wp2_with fail
 go_ret
 exact ⟨rfl, HB.out⟩
theorem zDQ (cs : List Value) (x : StateD) (w : World) (D : Where) (h : Hid (RState D w cs x)) (hnd : (x.2.1.map Prod.fst).Nodup) (hb : x.1.length * 320 <= 140737488351232) :
  Calls Tryz.prog 103 #[.agg cs.toArray] w fun e w' => ∃ v, e = .returned v /\ Row RPlaced 17 (fun b => D b /\ b < w.heap.size) w w' 68 v (placedP x) := by
 obtain ⟨⟨a0, n0, m0⟩, ⟨a1, n1, m1⟩, ⟨a2, n2, m2⟩, ⟨a3, n3, m3⟩, ⟨a4, n4, m4⟩, ⟨a5, n5, m5⟩, rfl, s0, s1, _⟩ := h.out.out
 simp only at s0 s1
 have hl0 : Hid (x.1.length = n0) := s0.1
 have hl1 : Hid (x.2.1.length = n1) := s1.1
 have hlen0 := s0.len (by decide)
 have hlen1 := s1.len (by decide)
 have HND : Hid ((x.2.1.map Prod.fst).Nodup) := hnd
 have HB9 : Hid (n0 * 320 <= 140737488351232) := by rw [Hid, <- hl0.out]; exact hb
 obtain ⟨W1, hW1⟩ : ∃ W, W = w.alloc (.cells #[.slice a0 n0 m0, .slice a1 n1 m1, .slice a2 n2 m2, .slice a3 n3 m3, .slice a4 n4 m4, .slice a5 n5 m5] 29) := ⟨_, rfl⟩
 have B1 : Below w.heap.size w W1 := by rw [hW1]; go_grown
 have q1 : BoxL W1 w.heap.size [.slice a0 n0 m0, .slice a1 n1 m1, .slice a2 n2 m2, .slice a3 n3 m3, .slice a4 n4 m4, .slice a5 n5 m5] := by rw [hW1]; exact BoxL.new w 29 _
 have hz1 : W1.heap.size = w.heap.size + 1 := by rw [hW1]; simp
 obtain ⟨W2, hW2⟩ : ∃ W, W = W1.alloc (.map #[] 0) := ⟨_, rfl⟩
 have B2 : Below W1.heap.size W1 W2 := by rw [hW2]; exact (Below.refl _ _).alloc (Nat.le_refl _) _
 have mN : NmAt W2 W1.heap.size ((x.2.1.map Prod.fst).take 0) := by rw [hW2]; exact NmAt.made W1
 have f1 := (q1.2 1 _ rfl).1
 have hlt1 := q1.1
 have HU : Hid (∀ u, Kept (fun b => b <= w.heap.size) W1 u -> Below w.heap.size w u -> SlAt RPod 16 296 (fun b => D b /\ b < w.heap.size) u a0 n0 m0 x.1 /\ SlAt RNode 9 112 (fun b => D b /\ b < w.heap.size) u a1 n1 m1 x.2.1 /\ BoxL u w.heap.size [.slice a0 n0 m0, .slice a1 n1 m1, .slice a2 n2 m2, .slice a3 n3 m3, .slice a4 n4 m4, .slice a5 n5 m5]) := fun u hu hbu => ⟨(s0.weak RPod.firm (fun b hb hd => ⟨hd, hb⟩)).kept RPod.firm ⟨hbu.size, fun b hb _ => hbu.block b hb.2⟩, (s1.weak RNode.firm (fun b hb hd => ⟨hd, hb⟩)).kept RNode.firm ⟨hbu.size, fun b hb _ => hbu.block b hb.2⟩, q1.kept hu (Nat.le_refl _)⟩
 have H2 : Hid (NmAt W2 W1.heap.size ((x.2.1.map Prod.fst).take 0) /\ Kept (fun b => b <= w.heap.size) W1 W2 /\ Below w.heap.size w W2) := ⟨mN, Kept.below B2, on2 B1 B2⟩
 have hmm := zAR
 have hzW : Hid (W1.heap.size = w.heap.size + 1) := hz1
 have HPT : Hid (placedP x = placedT x.2.1 x.1 n0) := by unfold placedP placedT; rw [List.take_of_length_le (by rw [hl0.out]; exact Nat.le_refl _)]; rfl
 clear h s0 s1 B1 q1 B2 mN hz1 hnd hb
 generalize hmbE : W1.heap.size = mb at *
 have HW2 : Hid (W2 = W1.alloc (.map #[] 0)) := hW2
 have HmbE : Hid (W1.heap.size = mb) := hmbE
 clear hW2
 go_enter Tryz.func103, Tryz.ntmps103
 go_upto_region 1 with fail
 rw [<- hW1]
 clear hW1
 go_upto_region 2 with fail
 rw [<- HW2.out]
 clear HW2 HmbE hmbE hmm f1
 obtain ⟨_, _, qS2⟩ := HU.out W2 H2.out.2.1 H2.out.2.2
 have f1 := (qS2.2 1 _ rfl).1
 have hlt2 := qS2.1
 clear qS2
 go_wp2_with fail
 go_loopw [19] (fun i wr => ∃ k : Nat, k <= n1 /\ i = .int .i64 k /\ Hid (NmAt wr mb ((x.2.1.map Prod.fst).take k) /\ Kept (fun b => b <= w.heap.size) W1 wr /\ Below w.heap.size w wr)) (fun i _ => n1 - (intOf i).toNat)
 case atStart => exact ⟨0, Nat.zero_le _, rfl, H2⟩
 case round =>
  obtain ⟨k, hk, rfl, hst⟩ := hrel
  obtain ⟨hnm, hkp, hbw⟩ := hst.out
  clear hst
  by_cases hlt : k < n1
  ·have hltz : (k : Int) < (n1 : Int) := by omega
   have hkl : k < x.2.1.length := by rw [hl1.out]; exact hlt
   obtain ⟨B, off, hBe, hBl, _, xs, hrn, hv⟩ := (HU.out wr hkp hbw).2.1.get hlt
   subst hBe
   have hlk : ((x.2.1.map Prod.fst).take k).length = k := by rw [List.length_take, List.length_map]; omega
   have HT : Hid ((x.2.1.map Prod.fst).take (k + 1) = (x.2.1.map Prod.fst).take k ++ [(x.2.1.getD k default).1]) := zAw Prod.fst hkl
   have hno : fI ((x.2.1.map Prod.fst).take k) (x.2.1.getD k default).1 = none := by
    have h8 := HND.out
    rw [<- List.take_append_drop (k + 1) (x.2.1.map Prod.fst), HT.out] at h8
    have h9 := (List.nodup_append.1 (List.nodup_append.1 h8).1).2.2
    cases e : fI ((x.2.1.map Prod.fst).take k) (x.2.1.getD k default).1 with
    | none => rfl
    | some i =>
     obtain ⟨e1, e2, _⟩ := zAD e
     have hm : (x.2.1.getD k default).1 ∈ (x.2.1.map Prod.fst).take k := by rw [<- e2, List.getD_eq_getElem?_getD, List.getElem?_eq_getElem e1]; exact List.getElem_mem e1
     exact absurd rfl (h9 _ hm _ (by simp))
   generalize x.2.1.getD k default = x9 at hrn HT hno
   obtain ⟨hsz, v1, v2, v3, v4, v5, v6, v7, v8, rfl⟩ := hrn.lit0
   have HV : Hid (wr.rangeAt B (off + k * 9) [.string x9.1, v1, v2, v3, v4, v5, v6, v7, v8]) := hv
   have hi : (Tryz.prog.info? 54).map (·.size) = some ([.string x9.1, v1, v2, v3, v4, v5, v6, v7, v8] : List Value).length := zBN
   have H1 : Hid ((([.string x9.1, v1, v2, v3, v4, v5, v6, v7, v8] : List Value).toArray).all (·.oneCell') = true) := all_oneCell_toArray (RNode.firm.one hrn)
   clear hrn hv
   obtain ⟨wb, hwb⟩ : ∃ wb, wb = (wr.alloc (.cells #[.string ⟨#[]⟩, .slice none 0 0, .slice none 0 0, .bool false, .int .i64 0, .int .i64 0, .int .i64 0, .int .i64 0, .int .i64 0] 54)).setCells wr.heap.size 0 [.string x9.1, v1, v2, v3, v4, v5, v6, v7, v8] := ⟨_, rfl⟩
   have HTH : Hid ((wr.alloc (.cells #[.string ⟨#[]⟩, .slice none 0 0, .slice none 0 0, .bool false, .int .i64 0, .int .i64 0, .int .i64 0, .int .i64 0, .int .i64 0] 54)).there wr.heap.size 0 9) := (BoxL.new wr 54 [.string ⟨#[]⟩, .slice none 0 0, .slice none 0 0, .bool false, .int .i64 0, .int .i64 0, .int .i64 0, .int .i64 0, .int .i64 0]).there
   have HBX : BoxL wb wr.heap.size [.string x9.1, v1, v2, v3, v4, v5, v6, v7, v8] := by rw [hwb]; exact zAz wr 54 [.string ⟨#[]⟩, .slice none 0 0, .slice none 0 0, .bool false, .int .i64 0, .int .i64 0, .int .i64 0, .int .i64 0, .int .i64 0] [.string x9.1, v1, v2, v3, v4, v5, v6, v7, v8] rfl
   have HBB : Below wr.heap.size wr wb := by rw [hwb]; exact zA0 ((Below.refl _ _).alloc (Nat.le_refl _) _) (Nat.le_refl _)
   have HWB : Hid (wb = (wr.alloc (.cells #[.string ⟨#[]⟩, .slice none 0 0, .slice none 0 0, .bool false, .int .i64 0, .int .i64 0, .int .i64 0, .int .i64 0, .int .i64 0] 54)).setCells wr.heap.size 0 (([.string x9.1, v1, v2, v3, v4, v5, v6, v7, v8] : List Value).toArray).toList) := hwb
   clear hwb
   have c0 := (HBX.2 0 _ rfl).1
   have hlb := HBX.1
   obtain ⟨w7, hrun, hnm7, hg7⟩ := (hnm.on HBB).put 165 Tryz.underlying165 hsz hno (by omega)
   rw [hlk] at hrun
   have HZ : Hid (NmAt w7 mb ((x.2.1.map Prod.fst).take (k + 1)) /\ Kept (fun b => b <= w.heap.size) W1 w7 /\ Below w.heap.size w w7) := ⟨by rw [HT.out]; exact hnm7, (hkp.trans (Kept.below HBB)).trans (Kept.grown hg7 (fun b e hb => by cases e; have := hzW.out; omega)), (on2 hbw HBB).grown hg7 (on2 hbw HBB).size (fun b e => by cases e; have := hzW.out; omega)⟩
   clear hnm hkp hbw hnm7 hg7 HBX HBB hno hlk HT
   go_wp2_with (first | (refine wpList_load_mid rfl 54 _ rfl B (off + k * 9) rfl [.string x9.1, v1, v2, v3, v4, v5, v6, v7, v8] _ HV.out Tryz.underlying54 rfl hi ?_) | (refine wpList_store_mid rfl 54 _ _ rfl wr.heap.size 0 (([.string x9.1, v1, v2, v3, v4, v5, v6, v7, v8] : List Value).toArray) rfl rfl HTH.out hi H1.out ?_; refine zAH HWB.out ?_) | fail)
   go_roundw
   case rel => exact ⟨k + 1, by omega, by go_num, HZ⟩
   case measure => simp [intOf]; omega
  ·obtain rfl : n1 = k := by omega
   have hte : (x.2.1.map Prod.fst).take n1 = x.2.1.map Prod.fst := List.take_of_length_le (by rw [List.length_map, hl1.out]; exact Nat.le_refl _)
   rw [hte] at hnm
   obtain ⟨W5, hW5⟩ : ∃ z, z = wr := ⟨_, rfl⟩
   subst hW5
   have f0 := ((HU.out W5 hkp hbw).2.2.2 0 _ rfl).1
   have hlt5 := (HU.out W5 hkp hbw).2.2.1
   have HF : Hid (∀ u, Below W5.heap.size W5 u -> SlAt RPod 16 296 (fun b => D b /\ b < w.heap.size) u a0 n0 m0 x.1 /\ SlAt RNode 9 112 (fun b => D b /\ b < w.heap.size) u a1 n1 m1 x.2.1 /\ BoxL u w.heap.size [.slice a0 n0 m0, .slice a1 n1 m1, .slice a2 n2 m2, .slice a3 n3 m3, .slice a4 n4 m4, .slice a5 n5 m5] /\ NmAt u mb (x.2.1.map Prod.fst) /\ Below w.heap.size w u) := fun u hu => ⟨(HU.out W5 hkp hbw).1.on RPod.firm hu, (HU.out W5 hkp hbw).2.1.on RNode.firm hu, (HU.out W5 hkp hbw).2.2.on hu, hnm.on hu, on2 hbw hu⟩
   have H5 : Hid (Row RPlaced 17 (fun b => D b /\ b < w.heap.size) W5 W5 68 (.slice none 0 0) (placedT x.2.1 x.1 0)) := Row.nil _ _ _
   have hwW : w.heap.size <= W5.heap.size := hbw.size
   clear hte hnm hkp hbw H2 HU
   go_wp2_with fail
   go_loopw [6, 32] (fun o i wr => ∃ j : Nat, j <= n0 /\ i = .int .i64 j /\ Hid (Row RPlaced 17 (fun b => D b /\ b < w.heap.size) W5 wr 68 o (placedT x.2.1 x.1 j))) (fun _ i _ => n0 - (intOf i).toNat)
   case atStart => exact ⟨0, Nat.zero_le _, rfl, H5⟩
   case round =>
    obtain ⟨j, hj, rfl, hrow⟩ := hrel
    have hbr : Below W5.heap.size W5 wr := hrow.out.below
    by_cases hlt2 : j < n0
    ·have hltz : (j : Int) < (n0 : Int) := by omega
     have hjl : j < x.1.length := by rw [hl0.out]; exact hlt2
     obtain ⟨B, off, hBe, hBl, _, xs, hrp, hv⟩ := (HF.out wr hbr).1.get hlt2
     subst hBe
     have HT : Hid (placedT x.2.1 x.1 (j + 1) = placedT x.2.1 x.1 j ++ (if sEq (pNode (x.1.getD j default)) ⟨#[]⟩ = true then [] else [(x.1.getD j default, nodeLabs x.2.1 (pNode (x.1.getD j default)))])) := zFO _ _ hjl
     have HCl : Hid ((placedT x.2.1 x.1 j).length <= j) := zG9 _ _ _
     generalize x.1.getD j default = q at hrp HT
     generalize placedT x.2.1 x.1 j = G at hrow HT HCl
     obtain ⟨hsz, hsn, v1, v2, v3, v4, v5, v6, v7, v8, v9, v10, v11, v12, v13, v15, rfl⟩ := hrp.lit14
     have HV : Hid (wr.rangeAt B (off + j * 16) [.string q.1, v1, v2, v3, v4, v5, v6, v7, v8, v9, v10, v11, v12, v13, .string (pNode q), v15]) := hv
     have hi : (Tryz.prog.info? 49).map (·.size) = some ([.string q.1, v1, v2, v3, v4, v5, v6, v7, v8, v9, v10, v11, v12, v13, .string (pNode q), v15] : List Value).length := zAM
     have H1 : Hid ((([.string q.1, v1, v2, v3, v4, v5, v6, v7, v8, v9, v10, v11, v12, v13, .string (pNode q), v15] : List Value).toArray).all (·.oneCell') = true) := all_oneCell_toArray (RPod.firm.one hrp)
     have HA : Hid (RPod (fun b => D b /\ b < w.heap.size) wr [.string q.1, v1, v2, v3, v4, v5, v6, v7, v8, v9, v10, v11, v12, v13, .string (pNode q), v15] q) := hrp
     clear hrp hv
     obtain ⟨wb, hwb⟩ : ∃ wb, wb = (wr.alloc (.cells #[.string ⟨#[]⟩, .int .i64 0, .slice none 0 0, .int .i64 0, .int .i64 0, .int .i64 0, .slice none 0 0, .slice none 0 0, .slice none 0 0, .slice none 0 0, .slice none 0 0, .slice none 0 0, .slice none 0 0, .slice none 0 0, .string ⟨#[]⟩, .string ⟨#[]⟩] 49)).setCells wr.heap.size 0 [.string q.1, v1, v2, v3, v4, v5, v6, v7, v8, v9, v10, v11, v12, v13, .string (pNode q), v15] := ⟨_, rfl⟩
     have HTH : Hid ((wr.alloc (.cells #[.string ⟨#[]⟩, .int .i64 0, .slice none 0 0, .int .i64 0, .int .i64 0, .int .i64 0, .slice none 0 0, .slice none 0 0, .slice none 0 0, .slice none 0 0, .slice none 0 0, .slice none 0 0, .slice none 0 0, .slice none 0 0, .string ⟨#[]⟩, .string ⟨#[]⟩] 49)).there wr.heap.size 0 16) := (BoxL.new wr 49 [.string ⟨#[]⟩, .int .i64 0, .slice none 0 0, .int .i64 0, .int .i64 0, .int .i64 0, .slice none 0 0, .slice none 0 0, .slice none 0 0, .slice none 0 0, .slice none 0 0, .slice none 0 0, .slice none 0 0, .slice none 0 0, .string ⟨#[]⟩, .string ⟨#[]⟩]).there
     have HBX : Hid (BoxL wb wr.heap.size [.string q.1, v1, v2, v3, v4, v5, v6, v7, v8, v9, v10, v11, v12, v13, .string (pNode q), v15]) := by rw [hwb]; exact zAz wr 49 [.string ⟨#[]⟩, .int .i64 0, .slice none 0 0, .int .i64 0, .int .i64 0, .int .i64 0, .slice none 0 0, .slice none 0 0, .slice none 0 0, .slice none 0 0, .slice none 0 0, .slice none 0 0, .slice none 0 0, .slice none 0 0, .string ⟨#[]⟩, .string ⟨#[]⟩] [.string q.1, v1, v2, v3, v4, v5, v6, v7, v8, v9, v10, v11, v12, v13, .string (pNode q), v15] rfl
     have HBB : Hid (Below wr.heap.size wr wb) := by rw [hwb]; exact zA0 ((Below.refl _ _).alloc (Nat.le_refl _) _) (Nat.le_refl _)
     have HWB : Hid (wb = (wr.alloc (.cells #[.string ⟨#[]⟩, .int .i64 0, .slice none 0 0, .int .i64 0, .int .i64 0, .int .i64 0, .slice none 0 0, .slice none 0 0, .slice none 0 0, .slice none 0 0, .slice none 0 0, .slice none 0 0, .slice none 0 0, .slice none 0 0, .string ⟨#[]⟩, .string ⟨#[]⟩] 49)).setCells wr.heap.size 0 (([.string q.1, v1, v2, v3, v4, v5, v6, v7, v8, v9, v10, v11, v12, v13, .string (pNode q), v15] : List Value).toArray).toList) := hwb
     clear hwb
     have HRG : Hid (wb.rangeAt wr.heap.size 0 [.string q.1, v1, v2, v3, v4, v5, v6, v7, v8, v9, v10, v11, v12, v13, .string (pNode q), v15]) := HBX.out.range
     have hC := zBc [.string q.1, v1, v2, v3, v4, v5, v6, v7, v8, v9, v10, v11, v12, v13, .string (pNode q), v15] _ q wb (RPod.firm.kept HA.out (Kept.below HBB.out))
     have hlb := HBX.out.1
     go_wp2_with (first | (refine wpList_load_mid rfl 49 _ rfl B (off + j * 16) rfl [.string q.1, v1, v2, v3, v4, v5, v6, v7, v8, v9, v10, v11, v12, v13, .string (pNode q), v15] _ HV.out Tryz.underlying49 rfl hi ?_) | (refine wpList_store_mid rfl 49 _ _ rfl wr.heap.size 0 (([.string q.1, v1, v2, v3, v4, v5, v6, v7, v8, v9, v10, v11, v12, v13, .string (pNode q), v15] : List Value).toArray) rfl rfl HTH.out hi H1.out ?_; refine zAH HWB.out ?_) | (refine wpList_load_mid rfl 49 _ rfl wr.heap.size 0 rfl [.string q.1, v1, v2, v3, v4, v5, v6, v7, v8, v9, v10, v11, v12, v13, .string (pNode q), v15] _ HRG.out Tryz.underlying49 rfl hi ?_) | fail)
     refine hC.mono ?_
     rintro e z1 ⟨rfl, d1⟩
     clear hC HV HTH HWB HRG
     have b1 : Below wr.heap.size wr z1 := on2 HBB.out d1
     have qb1 := HBX.out.on d1
     have c14 := (qb1.2 14 _ rfl).1
     have hl1' := qb1.1
     have HR1 : Hid (z1.rangeAt wr.heap.size 0 [.string q.1, v1, v2, v3, v4, v5, v6, v7, v8, v9, v10, v11, v12, v13, .string (pNode q), v15]) := qb1.range
     cases hq : sEq (pNode q) ⟨#[]⟩ with
     | true =>
      rw [hq, if_pos rfl, List.append_nil] at HT
      have HN : Hid (Row RPlaced 17 (fun b => D b /\ b < w.heap.size) W5 z1 68 u6 (placedT x.2.1 x.1 (j + 1))) := by rw [Hid, HT.out]; exact hrow.out.on RPlaced.firm b1
      clear HT hrow HCl HA HBX HBB qb1 c14 HR1 d1 b1
      go_wp2_with fail
      go_roundw
      case rel => exact ⟨j + 1, by omega, by go_num, HN⟩
      case measure => simp [intOf]; omega
     | false =>
      rw [hq, if_neg (by decide)] at HT
      obtain ⟨z2, hz2⟩ : ∃ z, z = (z1.alloc (.cells #[.string ⟨#[]⟩, .int .i64 0, .slice none 0 0, .int .i64 0, .int .i64 0, .int .i64 0, .slice none 0 0, .slice none 0 0, .slice none 0 0, .slice none 0 0, .slice none 0 0, .slice none 0 0, .slice none 0 0, .slice none 0 0, .string ⟨#[]⟩, .string ⟨#[]⟩, .slice none 0 0] 68)).setCells z1.heap.size 0 [.string q.1, v1, v2, v3, v4, v5, v6, v7, v8, v9, v10, v11, v12, v13, .string (pNode q), v15, .slice none 0 0] := ⟨_, rfl⟩
      have HTH2 : Hid ((z1.alloc (.cells #[.string ⟨#[]⟩, .int .i64 0, .slice none 0 0, .int .i64 0, .int .i64 0, .int .i64 0, .slice none 0 0, .slice none 0 0, .slice none 0 0, .slice none 0 0, .slice none 0 0, .slice none 0 0, .slice none 0 0, .slice none 0 0, .string ⟨#[]⟩, .string ⟨#[]⟩, .slice none 0 0] 68)).there z1.heap.size 0 17) := (BoxL.new z1 68 [.string ⟨#[]⟩, .int .i64 0, .slice none 0 0, .int .i64 0, .int .i64 0, .int .i64 0, .slice none 0 0, .slice none 0 0, .slice none 0 0, .slice none 0 0, .slice none 0 0, .slice none 0 0, .slice none 0 0, .slice none 0 0, .string ⟨#[]⟩, .string ⟨#[]⟩, .slice none 0 0]).there
      have qx2 : BoxL z2 z1.heap.size [.string q.1, v1, v2, v3, v4, v5, v6, v7, v8, v9, v10, v11, v12, v13, .string (pNode q), v15, .slice none 0 0] := by rw [hz2]; exact zAz z1 68 [.string ⟨#[]⟩, .int .i64 0, .slice none 0 0, .int .i64 0, .int .i64 0, .int .i64 0, .slice none 0 0, .slice none 0 0, .slice none 0 0, .slice none 0 0, .slice none 0 0, .slice none 0 0, .slice none 0 0, .slice none 0 0, .string ⟨#[]⟩, .string ⟨#[]⟩, .slice none 0 0] [.string q.1, v1, v2, v3, v4, v5, v6, v7, v8, v9, v10, v11, v12, v13, .string (pNode q), v15, .slice none 0 0] rfl
      have d2 : Below z1.heap.size z1 z2 := by rw [hz2]; exact zA0 ((Below.refl _ _).alloc (Nat.le_refl _) _) (Nat.le_refl _)
      have HZ2 : Hid (z2 = (z1.alloc (.cells #[.string ⟨#[]⟩, .int .i64 0, .slice none 0 0, .int .i64 0, .int .i64 0, .int .i64 0, .slice none 0 0, .slice none 0 0, .slice none 0 0, .slice none 0 0, .slice none 0 0, .slice none 0 0, .slice none 0 0, .slice none 0 0, .string ⟨#[]⟩, .string ⟨#[]⟩, .slice none 0 0] 68)).setCells z1.heap.size 0 (([.string q.1, v1, v2, v3, v4, v5, v6, v7, v8, v9, v10, v11, v12, v13, .string (pNode q), v15, .slice none 0 0] : List Value).toArray).toList) := hz2
      have hi17 : (Tryz.prog.info? 68).map (·.size) = some ([.string q.1, v1, v2, v3, v4, v5, v6, v7, v8, v9, v10, v11, v12, v13, .string (pNode q), v15, .slice none 0 0] : List Value).length := zGs
      have H17 : Hid ((([.string q.1, v1, v2, v3, v4, v5, v6, v7, v8, v9, v10, v11, v12, v13, .string (pNode q), v15, .slice none 0 0] : List Value).toArray).all (·.oneCell') = true) := all_oneCell_toArray (fun v hv => by
       have h8 : ∀ u ∈ [.string q.1, v1, v2, v3, v4, v5, v6, v7, v8, v9, v10, v11, v12, v13, .string (pNode q), v15], u.oneCell' = true := RPod.firm.one HA.out
       have h9 : v ∈ [.string q.1, v1, v2, v3, v4, v5, v6, v7, v8, v9, v10, v11, v12, v13, .string (pNode q), v15] ++ [.slice none 0 0] := hv
       rcases List.mem_append.1 h9 with h9 | h9
       ·exact h8 v h9
       ·rw [List.mem_singleton] at h9; subst h9; rfl)
      have b2 : Below wr.heap.size wr z2 := on2 b1 d2
      have c14' := ((qb1.on d2).2 14 _ rfl).1
      obtain ⟨_, sN2, qS2, nm2, _⟩ := HF.out z2 (on2 hbr b2)
      have hlk := nm2.look 165 Tryz.underlying165 hsn
      have HA2 : Hid (∀ u, Kept (fun b => D b /\ b < w.heap.size) wr u -> RPod (fun b => D b /\ b < w.heap.size) u [.string q.1, v1, v2, v3, v4, v5, v6, v7, v8, v9, v10, v11, v12, v13, .string (pNode q), v15] q) := fun u hu => RPod.firm.kept HA.out hu
      have hlz2 := qx2.1
      have hlw2 : wr.heap.size < z2.heap.size := Nat.lt_of_lt_of_le hl1' d2.size
      have HLb : Hid ((G.length + 1) * 320 <= 140737488355328) := by have h1 := HB9.out; have h2 := HCl.out; rw [Hid]; omega
      have hwz : w.heap.size <= z2.heap.size := by have := b2.size; have := hbr.size; omega
      clear hz2 hq c14 HCl
      cases hfi : fI (x.2.1.map Prod.fst) (pNode q) with
      | none =>
       rw [hfi] at hlk
       simp only [Option.isSome_none, Option.getD_none] at hlk
       have hNL : nodeLabs x.2.1 (pNode q) = [] := by unfold nodeLabs; rw [hfi]
       rw [hNL] at HT
       have HRx : Hid (z2.rangeAt z1.heap.size 0 [.string q.1, v1, v2, v3, v4, v5, v6, v7, v8, v9, v10, v11, v12, v13, .string (pNode q), v15, .slice none 0 0]) := qx2.range
       obtain ⟨z4, hz4⟩ : ∃ z, z = z2.alloc (.cells #[.string q.1, v1, v2, v3, v4, v5, v6, v7, v8, v9, v10, v11, v12, v13, .string (pNode q), v15, .slice none 0 0] 68) := ⟨_, rfl⟩
       have d4 : Below z2.heap.size z2 z4 := by rw [hz4]; exact (Below.refl _ _).alloc (Nat.le_refl _) _
       have q4 : BoxL z4 z2.heap.size [.string q.1, v1, v2, v3, v4, v5, v6, v7, v8, v9, v10, v11, v12, v13, .string (pNode q), v15, .slice none 0 0] := by rw [hz4]; exact BoxL.new z2 68 _
       have b4 : Below wr.heap.size wr z4 := on2 b2 d4
       have hrow4 : Row RPlaced 17 (fun b => D b /\ b < w.heap.size) W5 z4 68 u6 G := hrow.out.on RPlaced.firm b4
       have hpl : RPlaced (fun b => (fun b => D b /\ b < w.heap.size) b /\ u6.ownBlock ≠ some b) z4 [.string q.1, v1, v2, v3, v4, v5, v6, v7, v8, v9, v10, v11, v12, v13, .string (pNode q), v15, .slice none 0 0] (q, []) := RPlaced.firm.weak (⟨[.string q.1, v1, v2, v3, v4, v5, v6, v7, v8, v9, v10, v11, v12, v13, .string (pNode q), v15], [.slice none 0 0], rfl, HA2.out z4 (Kept.below b4), ⟨none, 0, 0, rfl, SlAt.nil _ _ _ _ (fun _ => rfl)⟩⟩ : RPlaced (fun b => D b /\ b < w.heap.size) z4 [.string q.1, v1, v2, v3, v4, v5, v6, v7, v8, v9, v10, v11, v12, v13, .string (pNode q), v15, .slice none 0 0] (q, [])) (fun b _ hb => ⟨hb, fun e => by have h1 := (hrow4.lt e).1; have h2 : b < w.heap.size := hb.2; omega⟩)
       have HSr : Hid (Src RPlaced 17 (fun b => (fun b => D b /\ b < w.heap.size) b /\ u6.ownBlock ≠ some b) z4 (some ⟨z2.heap.size, 0, none⟩) 1 [(q, [])]) := zCU RPlaced.firm q4 hpl
       have HRw : Hid (Row RPlaced 17 (fun b => D b /\ b < w.heap.size) W5 z4 68 u6 G) := hrow4
       have HZ4 : Hid (z4 = z2.alloc (.cells #[.string q.1, v1, v2, v3, v4, v5, v6, v7, v8, v9, v10, v11, v12, v13, .string (pNode q), v15, .slice none 0 0] 68)) := hz4
       clear hz4 d4 q4 b4 hrow4 hpl hrow qx2 sN2 qS2 nm2 b1 b2 d1 d2 HA HA2 HBX HBB qb1 hNL
       go_wp2_with (first | (refine wpList_load_mid rfl 49 _ rfl wr.heap.size 0 rfl [.string q.1, v1, v2, v3, v4, v5, v6, v7, v8, v9, v10, v11, v12, v13, .string (pNode q), v15] _ HR1.out Tryz.underlying49 rfl hi ?_) | (refine wpList_store_mid rfl 68 _ _ rfl z1.heap.size 0 (([.string q.1, v1, v2, v3, v4, v5, v6, v7, v8, v9, v10, v11, v12, v13, .string (pNode q), v15, .slice none 0 0] : List Value).toArray) rfl rfl HTH2.out hi17 H17.out ?_; refine zAH HZ2.out ?_) | (refine wpList_load_mid rfl 68 _ rfl z1.heap.size 0 rfl [.string q.1, v1, v2, v3, v4, v5, v6, v7, v8, v9, v10, v11, v12, v13, .string (pNode q), v15, .slice none 0 0] _ HRx.out Tryz.underlying68 rfl hi17 ?_) | (at_builtin; refine zAH HZ4.out ?_; go_must (refine zAL RPlaced.firm (A := (fun b => D b /\ b < w.heap.size)) (w0 := W5) rfl _ _ 188 68 rfl _ 320 zGg Tryz.underlying188 rfl (by decide) (by decide) u6 G rfl HRw.out (some ⟨_, 0, none⟩) 1 1 [(q, [])] rfl HSr.out HLb.out ?_); intro v7 y7 hr7 hg7 hw7))
       have HN : Hid (Row RPlaced 17 (fun b => D b /\ b < w.heap.size) W5 y7 68 v7 (placedT x.2.1 x.1 (j + 1))) := by rw [Hid, HT.out]; exact hr7
       clear hr7 hg7 hw7 HT HSr HRw HLb HZ4 HZ2 HRx
       go_roundw
       case rel => exact ⟨j + 1, by omega, by go_num, HN⟩
       case measure => simp [intOf]; omega
      | some kk =>
       rw [hfi] at hlk
       simp only [Option.isSome_some, Option.getD_some] at hlk
       have hkk : kk < n1 := by have := (zAD hfi).1; rw [List.length_map, hl1.out] at this; exact this
       have hkz : (kk : Int) < (n1 : Int) := by omega
       have hNL : nodeLabs x.2.1 (pNode q) = (x.2.1.getD kk default).2.1 := by unfold nodeLabs; rw [hfi]
       obtain ⟨B1, o1, hBe1, hBl1, hBs1, ns, hrn, hvn⟩ := sN2.get hkk
       obtain ⟨⟨la, ln, lc⟩, ⟨_, _, _⟩, rfl, _, sla, _⟩ := hrn.out
       simp only at hvn sla
       have y1 := (qS2.2 1 _ rfl).1
       rw [hBe1] at y1
       have yL := hvn 1 _ rfl
       have hlS2 := qS2.1
       rw [hNL] at HT
       generalize (x.2.1.getD kk default).2.1 = LL at HT sla
       clear hrn hvn hNL
       obtain ⟨z3, hz3⟩ : ∃ z, z = z2.setCell ⟨z1.heap.size, 16, none⟩ (.slice la ln lc) := ⟨_, rfl⟩
       have qx3 : BoxL z3 z1.heap.size [.string q.1, v1, v2, v3, v4, v5, v6, v7, v8, v9, v10, v11, v12, v13, .string (pNode q), v15, .slice la ln lc] := by rw [hz3]; exact qx2.set 16 (.slice la ln lc) (by simp)
       have hzw : wr.heap.size <= z1.heap.size := b1.size
       have b3 : Below wr.heap.size wr z3 := by rw [hz3]; exact b2.setCell (p := ⟨z1.heap.size, 16, none⟩) hzw _
       have hk3 : Kept (fun b => D b /\ b < w.heap.size) z2 z3 := by rw [hz3]; exact Kept.set (p := ⟨z1.heap.size, 16, none⟩) (fun h => by have h8 : z1.heap.size < w.heap.size := h.2; have := hbr.size; omega) _
       have HRx : Hid (z3.rangeAt z1.heap.size 0 [.string q.1, v1, v2, v3, v4, v5, v6, v7, v8, v9, v10, v11, v12, v13, .string (pNode q), v15, .slice la ln lc]) := qx3.range
       have x16 := qx2.2 16 _ rfl
       have hi17' : (Tryz.prog.info? 68).map (·.size) = some ([.string q.1, v1, v2, v3, v4, v5, v6, v7, v8, v9, v10, v11, v12, v13, .string (pNode q), v15, .slice la ln lc] : List Value).length := zGs
       obtain ⟨z4, hz4⟩ : ∃ z, z = z3.alloc (.cells #[.string q.1, v1, v2, v3, v4, v5, v6, v7, v8, v9, v10, v11, v12, v13, .string (pNode q), v15, .slice la ln lc] 68) := ⟨_, rfl⟩
       have d4 : Below z3.heap.size z3 z4 := by rw [hz4]; exact (Below.refl _ _).alloc (Nat.le_refl _) _
       have q4 : BoxL z4 z3.heap.size [.string q.1, v1, v2, v3, v4, v5, v6, v7, v8, v9, v10, v11, v12, v13, .string (pNode q), v15, .slice la ln lc] := by rw [hz4]; exact BoxL.new z3 68 _
       have b4 : Below wr.heap.size wr z4 := on2 b3 d4
       have hrow4 : Row RPlaced 17 (fun b => D b /\ b < w.heap.size) W5 z4 68 u6 G := hrow.out.on RPlaced.firm b4
       have hpl : RPlaced (fun b => (fun b => D b /\ b < w.heap.size) b /\ u6.ownBlock ≠ some b) z4 [.string q.1, v1, v2, v3, v4, v5, v6, v7, v8, v9, v10, v11, v12, v13, .string (pNode q), v15, .slice la ln lc] (q, LL) := RPlaced.firm.weak (⟨[.string q.1, v1, v2, v3, v4, v5, v6, v7, v8, v9, v10, v11, v12, v13, .string (pNode q), v15], [.slice la ln lc], rfl, HA2.out z4 (Kept.below b4), ⟨la, ln, lc, rfl, (sla.kept RLabel.firm hk3).on RLabel.firm d4⟩⟩ : RPlaced (fun b => D b /\ b < w.heap.size) z4 [.string q.1, v1, v2, v3, v4, v5, v6, v7, v8, v9, v10, v11, v12, v13, .string (pNode q), v15, .slice la ln lc] (q, LL)) (fun b _ hb => ⟨hb, fun e => by have h1 := (hrow4.lt e).1; have h2 : b < w.heap.size := hb.2; omega⟩)
       have HSr : Hid (Src RPlaced 17 (fun b => (fun b => D b /\ b < w.heap.size) b /\ u6.ownBlock ≠ some b) z4 (some ⟨z3.heap.size, 0, none⟩) 1 [(q, LL)]) := zCU RPlaced.firm q4 hpl
       have HRw : Hid (Row RPlaced 17 (fun b => D b /\ b < w.heap.size) W5 z4 68 u6 G) := hrow4
       have HZ4 : Hid (z4 = z3.alloc (.cells #[.string q.1, v1, v2, v3, v4, v5, v6, v7, v8, v9, v10, v11, v12, v13, .string (pNode q), v15, .slice la ln lc] 68)) := hz4
       have HZ3 : Hid (z3 = z2.setCell ⟨z1.heap.size, 16, none⟩ (.slice la ln lc)) := hz3
       have hlz3 : z1.heap.size < z3.heap.size := qx3.1
       clear hz4 d4 q4 b4 hrow4 hpl hrow qx2 qx3 sN2 qS2 nm2 b1 b2 b3 d1 d2 HA HA2 HBX HBB qb1 hz3 hk3 sla hBe1 hfi
       go_upto_region 16 with (first | (refine wpList_load_mid rfl 49 _ rfl wr.heap.size 0 rfl [.string q.1, v1, v2, v3, v4, v5, v6, v7, v8, v9, v10, v11, v12, v13, .string (pNode q), v15] _ HR1.out Tryz.underlying49 rfl hi ?_) | (refine wpList_store_mid rfl 68 _ _ rfl z1.heap.size 0 (([.string q.1, v1, v2, v3, v4, v5, v6, v7, v8, v9, v10, v11, v12, v13, .string (pNode q), v15, .slice none 0 0] : List Value).toArray) rfl rfl HTH2.out hi17 H17.out ?_; refine zAH HZ2.out ?_) | fail)
       rw [<- HZ3.out]
       clear HZ3 x16 y1 yL hlk HZ2
       go_wp2_with (first | (refine wpList_load_mid rfl 68 _ rfl z1.heap.size 0 rfl [.string q.1, v1, v2, v3, v4, v5, v6, v7, v8, v9, v10, v11, v12, v13, .string (pNode q), v15, .slice la ln lc] _ HRx.out Tryz.underlying68 rfl hi17' ?_) | (at_builtin; refine zAH HZ4.out ?_; go_must (refine zAL RPlaced.firm (A := (fun b => D b /\ b < w.heap.size)) (w0 := W5) rfl _ _ 188 68 rfl _ 320 zGg Tryz.underlying188 rfl (by decide) (by decide) u6 G rfl HRw.out (some ⟨_, 0, none⟩) 1 1 [(q, LL)] rfl HSr.out HLb.out ?_); intro v7 y7 hr7 hg7 hw7))
       have HN : Hid (Row RPlaced 17 (fun b => D b /\ b < w.heap.size) W5 y7 68 v7 (placedT x.2.1 x.1 (j + 1))) := by rw [Hid, HT.out]; exact hr7
       clear hr7 hg7 hw7 HT HSr HRw HLb HZ4 HRx
       go_roundw
       case rel => exact ⟨j + 1, by omega, by go_num, HN⟩
       case measure => simp [intOf]; omega
    ·obtain rfl : n0 = j := by omega
     have HE : Hid (Row RPlaced 17 (fun b => D b /\ b < w.heap.size) w wr 68 u6 (placedP x)) := by rw [Hid, HPT.out]; exact hrow.out.from RPlaced.firm (HF.out W5 (Below.refl _ _)).2.2.2.2 (fun _ h => h)
     clear hrow hbr HPT
     go_wp2_with fail
     go_ret
     exact ⟨_, rfl, HE.out⟩
end Go.Proofs.YtnffafjamiffnaaGreat
