/- The document's Check of an object, and its like. No condition beyond what each says. -/
import Derived.Test.YtfbnnfpnjjjfcaaGreatS27
import Derived.Test.YtfbnnfpnjjjfcaaGreatS30
namespace Go.Proofs.YtfbnnfpnjjjfcaaGreat
set_option maxHeartbeats 16000000
set_option maxRecDepth 100000
open Tryz Go.RowKit
set_option linter.unusedSimpArgs false
theorem there_sub {w : World} {b o k n : Nat} (h : w.there b 0 n) (ho : o + k ≤ n) : w.there b o k := fun j hj => by
 have := h (o + j) (by omega)
 simpa using this
theorem range_put {w : World} {b o : Nat} {l1 l2 l3 c : List Value} (h : w.rangeAt b 0 (l1 ++ (l2 ++ l3))) (ho : l1.length = o) (hc : c.length = l2.length) (ht : w.there b o c.length) : (w.setCells b o c).rangeAt b 0 (l1 ++ (c ++ l3)) := by
 have hs := World.rangeAt_setCells_same w b o c ht
 have ha : (w.setCells b o c).rangeAt b 0 l1 := World.rangeAt_setCells_apart (fun j v hj => h j v (by rw [List.getElem?_append_left (List.getElem?_eq_some_iff.1 hj).1]; exact hj)) b o c (.inr (.inl (by omega)))
 have hb : (w.setCells b o c).rangeAt b (o + c.length) l3 := by
  refine World.rangeAt_setCells_apart (fun j v hj => ?_) b o c (.inr (.inr (by omega)))
  have := h (o + c.length + j) v (by rw [List.getElem?_append_right (by omega), List.getElem?_append_right (by omega)]; rw [show o + c.length + j - l1.length - l2.length = j from by omega]; exact hj)
  simpa using this
 intro j v hj
 by_cases h1 : j < l1.length
 ·
  exact ha j v (by rw [List.getElem?_append_left h1] at hj; exact hj)
 ·
  rw [List.getElem?_append_right (by omega)] at hj
  by_cases h2 : j - l1.length < c.length
  ·
   rw [List.getElem?_append_left h2] at hj
   have := hs _ v hj
   rwa [show o + (j - l1.length) = 0 + j from by omega] at this
  ·
   rw [List.getElem?_append_right (by omega)] at hj
   have := hb _ v hj
   rwa [show o + c.length + (j - l1.length - c.length) = 0 + j from by omega] at this
theorem zC_one (k : Int) : ((zC k).toArray.all (·.oneCell')) = true := all_oneCell_toArray (by simp [zC, Value.oneCell'])
theorem Held.wroteAt {w u : World} {L : List (Nat × List Value)} {M : List (Nat × Nat)} {b n o : Nat} {c : List Value} (h : Held w L M u) (i : Nat) (hi : M[i]? = some (b, n)) (hL : ∀ x ∈ L, x.1 ≠ b) : Held w L M (u.setCells b o c) := by
 obtain ⟨h1, h2, h4⟩ := h.2.2 (b, n) (List.mem_of_getElem? hi)
 refine ⟨below_setCells h.1 h1, fun x hx => ?_, fun y hy => ?_⟩
 ·
  obtain ⟨g1, g2, g3, g4⟩ := h.2.1 x hx
  exact ⟨g1, by rw [size_setCells]; exact g2, World.rangeAt_setCells_apart g3 b o c (.inl (hL x hx)), World.there_setCells g4 b o c⟩
 ·
  obtain ⟨g1, g2, g3⟩ := h.2.2 y hy
  exact ⟨g1, by rw [size_setCells]; exact g2, World.there_setCells g3 b o c⟩
theorem rCheck_Pod (cs : List Value) (A : Where) (x : ObjectD) (w : World) (h : RObject A w cs x) (hk : x.1 = 1) : Calls prog 10 #[.agg cs.toArray] w fun e w' => e = .returned (.int .i64 (checkO x)) ∧ Below w.heap.size w w' := by
 have hi : (prog.info? 46).map (·.size) = some cs.length := by rw [RObject.firm.len h]; exact infoObj
 obtain ⟨p, n, v, m, l, b, hcs, hp, hn, hv, hm, hl, hb⟩ := objParts h
 rw [hk] at hcs
 have HLN := obj_len hp hn hv hm hl hb
 obtain ⟨r, hr⟩ : ∃ r, rightPod x.2.1 = r := ⟨_, rfl⟩
 obtain ⟨q, hq⟩ : ∃ q, othersB x = q := ⟨_, rfl⟩
 have HF : Hid (checkO x = if r && q then 0 else 40) := by rw [Hid, checkO, if_pos (by rw [hk]; decide), ← hq, ← hr]; simp [rightO, hk]
 have HA : Hid (∀ u, Below w.heap.size w u → Calls prog 35 #[.agg p.toArray] u fun e w' => e = .returned (.bool r) ∧ Below u.heap.size u w') := fun u hu => by rw [← hr]; exact rPod_right p A x.2.1 u (RPod.firm.kept hp (Kept.below hu))
 obtain ⟨bs, hbs⟩ : ∃ c, c = [Value.int .i64 1] ++ (p ++ (zNode ++ (zVolume ++ (zClaim ++ (zClass ++ (zBudget)))))) := ⟨_, rfl⟩
 have HB : Hid (∀ u, Below w.heap.size w u → Calls prog 13 #[.agg cs.toArray, .agg bs.toArray] u fun e w' => e = .returned (.bool q) ∧ Below u.heap.size u w') := fun u hu => by rw [← hq, hcs, hbs]; exact samePod A x p n v m l b u (RPod.firm.kept hp (Kept.below hu)) (RNode.firm.kept hn (Kept.below hu)) (RVolume.firm.kept hv (Kept.below hu)) (RClaim.firm.kept hm (Kept.below hu)) (RClass.firm.kept hl (Kept.below hu)) (RBudget.firm.kept hb (Kept.below hu)) hk
 have hib : (prog.info? 46).map (·.size) = some bs.length := by rw [hbs]; exact info_of infoObj (ObjL.all ⟨HLN.p, rfl, rfl, rfl, rfl, rfl⟩)
 have hic := info_of iszPod HLN.p
 have hica : (prog.info? 33).map (·.size) = some p.toArray.size := by simpa using hic
 have hoc : p.toArray.all (·.oneCell') = true := all_oneCell_toArray (RPod.firm.one hp)
 have hiz : (prog.info? 46).map (·.size) = some (zC 1).toArray.size := infoObj
 obtain ⟨U1, hU1⟩ : ∃ U, U = (w.alloc (.cells cs.toArray 46)).alloc (.cells (zC 0).toArray 46) := ⟨_, rfl⟩
 have H1 : Held w [(w.heap.size, cs)] [(w.heap.size + 1, 40)] U1 := by rw [hU1]; exact ((Held.start w).push rfl cs _).room (by simp) (zC 0).toArray _
 obtain ⟨U2, hU2⟩ : ∃ U, U = U1.setCells (w.heap.size + 1) 0 (zC 1) := ⟨_, rfl⟩
 have H2 : Held w [(w.heap.size, cs)] [(w.heap.size + 1, 40)] U2 := by rw [hU2]; exact H1.wroteAt 0 rfl (by simp)
 have R2 : U2.rangeAt (w.heap.size + 1) 0 (zC 1) := by rw [hU2]; exact World.rangeAt_setCells_same _ _ _ _ (there_sub (H1.there 0 rfl) (Nat.le_refl _))
 obtain ⟨U3, hU3⟩ : ∃ U, U = U2.setCells (w.heap.size + 1) 1 p := ⟨_, rfl⟩
 have H3 : Held w [(w.heap.size, cs)] [(w.heap.size + 1, 40)] U3 := by rw [hU3]; exact H2.wroteAt 0 rfl (by simp)
 have HT2 : Hid (U2.there (w.heap.size + 1) 1 p.toArray.size) := there_sub (H2.there 0 rfl) (by simp [HLN.p])
 have R3 : Hid (U3.rangeAt (w.heap.size + 1) 0 bs) := by
  have := range_put (l1 := [Value.int .i64 1]) (l2 := zPod) (l3 := zNode ++ (zVolume ++ (zClaim ++ (zClass ++ (zBudget))))) (c := p) (w := U2) (b := w.heap.size + 1) (o := 1) R2 rfl (by rw [HLN.p]; rfl) (by simpa using HT2.out)
  rw [Hid, hU3, hbs]
  simpa only [List.append_assoc, List.append_nil] using this
 have HT1 : Hid (U1.there (w.heap.size + 1) 0 (zC 1).toArray.size) := there_sub (H1.there 0 rfl) (Nat.le_refl _)
 have HRO : Hid (∀ u, Held w [(w.heap.size, cs)] [(w.heap.size + 1, 40)] u → ObjR u w.heap.size 1 p n v m l b) := fun u hu => objR (hcs ▸ hu.get 0 rfl) HLN
 have hz : ((w.alloc (.cells cs.toArray 46)).cell? ⟨w.heap.size, 0, none⟩ = some (.int .i64 1)) := (objR (k := 1) (hcs ▸ ((Held.start w).push rfl cs 46).get 0 rfl) HLN).k
 have HU2 : Hid (U2 = _) := hU2.trans (by rw [hU1])
 have HU3 : Hid (U3 = U2.setCells (w.heap.size + 1) 1 p) := hU3
 have HH2 := Hid.mk_ H2
 have HH3 := Hid.mk_ H3
 rw [hU1] at HT1
 clear h hk hr hq hp hn hv hm hl hb hU1 hU2 hU3 H1 H2 H3 R2 HLN hcs hbs
 have G0 := Hid.mk_ (HRO.out _ HH2.out).p
 have z1 := (HRO.out _ HH2.out).k
 have G1 := Hid.mk_ (HRO.out _ HH3.out).p
 have kl := HH2.out.lt 0 rfl
 have kl3 := HH3.out.lt 0 rfl
 go_enter func10, ntmps10
 go_wp2_with (first | (refine wpList_store_mid rfl 46 _ _ rfl (w.heap.size + 1) 0 (zC 1).toArray rfl rfl HT1.out hiz (zC_one 1) ?_; refine wpl_at HU2.out ?_) | (refine wpList_store_mid rfl 33 _ _ rfl (w.heap.size + 1) 1 p.toArray rfl rfl HT2.out hica hoc ?_; refine wpl_at HU3.out ?_) | (refine BigFrame.wpList_want rfl (fun _ hKK => wp_load_mid 33 _ rfl (w.heap.size) 1 rfl p _ G0.out underlying33 rfl hic (hKK _ _ ?_))) | (refine BigFrame.wpList_want rfl (fun _ hKK => wp_load_mid 33 _ rfl (w.heap.size) 1 rfl p _ G1.out underlying33 rfl hic (hKK _ _ ?_))) | fail)
 clear hz z1 kl kl3 G0 G1 HT1 HT2 HU2 HU3 HH2
 refine (HA.out _ HH3.out.below).mono ?_
 rintro e u4 ⟨rfl, hb4⟩
 have HH4 : Hid (Held w [(w.heap.size, cs)] [(w.heap.size + 1, 40)] u4) := HH3.out.on hb4
 have R4 : Hid (u4.rangeAt (w.heap.size + 1) 0 bs) := range_on R3.out hb4 (HH3.out.ltM 0 rfl)
 have R5 : Hid (u4.rangeAt w.heap.size 0 cs) := HH4.out.get 0 rfl
 clear hb4 HH3 R3 HA
 cases r
 ·
  clear HB
  go_wp2_with fail
  go_ret
  exact ⟨reti (by rw [HF.out] <;> simp), HH4.out.below⟩
 go_wp2_with (first | (refine BigFrame.wpList_want rfl (fun _ hKK => wp_load_mid 46 _ rfl (w.heap.size) 0 rfl cs _ R5.out underlying46 rfl hi (hKK _ _ ?_))) | (refine BigFrame.wpList_want rfl (fun _ hKK => wp_load_mid 46 _ rfl (w.heap.size + 1) 0 rfl bs _ R4.out underlying46 rfl hib (hKK _ _ ?_))) | fail)
 refine (HB.out _ HH4.out.below).mono ?_
 rintro e u5 ⟨rfl, hb5⟩
 have hbe := Hid.mk_ (on2 HH4.out.below hb5)
 clear HB hb5 R4 R5 HH4
 cases q
 ·
  go_wp2_with fail
  go_ret
  exact ⟨reti (by rw [HF.out] <;> simp), hbe.out⟩
 go_wp2_with fail
 go_ret
 exact ⟨reti (by rw [HF.out] <;> simp), hbe.out⟩
theorem rCheck_Node (cs : List Value) (A : Where) (x : ObjectD) (w : World) (h : RObject A w cs x) (hk : x.1 = 2) : Calls prog 10 #[.agg cs.toArray] w fun e w' => e = .returned (.int .i64 (checkO x)) ∧ Below w.heap.size w w' := by
 have hi : (prog.info? 46).map (·.size) = some cs.length := by rw [RObject.firm.len h]; exact infoObj
 obtain ⟨p, n, v, m, l, b, hcs, hp, hn, hv, hm, hl, hb⟩ := objParts h
 rw [hk] at hcs
 have HLN := obj_len hp hn hv hm hl hb
 obtain ⟨r, hr⟩ : ∃ r, rightNode x.2.2.1 = r := ⟨_, rfl⟩
 obtain ⟨q, hq⟩ : ∃ q, othersB x = q := ⟨_, rfl⟩
 have HF : Hid (checkO x = if r && q then 0 else 40) := by rw [Hid, checkO, if_pos (by rw [hk]; decide), ← hq, ← hr]; simp [rightO, hk]
 have HA : Hid (∀ u, Below w.heap.size w u → Calls prog 36 #[.agg n.toArray] u fun e w' => e = .returned (.bool r) ∧ Below u.heap.size u w') := fun u hu => by rw [← hr]; exact rNode_right n A x.2.2.1 u (RNode.firm.kept hn (Kept.below hu))
 obtain ⟨bs, hbs⟩ : ∃ c, c = [Value.int .i64 2] ++ (zPod ++ (n ++ (zVolume ++ (zClaim ++ (zClass ++ (zBudget)))))) := ⟨_, rfl⟩
 have HB : Hid (∀ u, Below w.heap.size w u → Calls prog 13 #[.agg cs.toArray, .agg bs.toArray] u fun e w' => e = .returned (.bool q) ∧ Below u.heap.size u w') := fun u hu => by rw [← hq, hcs, hbs]; exact sameNode A x p n v m l b u (RPod.firm.kept hp (Kept.below hu)) (RNode.firm.kept hn (Kept.below hu)) (RVolume.firm.kept hv (Kept.below hu)) (RClaim.firm.kept hm (Kept.below hu)) (RClass.firm.kept hl (Kept.below hu)) (RBudget.firm.kept hb (Kept.below hu)) hk
 have hib : (prog.info? 46).map (·.size) = some bs.length := by rw [hbs]; exact info_of infoObj (ObjL.all ⟨rfl, HLN.n, rfl, rfl, rfl, rfl⟩)
 have hic := info_of iszNode HLN.n
 have hica : (prog.info? 36).map (·.size) = some n.toArray.size := by simpa using hic
 have hoc : n.toArray.all (·.oneCell') = true := all_oneCell_toArray (RNode.firm.one hn)
 have hiz : (prog.info? 46).map (·.size) = some (zC 2).toArray.size := infoObj
 obtain ⟨U1, hU1⟩ : ∃ U, U = (w.alloc (.cells cs.toArray 46)).alloc (.cells (zC 0).toArray 46) := ⟨_, rfl⟩
 have H1 : Held w [(w.heap.size, cs)] [(w.heap.size + 1, 40)] U1 := by rw [hU1]; exact ((Held.start w).push rfl cs _).room (by simp) (zC 0).toArray _
 obtain ⟨U2, hU2⟩ : ∃ U, U = U1.setCells (w.heap.size + 1) 0 (zC 2) := ⟨_, rfl⟩
 have H2 : Held w [(w.heap.size, cs)] [(w.heap.size + 1, 40)] U2 := by rw [hU2]; exact H1.wroteAt 0 rfl (by simp)
 have R2 : U2.rangeAt (w.heap.size + 1) 0 (zC 2) := by rw [hU2]; exact World.rangeAt_setCells_same _ _ _ _ (there_sub (H1.there 0 rfl) (Nat.le_refl _))
 obtain ⟨U3, hU3⟩ : ∃ U, U = U2.setCells (w.heap.size + 1) 17 n := ⟨_, rfl⟩
 have H3 : Held w [(w.heap.size, cs)] [(w.heap.size + 1, 40)] U3 := by rw [hU3]; exact H2.wroteAt 0 rfl (by simp)
 have HT2 : Hid (U2.there (w.heap.size + 1) 17 n.toArray.size) := there_sub (H2.there 0 rfl) (by simp [HLN.n])
 have R3 : Hid (U3.rangeAt (w.heap.size + 1) 0 bs) := by
  have := range_put (l1 := [Value.int .i64 2] ++ zPod) (l2 := zNode) (l3 := zVolume ++ (zClaim ++ (zClass ++ (zBudget)))) (c := n) (w := U2) (b := w.heap.size + 1) (o := 17) R2 rfl (by rw [HLN.n]; rfl) (by simpa using HT2.out)
  rw [Hid, hU3, hbs]
  simpa only [List.append_assoc, List.append_nil] using this
 have HT1 : Hid (U1.there (w.heap.size + 1) 0 (zC 2).toArray.size) := there_sub (H1.there 0 rfl) (Nat.le_refl _)
 have HRO : Hid (∀ u, Held w [(w.heap.size, cs)] [(w.heap.size + 1, 40)] u → ObjR u w.heap.size 2 p n v m l b) := fun u hu => objR (hcs ▸ hu.get 0 rfl) HLN
 have hz : ((w.alloc (.cells cs.toArray 46)).cell? ⟨w.heap.size, 0, none⟩ = some (.int .i64 2)) := (objR (k := 2) (hcs ▸ ((Held.start w).push rfl cs 46).get 0 rfl) HLN).k
 have HU2 : Hid (U2 = _) := hU2.trans (by rw [hU1])
 have HU3 : Hid (U3 = U2.setCells (w.heap.size + 1) 17 n) := hU3
 have HH2 := Hid.mk_ H2
 have HH3 := Hid.mk_ H3
 rw [hU1] at HT1
 clear h hk hr hq hp hn hv hm hl hb hU1 hU2 hU3 H1 H2 H3 R2 HLN hcs hbs
 have G0 := Hid.mk_ (HRO.out _ HH2.out).n
 have z1 := (HRO.out _ HH2.out).k
 have G1 := Hid.mk_ (HRO.out _ HH3.out).n
 have kl := HH2.out.lt 0 rfl
 have kl3 := HH3.out.lt 0 rfl
 go_enter func10, ntmps10
 go_wp2_with (first | (refine wpList_store_mid rfl 46 _ _ rfl (w.heap.size + 1) 0 (zC 2).toArray rfl rfl HT1.out hiz (zC_one 2) ?_; refine wpl_at HU2.out ?_) | (refine wpList_store_mid rfl 36 _ _ rfl (w.heap.size + 1) 17 n.toArray rfl rfl HT2.out hica hoc ?_; refine wpl_at HU3.out ?_) | (refine BigFrame.wpList_want rfl (fun _ hKK => wp_load_mid 36 _ rfl (w.heap.size) 17 rfl n _ G0.out underlying36 rfl hic (hKK _ _ ?_))) | (refine BigFrame.wpList_want rfl (fun _ hKK => wp_load_mid 36 _ rfl (w.heap.size) 17 rfl n _ G1.out underlying36 rfl hic (hKK _ _ ?_))) | fail)
 clear hz z1 kl kl3 G0 G1 HT1 HT2 HU2 HU3 HH2
 refine (HA.out _ HH3.out.below).mono ?_
 rintro e u4 ⟨rfl, hb4⟩
 have HH4 : Hid (Held w [(w.heap.size, cs)] [(w.heap.size + 1, 40)] u4) := HH3.out.on hb4
 have R4 : Hid (u4.rangeAt (w.heap.size + 1) 0 bs) := range_on R3.out hb4 (HH3.out.ltM 0 rfl)
 have R5 : Hid (u4.rangeAt w.heap.size 0 cs) := HH4.out.get 0 rfl
 clear hb4 HH3 R3 HA
 cases r
 ·
  clear HB
  go_wp2_with fail
  go_ret
  exact ⟨reti (by rw [HF.out] <;> simp), HH4.out.below⟩
 go_wp2_with (first | (refine BigFrame.wpList_want rfl (fun _ hKK => wp_load_mid 46 _ rfl (w.heap.size) 0 rfl cs _ R5.out underlying46 rfl hi (hKK _ _ ?_))) | (refine BigFrame.wpList_want rfl (fun _ hKK => wp_load_mid 46 _ rfl (w.heap.size + 1) 0 rfl bs _ R4.out underlying46 rfl hib (hKK _ _ ?_))) | fail)
 refine (HB.out _ HH4.out.below).mono ?_
 rintro e u5 ⟨rfl, hb5⟩
 have hbe := Hid.mk_ (on2 HH4.out.below hb5)
 clear HB hb5 R4 R5 HH4
 cases q
 ·
  go_wp2_with fail
  go_ret
  exact ⟨reti (by rw [HF.out] <;> simp), hbe.out⟩
 go_wp2_with fail
 go_ret
 exact ⟨reti (by rw [HF.out] <;> simp), hbe.out⟩
theorem rCheck_Volume (cs : List Value) (A : Where) (x : ObjectD) (w : World) (h : RObject A w cs x) (hk : x.1 = 3) : Calls prog 10 #[.agg cs.toArray] w fun e w' => e = .returned (.int .i64 (checkO x)) ∧ Below w.heap.size w w' := by
 have hi : (prog.info? 46).map (·.size) = some cs.length := by rw [RObject.firm.len h]; exact infoObj
 obtain ⟨p, n, v, m, l, b, hcs, hp, hn, hv, hm, hl, hb⟩ := objParts h
 rw [hk] at hcs
 have HLN := obj_len hp hn hv hm hl hb
 obtain ⟨r, hr⟩ : ∃ r, rightVolume x.2.2.2.1 = r := ⟨_, rfl⟩
 obtain ⟨q, hq⟩ : ∃ q, othersB x = q := ⟨_, rfl⟩
 have HF : Hid (checkO x = if r && q then 0 else 40) := by rw [Hid, checkO, if_pos (by rw [hk]; decide), ← hq, ← hr]; simp [rightO, hk]
 have HA : Hid (∀ u, Below w.heap.size w u → Calls prog 37 #[.agg v.toArray] u fun e w' => e = .returned (.bool r) ∧ Below u.heap.size u w') := fun u hu => by rw [← hr]; exact rVolume_right v A x.2.2.2.1 u (RVolume.firm.kept hv (Kept.below hu))
 obtain ⟨bs, hbs⟩ : ∃ c, c = [Value.int .i64 3] ++ (zPod ++ (zNode ++ (v ++ (zClaim ++ (zClass ++ (zBudget)))))) := ⟨_, rfl⟩
 have HB : Hid (∀ u, Below w.heap.size w u → Calls prog 13 #[.agg cs.toArray, .agg bs.toArray] u fun e w' => e = .returned (.bool q) ∧ Below u.heap.size u w') := fun u hu => by rw [← hq, hcs, hbs]; exact sameVolume A x p n v m l b u (RPod.firm.kept hp (Kept.below hu)) (RNode.firm.kept hn (Kept.below hu)) (RVolume.firm.kept hv (Kept.below hu)) (RClaim.firm.kept hm (Kept.below hu)) (RClass.firm.kept hl (Kept.below hu)) (RBudget.firm.kept hb (Kept.below hu)) hk
 have hib : (prog.info? 46).map (·.size) = some bs.length := by rw [hbs]; exact info_of infoObj (ObjL.all ⟨rfl, rfl, HLN.v, rfl, rfl, rfl⟩)
 have hic := info_of iszVolume HLN.v
 have hica : (prog.info? 38).map (·.size) = some v.toArray.size := by simpa using hic
 have hoc : v.toArray.all (·.oneCell') = true := all_oneCell_toArray (RVolume.firm.one hv)
 have hiz : (prog.info? 46).map (·.size) = some (zC 3).toArray.size := infoObj
 obtain ⟨U1, hU1⟩ : ∃ U, U = (w.alloc (.cells cs.toArray 46)).alloc (.cells (zC 0).toArray 46) := ⟨_, rfl⟩
 have H1 : Held w [(w.heap.size, cs)] [(w.heap.size + 1, 40)] U1 := by rw [hU1]; exact ((Held.start w).push rfl cs _).room (by simp) (zC 0).toArray _
 obtain ⟨U2, hU2⟩ : ∃ U, U = U1.setCells (w.heap.size + 1) 0 (zC 3) := ⟨_, rfl⟩
 have H2 : Held w [(w.heap.size, cs)] [(w.heap.size + 1, 40)] U2 := by rw [hU2]; exact H1.wroteAt 0 rfl (by simp)
 have R2 : U2.rangeAt (w.heap.size + 1) 0 (zC 3) := by rw [hU2]; exact World.rangeAt_setCells_same _ _ _ _ (there_sub (H1.there 0 rfl) (Nat.le_refl _))
 obtain ⟨U3, hU3⟩ : ∃ U, U = U2.setCells (w.heap.size + 1) 26 v := ⟨_, rfl⟩
 have H3 : Held w [(w.heap.size, cs)] [(w.heap.size + 1, 40)] U3 := by rw [hU3]; exact H2.wroteAt 0 rfl (by simp)
 have HT2 : Hid (U2.there (w.heap.size + 1) 26 v.toArray.size) := there_sub (H2.there 0 rfl) (by simp [HLN.v])
 have R3 : Hid (U3.rangeAt (w.heap.size + 1) 0 bs) := by
  have := range_put (l1 := [Value.int .i64 3] ++ zPod ++ zNode) (l2 := zVolume) (l3 := zClaim ++ (zClass ++ (zBudget))) (c := v) (w := U2) (b := w.heap.size + 1) (o := 26) R2 rfl (by rw [HLN.v]; rfl) (by simpa using HT2.out)
  rw [Hid, hU3, hbs]
  simpa only [List.append_assoc, List.append_nil] using this
 have HT1 : Hid (U1.there (w.heap.size + 1) 0 (zC 3).toArray.size) := there_sub (H1.there 0 rfl) (Nat.le_refl _)
 have HRO : Hid (∀ u, Held w [(w.heap.size, cs)] [(w.heap.size + 1, 40)] u → ObjR u w.heap.size 3 p n v m l b) := fun u hu => objR (hcs ▸ hu.get 0 rfl) HLN
 have hz : ((w.alloc (.cells cs.toArray 46)).cell? ⟨w.heap.size, 0, none⟩ = some (.int .i64 3)) := (objR (k := 3) (hcs ▸ ((Held.start w).push rfl cs 46).get 0 rfl) HLN).k
 have HU2 : Hid (U2 = _) := hU2.trans (by rw [hU1])
 have HU3 : Hid (U3 = U2.setCells (w.heap.size + 1) 26 v) := hU3
 have HH2 := Hid.mk_ H2
 have HH3 := Hid.mk_ H3
 rw [hU1] at HT1
 clear h hk hr hq hp hn hv hm hl hb hU1 hU2 hU3 H1 H2 H3 R2 HLN hcs hbs
 have G0 := Hid.mk_ (HRO.out _ HH2.out).v
 have z1 := (HRO.out _ HH2.out).k
 have G1 := Hid.mk_ (HRO.out _ HH3.out).v
 have kl := HH2.out.lt 0 rfl
 have kl3 := HH3.out.lt 0 rfl
 go_enter func10, ntmps10
 go_wp2_with (first | (refine wpList_store_mid rfl 46 _ _ rfl (w.heap.size + 1) 0 (zC 3).toArray rfl rfl HT1.out hiz (zC_one 3) ?_; refine wpl_at HU2.out ?_) | (refine wpList_store_mid rfl 38 _ _ rfl (w.heap.size + 1) 26 v.toArray rfl rfl HT2.out hica hoc ?_; refine wpl_at HU3.out ?_) | (refine BigFrame.wpList_want rfl (fun _ hKK => wp_load_mid 38 _ rfl (w.heap.size) 26 rfl v _ G0.out underlying38 rfl hic (hKK _ _ ?_))) | (refine BigFrame.wpList_want rfl (fun _ hKK => wp_load_mid 38 _ rfl (w.heap.size) 26 rfl v _ G1.out underlying38 rfl hic (hKK _ _ ?_))) | fail)
 clear hz z1 kl kl3 G0 G1 HT1 HT2 HU2 HU3 HH2
 refine (HA.out _ HH3.out.below).mono ?_
 rintro e u4 ⟨rfl, hb4⟩
 have HH4 : Hid (Held w [(w.heap.size, cs)] [(w.heap.size + 1, 40)] u4) := HH3.out.on hb4
 have R4 : Hid (u4.rangeAt (w.heap.size + 1) 0 bs) := range_on R3.out hb4 (HH3.out.ltM 0 rfl)
 have R5 : Hid (u4.rangeAt w.heap.size 0 cs) := HH4.out.get 0 rfl
 clear hb4 HH3 R3 HA
 cases r
 ·
  clear HB
  go_wp2_with fail
  go_ret
  exact ⟨reti (by rw [HF.out] <;> simp), HH4.out.below⟩
 go_wp2_with (first | (refine BigFrame.wpList_want rfl (fun _ hKK => wp_load_mid 46 _ rfl (w.heap.size) 0 rfl cs _ R5.out underlying46 rfl hi (hKK _ _ ?_))) | (refine BigFrame.wpList_want rfl (fun _ hKK => wp_load_mid 46 _ rfl (w.heap.size + 1) 0 rfl bs _ R4.out underlying46 rfl hib (hKK _ _ ?_))) | fail)
 refine (HB.out _ HH4.out.below).mono ?_
 rintro e u5 ⟨rfl, hb5⟩
 have hbe := Hid.mk_ (on2 HH4.out.below hb5)
 clear HB hb5 R4 R5 HH4
 cases q
 ·
  go_wp2_with fail
  go_ret
  exact ⟨reti (by rw [HF.out] <;> simp), hbe.out⟩
 go_wp2_with fail
 go_ret
 exact ⟨reti (by rw [HF.out] <;> simp), hbe.out⟩
theorem rCheck_Claim (cs : List Value) (A : Where) (x : ObjectD) (w : World) (h : RObject A w cs x) (hk : x.1 = 4) : Calls prog 10 #[.agg cs.toArray] w fun e w' => e = .returned (.int .i64 (checkO x)) ∧ Below w.heap.size w w' := by
 have hi : (prog.info? 46).map (·.size) = some cs.length := by rw [RObject.firm.len h]; exact infoObj
 obtain ⟨p, n, v, m, l, b, hcs, hp, hn, hv, hm, hl, hb⟩ := objParts h
 rw [hk] at hcs
 have HLN := obj_len hp hn hv hm hl hb
 obtain ⟨r, hr⟩ : ∃ r, rightClaim x.2.2.2.2.1 = r := ⟨_, rfl⟩
 obtain ⟨q, hq⟩ : ∃ q, othersB x = q := ⟨_, rfl⟩
 have HF : Hid (checkO x = if r && q then 0 else 40) := by rw [Hid, checkO, if_pos (by rw [hk]; decide), ← hq, ← hr]; simp [rightO, hk]
 have HA : Hid (∀ u, Below w.heap.size w u → Calls prog 38 #[.agg m.toArray] u fun e w' => e = .returned (.bool r) ∧ Below u.heap.size u w') := fun u hu => by rw [← hr]; exact rClaim_right m A x.2.2.2.2.1 u (RClaim.firm.kept hm (Kept.below hu))
 obtain ⟨bs, hbs⟩ : ∃ c, c = [Value.int .i64 4] ++ (zPod ++ (zNode ++ (zVolume ++ (m ++ (zClass ++ (zBudget)))))) := ⟨_, rfl⟩
 have HB : Hid (∀ u, Below w.heap.size w u → Calls prog 13 #[.agg cs.toArray, .agg bs.toArray] u fun e w' => e = .returned (.bool q) ∧ Below u.heap.size u w') := fun u hu => by rw [← hq, hcs, hbs]; exact sameClaim A x p n v m l b u (RPod.firm.kept hp (Kept.below hu)) (RNode.firm.kept hn (Kept.below hu)) (RVolume.firm.kept hv (Kept.below hu)) (RClaim.firm.kept hm (Kept.below hu)) (RClass.firm.kept hl (Kept.below hu)) (RBudget.firm.kept hb (Kept.below hu)) hk
 have hib : (prog.info? 46).map (·.size) = some bs.length := by rw [hbs]; exact info_of infoObj (ObjL.all ⟨rfl, rfl, rfl, HLN.m, rfl, rfl⟩)
 have hic := info_of iszClaim HLN.m
 have hica : (prog.info? 40).map (·.size) = some m.toArray.size := by simpa using hic
 have hoc : m.toArray.all (·.oneCell') = true := all_oneCell_toArray (RClaim.firm.one hm)
 have hiz : (prog.info? 46).map (·.size) = some (zC 4).toArray.size := infoObj
 obtain ⟨U1, hU1⟩ : ∃ U, U = (w.alloc (.cells cs.toArray 46)).alloc (.cells (zC 0).toArray 46) := ⟨_, rfl⟩
 have H1 : Held w [(w.heap.size, cs)] [(w.heap.size + 1, 40)] U1 := by rw [hU1]; exact ((Held.start w).push rfl cs _).room (by simp) (zC 0).toArray _
 obtain ⟨U2, hU2⟩ : ∃ U, U = U1.setCells (w.heap.size + 1) 0 (zC 4) := ⟨_, rfl⟩
 have H2 : Held w [(w.heap.size, cs)] [(w.heap.size + 1, 40)] U2 := by rw [hU2]; exact H1.wroteAt 0 rfl (by simp)
 have R2 : U2.rangeAt (w.heap.size + 1) 0 (zC 4) := by rw [hU2]; exact World.rangeAt_setCells_same _ _ _ _ (there_sub (H1.there 0 rfl) (Nat.le_refl _))
 obtain ⟨U3, hU3⟩ : ∃ U, U = U2.setCells (w.heap.size + 1) 31 m := ⟨_, rfl⟩
 have H3 : Held w [(w.heap.size, cs)] [(w.heap.size + 1, 40)] U3 := by rw [hU3]; exact H2.wroteAt 0 rfl (by simp)
 have HT2 : Hid (U2.there (w.heap.size + 1) 31 m.toArray.size) := there_sub (H2.there 0 rfl) (by simp [HLN.m])
 have R3 : Hid (U3.rangeAt (w.heap.size + 1) 0 bs) := by
  have := range_put (l1 := [Value.int .i64 4] ++ zPod ++ zNode ++ zVolume) (l2 := zClaim) (l3 := zClass ++ (zBudget)) (c := m) (w := U2) (b := w.heap.size + 1) (o := 31) R2 rfl (by rw [HLN.m]; rfl) (by simpa using HT2.out)
  rw [Hid, hU3, hbs]
  simpa only [List.append_assoc, List.append_nil] using this
 have HT1 : Hid (U1.there (w.heap.size + 1) 0 (zC 4).toArray.size) := there_sub (H1.there 0 rfl) (Nat.le_refl _)
 have HRO : Hid (∀ u, Held w [(w.heap.size, cs)] [(w.heap.size + 1, 40)] u → ObjR u w.heap.size 4 p n v m l b) := fun u hu => objR (hcs ▸ hu.get 0 rfl) HLN
 have hz : ((w.alloc (.cells cs.toArray 46)).cell? ⟨w.heap.size, 0, none⟩ = some (.int .i64 4)) := (objR (k := 4) (hcs ▸ ((Held.start w).push rfl cs 46).get 0 rfl) HLN).k
 have HU2 : Hid (U2 = _) := hU2.trans (by rw [hU1])
 have HU3 : Hid (U3 = U2.setCells (w.heap.size + 1) 31 m) := hU3
 have HH2 := Hid.mk_ H2
 have HH3 := Hid.mk_ H3
 rw [hU1] at HT1
 clear h hk hr hq hp hn hv hm hl hb hU1 hU2 hU3 H1 H2 H3 R2 HLN hcs hbs
 have G0 := Hid.mk_ (HRO.out _ HH2.out).m
 have z1 := (HRO.out _ HH2.out).k
 have G1 := Hid.mk_ (HRO.out _ HH3.out).m
 have kl := HH2.out.lt 0 rfl
 have kl3 := HH3.out.lt 0 rfl
 go_enter func10, ntmps10
 go_wp2_with (first | (refine wpList_store_mid rfl 46 _ _ rfl (w.heap.size + 1) 0 (zC 4).toArray rfl rfl HT1.out hiz (zC_one 4) ?_; refine wpl_at HU2.out ?_) | (refine wpList_store_mid rfl 40 _ _ rfl (w.heap.size + 1) 31 m.toArray rfl rfl HT2.out hica hoc ?_; refine wpl_at HU3.out ?_) | (refine BigFrame.wpList_want rfl (fun _ hKK => wp_load_mid 40 _ rfl (w.heap.size) 31 rfl m _ G0.out underlying40 rfl hic (hKK _ _ ?_))) | (refine BigFrame.wpList_want rfl (fun _ hKK => wp_load_mid 40 _ rfl (w.heap.size) 31 rfl m _ G1.out underlying40 rfl hic (hKK _ _ ?_))) | fail)
 clear hz z1 kl kl3 G0 G1 HT1 HT2 HU2 HU3 HH2
 refine (HA.out _ HH3.out.below).mono ?_
 rintro e u4 ⟨rfl, hb4⟩
 have HH4 : Hid (Held w [(w.heap.size, cs)] [(w.heap.size + 1, 40)] u4) := HH3.out.on hb4
 have R4 : Hid (u4.rangeAt (w.heap.size + 1) 0 bs) := range_on R3.out hb4 (HH3.out.ltM 0 rfl)
 have R5 : Hid (u4.rangeAt w.heap.size 0 cs) := HH4.out.get 0 rfl
 clear hb4 HH3 R3 HA
 cases r
 ·
  clear HB
  go_wp2_with fail
  go_ret
  exact ⟨reti (by rw [HF.out] <;> simp), HH4.out.below⟩
 go_wp2_with (first | (refine BigFrame.wpList_want rfl (fun _ hKK => wp_load_mid 46 _ rfl (w.heap.size) 0 rfl cs _ R5.out underlying46 rfl hi (hKK _ _ ?_))) | (refine BigFrame.wpList_want rfl (fun _ hKK => wp_load_mid 46 _ rfl (w.heap.size + 1) 0 rfl bs _ R4.out underlying46 rfl hib (hKK _ _ ?_))) | fail)
 refine (HB.out _ HH4.out.below).mono ?_
 rintro e u5 ⟨rfl, hb5⟩
 have hbe := Hid.mk_ (on2 HH4.out.below hb5)
 clear HB hb5 R4 R5 HH4
 cases q
 ·
  go_wp2_with fail
  go_ret
  exact ⟨reti (by rw [HF.out] <;> simp), hbe.out⟩
 go_wp2_with fail
 go_ret
 exact ⟨reti (by rw [HF.out] <;> simp), hbe.out⟩
theorem rCheck_Class (cs : List Value) (A : Where) (x : ObjectD) (w : World) (h : RObject A w cs x) (hk : x.1 = 5) : Calls prog 10 #[.agg cs.toArray] w fun e w' => e = .returned (.int .i64 (checkO x)) ∧ Below w.heap.size w w' := by
 have hi : (prog.info? 46).map (·.size) = some cs.length := by rw [RObject.firm.len h]; exact infoObj
 obtain ⟨p, n, v, m, l, b, hcs, hp, hn, hv, hm, hl, hb⟩ := objParts h
 rw [hk] at hcs
 have HLN := obj_len hp hn hv hm hl hb
 obtain ⟨r, hr⟩ : ∃ r, rightClass x.2.2.2.2.2.1 = r := ⟨_, rfl⟩
 obtain ⟨q, hq⟩ : ∃ q, othersB x = q := ⟨_, rfl⟩
 have HF : Hid (checkO x = if r && q then 0 else 40) := by rw [Hid, checkO, if_pos (by rw [hk]; decide), ← hq, ← hr]; simp [rightO, hk]
 have HA : Hid (∀ u, Below w.heap.size w u → Calls prog 39 #[.string x.2.2.2.2.2.1.1] u fun e w' => e = .returned (.bool r) ∧ Below u.heap.size u w') := fun u hu => by rw [← hr]; exact calls_same (rWord_calls _ hl.out.2 u)
 obtain ⟨bs, hbs⟩ : ∃ c, c = [Value.int .i64 5] ++ (zPod ++ (zNode ++ (zVolume ++ (zClaim ++ (l ++ (zBudget)))))) := ⟨_, rfl⟩
 have HB : Hid (∀ u, Below w.heap.size w u → Calls prog 13 #[.agg cs.toArray, .agg bs.toArray] u fun e w' => e = .returned (.bool q) ∧ Below u.heap.size u w') := fun u hu => by rw [← hq, hcs, hbs]; exact sameClass A x p n v m l b u (RPod.firm.kept hp (Kept.below hu)) (RNode.firm.kept hn (Kept.below hu)) (RVolume.firm.kept hv (Kept.below hu)) (RClaim.firm.kept hm (Kept.below hu)) (RClass.firm.kept hl (Kept.below hu)) (RBudget.firm.kept hb (Kept.below hu)) hk
 have hib : (prog.info? 46).map (·.size) = some bs.length := by rw [hbs]; exact info_of infoObj (ObjL.all ⟨rfl, rfl, rfl, rfl, HLN.l, rfl⟩)
 have hic := info_of iszClass HLN.l
 have hica : (prog.info? 42).map (·.size) = some l.toArray.size := by simpa using hic
 have hoc : l.toArray.all (·.oneCell') = true := all_oneCell_toArray (RClass.firm.one hl)
 have hiz : (prog.info? 46).map (·.size) = some (zC 5).toArray.size := infoObj
 obtain ⟨U1, hU1⟩ : ∃ U, U = (w.alloc (.cells cs.toArray 46)).alloc (.cells (zC 0).toArray 46) := ⟨_, rfl⟩
 have H1 : Held w [(w.heap.size, cs)] [(w.heap.size + 1, 40)] U1 := by rw [hU1]; exact ((Held.start w).push rfl cs _).room (by simp) (zC 0).toArray _
 obtain ⟨U2, hU2⟩ : ∃ U, U = U1.setCells (w.heap.size + 1) 0 (zC 5) := ⟨_, rfl⟩
 have H2 : Held w [(w.heap.size, cs)] [(w.heap.size + 1, 40)] U2 := by rw [hU2]; exact H1.wroteAt 0 rfl (by simp)
 have R2 : U2.rangeAt (w.heap.size + 1) 0 (zC 5) := by rw [hU2]; exact World.rangeAt_setCells_same _ _ _ _ (there_sub (H1.there 0 rfl) (Nat.le_refl _))
 obtain ⟨U3, hU3⟩ : ∃ U, U = U2.setCells (w.heap.size + 1) 35 l := ⟨_, rfl⟩
 have H3 : Held w [(w.heap.size, cs)] [(w.heap.size + 1, 40)] U3 := by rw [hU3]; exact H2.wroteAt 0 rfl (by simp)
 have HT2 : Hid (U2.there (w.heap.size + 1) 35 l.toArray.size) := there_sub (H2.there 0 rfl) (by simp [HLN.l])
 have R3 : Hid (U3.rangeAt (w.heap.size + 1) 0 bs) := by
  have := range_put (l1 := [Value.int .i64 5] ++ zPod ++ zNode ++ zVolume ++ zClaim) (l2 := zClass) (l3 := zBudget) (c := l) (w := U2) (b := w.heap.size + 1) (o := 35) R2 rfl (by rw [HLN.l]; rfl) (by simpa using HT2.out)
  rw [Hid, hU3, hbs]
  simpa only [List.append_assoc, List.append_nil] using this
 have HT1 : Hid (U1.there (w.heap.size + 1) 0 (zC 5).toArray.size) := there_sub (H1.there 0 rfl) (Nat.le_refl _)
 have HRO : Hid (∀ u, Held w [(w.heap.size, cs)] [(w.heap.size + 1, 40)] u → ObjR u w.heap.size 5 p n v m l b) := fun u hu => objR (hcs ▸ hu.get 0 rfl) HLN
 have hz : ((w.alloc (.cells cs.toArray 46)).cell? ⟨w.heap.size, 0, none⟩ = some (.int .i64 5)) := (objR (k := 5) (hcs ▸ ((Held.start w).push rfl cs 46).get 0 rfl) HLN).k
 have HU2 : Hid (U2 = _) := hU2.trans (by rw [hU1])
 have HU3 : Hid (U3 = U2.setCells (w.heap.size + 1) 35 l) := hU3
 have HH2 := Hid.mk_ H2
 have HH3 := Hid.mk_ H3
 rw [hU1] at HT1
 have hl0 : Hid (l = [.string x.2.2.2.2.2.1.1, .bool x.2.2.2.2.2.1.2]) := hl.out.1
 clear h hk hr hq hp hn hv hm hl hb hU1 hU2 hU3 H1 H2 H3 R2 HLN hcs hbs
 have G0 := Hid.mk_ (HRO.out _ HH2.out).l
 have z1 := (HRO.out _ HH2.out).k
 have G1 := Hid.mk_ (HRO.out _ HH3.out).l
 have kl := HH2.out.lt 0 rfl
 have kl3 := HH3.out.lt 0 rfl
 have c35 : U3.cell? ⟨w.heap.size, 35, none⟩ = some (.string x.2.2.2.2.2.1.1) := by have := G1.out 0 (.string x.2.2.2.2.2.1.1) (by rw [hl0.out]; rfl); simpa using this
 go_enter func10, ntmps10
 go_wp2_with (first | (refine wpList_store_mid rfl 46 _ _ rfl (w.heap.size + 1) 0 (zC 5).toArray rfl rfl HT1.out hiz (zC_one 5) ?_; refine wpl_at HU2.out ?_) | (refine wpList_store_mid rfl 42 _ _ rfl (w.heap.size + 1) 35 l.toArray rfl rfl HT2.out hica hoc ?_; refine wpl_at HU3.out ?_) | (refine BigFrame.wpList_want rfl (fun _ hKK => wp_load_mid 42 _ rfl (w.heap.size) 35 rfl l _ G0.out underlying42 rfl hic (hKK _ _ ?_))) | (refine BigFrame.wpList_want rfl (fun _ hKK => wp_load_mid 42 _ rfl (w.heap.size) 35 rfl l _ G1.out underlying42 rfl hic (hKK _ _ ?_))) | fail)
 clear hz z1 kl kl3 G0 G1 HT1 HT2 HU2 HU3 HH2 c35
 refine (HA.out _ HH3.out.below).mono ?_
 rintro e u4 ⟨rfl, hb4⟩
 have HH4 : Hid (Held w [(w.heap.size, cs)] [(w.heap.size + 1, 40)] u4) := HH3.out.on hb4
 have R4 : Hid (u4.rangeAt (w.heap.size + 1) 0 bs) := range_on R3.out hb4 (HH3.out.ltM 0 rfl)
 have R5 : Hid (u4.rangeAt w.heap.size 0 cs) := HH4.out.get 0 rfl
 clear hb4 HH3 R3 HA
 cases r
 ·
  clear HB
  go_wp2_with fail
  go_ret
  exact ⟨reti (by rw [HF.out] <;> simp), HH4.out.below⟩
 go_wp2_with (first | (refine BigFrame.wpList_want rfl (fun _ hKK => wp_load_mid 46 _ rfl (w.heap.size) 0 rfl cs _ R5.out underlying46 rfl hi (hKK _ _ ?_))) | (refine BigFrame.wpList_want rfl (fun _ hKK => wp_load_mid 46 _ rfl (w.heap.size + 1) 0 rfl bs _ R4.out underlying46 rfl hib (hKK _ _ ?_))) | fail)
 refine (HB.out _ HH4.out.below).mono ?_
 rintro e u5 ⟨rfl, hb5⟩
 have hbe := Hid.mk_ (on2 HH4.out.below hb5)
 clear HB hb5 R4 R5 HH4
 cases q
 ·
  go_wp2_with fail
  go_ret
  exact ⟨reti (by rw [HF.out] <;> simp), hbe.out⟩
 go_wp2_with fail
 go_ret
 exact ⟨reti (by rw [HF.out] <;> simp), hbe.out⟩
theorem rCheck_Budget (cs : List Value) (A : Where) (x : ObjectD) (w : World) (h : RObject A w cs x) (hk : x.1 = 6) : Calls prog 10 #[.agg cs.toArray] w fun e w' => e = .returned (.int .i64 (checkO x)) ∧ Below w.heap.size w w' := by
 have hi : (prog.info? 46).map (·.size) = some cs.length := by rw [RObject.firm.len h]; exact infoObj
 obtain ⟨p, n, v, m, l, b, hcs, hp, hn, hv, hm, hl, hb⟩ := objParts h
 rw [hk] at hcs
 have HLN := obj_len hp hn hv hm hl hb
 obtain ⟨r, hr⟩ : ∃ r, rightBudget x.2.2.2.2.2.2 = r := ⟨_, rfl⟩
 obtain ⟨q, hq⟩ : ∃ q, othersB x = q := ⟨_, rfl⟩
 have HF : Hid (checkO x = if r && q then 0 else 40) := by rw [Hid, checkO, if_pos (by rw [hk]; decide), ← hq, ← hr]; simp [rightO, hk]
 have HA : Hid (∀ u, Below w.heap.size w u → Calls prog 40 #[.agg b.toArray] u fun e w' => e = .returned (.bool r) ∧ Below u.heap.size u w') := fun u hu => by rw [← hr]; exact rBudget_right b A x.2.2.2.2.2.2 u (RBudget.firm.kept hb (Kept.below hu))
 obtain ⟨bs, hbs⟩ : ∃ c, c = [Value.int .i64 6] ++ (zPod ++ (zNode ++ (zVolume ++ (zClaim ++ (zClass ++ (b)))))) := ⟨_, rfl⟩
 have HB : Hid (∀ u, Below w.heap.size w u → Calls prog 13 #[.agg cs.toArray, .agg bs.toArray] u fun e w' => e = .returned (.bool q) ∧ Below u.heap.size u w') := fun u hu => by rw [← hq, hcs, hbs]; exact sameBudget A x p n v m l b u (RPod.firm.kept hp (Kept.below hu)) (RNode.firm.kept hn (Kept.below hu)) (RVolume.firm.kept hv (Kept.below hu)) (RClaim.firm.kept hm (Kept.below hu)) (RClass.firm.kept hl (Kept.below hu)) (RBudget.firm.kept hb (Kept.below hu)) hk
 have hib : (prog.info? 46).map (·.size) = some bs.length := by rw [hbs]; exact info_of infoObj (ObjL.all ⟨rfl, rfl, rfl, rfl, rfl, HLN.b⟩)
 have hic := info_of iszBudget HLN.b
 have hica : (prog.info? 44).map (·.size) = some b.toArray.size := by simpa using hic
 have hoc : b.toArray.all (·.oneCell') = true := all_oneCell_toArray (RBudget.firm.one hb)
 have hiz : (prog.info? 46).map (·.size) = some (zC 6).toArray.size := infoObj
 obtain ⟨U1, hU1⟩ : ∃ U, U = (w.alloc (.cells cs.toArray 46)).alloc (.cells (zC 0).toArray 46) := ⟨_, rfl⟩
 have H1 : Held w [(w.heap.size, cs)] [(w.heap.size + 1, 40)] U1 := by rw [hU1]; exact ((Held.start w).push rfl cs _).room (by simp) (zC 0).toArray _
 obtain ⟨U2, hU2⟩ : ∃ U, U = U1.setCells (w.heap.size + 1) 0 (zC 6) := ⟨_, rfl⟩
 have H2 : Held w [(w.heap.size, cs)] [(w.heap.size + 1, 40)] U2 := by rw [hU2]; exact H1.wroteAt 0 rfl (by simp)
 have R2 : U2.rangeAt (w.heap.size + 1) 0 (zC 6) := by rw [hU2]; exact World.rangeAt_setCells_same _ _ _ _ (there_sub (H1.there 0 rfl) (Nat.le_refl _))
 obtain ⟨U3, hU3⟩ : ∃ U, U = U2.setCells (w.heap.size + 1) 37 b := ⟨_, rfl⟩
 have H3 : Held w [(w.heap.size, cs)] [(w.heap.size + 1, 40)] U3 := by rw [hU3]; exact H2.wroteAt 0 rfl (by simp)
 have HT2 : Hid (U2.there (w.heap.size + 1) 37 b.toArray.size) := there_sub (H2.there 0 rfl) (by simp [HLN.b])
 have R3 : Hid (U3.rangeAt (w.heap.size + 1) 0 bs) := by
  have := range_put (l1 := [Value.int .i64 6] ++ zPod ++ zNode ++ zVolume ++ zClaim ++ zClass) (l2 := zBudget) (l3 := []) (c := b) (w := U2) (b := w.heap.size + 1) (o := 37) R2 rfl (by rw [HLN.b]; rfl) (by simpa using HT2.out)
  rw [Hid, hU3, hbs]
  simpa only [List.append_assoc, List.append_nil] using this
 have HT1 : Hid (U1.there (w.heap.size + 1) 0 (zC 6).toArray.size) := there_sub (H1.there 0 rfl) (Nat.le_refl _)
 have HRO : Hid (∀ u, Held w [(w.heap.size, cs)] [(w.heap.size + 1, 40)] u → ObjR u w.heap.size 6 p n v m l b) := fun u hu => objR (hcs ▸ hu.get 0 rfl) HLN
 have hz : ((w.alloc (.cells cs.toArray 46)).cell? ⟨w.heap.size, 0, none⟩ = some (.int .i64 6)) := (objR (k := 6) (hcs ▸ ((Held.start w).push rfl cs 46).get 0 rfl) HLN).k
 have HU2 : Hid (U2 = _) := hU2.trans (by rw [hU1])
 have HU3 : Hid (U3 = U2.setCells (w.heap.size + 1) 37 b) := hU3
 have HH2 := Hid.mk_ H2
 have HH3 := Hid.mk_ H3
 rw [hU1] at HT1
 clear h hk hr hq hp hn hv hm hl hb hU1 hU2 hU3 H1 H2 H3 R2 HLN hcs hbs
 have G0 := Hid.mk_ (HRO.out _ HH2.out).b
 have z1 := (HRO.out _ HH2.out).k
 have G1 := Hid.mk_ (HRO.out _ HH3.out).b
 have kl := HH2.out.lt 0 rfl
 have kl3 := HH3.out.lt 0 rfl
 go_enter func10, ntmps10
 go_wp2_with (first | (refine wpList_store_mid rfl 46 _ _ rfl (w.heap.size + 1) 0 (zC 6).toArray rfl rfl HT1.out hiz (zC_one 6) ?_; refine wpl_at HU2.out ?_) | (refine wpList_store_mid rfl 44 _ _ rfl (w.heap.size + 1) 37 b.toArray rfl rfl HT2.out hica hoc ?_; refine wpl_at HU3.out ?_) | (refine BigFrame.wpList_want rfl (fun _ hKK => wp_load_mid 44 _ rfl (w.heap.size) 37 rfl b _ G0.out underlying44 rfl hic (hKK _ _ ?_))) | (refine BigFrame.wpList_want rfl (fun _ hKK => wp_load_mid 44 _ rfl (w.heap.size) 37 rfl b _ G1.out underlying44 rfl hic (hKK _ _ ?_))) | fail)
 clear hz z1 kl kl3 G0 G1 HT1 HT2 HU2 HU3 HH2
 refine (HA.out _ HH3.out.below).mono ?_
 rintro e u4 ⟨rfl, hb4⟩
 have HH4 : Hid (Held w [(w.heap.size, cs)] [(w.heap.size + 1, 40)] u4) := HH3.out.on hb4
 have R4 : Hid (u4.rangeAt (w.heap.size + 1) 0 bs) := range_on R3.out hb4 (HH3.out.ltM 0 rfl)
 have R5 : Hid (u4.rangeAt w.heap.size 0 cs) := HH4.out.get 0 rfl
 clear hb4 HH3 R3 HA
 cases r
 ·
  clear HB
  go_wp2_with fail
  go_ret
  exact ⟨reti (by rw [HF.out] <;> simp), HH4.out.below⟩
 go_wp2_with (first | (refine BigFrame.wpList_want rfl (fun _ hKK => wp_load_mid 46 _ rfl (w.heap.size) 0 rfl cs _ R5.out underlying46 rfl hi (hKK _ _ ?_))) | (refine BigFrame.wpList_want rfl (fun _ hKK => wp_load_mid 46 _ rfl (w.heap.size + 1) 0 rfl bs _ R4.out underlying46 rfl hib (hKK _ _ ?_))) | fail)
 refine (HB.out _ HH4.out.below).mono ?_
 rintro e u5 ⟨rfl, hb5⟩
 have hbe := Hid.mk_ (on2 HH4.out.below hb5)
 clear HB hb5 R4 R5 HH4
 cases q
 ·
  go_wp2_with fail
  go_ret
  exact ⟨reti (by rw [HF.out] <;> simp), hbe.out⟩
 go_wp2_with fail
 go_ret
 exact ⟨reti (by rw [HF.out] <;> simp), hbe.out⟩
end Go.Proofs.YtfbnnfpnjjjfcaaGreat

