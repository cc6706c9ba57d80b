/- object.Remove, and its like. No condition beyond what each says. -/
import Derived.Test.YtopimokncibdgaaGreatQ36
namespace Go.Proofs.YtopimokncibdgaaGreat
set_option maxHeartbeats 16000000
set_option maxRecDepth 100000
open Tryz Go.RowKit
set_option linter.unusedSimpArgs false
theorem Remove_Pod (ss : List Value) (s : ByteArray) (A : Where) (x : StateD) (w : World) (hs : RState A w ss x) : Calls prog 22 #[.agg ss.toArray, .int .i64 1, .string s] w fun e w' => StTup2 A w (remSPod x s) e w' := by
 have his : (prog.info? 61).map (·.size) = some ss.length := by rw [RState.firm.len hs]; exact infoSta
 have HS : Hid (RState (Lo A w) w ss x) := RState.firm.weak hs (fun b hb h => ⟨h, hb⟩)
 obtain ⟨r, hr⟩ : ∃ r, remSPod x s = r := ⟨_, rfl⟩
 have HP : Hid (∀ u, Below w.heap.size w u → Calls prog 159 #[.agg #[.iface 132 (.agg #[])], .agg ss.toArray, .string s] u fun e w' => ∃ gs, e = .returned (.tuple #[.agg gs.toArray, .bool r.2]) ∧ StV (Lo (Lo A w) u) u w' gs r.1 ∧ Below u.heap.size u w') := fun u hu => by
  rw [← hr]
  exact (Pod_oremove ss s _ x u (RState.firm.kept HS.out (Kept.below hu))).mono (fun e w' h => h.st)
 rw [hr]
 clear hr
 clear hs
 obtain ⟨U0, hU0⟩ : ∃ U0, U0 = ((w.alloc (.cells ss.toArray 61)).alloc (.cells #[Z, Z, Z, Z, Z, Z] 61)) := ⟨_, rfl⟩
 have HH0 : Hid (Held w [(w.heap.size, ss)] [(w.heap.size + 1, 6)] U0) := by rw [Hid, hU0]; exact ((Held.start w).push rfl ss 61).room (by simp) #[Z, Z, Z, Z, Z, Z] 61
 have HU : Hid (U0.heap.size = w.heap.size + 1 + 1) := by rw [Hid, hU0]; simp
 go_enter func22, ntmps22
 go_wp2_with fail
 rw [← hU0]
 clear hU0
 refine (kindOf_Pod _).mono ?_
 rintro e u2 ⟨rfl, hb2⟩
 have HH2 : Hid (Held w [(w.heap.size, ss)] [(w.heap.size + 1, 6)] u2) := HH0.out.on hb2
 have HU2 : Hid (w.heap.size + 1 < u2.heap.size) := by have := hb2.size; rw [HU.out] at this; rw [Hid]; omega
 clear HH0 HU hb2
 have HRS : Hid (u2.rangeAt (w.heap.size) 0 ss) := HH2.out.get 0 rfl
 go_wp2_with (first | (refine BigFrame.wpList_want rfl (fun _ hKK => wp_load_mid 61 _ rfl (w.heap.size) 0 rfl ss _ HRS.out underlying61 rfl his (hKK _ _ ?_))) | fail)
 clear HRS
 refine (HP.out _ HH2.out.below).mono ?_
 rintro e u3 ⟨gs, rfl, hst, hb3⟩
 have HH3 : Hid (Held w [(w.heap.size, ss)] [(w.heap.size + 1, 6)] u3) := HH2.out.on hb3
 have HT : Hid (u3.there (w.heap.size + 1) 0 6) := HH3.out.there 0 rfl
 have hgl := hst.len
 have hgo := all_oneCell_toArray hst.one
 have hig : (prog.info? 61).map (·.size) = some gs.toArray.size := by simpa [hgl] using infoSta
 have higl : (prog.info? 61).map (·.size) = some gs.length := by rw [hgl]; exact infoSta
 have HT' : Hid (u3.there (w.heap.size + 1) 0 gs.toArray.size) := by simpa [Hid, hgl] using HT.out
 have HT'' : Hid (u3.there (w.heap.size + 1) 0 gs.length) := by rw [Hid, hgl]; exact HT.out
 obtain ⟨u4, hu4⟩ : ∃ u4, u4 = u3.setCells (w.heap.size + 1) 0 gs := ⟨_, rfl⟩
 have HST : Hid (StV (Lo A w) w u4 gs r.1) := by rw [Hid, hu4]; exact hst.wrote HH2.out.below (by omega) HU2.out
 have HRG : Hid (u4.rangeAt (w.heap.size + 1) 0 gs) := by rw [Hid, hu4]; exact World.rangeAt_setCells_same _ _ _ _ HT''.out
 have HU4 : Hid (u4 = u3.setCells (w.heap.size + 1) 0 gs) := hu4
 clear hu4 hst HH2 HH3 HP HT HT'' hb3
 go_wp2_with (first | (refine wpList_store_mid rfl 61 _ _ rfl (w.heap.size + 1) 0 gs.toArray rfl rfl HT'.out hig hgo ?_; refine wpl_at HU4.out ?_) | fail)
 refine bodyPost_ret (v := .tuple #[.agg gs.toArray, .bool r.2]) (res_cell2 (p := 6) (q := 7) (ty := 61) rfl _ _ (w.heap.size + 1) gs _ _ rfl rfl HRG.out underlying61 rfl higl) rfl (HST.out.tup2 (r := r) HST.out.below)
theorem Remove_Node (ss : List Value) (s : ByteArray) (A : Where) (x : StateD) (w : World) (hs : RState A w ss x) : Calls prog 22 #[.agg ss.toArray, .int .i64 2, .string s] w fun e w' => StTup2 A w (remSNode x s) e w' := by
 have his : (prog.info? 61).map (·.size) = some ss.length := by rw [RState.firm.len hs]; exact infoSta
 have HS : Hid (RState (Lo A w) w ss x) := RState.firm.weak hs (fun b hb h => ⟨h, hb⟩)
 obtain ⟨r, hr⟩ : ∃ r, remSNode x s = r := ⟨_, rfl⟩
 have HP : Hid (∀ u, Below w.heap.size w u → Calls prog 196 #[.agg #[.iface 137 (.agg #[])], .agg ss.toArray, .string s] u fun e w' => ∃ gs, e = .returned (.tuple #[.agg gs.toArray, .bool r.2]) ∧ StV (Lo (Lo A w) u) u w' gs r.1 ∧ Below u.heap.size u w') := fun u hu => by
  rw [← hr]
  exact (Node_oremove ss s _ x u (RState.firm.kept HS.out (Kept.below hu))).mono (fun e w' h => h.st)
 rw [hr]
 clear hr
 clear hs
 obtain ⟨U0, hU0⟩ : ∃ U0, U0 = ((w.alloc (.cells ss.toArray 61)).alloc (.cells #[Z, Z, Z, Z, Z, Z] 61)) := ⟨_, rfl⟩
 have HH0 : Hid (Held w [(w.heap.size, ss)] [(w.heap.size + 1, 6)] U0) := by rw [Hid, hU0]; exact ((Held.start w).push rfl ss 61).room (by simp) #[Z, Z, Z, Z, Z, Z] 61
 have HU : Hid (U0.heap.size = w.heap.size + 1 + 1) := by rw [Hid, hU0]; simp
 go_enter func22, ntmps22
 go_wp2_with fail
 rw [← hU0]
 clear hU0
 refine (kindOf_Node _).mono ?_
 rintro e u2 ⟨rfl, hb2⟩
 have HH2 : Hid (Held w [(w.heap.size, ss)] [(w.heap.size + 1, 6)] u2) := HH0.out.on hb2
 have HU2 : Hid (w.heap.size + 1 < u2.heap.size) := by have := hb2.size; rw [HU.out] at this; rw [Hid]; omega
 clear HH0 HU hb2
 have HRS : Hid (u2.rangeAt (w.heap.size) 0 ss) := HH2.out.get 0 rfl
 go_wp2_with (first | (refine BigFrame.wpList_want rfl (fun _ hKK => wp_load_mid 61 _ rfl (w.heap.size) 0 rfl ss _ HRS.out underlying61 rfl his (hKK _ _ ?_))) | fail)
 clear HRS
 refine (HP.out _ HH2.out.below).mono ?_
 rintro e u3 ⟨gs, rfl, hst, hb3⟩
 have HH3 : Hid (Held w [(w.heap.size, ss)] [(w.heap.size + 1, 6)] u3) := HH2.out.on hb3
 have HT : Hid (u3.there (w.heap.size + 1) 0 6) := HH3.out.there 0 rfl
 have hgl := hst.len
 have hgo := all_oneCell_toArray hst.one
 have hig : (prog.info? 61).map (·.size) = some gs.toArray.size := by simpa [hgl] using infoSta
 have higl : (prog.info? 61).map (·.size) = some gs.length := by rw [hgl]; exact infoSta
 have HT' : Hid (u3.there (w.heap.size + 1) 0 gs.toArray.size) := by simpa [Hid, hgl] using HT.out
 have HT'' : Hid (u3.there (w.heap.size + 1) 0 gs.length) := by rw [Hid, hgl]; exact HT.out
 obtain ⟨u4, hu4⟩ : ∃ u4, u4 = u3.setCells (w.heap.size + 1) 0 gs := ⟨_, rfl⟩
 have HST : Hid (StV (Lo A w) w u4 gs r.1) := by rw [Hid, hu4]; exact hst.wrote HH2.out.below (by omega) HU2.out
 have HRG : Hid (u4.rangeAt (w.heap.size + 1) 0 gs) := by rw [Hid, hu4]; exact World.rangeAt_setCells_same _ _ _ _ HT''.out
 have HU4 : Hid (u4 = u3.setCells (w.heap.size + 1) 0 gs) := hu4
 clear hu4 hst HH2 HH3 HP HT HT'' hb3
 go_wp2_with (first | (refine wpList_store_mid rfl 61 _ _ rfl (w.heap.size + 1) 0 gs.toArray rfl rfl HT'.out hig hgo ?_; refine wpl_at HU4.out ?_) | fail)
 refine bodyPost_ret (v := .tuple #[.agg gs.toArray, .bool r.2]) (res_cell2 (p := 6) (q := 7) (ty := 61) rfl _ _ (w.heap.size + 1) gs _ _ rfl rfl HRG.out underlying61 rfl higl) rfl (HST.out.tup2 (r := r) HST.out.below)
theorem Remove_Volume (ss : List Value) (s : ByteArray) (A : Where) (x : StateD) (w : World) (hs : RState A w ss x) : Calls prog 22 #[.agg ss.toArray, .int .i64 3, .string s] w fun e w' => StTup2 A w (remSVolume x s) e w' := by
 have his : (prog.info? 61).map (·.size) = some ss.length := by rw [RState.firm.len hs]; exact infoSta
 have HS : Hid (RState (Lo A w) w ss x) := RState.firm.weak hs (fun b hb h => ⟨h, hb⟩)
 obtain ⟨r, hr⟩ : ∃ r, remSVolume x s = r := ⟨_, rfl⟩
 have HP : Hid (∀ u, Below w.heap.size w u → Calls prog 227 #[.agg #[.iface 142 (.agg #[])], .agg ss.toArray, .string s] u fun e w' => ∃ gs, e = .returned (.tuple #[.agg gs.toArray, .bool r.2]) ∧ StV (Lo (Lo A w) u) u w' gs r.1 ∧ Below u.heap.size u w') := fun u hu => by
  rw [← hr]
  exact (Volume_oremove ss s _ x u (RState.firm.kept HS.out (Kept.below hu))).mono (fun e w' h => h.st)
 rw [hr]
 clear hr
 clear hs
 obtain ⟨U0, hU0⟩ : ∃ U0, U0 = ((w.alloc (.cells ss.toArray 61)).alloc (.cells #[Z, Z, Z, Z, Z, Z] 61)) := ⟨_, rfl⟩
 have HH0 : Hid (Held w [(w.heap.size, ss)] [(w.heap.size + 1, 6)] U0) := by rw [Hid, hU0]; exact ((Held.start w).push rfl ss 61).room (by simp) #[Z, Z, Z, Z, Z, Z] 61
 have HU : Hid (U0.heap.size = w.heap.size + 1 + 1) := by rw [Hid, hU0]; simp
 go_enter func22, ntmps22
 go_wp2_with fail
 rw [← hU0]
 clear hU0
 refine (kindOf_Volume _).mono ?_
 rintro e u2 ⟨rfl, hb2⟩
 have HH2 : Hid (Held w [(w.heap.size, ss)] [(w.heap.size + 1, 6)] u2) := HH0.out.on hb2
 have HU2 : Hid (w.heap.size + 1 < u2.heap.size) := by have := hb2.size; rw [HU.out] at this; rw [Hid]; omega
 clear HH0 HU hb2
 have HRS : Hid (u2.rangeAt (w.heap.size) 0 ss) := HH2.out.get 0 rfl
 go_wp2_with (first | (refine BigFrame.wpList_want rfl (fun _ hKK => wp_load_mid 61 _ rfl (w.heap.size) 0 rfl ss _ HRS.out underlying61 rfl his (hKK _ _ ?_))) | fail)
 clear HRS
 refine (HP.out _ HH2.out.below).mono ?_
 rintro e u3 ⟨gs, rfl, hst, hb3⟩
 have HH3 : Hid (Held w [(w.heap.size, ss)] [(w.heap.size + 1, 6)] u3) := HH2.out.on hb3
 have HT : Hid (u3.there (w.heap.size + 1) 0 6) := HH3.out.there 0 rfl
 have hgl := hst.len
 have hgo := all_oneCell_toArray hst.one
 have hig : (prog.info? 61).map (·.size) = some gs.toArray.size := by simpa [hgl] using infoSta
 have higl : (prog.info? 61).map (·.size) = some gs.length := by rw [hgl]; exact infoSta
 have HT' : Hid (u3.there (w.heap.size + 1) 0 gs.toArray.size) := by simpa [Hid, hgl] using HT.out
 have HT'' : Hid (u3.there (w.heap.size + 1) 0 gs.length) := by rw [Hid, hgl]; exact HT.out
 obtain ⟨u4, hu4⟩ : ∃ u4, u4 = u3.setCells (w.heap.size + 1) 0 gs := ⟨_, rfl⟩
 have HST : Hid (StV (Lo A w) w u4 gs r.1) := by rw [Hid, hu4]; exact hst.wrote HH2.out.below (by omega) HU2.out
 have HRG : Hid (u4.rangeAt (w.heap.size + 1) 0 gs) := by rw [Hid, hu4]; exact World.rangeAt_setCells_same _ _ _ _ HT''.out
 have HU4 : Hid (u4 = u3.setCells (w.heap.size + 1) 0 gs) := hu4
 clear hu4 hst HH2 HH3 HP HT HT'' hb3
 go_wp2_with (first | (refine wpList_store_mid rfl 61 _ _ rfl (w.heap.size + 1) 0 gs.toArray rfl rfl HT'.out hig hgo ?_; refine wpl_at HU4.out ?_) | fail)
 refine bodyPost_ret (v := .tuple #[.agg gs.toArray, .bool r.2]) (res_cell2 (p := 6) (q := 7) (ty := 61) rfl _ _ (w.heap.size + 1) gs _ _ rfl rfl HRG.out underlying61 rfl higl) rfl (HST.out.tup2 (r := r) HST.out.below)
theorem Remove_Claim (ss : List Value) (s : ByteArray) (A : Where) (x : StateD) (w : World) (hs : RState A w ss x) : Calls prog 22 #[.agg ss.toArray, .int .i64 4, .string s] w fun e w' => StTup2 A w (remSClaim x s) e w' := by
 have his : (prog.info? 61).map (·.size) = some ss.length := by rw [RState.firm.len hs]; exact infoSta
 have HS : Hid (RState (Lo A w) w ss x) := RState.firm.weak hs (fun b hb h => ⟨h, hb⟩)
 obtain ⟨r, hr⟩ : ∃ r, remSClaim x s = r := ⟨_, rfl⟩
 have HP : Hid (∀ u, Below w.heap.size w u → Calls prog 258 #[.agg #[.iface 147 (.agg #[])], .agg ss.toArray, .string s] u fun e w' => ∃ gs, e = .returned (.tuple #[.agg gs.toArray, .bool r.2]) ∧ StV (Lo (Lo A w) u) u w' gs r.1 ∧ Below u.heap.size u w') := fun u hu => by
  rw [← hr]
  exact (Claim_oremove ss s _ x u (RState.firm.kept HS.out (Kept.below hu))).mono (fun e w' h => h.st)
 rw [hr]
 clear hr
 clear hs
 obtain ⟨U0, hU0⟩ : ∃ U0, U0 = ((w.alloc (.cells ss.toArray 61)).alloc (.cells #[Z, Z, Z, Z, Z, Z] 61)) := ⟨_, rfl⟩
 have HH0 : Hid (Held w [(w.heap.size, ss)] [(w.heap.size + 1, 6)] U0) := by rw [Hid, hU0]; exact ((Held.start w).push rfl ss 61).room (by simp) #[Z, Z, Z, Z, Z, Z] 61
 have HU : Hid (U0.heap.size = w.heap.size + 1 + 1) := by rw [Hid, hU0]; simp
 go_enter func22, ntmps22
 go_wp2_with fail
 rw [← hU0]
 clear hU0
 refine (kindOf_Claim _).mono ?_
 rintro e u2 ⟨rfl, hb2⟩
 have HH2 : Hid (Held w [(w.heap.size, ss)] [(w.heap.size + 1, 6)] u2) := HH0.out.on hb2
 have HU2 : Hid (w.heap.size + 1 < u2.heap.size) := by have := hb2.size; rw [HU.out] at this; rw [Hid]; omega
 clear HH0 HU hb2
 have HRS : Hid (u2.rangeAt (w.heap.size) 0 ss) := HH2.out.get 0 rfl
 go_wp2_with (first | (refine BigFrame.wpList_want rfl (fun _ hKK => wp_load_mid 61 _ rfl (w.heap.size) 0 rfl ss _ HRS.out underlying61 rfl his (hKK _ _ ?_))) | fail)
 clear HRS
 refine (HP.out _ HH2.out.below).mono ?_
 rintro e u3 ⟨gs, rfl, hst, hb3⟩
 have HH3 : Hid (Held w [(w.heap.size, ss)] [(w.heap.size + 1, 6)] u3) := HH2.out.on hb3
 have HT : Hid (u3.there (w.heap.size + 1) 0 6) := HH3.out.there 0 rfl
 have hgl := hst.len
 have hgo := all_oneCell_toArray hst.one
 have hig : (prog.info? 61).map (·.size) = some gs.toArray.size := by simpa [hgl] using infoSta
 have higl : (prog.info? 61).map (·.size) = some gs.length := by rw [hgl]; exact infoSta
 have HT' : Hid (u3.there (w.heap.size + 1) 0 gs.toArray.size) := by simpa [Hid, hgl] using HT.out
 have HT'' : Hid (u3.there (w.heap.size + 1) 0 gs.length) := by rw [Hid, hgl]; exact HT.out
 obtain ⟨u4, hu4⟩ : ∃ u4, u4 = u3.setCells (w.heap.size + 1) 0 gs := ⟨_, rfl⟩
 have HST : Hid (StV (Lo A w) w u4 gs r.1) := by rw [Hid, hu4]; exact hst.wrote HH2.out.below (by omega) HU2.out
 have HRG : Hid (u4.rangeAt (w.heap.size + 1) 0 gs) := by rw [Hid, hu4]; exact World.rangeAt_setCells_same _ _ _ _ HT''.out
 have HU4 : Hid (u4 = u3.setCells (w.heap.size + 1) 0 gs) := hu4
 clear hu4 hst HH2 HH3 HP HT HT'' hb3
 go_wp2_with (first | (refine wpList_store_mid rfl 61 _ _ rfl (w.heap.size + 1) 0 gs.toArray rfl rfl HT'.out hig hgo ?_; refine wpl_at HU4.out ?_) | fail)
 refine bodyPost_ret (v := .tuple #[.agg gs.toArray, .bool r.2]) (res_cell2 (p := 6) (q := 7) (ty := 61) rfl _ _ (w.heap.size + 1) gs _ _ rfl rfl HRG.out underlying61 rfl higl) rfl (HST.out.tup2 (r := r) HST.out.below)
theorem Remove_Class (ss : List Value) (s : ByteArray) (A : Where) (x : StateD) (w : World) (hs : RState A w ss x) : Calls prog 22 #[.agg ss.toArray, .int .i64 5, .string s] w fun e w' => StTup2 A w (remSClass x s) e w' := by
 have his : (prog.info? 61).map (·.size) = some ss.length := by rw [RState.firm.len hs]; exact infoSta
 have HS : Hid (RState (Lo A w) w ss x) := RState.firm.weak hs (fun b hb h => ⟨h, hb⟩)
 obtain ⟨r, hr⟩ : ∃ r, remSClass x s = r := ⟨_, rfl⟩
 have HP : Hid (∀ u, Below w.heap.size w u → Calls prog 289 #[.agg #[.iface 152 (.agg #[])], .agg ss.toArray, .string s] u fun e w' => ∃ gs, e = .returned (.tuple #[.agg gs.toArray, .bool r.2]) ∧ StV (Lo (Lo A w) u) u w' gs r.1 ∧ Below u.heap.size u w') := fun u hu => by
  rw [← hr]
  exact (Class_oremove ss s _ x u (RState.firm.kept HS.out (Kept.below hu))).mono (fun e w' h => h.st)
 rw [hr]
 clear hr
 clear hs
 obtain ⟨U0, hU0⟩ : ∃ U0, U0 = ((w.alloc (.cells ss.toArray 61)).alloc (.cells #[Z, Z, Z, Z, Z, Z] 61)) := ⟨_, rfl⟩
 have HH0 : Hid (Held w [(w.heap.size, ss)] [(w.heap.size + 1, 6)] U0) := by rw [Hid, hU0]; exact ((Held.start w).push rfl ss 61).room (by simp) #[Z, Z, Z, Z, Z, Z] 61
 have HU : Hid (U0.heap.size = w.heap.size + 1 + 1) := by rw [Hid, hU0]; simp
 go_enter func22, ntmps22
 go_wp2_with fail
 rw [← hU0]
 clear hU0
 refine (kindOf_Class _).mono ?_
 rintro e u2 ⟨rfl, hb2⟩
 have HH2 : Hid (Held w [(w.heap.size, ss)] [(w.heap.size + 1, 6)] u2) := HH0.out.on hb2
 have HU2 : Hid (w.heap.size + 1 < u2.heap.size) := by have := hb2.size; rw [HU.out] at this; rw [Hid]; omega
 clear HH0 HU hb2
 have HRS : Hid (u2.rangeAt (w.heap.size) 0 ss) := HH2.out.get 0 rfl
 go_wp2_with (first | (refine BigFrame.wpList_want rfl (fun _ hKK => wp_load_mid 61 _ rfl (w.heap.size) 0 rfl ss _ HRS.out underlying61 rfl his (hKK _ _ ?_))) | fail)
 clear HRS
 refine (HP.out _ HH2.out.below).mono ?_
 rintro e u3 ⟨gs, rfl, hst, hb3⟩
 have HH3 : Hid (Held w [(w.heap.size, ss)] [(w.heap.size + 1, 6)] u3) := HH2.out.on hb3
 have HT : Hid (u3.there (w.heap.size + 1) 0 6) := HH3.out.there 0 rfl
 have hgl := hst.len
 have hgo := all_oneCell_toArray hst.one
 have hig : (prog.info? 61).map (·.size) = some gs.toArray.size := by simpa [hgl] using infoSta
 have higl : (prog.info? 61).map (·.size) = some gs.length := by rw [hgl]; exact infoSta
 have HT' : Hid (u3.there (w.heap.size + 1) 0 gs.toArray.size) := by simpa [Hid, hgl] using HT.out
 have HT'' : Hid (u3.there (w.heap.size + 1) 0 gs.length) := by rw [Hid, hgl]; exact HT.out
 obtain ⟨u4, hu4⟩ : ∃ u4, u4 = u3.setCells (w.heap.size + 1) 0 gs := ⟨_, rfl⟩
 have HST : Hid (StV (Lo A w) w u4 gs r.1) := by rw [Hid, hu4]; exact hst.wrote HH2.out.below (by omega) HU2.out
 have HRG : Hid (u4.rangeAt (w.heap.size + 1) 0 gs) := by rw [Hid, hu4]; exact World.rangeAt_setCells_same _ _ _ _ HT''.out
 have HU4 : Hid (u4 = u3.setCells (w.heap.size + 1) 0 gs) := hu4
 clear hu4 hst HH2 HH3 HP HT HT'' hb3
 go_wp2_with (first | (refine wpList_store_mid rfl 61 _ _ rfl (w.heap.size + 1) 0 gs.toArray rfl rfl HT'.out hig hgo ?_; refine wpl_at HU4.out ?_) | fail)
 refine bodyPost_ret (v := .tuple #[.agg gs.toArray, .bool r.2]) (res_cell2 (p := 6) (q := 7) (ty := 61) rfl _ _ (w.heap.size + 1) gs _ _ rfl rfl HRG.out underlying61 rfl higl) rfl (HST.out.tup2 (r := r) HST.out.below)
theorem Remove_Budget (ss : List Value) (s : ByteArray) (A : Where) (x : StateD) (w : World) (hs : RState A w ss x) : Calls prog 22 #[.agg ss.toArray, .int .i64 6, .string s] w fun e w' => StTup2 A w (remSBudget x s) e w' := by
 have his : (prog.info? 61).map (·.size) = some ss.length := by rw [RState.firm.len hs]; exact infoSta
 have HS : Hid (RState (Lo A w) w ss x) := RState.firm.weak hs (fun b hb h => ⟨h, hb⟩)
 obtain ⟨r, hr⟩ : ∃ r, remSBudget x s = r := ⟨_, rfl⟩
 have HP : Hid (∀ u, Below w.heap.size w u → Calls prog 320 #[.agg #[.iface 157 (.agg #[])], .agg ss.toArray, .string s] u fun e w' => ∃ gs, e = .returned (.tuple #[.agg gs.toArray, .bool r.2]) ∧ StV (Lo (Lo A w) u) u w' gs r.1 ∧ Below u.heap.size u w') := fun u hu => by
  rw [← hr]
  exact (Budget_oremove ss s _ x u (RState.firm.kept HS.out (Kept.below hu))).mono (fun e w' h => h.st)
 rw [hr]
 clear hr
 clear hs
 obtain ⟨U0, hU0⟩ : ∃ U0, U0 = ((w.alloc (.cells ss.toArray 61)).alloc (.cells #[Z, Z, Z, Z, Z, Z] 61)) := ⟨_, rfl⟩
 have HH0 : Hid (Held w [(w.heap.size, ss)] [(w.heap.size + 1, 6)] U0) := by rw [Hid, hU0]; exact ((Held.start w).push rfl ss 61).room (by simp) #[Z, Z, Z, Z, Z, Z] 61
 have HU : Hid (U0.heap.size = w.heap.size + 1 + 1) := by rw [Hid, hU0]; simp
 go_enter func22, ntmps22
 go_wp2_with fail
 rw [← hU0]
 clear hU0
 refine (kindOf_Budget _).mono ?_
 rintro e u2 ⟨rfl, hb2⟩
 have HH2 : Hid (Held w [(w.heap.size, ss)] [(w.heap.size + 1, 6)] u2) := HH0.out.on hb2
 have HU2 : Hid (w.heap.size + 1 < u2.heap.size) := by have := hb2.size; rw [HU.out] at this; rw [Hid]; omega
 clear HH0 HU hb2
 have HRS : Hid (u2.rangeAt (w.heap.size) 0 ss) := HH2.out.get 0 rfl
 go_wp2_with (first | (refine BigFrame.wpList_want rfl (fun _ hKK => wp_load_mid 61 _ rfl (w.heap.size) 0 rfl ss _ HRS.out underlying61 rfl his (hKK _ _ ?_))) | fail)
 clear HRS
 refine (HP.out _ HH2.out.below).mono ?_
 rintro e u3 ⟨gs, rfl, hst, hb3⟩
 have HH3 : Hid (Held w [(w.heap.size, ss)] [(w.heap.size + 1, 6)] u3) := HH2.out.on hb3
 have HT : Hid (u3.there (w.heap.size + 1) 0 6) := HH3.out.there 0 rfl
 have hgl := hst.len
 have hgo := all_oneCell_toArray hst.one
 have hig : (prog.info? 61).map (·.size) = some gs.toArray.size := by simpa [hgl] using infoSta
 have higl : (prog.info? 61).map (·.size) = some gs.length := by rw [hgl]; exact infoSta
 have HT' : Hid (u3.there (w.heap.size + 1) 0 gs.toArray.size) := by simpa [Hid, hgl] using HT.out
 have HT'' : Hid (u3.there (w.heap.size + 1) 0 gs.length) := by rw [Hid, hgl]; exact HT.out
 obtain ⟨u4, hu4⟩ : ∃ u4, u4 = u3.setCells (w.heap.size + 1) 0 gs := ⟨_, rfl⟩
 have HST : Hid (StV (Lo A w) w u4 gs r.1) := by rw [Hid, hu4]; exact hst.wrote HH2.out.below (by omega) HU2.out
 have HRG : Hid (u4.rangeAt (w.heap.size + 1) 0 gs) := by rw [Hid, hu4]; exact World.rangeAt_setCells_same _ _ _ _ HT''.out
 have HU4 : Hid (u4 = u3.setCells (w.heap.size + 1) 0 gs) := hu4
 clear hu4 hst HH2 HH3 HP HT HT'' hb3
 go_wp2_with (first | (refine wpList_store_mid rfl 61 _ _ rfl (w.heap.size + 1) 0 gs.toArray rfl rfl HT'.out hig hgo ?_; refine wpl_at HU4.out ?_) | fail)
 refine bodyPost_ret (v := .tuple #[.agg gs.toArray, .bool r.2]) (res_cell2 (p := 6) (q := 7) (ty := 61) rfl _ _ (w.heap.size + 1) gs _ _ rfl rfl HRG.out underlying61 rfl higl) rfl (HST.out.tup2 (r := r) HST.out.below)
theorem Remove_no (n : Int) (hk : ¬ (1 ≤ n ∧ n ≤ 6)) (ss : List Value) (s : ByteArray) (A : Where) (x : StateD) (w : World) (hs : RState A w ss x) : Calls prog 22 #[.agg ss.toArray, .int .i64 n, .string s] w fun e w' => StTup2 A w ((x, false)) e w' := by
 have his : (prog.info? 61).map (·.size) = some ss.length := by rw [RState.firm.len hs]; exact infoSta
 have HS : Hid (RState (Lo A w) w ss x) := RState.firm.weak hs (fun b hb h => ⟨h, hb⟩)
 have HP : Hid (∀ u, Below w.heap.size w u → Calls prog 49 #[.agg ss.toArray] u fun e w' => ∃ gs, e = .returned (.agg gs.toArray) ∧ StV (Lo (Lo A w) u) u w' gs x ∧ Below u.heap.size u w') := fun u hu => own_state (RState.firm.kept HS.out (Kept.below hu))
 clear hs
 obtain ⟨U0, hU0⟩ : ∃ U0, U0 = ((w.alloc (.cells ss.toArray 61)).alloc (.cells #[Z, Z, Z, Z, Z, Z] 61)) := ⟨_, rfl⟩
 have HH0 : Hid (Held w [(w.heap.size, ss)] [(w.heap.size + 1, 6)] U0) := by rw [Hid, hU0]; exact ((Held.start w).push rfl ss 61).room (by simp) #[Z, Z, Z, Z, Z, Z] 61
 have HU : Hid (U0.heap.size = w.heap.size + 1 + 1) := by rw [Hid, hU0]; simp
 go_enter func22, ntmps22
 go_wp2_with fail
 rw [← hU0]
 clear hU0
 refine (kindOf_no n _ hk).mono ?_
 rintro e u2 ⟨rfl, hb2⟩
 have HH2 : Hid (Held w [(w.heap.size, ss)] [(w.heap.size + 1, 6)] u2) := HH0.out.on hb2
 have HU2 : Hid (w.heap.size + 1 < u2.heap.size) := by have := hb2.size; rw [HU.out] at this; rw [Hid]; omega
 clear HH0 HU hb2
 have HRS : Hid (u2.rangeAt (w.heap.size) 0 ss) := HH2.out.get 0 rfl
 go_wp2_with (first | (refine BigFrame.wpList_want rfl (fun _ hKK => wp_load_mid 61 _ rfl (w.heap.size) 0 rfl ss _ HRS.out underlying61 rfl his (hKK _ _ ?_))) | fail)
 clear HRS
 refine (HP.out _ HH2.out.below).mono ?_
 rintro e u3 ⟨gs, rfl, hst, hb3⟩
 have HH3 : Hid (Held w [(w.heap.size, ss)] [(w.heap.size + 1, 6)] u3) := HH2.out.on hb3
 have HT : Hid (u3.there (w.heap.size + 1) 0 6) := HH3.out.there 0 rfl
 have hgl := hst.len
 have hgo := all_oneCell_toArray hst.one
 have hig : (prog.info? 61).map (·.size) = some gs.toArray.size := by simpa [hgl] using infoSta
 have higl : (prog.info? 61).map (·.size) = some gs.length := by rw [hgl]; exact infoSta
 have HT' : Hid (u3.there (w.heap.size + 1) 0 gs.toArray.size) := by simpa [Hid, hgl] using HT.out
 have HT'' : Hid (u3.there (w.heap.size + 1) 0 gs.length) := by rw [Hid, hgl]; exact HT.out
 obtain ⟨u4, hu4⟩ : ∃ u4, u4 = u3.setCells (w.heap.size + 1) 0 gs := ⟨_, rfl⟩
 have HST : Hid (StV (Lo A w) w u4 gs x) := by rw [Hid, hu4]; exact hst.wrote HH2.out.below (by omega) HU2.out
 have HRG : Hid (u4.rangeAt (w.heap.size + 1) 0 gs) := by rw [Hid, hu4]; exact World.rangeAt_setCells_same _ _ _ _ HT''.out
 have HU4 : Hid (u4 = u3.setCells (w.heap.size + 1) 0 gs) := hu4
 clear hu4 hst HH2 HH3 HP HT HT'' hb3
 go_wp2_with (first | (refine wpList_store_mid rfl 61 _ _ rfl (w.heap.size + 1) 0 gs.toArray rfl rfl HT'.out hig hgo ?_; refine wpl_at HU4.out ?_) | fail)
 refine bodyPost_ret (v := .tuple #[.agg gs.toArray, .bool false]) (res_cell2 (p := 6) (q := 7) (ty := 61) rfl _ _ (w.heap.size + 1) gs _ _ rfl rfl HRG.out underlying61 rfl higl) rfl (HST.out.tup2 (r := (x, false)) HST.out.below)
def remO (x : StateD) (n : Int) (s : ByteArray) : StateD × Bool := if n = 1 then remSPod x s else if n = 2 then remSNode x s else if n = 3 then remSVolume x s else if n = 4 then remSClaim x s else if n = 5 then remSClass x s else if n = 6 then remSBudget x s else (x, false)
theorem Remove_calls (ss : List Value) (n : Int) (s : ByteArray) (A : Where) (x : StateD) (w : World) (hs : RState A w ss x) : Calls prog 22 #[.agg ss.toArray, .int .i64 n, .string s] w fun e w' => StTup2 A w (remO x n s) e w' := by
 by_cases hk : 1 ≤ n ∧ n ≤ 6
 ·
  have hc : n = 1 ∨ n = 2 ∨ n = 3 ∨ n = 4 ∨ n = 5 ∨ n = 6 := by omega
  rcases hc with rfl | rfl | rfl | rfl | rfl | rfl
  ·
   exact Remove_Pod ss s A x w hs
  ·
   exact Remove_Node ss s A x w hs
  ·
   exact Remove_Volume ss s A x w hs
  ·
   exact Remove_Claim ss s A x w hs
  ·
   exact Remove_Class ss s A x w hs
  ·
   exact Remove_Budget ss s A x w hs
 ·
  have := Remove_no n hk ss s A x w hs
  rwa [show (x, false) = remO x n s by rw [remO, if_neg (by omega), if_neg (by omega), if_neg (by omega), if_neg (by omega), if_neg (by omega), if_neg (by omega)]] at this
end Go.Proofs.YtopimokncibdgaaGreat

