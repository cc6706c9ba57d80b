/- object.Put, and its like. No condition beyond what each says. -/
import Derived.Test.YtikncmcceeacmaaGreatQ24
namespace Go.Proofs.YtikncmcceeacmaaGreat
set_option maxHeartbeats 16000000
set_option maxRecDepth 100000
open Tryz Go.RowKit
set_option linter.unusedSimpArgs false
theorem kindOf_in (n : Int) (w : World) (h : 1 ≤ n ∧ n ≤ 6) : Calls prog 33 #[.int .i64 n] w fun e w' => ∃ v, e = .returned (.tuple #[v, .bool true]) ∧ Below w.heap.size w w' := by
 have hc : n = 1 ∨ n = 2 ∨ n = 3 ∨ n = 4 ∨ n = 5 ∨ n = 6 := by omega
 rcases hc with rfl | rfl | rfl | rfl | rfl | rfl
 ·
  exact (kindOf_Pod w).mono fun e w' h => ⟨_, h⟩
 ·
  exact (kindOf_Node w).mono fun e w' h => ⟨_, h⟩
 ·
  exact (kindOf_Volume w).mono fun e w' h => ⟨_, h⟩
 ·
  exact (kindOf_Claim w).mono fun e w' h => ⟨_, h⟩
 ·
  exact (kindOf_Class w).mono fun e w' h => ⟨_, h⟩
 ·
  exact (kindOf_Budget w).mono fun e w' h => ⟨_, h⟩
theorem Put_Pod (ss cs : List Value) (A : Where) (x : StateD) (o : ObjectD) (w : World) (hs : RState A w ss x) (ho : RObject A w cs o) (hk : o.1 = 1) (hc : checkO o = 0) : Calls prog 19 #[.agg ss.toArray, .agg cs.toArray] w fun e w' => StTup A w (putSPod x o.2.1) e w' := by
 have his : (prog.info? 61).map (·.size) = some ss.length := by rw [RState.firm.len hs]; exact infoSta
 have hi : (prog.info? 46).map (·.size) = some cs.length := by rw [RObject.firm.len ho]; exact infoObj
 have HS : Hid (RState (Lo A w) w ss x) := RState.firm.weak hs (fun b hb h => ⟨h, hb⟩)
 have HO : Hid (RObject (Lo A w) w cs o) := RObject.firm.weak ho (fun b hb h => ⟨h, hb⟩)
 have H0 : Hid (cs[0]? = some (.int .i64 1)) := by rw [Hid, obj0 ho, hk]
 have HC : Hid (∀ u, Below w.heap.size w u → Calls prog 9 #[.agg cs.toArray] u fun e w' => e = .returned (.int .i64 0) ∧ Below u.heap.size u w') := fun u hu => by
  have := Check_calls cs _ o u (RObject.firm.kept HO.out (Kept.below hu))
  rwa [hc] at this
 obtain ⟨r, hr⟩ : ∃ r, putSPod x o.2.1 = r := ⟨_, rfl⟩
 have HP : Hid (∀ u, Below w.heap.size w u → Calls prog 157 #[.agg #[.iface 132 (.agg #[])], .agg ss.toArray, .agg cs.toArray] u fun e w' => ∃ gs, e = .returned (.tuple #[.agg gs.toArray, .bool r.2.1, .int .i64 r.2.2]) ∧ StV (Lo (Lo A w) u) u w' gs r.1 ∧ Below u.heap.size u w') := fun u hu => by
  rw [← hr]
  exact (Pod_oput ss cs _ x o u (RState.firm.kept HS.out (Kept.below hu)) (RObject.firm.kept HO.out (Kept.below hu))).mono (fun e w' h => h.st)
 rw [hr]
 clear hr hk hc
 clear hs ho
 obtain ⟨U0, hU0⟩ : ∃ U0, U0 = (((w.alloc (.cells ss.toArray 61)).alloc (.cells cs.toArray 46)).alloc (.cells #[Z, Z, Z, Z, Z, Z] 61)) := ⟨_, rfl⟩
 have HH0 : Hid (Held w [(w.heap.size + 1, cs), (w.heap.size, ss)] [(w.heap.size + 1 + 1, 6)] U0) := by rw [Hid, hU0]; exact (((Held.start w).push rfl ss 61).push (by simp) cs 46).room (by simp) #[Z, Z, Z, Z, Z, Z] 61
 have HU : Hid (U0.heap.size = w.heap.size + 1 + 1 + 1) := by rw [Hid, hU0]; simp
 have HR0 : Hid ((((w.alloc (.cells ss.toArray 61)).alloc (.cells cs.toArray 46)).alloc (.cells #[Z, Z, Z, Z, Z, Z] 61)).rangeAt (w.heap.size + 1) 0 cs) := by have := HH0.out.get 0 (b := w.heap.size + 1) rfl; rw [hU0] at this; exact this
 go_enter func19, ntmps19
 go_wp2_with (first | (refine BigFrame.wpList_want rfl (fun _ hKK => wp_load_mid 46 _ rfl (w.heap.size + 1) 0 rfl cs _ HR0.out underlying46 rfl hi (hKK _ _ ?_))) | fail)
 rw [← hU0]
 clear hU0 HR0
 refine (HC.out _ HH0.out.below).mono ?_
 rintro e u1 ⟨rfl, hb1⟩
 have HH1 : Hid (Held w [(w.heap.size + 1, cs), (w.heap.size, ss)] [(w.heap.size + 1 + 1, 6)] u1) := HH0.out.on hb1
 have HU1 : Hid (w.heap.size + 1 + 1 < u1.heap.size) := by have := hb1.size; rw [HU.out] at this; rw [Hid]; omega
 have hz := HH1.out.cell 0 (b := w.heap.size + 1) rfl 0 H0.out
 have hzl := HH1.out.lt 0 (b := w.heap.size + 1) rfl
 clear HH0 hb1 HC HU
 go_wp2_with fail
 clear hz hzl
 refine (kindOf_Pod _).mono ?_
 rintro e u2 ⟨rfl, hb2⟩
 have HH2 : Hid (Held w [(w.heap.size + 1, cs), (w.heap.size, ss)] [(w.heap.size + 1 + 1, 6)] u2) := HH1.out.on hb2
 have HU2 : Hid (w.heap.size + 1 + 1 < u2.heap.size) := Nat.lt_of_lt_of_le HU1.out hb2.size
 clear HH1 HU1 hb2
 have HRS : Hid (u2.rangeAt (w.heap.size) 0 ss) := HH2.out.get 1 rfl
 have HRO : Hid (u2.rangeAt (w.heap.size + 1) 0 cs) := HH2.out.get 0 rfl
 go_wp2_with (first | (refine BigFrame.wpList_want rfl (fun _ hKK => wp_load_mid 61 _ rfl (w.heap.size) 0 rfl ss _ HRS.out underlying61 rfl his (hKK _ _ ?_))) | (refine BigFrame.wpList_want rfl (fun _ hKK => wp_load_mid 46 _ rfl (w.heap.size + 1) 0 rfl cs _ HRO.out underlying46 rfl hi (hKK _ _ ?_))) | fail)
 clear HRS HRO
 refine (HP.out _ HH2.out.below).mono ?_
 rintro e u3 ⟨gs, rfl, hst, hb3⟩
 have HH3 : Hid (Held w [(w.heap.size + 1, cs), (w.heap.size, ss)] [(w.heap.size + 1 + 1, 6)] u3) := HH2.out.on hb3
 have HT : Hid (u3.there (w.heap.size + 1 + 1) 0 6) := HH3.out.there 0 rfl
 have hgl := hst.len
 have hgo := all_oneCell_toArray hst.one
 have hig : (prog.info? 61).map (·.size) = some gs.toArray.size := by simpa [hgl] using infoSta
 have higl : (prog.info? 61).map (·.size) = some gs.length := by rw [hgl]; exact infoSta
 have HT' : Hid (u3.there (w.heap.size + 1 + 1) 0 gs.toArray.size) := by simpa [Hid, hgl] using HT.out
 have HT'' : Hid (u3.there (w.heap.size + 1 + 1) 0 gs.length) := by rw [Hid, hgl]; exact HT.out
 obtain ⟨u4, hu4⟩ : ∃ u4, u4 = u3.setCells (w.heap.size + 1 + 1) 0 gs := ⟨_, rfl⟩
 have HST : Hid (StV (Lo A w) w u4 gs r.1) := by rw [Hid, hu4]; exact hst.wrote HH2.out.below (by omega) HU2.out
 have HRG : Hid (u4.rangeAt (w.heap.size + 1 + 1) 0 gs) := by rw [Hid, hu4]; exact World.rangeAt_setCells_same _ _ _ _ HT''.out
 have HU4 : Hid (u4 = u3.setCells (w.heap.size + 1 + 1) 0 gs) := hu4
 clear hu4 hst HH2 HH3 HP HT HT'' hb3
 go_wp2_with (first | (refine wpList_store_mid rfl 61 _ _ rfl (w.heap.size + 1 + 1) 0 gs.toArray rfl rfl HT'.out hig hgo ?_; refine wpl_at HU4.out ?_) | fail)
 refine bodyPost_ret (v := .tuple #[.agg gs.toArray, .bool r.2.1, .int .i64 r.2.2]) (res_cell3 (p := 4) (q := 5) (r := 6) (ty := 61) rfl _ _ (w.heap.size + 1 + 1) gs _ _ _ rfl rfl rfl HRG.out underlying61 rfl higl) rfl (HST.out.tup HST.out.below)
theorem Put_Node (ss cs : List Value) (A : Where) (x : StateD) (o : ObjectD) (w : World) (hs : RState A w ss x) (ho : RObject A w cs o) (hk : o.1 = 2) (hc : checkO o = 0) : Calls prog 19 #[.agg ss.toArray, .agg cs.toArray] w fun e w' => StTup A w (putSNode x o.2.2.1) e w' := by
 have his : (prog.info? 61).map (·.size) = some ss.length := by rw [RState.firm.len hs]; exact infoSta
 have hi : (prog.info? 46).map (·.size) = some cs.length := by rw [RObject.firm.len ho]; exact infoObj
 have HS : Hid (RState (Lo A w) w ss x) := RState.firm.weak hs (fun b hb h => ⟨h, hb⟩)
 have HO : Hid (RObject (Lo A w) w cs o) := RObject.firm.weak ho (fun b hb h => ⟨h, hb⟩)
 have H0 : Hid (cs[0]? = some (.int .i64 2)) := by rw [Hid, obj0 ho, hk]
 have HC : Hid (∀ u, Below w.heap.size w u → Calls prog 9 #[.agg cs.toArray] u fun e w' => e = .returned (.int .i64 0) ∧ Below u.heap.size u w') := fun u hu => by
  have := Check_calls cs _ o u (RObject.firm.kept HO.out (Kept.below hu))
  rwa [hc] at this
 obtain ⟨r, hr⟩ : ∃ r, putSNode x o.2.2.1 = r := ⟨_, rfl⟩
 have HP : Hid (∀ u, Below w.heap.size w u → Calls prog 194 #[.agg #[.iface 137 (.agg #[])], .agg ss.toArray, .agg cs.toArray] u fun e w' => ∃ gs, e = .returned (.tuple #[.agg gs.toArray, .bool r.2.1, .int .i64 r.2.2]) ∧ StV (Lo (Lo A w) u) u w' gs r.1 ∧ Below u.heap.size u w') := fun u hu => by
  rw [← hr]
  exact (Node_oput ss cs _ x o u (RState.firm.kept HS.out (Kept.below hu)) (RObject.firm.kept HO.out (Kept.below hu))).mono (fun e w' h => h.st)
 rw [hr]
 clear hr hk hc
 clear hs ho
 obtain ⟨U0, hU0⟩ : ∃ U0, U0 = (((w.alloc (.cells ss.toArray 61)).alloc (.cells cs.toArray 46)).alloc (.cells #[Z, Z, Z, Z, Z, Z] 61)) := ⟨_, rfl⟩
 have HH0 : Hid (Held w [(w.heap.size + 1, cs), (w.heap.size, ss)] [(w.heap.size + 1 + 1, 6)] U0) := by rw [Hid, hU0]; exact (((Held.start w).push rfl ss 61).push (by simp) cs 46).room (by simp) #[Z, Z, Z, Z, Z, Z] 61
 have HU : Hid (U0.heap.size = w.heap.size + 1 + 1 + 1) := by rw [Hid, hU0]; simp
 have HR0 : Hid ((((w.alloc (.cells ss.toArray 61)).alloc (.cells cs.toArray 46)).alloc (.cells #[Z, Z, Z, Z, Z, Z] 61)).rangeAt (w.heap.size + 1) 0 cs) := by have := HH0.out.get 0 (b := w.heap.size + 1) rfl; rw [hU0] at this; exact this
 go_enter func19, ntmps19
 go_wp2_with (first | (refine BigFrame.wpList_want rfl (fun _ hKK => wp_load_mid 46 _ rfl (w.heap.size + 1) 0 rfl cs _ HR0.out underlying46 rfl hi (hKK _ _ ?_))) | fail)
 rw [← hU0]
 clear hU0 HR0
 refine (HC.out _ HH0.out.below).mono ?_
 rintro e u1 ⟨rfl, hb1⟩
 have HH1 : Hid (Held w [(w.heap.size + 1, cs), (w.heap.size, ss)] [(w.heap.size + 1 + 1, 6)] u1) := HH0.out.on hb1
 have HU1 : Hid (w.heap.size + 1 + 1 < u1.heap.size) := by have := hb1.size; rw [HU.out] at this; rw [Hid]; omega
 have hz := HH1.out.cell 0 (b := w.heap.size + 1) rfl 0 H0.out
 have hzl := HH1.out.lt 0 (b := w.heap.size + 1) rfl
 clear HH0 hb1 HC HU
 go_wp2_with fail
 clear hz hzl
 refine (kindOf_Node _).mono ?_
 rintro e u2 ⟨rfl, hb2⟩
 have HH2 : Hid (Held w [(w.heap.size + 1, cs), (w.heap.size, ss)] [(w.heap.size + 1 + 1, 6)] u2) := HH1.out.on hb2
 have HU2 : Hid (w.heap.size + 1 + 1 < u2.heap.size) := Nat.lt_of_lt_of_le HU1.out hb2.size
 clear HH1 HU1 hb2
 have HRS : Hid (u2.rangeAt (w.heap.size) 0 ss) := HH2.out.get 1 rfl
 have HRO : Hid (u2.rangeAt (w.heap.size + 1) 0 cs) := HH2.out.get 0 rfl
 go_wp2_with (first | (refine BigFrame.wpList_want rfl (fun _ hKK => wp_load_mid 61 _ rfl (w.heap.size) 0 rfl ss _ HRS.out underlying61 rfl his (hKK _ _ ?_))) | (refine BigFrame.wpList_want rfl (fun _ hKK => wp_load_mid 46 _ rfl (w.heap.size + 1) 0 rfl cs _ HRO.out underlying46 rfl hi (hKK _ _ ?_))) | fail)
 clear HRS HRO
 refine (HP.out _ HH2.out.below).mono ?_
 rintro e u3 ⟨gs, rfl, hst, hb3⟩
 have HH3 : Hid (Held w [(w.heap.size + 1, cs), (w.heap.size, ss)] [(w.heap.size + 1 + 1, 6)] u3) := HH2.out.on hb3
 have HT : Hid (u3.there (w.heap.size + 1 + 1) 0 6) := HH3.out.there 0 rfl
 have hgl := hst.len
 have hgo := all_oneCell_toArray hst.one
 have hig : (prog.info? 61).map (·.size) = some gs.toArray.size := by simpa [hgl] using infoSta
 have higl : (prog.info? 61).map (·.size) = some gs.length := by rw [hgl]; exact infoSta
 have HT' : Hid (u3.there (w.heap.size + 1 + 1) 0 gs.toArray.size) := by simpa [Hid, hgl] using HT.out
 have HT'' : Hid (u3.there (w.heap.size + 1 + 1) 0 gs.length) := by rw [Hid, hgl]; exact HT.out
 obtain ⟨u4, hu4⟩ : ∃ u4, u4 = u3.setCells (w.heap.size + 1 + 1) 0 gs := ⟨_, rfl⟩
 have HST : Hid (StV (Lo A w) w u4 gs r.1) := by rw [Hid, hu4]; exact hst.wrote HH2.out.below (by omega) HU2.out
 have HRG : Hid (u4.rangeAt (w.heap.size + 1 + 1) 0 gs) := by rw [Hid, hu4]; exact World.rangeAt_setCells_same _ _ _ _ HT''.out
 have HU4 : Hid (u4 = u3.setCells (w.heap.size + 1 + 1) 0 gs) := hu4
 clear hu4 hst HH2 HH3 HP HT HT'' hb3
 go_wp2_with (first | (refine wpList_store_mid rfl 61 _ _ rfl (w.heap.size + 1 + 1) 0 gs.toArray rfl rfl HT'.out hig hgo ?_; refine wpl_at HU4.out ?_) | fail)
 refine bodyPost_ret (v := .tuple #[.agg gs.toArray, .bool r.2.1, .int .i64 r.2.2]) (res_cell3 (p := 4) (q := 5) (r := 6) (ty := 61) rfl _ _ (w.heap.size + 1 + 1) gs _ _ _ rfl rfl rfl HRG.out underlying61 rfl higl) rfl (HST.out.tup HST.out.below)
theorem Put_Volume (ss cs : List Value) (A : Where) (x : StateD) (o : ObjectD) (w : World) (hs : RState A w ss x) (ho : RObject A w cs o) (hk : o.1 = 3) (hc : checkO o = 0) : Calls prog 19 #[.agg ss.toArray, .agg cs.toArray] w fun e w' => StTup A w (putSVolume x o.2.2.2.1) e w' := by
 have his : (prog.info? 61).map (·.size) = some ss.length := by rw [RState.firm.len hs]; exact infoSta
 have hi : (prog.info? 46).map (·.size) = some cs.length := by rw [RObject.firm.len ho]; exact infoObj
 have HS : Hid (RState (Lo A w) w ss x) := RState.firm.weak hs (fun b hb h => ⟨h, hb⟩)
 have HO : Hid (RObject (Lo A w) w cs o) := RObject.firm.weak ho (fun b hb h => ⟨h, hb⟩)
 have H0 : Hid (cs[0]? = some (.int .i64 3)) := by rw [Hid, obj0 ho, hk]
 have HC : Hid (∀ u, Below w.heap.size w u → Calls prog 9 #[.agg cs.toArray] u fun e w' => e = .returned (.int .i64 0) ∧ Below u.heap.size u w') := fun u hu => by
  have := Check_calls cs _ o u (RObject.firm.kept HO.out (Kept.below hu))
  rwa [hc] at this
 obtain ⟨r, hr⟩ : ∃ r, putSVolume x o.2.2.2.1 = r := ⟨_, rfl⟩
 have HP : Hid (∀ u, Below w.heap.size w u → Calls prog 225 #[.agg #[.iface 142 (.agg #[])], .agg ss.toArray, .agg cs.toArray] u fun e w' => ∃ gs, e = .returned (.tuple #[.agg gs.toArray, .bool r.2.1, .int .i64 r.2.2]) ∧ StV (Lo (Lo A w) u) u w' gs r.1 ∧ Below u.heap.size u w') := fun u hu => by
  rw [← hr]
  exact (Volume_oput ss cs _ x o u (RState.firm.kept HS.out (Kept.below hu)) (RObject.firm.kept HO.out (Kept.below hu))).mono (fun e w' h => h.st)
 rw [hr]
 clear hr hk hc
 clear hs ho
 obtain ⟨U0, hU0⟩ : ∃ U0, U0 = (((w.alloc (.cells ss.toArray 61)).alloc (.cells cs.toArray 46)).alloc (.cells #[Z, Z, Z, Z, Z, Z] 61)) := ⟨_, rfl⟩
 have HH0 : Hid (Held w [(w.heap.size + 1, cs), (w.heap.size, ss)] [(w.heap.size + 1 + 1, 6)] U0) := by rw [Hid, hU0]; exact (((Held.start w).push rfl ss 61).push (by simp) cs 46).room (by simp) #[Z, Z, Z, Z, Z, Z] 61
 have HU : Hid (U0.heap.size = w.heap.size + 1 + 1 + 1) := by rw [Hid, hU0]; simp
 have HR0 : Hid ((((w.alloc (.cells ss.toArray 61)).alloc (.cells cs.toArray 46)).alloc (.cells #[Z, Z, Z, Z, Z, Z] 61)).rangeAt (w.heap.size + 1) 0 cs) := by have := HH0.out.get 0 (b := w.heap.size + 1) rfl; rw [hU0] at this; exact this
 go_enter func19, ntmps19
 go_wp2_with (first | (refine BigFrame.wpList_want rfl (fun _ hKK => wp_load_mid 46 _ rfl (w.heap.size + 1) 0 rfl cs _ HR0.out underlying46 rfl hi (hKK _ _ ?_))) | fail)
 rw [← hU0]
 clear hU0 HR0
 refine (HC.out _ HH0.out.below).mono ?_
 rintro e u1 ⟨rfl, hb1⟩
 have HH1 : Hid (Held w [(w.heap.size + 1, cs), (w.heap.size, ss)] [(w.heap.size + 1 + 1, 6)] u1) := HH0.out.on hb1
 have HU1 : Hid (w.heap.size + 1 + 1 < u1.heap.size) := by have := hb1.size; rw [HU.out] at this; rw [Hid]; omega
 have hz := HH1.out.cell 0 (b := w.heap.size + 1) rfl 0 H0.out
 have hzl := HH1.out.lt 0 (b := w.heap.size + 1) rfl
 clear HH0 hb1 HC HU
 go_wp2_with fail
 clear hz hzl
 refine (kindOf_Volume _).mono ?_
 rintro e u2 ⟨rfl, hb2⟩
 have HH2 : Hid (Held w [(w.heap.size + 1, cs), (w.heap.size, ss)] [(w.heap.size + 1 + 1, 6)] u2) := HH1.out.on hb2
 have HU2 : Hid (w.heap.size + 1 + 1 < u2.heap.size) := Nat.lt_of_lt_of_le HU1.out hb2.size
 clear HH1 HU1 hb2
 have HRS : Hid (u2.rangeAt (w.heap.size) 0 ss) := HH2.out.get 1 rfl
 have HRO : Hid (u2.rangeAt (w.heap.size + 1) 0 cs) := HH2.out.get 0 rfl
 go_wp2_with (first | (refine BigFrame.wpList_want rfl (fun _ hKK => wp_load_mid 61 _ rfl (w.heap.size) 0 rfl ss _ HRS.out underlying61 rfl his (hKK _ _ ?_))) | (refine BigFrame.wpList_want rfl (fun _ hKK => wp_load_mid 46 _ rfl (w.heap.size + 1) 0 rfl cs _ HRO.out underlying46 rfl hi (hKK _ _ ?_))) | fail)
 clear HRS HRO
 refine (HP.out _ HH2.out.below).mono ?_
 rintro e u3 ⟨gs, rfl, hst, hb3⟩
 have HH3 : Hid (Held w [(w.heap.size + 1, cs), (w.heap.size, ss)] [(w.heap.size + 1 + 1, 6)] u3) := HH2.out.on hb3
 have HT : Hid (u3.there (w.heap.size + 1 + 1) 0 6) := HH3.out.there 0 rfl
 have hgl := hst.len
 have hgo := all_oneCell_toArray hst.one
 have hig : (prog.info? 61).map (·.size) = some gs.toArray.size := by simpa [hgl] using infoSta
 have higl : (prog.info? 61).map (·.size) = some gs.length := by rw [hgl]; exact infoSta
 have HT' : Hid (u3.there (w.heap.size + 1 + 1) 0 gs.toArray.size) := by simpa [Hid, hgl] using HT.out
 have HT'' : Hid (u3.there (w.heap.size + 1 + 1) 0 gs.length) := by rw [Hid, hgl]; exact HT.out
 obtain ⟨u4, hu4⟩ : ∃ u4, u4 = u3.setCells (w.heap.size + 1 + 1) 0 gs := ⟨_, rfl⟩
 have HST : Hid (StV (Lo A w) w u4 gs r.1) := by rw [Hid, hu4]; exact hst.wrote HH2.out.below (by omega) HU2.out
 have HRG : Hid (u4.rangeAt (w.heap.size + 1 + 1) 0 gs) := by rw [Hid, hu4]; exact World.rangeAt_setCells_same _ _ _ _ HT''.out
 have HU4 : Hid (u4 = u3.setCells (w.heap.size + 1 + 1) 0 gs) := hu4
 clear hu4 hst HH2 HH3 HP HT HT'' hb3
 go_wp2_with (first | (refine wpList_store_mid rfl 61 _ _ rfl (w.heap.size + 1 + 1) 0 gs.toArray rfl rfl HT'.out hig hgo ?_; refine wpl_at HU4.out ?_) | fail)
 refine bodyPost_ret (v := .tuple #[.agg gs.toArray, .bool r.2.1, .int .i64 r.2.2]) (res_cell3 (p := 4) (q := 5) (r := 6) (ty := 61) rfl _ _ (w.heap.size + 1 + 1) gs _ _ _ rfl rfl rfl HRG.out underlying61 rfl higl) rfl (HST.out.tup HST.out.below)
theorem Put_Claim (ss cs : List Value) (A : Where) (x : StateD) (o : ObjectD) (w : World) (hs : RState A w ss x) (ho : RObject A w cs o) (hk : o.1 = 4) (hc : checkO o = 0) : Calls prog 19 #[.agg ss.toArray, .agg cs.toArray] w fun e w' => StTup A w (putSClaim x o.2.2.2.2.1) e w' := by
 have his : (prog.info? 61).map (·.size) = some ss.length := by rw [RState.firm.len hs]; exact infoSta
 have hi : (prog.info? 46).map (·.size) = some cs.length := by rw [RObject.firm.len ho]; exact infoObj
 have HS : Hid (RState (Lo A w) w ss x) := RState.firm.weak hs (fun b hb h => ⟨h, hb⟩)
 have HO : Hid (RObject (Lo A w) w cs o) := RObject.firm.weak ho (fun b hb h => ⟨h, hb⟩)
 have H0 : Hid (cs[0]? = some (.int .i64 4)) := by rw [Hid, obj0 ho, hk]
 have HC : Hid (∀ u, Below w.heap.size w u → Calls prog 9 #[.agg cs.toArray] u fun e w' => e = .returned (.int .i64 0) ∧ Below u.heap.size u w') := fun u hu => by
  have := Check_calls cs _ o u (RObject.firm.kept HO.out (Kept.below hu))
  rwa [hc] at this
 obtain ⟨r, hr⟩ : ∃ r, putSClaim x o.2.2.2.2.1 = r := ⟨_, rfl⟩
 have HP : Hid (∀ u, Below w.heap.size w u → Calls prog 256 #[.agg #[.iface 147 (.agg #[])], .agg ss.toArray, .agg cs.toArray] u fun e w' => ∃ gs, e = .returned (.tuple #[.agg gs.toArray, .bool r.2.1, .int .i64 r.2.2]) ∧ StV (Lo (Lo A w) u) u w' gs r.1 ∧ Below u.heap.size u w') := fun u hu => by
  rw [← hr]
  exact (Claim_oput ss cs _ x o u (RState.firm.kept HS.out (Kept.below hu)) (RObject.firm.kept HO.out (Kept.below hu))).mono (fun e w' h => h.st)
 rw [hr]
 clear hr hk hc
 clear hs ho
 obtain ⟨U0, hU0⟩ : ∃ U0, U0 = (((w.alloc (.cells ss.toArray 61)).alloc (.cells cs.toArray 46)).alloc (.cells #[Z, Z, Z, Z, Z, Z] 61)) := ⟨_, rfl⟩
 have HH0 : Hid (Held w [(w.heap.size + 1, cs), (w.heap.size, ss)] [(w.heap.size + 1 + 1, 6)] U0) := by rw [Hid, hU0]; exact (((Held.start w).push rfl ss 61).push (by simp) cs 46).room (by simp) #[Z, Z, Z, Z, Z, Z] 61
 have HU : Hid (U0.heap.size = w.heap.size + 1 + 1 + 1) := by rw [Hid, hU0]; simp
 have HR0 : Hid ((((w.alloc (.cells ss.toArray 61)).alloc (.cells cs.toArray 46)).alloc (.cells #[Z, Z, Z, Z, Z, Z] 61)).rangeAt (w.heap.size + 1) 0 cs) := by have := HH0.out.get 0 (b := w.heap.size + 1) rfl; rw [hU0] at this; exact this
 go_enter func19, ntmps19
 go_wp2_with (first | (refine BigFrame.wpList_want rfl (fun _ hKK => wp_load_mid 46 _ rfl (w.heap.size + 1) 0 rfl cs _ HR0.out underlying46 rfl hi (hKK _ _ ?_))) | fail)
 rw [← hU0]
 clear hU0 HR0
 refine (HC.out _ HH0.out.below).mono ?_
 rintro e u1 ⟨rfl, hb1⟩
 have HH1 : Hid (Held w [(w.heap.size + 1, cs), (w.heap.size, ss)] [(w.heap.size + 1 + 1, 6)] u1) := HH0.out.on hb1
 have HU1 : Hid (w.heap.size + 1 + 1 < u1.heap.size) := by have := hb1.size; rw [HU.out] at this; rw [Hid]; omega
 have hz := HH1.out.cell 0 (b := w.heap.size + 1) rfl 0 H0.out
 have hzl := HH1.out.lt 0 (b := w.heap.size + 1) rfl
 clear HH0 hb1 HC HU
 go_wp2_with fail
 clear hz hzl
 refine (kindOf_Claim _).mono ?_
 rintro e u2 ⟨rfl, hb2⟩
 have HH2 : Hid (Held w [(w.heap.size + 1, cs), (w.heap.size, ss)] [(w.heap.size + 1 + 1, 6)] u2) := HH1.out.on hb2
 have HU2 : Hid (w.heap.size + 1 + 1 < u2.heap.size) := Nat.lt_of_lt_of_le HU1.out hb2.size
 clear HH1 HU1 hb2
 have HRS : Hid (u2.rangeAt (w.heap.size) 0 ss) := HH2.out.get 1 rfl
 have HRO : Hid (u2.rangeAt (w.heap.size + 1) 0 cs) := HH2.out.get 0 rfl
 go_wp2_with (first | (refine BigFrame.wpList_want rfl (fun _ hKK => wp_load_mid 61 _ rfl (w.heap.size) 0 rfl ss _ HRS.out underlying61 rfl his (hKK _ _ ?_))) | (refine BigFrame.wpList_want rfl (fun _ hKK => wp_load_mid 46 _ rfl (w.heap.size + 1) 0 rfl cs _ HRO.out underlying46 rfl hi (hKK _ _ ?_))) | fail)
 clear HRS HRO
 refine (HP.out _ HH2.out.below).mono ?_
 rintro e u3 ⟨gs, rfl, hst, hb3⟩
 have HH3 : Hid (Held w [(w.heap.size + 1, cs), (w.heap.size, ss)] [(w.heap.size + 1 + 1, 6)] u3) := HH2.out.on hb3
 have HT : Hid (u3.there (w.heap.size + 1 + 1) 0 6) := HH3.out.there 0 rfl
 have hgl := hst.len
 have hgo := all_oneCell_toArray hst.one
 have hig : (prog.info? 61).map (·.size) = some gs.toArray.size := by simpa [hgl] using infoSta
 have higl : (prog.info? 61).map (·.size) = some gs.length := by rw [hgl]; exact infoSta
 have HT' : Hid (u3.there (w.heap.size + 1 + 1) 0 gs.toArray.size) := by simpa [Hid, hgl] using HT.out
 have HT'' : Hid (u3.there (w.heap.size + 1 + 1) 0 gs.length) := by rw [Hid, hgl]; exact HT.out
 obtain ⟨u4, hu4⟩ : ∃ u4, u4 = u3.setCells (w.heap.size + 1 + 1) 0 gs := ⟨_, rfl⟩
 have HST : Hid (StV (Lo A w) w u4 gs r.1) := by rw [Hid, hu4]; exact hst.wrote HH2.out.below (by omega) HU2.out
 have HRG : Hid (u4.rangeAt (w.heap.size + 1 + 1) 0 gs) := by rw [Hid, hu4]; exact World.rangeAt_setCells_same _ _ _ _ HT''.out
 have HU4 : Hid (u4 = u3.setCells (w.heap.size + 1 + 1) 0 gs) := hu4
 clear hu4 hst HH2 HH3 HP HT HT'' hb3
 go_wp2_with (first | (refine wpList_store_mid rfl 61 _ _ rfl (w.heap.size + 1 + 1) 0 gs.toArray rfl rfl HT'.out hig hgo ?_; refine wpl_at HU4.out ?_) | fail)
 refine bodyPost_ret (v := .tuple #[.agg gs.toArray, .bool r.2.1, .int .i64 r.2.2]) (res_cell3 (p := 4) (q := 5) (r := 6) (ty := 61) rfl _ _ (w.heap.size + 1 + 1) gs _ _ _ rfl rfl rfl HRG.out underlying61 rfl higl) rfl (HST.out.tup HST.out.below)
theorem Put_Class (ss cs : List Value) (A : Where) (x : StateD) (o : ObjectD) (w : World) (hs : RState A w ss x) (ho : RObject A w cs o) (hk : o.1 = 5) (hc : checkO o = 0) : Calls prog 19 #[.agg ss.toArray, .agg cs.toArray] w fun e w' => StTup A w (putSClass x o.2.2.2.2.2.1) e w' := by
 have his : (prog.info? 61).map (·.size) = some ss.length := by rw [RState.firm.len hs]; exact infoSta
 have hi : (prog.info? 46).map (·.size) = some cs.length := by rw [RObject.firm.len ho]; exact infoObj
 have HS : Hid (RState (Lo A w) w ss x) := RState.firm.weak hs (fun b hb h => ⟨h, hb⟩)
 have HO : Hid (RObject (Lo A w) w cs o) := RObject.firm.weak ho (fun b hb h => ⟨h, hb⟩)
 have H0 : Hid (cs[0]? = some (.int .i64 5)) := by rw [Hid, obj0 ho, hk]
 have HC : Hid (∀ u, Below w.heap.size w u → Calls prog 9 #[.agg cs.toArray] u fun e w' => e = .returned (.int .i64 0) ∧ Below u.heap.size u w') := fun u hu => by
  have := Check_calls cs _ o u (RObject.firm.kept HO.out (Kept.below hu))
  rwa [hc] at this
 obtain ⟨r, hr⟩ : ∃ r, putSClass x o.2.2.2.2.2.1 = r := ⟨_, rfl⟩
 have HP : Hid (∀ u, Below w.heap.size w u → Calls prog 287 #[.agg #[.iface 152 (.agg #[])], .agg ss.toArray, .agg cs.toArray] u fun e w' => ∃ gs, e = .returned (.tuple #[.agg gs.toArray, .bool r.2.1, .int .i64 r.2.2]) ∧ StV (Lo (Lo A w) u) u w' gs r.1 ∧ Below u.heap.size u w') := fun u hu => by
  rw [← hr]
  exact (Class_oput ss cs _ x o u (RState.firm.kept HS.out (Kept.below hu)) (RObject.firm.kept HO.out (Kept.below hu))).mono (fun e w' h => h.st)
 rw [hr]
 clear hr hk hc
 clear hs ho
 obtain ⟨U0, hU0⟩ : ∃ U0, U0 = (((w.alloc (.cells ss.toArray 61)).alloc (.cells cs.toArray 46)).alloc (.cells #[Z, Z, Z, Z, Z, Z] 61)) := ⟨_, rfl⟩
 have HH0 : Hid (Held w [(w.heap.size + 1, cs), (w.heap.size, ss)] [(w.heap.size + 1 + 1, 6)] U0) := by rw [Hid, hU0]; exact (((Held.start w).push rfl ss 61).push (by simp) cs 46).room (by simp) #[Z, Z, Z, Z, Z, Z] 61
 have HU : Hid (U0.heap.size = w.heap.size + 1 + 1 + 1) := by rw [Hid, hU0]; simp
 have HR0 : Hid ((((w.alloc (.cells ss.toArray 61)).alloc (.cells cs.toArray 46)).alloc (.cells #[Z, Z, Z, Z, Z, Z] 61)).rangeAt (w.heap.size + 1) 0 cs) := by have := HH0.out.get 0 (b := w.heap.size + 1) rfl; rw [hU0] at this; exact this
 go_enter func19, ntmps19
 go_wp2_with (first | (refine BigFrame.wpList_want rfl (fun _ hKK => wp_load_mid 46 _ rfl (w.heap.size + 1) 0 rfl cs _ HR0.out underlying46 rfl hi (hKK _ _ ?_))) | fail)
 rw [← hU0]
 clear hU0 HR0
 refine (HC.out _ HH0.out.below).mono ?_
 rintro e u1 ⟨rfl, hb1⟩
 have HH1 : Hid (Held w [(w.heap.size + 1, cs), (w.heap.size, ss)] [(w.heap.size + 1 + 1, 6)] u1) := HH0.out.on hb1
 have HU1 : Hid (w.heap.size + 1 + 1 < u1.heap.size) := by have := hb1.size; rw [HU.out] at this; rw [Hid]; omega
 have hz := HH1.out.cell 0 (b := w.heap.size + 1) rfl 0 H0.out
 have hzl := HH1.out.lt 0 (b := w.heap.size + 1) rfl
 clear HH0 hb1 HC HU
 go_wp2_with fail
 clear hz hzl
 refine (kindOf_Class _).mono ?_
 rintro e u2 ⟨rfl, hb2⟩
 have HH2 : Hid (Held w [(w.heap.size + 1, cs), (w.heap.size, ss)] [(w.heap.size + 1 + 1, 6)] u2) := HH1.out.on hb2
 have HU2 : Hid (w.heap.size + 1 + 1 < u2.heap.size) := Nat.lt_of_lt_of_le HU1.out hb2.size
 clear HH1 HU1 hb2
 have HRS : Hid (u2.rangeAt (w.heap.size) 0 ss) := HH2.out.get 1 rfl
 have HRO : Hid (u2.rangeAt (w.heap.size + 1) 0 cs) := HH2.out.get 0 rfl
 go_wp2_with (first | (refine BigFrame.wpList_want rfl (fun _ hKK => wp_load_mid 61 _ rfl (w.heap.size) 0 rfl ss _ HRS.out underlying61 rfl his (hKK _ _ ?_))) | (refine BigFrame.wpList_want rfl (fun _ hKK => wp_load_mid 46 _ rfl (w.heap.size + 1) 0 rfl cs _ HRO.out underlying46 rfl hi (hKK _ _ ?_))) | fail)
 clear HRS HRO
 refine (HP.out _ HH2.out.below).mono ?_
 rintro e u3 ⟨gs, rfl, hst, hb3⟩
 have HH3 : Hid (Held w [(w.heap.size + 1, cs), (w.heap.size, ss)] [(w.heap.size + 1 + 1, 6)] u3) := HH2.out.on hb3
 have HT : Hid (u3.there (w.heap.size + 1 + 1) 0 6) := HH3.out.there 0 rfl
 have hgl := hst.len
 have hgo := all_oneCell_toArray hst.one
 have hig : (prog.info? 61).map (·.size) = some gs.toArray.size := by simpa [hgl] using infoSta
 have higl : (prog.info? 61).map (·.size) = some gs.length := by rw [hgl]; exact infoSta
 have HT' : Hid (u3.there (w.heap.size + 1 + 1) 0 gs.toArray.size) := by simpa [Hid, hgl] using HT.out
 have HT'' : Hid (u3.there (w.heap.size + 1 + 1) 0 gs.length) := by rw [Hid, hgl]; exact HT.out
 obtain ⟨u4, hu4⟩ : ∃ u4, u4 = u3.setCells (w.heap.size + 1 + 1) 0 gs := ⟨_, rfl⟩
 have HST : Hid (StV (Lo A w) w u4 gs r.1) := by rw [Hid, hu4]; exact hst.wrote HH2.out.below (by omega) HU2.out
 have HRG : Hid (u4.rangeAt (w.heap.size + 1 + 1) 0 gs) := by rw [Hid, hu4]; exact World.rangeAt_setCells_same _ _ _ _ HT''.out
 have HU4 : Hid (u4 = u3.setCells (w.heap.size + 1 + 1) 0 gs) := hu4
 clear hu4 hst HH2 HH3 HP HT HT'' hb3
 go_wp2_with (first | (refine wpList_store_mid rfl 61 _ _ rfl (w.heap.size + 1 + 1) 0 gs.toArray rfl rfl HT'.out hig hgo ?_; refine wpl_at HU4.out ?_) | fail)
 refine bodyPost_ret (v := .tuple #[.agg gs.toArray, .bool r.2.1, .int .i64 r.2.2]) (res_cell3 (p := 4) (q := 5) (r := 6) (ty := 61) rfl _ _ (w.heap.size + 1 + 1) gs _ _ _ rfl rfl rfl HRG.out underlying61 rfl higl) rfl (HST.out.tup HST.out.below)
theorem Put_Budget (ss cs : List Value) (A : Where) (x : StateD) (o : ObjectD) (w : World) (hs : RState A w ss x) (ho : RObject A w cs o) (hk : o.1 = 6) (hc : checkO o = 0) : Calls prog 19 #[.agg ss.toArray, .agg cs.toArray] w fun e w' => StTup A w (putSBudget x o.2.2.2.2.2.2) e w' := by
 have his : (prog.info? 61).map (·.size) = some ss.length := by rw [RState.firm.len hs]; exact infoSta
 have hi : (prog.info? 46).map (·.size) = some cs.length := by rw [RObject.firm.len ho]; exact infoObj
 have HS : Hid (RState (Lo A w) w ss x) := RState.firm.weak hs (fun b hb h => ⟨h, hb⟩)
 have HO : Hid (RObject (Lo A w) w cs o) := RObject.firm.weak ho (fun b hb h => ⟨h, hb⟩)
 have H0 : Hid (cs[0]? = some (.int .i64 6)) := by rw [Hid, obj0 ho, hk]
 have HC : Hid (∀ u, Below w.heap.size w u → Calls prog 9 #[.agg cs.toArray] u fun e w' => e = .returned (.int .i64 0) ∧ Below u.heap.size u w') := fun u hu => by
  have := Check_calls cs _ o u (RObject.firm.kept HO.out (Kept.below hu))
  rwa [hc] at this
 obtain ⟨r, hr⟩ : ∃ r, putSBudget x o.2.2.2.2.2.2 = r := ⟨_, rfl⟩
 have HP : Hid (∀ u, Below w.heap.size w u → Calls prog 318 #[.agg #[.iface 157 (.agg #[])], .agg ss.toArray, .agg cs.toArray] u fun e w' => ∃ gs, e = .returned (.tuple #[.agg gs.toArray, .bool r.2.1, .int .i64 r.2.2]) ∧ StV (Lo (Lo A w) u) u w' gs r.1 ∧ Below u.heap.size u w') := fun u hu => by
  rw [← hr]
  exact (Budget_oput ss cs _ x o u (RState.firm.kept HS.out (Kept.below hu)) (RObject.firm.kept HO.out (Kept.below hu))).mono (fun e w' h => h.st)
 rw [hr]
 clear hr hk hc
 clear hs ho
 obtain ⟨U0, hU0⟩ : ∃ U0, U0 = (((w.alloc (.cells ss.toArray 61)).alloc (.cells cs.toArray 46)).alloc (.cells #[Z, Z, Z, Z, Z, Z] 61)) := ⟨_, rfl⟩
 have HH0 : Hid (Held w [(w.heap.size + 1, cs), (w.heap.size, ss)] [(w.heap.size + 1 + 1, 6)] U0) := by rw [Hid, hU0]; exact (((Held.start w).push rfl ss 61).push (by simp) cs 46).room (by simp) #[Z, Z, Z, Z, Z, Z] 61
 have HU : Hid (U0.heap.size = w.heap.size + 1 + 1 + 1) := by rw [Hid, hU0]; simp
 have HR0 : Hid ((((w.alloc (.cells ss.toArray 61)).alloc (.cells cs.toArray 46)).alloc (.cells #[Z, Z, Z, Z, Z, Z] 61)).rangeAt (w.heap.size + 1) 0 cs) := by have := HH0.out.get 0 (b := w.heap.size + 1) rfl; rw [hU0] at this; exact this
 go_enter func19, ntmps19
 go_wp2_with (first | (refine BigFrame.wpList_want rfl (fun _ hKK => wp_load_mid 46 _ rfl (w.heap.size + 1) 0 rfl cs _ HR0.out underlying46 rfl hi (hKK _ _ ?_))) | fail)
 rw [← hU0]
 clear hU0 HR0
 refine (HC.out _ HH0.out.below).mono ?_
 rintro e u1 ⟨rfl, hb1⟩
 have HH1 : Hid (Held w [(w.heap.size + 1, cs), (w.heap.size, ss)] [(w.heap.size + 1 + 1, 6)] u1) := HH0.out.on hb1
 have HU1 : Hid (w.heap.size + 1 + 1 < u1.heap.size) := by have := hb1.size; rw [HU.out] at this; rw [Hid]; omega
 have hz := HH1.out.cell 0 (b := w.heap.size + 1) rfl 0 H0.out
 have hzl := HH1.out.lt 0 (b := w.heap.size + 1) rfl
 clear HH0 hb1 HC HU
 go_wp2_with fail
 clear hz hzl
 refine (kindOf_Budget _).mono ?_
 rintro e u2 ⟨rfl, hb2⟩
 have HH2 : Hid (Held w [(w.heap.size + 1, cs), (w.heap.size, ss)] [(w.heap.size + 1 + 1, 6)] u2) := HH1.out.on hb2
 have HU2 : Hid (w.heap.size + 1 + 1 < u2.heap.size) := Nat.lt_of_lt_of_le HU1.out hb2.size
 clear HH1 HU1 hb2
 have HRS : Hid (u2.rangeAt (w.heap.size) 0 ss) := HH2.out.get 1 rfl
 have HRO : Hid (u2.rangeAt (w.heap.size + 1) 0 cs) := HH2.out.get 0 rfl
 go_wp2_with (first | (refine BigFrame.wpList_want rfl (fun _ hKK => wp_load_mid 61 _ rfl (w.heap.size) 0 rfl ss _ HRS.out underlying61 rfl his (hKK _ _ ?_))) | (refine BigFrame.wpList_want rfl (fun _ hKK => wp_load_mid 46 _ rfl (w.heap.size + 1) 0 rfl cs _ HRO.out underlying46 rfl hi (hKK _ _ ?_))) | fail)
 clear HRS HRO
 refine (HP.out _ HH2.out.below).mono ?_
 rintro e u3 ⟨gs, rfl, hst, hb3⟩
 have HH3 : Hid (Held w [(w.heap.size + 1, cs), (w.heap.size, ss)] [(w.heap.size + 1 + 1, 6)] u3) := HH2.out.on hb3
 have HT : Hid (u3.there (w.heap.size + 1 + 1) 0 6) := HH3.out.there 0 rfl
 have hgl := hst.len
 have hgo := all_oneCell_toArray hst.one
 have hig : (prog.info? 61).map (·.size) = some gs.toArray.size := by simpa [hgl] using infoSta
 have higl : (prog.info? 61).map (·.size) = some gs.length := by rw [hgl]; exact infoSta
 have HT' : Hid (u3.there (w.heap.size + 1 + 1) 0 gs.toArray.size) := by simpa [Hid, hgl] using HT.out
 have HT'' : Hid (u3.there (w.heap.size + 1 + 1) 0 gs.length) := by rw [Hid, hgl]; exact HT.out
 obtain ⟨u4, hu4⟩ : ∃ u4, u4 = u3.setCells (w.heap.size + 1 + 1) 0 gs := ⟨_, rfl⟩
 have HST : Hid (StV (Lo A w) w u4 gs r.1) := by rw [Hid, hu4]; exact hst.wrote HH2.out.below (by omega) HU2.out
 have HRG : Hid (u4.rangeAt (w.heap.size + 1 + 1) 0 gs) := by rw [Hid, hu4]; exact World.rangeAt_setCells_same _ _ _ _ HT''.out
 have HU4 : Hid (u4 = u3.setCells (w.heap.size + 1 + 1) 0 gs) := hu4
 clear hu4 hst HH2 HH3 HP HT HT'' hb3
 go_wp2_with (first | (refine wpList_store_mid rfl 61 _ _ rfl (w.heap.size + 1 + 1) 0 gs.toArray rfl rfl HT'.out hig hgo ?_; refine wpl_at HU4.out ?_) | fail)
 refine bodyPost_ret (v := .tuple #[.agg gs.toArray, .bool r.2.1, .int .i64 r.2.2]) (res_cell3 (p := 4) (q := 5) (r := 6) (ty := 61) rfl _ _ (w.heap.size + 1 + 1) gs _ _ _ rfl rfl rfl HRG.out underlying61 rfl higl) rfl (HST.out.tup HST.out.below)
theorem Put_2 (ss cs : List Value) (A : Where) (x : StateD) (o : ObjectD) (w : World) (hs : RState A w ss x) (ho : RObject A w cs o) (hk : ¬ (1 ≤ o.1 ∧ o.1 ≤ 6)) : Calls prog 19 #[.agg ss.toArray, .agg cs.toArray] w fun e w' => StTup A w ((noState, false, 2)) e w' := by
 have his : (prog.info? 61).map (·.size) = some ss.length := by rw [RState.firm.len hs]; exact infoSta
 have hi : (prog.info? 46).map (·.size) = some cs.length := by rw [RObject.firm.len ho]; exact infoObj
 have HS : Hid (RState (Lo A w) w ss x) := RState.firm.weak hs (fun b hb h => ⟨h, hb⟩)
 have HO : Hid (RObject (Lo A w) w cs o) := RObject.firm.weak ho (fun b hb h => ⟨h, hb⟩)
 have H0 : Hid (cs[0]? = some (.int .i64 o.1)) := by rw [Hid, obj0 ho]
 have HC : Hid (∀ u, Below w.heap.size w u → Calls prog 9 #[.agg cs.toArray] u fun e w' => e = .returned (.int .i64 2) ∧ Below u.heap.size u w') := fun u hu => by
  have := Check_calls cs _ o u (RObject.firm.kept HO.out (Kept.below hu))
  rwa [show checkO o = 2 by rw [checkO, if_neg hk]] at this
 clear hs ho
 obtain ⟨U0, hU0⟩ : ∃ U0, U0 = (((w.alloc (.cells ss.toArray 61)).alloc (.cells cs.toArray 46)).alloc (.cells #[Z, Z, Z, Z, Z, Z] 61)) := ⟨_, rfl⟩
 have HH0 : Hid (Held w [(w.heap.size + 1, cs), (w.heap.size, ss)] [(w.heap.size + 1 + 1, 6)] U0) := by rw [Hid, hU0]; exact (((Held.start w).push rfl ss 61).push (by simp) cs 46).room (by simp) #[Z, Z, Z, Z, Z, Z] 61
 have HU : Hid (U0.heap.size = w.heap.size + 1 + 1 + 1) := by rw [Hid, hU0]; simp
 have HR0 : Hid ((((w.alloc (.cells ss.toArray 61)).alloc (.cells cs.toArray 46)).alloc (.cells #[Z, Z, Z, Z, Z, Z] 61)).rangeAt (w.heap.size + 1) 0 cs) := by have := HH0.out.get 0 (b := w.heap.size + 1) rfl; rw [hU0] at this; exact this
 go_enter func19, ntmps19
 go_wp2_with (first | (refine BigFrame.wpList_want rfl (fun _ hKK => wp_load_mid 46 _ rfl (w.heap.size + 1) 0 rfl cs _ HR0.out underlying46 rfl hi (hKK _ _ ?_))) | fail)
 rw [← hU0]
 clear hU0 HR0
 refine (HC.out _ HH0.out.below).mono ?_
 rintro e u1 ⟨rfl, hb1⟩
 have HH1 : Hid (Held w [(w.heap.size + 1, cs), (w.heap.size, ss)] [(w.heap.size + 1 + 1, 6)] u1) := HH0.out.on hb1
 have HU1 : Hid (w.heap.size + 1 + 1 < u1.heap.size) := by have := hb1.size; rw [HU.out] at this; rw [Hid]; omega
 have hz := HH1.out.cell 0 (b := w.heap.size + 1) rfl 0 H0.out
 have hzl := HH1.out.lt 0 (b := w.heap.size + 1) rfl
 clear HH0 hb1 HC HU
 go_wp2_with fail
 clear hz hzl
 refine (kindOf_no o.1 _ hk).mono ?_
 rintro e u2 ⟨rfl, hb2⟩
 have HH2 : Hid (Held w [(w.heap.size + 1, cs), (w.heap.size, ss)] [(w.heap.size + 1 + 1, 6)] u2) := HH1.out.on hb2
 have HU2 : Hid (w.heap.size + 1 + 1 < u2.heap.size) := Nat.lt_of_lt_of_le HU1.out hb2.size
 clear HH1 HU1 hb2
 have HT : Hid (u2.there (w.heap.size + 1 + 1) 0 6) := HH2.out.there 0 rfl
 obtain ⟨u4, hu4⟩ : ∃ u4, u4 = u2.setCells (w.heap.size + 1 + 1) 0 [Z, Z, Z, Z, Z, Z] := ⟨_, rfl⟩
 have HBE : Hid (Below w.heap.size w u4) := by rw [Hid, hu4]; exact below_setCells HH2.out.below (by omega)
 have HRG : Hid (u4.rangeAt (w.heap.size + 1 + 1) 0 [Z, Z, Z, Z, Z, Z]) := by rw [Hid, hu4]; exact World.rangeAt_setCells_same _ _ _ _ HT.out
 have HU4 : Hid (u4 = u2.setCells (w.heap.size + 1 + 1) 0 [Z, Z, Z, Z, Z, Z]) := hu4
 clear hu4 HH2
 go_wp2_with (first | (refine wpList_store_mid rfl 61 _ _ rfl (w.heap.size + 1 + 1) 0 #[Z, Z, Z, Z, Z, Z] rfl rfl HT.out infoSta (by simp [Value.oneCell']) ?_; refine wpl_at HU4.out ?_) | fail)
 refine bodyPost_ret (v := .tuple #[.agg #[Z, Z, Z, Z, Z, Z], .bool false, .int .i64 2]) (res_cell3 (p := 4) (q := 5) (r := 6) (ty := 61) rfl _ _ (w.heap.size + 1 + 1) [Z, Z, Z, Z, Z, Z] _ _ _ rfl rfl rfl HRG.out underlying61 rfl infoSta) rfl ((StV.empty HBE.out).tup (r := (noState, false, 2)) HBE.out)
theorem Put_40 (ss cs : List Value) (A : Where) (x : StateD) (o : ObjectD) (w : World) (hs : RState A w ss x) (ho : RObject A w cs o) (hk : 1 ≤ o.1 ∧ o.1 ≤ 6) (hc : checkO o = 40) : Calls prog 19 #[.agg ss.toArray, .agg cs.toArray] w fun e w' => StTup A w ((noState, false, 40)) e w' := by
 have his : (prog.info? 61).map (·.size) = some ss.length := by rw [RState.firm.len hs]; exact infoSta
 have hi : (prog.info? 46).map (·.size) = some cs.length := by rw [RObject.firm.len ho]; exact infoObj
 have HS : Hid (RState (Lo A w) w ss x) := RState.firm.weak hs (fun b hb h => ⟨h, hb⟩)
 have HO : Hid (RObject (Lo A w) w cs o) := RObject.firm.weak ho (fun b hb h => ⟨h, hb⟩)
 have H0 : Hid (cs[0]? = some (.int .i64 o.1)) := by rw [Hid, obj0 ho]
 have HC : Hid (∀ u, Below w.heap.size w u → Calls prog 9 #[.agg cs.toArray] u fun e w' => e = .returned (.int .i64 40) ∧ Below u.heap.size u w') := fun u hu => by
  have := Check_calls cs _ o u (RObject.firm.kept HO.out (Kept.below hu))
  rwa [hc] at this
 clear hs ho
 obtain ⟨U0, hU0⟩ : ∃ U0, U0 = (((w.alloc (.cells ss.toArray 61)).alloc (.cells cs.toArray 46)).alloc (.cells #[Z, Z, Z, Z, Z, Z] 61)) := ⟨_, rfl⟩
 have HH0 : Hid (Held w [(w.heap.size + 1, cs), (w.heap.size, ss)] [(w.heap.size + 1 + 1, 6)] U0) := by rw [Hid, hU0]; exact (((Held.start w).push rfl ss 61).push (by simp) cs 46).room (by simp) #[Z, Z, Z, Z, Z, Z] 61
 have HU : Hid (U0.heap.size = w.heap.size + 1 + 1 + 1) := by rw [Hid, hU0]; simp
 have HR0 : Hid ((((w.alloc (.cells ss.toArray 61)).alloc (.cells cs.toArray 46)).alloc (.cells #[Z, Z, Z, Z, Z, Z] 61)).rangeAt (w.heap.size + 1) 0 cs) := by have := HH0.out.get 0 (b := w.heap.size + 1) rfl; rw [hU0] at this; exact this
 go_enter func19, ntmps19
 go_wp2_with (first | (refine BigFrame.wpList_want rfl (fun _ hKK => wp_load_mid 46 _ rfl (w.heap.size + 1) 0 rfl cs _ HR0.out underlying46 rfl hi (hKK _ _ ?_))) | fail)
 rw [← hU0]
 clear hU0 HR0
 refine (HC.out _ HH0.out.below).mono ?_
 rintro e u1 ⟨rfl, hb1⟩
 have HH1 : Hid (Held w [(w.heap.size + 1, cs), (w.heap.size, ss)] [(w.heap.size + 1 + 1, 6)] u1) := HH0.out.on hb1
 have HU1 : Hid (w.heap.size + 1 + 1 < u1.heap.size) := by have := hb1.size; rw [HU.out] at this; rw [Hid]; omega
 have hz := HH1.out.cell 0 (b := w.heap.size + 1) rfl 0 H0.out
 have hzl := HH1.out.lt 0 (b := w.heap.size + 1) rfl
 clear HH0 hb1 HC HU
 go_wp2_with fail
 clear hz hzl
 refine (kindOf_in o.1 _ hk).mono ?_
 rintro e u2 ⟨v, rfl, hb2⟩
 have HH2 : Hid (Held w [(w.heap.size + 1, cs), (w.heap.size, ss)] [(w.heap.size + 1 + 1, 6)] u2) := HH1.out.on hb2
 have HU2 : Hid (w.heap.size + 1 + 1 < u2.heap.size) := Nat.lt_of_lt_of_le HU1.out hb2.size
 clear HH1 HU1 hb2
 have HT : Hid (u2.there (w.heap.size + 1 + 1) 0 6) := HH2.out.there 0 rfl
 obtain ⟨u4, hu4⟩ : ∃ u4, u4 = u2.setCells (w.heap.size + 1 + 1) 0 [Z, Z, Z, Z, Z, Z] := ⟨_, rfl⟩
 have HBE : Hid (Below w.heap.size w u4) := by rw [Hid, hu4]; exact below_setCells HH2.out.below (by omega)
 have HRG : Hid (u4.rangeAt (w.heap.size + 1 + 1) 0 [Z, Z, Z, Z, Z, Z]) := by rw [Hid, hu4]; exact World.rangeAt_setCells_same _ _ _ _ HT.out
 have HU4 : Hid (u4 = u2.setCells (w.heap.size + 1 + 1) 0 [Z, Z, Z, Z, Z, Z]) := hu4
 clear hu4 HH2
 go_wp2_with (first | (refine wpList_store_mid rfl 61 _ _ rfl (w.heap.size + 1 + 1) 0 #[Z, Z, Z, Z, Z, Z] rfl rfl HT.out infoSta (by simp [Value.oneCell']) ?_; refine wpl_at HU4.out ?_) | fail)
 refine bodyPost_ret (v := .tuple #[.agg #[Z, Z, Z, Z, Z, Z], .bool false, .int .i64 40]) (res_cell3 (p := 4) (q := 5) (r := 6) (ty := 61) rfl _ _ (w.heap.size + 1 + 1) [Z, Z, Z, Z, Z, Z] _ _ _ rfl rfl rfl HRG.out underlying61 rfl infoSta) rfl ((StV.empty HBE.out).tup (r := (noState, false, 40)) HBE.out)
def putO (x : StateD) (o : ObjectD) : StateD × Bool × Int := if checkO o = 0 then if o.1 = 1 then putSPod x o.2.1 else if o.1 = 2 then putSNode x o.2.2.1 else if o.1 = 3 then putSVolume x o.2.2.2.1 else if o.1 = 4 then putSClaim x o.2.2.2.2.1 else if o.1 = 5 then putSClass x o.2.2.2.2.2.1 else if o.1 = 6 then putSBudget x o.2.2.2.2.2.2 else (noState, false, 2) else (noState, false, checkO o)
theorem checkO_in {o : ObjectD} (h : 1 ≤ o.1 ∧ o.1 ≤ 6) : checkO o = 0 ∨ checkO o = 40 := by
 rw [checkO, if_pos h]; cases (rightO o && othersB o) <;> simp
theorem Put_calls (ss cs : List Value) (A : Where) (x : StateD) (o : ObjectD) (w : World) (hs : RState A w ss x) (ho : RObject A w cs o) : Calls prog 19 #[.agg ss.toArray, .agg cs.toArray] w fun e w' => StTup A w (putO x o) e w' := by
 by_cases hk : 1 ≤ o.1 ∧ o.1 ≤ 6
 ·
  rcases checkO_in hk with h0 | h0
  ·
   have hc : o.1 = 1 ∨ o.1 = 2 ∨ o.1 = 3 ∨ o.1 = 4 ∨ o.1 = 5 ∨ o.1 = 6 := by omega
   rcases hc with hc | hc | hc | hc | hc | hc
   ·
    have := Put_Pod ss cs A x o w hs ho hc h0
    rwa [show putSPod x o.2.1 = putO x o by simp [putO, h0, hc]] at this
   ·
    have := Put_Node ss cs A x o w hs ho hc h0
    rwa [show putSNode x o.2.2.1 = putO x o by simp [putO, h0, hc]] at this
   ·
    have := Put_Volume ss cs A x o w hs ho hc h0
    rwa [show putSVolume x o.2.2.2.1 = putO x o by simp [putO, h0, hc]] at this
   ·
    have := Put_Claim ss cs A x o w hs ho hc h0
    rwa [show putSClaim x o.2.2.2.2.1 = putO x o by simp [putO, h0, hc]] at this
   ·
    have := Put_Class ss cs A x o w hs ho hc h0
    rwa [show putSClass x o.2.2.2.2.2.1 = putO x o by simp [putO, h0, hc]] at this
   ·
    have := Put_Budget ss cs A x o w hs ho hc h0
    rwa [show putSBudget x o.2.2.2.2.2.2 = putO x o by simp [putO, h0, hc]] at this
  ·
   have := Put_40 ss cs A x o w hs ho hk h0
   rwa [show (noState, false, (40 : Int)) = putO x o by simp [putO, h0]] at this
 ·
  have := Put_2 ss cs A x o w hs ho hk
  rwa [show (noState, false, (2 : Int)) = putO x o by simp [putO, checkO, hk]] at this
end Go.Proofs.YtikncmcceeacmaaGreat

