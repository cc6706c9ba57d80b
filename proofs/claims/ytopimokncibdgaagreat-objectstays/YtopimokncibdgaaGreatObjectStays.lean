/- The law ObjectStays holds of the program: what is put into a right state, and taken out of it, leaves a right one; the chapter's examples come out. For every input; no condition. -/
import Derived.Test.YtopimokncibdgaaGreatRows
import Derived.Test.YtopimokncibdgaaGreatQ40
import Derived.Test.YtopimokncibdgaaGreatQ41
namespace Go.Proofs.YtopimokncibdgaaGreat.objectStays
set_option maxHeartbeats 16000000
set_option maxRecDepth 100000
open Go.Proofs.Tryz Go.ChangeShapes Go.WideShapes Go.ChangeAt Go.RowKit
set_option linter.unusedSimpArgs false
theorem walk (ss : List Value) (x : StateD) (cs : List Value) (o : ObjectD) (n : Int) (s : ByteArray) (w : World) (hs : RState (fun _ => True) w ss x) (ho : RObject (fun _ => True) w cs o) (_ : s.size ≤ 140737488355328) :
  Calls prog 6 #[.agg ss.toArray, .agg cs.toArray, .int .i64 n, .string s] w fun e w' => e = .returned (.bool true) ∧ Below w.heap.size w w' := by
 have his : (prog.info? 61).map (·.size) = some ss.length := by rw [RState.firm.len hs]; exact infoSta
 have hi : (prog.info? 46).map (·.size) = some cs.length := by rw [RObject.firm.len ho]; exact infoObj
 have HS : Hid (StAt w ss x) := hs
 have HO : Hid (ObAt w cs o) := ho
 clear hs ho
 obtain ⟨U0, hU0⟩ : ∃ U0, U0 = ((w.alloc (.cells ss.toArray 61)).alloc (.cells cs.toArray 46)) := ⟨_, rfl⟩
 have HH0 : Hid (Held w [(w.heap.size + 1, cs), (w.heap.size, ss)] [] U0) := by rw [Hid, hU0]; exact ((Held.start w).push rfl ss 61).push (by simp) cs 46
 go_enter func6, ntmps6
 go_wp2_with fail
 rw [← hU0]
 clear hU0
 refine (works_calls _).mono ?_
 rintro e u1 ⟨rfl, hb1⟩
 have HH1 : Hid (Held w [(w.heap.size + 1, cs), (w.heap.size, ss)] [] u1) := HH0.out.on hb1
 have HRS : Hid (u1.rangeAt (w.heap.size) 0 ss) := HH1.out.get 1 rfl
 clear HH0 hb1
 go_wp2_with (first | (refine BigFrame.wpList_want rfl (fun _ hKK => wp_load_mid 61 _ rfl (w.heap.size) 0 rfl ss _ HRS.out underlying61 rfl his (hKK _ _ ?_))) | fail)
 clear HRS
 refine (CheckState_calls ss _ x u1 (HS.out.on HH1.out.below)).mono ?_
 rintro e u2 ⟨rfl, hb2⟩
 have HH2 : Hid (Held w [(w.heap.size + 1, cs), (w.heap.size, ss)] [] u2) := HH1.out.on hb2
 clear HH1 hb2
 have hok := checkS_ok x
 generalize checkS x = k at hok ⊢
 by_cases hk : k = 0
 ·
  subst hk
  have HOK : Hid (StOK x) := hok.1 rfl
  clear hok
  have HFT : Hid (Fits (putO x o).1) := put_fits o HOK.out
  have HPO : Hid ((putO x o).2.2 = 0 → StOK (putO x o).1) := put_ok HOK.out
  have HFR : Hid (Fits (remO x n s).1) := (rem_ok HOK.out n s).fits
  have HRO : Hid (StOK (remO x n s).1) := rem_ok HOK.out n s
  have HPL : Hid (∀ u, Below w.heap.size w u → Calls prog 20 #[.agg ss.toArray, .agg cs.toArray] u fun e w' => ∃ gs, e = .returned (.tuple #[.agg gs.toArray, .bool (putO x o).2.1, .int .i64 (putO x o).2.2]) ∧ StAt w' gs (putO x o).1 ∧ Below u.heap.size u w') := fun u hu => Put_law ss cs x o u (HS.out.on hu) (HO.out.on hu) HFT.out
  have HRL : Hid (∀ u, Below w.heap.size w u → Calls prog 22 #[.agg ss.toArray, .int .i64 n, .string s] u fun e w' => ∃ gs, e = .returned (.tuple #[.agg gs.toArray, .bool (remO x n s).2]) ∧ StAt w' gs (remO x n s).1 ∧ Below u.heap.size u w') := fun u hu => Remove_law ss n s x u (HS.out.on hu) HFR.out
  clear HFT HFR
  generalize putO x o = r at HPO HPL
  generalize remO x n s = q at HRO HRL
  obtain ⟨y, ba, k⟩ := r
  obtain ⟨z, bb⟩ := q
  have HRS : Hid (u2.rangeAt (w.heap.size) 0 ss) := HH2.out.get 1 rfl
  have HRC : Hid (u2.rangeAt (w.heap.size + 1) 0 cs) := HH2.out.get 0 rfl
  go_wp2_with (first | (refine BigFrame.wpList_want rfl (fun _ hKK => wp_load_mid 61 _ rfl (w.heap.size) 0 rfl ss _ HRS.out underlying61 rfl his (hKK _ _ ?_))) | (refine BigFrame.wpList_want rfl (fun _ hKK => wp_load_mid 46 _ rfl (w.heap.size + 1) 0 rfl cs _ HRC.out underlying46 rfl hi (hKK _ _ ?_))) | fail)
  clear HRS HRC
  refine (HPL.out _ HH2.out.below).mono ?_
  rintro e u3 ⟨gs, rfl, hst3, hb3⟩
  have hgl4 := hst3.len
  have hgo4 := all_oneCell_toArray hst3.one
  have higa4 : (prog.info? 61).map (·.size) = some gs.toArray.size := by simpa [hgl4] using infoSta
  have hig4 : (prog.info? 61).map (·.size) = some gs.length := by rw [hgl4]; exact infoSta
  have HF4 : Held w [(w.heap.size + 1, cs), (w.heap.size, ss)] [(u3.heap.size, 6)] (u3.alloc (.cells #[Z, Z, Z, Z, Z, Z] 61)) := (HH2.out.on hb3).room rfl #[Z, Z, Z, Z, Z, Z] 61
  have HT4 : Hid ((u3.alloc (.cells #[Z, Z, Z, Z, Z, Z] 61)).there u3.heap.size 0 gs.toArray.size) := by have := HF4.there 0 (b := u3.heap.size) rfl; simpa [Hid, hgl4] using this
  obtain ⟨u4, hu4⟩ : ∃ u4, u4 = (u3.alloc (.cells #[Z, Z, Z, Z, Z, Z] 61)).setCells u3.heap.size 0 gs := ⟨_, rfl⟩
  have HNE4 : ∀ x ∈ [(w.heap.size + 1, cs), (w.heap.size, ss)], x.1 ≠ u3.heap.size := fun y hy => Nat.ne_of_lt ((HH2.out.on hb3).2.1 y hy).2.1
  have HH4 : Hid (Held w [(u3.heap.size, gs), (w.heap.size + 1, cs), (w.heap.size, ss)] [] u4) := by rw [Hid, hu4]; exact HF4.store hgl4 HNE4
  have HB4 : Hid (Below u3.heap.size u3 u4) := by rw [Hid, hu4]; exact below_setCells ((Below.refl _ u3).alloc (Nat.le_refl _) _) (Nat.le_refl _)
  have HS4 : Hid (StAt u4 gs (y)) := hst3.on HB4.out
  have HE4 : Hid (u4 = (u3.alloc (.cells #[Z, Z, Z, Z, Z, Z] 61)).setCells u3.heap.size 0 gs) := hu4
  clear hu4 HF4 HNE4 hgl4
  have HRS : Hid (u4.rangeAt (w.heap.size) 0 ss) := HH4.out.get 2 rfl
  clear HH2 hst3 hb3 HPL
  go_wp2_with (first | (refine wpList_store_mid rfl 61 _ _ rfl u3.heap.size 0 gs.toArray rfl rfl HT4.out higa4 hgo4 ?_; refine wpl_at HE4.out ?_) | (refine BigFrame.wpList_want rfl (fun _ hKK => wp_load_mid 61 _ rfl (w.heap.size) 0 rfl ss _ HRS.out underlying61 rfl his (hKK _ _ ?_))) | fail)
  clear HRS HT4 HE4
  generalize u3.heap.size = D at HH4 HB4 ⊢
  refine (HRL.out _ HH4.out.below).mono ?_
  rintro e u5 ⟨ds, rfl, hst5, hb5⟩
  have hgl6 := hst5.len
  have hgo6 := all_oneCell_toArray hst5.one
  have higa6 : (prog.info? 61).map (·.size) = some ds.toArray.size := by simpa [hgl6] using infoSta
  have hig6 : (prog.info? 61).map (·.size) = some ds.length := by rw [hgl6]; exact infoSta
  have HF6 : Held w [(D, gs), (w.heap.size + 1, cs), (w.heap.size, ss)] [(u5.heap.size, 6)] (u5.alloc (.cells #[Z, Z, Z, Z, Z, Z] 61)) := (HH4.out.on hb5).room rfl #[Z, Z, Z, Z, Z, Z] 61
  have HT6 : Hid ((u5.alloc (.cells #[Z, Z, Z, Z, Z, Z] 61)).there u5.heap.size 0 ds.toArray.size) := by have := HF6.there 0 (b := u5.heap.size) rfl; simpa [Hid, hgl6] using this
  obtain ⟨u6, hu6⟩ : ∃ u6, u6 = (u5.alloc (.cells #[Z, Z, Z, Z, Z, Z] 61)).setCells u5.heap.size 0 ds := ⟨_, rfl⟩
  have HNE6 : ∀ x ∈ [(D, gs), (w.heap.size + 1, cs), (w.heap.size, ss)], x.1 ≠ u5.heap.size := fun y hy => Nat.ne_of_lt ((HH4.out.on hb5).2.1 y hy).2.1
  have HH6 : Hid (Held w [(u5.heap.size, ds), (D, gs), (w.heap.size + 1, cs), (w.heap.size, ss)] [] u6) := by rw [Hid, hu6]; exact HF6.store hgl6 HNE6
  have HB6 : Hid (Below u5.heap.size u5 u6) := by rw [Hid, hu6]; exact below_setCells ((Below.refl _ u5).alloc (Nat.le_refl _) _) (Nat.le_refl _)
  have HS6 : Hid (StAt u6 ds (z)) := hst5.on HB6.out
  have HE6 : Hid (u6 = (u5.alloc (.cells #[Z, Z, Z, Z, Z, Z] 61)).setCells u5.heap.size 0 ds) := hu6
  clear hu6 HF6 HNE6 hgl6
  have HSG : Hid (StAt u6 gs y) := (HS4.out.on hb5).on HB6.out
  clear HH4 hst5 hb5 HRL HS4 HB4
  have HRD : Hid (u6.rangeAt D 0 gs) := HH6.out.get 1 rfl
  have HRE : Hid (u6.rangeAt u5.heap.size 0 ds) := HH6.out.get 0 rfl
  have HZ : Hid (checkS z = 0) := (checkS_ok z).2 HRO.out
  have HCZ : Hid (∀ u, Below u6.heap.size u6 u → Calls prog 17 #[.agg ds.toArray] u fun e w' => e = .returned (.int .i64 0) ∧ Below u.heap.size u w') := fun u hu => by have := CheckState_calls ds _ z u (HS6.out.on hu); rwa [HZ.out] at this
  by_cases hk : k = 0
  ·
   subst hk
   have HY : Hid (checkS y = 0) := (checkS_ok y).2 (HPO.out rfl)
   have HCY : Hid (∀ u, Below u6.heap.size u6 u → Calls prog 17 #[.agg gs.toArray] u fun e w' => e = .returned (.int .i64 0) ∧ Below u.heap.size u w') := fun u hu => by have := CheckState_calls gs _ y u (HSG.out.on hu); rwa [HY.out] at this
   clear HPO HRO HZ HY HSG
   go_wp2_with (first | (refine wpList_store_mid rfl 61 _ _ rfl u5.heap.size 0 ds.toArray rfl rfl HT6.out higa6 hgo6 ?_; refine wpl_at HE6.out ?_) | (refine BigFrame.wpList_want rfl (fun _ hKK => wp_load_mid 61 _ rfl (D) 0 rfl gs _ HRD.out underlying61 rfl hig4 (hKK _ _ ?_))) | fail)
   refine (HCY.out _ (Below.refl _ _)).mono ?_
   rintro e u7 ⟨rfl, hb7⟩
   have HRE7 : Hid (u7.rangeAt u5.heap.size 0 ds) := range_on HRE.out hb7 (HH6.out.lt 0 rfl)
   go_wp2_with (first | (refine BigFrame.wpList_want rfl (fun _ hKK => wp_load_mid 61 _ rfl (u5.heap.size) 0 rfl ds _ HRE7.out underlying61 rfl hig6 (hKK _ _ ?_))) | fail)
   refine (HCZ.out _ hb7).mono ?_
   rintro e u8 ⟨rfl, hb8⟩
   go_wp2_with fail
   go_ret
   exact ⟨rfl, on2 (on2 HH6.out.below hb7) hb8⟩
  ·
   have ht : (k != 0) = true := by simpa using hk
   clear HPO HRO HZ HSG hk
   go_wp2_with (first | (refine wpList_store_mid rfl 61 _ _ rfl u5.heap.size 0 ds.toArray rfl rfl HT6.out higa6 hgo6 ?_; refine wpl_at HE6.out ?_) | (refine BigFrame.wpList_want rfl (fun _ hKK => wp_load_mid 61 _ rfl (u5.heap.size) 0 rfl ds _ HRE.out underlying61 rfl hig6 (hKK _ _ ?_))) | fail)
   refine (HCZ.out _ (Below.refl _ _)).mono ?_
   rintro e u8 ⟨rfl, hb8⟩
   go_wp2_with fail
   go_ret
   exact ⟨rfl, on2 HH6.out.below hb8⟩
 ·
  have ht : (k != 0) = true := by simpa using hk
  clear hok hk
  go_wp2_with fail
  go_ret
  exact ⟨rfl, HH2.out.below⟩
def zeroObj : Value := .agg (.int .i64 0 :: .string ByteArray.empty :: .int .i64 0 :: Z :: .int .i64 0 :: .int .i64 0 :: .int .i64 0 :: Z :: Z :: Z :: Z :: Z :: Z :: Z :: Z :: .string ByteArray.empty :: .string ByteArray.empty :: .string ByteArray.empty :: Z :: Z :: .bool false :: .int .i64 0 :: .int .i64 0 :: .int .i64 0 :: .int .i64 0 :: .int .i64 0 :: .string ByteArray.empty :: .int .i64 0 :: .string ByteArray.empty :: Z :: .string ByteArray.empty :: .string ByteArray.empty :: .int .i64 0 :: .string ByteArray.empty :: .string ByteArray.empty :: .string ByteArray.empty :: .bool false :: .string ByteArray.empty :: Z :: .int .i64 0 :: [] : List Value).toArray
theorem reads (os : Os) {H : Type} (enc : TypeId × Value → H) : ∃ places, DataW.whole enc prog ((World.holding prog os ⟨#[], #[], []⟩).forCall (fun _ _ => 0) ⟨#[], #[.agg #[Z, Z, Z, Z, Z, Z], zeroObj, .int .i64 0, .string ByteArray.empty], []⟩).memory Tryz.f6.params.toList Rows.objectStaysSpec.vars false #[(.agg #[Z, Z, Z, Z, Z, Z] : Value), (zeroObj : Value), (.int .i64 0 : Value), (.string ByteArray.empty : Value)].toList 8 = some ([.agg [.nil, .nil, .nil, .nil, .nil, .nil], .agg [.lit (.int .i64 0), .agg [.lit (.string []), .lit (.int .i64 0), .nil, .agg [.lit (.int .i64 0), .lit (.int .i64 0), .lit (.int .i64 0)], .nil, .nil, .nil, .nil, .nil, .nil, .nil, .nil, .lit (.string []), .lit (.string [])], .agg [.lit (.string []), .nil, .nil, .lit (.bool false), .agg [.lit (.int .i64 0), .lit (.int .i64 0), .lit (.int .i64 0)], .lit (.int .i64 0), .lit (.int .i64 0)], .agg [.lit (.string []), .lit (.int .i64 0), .lit (.string []), .nil, .lit (.string [])], .agg [.lit (.string []), .lit (.int .i64 0), .lit (.string []), .lit (.string [])], .agg [.lit (.string []), .lit (.bool false)], .agg [.lit (.string []), .nil, .lit (.int .i64 0)]], .lit (.int .i64 0), .lit (.string [])], [], places) :=
 ⟨[], by kernel_rfl⟩
theorem params_ok : ∀ t ∈ Tryz.f6.params.toList, prog.readableRec t = true ∧ t < prog.types.size := by
 rw [Tryz.params6]
 have hall : ([61, 46, 3, 9].all fun u => prog.readableRec u && decide (u < prog.types.size)) = true := by kernel_rfl
 intro t ht
 simpa using List.all_eq_true.1 hall t (by simpa using ht)
theorem contract (H : Type) (enc : TypeId × Value → H) (W : World) (base : Nat) (args : Array Value) (ds gs : List (DataW H)) (before : List MemPlace)
  (hval : ∀ (j : Nat) t v, Tryz.f6.params[j]? = some t → args[j]? = some v → Value.okWide prog W .any base t v)
  (hW : DataW.Whole enc prog Tryz.f6.params.toList Rows.objectStaysSpec.vars false W args.toList ds gs before) (hsz : (DataW.weightsEach prog (Tryz.f6.params.toList ++ Rows.objectStaysSpec.plain.varTypes prog) (ds ++ gs)).all (· ≤ reachBytes) = true) :
  Calls prog 6 args W fun e W' => ∃ v, e = .returned v ∧ Rows.objectStaysSpec.post enc prog Tryz.f6 false true false false W args v W' := by
 have hW' := hW
 obtain ⟨p, q, hA0, hV, rfl, hfz, hnd⟩ := hW
 have hA : DataW.TrodAll enc prog W 0 (fun _ => true) true Tryz.f6.params.toList args.toList ds p := hA0
 rw [Tryz.params6] at hA hval
 obtain ⟨v0, vs0, d0, ds0, p0, q0, hargs, rfl, rfl, h0, r0⟩ := trodAll_cons hA
 obtain ⟨v1, vs1, d1, ds1, p1, q1, rfl, rfl, rfl, h1, r1⟩ := trodAll_cons r0
 obtain ⟨v2, vs2, d2, ds2, p2, q2, rfl, rfl, rfl, h2, r2⟩ := trodAll_cons r1
 obtain ⟨v3, vs3, d3, ds3, p3, q3, rfl, rfl, rfl, h3, r3⟩ := trodAll_cons r2
 obtain ⟨rfl, rfl, rfl⟩ := trodAll_nil r3
 obtain rfl : args = #[v0, v1, v2, v3] := by cases args; simp_all
 obtain ⟨rfl, rfl⟩ := trodVars_none hV
 have l0 := light_arg hsz (j := 0) (t := 61) (by rw [Tryz.params6]; rfl) rfl
 obtain ⟨cc0, y0, rfl, hy0⟩ := opens_arg underlying61 opens_State (hval 0 61 v0 rfl rfl) h0 l0
 obtain ⟨c0, rfl⟩ : ∃ c : List Value, cc0 = c.toArray := ⟨cc0.toList, by simp⟩
 have hz0 := hy0
 have l1 := light_arg hsz (j := 1) (t := 46) (by rw [Tryz.params6]; rfl) rfl
 obtain ⟨cc1, y1, rfl, hy1⟩ := opens_arg underlying46 opens_Object (hval 1 46 v1 rfl rfl) h1 l1
 obtain ⟨c1, rfl⟩ : ∃ c : List Value, cc1 = c.toArray := ⟨cc1.toList, by simp⟩
 have hz1 := hy1
 have l2 := light_arg hsz (j := 2) (t := 3) (by rw [Tryz.params6]; rfl) rfl
 obtain ⟨n2, rfl, rfl, rfl, w2⟩ := open_int underlying3 (hval 2 3 v2 rfl rfl) h2
 have l3 := light_arg hsz (j := 3) (t := 9) (by rw [Tryz.params6]; rfl) rfl
 obtain ⟨s3, rfl, rfl, rfl, w3⟩ := Go.ChangeMaps.open_string underlying9 (hval 3 9 v3 rfl rfl) h3
 have z3 : s3.size ≤ 140737488355328 := by have := l3 s3.data.toList.length (by simp [DataW.weights]); simp at this; omega
 refine (walk c0 y0 c1 y1 n2 s3 W hy0 hy1 z3).mono fun e W' ⟨he, hb⟩ => ?_
 subst he
 exact ⟨_, rfl, law_post laidOut params_ok rfl (tb := 4) (by kernel_rfl) underlying4 rfl hW' hb⟩
theorem lifted (os : Os) (started : os.Started) (H : Type) (enc : TypeId × Value → H) (F : Stop.Interp) :
  ReturnsInHanded {} Tryz.checked os 6 .any ((OpenSpec.ofChange Rows.objectStaysSpec).preRow enc prog Tryz.f6 Rows.objectStaysRow.domain false Rows.objectStaysRow.laid) (((OpenSpec.ofChange Rows.objectStaysSpec).at F).post enc prog Tryz.f6 false true false false) := by
 obtain ⟨places, hx⟩ := reads os enc
 refine returnsInHanded_of_row (C := Tryz.checked) (s := (OpenSpec.ofChange Rows.objectStaysSpec)) own started (by kernel_rfl) func6
  (witness_row_at (enc := enc) (C := Tryz.checked) false (World.holding prog os ⟨#[], #[], []⟩) #[.agg #[Z, Z, Z, Z, Z, Z], zeroObj, .int .i64 0, .string ByteArray.empty] rfl (by kernel_rfl) (by kernel_rfl) (by kernel_rfl)
   (OpenSpec.preRow_of_cond 8 hx (by kernel_rfl) (fun k hk => by cases hk) (by kernel_rfl) ⟨[], rfl, List.Pairwise.nil, fun _ _ h => by cases h⟩)) ?_
 intro W base args ds gs before hval hW _ _ hsz _ _ _
 exact contract H enc W base args ds gs before hval hW hsz
theorem said : Rows.ObjectStaysSaid :=
 OpenClaim.holds_of_cond 6 Tryz.f6 rfl rfl rfl rfl rfl rfl rfl ⟨rfl, rfl, rfl, rfl, rfl⟩ rfl rfl rfl rfl rfl (by kernel_rfl) func6 (by kernel_rfl)
  (of_decide_eq_true (by kernel_rfl)) (by unfold Func.isWrapper; first | (rw [if_pos (by decide +kernel)]; kernel_rfl) | (rw [if_neg (by decide +kernel)]; exact ⟨rfl, rfl⟩))
  (fun os started H enc _ F => by rw [OpenClaim.pre_eq_preRow]; exact lifted os started H enc F)
end Go.Proofs.YtopimokncibdgaaGreat.objectStays
namespace Go.Proofs.YtopimokncibdgaaGreat
theorem objectStays_holds : Rows.ObjectStaysSaid := objectStays.said
end Go.Proofs.YtopimokncibdgaaGreat

