/- The document's All of any kind, and what is right of it, and its like. No condition beyond what each says. -/
import Derived.Test.YtfbnnfpnjjjfcaaGreatS42
import Derived.Test.YtfbnnfpnjjjfcaaGreatS43
namespace Go.Proofs.YtfbnnfpnjjjfcaaGreat
set_option maxHeartbeats 16000000
set_option maxRecDepth 100000
open Tryz Go.RowKit
set_option linter.unusedSimpArgs false
def allO (x : StateD) (j : Nat) : List ObjectD := match j with
 | 0 => x.1.map oPod
 | 1 => x.2.1.map oNode
 | 2 => x.2.2.1.map oVolume
 | 3 => x.2.2.2.1.map oClaim
 | 4 => x.2.2.2.2.1.map oClass
 | 5 => x.2.2.2.2.2.map oBudget
 | _ => []
def FitsO (x : StateD) : Prop := x.1.length * 624 ≤ 140737488351232 ∧ x.2.1.length * 624 ≤ 140737488351232 ∧ x.2.2.1.length * 624 ≤ 140737488351232 ∧ x.2.2.2.1.length * 624 ≤ 140737488351232 ∧ x.2.2.2.2.1.length * 624 ≤ 140737488351232 ∧ x.2.2.2.2.2.length * 624 ≤ 140737488351232
theorem rAll_all (ss : List Value) (A : Where) (x : StateD) (w : World) (h : RState A w ss x) (hf : FitsO x) (j : Nat) (hj : j < 6) : Calls prog 27 #[.agg ss.toArray, .int .i64 ((j : Int) + 1)] w fun e w' => ∃ a cap, e = .returned (.slice a (allO x j).length cap) ∧ SlAt RObject 40 624 (fun b => A b ∨ Fresh w b) w' a (allO x j).length cap (allO x j) ∧ Below w.heap.size w w' := by
 obtain ⟨f0, f1, f2, f3, f4, f5⟩ := hf
 have hc : j = 0 ∨ j = 1 ∨ j = 2 ∨ j = 3 ∨ j = 4 ∨ j = 5 := by omega
 rcases hc with rfl | rfl | rfl | rfl | rfl | rfl
 ·
  simpa [allO] using rAll_Pod ss A x w h f0
 ·
  simpa [allO] using rAll_Node ss A x w h f1
 ·
  simpa [allO] using rAll_Volume ss A x w h f2
 ·
  simpa [allO] using rAll_Claim ss A x w h f3
 ·
  simpa [allO] using rAll_Class ss A x w h f4
 ·
  simpa [allO] using rAll_Budget ss A x w h f5
theorem nil0 : sNil ⟨#[]⟩ = true := (sNil_iff _).2 rfl
theorem bl_Node : blankNode dNode = true := (blankNode_iff _).2 rfl
theorem bl_Volume : blankVolume dVolume = true := (blankVolume_iff _).2 rfl
theorem bl_Budget : blankBudget dBudget = true := (blankBudget_iff _).2 rfl
theorem bl_Pod : blankPod dPod = true := by simp [blankPod, dPod, emptyL, resZ, nil0]
theorem bl_Claim : blankClaim dClaim = true := by simp [blankClaim, dClaim, nil0]
theorem bl_Class : blankClass dClass = true := by simp [blankClass, dClass, nil0]
theorem chk_Pod (y : PodD) : (checkO (oPod y) == 0) = rightPod y := by
 have h1 : othersB (oPod y) = true := by rw [othersPod (oPod y) rfl]; simp [oPod, bl_Pod, bl_Node, bl_Volume, bl_Claim, bl_Class, bl_Budget]
 have h2 : rightO (oPod y) = rightPod y := by simp [rightO, oPod]
 rw [checkO, if_pos (by simp [oPod]), h1, h2, Bool.and_true]
 cases rightPod y <;> rfl
theorem nam_Pod (y : PodD) : nameO (oPod y) = y.1 := by simp [nameO, oPod]
theorem chk_Node (y : NodeD) : (checkO (oNode y) == 0) = rightNode y := by
 have h1 : othersB (oNode y) = true := by rw [othersNode (oNode y) rfl]; simp [oNode, bl_Pod, bl_Node, bl_Volume, bl_Claim, bl_Class, bl_Budget]
 have h2 : rightO (oNode y) = rightNode y := by simp [rightO, oNode]
 rw [checkO, if_pos (by simp [oNode]), h1, h2, Bool.and_true]
 cases rightNode y <;> rfl
theorem nam_Node (y : NodeD) : nameO (oNode y) = y.1 := by simp [nameO, oNode]
theorem chk_Volume (y : VolumeD) : (checkO (oVolume y) == 0) = rightVolume y := by
 have h1 : othersB (oVolume y) = true := by rw [othersVolume (oVolume y) rfl]; simp [oVolume, bl_Pod, bl_Node, bl_Volume, bl_Claim, bl_Class, bl_Budget]
 have h2 : rightO (oVolume y) = rightVolume y := by simp [rightO, oVolume]
 rw [checkO, if_pos (by simp [oVolume]), h1, h2, Bool.and_true]
 cases rightVolume y <;> rfl
theorem nam_Volume (y : VolumeD) : nameO (oVolume y) = y.1 := by simp [nameO, oVolume]
theorem chk_Claim (y : ClaimD) : (checkO (oClaim y) == 0) = rightClaim y := by
 have h1 : othersB (oClaim y) = true := by rw [othersClaim (oClaim y) rfl]; simp [oClaim, bl_Pod, bl_Node, bl_Volume, bl_Claim, bl_Class, bl_Budget]
 have h2 : rightO (oClaim y) = rightClaim y := by simp [rightO, oClaim]
 rw [checkO, if_pos (by simp [oClaim]), h1, h2, Bool.and_true]
 cases rightClaim y <;> rfl
theorem nam_Claim (y : ClaimD) : nameO (oClaim y) = y.1 := by simp [nameO, oClaim]
theorem chk_Class (y : ClassD) : (checkO (oClass y) == 0) = rightClass y := by
 have h1 : othersB (oClass y) = true := by rw [othersClass (oClass y) rfl]; simp [oClass, bl_Pod, bl_Node, bl_Volume, bl_Claim, bl_Class, bl_Budget]
 have h2 : rightO (oClass y) = rightClass y := by simp [rightO, oClass]
 rw [checkO, if_pos (by simp [oClass]), h1, h2, Bool.and_true]
 cases rightClass y <;> rfl
theorem nam_Class (y : ClassD) : nameO (oClass y) = y.1 := by simp [nameO, oClass]
theorem chk_Budget (y : BudgetD) : (checkO (oBudget y) == 0) = rightBudget y := by
 have h1 : othersB (oBudget y) = true := by rw [othersBudget (oBudget y) rfl]; simp [oBudget, bl_Pod, bl_Node, bl_Volume, bl_Claim, bl_Class, bl_Budget]
 have h2 : rightO (oBudget y) = rightBudget y := by simp [rightO, oBudget]
 rw [checkO, if_pos (by simp [oBudget]), h1, h2, Bool.and_true]
 cases rightBudget y <;> rfl
theorem nam_Budget (y : BudgetD) : nameO (oBudget y) = y.1 := by simp [nameO, oBudget]
theorem getD_map {α β : Type} [Inhabited α] [Inhabited β] (g : α → β) {L : List α} {i : Nat} (h : i < L.length) : (L.map g).getD i default = g (L.getD i default) := by
 rw [getE _ _ (by rw [List.length_map]; exact h), getE _ _ h, List.getElem_map]
def okI (O : List ObjectD) (t : Nat) : Bool := (checkO (O.getD t default) == 0) && (decide (t = 0) || sLt (nameO (O.getD (t - 1) default)) (nameO (O.getD t default)))
theorem okI_all {α : Type} [Inhabited α] (g : α → ObjectD) (r : α → Bool) (nm : α → ByteArray) (hr : ∀ y, (checkO (g y) == 0) = r y) (hn : ∀ y, nameO (g y) = nm y) (L : List α) : allTo (L.map g).length (okI (L.map g)) = (L.all r && risesBy sLt nm L) := by
 have e : ∀ t, t < L.length → okI (L.map g) t = (r (L.getD t default) && (decide (t = 0) || sLt (nm (L.getD (t - 1) default)) (nm (L.getD t default)))) := fun t ht => by
  rw [okI, getD_map g ht, getD_map g (by omega), hr, hn, hn]
 rw [List.length_map, Bool.eq_iff_iff, allTo_iff, Bool.and_eq_true, risesBy, allTo_iff]
 constructor
 ·
  intro h
  refine ⟨all_to r (fun t ht => ?_), fun t ht => ?_⟩
  ·
   have := h t ht; rw [e t ht, Bool.and_eq_true] at this; exact this.1
  ·
   have := h t ht; rw [e t ht, Bool.and_eq_true] at this; exact this.2
 ·
  rintro ⟨h1, h2⟩ t ht
  rw [e t ht, Bool.and_eq_true]
  refine ⟨?_, h2 t ht⟩
  rw [List.all_eq_true] at h1
  rw [getE _ _ ht]
  exact h1 _ (List.getElem_mem ht)
theorem okR_all (x : StateD) (j : Nat) (hj : j < 6) : okR x j = allTo (allO x j).length (okI (allO x j)) := by
 have hc : j = 0 ∨ j = 1 ∨ j = 2 ∨ j = 3 ∨ j = 4 ∨ j = 5 := by omega
 rcases hc with rfl | rfl | rfl | rfl | rfl | rfl
 ·
  exact (okI_all oPod rightPod (fun y => y.1) chk_Pod nam_Pod _).symm
 ·
  exact (okI_all oNode rightNode (fun y => y.1) chk_Node nam_Node _).symm
 ·
  exact (okI_all oVolume rightVolume (fun y => y.1) chk_Volume nam_Volume _).symm
 ·
  exact (okI_all oClaim rightClaim (fun y => y.1) chk_Claim nam_Claim _).symm
 ·
  exact (okI_all oClass rightClass (fun y => y.1) chk_Class nam_Class _).symm
 ·
  exact (okI_all oBudget rightBudget (fun y => y.1) chk_Budget nam_Budget _).symm
theorem okC_all (x : StateD) (j : Nat) (hj : j < 6) : okC x j = decide ((allO x j).length ≤ 256) := by
 have hc : j = 0 ∨ j = 1 ∨ j = 2 ∨ j = 3 ∨ j = 4 ∨ j = 5 := by omega
 rcases hc with rfl | rfl | rfl | rfl | rfl | rfl <;> simp [okC, allO]
theorem pair_str {α : Type} {Q : Rep α} {A : Where} {w : World} {c : List Value} {y : ByteArray × α} (h : RPair RStr Q A w c y) : c[0]? = some (.string y.1) := by
 obtain ⟨c0, d0, rfl, ⟨rfl, _⟩, _⟩ := h; rfl
theorem rName_Pod (cs : List Value) (A : Where) (x : ObjectD) (w : World) (h : RObject A w cs x) (hk : x.1 = 1) : Calls prog 12 #[.agg cs.toArray] w fun e w' => e = .returned (.string (nameO x)) ∧ Below w.heap.size w w' := by
 obtain ⟨p, n, v, m, l, b, hcs, hp, hn, hv, hm, hl, hb⟩ := objParts h
 rw [hk] at hcs
 have HF : Hid (nameO x = x.2.1.1) := by simp [Hid, nameO, hk]
 obtain ⟨U0, hU0⟩ : ∃ U0, U0 = w.alloc (.cells cs.toArray 46) := ⟨_, rfl⟩
 have H1 : Hid (Held w [(w.heap.size, cs)] [] U0) := by rw [Hid, hU0]; exact (Held.start w).push rfl cs 46
 have r := objR (k := 1) (hcs ▸ H1.out.get 0 rfl) (obj_len hp hn hv hm hl hb)
 have z0 := r.k
 have z1 : U0.cell? ⟨w.heap.size, 1, none⟩ = some (.string x.2.1.1) := by have := r.p 0 _ (pair_str hp); simpa using this
 have kl := H1.out.lt 0 rfl
 clear r h hk hp hn hv hm hl hb hcs
 go_enter func12, ntmps12
 go_upto_region 1 with fail
 rw [← hU0]
 clear hU0
 go_wp2_with fail
 go_ret
 exact ⟨by rw [HF.out] <;> rfl, H1.out.below⟩
theorem rName_Node (cs : List Value) (A : Where) (x : ObjectD) (w : World) (h : RObject A w cs x) (hk : x.1 = 2) : Calls prog 12 #[.agg cs.toArray] w fun e w' => e = .returned (.string (nameO x)) ∧ Below w.heap.size w w' := by
 obtain ⟨p, n, v, m, l, b, hcs, hp, hn, hv, hm, hl, hb⟩ := objParts h
 rw [hk] at hcs
 have HF : Hid (nameO x = x.2.2.1.1) := by simp [Hid, nameO, hk]
 obtain ⟨U0, hU0⟩ : ∃ U0, U0 = w.alloc (.cells cs.toArray 46) := ⟨_, rfl⟩
 have H1 : Hid (Held w [(w.heap.size, cs)] [] U0) := by rw [Hid, hU0]; exact (Held.start w).push rfl cs 46
 have r := objR (k := 2) (hcs ▸ H1.out.get 0 rfl) (obj_len hp hn hv hm hl hb)
 have z0 := r.k
 have z1 : U0.cell? ⟨w.heap.size, 17, none⟩ = some (.string x.2.2.1.1) := by have := r.n 0 _ (pair_str hn); simpa using this
 have kl := H1.out.lt 0 rfl
 clear r h hk hp hn hv hm hl hb hcs
 go_enter func12, ntmps12
 go_upto_region 1 with fail
 rw [← hU0]
 clear hU0
 go_wp2_with fail
 go_ret
 exact ⟨by rw [HF.out] <;> rfl, H1.out.below⟩
theorem rName_Volume (cs : List Value) (A : Where) (x : ObjectD) (w : World) (h : RObject A w cs x) (hk : x.1 = 3) : Calls prog 12 #[.agg cs.toArray] w fun e w' => e = .returned (.string (nameO x)) ∧ Below w.heap.size w w' := by
 obtain ⟨p, n, v, m, l, b, hcs, hp, hn, hv, hm, hl, hb⟩ := objParts h
 rw [hk] at hcs
 have HF : Hid (nameO x = x.2.2.2.1.1) := by simp [Hid, nameO, hk]
 obtain ⟨U0, hU0⟩ : ∃ U0, U0 = w.alloc (.cells cs.toArray 46) := ⟨_, rfl⟩
 have H1 : Hid (Held w [(w.heap.size, cs)] [] U0) := by rw [Hid, hU0]; exact (Held.start w).push rfl cs 46
 have r := objR (k := 3) (hcs ▸ H1.out.get 0 rfl) (obj_len hp hn hv hm hl hb)
 have z0 := r.k
 have z1 : U0.cell? ⟨w.heap.size, 26, none⟩ = some (.string x.2.2.2.1.1) := by have := r.v 0 _ (pair_str hv); simpa using this
 have kl := H1.out.lt 0 rfl
 clear r h hk hp hn hv hm hl hb hcs
 go_enter func12, ntmps12
 go_upto_region 1 with fail
 rw [← hU0]
 clear hU0
 go_wp2_with fail
 go_ret
 exact ⟨by rw [HF.out] <;> rfl, H1.out.below⟩
theorem rName_Claim (cs : List Value) (A : Where) (x : ObjectD) (w : World) (h : RObject A w cs x) (hk : x.1 = 4) : Calls prog 12 #[.agg cs.toArray] w fun e w' => e = .returned (.string (nameO x)) ∧ Below w.heap.size w w' := by
 obtain ⟨p, n, v, m, l, b, hcs, hp, hn, hv, hm, hl, hb⟩ := objParts h
 rw [hk] at hcs
 have HF : Hid (nameO x = x.2.2.2.2.1.1) := by simp [Hid, nameO, hk]
 obtain ⟨U0, hU0⟩ : ∃ U0, U0 = w.alloc (.cells cs.toArray 46) := ⟨_, rfl⟩
 have H1 : Hid (Held w [(w.heap.size, cs)] [] U0) := by rw [Hid, hU0]; exact (Held.start w).push rfl cs 46
 have r := objR (k := 4) (hcs ▸ H1.out.get 0 rfl) (obj_len hp hn hv hm hl hb)
 have z0 := r.k
 have z1 : U0.cell? ⟨w.heap.size, 31, none⟩ = some (.string x.2.2.2.2.1.1) := by have := r.m 0 _ (pair_str hm); simpa using this
 have kl := H1.out.lt 0 rfl
 clear r h hk hp hn hv hm hl hb hcs
 go_enter func12, ntmps12
 go_upto_region 1 with fail
 rw [← hU0]
 clear hU0
 go_wp2_with fail
 go_ret
 exact ⟨by rw [HF.out] <;> rfl, H1.out.below⟩
theorem rName_Class (cs : List Value) (A : Where) (x : ObjectD) (w : World) (h : RObject A w cs x) (hk : x.1 = 5) : Calls prog 12 #[.agg cs.toArray] w fun e w' => e = .returned (.string (nameO x)) ∧ Below w.heap.size w w' := by
 obtain ⟨p, n, v, m, l, b, hcs, hp, hn, hv, hm, hl, hb⟩ := objParts h
 rw [hk] at hcs
 have HF : Hid (nameO x = x.2.2.2.2.2.1.1) := by simp [Hid, nameO, hk]
 obtain ⟨U0, hU0⟩ : ∃ U0, U0 = w.alloc (.cells cs.toArray 46) := ⟨_, rfl⟩
 have H1 : Hid (Held w [(w.heap.size, cs)] [] U0) := by rw [Hid, hU0]; exact (Held.start w).push rfl cs 46
 have r := objR (k := 5) (hcs ▸ H1.out.get 0 rfl) (obj_len hp hn hv hm hl hb)
 have z0 := r.k
 have z1 : U0.cell? ⟨w.heap.size, 35, none⟩ = some (.string x.2.2.2.2.2.1.1) := by have := r.l 0 _ (pair_str hl); simpa using this
 have kl := H1.out.lt 0 rfl
 clear r h hk hp hn hv hm hl hb hcs
 go_enter func12, ntmps12
 go_upto_region 1 with fail
 rw [← hU0]
 clear hU0
 go_wp2_with fail
 go_ret
 exact ⟨by rw [HF.out] <;> rfl, H1.out.below⟩
theorem rName_Budget (cs : List Value) (A : Where) (x : ObjectD) (w : World) (h : RObject A w cs x) (hk : x.1 = 6) : Calls prog 12 #[.agg cs.toArray] w fun e w' => e = .returned (.string (nameO x)) ∧ Below w.heap.size w w' := by
 obtain ⟨p, n, v, m, l, b, hcs, hp, hn, hv, hm, hl, hb⟩ := objParts h
 rw [hk] at hcs
 have HF : Hid (nameO x = x.2.2.2.2.2.2.1) := by simp [Hid, nameO, hk]
 obtain ⟨U0, hU0⟩ : ∃ U0, U0 = w.alloc (.cells cs.toArray 46) := ⟨_, rfl⟩
 have H1 : Hid (Held w [(w.heap.size, cs)] [] U0) := by rw [Hid, hU0]; exact (Held.start w).push rfl cs 46
 have r := objR (k := 6) (hcs ▸ H1.out.get 0 rfl) (obj_len hp hn hv hm hl hb)
 have z0 := r.k
 have z1 : U0.cell? ⟨w.heap.size, 37, none⟩ = some (.string x.2.2.2.2.2.2.1) := by have := r.b 0 _ (pair_str hb); simpa using this
 have kl := H1.out.lt 0 rfl
 clear r h hk hp hn hv hm hl hb hcs
 go_enter func12, ntmps12
 go_upto_region 1 with fail
 rw [← hU0]
 clear hU0
 go_wp2_with fail
 go_ret
 exact ⟨by rw [HF.out] <;> rfl, H1.out.below⟩
theorem rName_no (cs : List Value) (A : Where) (x : ObjectD) (w : World) (h : RObject A w cs x) (hk : ¬ (1 ≤ x.1 ∧ x.1 ≤ 6)) : Calls prog 12 #[.agg cs.toArray] w fun e w' => e = .returned (.string (nameO x)) ∧ Below w.heap.size w w' := by
 obtain ⟨p, n, v, m, l, b, hcs, hp, hn, hv, hm, hl, hb⟩ := objParts h
 have HF : Hid (nameO x = ⟨#[]⟩) := by simp only [Hid, nameO]; rw [if_neg (by omega), if_neg (by omega), if_neg (by omega), if_neg (by omega), if_neg (by omega), if_neg (by omega)]
 obtain ⟨k, hk0⟩ : ∃ k, x.1 = k := ⟨_, rfl⟩
 rw [hk0] at hk hcs
 have k1 : (k == 1) = false := by rw [beq_eq_false_iff_ne]; omega
 have k2 : (k == 2) = false := by rw [beq_eq_false_iff_ne]; omega
 have k3 : (k == 3) = false := by rw [beq_eq_false_iff_ne]; omega
 have k4 : (k == 4) = false := by rw [beq_eq_false_iff_ne]; omega
 have k5 : (k == 5) = false := by rw [beq_eq_false_iff_ne]; omega
 have k6 : (k == 6) = false := by rw [beq_eq_false_iff_ne]; omega
 obtain ⟨U0, hU0⟩ : ∃ U0, U0 = w.alloc (.cells cs.toArray 46) := ⟨_, rfl⟩
 have H1 : Hid (Held w [(w.heap.size, cs)] [] U0) := by rw [Hid, hU0]; exact (Held.start w).push rfl cs 46
 have HS0 : U0.heap.size = w.heap.size + 1 := by rw [hU0]; simp
 have z0 := (objR (k := k) (hcs ▸ H1.out.get 0 rfl) (obj_len hp hn hv hm hl hb)).k
 have kl0 := H1.out.lt 0 rfl
 clear h hk hp hn hv hm hl hb hcs hk0 HS0
 go_enter func12, ntmps12
 go_upto_region 1 with fail
 rw [← hU0]
 clear hU0
 go_wp2_with fail
 go_ret
 exact ⟨by rw [HF.out] <;> rfl, H1.out.below⟩
theorem rName_all (cs : List Value) (A : Where) (x : ObjectD) (w : World) (h : RObject A w cs x) : Calls prog 12 #[.agg cs.toArray] w fun e w' => e = .returned (.string (nameO x)) ∧ Below w.heap.size w w' := by
 by_cases hk : 1 ≤ x.1 ∧ x.1 ≤ 6
 ·
  have hc : x.1 = 1 ∨ x.1 = 2 ∨ x.1 = 3 ∨ x.1 = 4 ∨ x.1 = 5 ∨ x.1 = 6 := by omega
  rcases hc with hc | hc | hc | hc | hc | hc
  ·
   exact rName_Pod cs A x w h hc
  ·
   exact rName_Node cs A x w h hc
  ·
   exact rName_Volume cs A x w h hc
  ·
   exact rName_Claim cs A x w h hc
  ·
   exact rName_Class cs A x w h hc
  ·
   exact rName_Budget cs A x w h hc
 ·
  exact rName_no cs A x w h hk
theorem rCheck_no (cs : List Value) (A : Where) (x : ObjectD) (w : World) (h : RObject A w cs x) (hk : ¬ (1 ≤ x.1 ∧ x.1 ≤ 6)) : Calls prog 10 #[.agg cs.toArray] w fun e w' => e = .returned (.int .i64 (checkO x)) ∧ Below w.heap.size w w' := by
 obtain ⟨p, n, v, m, l, b, hcs, hp, hn, hv, hm, hl, hb⟩ := objParts h
 have HF : Hid (checkO x = 2) := by rw [Hid, checkO, if_neg hk]
 obtain ⟨k, hk0⟩ : ∃ k, x.1 = k := ⟨_, rfl⟩
 rw [hk0] at hk hcs
 have k1 : (k == 1) = false := by rw [beq_eq_false_iff_ne]; omega
 have k2 : (k == 2) = false := by rw [beq_eq_false_iff_ne]; omega
 have k3 : (k == 3) = false := by rw [beq_eq_false_iff_ne]; omega
 have k4 : (k == 4) = false := by rw [beq_eq_false_iff_ne]; omega
 have k5 : (k == 5) = false := by rw [beq_eq_false_iff_ne]; omega
 have k6 : (k == 6) = false := by rw [beq_eq_false_iff_ne]; omega
 obtain ⟨U0, hU0⟩ : ∃ U0, U0 = w.alloc (.cells cs.toArray 46) := ⟨_, rfl⟩
 have H1 : Hid (Held w [(w.heap.size, cs)] [] U0) := by rw [Hid, hU0]; exact (Held.start w).push rfl cs 46
 have HS0 : U0.heap.size = w.heap.size + 1 := by rw [hU0]; simp
 have z0 := (objR (k := k) (hcs ▸ H1.out.get 0 rfl) (obj_len hp hn hv hm hl hb)).k
 have kl0 := H1.out.lt 0 rfl
 have hiz : (prog.info? 46).map (·.size) = some (zC k).toArray.size := infoObj
 obtain ⟨U1, hU1⟩ : ∃ U, U = U0.alloc (.cells (zC 0).toArray 46) := ⟨_, rfl⟩
 have H1b : Held w [(w.heap.size, cs)] [(U0.heap.size, 40)] U1 := by rw [hU1]; exact H1.out.room rfl (zC 0).toArray _
 obtain ⟨U2, hU2⟩ : ∃ U, U = U1.setCells U0.heap.size 0 (zC k) := ⟨_, rfl⟩
 have H2 : Held w [(w.heap.size, cs)] [(U0.heap.size, 40)] U2 := by rw [hU2]; exact H1b.wroteAt 0 rfl (by simp; omega)
 have HT1 : Hid (U1.there U0.heap.size 0 (zC k).toArray.size) := there_sub (H1b.there 0 rfl) (Nat.le_refl _)
 have z1 := (objR (k := k) (hcs ▸ H2.get 0 rfl) (obj_len hp hn hv hm hl hb)).k
 have kl := H2.lt 0 rfl
 have HU2 : Hid (U2 = _) := hU2.trans (by rw [hU1])
 have HH2 := Hid.mk_ H2
 rw [hU1] at HT1
 clear h hk hp hn hv hm hl hb hcs hk0 hU1 hU2 H1b H2 HS0
 go_enter func10, ntmps10
 go_upto_region 1 with fail
 rw [← hU0]
 clear hU0
 go_wp2_with (first | (refine wpList_store_mid rfl 46 _ _ rfl U0.heap.size 0 (zC k).toArray rfl rfl HT1.out hiz (zC_one k) ?_; refine wpl_at HU2.out ?_) | fail)
 go_ret
 exact ⟨reti HF.out.symm, HH2.out.below⟩
theorem rCheck_all (cs : List Value) (A : Where) (x : ObjectD) (w : World) (h : RObject A w cs x) : Calls prog 10 #[.agg cs.toArray] w fun e w' => e = .returned (.int .i64 (checkO x)) ∧ Below w.heap.size w w' := by
 by_cases hk : 1 ≤ x.1 ∧ x.1 ≤ 6
 ·
  have hc : x.1 = 1 ∨ x.1 = 2 ∨ x.1 = 3 ∨ x.1 = 4 ∨ x.1 = 5 ∨ x.1 = 6 := by omega
  rcases hc with hc | hc | hc | hc | hc | hc
  ·
   exact rCheck_Pod cs A x w h hc
  ·
   exact rCheck_Node cs A x w h hc
  ·
   exact rCheck_Volume cs A x w h hc
  ·
   exact rCheck_Claim cs A x w h hc
  ·
   exact rCheck_Class cs A x w h hc
  ·
   exact rCheck_Budget cs A x w h hc
 ·
  exact rCheck_no cs A x w h hk
end Go.Proofs.YtfbnnfpnjjjfcaaGreat

