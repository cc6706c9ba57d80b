/- The document's All at Claim, and its like. No condition beyond what each says. -/
import Derived.Test.YtfbnnfpnjjjfcaaGreatS41
namespace Go.Proofs.YtfbnnfpnjjjfcaaGreat
set_option maxHeartbeats 16000000
set_option maxRecDepth 100000
open Tryz Go.RowKit
set_option linter.unusedSimpArgs false
theorem rAll_Claim (ss : List Value) (A : Where) (x : StateD) (w : World) (h : RState A w ss x) (hf : x.2.2.2.1.length * 624 ≤ 140737488351232) : Calls prog 27 #[.agg ss.toArray, .int .i64 4] w fun e w' => ∃ a cap, e = .returned (.slice a x.2.2.2.1.length cap) ∧ SlAt RObject 40 624 (fun b => A b ∨ Fresh w b) w' a x.2.2.2.1.length cap (x.2.2.2.1.map oClaim) ∧ Below w.heap.size w w' := by
 obtain ⟨h0, h1, h2, h3, h4, h5, rfl, q0, q1, q2, q3, q4, q5⟩ := h.out
 have SL : Hid (SlAt RClaim 4 56 (Lo A w) w h3.1 h3.2.1 h3.2.2 x.2.2.2.1) := q3.weak RClaim.firm (fun b hb h => ⟨h, hb⟩)
 have HN : Hid (x.2.2.2.1.length = h3.2.1) := q3.1
 generalize x.2.2.2.1 = L at SL hf HN ⊢
 obtain ⟨W1, hW1⟩ : ∃ W, W = w.alloc (.cells [J h0, J h1, J h2, J h3, J h4, J h5].toArray 61) := ⟨_, rfl⟩
 have HB1 : Hid (Held w [(w.heap.size, [J h0, J h1, J h2, J h3, J h4, J h5])] [] W1) := by rw [Hid, hW1]; exact (Held.start w).push rfl [J h0, J h1, J h2, J h3, J h4, J h5] 61
 have HR0 : Hid (Row RObject 40 (Lo A w) W1 (W1.alloc (.cells #[] 46)) 46 (.slice (some ⟨W1.heap.size, 0, none⟩) 0 0) ((L.take 0).map oClaim)) := Row.start _ W1 W1 _ (Below.refl _ _)
 have HF : Hid (L.length * 624 ≤ 140737488351232) := hf
 have hln := SL.out.len (by decide)
 clear h q0 q1 q2 q3 q4 q5 hf
 go_enter func27, ntmps27
 go_upto_region 1 with fail
 rw [← hW1]
 clear hW1
 go_wp2_with fail
 go_loopw [5, 9] (fun s i wr => ∃ k : Nat, k ≤ h3.2.1 ∧ i = .int .i64 k ∧ Hid (Row RObject 40 (Lo A w) W1 wr 46 s ((L.take k).map oClaim))) (fun _ i _ => h3.2.1 - (intOf i).toNat)
 case atStart => exact ⟨0, Nat.zero_le _, rfl, HR0⟩
 case round =>
  obtain ⟨k, hk, rfl, hrow⟩ := hrel
  have hbw : Below W1.heap.size W1 wr := hrow.out.below
  have HBw := HB1.out.on hbw
  have kb := HBw.cell 0 (b := w.heap.size) rfl 3 rfl
  have kl := HBw.lt 0 rfl
  by_cases hlt : k < h3.2.1
  ·
   have hltz : (k : Int) < (h3.2.1 : Int) := by omega
   have hkl : Hid (k < L.length) := by rw [Hid, HN.out]; exact hlt
   obtain ⟨B, off, ea, hB, _, m, hr, hv⟩ := (SL.out.on RClaim.firm HBw.below).get hlt
   change _ = some (Value.slice h3.1 _ _) at kb
   rw [ea] at kb
   clear ea
   have G : Hid (wr.rangeAt B (off + k * 4) m) := hv
   have HE : Hid (RClaim (Lo A w) wr m (L.getD k default)) := hr
   have hic := info_of iszClaim (RClaim.firm.len hr)
   have HT : Hid ((L.take k).map oClaim ++ [oClaim (L.getD k default)] = (L.take (k + 1)).map oClaim) := by rw [Hid, ← take_at hkl.out, List.map_append]; rfl
   have HLb : Hid ((((L.take k).map oClaim).length + 1) * 624 ≤ 140737488355328) := by
    have := bytes_le HF.out hkl.out
    rw [Hid, List.length_map, List.length_take, Nat.min_eq_left (Nat.le_of_lt hkl.out)]
    exact this
   obtain ⟨i0, hi0, hz0, hzs, _⟩ := info_parts infoObj3
   have hbe : Below wr.heap.size wr (wr.alloc (.cells (cClaim m).toArray 46)) := (Below.refl _ _).alloc (Nat.le_refl _) _
   have HRa := hrow.out.on RObject.firm hbe
   have HOb : RObject (fun b => Lo A w b ∧ Value.ownBlock u5 ≠ some b) (wr.alloc (.cells (cClaim m).toArray 46)) (cClaim m) (oClaim (L.getD k default)) := RObject.firm.weak (RObject.firm.kept (oClaim_rep HE.out) (Kept.below hbe)) (fun b _ hb => ⟨hb, fun e => absurd (hrow.out.ownge e) (by have := hb.2; have := HB1.out.lt 0 rfl; omega)⟩)
   have HCh := Hid.mk_ (chunk_one RObject.firm HOb)
   have HX := Hid.mk_ (one_cells wr (cClaim m) 46)
   have h1c : ∀ y ∈ cClaim m, y.oneCell' = true := RObject.firm.one HOb
   have HRw : Hid (Row RObject 40 (Lo A w) W1 (wr.alloc (.cells (cClaim m).toArray 46)) 46 u5 ((L.take k).map oClaim)) := HRa
   clear hr hv HRa hbe hbw hrow HOb
   go_wp2_with (first | (refine BigFrame.wpList_want rfl (fun _ hKK => wp_load_mid 40 _ rfl B (off + k * 4) rfl m _ G.out underlying40 rfl hic (hKK _ _ ?_))) | (refine BigFrame.wpList_want rfl (fun _ hKK => wp_build2 46 _ rfl #[(0, .int .i64 4), (4, .agg m.toArray)] (by go_simp) (cClaim m).toArray (bClaim_run HE.out) (hKK _ _ ?_))) | (refine wpList_buildSlice rfl 73 46 1 _ rfl (cClaim m).toArray i0 _ underlying73 hi0 hz0 (by rw [hzs]; decide) (by rw [hzs]; decide) (by rw [hzs]; simp only [List.map_toArray]; exact foClaim HE.out) ?_) | (refine row_append RObject.firm (A := Lo A w) (w0 := W1) (by rfl) _ _ 73 46 rfl _ 624 infoObj3 underlying73 rfl (by decide) (by decide) u5 ((L.take k).map oClaim) rfl HRw.out ⟨wr.heap.size, 0, none⟩ 1 1 _ [oClaim (L.getD k default)] rfl rfl HCh.out HX.out h1c HLb.out ?_; intro v6 w6 hrow6 hg6) | fail)
   rw [HT.out] at hrow6
   have hrow6' : Hid (Row RObject 40 (Lo A w) W1 w6 46 v6 ((L.take (k + 1)).map oClaim)) := hrow6
   clear hrow6 hg6 HRw HCh HX G HE
   go_wp2_with fail
   go_roundw
   case rel => exact ⟨k + 1, by omega, by go_num, hrow6'⟩
   case measure => simp [intOf]; omega
  ·
   have hltz : ¬ ((k : Int) < (h3.2.1 : Int)) := by omega
   have hk' : L.take k = L := List.take_of_length_le (by rw [HN.out]; omega)
   rw [hk'] at hrow
   obtain ⟨a', cap', e1, h2'⟩ := hrow.out.sl (bytes := 624) RObject.firm (by rw [List.length_map]; exact HF.out)
   rw [List.length_map] at e1 h2'
   have hbel := Hid.mk_ (HB1.out.on hrow.out.below).below
   have HSL : Hid (SlAt RObject 40 624 (fun b => A b ∨ Fresh w b) wr a' L.length cap' (L.map oClaim)) := h2'.weak RObject.firm (fun b _ hb => by rcases hb with hb | hb; exact .inl hb.1; exact .inr (Nat.le_of_lt (Nat.lt_of_lt_of_le (HB1.out.lt 0 rfl) hb)))
   subst e1
   clear hrow h2' HR0
   go_wp2_with fail
   go_ret
   exact ⟨_, _, rfl, HSL.out, hbel.out⟩
theorem rAll_Class (ss : List Value) (A : Where) (x : StateD) (w : World) (h : RState A w ss x) (hf : x.2.2.2.2.1.length * 624 ≤ 140737488351232) : Calls prog 27 #[.agg ss.toArray, .int .i64 5] w fun e w' => ∃ a cap, e = .returned (.slice a x.2.2.2.2.1.length cap) ∧ SlAt RObject 40 624 (fun b => A b ∨ Fresh w b) w' a x.2.2.2.2.1.length cap (x.2.2.2.2.1.map oClass) ∧ Below w.heap.size w w' := by
 obtain ⟨h0, h1, h2, h3, h4, h5, rfl, q0, q1, q2, q3, q4, q5⟩ := h.out
 have SL : Hid (SlAt RClass 2 24 (Lo A w) w h4.1 h4.2.1 h4.2.2 x.2.2.2.2.1) := q4.weak RClass.firm (fun b hb h => ⟨h, hb⟩)
 have HN : Hid (x.2.2.2.2.1.length = h4.2.1) := q4.1
 generalize x.2.2.2.2.1 = L at SL hf HN ⊢
 obtain ⟨W1, hW1⟩ : ∃ W, W = w.alloc (.cells [J h0, J h1, J h2, J h3, J h4, J h5].toArray 61) := ⟨_, rfl⟩
 have HB1 : Hid (Held w [(w.heap.size, [J h0, J h1, J h2, J h3, J h4, J h5])] [] W1) := by rw [Hid, hW1]; exact (Held.start w).push rfl [J h0, J h1, J h2, J h3, J h4, J h5] 61
 have HR0 : Hid (Row RObject 40 (Lo A w) W1 (W1.alloc (.cells #[] 46)) 46 (.slice (some ⟨W1.heap.size, 0, none⟩) 0 0) ((L.take 0).map oClass)) := Row.start _ W1 W1 _ (Below.refl _ _)
 have HF : Hid (L.length * 624 ≤ 140737488351232) := hf
 have hln := SL.out.len (by decide)
 clear h q0 q1 q2 q3 q4 q5 hf
 go_enter func27, ntmps27
 go_upto_region 1 with fail
 rw [← hW1]
 clear hW1
 go_wp2_with fail
 go_loopw [5, 10] (fun s i wr => ∃ k : Nat, k ≤ h4.2.1 ∧ i = .int .i64 k ∧ Hid (Row RObject 40 (Lo A w) W1 wr 46 s ((L.take k).map oClass))) (fun _ i _ => h4.2.1 - (intOf i).toNat)
 case atStart => exact ⟨0, Nat.zero_le _, rfl, HR0⟩
 case round =>
  obtain ⟨k, hk, rfl, hrow⟩ := hrel
  have hbw : Below W1.heap.size W1 wr := hrow.out.below
  have HBw := HB1.out.on hbw
  have kb := HBw.cell 0 (b := w.heap.size) rfl 4 rfl
  have kl := HBw.lt 0 rfl
  by_cases hlt : k < h4.2.1
  ·
   have hltz : (k : Int) < (h4.2.1 : Int) := by omega
   have hkl : Hid (k < L.length) := by rw [Hid, HN.out]; exact hlt
   obtain ⟨B, off, ea, hB, _, l, hr, hv⟩ := (SL.out.on RClass.firm HBw.below).get hlt
   change _ = some (Value.slice h4.1 _ _) at kb
   rw [ea] at kb
   clear ea
   have G : Hid (wr.rangeAt B (off + k * 2) l) := hv
   have HE : Hid (RClass (Lo A w) wr l (L.getD k default)) := hr
   have hic := info_of iszClass (RClass.firm.len hr)
   have HT : Hid ((L.take k).map oClass ++ [oClass (L.getD k default)] = (L.take (k + 1)).map oClass) := by rw [Hid, ← take_at hkl.out, List.map_append]; rfl
   have HLb : Hid ((((L.take k).map oClass).length + 1) * 624 ≤ 140737488355328) := by
    have := bytes_le HF.out hkl.out
    rw [Hid, List.length_map, List.length_take, Nat.min_eq_left (Nat.le_of_lt hkl.out)]
    exact this
   obtain ⟨i0, hi0, hz0, hzs, _⟩ := info_parts infoObj3
   have hbe : Below wr.heap.size wr (wr.alloc (.cells (cClass l).toArray 46)) := (Below.refl _ _).alloc (Nat.le_refl _) _
   have HRa := hrow.out.on RObject.firm hbe
   have HOb : RObject (fun b => Lo A w b ∧ Value.ownBlock u5 ≠ some b) (wr.alloc (.cells (cClass l).toArray 46)) (cClass l) (oClass (L.getD k default)) := RObject.firm.weak (RObject.firm.kept (oClass_rep HE.out) (Kept.below hbe)) (fun b _ hb => ⟨hb, fun e => absurd (hrow.out.ownge e) (by have := hb.2; have := HB1.out.lt 0 rfl; omega)⟩)
   have HCh := Hid.mk_ (chunk_one RObject.firm HOb)
   have HX := Hid.mk_ (one_cells wr (cClass l) 46)
   have h1c : ∀ y ∈ cClass l, y.oneCell' = true := RObject.firm.one HOb
   have HRw : Hid (Row RObject 40 (Lo A w) W1 (wr.alloc (.cells (cClass l).toArray 46)) 46 u5 ((L.take k).map oClass)) := HRa
   clear hr hv HRa hbe hbw hrow HOb
   go_wp2_with (first | (refine BigFrame.wpList_want rfl (fun _ hKK => wp_load_mid 42 _ rfl B (off + k * 2) rfl l _ G.out underlying42 rfl hic (hKK _ _ ?_))) | (refine BigFrame.wpList_want rfl (fun _ hKK => wp_build2 46 _ rfl #[(0, .int .i64 5), (5, .agg l.toArray)] (by go_simp) (cClass l).toArray (bClass_run HE.out) (hKK _ _ ?_))) | (refine wpList_buildSlice rfl 73 46 1 _ rfl (cClass l).toArray i0 _ underlying73 hi0 hz0 (by rw [hzs]; decide) (by rw [hzs]; decide) (by rw [hzs]; simp only [List.map_toArray]; exact foClass HE.out) ?_) | (refine row_append RObject.firm (A := Lo A w) (w0 := W1) (by rfl) _ _ 73 46 rfl _ 624 infoObj3 underlying73 rfl (by decide) (by decide) u5 ((L.take k).map oClass) rfl HRw.out ⟨wr.heap.size, 0, none⟩ 1 1 _ [oClass (L.getD k default)] rfl rfl HCh.out HX.out h1c HLb.out ?_; intro v6 w6 hrow6 hg6) | fail)
   rw [HT.out] at hrow6
   have hrow6' : Hid (Row RObject 40 (Lo A w) W1 w6 46 v6 ((L.take (k + 1)).map oClass)) := hrow6
   clear hrow6 hg6 HRw HCh HX G HE
   go_wp2_with fail
   go_roundw
   case rel => exact ⟨k + 1, by omega, by go_num, hrow6'⟩
   case measure => simp [intOf]; omega
  ·
   have hltz : ¬ ((k : Int) < (h4.2.1 : Int)) := by omega
   have hk' : L.take k = L := List.take_of_length_le (by rw [HN.out]; omega)
   rw [hk'] at hrow
   obtain ⟨a', cap', e1, h2'⟩ := hrow.out.sl (bytes := 624) RObject.firm (by rw [List.length_map]; exact HF.out)
   rw [List.length_map] at e1 h2'
   have hbel := Hid.mk_ (HB1.out.on hrow.out.below).below
   have HSL : Hid (SlAt RObject 40 624 (fun b => A b ∨ Fresh w b) wr a' L.length cap' (L.map oClass)) := h2'.weak RObject.firm (fun b _ hb => by rcases hb with hb | hb; exact .inl hb.1; exact .inr (Nat.le_of_lt (Nat.lt_of_lt_of_le (HB1.out.lt 0 rfl) hb)))
   subst e1
   clear hrow h2' HR0
   go_wp2_with fail
   go_ret
   exact ⟨_, _, rfl, HSL.out, hbel.out⟩
theorem rAll_Budget (ss : List Value) (A : Where) (x : StateD) (w : World) (h : RState A w ss x) (hf : x.2.2.2.2.2.length * 624 ≤ 140737488351232) : Calls prog 27 #[.agg ss.toArray, .int .i64 6] w fun e w' => ∃ a cap, e = .returned (.slice a x.2.2.2.2.2.length cap) ∧ SlAt RObject 40 624 (fun b => A b ∨ Fresh w b) w' a x.2.2.2.2.2.length cap (x.2.2.2.2.2.map oBudget) ∧ Below w.heap.size w w' := by
 obtain ⟨h0, h1, h2, h3, h4, h5, rfl, q0, q1, q2, q3, q4, q5⟩ := h.out
 have SL : Hid (SlAt RBudget 3 48 (Lo A w) w h5.1 h5.2.1 h5.2.2 x.2.2.2.2.2) := q5.weak RBudget.firm (fun b hb h => ⟨h, hb⟩)
 have HN : Hid (x.2.2.2.2.2.length = h5.2.1) := q5.1
 generalize x.2.2.2.2.2 = L at SL hf HN ⊢
 obtain ⟨W1, hW1⟩ : ∃ W, W = w.alloc (.cells [J h0, J h1, J h2, J h3, J h4, J h5].toArray 61) := ⟨_, rfl⟩
 have HB1 : Hid (Held w [(w.heap.size, [J h0, J h1, J h2, J h3, J h4, J h5])] [] W1) := by rw [Hid, hW1]; exact (Held.start w).push rfl [J h0, J h1, J h2, J h3, J h4, J h5] 61
 have HR0 : Hid (Row RObject 40 (Lo A w) W1 (W1.alloc (.cells #[] 46)) 46 (.slice (some ⟨W1.heap.size, 0, none⟩) 0 0) ((L.take 0).map oBudget)) := Row.start _ W1 W1 _ (Below.refl _ _)
 have HF : Hid (L.length * 624 ≤ 140737488351232) := hf
 have hln := SL.out.len (by decide)
 clear h q0 q1 q2 q3 q4 q5 hf
 go_enter func27, ntmps27
 go_upto_region 1 with fail
 rw [← hW1]
 clear hW1
 go_wp2_with fail
 go_loopw [5, 11] (fun s i wr => ∃ k : Nat, k ≤ h5.2.1 ∧ i = .int .i64 k ∧ Hid (Row RObject 40 (Lo A w) W1 wr 46 s ((L.take k).map oBudget))) (fun _ i _ => h5.2.1 - (intOf i).toNat)
 case atStart => exact ⟨0, Nat.zero_le _, rfl, HR0⟩
 case round =>
  obtain ⟨k, hk, rfl, hrow⟩ := hrel
  have hbw : Below W1.heap.size W1 wr := hrow.out.below
  have HBw := HB1.out.on hbw
  have kb := HBw.cell 0 (b := w.heap.size) rfl 5 rfl
  have kl := HBw.lt 0 rfl
  by_cases hlt : k < h5.2.1
  ·
   have hltz : (k : Int) < (h5.2.1 : Int) := by omega
   have hkl : Hid (k < L.length) := by rw [Hid, HN.out]; exact hlt
   obtain ⟨B, off, ea, hB, _, b, hr, hv⟩ := (SL.out.on RBudget.firm HBw.below).get hlt
   change _ = some (Value.slice h5.1 _ _) at kb
   rw [ea] at kb
   clear ea
   have G : Hid (wr.rangeAt B (off + k * 3) b) := hv
   have HE : Hid (RBudget (Lo A w) wr b (L.getD k default)) := hr
   have hic := info_of iszBudget (RBudget.firm.len hr)
   have HT : Hid ((L.take k).map oBudget ++ [oBudget (L.getD k default)] = (L.take (k + 1)).map oBudget) := by rw [Hid, ← take_at hkl.out, List.map_append]; rfl
   have HLb : Hid ((((L.take k).map oBudget).length + 1) * 624 ≤ 140737488355328) := by
    have := bytes_le HF.out hkl.out
    rw [Hid, List.length_map, List.length_take, Nat.min_eq_left (Nat.le_of_lt hkl.out)]
    exact this
   obtain ⟨i0, hi0, hz0, hzs, _⟩ := info_parts infoObj3
   have hbe : Below wr.heap.size wr (wr.alloc (.cells (cBudget b).toArray 46)) := (Below.refl _ _).alloc (Nat.le_refl _) _
   have HRa := hrow.out.on RObject.firm hbe
   have HOb : RObject (fun b => Lo A w b ∧ Value.ownBlock u5 ≠ some b) (wr.alloc (.cells (cBudget b).toArray 46)) (cBudget b) (oBudget (L.getD k default)) := RObject.firm.weak (RObject.firm.kept (oBudget_rep HE.out) (Kept.below hbe)) (fun b _ hb => ⟨hb, fun e => absurd (hrow.out.ownge e) (by have := hb.2; have := HB1.out.lt 0 rfl; omega)⟩)
   have HCh := Hid.mk_ (chunk_one RObject.firm HOb)
   have HX := Hid.mk_ (one_cells wr (cBudget b) 46)
   have h1c : ∀ y ∈ cBudget b, y.oneCell' = true := RObject.firm.one HOb
   have HRw : Hid (Row RObject 40 (Lo A w) W1 (wr.alloc (.cells (cBudget b).toArray 46)) 46 u5 ((L.take k).map oBudget)) := HRa
   clear hr hv HRa hbe hbw hrow HOb
   go_wp2_with (first | (refine BigFrame.wpList_want rfl (fun _ hKK => wp_load_mid 44 _ rfl B (off + k * 3) rfl b _ G.out underlying44 rfl hic (hKK _ _ ?_))) | (refine BigFrame.wpList_want rfl (fun _ hKK => wp_build2 46 _ rfl #[(0, .int .i64 6), (6, .agg b.toArray)] (by go_simp) (cBudget b).toArray (bBudget_run HE.out) (hKK _ _ ?_))) | (refine wpList_buildSlice rfl 73 46 1 _ rfl (cBudget b).toArray i0 _ underlying73 hi0 hz0 (by rw [hzs]; decide) (by rw [hzs]; decide) (by rw [hzs]; simp only [List.map_toArray]; exact foBudget HE.out) ?_) | (refine row_append RObject.firm (A := Lo A w) (w0 := W1) (by rfl) _ _ 73 46 rfl _ 624 infoObj3 underlying73 rfl (by decide) (by decide) u5 ((L.take k).map oBudget) rfl HRw.out ⟨wr.heap.size, 0, none⟩ 1 1 _ [oBudget (L.getD k default)] rfl rfl HCh.out HX.out h1c HLb.out ?_; intro v6 w6 hrow6 hg6) | fail)
   rw [HT.out] at hrow6
   have hrow6' : Hid (Row RObject 40 (Lo A w) W1 w6 46 v6 ((L.take (k + 1)).map oBudget)) := hrow6
   clear hrow6 hg6 HRw HCh HX G HE
   go_wp2_with fail
   go_roundw
   case rel => exact ⟨k + 1, by omega, by go_num, hrow6'⟩
   case measure => simp [intOf]; omega
  ·
   have hltz : ¬ ((k : Int) < (h5.2.1 : Int)) := by omega
   have hk' : L.take k = L := List.take_of_length_le (by rw [HN.out]; omega)
   rw [hk'] at hrow
   obtain ⟨a', cap', e1, h2'⟩ := hrow.out.sl (bytes := 624) RObject.firm (by rw [List.length_map]; exact HF.out)
   rw [List.length_map] at e1 h2'
   have hbel := Hid.mk_ (HB1.out.on hrow.out.below).below
   have HSL : Hid (SlAt RObject 40 624 (fun b => A b ∨ Fresh w b) wr a' L.length cap' (L.map oBudget)) := h2'.weak RObject.firm (fun b _ hb => by rcases hb with hb | hb; exact .inl hb.1; exact .inr (Nat.le_of_lt (Nat.lt_of_lt_of_le (HB1.out.lt 0 rfl) hb)))
   subst e1
   clear hrow h2' HR0
   go_wp2_with fail
   go_ret
   exact ⟨_, _, rfl, HSL.out, hbel.out⟩
end Go.Proofs.YtfbnnfpnjjjfcaaGreat

