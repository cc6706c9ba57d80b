/- base.Node gives a copy of its own, and its like. No condition beyond what each says. -/
import Derived.Laws.Cover1
import Derived.Great.BuildSlice
import Derived.Test.YtikncmcceeacmaaGreatQ17
import Derived.Test.YtikncmcceeacmaaGreatQ19
namespace Go.Proofs.YtikncmcceeacmaaGreat
set_option maxHeartbeats 16000000
set_option maxRecDepth 100000
open Tryz Go.RowKit
set_option linter.unusedSimpArgs false
theorem infoTaint : (prog.info? 130).map (fun i => (i.zero, i.size, i.bytes)) = some (some (.agg #[.string ⟨#[]⟩, .string ⟨#[]⟩, .int .i64 0]), 3, 40) := by kernel_rfl
theorem Node_copy (cs : List Value) (A : Where) (x : NodeD) (w : World) (h : Hid (RNode A w cs x)) : Calls prog 30 #[.agg cs.toArray] w fun e w' => ∃ cs', e = .returned (.agg cs'.toArray) ∧ RNode (Fresh w) w' cs' x ∧ Below w.heap.size w w' := by
 obtain ⟨h1, ⟨a2, n2, m2⟩, rfl, p0, p1, p2⟩ := h.out.out
 simp only at p2 ⊢
 clear h
 have hb0 : Below w.heap.size w (((w.alloc (.cells #[.string x.1, J h1, .slice a2 n2 m2, .bool x.2.2.2.1, .int .i64 x.2.2.2.2.1.1, .int .i64 x.2.2.2.2.1.2.1, .int .i64 x.2.2.2.2.1.2.2, .int .i64 x.2.2.2.2.2.1, .int .i64 x.2.2.2.2.2.2] 36)).alloc (.cells #[.string ⟨#[]⟩, Z, Z, .bool false, .int .i64 0, .int .i64 0, .int .i64 0, .int .i64 0, .int .i64 0] 36)).alloc (.cells #[.string x.1, J h1, .slice a2 n2 m2, .bool x.2.2.2.1, .int .i64 x.2.2.2.2.1.1, .int .i64 x.2.2.2.2.1.2.1, .int .i64 x.2.2.2.2.1.2.2, .int .i64 x.2.2.2.2.2.1, .int .i64 x.2.2.2.2.2.2] 36)) := by go_grown
 have hB2 : BoxL (((w.alloc (.cells #[.string x.1, J h1, .slice a2 n2 m2, .bool x.2.2.2.1, .int .i64 x.2.2.2.2.1.1, .int .i64 x.2.2.2.2.1.2.1, .int .i64 x.2.2.2.2.1.2.2, .int .i64 x.2.2.2.2.2.1, .int .i64 x.2.2.2.2.2.2] 36)).alloc (.cells #[.string ⟨#[]⟩, Z, Z, .bool false, .int .i64 0, .int .i64 0, .int .i64 0, .int .i64 0, .int .i64 0] 36)).alloc (.cells #[.string x.1, J h1, .slice a2 n2 m2, .bool x.2.2.2.1, .int .i64 x.2.2.2.2.1.1, .int .i64 x.2.2.2.2.1.2.1, .int .i64 x.2.2.2.2.1.2.2, .int .i64 x.2.2.2.2.2.1, .int .i64 x.2.2.2.2.2.2] 36)) (w.heap.size + 1) [.string ⟨#[]⟩, Z, Z, .bool false, .int .i64 0, .int .i64 0, .int .i64 0, .int .i64 0, .int .i64 0] := by
  have := ((BoxL.new (w.alloc (.cells #[.string x.1, J h1, .slice a2 n2 m2, .bool x.2.2.2.1, .int .i64 x.2.2.2.2.1.1, .int .i64 x.2.2.2.2.1.2.1, .int .i64 x.2.2.2.2.1.2.2, .int .i64 x.2.2.2.2.2.1, .int .i64 x.2.2.2.2.2.2] 36)) 36 [.string ⟨#[]⟩, Z, Z, .bool false, .int .i64 0, .int .i64 0, .int .i64 0, .int .i64 0, .int .i64 0]).on ((Below.refl _ _).alloc (Nat.le_refl _) (.cells #[.string x.1, J h1, .slice a2 n2 m2, .bool x.2.2.2.1, .int .i64 x.2.2.2.2.1.1, .int .i64 x.2.2.2.2.1.2.1, .int .i64 x.2.2.2.2.1.2.2, .int .i64 x.2.2.2.2.2.1, .int .i64 x.2.2.2.2.2.2] 36)))
  simpa using this
 have hB3 : BoxL (((w.alloc (.cells #[.string x.1, J h1, .slice a2 n2 m2, .bool x.2.2.2.1, .int .i64 x.2.2.2.2.1.1, .int .i64 x.2.2.2.2.1.2.1, .int .i64 x.2.2.2.2.1.2.2, .int .i64 x.2.2.2.2.2.1, .int .i64 x.2.2.2.2.2.2] 36)).alloc (.cells #[.string ⟨#[]⟩, Z, Z, .bool false, .int .i64 0, .int .i64 0, .int .i64 0, .int .i64 0, .int .i64 0] 36)).alloc (.cells #[.string x.1, J h1, .slice a2 n2 m2, .bool x.2.2.2.1, .int .i64 x.2.2.2.2.1.1, .int .i64 x.2.2.2.2.1.2.1, .int .i64 x.2.2.2.2.1.2.2, .int .i64 x.2.2.2.2.2.1, .int .i64 x.2.2.2.2.2.2] 36)) (w.heap.size + 1 + 1) [.string x.1, J h1, .slice a2 n2 m2, .bool x.2.2.2.1, .int .i64 x.2.2.2.2.1.1, .int .i64 x.2.2.2.2.1.2.1, .int .i64 x.2.2.2.2.1.2.2, .int .i64 x.2.2.2.2.2.1, .int .i64 x.2.2.2.2.2.2] := by
  have := BoxL.new ((w.alloc (.cells #[.string x.1, J h1, .slice a2 n2 m2, .bool x.2.2.2.1, .int .i64 x.2.2.2.2.1.1, .int .i64 x.2.2.2.2.1.2.1, .int .i64 x.2.2.2.2.1.2.2, .int .i64 x.2.2.2.2.2.1, .int .i64 x.2.2.2.2.2.2] 36)).alloc (.cells #[.string ⟨#[]⟩, Z, Z, .bool false, .int .i64 0, .int .i64 0, .int .i64 0, .int .i64 0, .int .i64 0] 36)) 36 [.string x.1, J h1, .slice a2 n2 m2, .bool x.2.2.2.1, .int .i64 x.2.2.2.2.1.1, .int .i64 x.2.2.2.2.1.2.1, .int .i64 x.2.2.2.2.1.2.2, .int .i64 x.2.2.2.2.2.1, .int .i64 x.2.2.2.2.2.2]
  simpa using this
 have hB1 : BoxL (((w.alloc (.cells #[.string x.1, J h1, .slice a2 n2 m2, .bool x.2.2.2.1, .int .i64 x.2.2.2.2.1.1, .int .i64 x.2.2.2.2.1.2.1, .int .i64 x.2.2.2.2.1.2.2, .int .i64 x.2.2.2.2.2.1, .int .i64 x.2.2.2.2.2.2] 36)).alloc (.cells #[.string ⟨#[]⟩, Z, Z, .bool false, .int .i64 0, .int .i64 0, .int .i64 0, .int .i64 0, .int .i64 0] 36)).alloc (.cells #[.string x.1, J h1, .slice a2 n2 m2, .bool x.2.2.2.1, .int .i64 x.2.2.2.2.1.1, .int .i64 x.2.2.2.2.1.2.1, .int .i64 x.2.2.2.2.1.2.2, .int .i64 x.2.2.2.2.2.1, .int .i64 x.2.2.2.2.2.2] 36)) w.heap.size [.string x.1, J h1, .slice a2 n2 m2, .bool x.2.2.2.1, .int .i64 x.2.2.2.2.1.1, .int .i64 x.2.2.2.2.1.2.1, .int .i64 x.2.2.2.2.1.2.2, .int .i64 x.2.2.2.2.2.1, .int .i64 x.2.2.2.2.2.2] := (BoxL.new w 36 [.string x.1, J h1, .slice a2 n2 m2, .bool x.2.2.2.1, .int .i64 x.2.2.2.2.1.1, .int .i64 x.2.2.2.2.1.2.1, .int .i64 x.2.2.2.2.1.2.2, .int .i64 x.2.2.2.2.2.1, .int .i64 x.2.2.2.2.2.2]).on (((Below.refl _ _).alloc (Nat.le_refl _) (.cells #[.string ⟨#[]⟩, Z, Z, .bool false, .int .i64 0, .int .i64 0, .int .i64 0, .int .i64 0, .int .i64 0] 36)).alloc (by simp) (.cells #[.string x.1, J h1, .slice a2 n2 m2, .bool x.2.2.2.1, .int .i64 x.2.2.2.2.1.1, .int .i64 x.2.2.2.2.1.2.1, .int .i64 x.2.2.2.2.1.2.2, .int .i64 x.2.2.2.2.2.1, .int .i64 x.2.2.2.2.2.2] 36))
 have hC := Labels_copy h1.1 h1.2.1 h1.2.2 A x.2.1 (((w.alloc (.cells #[.string x.1, J h1, .slice a2 n2 m2, .bool x.2.2.2.1, .int .i64 x.2.2.2.2.1.1, .int .i64 x.2.2.2.2.1.2.1, .int .i64 x.2.2.2.2.1.2.2, .int .i64 x.2.2.2.2.2.1, .int .i64 x.2.2.2.2.2.2] 36)).alloc (.cells #[.string ⟨#[]⟩, Z, Z, .bool false, .int .i64 0, .int .i64 0, .int .i64 0, .int .i64 0, .int .i64 0] 36)).alloc (.cells #[.string x.1, J h1, .slice a2 n2 m2, .bool x.2.2.2.1, .int .i64 x.2.2.2.2.1.1, .int .i64 x.2.2.2.2.1.2.1, .int .i64 x.2.2.2.2.1.2.2, .int .i64 x.2.2.2.2.2.1, .int .i64 x.2.2.2.2.2.2] 36)) (SlAt.on RLabel.firm p1 hb0)
 obtain ⟨W3, hW3⟩ : ∃ W3, W3 = (((w.alloc (.cells #[.string x.1, J h1, .slice a2 n2 m2, .bool x.2.2.2.1, .int .i64 x.2.2.2.2.1.1, .int .i64 x.2.2.2.2.1.2.1, .int .i64 x.2.2.2.2.1.2.2, .int .i64 x.2.2.2.2.2.1, .int .i64 x.2.2.2.2.2.2] 36)).alloc (.cells #[.string ⟨#[]⟩, Z, Z, .bool false, .int .i64 0, .int .i64 0, .int .i64 0, .int .i64 0, .int .i64 0] 36)).alloc (.cells #[.string x.1, J h1, .slice a2 n2 m2, .bool x.2.2.2.1, .int .i64 x.2.2.2.2.1.1, .int .i64 x.2.2.2.2.1.2.1, .int .i64 x.2.2.2.2.1.2.2, .int .i64 x.2.2.2.2.2.1, .int .i64 x.2.2.2.2.2.2] 36)) := ⟨_, rfl⟩
 have hsz : Hid (W3.heap.size = w.heap.size + 1 + 1 + 1) := by rw [Hid, hW3]; simp
 go_enter func30, ntmps30
 go_wp2_with fail
 rw [← hW3] at hb0 hB1 hB2 hB3 hC ⊢
 clear hW3
 refine hC.mono ?_
 rintro e w4 ⟨a4, c4, rfl, hS4, hb4⟩
 clear hC
 have hsz4 : w.heap.size + 1 + 1 + 1 ≤ w4.heap.size := by have := hb4.size; rw [hsz.out] at this; exact this
 have hne0 : w.heap.size ≠ w4.heap.size := by omega
 have hne1 : w.heap.size + 1 ≠ w4.heap.size := by omega
 have hne2 : w.heap.size + 1 + 1 ≠ w4.heap.size := by omega
 have hlt0 : w.heap.size < w4.heap.size := by omega
 obtain ⟨c1_2, _⟩ := (hB1.on hb4).2 2 _ rfl
 have k2 := hB2.on hb4
 have k3 := hB3.on hb4
 have HW := hsz
 have hS4' : Hid (SlAt RLabel 2 32 (Fresh W3) w4 a4 h1.2.1 c4 x.2.1) := hS4
 clear hsz hS4 hB1 hB2 hB3
 have k2' : BoxL (w4.setCell ⟨w.heap.size + 1 + 1, 1, none⟩ (.slice a4 h1.2.1 c4)) (w.heap.size + 1) [.string ⟨#[]⟩, Z, Z, .bool false, .int .i64 0, .int .i64 0, .int .i64 0, .int .i64 0, .int .i64 0] := k2.other (by simp) _
 have k3' : BoxL (w4.setCell ⟨w.heap.size + 1 + 1, 1, none⟩ (.slice a4 h1.2.1 c4)) (w.heap.size + 1 + 1) [.string x.1, .slice a4 h1.2.1 c4, .slice a2 n2 m2, .bool x.2.2.2.1, .int .i64 x.2.2.2.2.1.1, .int .i64 x.2.2.2.2.1.2.1, .int .i64 x.2.2.2.2.1.2.2, .int .i64 x.2.2.2.2.2.1, .int .i64 x.2.2.2.2.2.2] := k3.set 1 _ (by simp)
 have K2 : Hid (BoxL (w4.setCell ⟨w.heap.size + 1 + 1, 1, none⟩ (.slice a4 h1.2.1 c4)) (w.heap.size + 1) [.string ⟨#[]⟩, Z, Z, .bool false, .int .i64 0, .int .i64 0, .int .i64 0, .int .i64 0, .int .i64 0]) := k2'
 have K3 : Hid (BoxL (w4.setCell ⟨w.heap.size + 1 + 1, 1, none⟩ (.slice a4 h1.2.1 c4)) (w.heap.size + 1 + 1) [.string x.1, .slice a4 h1.2.1 c4, .slice a2 n2 m2, .bool x.2.2.2.1, .int .i64 x.2.2.2.2.1.1, .int .i64 x.2.2.2.2.1.2.1, .int .i64 x.2.2.2.2.1.2.2, .int .i64 x.2.2.2.2.2.1, .int .i64 x.2.2.2.2.2.2]) := k3'
 have hbU : Below w.heap.size w ((w4.setCell ⟨w.heap.size + 1 + 1, 1, none⟩ (.slice a4 h1.2.1 c4)).alloc (.cells #[] 130)) := ((on2 hb0 hb4).setCell (by simp <;> omega) _).alloc (by simp; omega) _
 obtain ⟨c3_1, f3_1⟩ := k3.2 1 _ rfl
 clear k2 k3 k2' k3'
 match a2 with
 | none =>
  obtain ⟨rfl, rfl, hnil⟩ := sl_none p2
  have hbn : Below (w4.setCell ⟨w.heap.size + 1 + 1, 1, none⟩ (.slice a4 h1.2.1 c4)).heap.size (w4.setCell ⟨w.heap.size + 1 + 1, 1, none⟩ (.slice a4 h1.2.1 c4)) ((w4.setCell ⟨w.heap.size + 1 + 1, 1, none⟩ (.slice a4 h1.2.1 c4)).alloc (.cells #[] 130)) := (Below.refl _ _).alloc (Nat.le_refl _) _
  have q2 := K2.out.on hbn
  have q3 := K3.out.on hbn
  clear K2 K3
  obtain ⟨c2_0, f2_0⟩ := q2.2 0 _ rfl
  obtain ⟨c2_1, f2_1⟩ := q2.2 1 _ rfl
  obtain ⟨c2_2, f2_2⟩ := q2.2 2 _ rfl
  obtain ⟨c2_3, f2_3⟩ := q2.2 3 _ rfl
  obtain ⟨c2_4, f2_4⟩ := q2.2 4 _ rfl
  obtain ⟨c2_5, f2_5⟩ := q2.2 5 _ rfl
  obtain ⟨c2_6, f2_6⟩ := q2.2 6 _ rfl
  obtain ⟨c2_7, f2_7⟩ := q2.2 7 _ rfl
  obtain ⟨c2_8, f2_8⟩ := q2.2 8 _ rfl
  obtain ⟨c3_0, f3_0⟩ := q3.2 0 _ rfl
  obtain ⟨c3_1, f3_1⟩ := q3.2 1 _ rfl
  obtain ⟨c3_2, f3_2⟩ := q3.2 2 _ rfl
  obtain ⟨c3_3, f3_3⟩ := q3.2 3 _ rfl
  obtain ⟨c3_4, f3_4⟩ := q3.2 4 _ rfl
  obtain ⟨c3_5, f3_5⟩ := q3.2 5 _ rfl
  obtain ⟨c3_6, f3_6⟩ := q3.2 6 _ rfl
  obtain ⟨c3_7, f3_7⟩ := q3.2 7 _ rfl
  obtain ⟨c3_8, f3_8⟩ := q3.2 8 _ rfl
  clear q2 q3
  have hS5' : Hid (SlAt RTaint 3 40 (Fresh (w4.setCell ⟨w.heap.size + 1 + 1, 1, none⟩ (.slice a4 h1.2.1 c4))) ((w4.setCell ⟨w.heap.size + 1 + 1, 1, none⟩ (.slice a4 h1.2.1 c4)).alloc (.cells #[] 130)) (some ⟨w4.heap.size, 0, none⟩) 0 0 x.2.2.1) := by rw [hnil]; exact SlAt.nil _ _ _ _ (fun h => by cases h)
  go_wp2_with fail
  refine bodyPost_ret (v := .agg #[.string x.1, .slice a4 h1.2.1 c4, .slice (some ⟨w4.heap.size, 0, none⟩) 0 0, .bool x.2.2.2.1, .int .i64 x.2.2.2.2.1.1, .int .i64 x.2.2.2.2.1.2.1, .int .i64 x.2.2.2.2.1.2.2, .int .i64 x.2.2.2.2.2.1, .int .i64 x.2.2.2.2.2.2]) (by simp [results, results30, go_sem, c2_0, c2_1, c2_2, c2_3, c2_4, c2_5, c2_6, c2_7, c2_8, c3_0, c3_1, c3_2, c3_3, c3_4, c3_5, c3_6, c3_7, c3_8]) rfl ⟨[.string x.1, .slice a4 h1.2.1 c4, .slice (some ⟨w4.heap.size, 0, none⟩) 0 0, .bool x.2.2.2.1, .int .i64 x.2.2.2.2.1.1, .int .i64 x.2.2.2.2.1.2.1, .int .i64 x.2.2.2.2.1.2.2, .int .i64 x.2.2.2.2.2.1, .int .i64 x.2.2.2.2.2.2], rfl, ?_, ?_⟩
  ·
   have hS4 := hS4'.out
   have hS5 := hS5'.out
   have hsW := HW.out
   refine RNode.mk (h1 := (a4, h1.2.1, c4)) (h2 := ((some ⟨w4.heap.size, 0, none⟩ : Option Addr), 0, 0)) p0 (SlAt.weak RLabel.firm (A := Fresh W3) (SlAt.kept RLabel.firm hS4 ?kp) (fun b _ hb => show w.heap.size ≤ b by have hb1 : W3.heap.size ≤ b := hb; have := hb0.size; omega)) (SlAt.weak RTaint.firm (A := Fresh (w4.setCell ⟨w.heap.size + 1 + 1, 1, none⟩ (.slice a4 h1.2.1 c4))) (SlAt.kept RTaint.firm hS5 ?kq) (fun b _ hb => show w.heap.size ≤ b by have hb1 : (w4.setCell ⟨w.heap.size + 1 + 1, 1, none⟩ (.slice a4 h1.2.1 c4)).heap.size ≤ b := hb; simp at hb1; omega))
   case kp =>
    repeat (refine Kept.trans ?_ (Kept.set (Fresh.not (by simp <;> omega)) _))
    exact (Kept.set (Fresh.not (by simp <;> omega)) _).trans (Kept.below hbn)
   case kq =>
    repeat (refine Kept.trans ?_ (Kept.set (Fresh.not (by simp <;> omega)) _))
    exact Kept.refl _ _
  ·
   repeat (refine Below.setCell ?_ (by simp <;> omega) _)
   exact on2 ((on2 hb0 hb4).setCell (by simp <;> omega) _) hbn
 | some ad =>
  obtain ⟨xs, hc, hcell, hone⟩ := (p2.on RTaint.firm hbU).chunks RTaint.firm
  have hn := p2.1
  have hbb := p2.2.2.2.1
  subst hn
  have HR : Hid (Row RTaint 3 (Fresh (w4.setCell ⟨w.heap.size + 1 + 1, 1, none⟩ (.slice a4 h1.2.1 c4))) (w4.setCell ⟨w.heap.size + 1 + 1, 1, none⟩ (.slice a4 h1.2.1 c4)) ((w4.setCell ⟨w.heap.size + 1 + 1, 1, none⟩ (.slice a4 h1.2.1 c4)).alloc (.cells #[] 130)) 130 (.slice (some ⟨w4.heap.size, 0, none⟩) 0 0) []) := by
   have := Row.start (R := RTaint) (k := 3) (Fresh (w4.setCell ⟨w.heap.size + 1 + 1, 1, none⟩ (.slice a4 h1.2.1 c4))) (w4.setCell ⟨w.heap.size + 1 + 1, 1, none⟩ (.slice a4 h1.2.1 c4)) (w4.setCell ⟨w.heap.size + 1 + 1, 1, none⟩ (.slice a4 h1.2.1 c4)) 130 (Below.refl _ _)
   unfold Hid
   simpa using this
  have HC : Hid (Chunks RTaint 3 (fun b => Fresh (w4.setCell ⟨w.heap.size + 1 + 1, 1, none⟩ (.slice a4 h1.2.1 c4)) b ∧ Value.ownBlock (.slice (some ⟨w4.heap.size, 0, none⟩) 0 0) ≠ some b) ((w4.setCell ⟨w.heap.size + 1 + 1, 1, none⟩ (.slice a4 h1.2.1 c4)).alloc (.cells #[] 130)) xs x.2.2.1) := hc.flat RTaint.flat
  have HX : Hid (∀ j y, xs[j]? = some y → ((w4.setCell ⟨w.heap.size + 1 + 1, 1, none⟩ (.slice a4 h1.2.1 c4)).alloc (.cells #[] 130)).cell? (ad.add j) = some y) := hcell
  have HO : Hid (∀ y ∈ xs, y.oneCell' = true) := hone
  clear hc hcell hone
  have HBB : Hid (x.2.2.1.length * 40 ≤ 140737488351232) := hbb
  go_wp2_with (at_builtin; go_must (refine row_append RTaint.firm (A := Fresh (w4.setCell ⟨w.heap.size + 1 + 1, 1, none⟩ (.slice a4 h1.2.1 c4))) (w0 := (w4.setCell ⟨w.heap.size + 1 + 1, 1, none⟩ (.slice a4 h1.2.1 c4))) rfl _ _ 34 130 rfl _ 40 infoTaint underlying34 rfl (by decide) (by decide) _ [] rfl HR.out ad x.2.2.1.length m2 xs x.2.2.1 rfl rfl HC.out HX.out HO.out (by have := HBB.out; simp; omega) ?_); intro v5 w5 hrow5 hg5; obtain ⟨a5, c5, rfl, hS5⟩ := hrow5.slF (bytes := 40) RTaint.firm (by simpa using HBB.out); have hb5 := hrow5.below; have q2 := K2.out.on hb5; have q3 := K3.out.on hb5; clear c3_1 f3_1; obtain ⟨c2_0, f2_0⟩ := q2.2 0 _ rfl; obtain ⟨c2_1, f2_1⟩ := q2.2 1 _ rfl; obtain ⟨c2_2, f2_2⟩ := q2.2 2 _ rfl; obtain ⟨c2_3, f2_3⟩ := q2.2 3 _ rfl; obtain ⟨c2_4, f2_4⟩ := q2.2 4 _ rfl; obtain ⟨c2_5, f2_5⟩ := q2.2 5 _ rfl; obtain ⟨c2_6, f2_6⟩ := q2.2 6 _ rfl; obtain ⟨c2_7, f2_7⟩ := q2.2 7 _ rfl; obtain ⟨c2_8, f2_8⟩ := q2.2 8 _ rfl; obtain ⟨c3_0, f3_0⟩ := q3.2 0 _ rfl; obtain ⟨c3_1, f3_1⟩ := q3.2 1 _ rfl; obtain ⟨c3_2, f3_2⟩ := q3.2 2 _ rfl; obtain ⟨c3_3, f3_3⟩ := q3.2 3 _ rfl; obtain ⟨c3_4, f3_4⟩ := q3.2 4 _ rfl; obtain ⟨c3_5, f3_5⟩ := q3.2 5 _ rfl; obtain ⟨c3_6, f3_6⟩ := q3.2 6 _ rfl; obtain ⟨c3_7, f3_7⟩ := q3.2 7 _ rfl; obtain ⟨c3_8, f3_8⟩ := q3.2 8 _ rfl; clear q2 q3 hrow5 hg5; simp only [List.nil_append] at hS5 ⊢)
  have hS5' : Hid (SlAt RTaint 3 40 (Fresh (w4.setCell ⟨w.heap.size + 1 + 1, 1, none⟩ (.slice a4 h1.2.1 c4))) w5 a5 x.2.2.1.length c5 x.2.2.1) := hS5
  clear hS5
  refine bodyPost_ret (v := .agg #[.string x.1, .slice a4 h1.2.1 c4, .slice a5 x.2.2.1.length c5, .bool x.2.2.2.1, .int .i64 x.2.2.2.2.1.1, .int .i64 x.2.2.2.2.1.2.1, .int .i64 x.2.2.2.2.1.2.2, .int .i64 x.2.2.2.2.2.1, .int .i64 x.2.2.2.2.2.2]) (by simp [results, results30, go_sem, c2_0, c2_1, c2_2, c2_3, c2_4, c2_5, c2_6, c2_7, c2_8, c3_0, c3_1, c3_2, c3_3, c3_4, c3_5, c3_6, c3_7, c3_8]) rfl ⟨[.string x.1, .slice a4 h1.2.1 c4, .slice a5 x.2.2.1.length c5, .bool x.2.2.2.1, .int .i64 x.2.2.2.2.1.1, .int .i64 x.2.2.2.2.1.2.1, .int .i64 x.2.2.2.2.1.2.2, .int .i64 x.2.2.2.2.2.1, .int .i64 x.2.2.2.2.2.2], rfl, ?_, ?_⟩
  ·
   have hS4 := hS4'.out
   have hS5 := hS5'.out
   have hsW := HW.out
   refine RNode.mk (h1 := (a4, h1.2.1, c4)) (h2 := (a5, x.2.2.1.length, c5)) p0 (SlAt.weak RLabel.firm (A := Fresh W3) (SlAt.kept RLabel.firm hS4 ?kp) (fun b _ hb => show w.heap.size ≤ b by have hb1 : W3.heap.size ≤ b := hb; have := hb0.size; omega)) (SlAt.weak RTaint.firm (A := Fresh (w4.setCell ⟨w.heap.size + 1 + 1, 1, none⟩ (.slice a4 h1.2.1 c4))) (SlAt.kept RTaint.firm hS5 ?kq) (fun b _ hb => show w.heap.size ≤ b by have hb1 : (w4.setCell ⟨w.heap.size + 1 + 1, 1, none⟩ (.slice a4 h1.2.1 c4)).heap.size ≤ b := hb; simp at hb1; omega))
   case kp =>
    repeat (refine Kept.trans ?_ (Kept.set (Fresh.not (by simp <;> omega)) _))
    exact (Kept.set (Fresh.not (by simp <;> omega)) _).trans (Kept.below hb5)
   case kq =>
    repeat (refine Kept.trans ?_ (Kept.set (Fresh.not (by simp <;> omega)) _))
    exact Kept.refl _ _
  ·
   repeat (refine Below.setCell ?_ (by simp <;> omega) _)
   exact on2 ((on2 hb0 hb4).setCell (by simp <;> omega) _) hb5
theorem Volume_copy (cs : List Value) (A : Where) (x : VolumeD) (w : World) (h : Hid (RVolume A w cs x)) : Calls prog 31 #[.agg cs.toArray] w fun e w' => ∃ cs', e = .returned (.agg cs'.toArray) ∧ RVolume (Fresh w) w' cs' x ∧ Below w.heap.size w w' := by
 obtain ⟨h3, rfl, p0, p1, p2, p3⟩ := h.out.out
 clear h
 have hb0 : Below w.heap.size w (((w.alloc (.cells #[.string x.1, .int .i64 x.2.1, .string x.2.2.1, J h3, .string x.2.2.2.2] 38)).alloc (.cells #[.string ⟨#[]⟩, .int .i64 0, .string ⟨#[]⟩, Z, .string ⟨#[]⟩] 38)).alloc (.cells #[.string x.1, .int .i64 x.2.1, .string x.2.2.1, J h3, .string x.2.2.2.2] 38)) := by go_grown
 have hB2 : BoxL (((w.alloc (.cells #[.string x.1, .int .i64 x.2.1, .string x.2.2.1, J h3, .string x.2.2.2.2] 38)).alloc (.cells #[.string ⟨#[]⟩, .int .i64 0, .string ⟨#[]⟩, Z, .string ⟨#[]⟩] 38)).alloc (.cells #[.string x.1, .int .i64 x.2.1, .string x.2.2.1, J h3, .string x.2.2.2.2] 38)) (w.heap.size + 1) [.string ⟨#[]⟩, .int .i64 0, .string ⟨#[]⟩, Z, .string ⟨#[]⟩] := by
  have := ((BoxL.new (w.alloc (.cells #[.string x.1, .int .i64 x.2.1, .string x.2.2.1, J h3, .string x.2.2.2.2] 38)) 38 [.string ⟨#[]⟩, .int .i64 0, .string ⟨#[]⟩, Z, .string ⟨#[]⟩]).on ((Below.refl _ _).alloc (Nat.le_refl _) (.cells #[.string x.1, .int .i64 x.2.1, .string x.2.2.1, J h3, .string x.2.2.2.2] 38)))
  simpa using this
 have hB3 : BoxL (((w.alloc (.cells #[.string x.1, .int .i64 x.2.1, .string x.2.2.1, J h3, .string x.2.2.2.2] 38)).alloc (.cells #[.string ⟨#[]⟩, .int .i64 0, .string ⟨#[]⟩, Z, .string ⟨#[]⟩] 38)).alloc (.cells #[.string x.1, .int .i64 x.2.1, .string x.2.2.1, J h3, .string x.2.2.2.2] 38)) (w.heap.size + 1 + 1) [.string x.1, .int .i64 x.2.1, .string x.2.2.1, J h3, .string x.2.2.2.2] := by
  have := BoxL.new ((w.alloc (.cells #[.string x.1, .int .i64 x.2.1, .string x.2.2.1, J h3, .string x.2.2.2.2] 38)).alloc (.cells #[.string ⟨#[]⟩, .int .i64 0, .string ⟨#[]⟩, Z, .string ⟨#[]⟩] 38)) 38 [.string x.1, .int .i64 x.2.1, .string x.2.2.1, J h3, .string x.2.2.2.2]
  simpa using this
 have hC := Reqs_copy h3.1 h3.2.1 h3.2.2 A x.2.2.2.1 (((w.alloc (.cells #[.string x.1, .int .i64 x.2.1, .string x.2.2.1, J h3, .string x.2.2.2.2] 38)).alloc (.cells #[.string ⟨#[]⟩, .int .i64 0, .string ⟨#[]⟩, Z, .string ⟨#[]⟩] 38)).alloc (.cells #[.string x.1, .int .i64 x.2.1, .string x.2.2.1, J h3, .string x.2.2.2.2] 38)) (SlAt.on RReq.firm p2 hb0)
 obtain ⟨W3, hW3⟩ : ∃ W3, W3 = (((w.alloc (.cells #[.string x.1, .int .i64 x.2.1, .string x.2.2.1, J h3, .string x.2.2.2.2] 38)).alloc (.cells #[.string ⟨#[]⟩, .int .i64 0, .string ⟨#[]⟩, Z, .string ⟨#[]⟩] 38)).alloc (.cells #[.string x.1, .int .i64 x.2.1, .string x.2.2.1, J h3, .string x.2.2.2.2] 38)) := ⟨_, rfl⟩
 have hsz : Hid (W3.heap.size = w.heap.size + 1 + 1 + 1) := by rw [Hid, hW3]; simp
 go_enter func31, ntmps31
 go_wp2_with fail
 rw [← hW3] at hb0 hB2 hB3 hC ⊢
 clear hW3
 refine hC.mono ?_
 rintro e w4 ⟨a4, c4, rfl, hS4, hb4⟩
 clear hC
 have hsz4 : w.heap.size + 1 + 1 + 1 ≤ w4.heap.size := by have := hb4.size; rw [hsz.out] at this; exact this
 have k2 := hB2.on hb4
 have k3 := hB3.on hb4
 have hl2 := k2.1
 have hl3 := k3.1
 obtain ⟨c2_0, f2_0⟩ := k2.2 0 _ rfl
 obtain ⟨c3_0, f3_0⟩ := k3.2 0 _ rfl
 obtain ⟨c2_1, f2_1⟩ := k2.2 1 _ rfl
 obtain ⟨c3_1, f3_1⟩ := k3.2 1 _ rfl
 obtain ⟨c2_2, f2_2⟩ := k2.2 2 _ rfl
 obtain ⟨c3_2, f3_2⟩ := k3.2 2 _ rfl
 obtain ⟨c2_3, f2_3⟩ := k2.2 3 _ rfl
 obtain ⟨c3_3, f3_3⟩ := k3.2 3 _ rfl
 obtain ⟨c2_4, f2_4⟩ := k2.2 4 _ rfl
 obtain ⟨c3_4, f3_4⟩ := k3.2 4 _ rfl
 clear k2 k3 hB2 hB3
 have hsW := hsz.out
 clear hsz
 have hS4' : Hid (SlAt RReq 3 48 (Fresh W3) w4 a4 h3.2.1 c4 x.2.2.2.1) := hS4
 clear hS4
 have HW : Hid (W3.heap.size = w.heap.size + 1 + 1 + 1) := hsW
 clear hsW
 go_wp2_with fail
 refine bodyPost_ret (v := .agg #[.string x.1, .int .i64 x.2.1, .string x.2.2.1, .slice a4 h3.2.1 c4, .string x.2.2.2.2]) (by simp [results, results31, go_sem, c2_0, c2_1, c2_2, c2_3, c2_4, c3_0, c3_1, c3_2, c3_3, c3_4]) rfl ⟨[.string x.1, .int .i64 x.2.1, .string x.2.2.1, .slice a4 h3.2.1 c4, .string x.2.2.2.2], rfl, ?_, ?_⟩
 ·
  have hS4 := hS4'.out
  have hsW := HW.out
  refine RVolume.mk (h3 := (a4, h3.2.1, c4)) p0 p1 (SlAt.weak RReq.firm (A := Fresh W3) (SlAt.kept RReq.firm hS4 ?kp) (fun b _ hb => show w.heap.size ≤ b by have hb1 : W3.heap.size ≤ b := hb; have := hb0.size; omega)) p3
  case kp =>
   repeat (refine Kept.trans ?_ (Kept.set (Fresh.not (by simp <;> omega)) _))
   exact Kept.refl _ _
 ·
  repeat (refine Below.setCell ?_ (by simp <;> omega) _)
  exact on2 hb0 hb4
theorem Budget_copy (cs : List Value) (A : Where) (x : BudgetD) (w : World) (h : Hid (RBudget A w cs x)) : Calls prog 32 #[.agg cs.toArray] w fun e w' => ∃ cs', e = .returned (.agg cs'.toArray) ∧ RBudget (Fresh w) w' cs' x ∧ Below w.heap.size w w' := by
 obtain ⟨h1, rfl, p0, p1⟩ := h.out.out
 clear h
 have hb0 : Below w.heap.size w (((w.alloc (.cells #[.string x.1, J h1, .int .i64 x.2.2] 44)).alloc (.cells #[.string ⟨#[]⟩, Z, .int .i64 0] 44)).alloc (.cells #[.string x.1, J h1, .int .i64 x.2.2] 44)) := by go_grown
 have hB2 : BoxL (((w.alloc (.cells #[.string x.1, J h1, .int .i64 x.2.2] 44)).alloc (.cells #[.string ⟨#[]⟩, Z, .int .i64 0] 44)).alloc (.cells #[.string x.1, J h1, .int .i64 x.2.2] 44)) (w.heap.size + 1) [.string ⟨#[]⟩, Z, .int .i64 0] := by
  have := ((BoxL.new (w.alloc (.cells #[.string x.1, J h1, .int .i64 x.2.2] 44)) 44 [.string ⟨#[]⟩, Z, .int .i64 0]).on ((Below.refl _ _).alloc (Nat.le_refl _) (.cells #[.string x.1, J h1, .int .i64 x.2.2] 44)))
  simpa using this
 have hB3 : BoxL (((w.alloc (.cells #[.string x.1, J h1, .int .i64 x.2.2] 44)).alloc (.cells #[.string ⟨#[]⟩, Z, .int .i64 0] 44)).alloc (.cells #[.string x.1, J h1, .int .i64 x.2.2] 44)) (w.heap.size + 1 + 1) [.string x.1, J h1, .int .i64 x.2.2] := by
  have := BoxL.new ((w.alloc (.cells #[.string x.1, J h1, .int .i64 x.2.2] 44)).alloc (.cells #[.string ⟨#[]⟩, Z, .int .i64 0] 44)) 44 [.string x.1, J h1, .int .i64 x.2.2]
  simpa using this
 have hC := Reqs_copy h1.1 h1.2.1 h1.2.2 A x.2.1 (((w.alloc (.cells #[.string x.1, J h1, .int .i64 x.2.2] 44)).alloc (.cells #[.string ⟨#[]⟩, Z, .int .i64 0] 44)).alloc (.cells #[.string x.1, J h1, .int .i64 x.2.2] 44)) (SlAt.on RReq.firm p1 hb0)
 obtain ⟨W3, hW3⟩ : ∃ W3, W3 = (((w.alloc (.cells #[.string x.1, J h1, .int .i64 x.2.2] 44)).alloc (.cells #[.string ⟨#[]⟩, Z, .int .i64 0] 44)).alloc (.cells #[.string x.1, J h1, .int .i64 x.2.2] 44)) := ⟨_, rfl⟩
 have hsz : Hid (W3.heap.size = w.heap.size + 1 + 1 + 1) := by rw [Hid, hW3]; simp
 go_enter func32, ntmps32
 go_wp2_with fail
 rw [← hW3] at hb0 hB2 hB3 hC ⊢
 clear hW3
 refine hC.mono ?_
 rintro e w4 ⟨a4, c4, rfl, hS4, hb4⟩
 clear hC
 have hsz4 : w.heap.size + 1 + 1 + 1 ≤ w4.heap.size := by have := hb4.size; rw [hsz.out] at this; exact this
 have k2 := hB2.on hb4
 have k3 := hB3.on hb4
 have hl2 := k2.1
 have hl3 := k3.1
 obtain ⟨c2_0, f2_0⟩ := k2.2 0 _ rfl
 obtain ⟨c3_0, f3_0⟩ := k3.2 0 _ rfl
 obtain ⟨c2_1, f2_1⟩ := k2.2 1 _ rfl
 obtain ⟨c3_1, f3_1⟩ := k3.2 1 _ rfl
 obtain ⟨c2_2, f2_2⟩ := k2.2 2 _ rfl
 obtain ⟨c3_2, f3_2⟩ := k3.2 2 _ rfl
 clear k2 k3 hB2 hB3
 have hsW := hsz.out
 clear hsz
 have hS4' : Hid (SlAt RReq 3 48 (Fresh W3) w4 a4 h1.2.1 c4 x.2.1) := hS4
 clear hS4
 have HW : Hid (W3.heap.size = w.heap.size + 1 + 1 + 1) := hsW
 clear hsW
 go_wp2_with fail
 refine bodyPost_ret (v := .agg #[.string x.1, .slice a4 h1.2.1 c4, .int .i64 x.2.2]) (by simp [results, results32, go_sem, c2_0, c2_1, c2_2, c3_0, c3_1, c3_2]) rfl ⟨[.string x.1, .slice a4 h1.2.1 c4, .int .i64 x.2.2], rfl, ?_, ?_⟩
 ·
  have hS4 := hS4'.out
  have hsW := HW.out
  refine RBudget.mk (h1 := (a4, h1.2.1, c4)) p0 (SlAt.weak RReq.firm (A := Fresh W3) (SlAt.kept RReq.firm hS4 ?kp) (fun b _ hb => show w.heap.size ≤ b by have hb1 : W3.heap.size ≤ b := hb; have := hb0.size; omega))
  case kp =>
   repeat (refine Kept.trans ?_ (Kept.set (Fresh.not (by simp <;> omega)) _))
   exact Kept.refl _ _
 ·
  repeat (refine Below.setCell ?_ (by simp <;> omega) _)
  exact on2 hb0 hb4
theorem yieldsIf_build {P : Program} {ops : Array Oper} {S : World → Prop} {op : Oper} {a : Act} (hw : Region.wanted op (yielded ops a.tmps) = true) (t : TypeId) (parts : Array (Nat × Operand)) (ho : op.op = .build t parts) (vals : Array (Nat × Value)) (hv : (parts.map fun (i, x) => (i, a.eval x)) = vals) (cells : Array Value) (hb : ∀ w, (Instr.build t vals).run P w = .ok (.agg cells) w) : YieldsIf P ops S op (.agg cells) a :=
 .inl ⟨hw, fun w _ => by
  unfold execOp
  simp only [ho, Sem.run_bind, hv, hb, Result.andThen_ok, Sem.run_pure]⟩
theorem wp_at {P : Program} {c : Code} {a : Act} {Q : Exit → Act → World → Prop} {u W : World} (h : u = W) (k : c.wp P Q a W) : c.wp P Q a u := h ▸ k
theorem built_obj (k : Int) {p n v m l b : List Value} {A0 : Where} {w0 : World} {y0 : PodD} (hp : RPod A0 w0 p y0) {A1 : Where} {w1 : World} {y1 : NodeD} (hn : RNode A1 w1 n y1) {A2 : Where} {w2 : World} {y2 : VolumeD} (hv : RVolume A2 w2 v y2) {A3 : Where} {w3 : World} {y3 : ClaimD} (hm : RClaim A3 w3 m y3) {A4 : Where} {w4 : World} {y4 : ClassD} (hl : RClass A4 w4 l y4) {A5 : Where} {w5 : World} {y5 : BudgetD} (hb : RBudget A5 w5 b y5) (u : World) : (Instr.build 46 #[(0, .int .i64 k), (1, .agg p.toArray), (2, .agg n.toArray), (3, .agg v.toArray), (4, .agg m.toArray), (5, .agg l.toArray), (6, .agg b.toArray)]).run prog u = .ok (.agg ([Value.int .i64 k] ++ (p ++ (n ++ (v ++ (m ++ (l ++ b)))))).toArray) u := by
 obtain ⟨_, _, _, _, _, _, _, _, _, rfl, _⟩ := hp.out
 obtain ⟨_, _, rfl, _⟩ := hn.out
 obtain ⟨_, rfl, _⟩ := hv.out
 obtain ⟨rfl, _⟩ := hm.out
 obtain ⟨rfl, _⟩ := hl.out
 obtain ⟨_, rfl, _⟩ := hb.out
 exact run_build u _ _ _ (by kernel_rfl)
theorem obj_mk {A : Where} {w : World} {x : ObjectD} {p n v m l b : List Value} (hp : RPod A w p x.2.1) (hn : RNode A w n x.2.2.1) (hv : RVolume A w v x.2.2.2.1) (hm : RClaim A w m x.2.2.2.2.1) (hl : RClass A w l x.2.2.2.2.2.1) (hb : RBudget A w b x.2.2.2.2.2.2) : RObject A w ([Value.int .i64 x.1] ++ (p ++ (n ++ (v ++ (m ++ (l ++ b)))))) x := ⟨_, _, rfl, rfl, _, _, rfl, hp, _, _, rfl, hn, _, _, rfl, hv, _, _, rfl, hm, _, _, rfl, hl, hb⟩
theorem Object_copy (cs : List Value) (A : Where) (x : ObjectD) (w : World) (h : RObject A w cs x) : Calls prog 8 #[.agg cs.toArray] w fun e w' => ∃ cs', e = .returned (.agg cs'.toArray) ∧ RObject (Fresh w) w' cs' x ∧ Below w.heap.size w w' := by
 obtain ⟨p, n, v, m, l, b, hcs, hp, hn, hv, hm, hl, hb⟩ := objParts h
 have Hp : Hid (RPod A w p x.2.1) := hp
 have hip := info_of iszPod (RPod.firm.len hp)
 have Hn : Hid (RNode A w n x.2.2.1) := hn
 have hin := info_of iszNode (RNode.firm.len hn)
 have Hv : Hid (RVolume A w v x.2.2.2.1) := hv
 have hiv := info_of iszVolume (RVolume.firm.len hv)
 have Hm : Hid (RClaim A w m x.2.2.2.2.1) := hm
 have him := info_of iszClaim (RClaim.firm.len hm)
 have Hl : Hid (RClass A w l x.2.2.2.2.2.1) := hl
 have hil := info_of iszClass (RClass.firm.len hl)
 have Hb : Hid (RBudget A w b x.2.2.2.2.2.2) := hb
 have hib := info_of iszBudget (RBudget.firm.len hb)
 have HRO : Hid (∀ u, Held w [(w.heap.size, cs)] [(w.heap.size + 1, 40)] u → ObjR u w.heap.size x.1 p n v m l b) := fun u hu => objR (hcs ▸ hu.get 0 rfl) (obj_len hp hn hv hm hl hb)
 obtain ⟨U1, hU1⟩ : ∃ U, U = (w.alloc (.cells cs.toArray 46)).alloc (.cells (zC 0).toArray 46) := ⟨_, rfl⟩
 have HH1 : Hid (Held w [(w.heap.size, cs)] [(w.heap.size + 1, 40)] U1) := by rw [Hid, hU1]; exact ((Held.start w).push rfl cs _).room (by simp) (zC 0).toArray _
 clear h hcs hp hn hv hm hl hb
 go_enter func8, ntmps8
 go_upto_region 1 with fail
 have e1 : (w.alloc (.cells cs.toArray 46)).alloc (.cells (zC 0).toArray 46) = U1 := hU1.symm
 refine wp_at e1 ?_
 clear e1 hU1
 refine t0 (Held w [(w.heap.size, cs)] [(w.heap.size + 1, 40)]) (HH1.out.drew) (fun hH => ?_)
 refine tp 0 ?_; try go_frame
 refine tk (v := .int .i64 x.1) 1 ?_ ?_
 ·
  intro u hu; have hc0 := (HRO.out u hu).k; clear hu; go_simp; try with_reducible rfl
 try go_frame
 refine tp 2 ?_; try go_frame
 refine tq 3 (.agg p.toArray) (yieldsIf_load_mid (by rfl) 33 _ rfl w.heap.size 1 rfl p _ (fun u hu => (HRO.out u hu).p) underlying33 rfl hip) ?_ (hi := rfl)
 try go_frame
 refine tp 5 ?_; try go_frame
 refine tq 6 (.agg n.toArray) (yieldsIf_load_mid (by rfl) 36 _ rfl w.heap.size 17 rfl n _ (fun u hu => (HRO.out u hu).n) underlying36 rfl hin) ?_ (hi := rfl)
 try go_frame
 refine tp 8 ?_; try go_frame
 refine tq 9 (.agg v.toArray) (yieldsIf_load_mid (by rfl) 38 _ rfl w.heap.size 26 rfl v _ (fun u hu => (HRO.out u hu).v) underlying38 rfl hiv) ?_ (hi := rfl)
 try go_frame
 refine tp 11 ?_; try go_frame
 refine tq 12 (.agg m.toArray) (yieldsIf_load_mid (by rfl) 40 _ rfl w.heap.size 31 rfl m _ (fun u hu => (HRO.out u hu).m) underlying40 rfl him) ?_ (hi := rfl)
 try go_frame
 refine tp 13 ?_; try go_frame
 refine tq 14 (.agg l.toArray) (yieldsIf_load_mid (by rfl) 42 _ rfl w.heap.size 35 rfl l _ (fun u hu => (HRO.out u hu).l) underlying42 rfl hil) ?_ (hi := rfl)
 try go_frame
 refine tp 15 ?_; try go_frame
 refine tq 16 (.agg b.toArray) (yieldsIf_load_mid (by rfl) 44 _ rfl w.heap.size 37 rfl b _ (fun u hu => (HRO.out u hu).b) underlying44 rfl hib) ?_ (hi := rfl)
 try go_frame
 refine tr 4 (fun K hK => ?_)
 refine want_yes (by rfl) (call_enter (f := 29) (args := #[.agg p.toArray]) (by kernel_rfl) (Pod_copy p A x.2.1 _ (RPod.firm.kept Hp.out (Kept.below hH.below))) (fun e u1 he => ?_))
 obtain ⟨p', rfl, tp, hb_u1⟩ := he
 have hge := hH.ltM 0 (b := w.heap.size + 1) rfl
 have Tp : Hid (RPod (fun b => Fresh w b ∧ b ≠ w.heap.size + 1) u1 p' x.2.1) := RPod.firm.weak tp (fun b _ hb => ⟨Nat.le_trans (by omega) (show _ ≤ b from hb), Nat.ne_of_gt (Nat.lt_of_lt_of_le hge hb)⟩)
 clear tp hge
 refine ⟨_, rfl, hK.out _ _ (hH.on hb_u1) (fun hH => ?_)⟩
 clear hK K
 try go_frame
 refine tr 7 (fun K hK => ?_)
 refine want_yes (by rfl) (call_enter (f := 30) (args := #[.agg n.toArray]) (by kernel_rfl) (Node_copy n A x.2.2.1 _ (RNode.firm.kept Hn.out (Kept.below hH.below))) (fun e u2 he => ?_))
 obtain ⟨n', rfl, tn, hb_u2⟩ := he
 have hge := hH.ltM 0 (b := w.heap.size + 1) rfl
 have Tn : Hid (RNode (fun b => Fresh w b ∧ b ≠ w.heap.size + 1) u2 n' x.2.2.1) := RNode.firm.weak tn (fun b _ hb => ⟨Nat.le_trans (by omega) (show _ ≤ b from hb), Nat.ne_of_gt (Nat.lt_of_lt_of_le hge hb)⟩)
 clear tn hge
 have Tp2 : Hid (RPod (fun b => Fresh w b ∧ b ≠ w.heap.size + 1) u2 p' x.2.1) := RPod.firm.kept Tp.out (Kept.below hb_u2)
 clear Tp
 have Tp := Tp2
 clear Tp2
 refine ⟨_, rfl, hK.out _ _ (hH.on hb_u2) (fun hH => ?_)⟩
 clear hK K
 try go_frame
 refine tr 10 (fun K hK => ?_)
 refine want_yes (by rfl) (call_enter (f := 31) (args := #[.agg v.toArray]) (by kernel_rfl) (Volume_copy v A x.2.2.2.1 _ (RVolume.firm.kept Hv.out (Kept.below hH.below))) (fun e u3 he => ?_))
 obtain ⟨v', rfl, tv, hb_u3⟩ := he
 have hge := hH.ltM 0 (b := w.heap.size + 1) rfl
 have Tv : Hid (RVolume (fun b => Fresh w b ∧ b ≠ w.heap.size + 1) u3 v' x.2.2.2.1) := RVolume.firm.weak tv (fun b _ hb => ⟨Nat.le_trans (by omega) (show _ ≤ b from hb), Nat.ne_of_gt (Nat.lt_of_lt_of_le hge hb)⟩)
 clear tv hge
 have Tp2 : Hid (RPod (fun b => Fresh w b ∧ b ≠ w.heap.size + 1) u3 p' x.2.1) := RPod.firm.kept Tp.out (Kept.below hb_u3)
 clear Tp
 have Tp := Tp2
 clear Tp2
 have Tn2 : Hid (RNode (fun b => Fresh w b ∧ b ≠ w.heap.size + 1) u3 n' x.2.2.1) := RNode.firm.kept Tn.out (Kept.below hb_u3)
 clear Tn
 have Tn := Tn2
 clear Tn2
 refine ⟨_, rfl, hK.out _ _ (hH.on hb_u3) (fun hH => ?_)⟩
 clear hK K
 try go_frame
 refine tr 17 (fun K hK => ?_)
 refine want_yes (by rfl) (call_enter (f := 32) (args := #[.agg b.toArray]) (by kernel_rfl) (Budget_copy b A x.2.2.2.2.2.2 _ (RBudget.firm.kept Hb.out (Kept.below hH.below))) (fun e u4 he => ?_))
 obtain ⟨b', rfl, tb, hb_u4⟩ := he
 have hge := hH.ltM 0 (b := w.heap.size + 1) rfl
 have Tb : Hid (RBudget (fun b => Fresh w b ∧ b ≠ w.heap.size + 1) u4 b' x.2.2.2.2.2.2) := RBudget.firm.weak tb (fun b _ hb => ⟨Nat.le_trans (by omega) (show _ ≤ b from hb), Nat.ne_of_gt (Nat.lt_of_lt_of_le hge hb)⟩)
 clear tb hge
 have Tp2 : Hid (RPod (fun b => Fresh w b ∧ b ≠ w.heap.size + 1) u4 p' x.2.1) := RPod.firm.kept Tp.out (Kept.below hb_u4)
 clear Tp
 have Tp := Tp2
 clear Tp2
 have Tn2 : Hid (RNode (fun b => Fresh w b ∧ b ≠ w.heap.size + 1) u4 n' x.2.2.1) := RNode.firm.kept Tn.out (Kept.below hb_u4)
 clear Tn
 have Tn := Tn2
 clear Tn2
 have Tv2 : Hid (RVolume (fun b => Fresh w b ∧ b ≠ w.heap.size + 1) u4 v' x.2.2.2.1) := RVolume.firm.kept Tv.out (Kept.below hb_u4)
 clear Tv
 have Tv := Tv2
 clear Tv2
 refine ⟨_, rfl, hK.out _ _ (hH.on hb_u4) (fun hH => ?_)⟩
 clear hK K
 try go_frame
 have HNR : Hid (RObject (fun b => Fresh w b ∧ b ≠ w.heap.size + 1) u4 ([Value.int .i64 x.1] ++ (p' ++ (n' ++ (v' ++ (m ++ (l ++ b')))))) x) := obj_mk Tp.out Tn.out Tv.out (by obtain ⟨rfl, q0, q1, q2⟩ := Hm.out.out; exact RClaim.mk q0 q1 q2) (by obtain ⟨rfl, q0⟩ := Hl.out.out; exact RClass.mk q0) Tb.out
 have HNL : Hid (([Value.int .i64 x.1] ++ (p' ++ (n' ++ (v' ++ (m ++ (l ++ b')))))).length = 40) := RObject.firm.len HNR.out
 have hin : (prog.info? 46).map (·.size) = some ([Value.int .i64 x.1] ++ (p' ++ (n' ++ (v' ++ (m ++ (l ++ b')))))).length := by rw [HNL.out]; exact infoObj
 have hon : ([Value.int .i64 x.1] ++ (p' ++ (n' ++ (v' ++ (m ++ (l ++ b')))))).toArray.all (·.oneCell') = true := all_oneCell_toArray (RObject.firm.one HNR.out)
 refine tq 18 (.agg ([Value.int .i64 x.1] ++ (p' ++ (n' ++ (v' ++ (m ++ (l ++ b')))))).toArray) (yieldsIf_build (by rfl) 46 _ rfl #[(0, .int .i64 x.1), (1, .agg p'.toArray), (2, .agg n'.toArray), (3, .agg v'.toArray), (4, .agg m.toArray), (5, .agg l.toArray), (6, .agg b'.toArray)] (by go_simp) ([Value.int .i64 x.1] ++ (p' ++ (n' ++ (v' ++ (m ++ (l ++ b')))))).toArray (built_obj x.1 Tp.out Tn.out Tv.out Hm.out Hl.out Tb.out)) ?_ (hi := rfl)
 try go_frame
 first | refine tr 19 (fun K hK => ?_) | refine ts 19 (fun K hK => ?_)
 refine want_yes (by rfl) (wp_store_mid 46 _ _ rfl (w.heap.size + 1) 0 ([Value.int .i64 x.1] ++ (p' ++ (n' ++ (v' ++ (m ++ (l ++ b')))))).toArray rfl rfl (there_sub (hH.there 0 rfl) (by simpa using Nat.le_of_eq HNL.out)) (by simpa using hin) hon ?_)
 obtain ⟨uz, huz⟩ : ∃ uz, uz = u4.setCells (w.heap.size + 1) 0 ([Value.int .i64 x.1] ++ (p' ++ (n' ++ (v' ++ (m ++ (l ++ b')))))) := ⟨_, rfl⟩
 have hHZ : Held w [(w.heap.size, cs)] [(w.heap.size + 1, 40)] uz := by rw [huz]; exact hH.wroteAt 0 rfl (by simp)
 have HEND : Hid (Held w [(w.heap.size, cs)] [(w.heap.size + 1, 40)] uz ∧ uz.rangeAt (w.heap.size + 1) 0 ([Value.int .i64 x.1] ++ (p' ++ (n' ++ (v' ++ (m ++ (l ++ b')))))) ∧ RObject (Fresh w) uz ([Value.int .i64 x.1] ++ (p' ++ (n' ++ (v' ++ (m ++ (l ++ b')))))) x) := ⟨hHZ, by rw [huz]; exact World.rangeAt_setCells_same _ _ _ _ (there_sub (hH.there 0 rfl) (Nat.le_of_eq (by simpa using HNL.out))), by rw [huz]; exact RObject.firm.weak (RObject.firm.kept HNR.out (kept_setCells (fun h => h.2 rfl))) (fun b _ h => h.1)⟩
 refine at_world huz ?_
 refine hK.out _ _ hHZ (fun hH => ?_)
 clear hK K
 try go_frame
 refine tz ?_
 obtain ⟨hE1, hE2, hE3⟩ := HEND.out
 go_wp2_with fail
 refine bodyPost_ret (v := .agg ([Value.int .i64 x.1] ++ (p' ++ (n' ++ (v' ++ (m ++ (l ++ b')))))).toArray) (res_cell (p := 2) (ty := 46) rfl _ _ (w.heap.size + 1) ([Value.int .i64 x.1] ++ (p' ++ (n' ++ (v' ++ (m ++ (l ++ b')))))) _ rfl hE2 underlying46 rfl hin) rfl ⟨_, rfl, hE3, hE1.below⟩
def putL {α : Type} (nm : α → ByteArray) (L : List α) (o : α) : Option (List α × Bool) :=
 if L.findIdx (fun x => sEq (nm x) (nm o)) < L.length then some (L.take (L.findIdx fun x => sEq (nm x) (nm o)) ++ o :: L.drop ((L.findIdx fun x => sEq (nm x) (nm o)) + 1), true)
 else if 256 ≤ L.length then none
 else some (L.take (L.findIdx fun x => sGt (nm x) (nm o)) ++ o :: L.drop (L.findIdx fun x => sGt (nm x) (nm o)), false)
theorem findIdx_is {α : Type} [Inhabited α] {L : List α} {p : α → Bool} {i : Nat} (hi : i < L.length) (hy : p (L.getD i default) = true) (hn : ∀ j, j < i → p (L.getD j default) = false) : L.findIdx p = i := by
 rw [List.findIdx_eq hi]
 refine ⟨by rw [getE _ _ hi] at hy; exact hy, fun j hj => ?_⟩
 have := hn j hj
 rwa [getE _ _ (by omega)] at this
theorem findIdx_none {α : Type} [Inhabited α] {L : List α} {p : α → Bool} (hn : ∀ j, j < L.length → p (L.getD j default) = false) : L.findIdx p = L.length := by
 rw [List.findIdx_eq_length]
 intro x hx
 obtain ⟨i, hi, rfl⟩ := List.mem_iff_getElem.1 hx
 have := hn i hi
 rwa [getE _ _ hi] at this
def withLClass (x : StateD) (L : List ClassD) : StateD := (x.1, x.2.1, x.2.2.1, x.2.2.2.1, L, x.2.2.2.2.2)
def putSClass (x : StateD) (o : ClassD) : StateD × Bool × Int := match putL (fun y : ClassD => y.1) x.2.2.2.2.1 o with | some r => (withLClass x r.1, r.2, 0) | none => (noState, false, 3)
def StTup (A : Where) (w : World) (r : StateD × Bool × Int) (e : Ending) (w' : World) : Prop := ∃ g0 g1 g2 g3 g4 g5 : Hd, e = .returned (.tuple #[.agg #[J g0, J g1, J g2, J g3, J g4, J g5], .bool r.2.1, .int .i64 r.2.2]) ∧ OwnSt (Lo A w) w w' (J g0) (J g1) (J g2) (J g3) (J g4) (J g5) r.1 ∧ Below w.heap.size w w'
def StTup2 (A : Where) (w : World) (r : StateD × Bool) (e : Ending) (w' : World) : Prop := ∃ g0 g1 g2 g3 g4 g5 : Hd, e = .returned (.tuple #[.agg #[J g0, J g1, J g2, J g3, J g4, J g5], .bool r.2]) ∧ OwnSt (Lo A w) w w' (J g0) (J g1) (J g2) (J g3) (J g4) (J g5) r.1 ∧ Below w.heap.size w w'
def Room (b n : Nat) (u : World) : Prop := u.there b 0 n ∧ b < u.heap.size
theorem Room.on {b n : Nat} {u u' : World} (h : Room b n u) (hb : Below u.heap.size u u') : Room b n u' := ⟨there_on h.1 hb h.2, Nat.lt_of_lt_of_le h.2 hb.size⟩
theorem Held.grown {w u u' : World} {L : List (Nat × List Value)} {M : List (Nat × Nat)} {row : Option Nat} (h : Held w L M u) (hg : u.grownBy u' row) (hr : ∀ b, row = some b → w.heap.size ≤ b ∧ (∀ x ∈ L, x.1 ≠ b) ∧ ∀ y ∈ M, y.1 ≠ b) : Held w L M u' := by
 refine ⟨h.1.grown hg h.1.size (fun k e => (hr k e).1), fun x hx => ?_, fun y hy => ?_⟩
 ·
  obtain ⟨g1, g2, g3, g4⟩ := h.2.1 x hx
  have hk := hg.block x.1 g2 (fun e => (hr x.1 e.symm).2.1 x hx rfl)
  exact ⟨g1, Nat.lt_of_lt_of_le g2 hg.size, fun j v hj => (World.cell?_of_block (w := u) (a := ⟨x.1, 0 + j, none⟩) hk).trans (g3 j v hj), fun j hj => by rw [World.cell?_of_block (w := u) (a := ⟨x.1, 0 + j, none⟩) hk, World.frozen?_of_block (w := u) (a := ⟨x.1, 0 + j, none⟩) hk]; exact g4 j hj⟩
 ·
  obtain ⟨g1, g2, g3⟩ := h.2.2 y hy
  have hk := hg.block y.1 g2 (fun e => (hr y.1 e.symm).2.2 y hy rfl)
  exact ⟨g1, Nat.lt_of_lt_of_le g2 hg.size, fun j hj => by rw [World.cell?_of_block (w := u) (a := ⟨y.1, 0 + j, none⟩) hk, World.frozen?_of_block (w := u) (a := ⟨y.1, 0 + j, none⟩) hk]; exact g3 j hj⟩
theorem Held.other {w u : World} {L : List (Nat × List Value)} {M : List (Nat × Nat)} {b o : Nat} {cs : List Value} (h : Held w L M u) (hb : w.heap.size ≤ b) (hL : ∀ x ∈ L, x.1 ≠ b) : Held w L M (u.setCells b o cs) := by
 refine ⟨below_setCells h.1 hb, fun x hx => ?_, fun y hy => ?_⟩
 ·
  obtain ⟨g1, g2, g3, g4⟩ := h.2.1 x hx
  exact ⟨g1, by rw [size_setCells]; exact g2, World.rangeAt_setCells_apart g3 b o cs (.inl (hL x hx)), World.there_setCells g4 b o cs⟩
 ·
  obtain ⟨g1, g2, g3⟩ := h.2.2 y hy
  exact ⟨g1, by rw [size_setCells]; exact g2, World.there_setCells g3 b o cs⟩
section
variable {α : Type} [Inhabited α] {R : Rep α} {k : Nat}
theorem Row.slG (hR : Firm R k) {bytes : Nat} {A : Where} {w0 u : World} {e : TypeId} {g : Hd} {L : List α} (h : Row R k A w0 u e (J g) L) (hb : L.length * bytes ≤ 140737488351232) : SlAt R k bytes (fun b => A b ∨ Fresh w0 b) u g.1 g.2.1 g.2.2 L := by
 obtain ⟨a, cap, e1, h3⟩ := h.sl hR hb
 simp only [Value.slice.injEq] at e1
 obtain ⟨e1, e2, e3⟩ := e1
 rw [e1, e2, e3]
 exact h3
theorem Row.put (hR : Firm R k) {A : Where} {w0 u : World} {e : TypeId} {g cap i : Nat} {L : List α} {c : List Value} {x : α} (h : Row R k A w0 u e (.slice (some ⟨g, 0, none⟩) L.length cap) L) (hi : i < L.length) (hx : R A u c x) (hA : ∀ b, A b → b ≠ g) : Row R k A w0 (u.setCells g (i * k) c) e (.slice (some ⟨g, 0, none⟩) L.length cap) (L.take i ++ x :: L.drop (i + 1)) := by
 have hlen : (L.take i ++ x :: L.drop (i + 1)).length = L.length := by simp; omega
 have hcl := hR.len hx
 obtain ⟨xs, ⟨hb, hl, ⟨e1, _⟩ | ⟨g', cap', cur, e1, hBg, hg, hcp, hcm, hsz, htk⟩⟩, hch⟩ := h
 ·
  cases e1
 ·
  simp only [Value.slice.injEq, Option.some.injEq, Addr.mk.injEq, and_true, true_and] at e1
  obtain ⟨rfl, rfl⟩ := e1
  have hkn : (i + 1) * k ≤ L.length * k := Nat.mul_le_mul_right k hi
  have hkc : L.length * k ≤ cap * k := Nat.mul_le_mul_right k hcp
  rw [Nat.add_mul, Nat.one_mul] at hkn
  have hxl : xs.length = L.length * k := hl
  obtain ⟨cur', hg', hs', ht'⟩ := row_setCells g e c (i * k) u cur hg (by rw [hcl, hsz]; omega)
  have c1 := (hch.take i (by omega)).append ((chunk_one hR (hR.weak hx (A' := fun b => A b ∧ Value.ownBlock (.slice (some ⟨g, 0, none⟩) L.length cap) ≠ some b) (fun b _ h => ⟨h, by simp only [Value.ownBlock, ne_eq, Option.some.injEq]; exact fun e => hA b h e.symm⟩))).append (hch.drop (i + 1)))
  refine ⟨xs.take (i * k) ++ (c ++ xs.drop ((i + 1) * k)), ⟨below_setCells hb hBg, ?_⟩, ?_⟩
  ·
   rw [hlen]
   refine ⟨by simp only [List.length_append, List.length_take, List.length_drop, hcl, hxl, Nat.add_mul, Nat.one_mul]; omega, .inr ⟨g, cap, cur', rfl, hBg, hg', hcp, hcm, by rw [hs', hsz], ?_⟩⟩
   have e0 : cur.toList.take (i * k) = xs.take (i * k) := by rw [← htk, List.take_take]; congr 1; omega
   have e2 : (cur.toList.drop (i * k + k)).take (L.length * k - (i * k + k)) = xs.drop ((i + 1) * k) := by rw [← htk, List.drop_take, Nat.add_mul, Nat.one_mul]
   have hcL : cur.toList.length = cap * k := by rw [Array.length_toList, hsz]
   have l1 : (xs.take (i * k) ++ c).length = i * k + k := by simp only [List.length_append, List.length_take, hcl, hxl]; omega
   rw [ht', hcl, e0, ← List.append_assoc]
   rw [← e2]
   conv => lhs; rw [show L.length * k = (xs.take (i * k) ++ c).length + (L.length * k - (i * k + k)) by rw [l1]; omega]
   rw [List.take_length_add_append]
  ·
   have k1 : Kept (fun b => A b ∧ Value.ownBlock (.slice (some ⟨g, 0, none⟩) L.length cap) ≠ some b) u (u.setCells g (i * k) c) := kept_setCells (fun h => h.2 rfl)
   have c2 := c1.kept hR k1
   simpa using c2
end
theorem ns_of {v0 v1 v2 v3 v4 v5 : Value} (h : [v0, v1, v2, v3, v4, v5].Pairwise NoShare) : NoShare v0 v1 ∧ NoShare v0 v2 ∧ NoShare v0 v3 ∧ NoShare v0 v4 ∧ NoShare v0 v5 ∧ NoShare v1 v2 ∧ NoShare v1 v3 ∧ NoShare v1 v4 ∧ NoShare v1 v5 ∧ NoShare v2 v3 ∧ NoShare v2 v4 ∧ NoShare v2 v5 ∧ NoShare v3 v4 ∧ NoShare v3 v5 ∧ NoShare v4 v5 := by
 simp only [List.pairwise_cons, List.mem_cons, List.not_mem_nil, or_false, forall_eq_or_imp, forall_eq, List.Pairwise.nil, and_true, false_implies, implies_true] at h
 obtain ⟨⟨a1, a2, a3, a4, a5⟩, ⟨b2, b3, b4, b5⟩, ⟨c3, c4, c5⟩, ⟨d4, d5⟩, e5⟩ := h
 exact ⟨a1, a2, a3, a4, a5, b2, b3, b4, b5, c3, c4, c5, d4, d5, e5⟩
theorem kgr {A : Where} {w u ui : World} {old : Option Nat} {P : Nat → Prop} (hgr : u.grownBy ui old) (hB : ∀ b, old = some b → w.heap.size ≤ b) (hP : ∀ b, P b → old = some b → False) : Kept (fun b => Lo A w b ∨ P b) u ui :=
 Kept.grown hgr (fun b e h => by
  rcases h with h | h
  ·
   have h1 := h.2; have h2 := hB b e; omega
  ·
   exact hP b h e)
theorem pnw {v old : Option Nat} {n : Nat} {P : Nat → Prop} (h5 : v = old ∨ v = some n) (h1 : ∀ b, P b → old = some b → False) (h2 : ∀ b, P b → b < n) : ∀ b, P b → v = some b → False := fun b hb hb2 => by
 rcases h5 with h5 | h5
 ·
  rw [h5] at hb2; exact h1 b hb hb2
 ·
  rw [h5] at hb2; have h6 := h2 b hb; have h7 : n = b := (by simpa using hb2); omega
end Go.Proofs.YtikncmcceeacmaaGreat

