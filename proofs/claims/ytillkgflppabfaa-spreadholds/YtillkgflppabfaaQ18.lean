/- base.Node gives a copy of its own. Condition: the argument lies as is said of it. The law's copies of nodes. Condition: the slice lies as is said of it. The law's many: copies of what is placed. Condition: the slice lies as is said of it. -/
import Derived.Test.YtillkgflppabfaaQ04
import Derived.Test.YtillkgflppabfaaQ17
namespace Go.Proofs.Ytillkgflppabfaa
open Go.RowKit
set_option linter.unusedSimpArgs false

theorem infoTaint : (Try.prog.info? 93).map (fun i => (i.zero, i.size, i.bytes)) = some (some (.agg #[.string ⟨#[]⟩, .string ⟨#[]⟩, .int .i64 0]), 3, 40) := by kernel_rfl
set_option maxHeartbeats 4000000 in
theorem Node_copy (cs : List Value) (A : Where) (x : NodeD) (w : World) (h : Hid (RNode A w cs x)) : Calls Try.prog 17 #[.agg cs.toArray] w fun e w' => ∃ cs', e = .returned (.agg cs'.toArray) ∧ RNode (Fresh w) w' cs' x ∧ Below w.heap.size w w' := by
  obtain ⟨h1, ⟨a2, n2, m2⟩, rfl, p0, p1, p2⟩ := h.out.out
  simp only at p2 ⊢
  clear h
  have hb0 : Below w.heap.size w (((w.alloc (.cells #[.string x.1, .slice h1.1 h1.2.1 h1.2.2, .slice a2 n2 m2, .bool x.2.2.2.1, .int .i64 x.2.2.2.2.1.1, .int .i64 x.2.2.2.2.1.2.1, .int .i64 x.2.2.2.2.1.2.2, .int .i64 x.2.2.2.2.2.1, .int .i64 x.2.2.2.2.2.2] 51)).alloc (.cells #[.string ⟨#[]⟩, .slice none 0 0, .slice none 0 0, .bool false, .int .i64 0, .int .i64 0, .int .i64 0, .int .i64 0, .int .i64 0] 51)).alloc (.cells #[.string x.1, .slice h1.1 h1.2.1 h1.2.2, .slice a2 n2 m2, .bool x.2.2.2.1, .int .i64 x.2.2.2.2.1.1, .int .i64 x.2.2.2.2.1.2.1, .int .i64 x.2.2.2.2.1.2.2, .int .i64 x.2.2.2.2.2.1, .int .i64 x.2.2.2.2.2.2] 51)) := by go_grown
  have hB2 : BoxL (((w.alloc (.cells #[.string x.1, .slice h1.1 h1.2.1 h1.2.2, .slice a2 n2 m2, .bool x.2.2.2.1, .int .i64 x.2.2.2.2.1.1, .int .i64 x.2.2.2.2.1.2.1, .int .i64 x.2.2.2.2.1.2.2, .int .i64 x.2.2.2.2.2.1, .int .i64 x.2.2.2.2.2.2] 51)).alloc (.cells #[.string ⟨#[]⟩, .slice none 0 0, .slice none 0 0, .bool false, .int .i64 0, .int .i64 0, .int .i64 0, .int .i64 0, .int .i64 0] 51)).alloc (.cells #[.string x.1, .slice h1.1 h1.2.1 h1.2.2, .slice a2 n2 m2, .bool x.2.2.2.1, .int .i64 x.2.2.2.2.1.1, .int .i64 x.2.2.2.2.1.2.1, .int .i64 x.2.2.2.2.1.2.2, .int .i64 x.2.2.2.2.2.1, .int .i64 x.2.2.2.2.2.2] 51)) (w.heap.size + 1) [.string ⟨#[]⟩, .slice none 0 0, .slice none 0 0, .bool false, .int .i64 0, .int .i64 0, .int .i64 0, .int .i64 0, .int .i64 0] := by
    have := ((BoxL.new (w.alloc (.cells #[.string x.1, .slice h1.1 h1.2.1 h1.2.2, .slice a2 n2 m2, .bool x.2.2.2.1, .int .i64 x.2.2.2.2.1.1, .int .i64 x.2.2.2.2.1.2.1, .int .i64 x.2.2.2.2.1.2.2, .int .i64 x.2.2.2.2.2.1, .int .i64 x.2.2.2.2.2.2] 51)) 51 [.string ⟨#[]⟩, .slice none 0 0, .slice none 0 0, .bool false, .int .i64 0, .int .i64 0, .int .i64 0, .int .i64 0, .int .i64 0]).on ((Below.refl _ _).alloc (Nat.le_refl _) (.cells #[.string x.1, .slice h1.1 h1.2.1 h1.2.2, .slice a2 n2 m2, .bool x.2.2.2.1, .int .i64 x.2.2.2.2.1.1, .int .i64 x.2.2.2.2.1.2.1, .int .i64 x.2.2.2.2.1.2.2, .int .i64 x.2.2.2.2.2.1, .int .i64 x.2.2.2.2.2.2] 51)))
    simpa using this
  have hB3 : BoxL (((w.alloc (.cells #[.string x.1, .slice h1.1 h1.2.1 h1.2.2, .slice a2 n2 m2, .bool x.2.2.2.1, .int .i64 x.2.2.2.2.1.1, .int .i64 x.2.2.2.2.1.2.1, .int .i64 x.2.2.2.2.1.2.2, .int .i64 x.2.2.2.2.2.1, .int .i64 x.2.2.2.2.2.2] 51)).alloc (.cells #[.string ⟨#[]⟩, .slice none 0 0, .slice none 0 0, .bool false, .int .i64 0, .int .i64 0, .int .i64 0, .int .i64 0, .int .i64 0] 51)).alloc (.cells #[.string x.1, .slice h1.1 h1.2.1 h1.2.2, .slice a2 n2 m2, .bool x.2.2.2.1, .int .i64 x.2.2.2.2.1.1, .int .i64 x.2.2.2.2.1.2.1, .int .i64 x.2.2.2.2.1.2.2, .int .i64 x.2.2.2.2.2.1, .int .i64 x.2.2.2.2.2.2] 51)) (w.heap.size + 1 + 1) [.string x.1, .slice h1.1 h1.2.1 h1.2.2, .slice a2 n2 m2, .bool x.2.2.2.1, .int .i64 x.2.2.2.2.1.1, .int .i64 x.2.2.2.2.1.2.1, .int .i64 x.2.2.2.2.1.2.2, .int .i64 x.2.2.2.2.2.1, .int .i64 x.2.2.2.2.2.2] := by
    have := BoxL.new ((w.alloc (.cells #[.string x.1, .slice h1.1 h1.2.1 h1.2.2, .slice a2 n2 m2, .bool x.2.2.2.1, .int .i64 x.2.2.2.2.1.1, .int .i64 x.2.2.2.2.1.2.1, .int .i64 x.2.2.2.2.1.2.2, .int .i64 x.2.2.2.2.2.1, .int .i64 x.2.2.2.2.2.2] 51)).alloc (.cells #[.string ⟨#[]⟩, .slice none 0 0, .slice none 0 0, .bool false, .int .i64 0, .int .i64 0, .int .i64 0, .int .i64 0, .int .i64 0] 51)) 51 [.string x.1, .slice h1.1 h1.2.1 h1.2.2, .slice a2 n2 m2, .bool x.2.2.2.1, .int .i64 x.2.2.2.2.1.1, .int .i64 x.2.2.2.2.1.2.1, .int .i64 x.2.2.2.2.1.2.2, .int .i64 x.2.2.2.2.2.1, .int .i64 x.2.2.2.2.2.2]
    simpa using this
  have hB1 : BoxL (((w.alloc (.cells #[.string x.1, .slice h1.1 h1.2.1 h1.2.2, .slice a2 n2 m2, .bool x.2.2.2.1, .int .i64 x.2.2.2.2.1.1, .int .i64 x.2.2.2.2.1.2.1, .int .i64 x.2.2.2.2.1.2.2, .int .i64 x.2.2.2.2.2.1, .int .i64 x.2.2.2.2.2.2] 51)).alloc (.cells #[.string ⟨#[]⟩, .slice none 0 0, .slice none 0 0, .bool false, .int .i64 0, .int .i64 0, .int .i64 0, .int .i64 0, .int .i64 0] 51)).alloc (.cells #[.string x.1, .slice h1.1 h1.2.1 h1.2.2, .slice a2 n2 m2, .bool x.2.2.2.1, .int .i64 x.2.2.2.2.1.1, .int .i64 x.2.2.2.2.1.2.1, .int .i64 x.2.2.2.2.1.2.2, .int .i64 x.2.2.2.2.2.1, .int .i64 x.2.2.2.2.2.2] 51)) w.heap.size [.string x.1, .slice h1.1 h1.2.1 h1.2.2, .slice a2 n2 m2, .bool x.2.2.2.1, .int .i64 x.2.2.2.2.1.1, .int .i64 x.2.2.2.2.1.2.1, .int .i64 x.2.2.2.2.1.2.2, .int .i64 x.2.2.2.2.2.1, .int .i64 x.2.2.2.2.2.2] := (BoxL.new w 51 [.string x.1, .slice h1.1 h1.2.1 h1.2.2, .slice a2 n2 m2, .bool x.2.2.2.1, .int .i64 x.2.2.2.2.1.1, .int .i64 x.2.2.2.2.1.2.1, .int .i64 x.2.2.2.2.1.2.2, .int .i64 x.2.2.2.2.2.1, .int .i64 x.2.2.2.2.2.2]).on (((Below.refl _ _).alloc (Nat.le_refl _) (.cells #[.string ⟨#[]⟩, .slice none 0 0, .slice none 0 0, .bool false, .int .i64 0, .int .i64 0, .int .i64 0, .int .i64 0, .int .i64 0] 51)).alloc (by simp) (.cells #[.string x.1, .slice h1.1 h1.2.1 h1.2.2, .slice a2 n2 m2, .bool x.2.2.2.1, .int .i64 x.2.2.2.2.1.1, .int .i64 x.2.2.2.2.1.2.1, .int .i64 x.2.2.2.2.1.2.2, .int .i64 x.2.2.2.2.2.1, .int .i64 x.2.2.2.2.2.2] 51))
  have hC := Labels_copy h1.1 h1.2.1 h1.2.2 A x.2.1 (((w.alloc (.cells #[.string x.1, .slice h1.1 h1.2.1 h1.2.2, .slice a2 n2 m2, .bool x.2.2.2.1, .int .i64 x.2.2.2.2.1.1, .int .i64 x.2.2.2.2.1.2.1, .int .i64 x.2.2.2.2.1.2.2, .int .i64 x.2.2.2.2.2.1, .int .i64 x.2.2.2.2.2.2] 51)).alloc (.cells #[.string ⟨#[]⟩, .slice none 0 0, .slice none 0 0, .bool false, .int .i64 0, .int .i64 0, .int .i64 0, .int .i64 0, .int .i64 0] 51)).alloc (.cells #[.string x.1, .slice h1.1 h1.2.1 h1.2.2, .slice a2 n2 m2, .bool x.2.2.2.1, .int .i64 x.2.2.2.2.1.1, .int .i64 x.2.2.2.2.1.2.1, .int .i64 x.2.2.2.2.1.2.2, .int .i64 x.2.2.2.2.2.1, .int .i64 x.2.2.2.2.2.2] 51)) (SlAt.on RLabel.firm p1 hb0)
  obtain ⟨W3, hW3⟩ : ∃ W3, W3 = (((w.alloc (.cells #[.string x.1, .slice h1.1 h1.2.1 h1.2.2, .slice a2 n2 m2, .bool x.2.2.2.1, .int .i64 x.2.2.2.2.1.1, .int .i64 x.2.2.2.2.1.2.1, .int .i64 x.2.2.2.2.1.2.2, .int .i64 x.2.2.2.2.2.1, .int .i64 x.2.2.2.2.2.2] 51)).alloc (.cells #[.string ⟨#[]⟩, .slice none 0 0, .slice none 0 0, .bool false, .int .i64 0, .int .i64 0, .int .i64 0, .int .i64 0, .int .i64 0] 51)).alloc (.cells #[.string x.1, .slice h1.1 h1.2.1 h1.2.2, .slice a2 n2 m2, .bool x.2.2.2.1, .int .i64 x.2.2.2.2.1.1, .int .i64 x.2.2.2.2.1.2.1, .int .i64 x.2.2.2.2.1.2.2, .int .i64 x.2.2.2.2.2.1, .int .i64 x.2.2.2.2.2.2] 51)) := ⟨_, rfl⟩
  have hsz : Hid (W3.heap.size = w.heap.size + 1 + 1 + 1) := by rw [Hid, hW3]; simp
  go_enter Try.func17, Try.ntmps17
  go_wp2_with fail
  rw [← hW3] at hb0 hB1 hB2 hB3 hC ⊢
  clear hW3
  refine hC.mono ?_
  rintro e w4 ⟨a4, c4, rfl, hS4, hb4⟩
  clear hC
  have hsz4 : w.heap.size + 1 + 1 + 1 ≤ w4.heap.size := by have := hb4.size; rw [hsz.out] at this; exact this
  have hne0 : w.heap.size ≠ w4.heap.size := by omega
  have hne1 : w.heap.size + 1 ≠ w4.heap.size := by omega
  have hne2 : w.heap.size + 1 + 1 ≠ w4.heap.size := by omega
  have hlt0 : w.heap.size < w4.heap.size := by omega
  obtain ⟨c1_2, _⟩ := (hB1.on hb4).2 2 _ rfl
  have k2 := hB2.on hb4
  have k3 := hB3.on hb4
  have HW := hsz
  have hS4' : Hid (SlAt RLabel 2 32 (Fresh W3) w4 a4 h1.2.1 c4 x.2.1) := hS4
  clear hsz hS4 hB1 hB2 hB3
  have k2' : BoxL (w4.setCell ⟨w.heap.size + 1 + 1, 1, none⟩ (.slice a4 h1.2.1 c4)) (w.heap.size + 1) [.string ⟨#[]⟩, .slice none 0 0, .slice none 0 0, .bool false, .int .i64 0, .int .i64 0, .int .i64 0, .int .i64 0, .int .i64 0] := k2.other (by simp) _
  have k3' : BoxL (w4.setCell ⟨w.heap.size + 1 + 1, 1, none⟩ (.slice a4 h1.2.1 c4)) (w.heap.size + 1 + 1) [.string x.1, .slice a4 h1.2.1 c4, .slice a2 n2 m2, .bool x.2.2.2.1, .int .i64 x.2.2.2.2.1.1, .int .i64 x.2.2.2.2.1.2.1, .int .i64 x.2.2.2.2.1.2.2, .int .i64 x.2.2.2.2.2.1, .int .i64 x.2.2.2.2.2.2] := k3.set 1 _ (by simp)
  have K2 : Hid (BoxL (w4.setCell ⟨w.heap.size + 1 + 1, 1, none⟩ (.slice a4 h1.2.1 c4)) (w.heap.size + 1) [.string ⟨#[]⟩, .slice none 0 0, .slice none 0 0, .bool false, .int .i64 0, .int .i64 0, .int .i64 0, .int .i64 0, .int .i64 0]) := k2'
  have K3 : Hid (BoxL (w4.setCell ⟨w.heap.size + 1 + 1, 1, none⟩ (.slice a4 h1.2.1 c4)) (w.heap.size + 1 + 1) [.string x.1, .slice a4 h1.2.1 c4, .slice a2 n2 m2, .bool x.2.2.2.1, .int .i64 x.2.2.2.2.1.1, .int .i64 x.2.2.2.2.1.2.1, .int .i64 x.2.2.2.2.1.2.2, .int .i64 x.2.2.2.2.2.1, .int .i64 x.2.2.2.2.2.2]) := k3'
  have hbU : Below w.heap.size w ((w4.setCell ⟨w.heap.size + 1 + 1, 1, none⟩ (.slice a4 h1.2.1 c4)).alloc (.cells #[] 93)) := ((on2 hb0 hb4).setCell (by simp <;> omega) _).alloc (by simp; omega) _
  obtain ⟨c3_1, f3_1⟩ := k3.2 1 _ rfl
  clear k2 k3 k2' k3'
  match a2 with
  | none =>
    obtain ⟨rfl, rfl, hnil⟩ := sl_none p2
    have hbn : Below (w4.setCell ⟨w.heap.size + 1 + 1, 1, none⟩ (.slice a4 h1.2.1 c4)).heap.size (w4.setCell ⟨w.heap.size + 1 + 1, 1, none⟩ (.slice a4 h1.2.1 c4)) ((w4.setCell ⟨w.heap.size + 1 + 1, 1, none⟩ (.slice a4 h1.2.1 c4)).alloc (.cells #[] 93)) := (Below.refl _ _).alloc (Nat.le_refl _) _
    have q2 := K2.out.on hbn
    have q3 := K3.out.on hbn
    clear K2 K3
    obtain ⟨c2_0, f2_0⟩ := q2.2 0 _ rfl
    obtain ⟨c2_1, f2_1⟩ := q2.2 1 _ rfl
    obtain ⟨c2_2, f2_2⟩ := q2.2 2 _ rfl
    obtain ⟨c2_3, f2_3⟩ := q2.2 3 _ rfl
    obtain ⟨c2_4, f2_4⟩ := q2.2 4 _ rfl
    obtain ⟨c2_5, f2_5⟩ := q2.2 5 _ rfl
    obtain ⟨c2_6, f2_6⟩ := q2.2 6 _ rfl
    obtain ⟨c2_7, f2_7⟩ := q2.2 7 _ rfl
    obtain ⟨c2_8, f2_8⟩ := q2.2 8 _ rfl
    obtain ⟨c3_0, f3_0⟩ := q3.2 0 _ rfl
    obtain ⟨c3_1, f3_1⟩ := q3.2 1 _ rfl
    obtain ⟨c3_2, f3_2⟩ := q3.2 2 _ rfl
    obtain ⟨c3_3, f3_3⟩ := q3.2 3 _ rfl
    obtain ⟨c3_4, f3_4⟩ := q3.2 4 _ rfl
    obtain ⟨c3_5, f3_5⟩ := q3.2 5 _ rfl
    obtain ⟨c3_6, f3_6⟩ := q3.2 6 _ rfl
    obtain ⟨c3_7, f3_7⟩ := q3.2 7 _ rfl
    obtain ⟨c3_8, f3_8⟩ := q3.2 8 _ rfl
    clear q2 q3
    have hS5' : Hid (SlAt RTaint 3 40 (Fresh (w4.setCell ⟨w.heap.size + 1 + 1, 1, none⟩ (.slice a4 h1.2.1 c4))) ((w4.setCell ⟨w.heap.size + 1 + 1, 1, none⟩ (.slice a4 h1.2.1 c4)).alloc (.cells #[] 93)) (some ⟨w4.heap.size, 0, none⟩) 0 0 x.2.2.1) := by rw [hnil]; exact SlAt.nil _ _ _ _ (fun h => by cases h)
    go_wp2_with fail
    refine bodyPost_ret (v := .agg #[.string x.1, .slice a4 h1.2.1 c4, .slice (some ⟨w4.heap.size, 0, none⟩) 0 0, .bool x.2.2.2.1, .int .i64 x.2.2.2.2.1.1, .int .i64 x.2.2.2.2.1.2.1, .int .i64 x.2.2.2.2.1.2.2, .int .i64 x.2.2.2.2.2.1, .int .i64 x.2.2.2.2.2.2]) (by simp [results, Try.results17, go_sem, c2_0, c2_1, c2_2, c2_3, c2_4, c2_5, c2_6, c2_7, c2_8, c3_0, c3_1, c3_2, c3_3, c3_4, c3_5, c3_6, c3_7, c3_8]) rfl ⟨[.string x.1, .slice a4 h1.2.1 c4, .slice (some ⟨w4.heap.size, 0, none⟩) 0 0, .bool x.2.2.2.1, .int .i64 x.2.2.2.2.1.1, .int .i64 x.2.2.2.2.1.2.1, .int .i64 x.2.2.2.2.1.2.2, .int .i64 x.2.2.2.2.2.1, .int .i64 x.2.2.2.2.2.2], rfl, ?_, ?_⟩
    · have hS4 := hS4'.out
      have hS5 := hS5'.out
      have hsW := HW.out
      refine RNode.mk (h1 := (a4, h1.2.1, c4)) (h2 := ((some ⟨w4.heap.size, 0, none⟩ : Option Addr), 0, 0)) p0 (SlAt.weak RLabel.firm (A := Fresh W3) (SlAt.kept RLabel.firm hS4 ?kp) (fun b _ hb => show w.heap.size ≤ b by have hb1 : W3.heap.size ≤ b := hb; have := hb0.size; omega)) (SlAt.weak RTaint.firm (A := Fresh (w4.setCell ⟨w.heap.size + 1 + 1, 1, none⟩ (.slice a4 h1.2.1 c4))) (SlAt.kept RTaint.firm hS5 ?kq) (fun b _ hb => show w.heap.size ≤ b by have hb1 : (w4.setCell ⟨w.heap.size + 1 + 1, 1, none⟩ (.slice a4 h1.2.1 c4)).heap.size ≤ b := hb; simp at hb1; omega))
      case kp =>
        repeat (refine Kept.trans ?_ (Kept.set (Fresh.not (by simp <;> omega)) _))
        exact (Kept.set (Fresh.not (by simp <;> omega)) _).trans (Kept.below hbn)
      case kq =>
        repeat (refine Kept.trans ?_ (Kept.set (Fresh.not (by simp <;> omega)) _))
        exact Kept.refl _ _
    · repeat (refine Below.setCell ?_ (by simp <;> omega) _)
      exact on2 ((on2 hb0 hb4).setCell (by simp <;> omega) _) hbn
  | some ad =>
    obtain ⟨xs, hc, hcell, hone⟩ := (p2.on RTaint.firm hbU).chunks RTaint.firm
    have hn := p2.1
    have hbb := p2.2.2.2.1
    subst hn
    have HR : Hid (Row RTaint 3 (Fresh (w4.setCell ⟨w.heap.size + 1 + 1, 1, none⟩ (.slice a4 h1.2.1 c4))) (w4.setCell ⟨w.heap.size + 1 + 1, 1, none⟩ (.slice a4 h1.2.1 c4)) ((w4.setCell ⟨w.heap.size + 1 + 1, 1, none⟩ (.slice a4 h1.2.1 c4)).alloc (.cells #[] 93)) 93 (.slice (some ⟨w4.heap.size, 0, none⟩) 0 0) []) := by
      have := Row.start (R := RTaint) (k := 3) (Fresh (w4.setCell ⟨w.heap.size + 1 + 1, 1, none⟩ (.slice a4 h1.2.1 c4))) (w4.setCell ⟨w.heap.size + 1 + 1, 1, none⟩ (.slice a4 h1.2.1 c4)) (w4.setCell ⟨w.heap.size + 1 + 1, 1, none⟩ (.slice a4 h1.2.1 c4)) 93 (Below.refl _ _)
      unfold Hid
      simpa using this
    have HC : Hid (Chunks RTaint 3 (fun b => Fresh (w4.setCell ⟨w.heap.size + 1 + 1, 1, none⟩ (.slice a4 h1.2.1 c4)) b ∧ Value.ownBlock (.slice (some ⟨w4.heap.size, 0, none⟩) 0 0) ≠ some b) ((w4.setCell ⟨w.heap.size + 1 + 1, 1, none⟩ (.slice a4 h1.2.1 c4)).alloc (.cells #[] 93)) xs x.2.2.1) := hc.flat RTaint.flat
    have HX : Hid (∀ j y, xs[j]? = some y → ((w4.setCell ⟨w.heap.size + 1 + 1, 1, none⟩ (.slice a4 h1.2.1 c4)).alloc (.cells #[] 93)).cell? (ad.add j) = some y) := hcell
    have HO : Hid (∀ y ∈ xs, y.oneCell' = true) := hone
    clear hc hcell hone
    have HBB : Hid (x.2.2.1.length * 40 ≤ 140737488351232) := hbb
    go_wp2_with (at_builtin; go_must (refine row_append RTaint.firm (A := Fresh (w4.setCell ⟨w.heap.size + 1 + 1, 1, none⟩ (.slice a4 h1.2.1 c4))) (w0 := (w4.setCell ⟨w.heap.size + 1 + 1, 1, none⟩ (.slice a4 h1.2.1 c4))) rfl _ _ 49 93 rfl _ 40 infoTaint Try.underlying49 rfl (by decide) (by decide) _ [] rfl HR.out ad x.2.2.1.length m2 xs x.2.2.1 rfl rfl HC.out HX.out HO.out (by have := HBB.out; simp; omega) ?_); intro v5 w5 hrow5 hg5; obtain ⟨a5, c5, rfl, hS5⟩ := hrow5.slF (bytes := 40) RTaint.firm (by simpa using HBB.out); have hb5 := hrow5.below; have q2 := K2.out.on hb5; have q3 := K3.out.on hb5; clear c3_1 f3_1; obtain ⟨c2_0, f2_0⟩ := q2.2 0 _ rfl; obtain ⟨c2_1, f2_1⟩ := q2.2 1 _ rfl; obtain ⟨c2_2, f2_2⟩ := q2.2 2 _ rfl; obtain ⟨c2_3, f2_3⟩ := q2.2 3 _ rfl; obtain ⟨c2_4, f2_4⟩ := q2.2 4 _ rfl; obtain ⟨c2_5, f2_5⟩ := q2.2 5 _ rfl; obtain ⟨c2_6, f2_6⟩ := q2.2 6 _ rfl; obtain ⟨c2_7, f2_7⟩ := q2.2 7 _ rfl; obtain ⟨c2_8, f2_8⟩ := q2.2 8 _ rfl; obtain ⟨c3_0, f3_0⟩ := q3.2 0 _ rfl; obtain ⟨c3_1, f3_1⟩ := q3.2 1 _ rfl; obtain ⟨c3_2, f3_2⟩ := q3.2 2 _ rfl; obtain ⟨c3_3, f3_3⟩ := q3.2 3 _ rfl; obtain ⟨c3_4, f3_4⟩ := q3.2 4 _ rfl; obtain ⟨c3_5, f3_5⟩ := q3.2 5 _ rfl; obtain ⟨c3_6, f3_6⟩ := q3.2 6 _ rfl; obtain ⟨c3_7, f3_7⟩ := q3.2 7 _ rfl; obtain ⟨c3_8, f3_8⟩ := q3.2 8 _ rfl; clear q2 q3 hrow5 hg5; simp only [List.nil_append] at hS5 ⊢)
    have hS5' : Hid (SlAt RTaint 3 40 (Fresh (w4.setCell ⟨w.heap.size + 1 + 1, 1, none⟩ (.slice a4 h1.2.1 c4))) w5 a5 x.2.2.1.length c5 x.2.2.1) := hS5
    clear hS5
    refine bodyPost_ret (v := .agg #[.string x.1, .slice a4 h1.2.1 c4, .slice a5 x.2.2.1.length c5, .bool x.2.2.2.1, .int .i64 x.2.2.2.2.1.1, .int .i64 x.2.2.2.2.1.2.1, .int .i64 x.2.2.2.2.1.2.2, .int .i64 x.2.2.2.2.2.1, .int .i64 x.2.2.2.2.2.2]) (by simp [results, Try.results17, go_sem, c2_0, c2_1, c2_2, c2_3, c2_4, c2_5, c2_6, c2_7, c2_8, c3_0, c3_1, c3_2, c3_3, c3_4, c3_5, c3_6, c3_7, c3_8]) rfl ⟨[.string x.1, .slice a4 h1.2.1 c4, .slice a5 x.2.2.1.length c5, .bool x.2.2.2.1, .int .i64 x.2.2.2.2.1.1, .int .i64 x.2.2.2.2.1.2.1, .int .i64 x.2.2.2.2.1.2.2, .int .i64 x.2.2.2.2.2.1, .int .i64 x.2.2.2.2.2.2], rfl, ?_, ?_⟩
    · have hS4 := hS4'.out
      have hS5 := hS5'.out
      have hsW := HW.out
      refine RNode.mk (h1 := (a4, h1.2.1, c4)) (h2 := (a5, x.2.2.1.length, c5)) p0 (SlAt.weak RLabel.firm (A := Fresh W3) (SlAt.kept RLabel.firm hS4 ?kp) (fun b _ hb => show w.heap.size ≤ b by have hb1 : W3.heap.size ≤ b := hb; have := hb0.size; omega)) (SlAt.weak RTaint.firm (A := Fresh (w4.setCell ⟨w.heap.size + 1 + 1, 1, none⟩ (.slice a4 h1.2.1 c4))) (SlAt.kept RTaint.firm hS5 ?kq) (fun b _ hb => show w.heap.size ≤ b by have hb1 : (w4.setCell ⟨w.heap.size + 1 + 1, 1, none⟩ (.slice a4 h1.2.1 c4)).heap.size ≤ b := hb; simp at hb1; omega))
      case kp =>
        repeat (refine Kept.trans ?_ (Kept.set (Fresh.not (by simp <;> omega)) _))
        exact (Kept.set (Fresh.not (by simp <;> omega)) _).trans (Kept.below hb5)
      case kq =>
        repeat (refine Kept.trans ?_ (Kept.set (Fresh.not (by simp <;> omega)) _))
        exact Kept.refl _ _
    · repeat (refine Below.setCell ?_ (by simp <;> omega) _)
      exact on2 ((on2 hb0 hb4).setCell (by simp <;> omega) _) hb5
end Go.Proofs.Ytillkgflppabfaa
namespace Go.Proofs.Ytillkgflppabfaa
open Go.RowKit
set_option linter.unusedSimpArgs false
set_option maxRecDepth 100000

theorem sizeNd : (Try.prog.info? 51).map (·.size) = some 9 := by kernel_rfl
theorem infoNd : (Try.prog.info? 51).map (fun i => (i.zero, i.size, i.bytes)) = some (some (.agg #[.string ⟨#[]⟩, .slice none 0 0, .slice none 0 0, .bool false, .int .i64 0, .int .i64 0, .int .i64 0, .int .i64 0, .int .i64 0]), 9, 112) := by kernel_rfl
theorem RNode.lit {A : Where} {w : World} {cs : List Value} {x : NodeD} (h : RNode A w cs x) : ∃ v0 v1 v2 v3 v4 v5 v6 v7 v8 : Value, cs = [v0, v1, v2, v3, v4, v5, v6, v7, v8] := by
  obtain ⟨_, _, rfl, _⟩ := h.out
  exact ⟨_, _, _, _, _, _, _, _, _, rfl⟩
set_option maxHeartbeats 4000000 in
theorem copies_calls (a : Option Addr) (n cap : Nat) (A : Where) (L : List NodeD) (w : World) (hL : Hid (SlAt RNode 9 112 A w a n cap L)) : Calls Try.prog 6 #[.slice a n cap] w fun e w' => ∃ v, e = .returned v ∧ Row RNode 9 (Fresh w) w w' 51 v L := by
  have hlen := hL.out.len (by decide)
  have hn : Hid (L.length = n) := hL.out.1
  have hbb : Hid (n * 112 ≤ 140737488351232) := hL.out.2.2.2.1
  have HR0 : Hid (Row RNode 9 (Fresh w) w (w.alloc (.cells #[] 51)) 51 (.slice (some ⟨w.heap.size, 0, none⟩) 0 0) (L.take 0)) := Row.start _ w w _ (Below.refl _ _)
  go_enter Try.func6, Try.ntmps6
  go_wp2_with fail
  go_loopw [3, 4] (fun s i wr => ∃ k : Nat, k ≤ n ∧ i = .int .i64 k ∧ Hid (Row RNode 9 (Fresh w) w wr 51 s (L.take k))) (fun _ i _ => n - (intOf i).toNat)
  case atStart => exact ⟨0, Nat.zero_le _, rfl, HR0⟩
  case round =>
    obtain ⟨k, hk, rfl, hrow⟩ := hrel
    by_cases hlt : k < n
    · have hltz : (k : Int) < (n : Int) := by omega
      have hkl : Hid (k < L.length) := by rw [Hid, hn.out]; exact hlt
      have hbw : Below w.heap.size w wr := hrow.out.below
      obtain ⟨B, off, rfl, hB, _, cs, hr, hv⟩ := (hL.out.on RNode.firm hbw).get hlt
      have HV : Hid (wr.rangeAt B (off + k * 9) cs) := hv
      have hi : (Try.prog.info? 51).map (·.size) = some cs.length := by rw [RNode.firm.len hr]; exact sizeNd
      have HT : Hid (L.take k ++ [L.getD k default] = L.take (k + 1)) := take_at hkl.out
      have HC := Node_copy cs A (L.getD k default) wr hr
      have HLb : Hid (((L.take k).length + [L.getD k default].length) * 112 ≤ 140737488355328) := by
        have := bytes_le hbb.out hlt
        rw [Hid, List.length_take, hn.out, List.length_singleton, Nat.min_eq_left (by omega)]
        exact this
      clear hr hv
      generalize L.getD k default = x at HT HC HLb
      go_wp2_with (first | (refine wpList_load_mid rfl 51 _ rfl B (off + k * 9) rfl cs _ HV.out Try.underlying51 rfl hi ?_) | fail)
      refine HC.mono ?_
      rintro e w2 ⟨cs2, rfl, hr2, hb2⟩
      clear HC
      obtain ⟨v0, v1, v2, v3, v4, v5, v6, v7, v8, rfl⟩ := RNode.lit hr2
      have hb3 : Below wr.heap.size wr (w2.alloc (.cells #[v0, v1, v2, v3, v4, v5, v6, v7, v8] 51)) := hb2.alloc hb2.size _
      have HR3 : Hid (Row RNode 9 (Fresh w) w (w2.alloc (.cells #[v0, v1, v2, v3, v4, v5, v6, v7, v8] 51)) 51 u3 (L.take k)) := hrow.out.on RNode.firm hb3
      have HE : RNode (fun b => Fresh w b ∧ Value.ownBlock u3 ≠ some b) (w2.alloc (.cells #[v0, v1, v2, v3, v4, v5, v6, v7, v8] 51)) [v0, v1, v2, v3, v4, v5, v6, v7, v8] x := RNode.firm.weak (RNode.firm.kept hr2 (Kept.alloc _ _ _)) (fun b _ hb => hrow.out.apart (u' := wr) (Nat.le_refl _) b hb)
      have H1 : Hid (∀ y ∈ [v0, v1, v2, v3, v4, v5, v6, v7, v8], y.oneCell' = true) := RNode.firm.one HE
      have HCh : Hid (Chunks RNode 9 (fun b => Fresh w b ∧ Value.ownBlock u3 ≠ some b) (w2.alloc (.cells #[v0, v1, v2, v3, v4, v5, v6, v7, v8] 51)) [v0, v1, v2, v3, v4, v5, v6, v7, v8] [x]) := chunk_one RNode.firm HE
      have HX : Hid (∀ j y, [v0, v1, v2, v3, v4, v5, v6, v7, v8][j]? = some y → (w2.alloc (.cells #[v0, v1, v2, v3, v4, v5, v6, v7, v8] 51)).cell? ((⟨w2.heap.size, 0, none⟩ : Addr).add j) = some y) := one_cells w2 _ 51
      clear HE hb3 hr2 hrow HV
      go_wp2_with (at_builtin; go_must (refine row_append RNode.firm (A := Fresh w) (w0 := w) rfl _ _ 34 51 rfl _ 112 infoNd Try.underlying34 rfl (by decide) (by decide) u3 (L.take k) rfl HR3.out ⟨w2.heap.size, 0, none⟩ 1 1 _ [x] rfl rfl HCh.out HX.out H1.out HLb.out ?_); intro v4 w4 hrow4 hg4)
      rw [HT.out] at hrow4
      go_roundw
      case rel => exact ⟨k + 1, by omega, by go_num, hrow4⟩
      case measure => simp [intOf]; omega
    · have hk' : L.take k = L := List.take_of_length_le (by rw [hn.out]; omega)
      rw [hk'] at hrow
      have h9 : Hid (Row RNode 9 (Fresh w) w wr 51 u3 L) := hrow
      clear hrow
      go_wp2_with fail
      go_ret
      exact ⟨_, rfl, h9.out⟩
end Go.Proofs.Ytillkgflppabfaa
namespace Go.Proofs.Ytillkgflppabfaa
open Go.RowKit
set_option linter.unusedSimpArgs false
set_option maxRecDepth 100000

theorem RPlaced.parts9 {A : Where} {w : World} {xs : List Value} {x : PlacedD} (h : RPlaced A w xs x) : ∃ (ps : List Value) (g : Hd), xs = ps ++ [.slice g.1 g.2.1 g.2.2] ∧ RPod A w ps x.1 ∧ ps.length = 16 ∧ SlAt RLabel 2 32 A w g.1 g.2.1 g.2.2 x.2 := by
  obtain ⟨ps, qs, rfl, h1, h2⟩ := h
  obtain ⟨a, n, c, rfl, h3⟩ := h2
  exact ⟨ps, (a, n, c), rfl, h1, RPod.firm.len h1, h3⟩
theorem range_fst9 {u : World} {B o : Nat} {ps : List Value} {v : Value} (h : u.rangeAt B o (ps ++ [v])) : u.rangeAt B o ps := fun j y hj => h j y (by rw [List.getElem?_append_left (List.getElem?_eq_some_iff.1 hj).1]; exact hj)
theorem range_lst9 {u : World} {B o : Nat} {ps : List Value} {v : Value} (hl : ps.length = 16) (h : u.rangeAt B o (ps ++ [v])) : u.cell? ⟨B, o + 16, none⟩ = some v := h 16 v (by rw [List.getElem?_append_right (by omega), hl]; rfl)
theorem range_on10 {u u' : World} {B o M : Nat} {c : List Value} (hB : B < M) (hb : Below M u u') (h : u.rangeAt B o c) : u'.rangeAt B o c := fun j v hj => (hb.cell (p := ⟨B, o + j, none⟩) hB).trans (h j v hj)
theorem RPod.lit9 {A : Where} {w : World} {cs : List Value} {x : PodD} (h : RPod A w cs x) : ∃ v0 v1 v2 v3 v4 v5 v6 v7 v8 v9 v10 v11 v12 v13 v14 v15 : Value, cs = [v0, v1, v2, v3, v4, v5, v6, v7, v8, v9, v10, v11, v12, v13, v14, v15] := by
  obtain ⟨_, _, _, _, _, _, _, _, _, rfl, _⟩ := h.out
  exact ⟨_, _, _, _, _, _, _, _, _, _, _, _, _, _, _, _, rfl⟩
set_option maxHeartbeats 8000000 in
theorem many9_calls (a : Option Addr) (n cap : Nat) (A : Where) (L : List PlacedD) (w : World) (hL : Hid (SlAt RPlaced 17 320 A w a n cap L)) : Calls Try.prog 7 #[.slice a n cap] w fun e w' => ∃ v, e = .returned v ∧ Row RPlaced 17 (Fresh w) w w' 48 v L := by
  have hlen := hL.out.len (by decide)
  have hn : Hid (L.length = n) := hL.out.1
  have hbb : Hid (n * 320 ≤ 140737488351232) := hL.out.2.2.2.1
  have HR0 : Hid (Row RPlaced 17 (Fresh w) w (w.alloc (.cells #[] 48)) 48 (.slice (some ⟨w.heap.size, 0, none⟩) 0 0) (L.take 0)) := Row.start _ w w _ (Below.refl _ _)
  go_enter Try.func7, Try.ntmps7
  go_wp2_with fail
  go_loopw [3, 4] (fun s i wr => ∃ k : Nat, k ≤ n ∧ i = .int .i64 k ∧ Hid (Row RPlaced 17 (Fresh w) w wr 48 s (L.take k))) (fun _ i _ => n - (intOf i).toNat)
  case atStart => exact ⟨0, Nat.zero_le _, rfl, HR0⟩
  case round =>
    obtain ⟨k, hk, rfl, hrow⟩ := hrel
    by_cases hlt : k < n
    · have hltz : (k : Int) < (n : Int) := by omega
      have hkl : k < L.length := by rw [hn.out]; exact hlt
      have hbw : Below w.heap.size w wr := hrow.out.below
      obtain ⟨B, off, rfl, hB, _, xs, hr, hv⟩ := hL.out.get hlt
      obtain ⟨ps, ⟨g1, g2, g3⟩, rfl, rp, hlp, sg⟩ := hr.parts9
      simp only at sg
      have HT : Hid (L.take k ++ [L.getD k default] = L.take (k + 1)) := take_at9 hkl
      have HLb : Hid (((L.take k).length + [L.getD k default].length) * 320 ≤ 140737488355328) := by
        have := bytes_le hbb.out hlt
        rw [Hid, List.length_take, hn.out, List.length_singleton, Nat.min_eq_left (by omega)]
        exact this
      generalize L.getD k default = x at HT HLb rp sg
      have hip : (Try.prog.info? 33).map (·.size) = some ps.length := by rw [hlp]; exact sizePo
      have HS : Hid (∀ u, Below w.heap.size w u → u.rangeAt B (off + k * 17) ps ∧ u.cell? ⟨B, off + k * 17 + 16, none⟩ = some (.slice g1 g2 g3)) := fun u hb => ⟨range_on10 hB hb (range_fst9 hv), (hb.cell (p := ⟨B, _, none⟩) hB).trans (range_lst9 hlp hv)⟩
      have HP : Hid (∀ u, Below w.heap.size w u → RPod A u ps x.1 ∧ SlAt RLabel 2 32 A u g1 g2 g3 x.2) := fun u hb => ⟨RPod.firm.kept rp (Kept.below hb), sg.on RLabel.firm hb⟩
      clear hr hv rp sg
      go_upto_region 5 with fail
      have d0 : Below w.heap.size w wr.drew := hbw.drew
      refine t0 (Below w.heap.size w) d0 (fun hHeld => ?_)
      refine' tk 0 ?_ ?_; rotate_left
      · intro u hu; clear hu; go_simp; try with_reducible rfl
      try go_frame
      refine' tk 1 ?_ ?_; rotate_left
      · intro u hu; clear hu; go_simp; try with_reducible rfl
      try go_frame
      refine' tk 2 ?_ ?_; rotate_left
      · intro u hu; clear hu; go_simp; try with_reducible rfl
      try go_frame
      refine' tk 3 ?_ ?_; rotate_left
      · intro u hu; clear hu; go_simp; try with_reducible rfl
      try go_frame
      refine' tk 4 ?_ ?_; rotate_left
      · intro u hu; clear hu; go_simp; try with_reducible rfl
      try go_frame
      refine' tk 7 ?_ ?_; rotate_left
      · intro u hu; clear hu; go_simp; try with_reducible rfl
      try go_frame
      refine' tk 8 ?_ ?_; rotate_left
      · intro u hu; clear hu; go_simp; try with_reducible rfl
      try go_frame
      refine' tk 9 ?_ ?_; rotate_left
      · intro u hu; clear hu; go_simp; try with_reducible rfl
      try go_frame
      refine' tk 10 ?_ ?_; rotate_left
      · intro u hu; clear hu; go_simp; try with_reducible rfl
      try go_frame
      refine' tq 5 (.agg ps.toArray) ?_ ?_
      · exact yieldsIf_load_mid rfl 33 _ rfl B (off + k * 17) rfl ps _ (fun u hu => (HS.out u hu).1) Try.underlying33 rfl hip
      try go_frame
      refine' tk 11 ?_ ?_; rotate_left
      · intro u hu; have c16 := (HS.out u hu).2; clear hu; go_simp; try with_reducible rfl
      try go_frame
      refine tr 6 (fun K hK => ?_)
      go_simp
      refine (Pod_copy ps A x.1 _ (HP.out _ d0).1).mono ?_
      rintro e u1 ⟨ps', rfl, rp', b1⟩
      have d1 : Below w.heap.size w u1 := on2 d0 b1
      obtain ⟨v0, v1, v2, v3, v4, v5, v6, v7, v8, v9, v10, v11, v12, v13, v14, v15, rfl⟩ := rp'.lit9
      go_wp2_with fail
      refine hK.out _ _ d1 (fun hHeld2 => ?_)
      clear hK K hHeld; have hHeld := hHeld2; clear hHeld2
      try go_frame
      refine tr 12 (fun K hK => ?_)
      go_simp
      refine (Labels_copy g1 g2 g3 A x.2 _ (HP.out _ d1).2).mono ?_
      rintro e u2 ⟨a', cap', rfl, sl', b2⟩
      have d2 : Below w.heap.size w u2 := on2 d1 b2
      go_wp2_with fail
      refine hK.out _ _ d2 (fun hHeld2 => ?_)
      clear hK K hHeld; have hHeld := hHeld2; clear hHeld2
      try go_frame
      have hwr0 : wr.heap.size ≤ wr.drew.heap.size := Nat.le_refl _
      have HXr : RPlaced (fun b => wr.heap.size ≤ b) u2 [v0, v1, v2, v3, v4, v5, v6, v7, v8, v9, v10, v11, v12, v13, v14, v15, .slice a' g2 cap'] x := ⟨[v0, v1, v2, v3, v4, v5, v6, v7, v8, v9, v10, v11, v12, v13, v14, v15], [.slice a' g2 cap'], rfl, RPod.firm.weak (RPod.firm.kept rp' (Kept.below b2)) (fun b _ hb => hb), a', g2, cap', rfl, sl'.weak RLabel.firm (fun b _ hb => by have h1 := b1.size; have h2 : u1.heap.size ≤ b := hb; have h3 : wr.drew.heap.size = wr.heap.size := rfl; omega)⟩
      have hrow2 : Row RPlaced 17 (Fresh w) w u2 48 u3 (L.take k) := (((hrow.out.on RPlaced.firm (Below.refl _ _).drew).on RPlaced.firm b1).on RPlaced.firm b2)
      obtain ⟨y2, hy2⟩ : ∃ y, y = u2.alloc (.cells #[v0, v1, v2, v3, v4, v5, v6, v7, v8, v9, v10, v11, v12, v13, v14, v15, .slice a' g2 cap'] 48) := ⟨_, rfl⟩
      have b3 : Below u2.heap.size u2 y2 := by rw [hy2]; exact (Below.refl _ _).alloc (Nat.le_refl _) _
      have q3 : BoxL y2 u2.heap.size [v0, v1, v2, v3, v4, v5, v6, v7, v8, v9, v10, v11, v12, v13, v14, v15, .slice a' g2 cap'] := by rw [hy2]; exact BoxL.new u2 48 [v0, v1, v2, v3, v4, v5, v6, v7, v8, v9, v10, v11, v12, v13, v14, v15, .slice a' g2 cap']
      have d3 : Below w.heap.size w y2 := on2 d2 b3
      have hrow3 := hrow2.on RPlaced.firm b3
      have hlt3 : ∀ b, u3.ownBlock = some b → b < wr.heap.size := fun b e => (hrow.out.lt e).2
      have HEx : RPlaced (fun b => Fresh w b ∧ Value.ownBlock u3 ≠ some b) y2 [v0, v1, v2, v3, v4, v5, v6, v7, v8, v9, v10, v11, v12, v13, v14, v15, .slice a' g2 cap'] x := RPlaced.firm.weak (RPlaced.firm.kept HXr (Kept.below b3)) (fun b _ hb => ⟨Nat.le_trans hbw.size (show wr.heap.size ≤ b from hb), fun e => by have h1 := hlt3 b e; have h2 : wr.heap.size ≤ b := hb; omega⟩)
      have HCh : Chunks RPlaced 17 (fun b => Fresh w b ∧ Value.ownBlock u3 ≠ some b) y2 [v0, v1, v2, v3, v4, v5, v6, v7, v8, v9, v10, v11, v12, v13, v14, v15, .slice a' g2 cap'] [x] := chunk_one RPlaced.firm HEx
      have HXc : ∀ j y, ([v0, v1, v2, v3, v4, v5, v6, v7, v8, v9, v10, v11, v12, v13, v14, v15, .slice a' g2 cap'] : List Value)[j]? = some y → y2.cell? ((⟨u2.heap.size, 0, none⟩ : Addr).add j) = some y := fun j y hj => by have h1 := (q3.2 j y hj).1; rw [add_lit]; simpa using h1
      have H1 : ∀ y ∈ ([v0, v1, v2, v3, v4, v5, v6, v7, v8, v9, v10, v11, v12, v13, v14, v15, .slice a' g2 cap'] : List Value), y.oneCell' = true := RPlaced.firm.one HEx
      refine' tk 13 ?_ ?_; rotate_left
      · intro u hu; clear hu; go_simp; try with_reducible rfl
      try go_frame
      refine tr 14 (fun K hK => ?_)
      go_simp
      rw [← hy2]
      refine hK.out _ _ d3 (fun hHeld2 => ?_)
      clear hK K hHeld; have hHeld := hHeld2; clear hHeld2
      try go_frame
      refine tr 15 (fun K hK => ?_)
      refine row_append_wp RPlaced.firm (A := Fresh w) (w0 := w) _ _ 35 48 rfl _ 320 infoPl Try.underlying35 rfl (by decide) (by decide) u3 (L.take k) rfl hrow3 ⟨u2.heap.size, 0, none⟩ 1 1 [v0, v1, v2, v3, v4, v5, v6, v7, v8, v9, v10, v11, v12, v13, v14, v15, .slice a' g2 cap'] [x] rfl rfl HCh HXc H1 HLb.out ?_
      intro z4 y4 r4 gr4
      refine hK.out _ _ r4.below (fun hHeld2 => ?_)
      clear hK K hHeld; have hHeld := hHeld2; clear hHeld2
      try go_frame
      have HN : Hid (Row RPlaced 17 (Fresh w) w y4 48 z4 (L.take (k + 1))) := by rw [Hid, ← HT.out]; exact r4
      clear hrow2 hrow3 HEx HCh HXc H1 HXr hy2 b3 q3 d3 b2 b1 sl' rp' gr4 hrow
      refine' tk 16 ?_ ?_; rotate_left
      · intro u hu; clear hu; go_simp; try with_reducible rfl
      try go_frame
      refine tz ?_
      clear hHeld r4
      go_wp2_with fail
      go_roundw
      case rel => exact ⟨k + 1, by omega, by go_num, HN⟩
      case measure => simp [intOf]; omega
    · have hk' : L.take k = L := List.take_of_length_le (by rw [hn.out]; omega)
      rw [hk'] at hrow
      have h9 : Hid (Row RPlaced 17 (Fresh w) w wr 48 u3 L) := hrow
      clear hrow
      go_wp2_with fail
      go_ret
      exact ⟨_, rfl, h9.out⟩
end Go.Proofs.Ytillkgflppabfaa
