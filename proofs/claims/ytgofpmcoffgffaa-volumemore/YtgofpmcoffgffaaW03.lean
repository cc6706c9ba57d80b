/- base.Node gives a copy of its own. Condition: the argument lies as is said of it. base.Volume, Budget give copies of their own. Condition: the argument lies as is said of it. -/
import Derived.Test.YtgofpmcoffgffaaQ04
namespace Go.Proofs.Ytgofpmcoffgffaa
open Go.RowKit
set_option linter.unusedSimpArgs false

theorem infoTaint : (Try.prog.info? 207).map (fun i => (i.zero, i.size, i.bytes)) = some (some (.agg #[.string ⟨#[]⟩, .string ⟨#[]⟩, .int .i64 0]), 3, 40) := by kernel_rfl
set_option maxHeartbeats 4000000 in
theorem Node_copy (cs : List Value) (A : Where) (x : NodeD) (w : World) (h : Hid (RNode A w cs x)) : Calls Try.prog 22 #[.agg cs.toArray] w fun e w' => ∃ cs', e = .returned (.agg cs'.toArray) ∧ RNode (Fresh w) w' cs' x ∧ Below w.heap.size w w' := by
  obtain ⟨h1, ⟨a2, n2, m2⟩, rfl, p0, p1, p2⟩ := h.out.out
  simp only at p2 ⊢
  clear h
  have hb0 : Below w.heap.size w (((w.alloc (.cells #[.string x.1, .slice h1.1 h1.2.1 h1.2.2, .slice a2 n2 m2, .bool x.2.2.2.1, .int .i64 x.2.2.2.2.1.1, .int .i64 x.2.2.2.2.1.2.1, .int .i64 x.2.2.2.2.1.2.2, .int .i64 x.2.2.2.2.2.1, .int .i64 x.2.2.2.2.2.2] 36)).alloc (.cells #[.string ⟨#[]⟩, .slice none 0 0, .slice none 0 0, .bool false, .int .i64 0, .int .i64 0, .int .i64 0, .int .i64 0, .int .i64 0] 36)).alloc (.cells #[.string x.1, .slice h1.1 h1.2.1 h1.2.2, .slice a2 n2 m2, .bool x.2.2.2.1, .int .i64 x.2.2.2.2.1.1, .int .i64 x.2.2.2.2.1.2.1, .int .i64 x.2.2.2.2.1.2.2, .int .i64 x.2.2.2.2.2.1, .int .i64 x.2.2.2.2.2.2] 36)) := by go_grown
  have hB2 : BoxL (((w.alloc (.cells #[.string x.1, .slice h1.1 h1.2.1 h1.2.2, .slice a2 n2 m2, .bool x.2.2.2.1, .int .i64 x.2.2.2.2.1.1, .int .i64 x.2.2.2.2.1.2.1, .int .i64 x.2.2.2.2.1.2.2, .int .i64 x.2.2.2.2.2.1, .int .i64 x.2.2.2.2.2.2] 36)).alloc (.cells #[.string ⟨#[]⟩, .slice none 0 0, .slice none 0 0, .bool false, .int .i64 0, .int .i64 0, .int .i64 0, .int .i64 0, .int .i64 0] 36)).alloc (.cells #[.string x.1, .slice h1.1 h1.2.1 h1.2.2, .slice a2 n2 m2, .bool x.2.2.2.1, .int .i64 x.2.2.2.2.1.1, .int .i64 x.2.2.2.2.1.2.1, .int .i64 x.2.2.2.2.1.2.2, .int .i64 x.2.2.2.2.2.1, .int .i64 x.2.2.2.2.2.2] 36)) (w.heap.size + 1) [.string ⟨#[]⟩, .slice none 0 0, .slice none 0 0, .bool false, .int .i64 0, .int .i64 0, .int .i64 0, .int .i64 0, .int .i64 0] := by
    have := ((BoxL.new (w.alloc (.cells #[.string x.1, .slice h1.1 h1.2.1 h1.2.2, .slice a2 n2 m2, .bool x.2.2.2.1, .int .i64 x.2.2.2.2.1.1, .int .i64 x.2.2.2.2.1.2.1, .int .i64 x.2.2.2.2.1.2.2, .int .i64 x.2.2.2.2.2.1, .int .i64 x.2.2.2.2.2.2] 36)) 36 [.string ⟨#[]⟩, .slice none 0 0, .slice none 0 0, .bool false, .int .i64 0, .int .i64 0, .int .i64 0, .int .i64 0, .int .i64 0]).on ((Below.refl _ _).alloc (Nat.le_refl _) (.cells #[.string x.1, .slice h1.1 h1.2.1 h1.2.2, .slice a2 n2 m2, .bool x.2.2.2.1, .int .i64 x.2.2.2.2.1.1, .int .i64 x.2.2.2.2.1.2.1, .int .i64 x.2.2.2.2.1.2.2, .int .i64 x.2.2.2.2.2.1, .int .i64 x.2.2.2.2.2.2] 36)))
    simpa using this
  have hB3 : BoxL (((w.alloc (.cells #[.string x.1, .slice h1.1 h1.2.1 h1.2.2, .slice a2 n2 m2, .bool x.2.2.2.1, .int .i64 x.2.2.2.2.1.1, .int .i64 x.2.2.2.2.1.2.1, .int .i64 x.2.2.2.2.1.2.2, .int .i64 x.2.2.2.2.2.1, .int .i64 x.2.2.2.2.2.2] 36)).alloc (.cells #[.string ⟨#[]⟩, .slice none 0 0, .slice none 0 0, .bool false, .int .i64 0, .int .i64 0, .int .i64 0, .int .i64 0, .int .i64 0] 36)).alloc (.cells #[.string x.1, .slice h1.1 h1.2.1 h1.2.2, .slice a2 n2 m2, .bool x.2.2.2.1, .int .i64 x.2.2.2.2.1.1, .int .i64 x.2.2.2.2.1.2.1, .int .i64 x.2.2.2.2.1.2.2, .int .i64 x.2.2.2.2.2.1, .int .i64 x.2.2.2.2.2.2] 36)) (w.heap.size + 1 + 1) [.string x.1, .slice h1.1 h1.2.1 h1.2.2, .slice a2 n2 m2, .bool x.2.2.2.1, .int .i64 x.2.2.2.2.1.1, .int .i64 x.2.2.2.2.1.2.1, .int .i64 x.2.2.2.2.1.2.2, .int .i64 x.2.2.2.2.2.1, .int .i64 x.2.2.2.2.2.2] := by
    have := BoxL.new ((w.alloc (.cells #[.string x.1, .slice h1.1 h1.2.1 h1.2.2, .slice a2 n2 m2, .bool x.2.2.2.1, .int .i64 x.2.2.2.2.1.1, .int .i64 x.2.2.2.2.1.2.1, .int .i64 x.2.2.2.2.1.2.2, .int .i64 x.2.2.2.2.2.1, .int .i64 x.2.2.2.2.2.2] 36)).alloc (.cells #[.string ⟨#[]⟩, .slice none 0 0, .slice none 0 0, .bool false, .int .i64 0, .int .i64 0, .int .i64 0, .int .i64 0, .int .i64 0] 36)) 36 [.string x.1, .slice h1.1 h1.2.1 h1.2.2, .slice a2 n2 m2, .bool x.2.2.2.1, .int .i64 x.2.2.2.2.1.1, .int .i64 x.2.2.2.2.1.2.1, .int .i64 x.2.2.2.2.1.2.2, .int .i64 x.2.2.2.2.2.1, .int .i64 x.2.2.2.2.2.2]
    simpa using this
  have hB1 : BoxL (((w.alloc (.cells #[.string x.1, .slice h1.1 h1.2.1 h1.2.2, .slice a2 n2 m2, .bool x.2.2.2.1, .int .i64 x.2.2.2.2.1.1, .int .i64 x.2.2.2.2.1.2.1, .int .i64 x.2.2.2.2.1.2.2, .int .i64 x.2.2.2.2.2.1, .int .i64 x.2.2.2.2.2.2] 36)).alloc (.cells #[.string ⟨#[]⟩, .slice none 0 0, .slice none 0 0, .bool false, .int .i64 0, .int .i64 0, .int .i64 0, .int .i64 0, .int .i64 0] 36)).alloc (.cells #[.string x.1, .slice h1.1 h1.2.1 h1.2.2, .slice a2 n2 m2, .bool x.2.2.2.1, .int .i64 x.2.2.2.2.1.1, .int .i64 x.2.2.2.2.1.2.1, .int .i64 x.2.2.2.2.1.2.2, .int .i64 x.2.2.2.2.2.1, .int .i64 x.2.2.2.2.2.2] 36)) w.heap.size [.string x.1, .slice h1.1 h1.2.1 h1.2.2, .slice a2 n2 m2, .bool x.2.2.2.1, .int .i64 x.2.2.2.2.1.1, .int .i64 x.2.2.2.2.1.2.1, .int .i64 x.2.2.2.2.1.2.2, .int .i64 x.2.2.2.2.2.1, .int .i64 x.2.2.2.2.2.2] := (BoxL.new w 36 [.string x.1, .slice h1.1 h1.2.1 h1.2.2, .slice a2 n2 m2, .bool x.2.2.2.1, .int .i64 x.2.2.2.2.1.1, .int .i64 x.2.2.2.2.1.2.1, .int .i64 x.2.2.2.2.1.2.2, .int .i64 x.2.2.2.2.2.1, .int .i64 x.2.2.2.2.2.2]).on (((Below.refl _ _).alloc (Nat.le_refl _) (.cells #[.string ⟨#[]⟩, .slice none 0 0, .slice none 0 0, .bool false, .int .i64 0, .int .i64 0, .int .i64 0, .int .i64 0, .int .i64 0] 36)).alloc (by simp) (.cells #[.string x.1, .slice h1.1 h1.2.1 h1.2.2, .slice a2 n2 m2, .bool x.2.2.2.1, .int .i64 x.2.2.2.2.1.1, .int .i64 x.2.2.2.2.1.2.1, .int .i64 x.2.2.2.2.1.2.2, .int .i64 x.2.2.2.2.2.1, .int .i64 x.2.2.2.2.2.2] 36))
  have hC := Labels_copy h1.1 h1.2.1 h1.2.2 A x.2.1 (((w.alloc (.cells #[.string x.1, .slice h1.1 h1.2.1 h1.2.2, .slice a2 n2 m2, .bool x.2.2.2.1, .int .i64 x.2.2.2.2.1.1, .int .i64 x.2.2.2.2.1.2.1, .int .i64 x.2.2.2.2.1.2.2, .int .i64 x.2.2.2.2.2.1, .int .i64 x.2.2.2.2.2.2] 36)).alloc (.cells #[.string ⟨#[]⟩, .slice none 0 0, .slice none 0 0, .bool false, .int .i64 0, .int .i64 0, .int .i64 0, .int .i64 0, .int .i64 0] 36)).alloc (.cells #[.string x.1, .slice h1.1 h1.2.1 h1.2.2, .slice a2 n2 m2, .bool x.2.2.2.1, .int .i64 x.2.2.2.2.1.1, .int .i64 x.2.2.2.2.1.2.1, .int .i64 x.2.2.2.2.1.2.2, .int .i64 x.2.2.2.2.2.1, .int .i64 x.2.2.2.2.2.2] 36)) (SlAt.on RLabel.firm p1 hb0)
  obtain ⟨W3, hW3⟩ : ∃ W3, W3 = (((w.alloc (.cells #[.string x.1, .slice h1.1 h1.2.1 h1.2.2, .slice a2 n2 m2, .bool x.2.2.2.1, .int .i64 x.2.2.2.2.1.1, .int .i64 x.2.2.2.2.1.2.1, .int .i64 x.2.2.2.2.1.2.2, .int .i64 x.2.2.2.2.2.1, .int .i64 x.2.2.2.2.2.2] 36)).alloc (.cells #[.string ⟨#[]⟩, .slice none 0 0, .slice none 0 0, .bool false, .int .i64 0, .int .i64 0, .int .i64 0, .int .i64 0, .int .i64 0] 36)).alloc (.cells #[.string x.1, .slice h1.1 h1.2.1 h1.2.2, .slice a2 n2 m2, .bool x.2.2.2.1, .int .i64 x.2.2.2.2.1.1, .int .i64 x.2.2.2.2.1.2.1, .int .i64 x.2.2.2.2.1.2.2, .int .i64 x.2.2.2.2.2.1, .int .i64 x.2.2.2.2.2.2] 36)) := ⟨_, rfl⟩
  have hsz : Hid (W3.heap.size = w.heap.size + 1 + 1 + 1) := by rw [Hid, hW3]; simp
  go_enter Try.func22, Try.ntmps22
  go_wp2_with fail
  rw [← hW3] at hb0 hB1 hB2 hB3 hC ⊢
  clear hW3
  refine hC.mono ?_
  rintro e w4 ⟨a4, c4, rfl, hS4, hb4⟩
  clear hC
  have hsz4 : w.heap.size + 1 + 1 + 1 ≤ w4.heap.size := by have := hb4.size; rw [hsz.out] at this; exact this
  have hne0 : w.heap.size ≠ w4.heap.size := by omega
  have hne1 : w.heap.size + 1 ≠ w4.heap.size := by omega
  have hne2 : w.heap.size + 1 + 1 ≠ w4.heap.size := by omega
  have hlt0 : w.heap.size < w4.heap.size := by omega
  obtain ⟨c1_2, _⟩ := (hB1.on hb4).2 2 _ rfl
  have k2 := hB2.on hb4
  have k3 := hB3.on hb4
  have HW := hsz
  have hS4' : Hid (SlAt RLabel 2 32 (Fresh W3) w4 a4 h1.2.1 c4 x.2.1) := hS4
  clear hsz hS4 hB1 hB2 hB3
  have k2' : BoxL (w4.setCell ⟨w.heap.size + 1 + 1, 1, none⟩ (.slice a4 h1.2.1 c4)) (w.heap.size + 1) [.string ⟨#[]⟩, .slice none 0 0, .slice none 0 0, .bool false, .int .i64 0, .int .i64 0, .int .i64 0, .int .i64 0, .int .i64 0] := k2.other (by simp) _
  have k3' : BoxL (w4.setCell ⟨w.heap.size + 1 + 1, 1, none⟩ (.slice a4 h1.2.1 c4)) (w.heap.size + 1 + 1) [.string x.1, .slice a4 h1.2.1 c4, .slice a2 n2 m2, .bool x.2.2.2.1, .int .i64 x.2.2.2.2.1.1, .int .i64 x.2.2.2.2.1.2.1, .int .i64 x.2.2.2.2.1.2.2, .int .i64 x.2.2.2.2.2.1, .int .i64 x.2.2.2.2.2.2] := k3.set 1 _ (by simp)
  have K2 : Hid (BoxL (w4.setCell ⟨w.heap.size + 1 + 1, 1, none⟩ (.slice a4 h1.2.1 c4)) (w.heap.size + 1) [.string ⟨#[]⟩, .slice none 0 0, .slice none 0 0, .bool false, .int .i64 0, .int .i64 0, .int .i64 0, .int .i64 0, .int .i64 0]) := k2'
  have K3 : Hid (BoxL (w4.setCell ⟨w.heap.size + 1 + 1, 1, none⟩ (.slice a4 h1.2.1 c4)) (w.heap.size + 1 + 1) [.string x.1, .slice a4 h1.2.1 c4, .slice a2 n2 m2, .bool x.2.2.2.1, .int .i64 x.2.2.2.2.1.1, .int .i64 x.2.2.2.2.1.2.1, .int .i64 x.2.2.2.2.1.2.2, .int .i64 x.2.2.2.2.2.1, .int .i64 x.2.2.2.2.2.2]) := k3'
  have hbU : Below w.heap.size w ((w4.setCell ⟨w.heap.size + 1 + 1, 1, none⟩ (.slice a4 h1.2.1 c4)).alloc (.cells #[] 207)) := ((on2 hb0 hb4).setCell (by simp <;> omega) _).alloc (by simp; omega) _
  obtain ⟨c3_1, f3_1⟩ := k3.2 1 _ rfl
  clear k2 k3 k2' k3'
  match a2 with
  | none =>
    obtain ⟨rfl, rfl, hnil⟩ := sl_none p2
    have hbn : Below (w4.setCell ⟨w.heap.size + 1 + 1, 1, none⟩ (.slice a4 h1.2.1 c4)).heap.size (w4.setCell ⟨w.heap.size + 1 + 1, 1, none⟩ (.slice a4 h1.2.1 c4)) ((w4.setCell ⟨w.heap.size + 1 + 1, 1, none⟩ (.slice a4 h1.2.1 c4)).alloc (.cells #[] 207)) := (Below.refl _ _).alloc (Nat.le_refl _) _
    have q2 := K2.out.on hbn
    have q3 := K3.out.on hbn
    clear K2 K3
    obtain ⟨c2_0, f2_0⟩ := q2.2 0 _ rfl
    obtain ⟨c2_1, f2_1⟩ := q2.2 1 _ rfl
    obtain ⟨c2_2, f2_2⟩ := q2.2 2 _ rfl
    obtain ⟨c2_3, f2_3⟩ := q2.2 3 _ rfl
    obtain ⟨c2_4, f2_4⟩ := q2.2 4 _ rfl
    obtain ⟨c2_5, f2_5⟩ := q2.2 5 _ rfl
    obtain ⟨c2_6, f2_6⟩ := q2.2 6 _ rfl
    obtain ⟨c2_7, f2_7⟩ := q2.2 7 _ rfl
    obtain ⟨c2_8, f2_8⟩ := q2.2 8 _ rfl
    obtain ⟨c3_0, f3_0⟩ := q3.2 0 _ rfl
    obtain ⟨c3_1, f3_1⟩ := q3.2 1 _ rfl
    obtain ⟨c3_2, f3_2⟩ := q3.2 2 _ rfl
    obtain ⟨c3_3, f3_3⟩ := q3.2 3 _ rfl
    obtain ⟨c3_4, f3_4⟩ := q3.2 4 _ rfl
    obtain ⟨c3_5, f3_5⟩ := q3.2 5 _ rfl
    obtain ⟨c3_6, f3_6⟩ := q3.2 6 _ rfl
    obtain ⟨c3_7, f3_7⟩ := q3.2 7 _ rfl
    obtain ⟨c3_8, f3_8⟩ := q3.2 8 _ rfl
    clear q2 q3
    have hS5' : Hid (SlAt RTaint 3 40 (Fresh (w4.setCell ⟨w.heap.size + 1 + 1, 1, none⟩ (.slice a4 h1.2.1 c4))) ((w4.setCell ⟨w.heap.size + 1 + 1, 1, none⟩ (.slice a4 h1.2.1 c4)).alloc (.cells #[] 207)) (some ⟨w4.heap.size, 0, none⟩) 0 0 x.2.2.1) := by rw [hnil]; exact SlAt.nil _ _ _ _ (fun h => by cases h)
    go_wp2_with fail
    refine bodyPost_ret (v := .agg #[.string x.1, .slice a4 h1.2.1 c4, .slice (some ⟨w4.heap.size, 0, none⟩) 0 0, .bool x.2.2.2.1, .int .i64 x.2.2.2.2.1.1, .int .i64 x.2.2.2.2.1.2.1, .int .i64 x.2.2.2.2.1.2.2, .int .i64 x.2.2.2.2.2.1, .int .i64 x.2.2.2.2.2.2]) (by simp [results, Try.results22, go_sem, c2_0, c2_1, c2_2, c2_3, c2_4, c2_5, c2_6, c2_7, c2_8, c3_0, c3_1, c3_2, c3_3, c3_4, c3_5, c3_6, c3_7, c3_8]) rfl ⟨[.string x.1, .slice a4 h1.2.1 c4, .slice (some ⟨w4.heap.size, 0, none⟩) 0 0, .bool x.2.2.2.1, .int .i64 x.2.2.2.2.1.1, .int .i64 x.2.2.2.2.1.2.1, .int .i64 x.2.2.2.2.1.2.2, .int .i64 x.2.2.2.2.2.1, .int .i64 x.2.2.2.2.2.2], rfl, ?_, ?_⟩
    · have hS4 := hS4'.out
      have hS5 := hS5'.out
      have hsW := HW.out
      refine RNode.mk (h1 := (a4, h1.2.1, c4)) (h2 := ((some ⟨w4.heap.size, 0, none⟩ : Option Addr), 0, 0)) p0 (SlAt.weak RLabel.firm (A := Fresh W3) (SlAt.kept RLabel.firm hS4 ?kp) (fun b _ hb => show w.heap.size ≤ b by have hb1 : W3.heap.size ≤ b := hb; have := hb0.size; omega)) (SlAt.weak RTaint.firm (A := Fresh (w4.setCell ⟨w.heap.size + 1 + 1, 1, none⟩ (.slice a4 h1.2.1 c4))) (SlAt.kept RTaint.firm hS5 ?kq) (fun b _ hb => show w.heap.size ≤ b by have hb1 : (w4.setCell ⟨w.heap.size + 1 + 1, 1, none⟩ (.slice a4 h1.2.1 c4)).heap.size ≤ b := hb; simp at hb1; omega))
      case kp =>
        repeat (refine Kept.trans ?_ (Kept.set (Fresh.not (by simp <;> omega)) _))
        exact (Kept.set (Fresh.not (by simp <;> omega)) _).trans (Kept.below hbn)
      case kq =>
        repeat (refine Kept.trans ?_ (Kept.set (Fresh.not (by simp <;> omega)) _))
        exact Kept.refl _ _
    · repeat (refine Below.setCell ?_ (by simp <;> omega) _)
      exact on2 ((on2 hb0 hb4).setCell (by simp <;> omega) _) hbn
  | some ad =>
    obtain ⟨xs, hc, hcell, hone⟩ := (p2.on RTaint.firm hbU).chunks RTaint.firm
    have hn := p2.1
    have hbb := p2.2.2.2.1
    subst hn
    have HR : Hid (Row RTaint 3 (Fresh (w4.setCell ⟨w.heap.size + 1 + 1, 1, none⟩ (.slice a4 h1.2.1 c4))) (w4.setCell ⟨w.heap.size + 1 + 1, 1, none⟩ (.slice a4 h1.2.1 c4)) ((w4.setCell ⟨w.heap.size + 1 + 1, 1, none⟩ (.slice a4 h1.2.1 c4)).alloc (.cells #[] 207)) 207 (.slice (some ⟨w4.heap.size, 0, none⟩) 0 0) []) := by
      have := Row.start (R := RTaint) (k := 3) (Fresh (w4.setCell ⟨w.heap.size + 1 + 1, 1, none⟩ (.slice a4 h1.2.1 c4))) (w4.setCell ⟨w.heap.size + 1 + 1, 1, none⟩ (.slice a4 h1.2.1 c4)) (w4.setCell ⟨w.heap.size + 1 + 1, 1, none⟩ (.slice a4 h1.2.1 c4)) 207 (Below.refl _ _)
      unfold Hid
      simpa using this
    have HC : Hid (Chunks RTaint 3 (fun b => Fresh (w4.setCell ⟨w.heap.size + 1 + 1, 1, none⟩ (.slice a4 h1.2.1 c4)) b ∧ Value.ownBlock (.slice (some ⟨w4.heap.size, 0, none⟩) 0 0) ≠ some b) ((w4.setCell ⟨w.heap.size + 1 + 1, 1, none⟩ (.slice a4 h1.2.1 c4)).alloc (.cells #[] 207)) xs x.2.2.1) := hc.flat RTaint.flat
    have HX : Hid (∀ j y, xs[j]? = some y → ((w4.setCell ⟨w.heap.size + 1 + 1, 1, none⟩ (.slice a4 h1.2.1 c4)).alloc (.cells #[] 207)).cell? (ad.add j) = some y) := hcell
    have HO : Hid (∀ y ∈ xs, y.oneCell' = true) := hone
    clear hc hcell hone
    have HBB : Hid (x.2.2.1.length * 40 ≤ 140737488351232) := hbb
    go_wp2_with (at_builtin; go_must (refine row_append RTaint.firm (A := Fresh (w4.setCell ⟨w.heap.size + 1 + 1, 1, none⟩ (.slice a4 h1.2.1 c4))) (w0 := (w4.setCell ⟨w.heap.size + 1 + 1, 1, none⟩ (.slice a4 h1.2.1 c4))) rfl _ _ 34 207 rfl _ 40 infoTaint Try.underlying34 rfl (by decide) (by decide) _ [] rfl HR.out ad x.2.2.1.length m2 xs x.2.2.1 rfl rfl HC.out HX.out HO.out (by have := HBB.out; simp; omega) ?_); intro v5 w5 hrow5 hg5; obtain ⟨a5, c5, rfl, hS5⟩ := hrow5.slF (bytes := 40) RTaint.firm (by simpa using HBB.out); have hb5 := hrow5.below; have q2 := K2.out.on hb5; have q3 := K3.out.on hb5; clear c3_1 f3_1; obtain ⟨c2_0, f2_0⟩ := q2.2 0 _ rfl; obtain ⟨c2_1, f2_1⟩ := q2.2 1 _ rfl; obtain ⟨c2_2, f2_2⟩ := q2.2 2 _ rfl; obtain ⟨c2_3, f2_3⟩ := q2.2 3 _ rfl; obtain ⟨c2_4, f2_4⟩ := q2.2 4 _ rfl; obtain ⟨c2_5, f2_5⟩ := q2.2 5 _ rfl; obtain ⟨c2_6, f2_6⟩ := q2.2 6 _ rfl; obtain ⟨c2_7, f2_7⟩ := q2.2 7 _ rfl; obtain ⟨c2_8, f2_8⟩ := q2.2 8 _ rfl; obtain ⟨c3_0, f3_0⟩ := q3.2 0 _ rfl; obtain ⟨c3_1, f3_1⟩ := q3.2 1 _ rfl; obtain ⟨c3_2, f3_2⟩ := q3.2 2 _ rfl; obtain ⟨c3_3, f3_3⟩ := q3.2 3 _ rfl; obtain ⟨c3_4, f3_4⟩ := q3.2 4 _ rfl; obtain ⟨c3_5, f3_5⟩ := q3.2 5 _ rfl; obtain ⟨c3_6, f3_6⟩ := q3.2 6 _ rfl; obtain ⟨c3_7, f3_7⟩ := q3.2 7 _ rfl; obtain ⟨c3_8, f3_8⟩ := q3.2 8 _ rfl; clear q2 q3 hrow5 hg5; simp only [List.nil_append] at hS5 ⊢)
    have hS5' : Hid (SlAt RTaint 3 40 (Fresh (w4.setCell ⟨w.heap.size + 1 + 1, 1, none⟩ (.slice a4 h1.2.1 c4))) w5 a5 x.2.2.1.length c5 x.2.2.1) := hS5
    clear hS5
    refine bodyPost_ret (v := .agg #[.string x.1, .slice a4 h1.2.1 c4, .slice a5 x.2.2.1.length c5, .bool x.2.2.2.1, .int .i64 x.2.2.2.2.1.1, .int .i64 x.2.2.2.2.1.2.1, .int .i64 x.2.2.2.2.1.2.2, .int .i64 x.2.2.2.2.2.1, .int .i64 x.2.2.2.2.2.2]) (by simp [results, Try.results22, go_sem, c2_0, c2_1, c2_2, c2_3, c2_4, c2_5, c2_6, c2_7, c2_8, c3_0, c3_1, c3_2, c3_3, c3_4, c3_5, c3_6, c3_7, c3_8]) rfl ⟨[.string x.1, .slice a4 h1.2.1 c4, .slice a5 x.2.2.1.length c5, .bool x.2.2.2.1, .int .i64 x.2.2.2.2.1.1, .int .i64 x.2.2.2.2.1.2.1, .int .i64 x.2.2.2.2.1.2.2, .int .i64 x.2.2.2.2.2.1, .int .i64 x.2.2.2.2.2.2], rfl, ?_, ?_⟩
    · have hS4 := hS4'.out
      have hS5 := hS5'.out
      have hsW := HW.out
      refine RNode.mk (h1 := (a4, h1.2.1, c4)) (h2 := (a5, x.2.2.1.length, c5)) p0 (SlAt.weak RLabel.firm (A := Fresh W3) (SlAt.kept RLabel.firm hS4 ?kp) (fun b _ hb => show w.heap.size ≤ b by have hb1 : W3.heap.size ≤ b := hb; have := hb0.size; omega)) (SlAt.weak RTaint.firm (A := Fresh (w4.setCell ⟨w.heap.size + 1 + 1, 1, none⟩ (.slice a4 h1.2.1 c4))) (SlAt.kept RTaint.firm hS5 ?kq) (fun b _ hb => show w.heap.size ≤ b by have hb1 : (w4.setCell ⟨w.heap.size + 1 + 1, 1, none⟩ (.slice a4 h1.2.1 c4)).heap.size ≤ b := hb; simp at hb1; omega))
      case kp =>
        repeat (refine Kept.trans ?_ (Kept.set (Fresh.not (by simp <;> omega)) _))
        exact (Kept.set (Fresh.not (by simp <;> omega)) _).trans (Kept.below hb5)
      case kq =>
        repeat (refine Kept.trans ?_ (Kept.set (Fresh.not (by simp <;> omega)) _))
        exact Kept.refl _ _
    · repeat (refine Below.setCell ?_ (by simp <;> omega) _)
      exact on2 ((on2 hb0 hb4).setCell (by simp <;> omega) _) hb5
end Go.Proofs.Ytgofpmcoffgffaa
namespace Go.Proofs.Ytgofpmcoffgffaa
open Go.RowKit
set_option linter.unusedSimpArgs false

set_option maxHeartbeats 2000000 in
theorem Volume_copy (cs : List Value) (A : Where) (x : VolumeD) (w : World) (h : Hid (RVolume A w cs x)) : Calls Try.prog 23 #[.agg cs.toArray] w fun e w' => ∃ cs', e = .returned (.agg cs'.toArray) ∧ RVolume (Fresh w) w' cs' x ∧ Below w.heap.size w w' := by
  obtain ⟨h3, rfl, p0, p1, p2, p3⟩ := h.out.out
  clear h
  have hb0 : Below w.heap.size w (((w.alloc (.cells #[.string x.1, .int .i64 x.2.1, .string x.2.2.1, .slice h3.1 h3.2.1 h3.2.2, .string x.2.2.2.2] 59)).alloc (.cells #[.string ⟨#[]⟩, .int .i64 0, .string ⟨#[]⟩, .slice none 0 0, .string ⟨#[]⟩] 59)).alloc (.cells #[.string x.1, .int .i64 x.2.1, .string x.2.2.1, .slice h3.1 h3.2.1 h3.2.2, .string x.2.2.2.2] 59)) := by go_grown
  have hB2 : BoxL (((w.alloc (.cells #[.string x.1, .int .i64 x.2.1, .string x.2.2.1, .slice h3.1 h3.2.1 h3.2.2, .string x.2.2.2.2] 59)).alloc (.cells #[.string ⟨#[]⟩, .int .i64 0, .string ⟨#[]⟩, .slice none 0 0, .string ⟨#[]⟩] 59)).alloc (.cells #[.string x.1, .int .i64 x.2.1, .string x.2.2.1, .slice h3.1 h3.2.1 h3.2.2, .string x.2.2.2.2] 59)) (w.heap.size + 1) [.string ⟨#[]⟩, .int .i64 0, .string ⟨#[]⟩, .slice none 0 0, .string ⟨#[]⟩] := by
    have := ((BoxL.new (w.alloc (.cells #[.string x.1, .int .i64 x.2.1, .string x.2.2.1, .slice h3.1 h3.2.1 h3.2.2, .string x.2.2.2.2] 59)) 59 [.string ⟨#[]⟩, .int .i64 0, .string ⟨#[]⟩, .slice none 0 0, .string ⟨#[]⟩]).on ((Below.refl _ _).alloc (Nat.le_refl _) (.cells #[.string x.1, .int .i64 x.2.1, .string x.2.2.1, .slice h3.1 h3.2.1 h3.2.2, .string x.2.2.2.2] 59)))
    simpa using this
  have hB3 : BoxL (((w.alloc (.cells #[.string x.1, .int .i64 x.2.1, .string x.2.2.1, .slice h3.1 h3.2.1 h3.2.2, .string x.2.2.2.2] 59)).alloc (.cells #[.string ⟨#[]⟩, .int .i64 0, .string ⟨#[]⟩, .slice none 0 0, .string ⟨#[]⟩] 59)).alloc (.cells #[.string x.1, .int .i64 x.2.1, .string x.2.2.1, .slice h3.1 h3.2.1 h3.2.2, .string x.2.2.2.2] 59)) (w.heap.size + 1 + 1) [.string x.1, .int .i64 x.2.1, .string x.2.2.1, .slice h3.1 h3.2.1 h3.2.2, .string x.2.2.2.2] := by
    have := BoxL.new ((w.alloc (.cells #[.string x.1, .int .i64 x.2.1, .string x.2.2.1, .slice h3.1 h3.2.1 h3.2.2, .string x.2.2.2.2] 59)).alloc (.cells #[.string ⟨#[]⟩, .int .i64 0, .string ⟨#[]⟩, .slice none 0 0, .string ⟨#[]⟩] 59)) 59 [.string x.1, .int .i64 x.2.1, .string x.2.2.1, .slice h3.1 h3.2.1 h3.2.2, .string x.2.2.2.2]
    simpa using this
  have hC := Reqs_copy h3.1 h3.2.1 h3.2.2 A x.2.2.2.1 (((w.alloc (.cells #[.string x.1, .int .i64 x.2.1, .string x.2.2.1, .slice h3.1 h3.2.1 h3.2.2, .string x.2.2.2.2] 59)).alloc (.cells #[.string ⟨#[]⟩, .int .i64 0, .string ⟨#[]⟩, .slice none 0 0, .string ⟨#[]⟩] 59)).alloc (.cells #[.string x.1, .int .i64 x.2.1, .string x.2.2.1, .slice h3.1 h3.2.1 h3.2.2, .string x.2.2.2.2] 59)) (SlAt.on RReq.firm p2 hb0)
  obtain ⟨W3, hW3⟩ : ∃ W3, W3 = (((w.alloc (.cells #[.string x.1, .int .i64 x.2.1, .string x.2.2.1, .slice h3.1 h3.2.1 h3.2.2, .string x.2.2.2.2] 59)).alloc (.cells #[.string ⟨#[]⟩, .int .i64 0, .string ⟨#[]⟩, .slice none 0 0, .string ⟨#[]⟩] 59)).alloc (.cells #[.string x.1, .int .i64 x.2.1, .string x.2.2.1, .slice h3.1 h3.2.1 h3.2.2, .string x.2.2.2.2] 59)) := ⟨_, rfl⟩
  have hsz : Hid (W3.heap.size = w.heap.size + 1 + 1 + 1) := by rw [Hid, hW3]; simp
  go_enter Try.func23, Try.ntmps23
  go_wp2_with fail
  rw [← hW3] at hb0 hB2 hB3 hC ⊢
  clear hW3
  refine hC.mono ?_
  rintro e w4 ⟨a4, c4, rfl, hS4, hb4⟩
  clear hC
  have hsz4 : w.heap.size + 1 + 1 + 1 ≤ w4.heap.size := by have := hb4.size; rw [hsz.out] at this; exact this
  have k2 := hB2.on hb4
  have k3 := hB3.on hb4
  have hl2 := k2.1
  have hl3 := k3.1
  obtain ⟨c2_0, f2_0⟩ := k2.2 0 _ rfl
  obtain ⟨c3_0, f3_0⟩ := k3.2 0 _ rfl
  obtain ⟨c2_1, f2_1⟩ := k2.2 1 _ rfl
  obtain ⟨c3_1, f3_1⟩ := k3.2 1 _ rfl
  obtain ⟨c2_2, f2_2⟩ := k2.2 2 _ rfl
  obtain ⟨c3_2, f3_2⟩ := k3.2 2 _ rfl
  obtain ⟨c2_3, f2_3⟩ := k2.2 3 _ rfl
  obtain ⟨c3_3, f3_3⟩ := k3.2 3 _ rfl
  obtain ⟨c2_4, f2_4⟩ := k2.2 4 _ rfl
  obtain ⟨c3_4, f3_4⟩ := k3.2 4 _ rfl
  clear k2 k3 hB2 hB3
  have hsW := hsz.out
  clear hsz
  have hS4' : Hid (SlAt RReq 3 48 (Fresh W3) w4 a4 h3.2.1 c4 x.2.2.2.1) := hS4
  clear hS4
  have HW : Hid (W3.heap.size = w.heap.size + 1 + 1 + 1) := hsW
  clear hsW
  go_wp2_with fail
  refine bodyPost_ret (v := .agg #[.string x.1, .int .i64 x.2.1, .string x.2.2.1, .slice a4 h3.2.1 c4, .string x.2.2.2.2]) (by simp [results, Try.results23, go_sem, c2_0, c2_1, c2_2, c2_3, c2_4, c3_0, c3_1, c3_2, c3_3, c3_4]) rfl ⟨[.string x.1, .int .i64 x.2.1, .string x.2.2.1, .slice a4 h3.2.1 c4, .string x.2.2.2.2], rfl, ?_, ?_⟩
  · have hS4 := hS4'.out
    have hsW := HW.out
    refine RVolume.mk (h3 := (a4, h3.2.1, c4)) p0 p1 (SlAt.weak RReq.firm (A := Fresh W3) (SlAt.kept RReq.firm hS4 ?kp) (fun b _ hb => show w.heap.size ≤ b by have hb1 : W3.heap.size ≤ b := hb; have := hb0.size; omega)) p3
    case kp =>
      repeat (refine Kept.trans ?_ (Kept.set (Fresh.not (by simp <;> omega)) _))
      exact Kept.refl _ _
  · repeat (refine Below.setCell ?_ (by simp <;> omega) _)
    exact on2 hb0 hb4

set_option maxHeartbeats 2000000 in
theorem Budget_copy (cs : List Value) (A : Where) (x : BudgetD) (w : World) (h : Hid (RBudget A w cs x)) : Calls Try.prog 24 #[.agg cs.toArray] w fun e w' => ∃ cs', e = .returned (.agg cs'.toArray) ∧ RBudget (Fresh w) w' cs' x ∧ Below w.heap.size w w' := by
  obtain ⟨h1, rfl, p0, p1⟩ := h.out.out
  clear h
  have hb0 : Below w.heap.size w (((w.alloc (.cells #[.string x.1, .slice h1.1 h1.2.1 h1.2.2, .int .i64 x.2.2] 95)).alloc (.cells #[.string ⟨#[]⟩, .slice none 0 0, .int .i64 0] 95)).alloc (.cells #[.string x.1, .slice h1.1 h1.2.1 h1.2.2, .int .i64 x.2.2] 95)) := by go_grown
  have hB2 : BoxL (((w.alloc (.cells #[.string x.1, .slice h1.1 h1.2.1 h1.2.2, .int .i64 x.2.2] 95)).alloc (.cells #[.string ⟨#[]⟩, .slice none 0 0, .int .i64 0] 95)).alloc (.cells #[.string x.1, .slice h1.1 h1.2.1 h1.2.2, .int .i64 x.2.2] 95)) (w.heap.size + 1) [.string ⟨#[]⟩, .slice none 0 0, .int .i64 0] := by
    have := ((BoxL.new (w.alloc (.cells #[.string x.1, .slice h1.1 h1.2.1 h1.2.2, .int .i64 x.2.2] 95)) 95 [.string ⟨#[]⟩, .slice none 0 0, .int .i64 0]).on ((Below.refl _ _).alloc (Nat.le_refl _) (.cells #[.string x.1, .slice h1.1 h1.2.1 h1.2.2, .int .i64 x.2.2] 95)))
    simpa using this
  have hB3 : BoxL (((w.alloc (.cells #[.string x.1, .slice h1.1 h1.2.1 h1.2.2, .int .i64 x.2.2] 95)).alloc (.cells #[.string ⟨#[]⟩, .slice none 0 0, .int .i64 0] 95)).alloc (.cells #[.string x.1, .slice h1.1 h1.2.1 h1.2.2, .int .i64 x.2.2] 95)) (w.heap.size + 1 + 1) [.string x.1, .slice h1.1 h1.2.1 h1.2.2, .int .i64 x.2.2] := by
    have := BoxL.new ((w.alloc (.cells #[.string x.1, .slice h1.1 h1.2.1 h1.2.2, .int .i64 x.2.2] 95)).alloc (.cells #[.string ⟨#[]⟩, .slice none 0 0, .int .i64 0] 95)) 95 [.string x.1, .slice h1.1 h1.2.1 h1.2.2, .int .i64 x.2.2]
    simpa using this
  have hC := Reqs_copy h1.1 h1.2.1 h1.2.2 A x.2.1 (((w.alloc (.cells #[.string x.1, .slice h1.1 h1.2.1 h1.2.2, .int .i64 x.2.2] 95)).alloc (.cells #[.string ⟨#[]⟩, .slice none 0 0, .int .i64 0] 95)).alloc (.cells #[.string x.1, .slice h1.1 h1.2.1 h1.2.2, .int .i64 x.2.2] 95)) (SlAt.on RReq.firm p1 hb0)
  obtain ⟨W3, hW3⟩ : ∃ W3, W3 = (((w.alloc (.cells #[.string x.1, .slice h1.1 h1.2.1 h1.2.2, .int .i64 x.2.2] 95)).alloc (.cells #[.string ⟨#[]⟩, .slice none 0 0, .int .i64 0] 95)).alloc (.cells #[.string x.1, .slice h1.1 h1.2.1 h1.2.2, .int .i64 x.2.2] 95)) := ⟨_, rfl⟩
  have hsz : Hid (W3.heap.size = w.heap.size + 1 + 1 + 1) := by rw [Hid, hW3]; simp
  go_enter Try.func24, Try.ntmps24
  go_wp2_with fail
  rw [← hW3] at hb0 hB2 hB3 hC ⊢
  clear hW3
  refine hC.mono ?_
  rintro e w4 ⟨a4, c4, rfl, hS4, hb4⟩
  clear hC
  have hsz4 : w.heap.size + 1 + 1 + 1 ≤ w4.heap.size := by have := hb4.size; rw [hsz.out] at this; exact this
  have k2 := hB2.on hb4
  have k3 := hB3.on hb4
  have hl2 := k2.1
  have hl3 := k3.1
  obtain ⟨c2_0, f2_0⟩ := k2.2 0 _ rfl
  obtain ⟨c3_0, f3_0⟩ := k3.2 0 _ rfl
  obtain ⟨c2_1, f2_1⟩ := k2.2 1 _ rfl
  obtain ⟨c3_1, f3_1⟩ := k3.2 1 _ rfl
  obtain ⟨c2_2, f2_2⟩ := k2.2 2 _ rfl
  obtain ⟨c3_2, f3_2⟩ := k3.2 2 _ rfl
  clear k2 k3 hB2 hB3
  have hsW := hsz.out
  clear hsz
  have hS4' : Hid (SlAt RReq 3 48 (Fresh W3) w4 a4 h1.2.1 c4 x.2.1) := hS4
  clear hS4
  have HW : Hid (W3.heap.size = w.heap.size + 1 + 1 + 1) := hsW
  clear hsW
  go_wp2_with fail
  refine bodyPost_ret (v := .agg #[.string x.1, .slice a4 h1.2.1 c4, .int .i64 x.2.2]) (by simp [results, Try.results24, go_sem, c2_0, c2_1, c2_2, c3_0, c3_1, c3_2]) rfl ⟨[.string x.1, .slice a4 h1.2.1 c4, .int .i64 x.2.2], rfl, ?_, ?_⟩
  · have hS4 := hS4'.out
    have hsW := HW.out
    refine RBudget.mk (h1 := (a4, h1.2.1, c4)) p0 (SlAt.weak RReq.firm (A := Fresh W3) (SlAt.kept RReq.firm hS4 ?kp) (fun b _ hb => show w.heap.size ≤ b by have hb1 : W3.heap.size ≤ b := hb; have := hb0.size; omega))
    case kp =>
      repeat (refine Kept.trans ?_ (Kept.set (Fresh.not (by simp <;> omega)) _))
      exact Kept.refl _ _
  · repeat (refine Below.setCell ?_ (by simp <;> omega) _)
    exact on2 hb0 hb4
end Go.Proofs.Ytgofpmcoffgffaa
