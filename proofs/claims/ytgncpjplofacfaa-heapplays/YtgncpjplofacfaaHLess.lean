/- heap.entry.ahead, heap.Ahead, list.Len, list.Less: what they return. No condition. -/
import Derived.Test.YtgncpjplofacfaaHBase
namespace Go.Proofs.Ytgncpjplofacfaa
open Go.RowKit Go.Maps
set_option linter.unusedSimpArgs false

theorem retb {a b : Bool} (h : a = b) : Ending.returned (.bool a) = .returned (.bool b) := by rw [h]
theorem ahead_calls (a b : It) (w : World) : Calls Try.prog 36 #[vI a, vI b] w fun e w' => e = .returned (.bool (ahead a b)) ∧ Below w.heap.size w w' := by
  obtain ⟨ak, ar, ac⟩ := a
  obtain ⟨bk, br, bc⟩ := b
  go_enter Try.func36, Try.ntmps36
  by_cases h1 : ar = br
  · by_cases h2 : ac = bc
    · have HF : Hid (ahead (ak, ar, ac) (bk, br, bc) = Op.bytesLess ak.toList bk.toList) := by simp [Hid, ahead, h1, h2]
      go_wp2
      go_ret
      exact ⟨retb HF.out.symm, by go_grown⟩
    · have HF : Hid (ahead (ak, ar, ac) (bk, br, bc) = decide (ac < bc)) := by simp [Hid, ahead, h1, h2]
      go_wp2
      go_ret
      exact ⟨retb HF.out.symm, by go_grown⟩
  · have HF : Hid (ahead (ak, ar, ac) (bk, br, bc) = decide (br < ar)) := by simp [Hid, ahead, h1]
    go_wp2
    go_ret
    exact ⟨retb HF.out.symm, by go_grown⟩
theorem Ahead_calls (a b : It) (w : World) : Calls Try.prog 25 #[vI a, vI b] w fun e w' => e = .returned (.bool (ahead a b)) ∧ Below w.heap.size w w' := by
  go_enter Try.func25, Try.ntmps25
  go_wp2_with (go_at_call 36; refine (ahead_calls a b _).mono ?_; rintro e w' ⟨rfl, hb⟩)
  go_ret
  exact ⟨rfl, on2 (by go_grown) hb⟩
theorem Len_calls (a : Option Addr) (n cap : Nat) (f : Value) (w : World) : Calls Try.prog 30 #[.agg #[.slice a n cap, f]] w fun e w' => e = .returned (.int .i64 (n : Int)) ∧ Below w.heap.size w w' := by
  go_enter Try.func30, Try.ntmps30
  go_wp2
  go_ret
  exact ⟨rfl, by go_grown⟩
/-- What stays while list.Less looks. -/
def LeS (W : World) (b g n cap i j : Nat) (x y : It) (u : World) : Prop :=
  Below W.heap.size W u ∧ u.cell? ⟨b, 0, none⟩ = some (.slice (some ⟨g, 0, none⟩) n cap) ∧ u.cell? ⟨b, 1, none⟩ = some (.func (.func 36) #[] #[]) ∧
    u.cell? ⟨g, i * 3, none⟩ = some (.string x.1) ∧ u.cell? ⟨g, i * 3 + 1, none⟩ = some (.int .i64 x.2.1) ∧ u.cell? ⟨g, i * 3 + 2, none⟩ = some (.int .i64 x.2.2) ∧
    u.cell? ⟨g, j * 3, none⟩ = some (.string y.1) ∧ u.cell? ⟨g, j * 3 + 1, none⟩ = some (.int .i64 y.2.1) ∧ u.cell? ⟨g, j * 3 + 2, none⟩ = some (.int .i64 y.2.2)
set_option maxHeartbeats 2000000 in
/-- list.Less at two entries. -/
theorem Less_at (g n cap i j : Nat) (x y : It) (w : World) (hi : (i : Int) < (n : Int)) (hj : (j : Int) < (n : Int)) (hg : g < w.heap.size)
    (x0 : w.cell? ⟨g, i * 3, none⟩ = some (.string x.1)) (x1 : w.cell? ⟨g, i * 3 + 1, none⟩ = some (.int .i64 x.2.1)) (x2 : w.cell? ⟨g, i * 3 + 2, none⟩ = some (.int .i64 x.2.2))
    (y0 : w.cell? ⟨g, j * 3, none⟩ = some (.string y.1)) (y1 : w.cell? ⟨g, j * 3 + 1, none⟩ = some (.int .i64 y.2.1)) (y2 : w.cell? ⟨g, j * 3 + 2, none⟩ = some (.int .i64 y.2.2)) :
    Calls Try.prog 66 #[.agg #[.slice (some ⟨g, 0, none⟩) n cap, .func (.func 36) #[] #[]], .int .i64 (i : Int), .int .i64 (j : Int)] w fun e w' => e = .returned (.bool (ahead x y)) ∧ Below w.heap.size w w' := by
  have HS : Hid (∀ {u : World}, Below (w.alloc (.cells #[.slice (some ⟨g, 0, none⟩) n cap, .func (.func 36) #[] #[]] 58)).heap.size (w.alloc (.cells #[.slice (some ⟨g, 0, none⟩) n cap, .func (.func 36) #[] #[]] 58)) u →
      LeS (w.alloc (.cells #[.slice (some ⟨g, 0, none⟩) n cap, .func (.func 36) #[] #[]] 58)) w.heap.size g n cap i j x y u) := by
    intro u hb
    have hb0 := on2 (w := w) (by go_grown) hb
    refine ⟨hb, ?_, ?_, (hb0.cell hg).trans x0, (hb0.cell hg).trans x1, (hb0.cell hg).trans x2, (hb0.cell hg).trans y0, (hb0.cell hg).trans y1, (hb0.cell hg).trans y2⟩
    · rw [hb.cell (by simp)]; simp [go_sem]
    · rw [hb.cell (by simp)]; simp [go_sem]
  clear x0 x1 x2 y0 y1 y2
  go_enter Try.func66, Try.ntmps66
  go_wp2_with fail
  refine wp_region_noPanic ?_
  refine wp_region_held_drew (S := LeS _ w.heap.size g n cap i j x y) (by kernel_rfl) (HS.out (Below.refl _ _).drew) (fun hHeld => ?_)
  refine wpAnyH_take (i := 0) (v := ?v0) rfl (by kernel_rfl) (by kernel_rfl) (by kernel_rfl) (fun _ _ _ h => h) (Or.inl ⟨by rfl, ?hy0⟩) (by assumption) ?rest0
  case hy0 => (intro u hu; obtain ⟨_, _, _, _, _, _, _, _, _⟩ := hu; go_simp; try with_reducible rfl)
  try simp only [Act.put, List.setIfInBounds_toArray, List.set_cons_zero, List.set_cons_succ, List.getElem_toArray, List.getElem_cons_zero, List.getElem_cons_succ]
  refine wpAnyH_take (i := 1) (v := ?v1) rfl (by kernel_rfl) (by kernel_rfl) (by kernel_rfl) (fun _ _ _ h => h) (Or.inl ⟨by rfl, ?hy1⟩) (by assumption) ?rest1
  case hy1 => (intro u hu; obtain ⟨_, _, _, _, _, _, _, _, _⟩ := hu; go_simp; try with_reducible rfl)
  try simp only [Act.put, List.setIfInBounds_toArray, List.set_cons_zero, List.set_cons_succ, List.getElem_toArray, List.getElem_cons_zero, List.getElem_cons_succ]
  refine wpAnyH_take (i := 2) (v := ?v2) rfl (by kernel_rfl) (by kernel_rfl) (by kernel_rfl) (fun _ _ _ h => h) (Or.inl ⟨by rfl, ?hy2⟩) (by assumption) ?rest2
  case hy2 => (intro u hu; obtain ⟨_, _, _, _, _, _, _, _, _⟩ := hu; go_simp; try with_reducible rfl)
  try simp only [Act.put, List.setIfInBounds_toArray, List.set_cons_zero, List.set_cons_succ, List.getElem_toArray, List.getElem_cons_zero, List.getElem_cons_succ]
  refine wpAnyH_take (i := 3) (v := ?v3) rfl (by kernel_rfl) (by kernel_rfl) (by kernel_rfl) (fun _ _ _ h => h) (Or.inl ⟨by rfl, ?hy3⟩) (by assumption) ?rest3
  case hy3 => (intro u hu; obtain ⟨_, _, _, _, _, _, _, _, _⟩ := hu; go_simp; try with_reducible rfl)
  try simp only [Act.put, List.setIfInBounds_toArray, List.set_cons_zero, List.set_cons_succ, List.getElem_toArray, List.getElem_cons_zero, List.getElem_cons_succ]
  refine wpAnyH_take (i := 4) (v := ?v4) rfl (by kernel_rfl) (by kernel_rfl) (by kernel_rfl) (fun _ _ _ h => h) (Or.inl ⟨by rfl, ?hy4⟩) (by assumption) ?rest4
  case hy4 => (intro u hu; obtain ⟨_, _, _, _, _, _, _, _, _⟩ := hu; go_simp; try with_reducible rfl)
  try simp only [Act.put, List.setIfInBounds_toArray, List.set_cons_zero, List.set_cons_succ, List.getElem_toArray, List.getElem_cons_zero, List.getElem_cons_succ]
  refine wpAnyH_take (i := 5) (v := ?v5) rfl (by kernel_rfl) (by kernel_rfl) (by kernel_rfl) (fun _ _ _ h => h) (Or.inl ⟨by rfl, ?hy5⟩) (by assumption) ?rest5
  case hy5 => (intro u hu; obtain ⟨_, _, _, _, _, _, _, _, _⟩ := hu; go_simp; try with_reducible rfl)
  try simp only [Act.put, List.setIfInBounds_toArray, List.set_cons_zero, List.set_cons_succ, List.getElem_toArray, List.getElem_cons_zero, List.getElem_cons_succ]
  refine wpAnyH_take (i := 6) (v := ?v6) rfl (by kernel_rfl) (by kernel_rfl) (by kernel_rfl) (fun _ _ _ h => h) (Or.inl ⟨by rfl, ?hy6⟩) (by assumption) ?rest6
  case hy6 => (intro u hu; obtain ⟨_, _, _, _, _, _, _, _, _⟩ := hu; go_simp; try with_reducible rfl)
  try simp only [Act.put, List.setIfInBounds_toArray, List.set_cons_zero, List.set_cons_succ, List.getElem_toArray, List.getElem_cons_zero, List.getElem_cons_succ]
  refine wpAnyH_take (i := 7) (v := ?v7) rfl (by kernel_rfl) (by kernel_rfl) (by kernel_rfl) (fun _ _ _ h => h) (Or.inl ⟨by rfl, ?hy7⟩) (by assumption) ?rest7
  case hy7 => (intro u hu; obtain ⟨_, _, _, _, _, _, _, _, _⟩ := hu; go_simp; try with_reducible rfl)
  try simp only [Act.put, List.setIfInBounds_toArray, List.set_cons_zero, List.set_cons_succ, List.getElem_toArray, List.getElem_cons_zero, List.getElem_cons_succ]
  refine wpAnyH_take (i := 8) (v := ?v8) rfl (by kernel_rfl) (by kernel_rfl) (by kernel_rfl) (fun _ _ _ h => h) (Or.inl ⟨by rfl, ?hy8⟩) (by assumption) ?rest8
  case hy8 => (intro u hu; obtain ⟨_, _, _, _, _, _, _, _, _⟩ := hu; go_simp; try with_reducible rfl)
  try simp only [Act.put, List.setIfInBounds_toArray, List.set_cons_zero, List.set_cons_succ, List.getElem_toArray, List.getElem_cons_zero, List.getElem_cons_succ]
  refine wpAnyH_take (i := 9) (v := ?v9) rfl (by kernel_rfl) (by kernel_rfl) (by kernel_rfl) (fun _ _ _ h => h) (Or.inl ⟨by rfl, ?hy9⟩) (by assumption) ?rest9
  case hy9 => (intro u hu; obtain ⟨_, _, _, _, _, _, _, _, _⟩ := hu; go_simp; try with_reducible rfl)
  try simp only [Act.put, List.setIfInBounds_toArray, List.set_cons_zero, List.set_cons_succ, List.getElem_toArray, List.getElem_cons_zero, List.getElem_cons_succ]
  refine wpAnyH_take (i := 10) (v := ?v10) rfl (by kernel_rfl) (by kernel_rfl) (by kernel_rfl) (fun _ _ _ h => h) (Or.inl ⟨by rfl, ?hy10⟩) (by assumption) ?rest10
  case hy10 => (intro u hu; obtain ⟨_, _, _, _, _, _, _, _, _⟩ := hu; go_simp; try with_reducible rfl)
  try simp only [Act.put, List.setIfInBounds_toArray, List.set_cons_zero, List.set_cons_succ, List.getElem_toArray, List.getElem_cons_zero, List.getElem_cons_succ]
  refine wpAnyH_take (i := 11) (v := ?v11) rfl (by kernel_rfl) (by kernel_rfl) (by kernel_rfl) (fun _ _ _ h => h) (Or.inl ⟨by rfl, ?hy11⟩) (by assumption) ?rest11
  case hy11 => (intro u hu; obtain ⟨_, _, _, _, _, _, _, _, _⟩ := hu; go_simp; try with_reducible rfl)
  try simp only [Act.put, List.setIfInBounds_toArray, List.set_cons_zero, List.set_cons_succ, List.getElem_toArray, List.getElem_cons_zero, List.getElem_cons_succ]
  refine wpAnyH_ready (rs := [12]) (by kernel_rfl) (by simp) ?_
  refine AllReadyH.cons rfl (fun K hK => ?_) AllReadyH.nil
  go_simp
  refine (ahead_calls x y _).mono ?_
  rintro e w1 ⟨rfl, hb1⟩
  go_wp2_with fail
  refine hK.out _ _ (HS.out (on2 hHeld.1 hb1)) (fun hHeld2 => ?_)
  clear hK K hHeld
  have hHeld := hHeld2
  clear hHeld2
  try simp only [Act.put, List.setIfInBounds_toArray, List.set_cons_zero, List.set_cons_succ, List.getElem_toArray, List.getElem_cons_zero, List.getElem_cons_succ]
  refine wpAnyH_take (i := 13) (v := ?v13) rfl (by kernel_rfl) (by kernel_rfl) (by kernel_rfl) (fun _ _ _ h => h) (Or.inl ⟨by rfl, ?hy13⟩) (by assumption) ?rest13
  case hy13 => (intro u hu; obtain ⟨_, _, _, _, _, _, _, _, _⟩ := hu; go_simp; try with_reducible rfl)
  try simp only [Act.put, List.setIfInBounds_toArray, List.set_cons_zero, List.set_cons_succ, List.getElem_toArray, List.getElem_cons_zero, List.getElem_cons_succ]
  refine wpAnyH_done (by kernel_rfl) ?_ _
  refine NoPanic.normal ?_
  go_wp2_with fail
  go_ret
  exact ⟨rfl, on2 (by go_grown) hHeld.1⟩
end Go.Proofs.Ytgncpjplofacfaa
