/- isFree, hasVolume, suits; cmp.Or of two; MinFunc over places; what stands behind 'smallest'. Condition: the arguments lie as is said of them. -/
import Derived.Test.YtgofpmcoffgffaaQ13
import Derived.Test.YtgofpmcoffgffaaQ17
import Derived.Test.YtgofpmcoffgffaaQ15
namespace Go.Proofs.Ytgofpmcoffgffaa
open Go.RowKit Go.Maps
set_option linter.unusedSimpArgs false
set_option maxRecDepth 100000

theorem RVolume.all10 {A : Where} {w : World} {cs : List Value} {v : VolumeD} (h : RVolume A w cs v) : cs[0]? = some (.string v.1) ∧ cs[1]? = some (.int .i64 v.2.1) ∧ cs[2]? = some (.string v.2.2.1) ∧ (∃ h3 : Hd, cs[3]? = some (.slice h3.1 h3.2.1 h3.2.2) ∧ SlAt RReq 3 48 A w h3.1 h3.2.1 h3.2.2 (vRq v)) ∧ cs[4]? = some (.string (vCl v)) := by
  obtain ⟨⟨a, b, c⟩, rfl, _, _, h4, _⟩ := h.out
  exact ⟨rfl, rfl, rfl, ⟨(a, b, c), rfl, h4⟩, rfl⟩
theorem RClaim.all10 {A : Where} {w : World} {cs : List Value} {c : ClaimD} (h : RClaim A w cs c) : cs[0]? = some (.string c.1) ∧ cs[1]? = some (.int .i64 c.2.1) ∧ cs[2]? = some (.string c.2.2.1) ∧ cs[3]? = some (.string (cVo c)) ∧ c.1.size ≤ 140737488355328 ∧ c.2.2.1.size ≤ 140737488355328 ∧ (cVo c).size ≤ 140737488355328 := by
  obtain ⟨rfl, h1, h2, h3⟩ := h.out
  exact ⟨rfl, rfl, rfl, rfl, h1, h2, h3⟩
set_option maxHeartbeats 1000000 in
theorem isFree_calls (cs : List Value) (A : Where) (v : VolumeD) (w : World) (h : RVolume A w cs v) : Calls Try.prog 32 #[.agg cs.toArray] w fun e w' => e = .returned (.bool (sEq (vCl v) B0)) ∧ Below w.heap.size w w' := by
  obtain ⟨W1, hW1⟩ : ∃ W, W = w.alloc (.cells cs.toArray 59) := ⟨_, rfl⟩
  have B1 : Below w.heap.size w W1 := by rw [hW1]; go_grown
  have c4 : W1.cell? ⟨w.heap.size, 4, none⟩ = some (.string (vCl v)) := by rw [hW1]; exact ((BoxL.new w 59 cs).2 4 _ h.all10.2.2.2.2).1
  clear h
  generalize vCl v = s at c4
  have hq : s.toList.isEmpty = sEq s B0 := isE9 s
  generalize sEq s B0 = b at hq
  go_enter Try.func32, Try.ntmps32
  go_upto_region 1 with fail
  rw [← hW1]
  clear hW1
  go_wp2_with fail
  go_ret
  exact ⟨by simp [hq], B1⟩
set_option maxHeartbeats 1000000 in
theorem hasVolume_calls (cs : List Value) (A : Where) (c : ClaimD) (w : World) (h : RClaim A w cs c) : Calls Try.prog 38 #[.agg cs.toArray] w fun e w' => e = .returned (.bool (!sEq (cVo c) B0)) ∧ Below w.heap.size w w' := by
  obtain ⟨W1, hW1⟩ : ∃ W, W = w.alloc (.cells cs.toArray 57) := ⟨_, rfl⟩
  have B1 : Below w.heap.size w W1 := by rw [hW1]; go_grown
  have c4 : W1.cell? ⟨w.heap.size, 3, none⟩ = some (.string (cVo c)) := by rw [hW1]; exact ((BoxL.new w 57 cs).2 3 _ h.all10.2.2.2.1).1
  clear h
  generalize cVo c = s at c4
  have hq : s.toList.isEmpty = sEq s B0 := isE9 s
  generalize sEq s B0 = b at hq
  go_enter Try.func38, Try.ntmps38
  go_upto_region 1 with fail
  rw [← hW1]
  clear hW1
  go_wp2_with fail
  go_ret
  exact ⟨by simp [hq], B1⟩
set_option maxHeartbeats 2000000 in
theorem suits_calls (vs : List Value) (A : Where) (v : VolumeD) (cs : List Value) (A' : Where) (c : ClaimD) (w : World) (h : RVolume A w vs v) (hc : RClaim A' w cs c) : Calls Try.prog 45 #[.agg vs.toArray, .agg cs.toArray] w fun e w' => e = .returned (.bool (suitP c v)) ∧ Below w.heap.size w w' := by
  obtain ⟨W1, hW1⟩ : ∃ W, W = (w.alloc (.cells vs.toArray 59)).alloc (.cells cs.toArray 57) := ⟨_, rfl⟩
  have B1 : Below w.heap.size w W1 := by rw [hW1]; go_grown
  have q1 : BoxL W1 w.heap.size vs := by rw [hW1]; exact (BoxL.new w 59 vs).on ((Below.refl _ _).alloc (Nat.le_refl _) _)
  have q2 : BoxL W1 (w.heap.size + 1) cs := by rw [hW1]; have := BoxL.new (w.alloc (.cells vs.toArray 59)) 57 cs; simpa using this
  obtain ⟨_, v1, v2, _, _⟩ := h.all10
  obtain ⟨_, c1, c2, _, _⟩ := hc.all10
  have d1 := (q1.2 1 _ v1).1
  have d2 := (q1.2 2 _ v2).1
  have e1 := (q2.2 1 _ c1).1
  have e2 := (q2.2 2 _ c2).1
  have hS : Hid (suitP c v = (sEq v.2.2.1 c.2.2.1 && decide (c.2.1 ≤ v.2.1))) := rfl
  clear h hc q1 q2 v1 v2 c1 c2
  generalize suitP c v = r at hS
  generalize v.2.2.1 = s at d2 hS
  generalize c.2.2.1 = t at e2 hS
  generalize v.2.1 = x at d1 hS
  generalize c.2.1 = y at e1 hS
  have hq : (s.toList == t.toList) = sEq s t := rfl
  cases hb : sEq s t
  · rw [hb] at hq hS
    obtain rfl : r = false := by simpa using hS.out
    go_enter Try.func45, Try.ntmps45
    go_upto_region 1 with fail
    rw [← hW1]
    clear hW1
    go_wp2_with fail
    go_ret
    exact ⟨rfl, B1⟩
  · rw [hb] at hq hS
    have hr : r = decide (y ≤ x) := by simpa using hS.out
    clear hS
    go_enter Try.func45, Try.ntmps45
    go_upto_region 1 with fail
    rw [← hW1]
    clear hW1
    go_wp2_with fail
    go_ret
    exact ⟨by rw [hr]; rfl, B1⟩
end Go.Proofs.Ytgofpmcoffgffaa
