/- takeBack: both are left with nothing, if they are each other's. Condition: the claim and the volume lie as is said of them, in blocks apart, which may be written. slices.Backward at picks: the iterator gives each pick with its place, the last one first. Condition: the picks lie as is said of them, below what the loop around it makes; so does the box of the list. volume.Undo: the picks are taken back, in rows of its own. Conditions: the state and the picks lie as is said of them. base.SameReqs, sameTerms tell whether two slices hold the same; they change nothing but the count of draws. Condition: the slices hold what is said of them. -/
import Derived.Test.YtmnldngojgldiaaGreatQ19
import Derived.RangeFuncNested
import Derived.RangeFuncBound
import Derived.RangeFuncCalls
import Derived.RangeFuncLeaves
import Derived.RangeFuncWrites
import Derived.Shelf.Abstract
import Derived.Shelf.RegionOpen
import Derived.WalkKit
import Derived.OwnWalkIn
import Derived.TacticsInMore
import Derived.LoopNIn
import Derived.LoopIn
import Derived.Test.YtmnldngojgldiaaGreatQ17
import Derived.Test.YtmnldngojgldiaaGreatQ16
import Derived.Test.YtmnldngojgldiaaGreatQ06
import Derived.Test.YtmnldngojgldiaaGreatQ14
import Derived.Test.YtmnldngojgldiaaGreatQ09
import Derived.Test.YtmnldngojgldiaaGreatQ05
namespace Go.Proofs.YtmnldngojgldiaaGreat
open Go.RowKit
set_option linter.unusedSimpArgs false
set_option maxRecDepth 100000

/-- What takeBack does. -/
def TkOut (u : World) (Bc oc Bv ov : Nat) (c : ClaimD) (v : VolumeD) (e : Ending) (u' : World) : Prop :=
  ∃ z, Below u.heap.size u z ∧ ((okU c v = false ∧ e = .returned (.bool false) ∧ u' = z) ∨ (okU c v = true ∧ e = .returned (.bool true) ∧ u' = (z.setCell ⟨Bc, oc + 3, none⟩ (.string ⟨#[]⟩)).setCell ⟨Bv, ov + 4, none⟩ (.string ⟨#[]⟩)))
set_option maxHeartbeats 16000000 in
theorem takeBack_calls (Bc oc Bv ov : Nat) (cs : List Value) (A : Where) (c : ClaimD) (vs : List Value) (A' : Where) (v : VolumeD) (u : World) (hc : RClaim A u cs c) (hv : RVolume A' u vs v) (rc : u.rangeAt Bc oc cs) (rv : u.rangeAt Bv ov vs) (hBc : Bc < u.heap.size) (hBv : Bv < u.heap.size) (hne : Bc ≠ Bv) (fc : u.frozen? ⟨Bc, oc + 3, none⟩ = false) (fv : u.frozen? ⟨Bv, ov + 4, none⟩ = false) :
    Calls Tryz.prog 23 #[.pointer (some ⟨Bc, oc, none⟩), .pointer (some ⟨Bv, ov, none⟩)] u (TkOut u Bc oc Bv ov c v) := by
  obtain ⟨e0, _, _, e3, _⟩ := hc.all10
  obtain ⟨y0, _, _, _, y4⟩ := hv.all10
  have HF : Hid (∀ z, Below u.heap.size u z → z.cell? ⟨Bc, oc, none⟩ = some (.string c.1) ∧ z.cell? ⟨Bv, ov, none⟩ = some (.string v.1) ∧ z.cell? ⟨Bc, oc + 3, none⟩ = some (.string (cVo c)) ∧ z.cell? ⟨Bv, ov + 4, none⟩ = some (.string (vCl v)) ∧ z.frozen? ⟨Bc, oc + 3, none⟩ = false ∧ z.frozen? ⟨Bv, ov + 4, none⟩ = false ∧ Bc < z.heap.size ∧ Bv < z.heap.size) := fun z hb => by
    have h1 : z.rangeAt Bc oc cs := fun j w hj => (hb.cell hBc).trans (rc j w hj)
    have h2 : z.rangeAt Bv ov vs := fun j w hj => (hb.cell hBv).trans (rv j w hj)
    refine ⟨by have := h1 0 _ e0; simpa using this, by have := h2 0 _ y0; simpa using this, h1 3 _ e3, h2 4 _ y4, ?_, ?_, Nat.lt_of_lt_of_le hBc hb.size, Nat.lt_of_lt_of_le hBv hb.size⟩
    · rw [frozen_blk10 (hb.block Bc hBc)]; exact fc
    · rw [frozen_blk10 (hb.block Bv hBv)]; exact fv
  have Hok : Hid (okU c v = (((cVo c).toList == v.1.toList) && ((vCl v).toList == c.1.toList))) := rfl
  clear hc hv rc rv fc fv e0 e3 y0 y4
  obtain ⟨p1, hp1⟩ : ∃ p, ((cVo c).toList == v.1.toList) = p := ⟨_, rfl⟩
  obtain ⟨p2, hp2⟩ : ∃ p, ((vCl v).toList == c.1.toList) = p := ⟨_, rfl⟩
  rw [hp1, hp2] at Hok
  go_enter Tryz.func23, Tryz.ntmps23
  go_upto_region 1 with fail
  have bd : Below u.heap.size u u.drew := (Below.refl _ _).drew
  refine t0 (fun z => z.cell? ⟨Bc, oc, none⟩ = some (.string c.1) ∧ z.cell? ⟨Bv, ov, none⟩ = some (.string v.1) ∧ z.cell? ⟨Bc, oc + 3, none⟩ = some (.string (cVo c)) ∧ z.cell? ⟨Bv, ov + 4, none⟩ = some (.string (vCl v))) ⟨(HF.out _ bd).1, (HF.out _ bd).2.1, (HF.out _ bd).2.2.1, (HF.out _ bd).2.2.2.1⟩ (fun hHeld => ?_)
  generalize hwd : u.drew = wd at hHeld bd ⊢
  clear hwd
  try go_frame
  refine' tk 0 ?_ ?_; rotate_left
  · intro u hu; obtain ⟨g1, g2, g3, g4⟩ := hu; go_simp; try with_reducible rfl
  try go_frame
  refine' tk 1 ?_ ?_; rotate_left
  · intro u hu; obtain ⟨g1, g2, g3, g4⟩ := hu; go_simp; try with_reducible rfl
  try go_frame
  refine' tk 2 ?_ ?_; rotate_left
  · intro u hu; obtain ⟨g1, g2, g3, g4⟩ := hu; go_simp; try with_reducible rfl
  try go_frame
  refine' tk 3 ?_ ?_; rotate_left
  · intro u hu; obtain ⟨g1, g2, g3, g4⟩ := hu; go_simp; try with_reducible rfl
  try go_frame
  refine' tk 4 ?_ ?_; rotate_left
  · intro u hu; obtain ⟨g1, g2, g3, g4⟩ := hu; go_simp; try with_reducible rfl
  try go_frame
  refine' tk 5 ?_ ?_; rotate_left
  · intro u hu; obtain ⟨g1, g2, g3, g4⟩ := hu; go_simp; try with_reducible rfl
  try go_frame
  refine' tk 6 ?_ ?_; rotate_left
  · intro u hu; obtain ⟨g1, g2, g3, g4⟩ := hu; go_simp; try with_reducible rfl
  try go_frame
  refine' tk 7 ?_ ?_; rotate_left
  · intro u hu; obtain ⟨g1, g2, g3, g4⟩ := hu; go_simp; try with_reducible rfl
  try go_frame
  refine' tk 8 ?_ ?_; rotate_left
  · intro u hu; obtain ⟨g1, g2, g3, g4⟩ := hu; go_simp; try with_reducible rfl
  try go_frame
  cases p1 with
  | false =>
    refine' tk 9 ?_ ?_; rotate_left
    · intro u hu; obtain ⟨g1, g2, g3, g4⟩ := hu; go_simp; try with_reducible rfl
    try go_frame
    refine tn 10 ?_
    try go_frame
    refine tn 11 ?_
    try go_frame
    refine tn 12 ?_
    try go_frame
    refine tn 13 ?_
    try go_frame
    refine tn 14 ?_
    try go_frame
    refine tn 15 ?_
    try go_frame
    refine tn 16 ?_
    try go_frame
    refine tn 17 ?_
    try go_frame
    refine tn 18 ?_
    try go_frame
    refine' tk 19 ?_ ?_; rotate_left
    · intro u hu; obtain ⟨g1, g2, g3, g4⟩ := hu; go_simp; try with_reducible rfl
    try go_frame
    refine tz ?_
    have HE : Hid (okU c v = false ∧ Below u.heap.size u wd) := ⟨by rw [Hok.out]; rfl, bd⟩
    clear Hok HF hHeld bd
    go_wp2_with fail
    go_ret
    exact ⟨_, HE.out.2, .inl ⟨HE.out.1, rfl, rfl⟩⟩
  | true =>
    refine' tk 9 ?_ ?_; rotate_left
    · intro u hu; obtain ⟨g1, g2, g3, g4⟩ := hu; go_simp; try with_reducible rfl
    try go_frame
    refine' tk 10 ?_ ?_; rotate_left
    · intro u hu; obtain ⟨g1, g2, g3, g4⟩ := hu; go_simp; try with_reducible rfl
    try go_frame
    refine' tk 11 ?_ ?_; rotate_left
    · intro u hu; obtain ⟨g1, g2, g3, g4⟩ := hu; go_simp; try with_reducible rfl
    try go_frame
    refine' tk 12 ?_ ?_; rotate_left
    · intro u hu; obtain ⟨g1, g2, g3, g4⟩ := hu; go_simp; try with_reducible rfl
    try go_frame
    refine' tk 13 ?_ ?_; rotate_left
    · intro u hu; obtain ⟨g1, g2, g3, g4⟩ := hu; go_simp; try with_reducible rfl
    try go_frame
    refine' tk 14 ?_ ?_; rotate_left
    · intro u hu; obtain ⟨g1, g2, g3, g4⟩ := hu; go_simp; try with_reducible rfl
    try go_frame
    refine' tk 15 ?_ ?_; rotate_left
    · intro u hu; obtain ⟨g1, g2, g3, g4⟩ := hu; go_simp; try with_reducible rfl
    try go_frame
    refine' tk 16 ?_ ?_; rotate_left
    · intro u hu; obtain ⟨g1, g2, g3, g4⟩ := hu; go_simp; try with_reducible rfl
    try go_frame
    refine' tk 17 ?_ ?_; rotate_left
    · intro u hu; obtain ⟨g1, g2, g3, g4⟩ := hu; go_simp; try with_reducible rfl
    try go_frame
    refine' tk 18 ?_ ?_; rotate_left
    · intro u hu; obtain ⟨g1, g2, g3, g4⟩ := hu; go_simp; try with_reducible rfl
    try go_frame
    cases p2 with
    | false =>
      refine' tk 19 ?_ ?_; rotate_left
      · intro u hu; obtain ⟨g1, g2, g3, g4⟩ := hu; go_simp; try with_reducible rfl
      try go_frame
      refine tz ?_
      have HE : Hid (okU c v = false ∧ Below u.heap.size u wd) := ⟨by rw [Hok.out]; rfl, bd⟩
      clear Hok HF hHeld bd
      go_wp2_with fail
      go_ret
      exact ⟨_, HE.out.2, .inl ⟨HE.out.1, rfl, rfl⟩⟩
    | true =>
      refine' tk 19 ?_ ?_; rotate_left
      · intro u hu; obtain ⟨g1, g2, g3, g4⟩ := hu; go_simp; try with_reducible rfl
      try go_frame
      refine tz ?_
      have HE : Hid (okU c v = true ∧ Below u.heap.size u wd) := ⟨by rw [Hok.out]; rfl, bd⟩
      obtain ⟨g1, g2, g3, g4, g5, g6, g7, g8⟩ := HF.out _ bd
      have k4 : (wd.setCell ⟨Bc, oc + 3, none⟩ (.string ⟨#[]⟩)).cell? ⟨Bv, ov + 4, none⟩ = some (.string (vCl v)) := (World.cell?_setCell_far _ _ _ _ hne).trans g4
      have k6 : (wd.setCell ⟨Bc, oc + 3, none⟩ (.string ⟨#[]⟩)).frozen? ⟨Bv, ov + 4, none⟩ = false := by rw [World.frozen?_setCell]; exact g6
      have k8 : Bv < (wd.setCell ⟨Bc, oc + 3, none⟩ (.string ⟨#[]⟩)).heap.size := by simpa using g8
      clear Hok HF hHeld bd
      go_wp2_with fail
      go_ret
      exact ⟨wd, HE.out.2, .inr ⟨HE.out.1, rfl, rfl⟩⟩
end Go.Proofs.YtmnldngojgldiaaGreat
namespace Go.Proofs.YtmnldngojgldiaaGreat
open Go.RowKit Go.Shelf Go.Maps
set_option linter.unusedSimpArgs false
set_option maxRecDepth 100000
attribute [local go_sem] Oper.semAt_some

/-- What has come when k rounds are over. -/
def down10 (L : List PickS) (n k : Nat) : List (Nat × PickS) := (List.range k).map (fun j => (n - 1 - j, L.getD (n - 1 - j) pk0))
theorem down10_succ (L : List PickS) (n k : Nat) : down10 L n (k + 1) = down10 L n k ++ [(n - 1 - k, L.getD (n - 1 - k) pk0)] := by simp [down10, List.range_succ]
theorem down10_len (L : List PickS) (n k : Nat) : (down10 L n k).length = k := by simp [down10]
set_option maxHeartbeats 4000000 in
theorem back1_in (F : Fence) (n : Nat) (h8 : F.fn 45) (hro : F.round = none) (hn : 1 ≤ n) (l Bs n₀ : Nat) (a : Option Addr) (len cap : Nat) (L : List PickS) (J Jx : List (Nat × PickS) → World → Prop)
    (hY : ∀ pre x W, J pre W → pre.length < len → YieldAt F (n - 1) Tryz.prog l (encP x) W fun e W' =>
      (e = .returned (.bool true) ∧ J (pre ++ [x]) W' ∧ Below n₀ W W') ∨ (e = .returned (.bool false) ∧ Jx (pre ++ [x]) W'))
    (W : World) (hn₀ : n₀ ≤ W.heap.size) (hBs0 : Bs < n₀) (hBs : W.cell? ⟨Bs, 0, none⟩ = some (.slice a len cap)) (hL : SlAt RLabel 2 32 (fun b => b < n₀) W a len cap (L.map Subtype.val)) (h0 : J [] W) :
    CallsIn F n Tryz.prog 45 #[.func (.yield l) #[] #[], .pointer (some ⟨Bs, 0, none⟩)] W fun e W' => (∃ v, e = .returned v) ∧
      ((∃ ys, ys = down10 L len len ∧ J ys W') ∨ (∃ pre, (∃ k, k ≤ len ∧ pre = down10 L len k) ∧ Jx pre W')) := by
  have hlen := hL.len (by decide)
  have hll : len ≤ 140737488355328 := by have := hL.2.2.2.1; omega
  refine callsIn_of_wp Tryz.func45 rfl h8 ?_ hro
  simp only [Tryz.ntmps45, List.size_toArray, List.length_cons, List.length_nil, Nat.reduceAdd, Nat.reduceSub, Array.replicate_succ, Array.replicate_zero, List.push_toArray, List.append_toArray, List.nil_append, List.cons_append]
  gi_wp2
  gi_loopw [3] (fun i wr => ∃ k : Nat, k ≤ len ∧ i = .int .i64 ((len : Int) - 1 - k) ∧ J (down10 L len k) wr ∧ Below n₀ W wr ∧ W.heap.size ≤ wr.heap.size)
    (fun i _ => (intOf i + 1).toNat)
  case atStart => exact ⟨0, Nat.zero_le _, by simp, h0, Below.refl _ _, Nat.le_refl _⟩
  case round =>
    obtain ⟨k, hk, rfl, hJs, hnx, hsw⟩ := hrel
    have hbx : wr.cell? ⟨Bs, 0, none⟩ = some (.slice a len cap) := (hnx.cell (p := ⟨Bs, 0, none⟩) hBs0).trans hBs
    by_cases hlt : k < len
    · have HU : Hid (down10 L len (k + 1) = down10 L len k ++ [(len - 1 - k, L.getD (len - 1 - k) pk0)]) := down10_succ L len k
      obtain ⟨m, hm⟩ : ∃ m, m = len - 1 - k := ⟨_, rfl⟩
      have hml : m < len := by omega
      have hmi : (len : Int) - 1 - k = (m : Int) := by omega
      have HM : Hid (∀ x : Value, x = .int .i64 ((m : Int) - 1) → x = .int .i64 ((len : Int) - 1 - (k + 1 : Nat))) := fun x e => by rw [e]; congr 1; omega
      rw [hmi]
      rw [← hm] at HU
      clear hm hmi
      obtain ⟨B, off, rfl, hB, hBn, cs, hr, hv⟩ := hL.get hml
      rw [getD_val L (by have := hL.1; rw [List.length_map] at this; omega)] at hr
      have e2 := hr.two10
      subst e2
      have d0 : wr.cell? ⟨B, off + m * 2, none⟩ = some (.string (L.getD m pk0).1.1) := (hnx.cell (p := ⟨B, off + m * 2, none⟩) hBn).trans (hv 0 _ rfl)
      have d1 : wr.cell? ⟨B, off + m * 2 + 1, none⟩ = some (.string (L.getD m pk0).1.2) := (hnx.cell (p := ⟨B, off + m * 2 + 1, none⟩) hBn).trans (hv 1 _ rfl)
      generalize L.getD m pk0 = x at d0 d1 HU
      have hBw : B < wr.heap.size := by omega
      obtain ⟨fn, tmps, assign, body, hy, hR⟩ := hY _ (m, x) _ hJs (by rw [down10_len]; exact hlt)
      have hwn : n₀ ≤ wr.heap.size := Nat.le_trans hn₀ hsw
      have hm0 : decide (0 ≤ (m : Int)) = true := by simp
      gi_wp2
      refine hR.mono ?_
      rintro e W3 (⟨rfl, hJ3, hk3⟩ | ⟨rfl, hJx3⟩)
      · gi_wp2
        go_roundw
        case rel => exact ⟨k + 1, by omega, HM.out _ (by simp), by rw [HU.out]; exact hJ3, hnx.trans hk3, Nat.le_trans hsw hk3.size⟩
        case measure => simp [intOf]
      · gi_wp2
        refine bodyPost_ret (results_none rfl _ _ _) rfl ?_
        exact ⟨⟨_, rfl⟩, .inr ⟨_, ⟨k + 1, by omega, HU.out.symm⟩, hJx3⟩⟩
    · obtain rfl : k = len := by omega
      have hmi : (k : Int) - 1 - k = -1 := by omega
      rw [hmi]
      gi_wp2
      go_end0
      exact ⟨⟨_, rfl⟩, .inl ⟨_, rfl, hJs⟩⟩
set_option maxHeartbeats 1000000 in
/-- slices.Backward(picks): the list is boxed; the function value captures the box. -/
theorem back_in (F : Fence) (n : Nat) (h5 : F.fn 22) (hro : F.round = none) (a : Option Addr) (len cap : Nat) (w : World) :
    CallsIn F n Tryz.prog 22 #[.slice a len cap] w fun e w' => e = .returned (.func (.func 45) #[] #[.pointer (some ⟨w.heap.size, 0, none⟩)]) ∧ w' = w.alloc (.cells #[.slice a len cap] 30) := by
  refine callsIn_of_wp Tryz.func22 rfl h5 ?_ hro
  simp only [Tryz.ntmps22, List.size_toArray, List.length_cons, List.length_nil, Nat.reduceAdd, Nat.reduceSub, Array.replicate_succ, Array.replicate_zero, List.push_toArray, List.append_toArray, List.nil_append, List.cons_append]
  gi_wp2
  go_ret
  exact ⟨rfl, rfl⟩
/-- It gives each pick, the last one first; or a beginning of them. -/
theorem back_stops (F : Fence) (n : Nat) (h8 : F.fn 45) (hro : F.round = none) (hn : 1 ≤ n) (Bs n₀ : Nat) (a : Option Addr) (len cap : Nat) (L : List PickS) (w : World) (hBs : Bs < n₀) (hn₀ : n₀ ≤ w.heap.size)
    (hc : w.cell? ⟨Bs, 0, none⟩ = some (.slice a len cap)) (hL : SlAt RLabel 2 32 (fun b => b < n₀) w a len cap (L.map Subtype.val)) :
    SeqStopsK F n Tryz.prog 45 #[.pointer (some ⟨Bs, 0, none⟩)] encP (Below n₀) (fun ys => ys = down10 L len len) (fun pre => ∃ k, k ≤ len ∧ pre = down10 L len k) len w := fun l J Jx W hW _ _ hY h0 => by
  have hc' := (hW.cell (p := ⟨Bs, 0, none⟩) (Nat.lt_of_lt_of_le hBs hn₀)).trans hc
  exact back1_in F n h8 hro hn l Bs n₀ a len cap L J Jx hY W (Nat.le_trans hn₀ hW.size) hBs hc' (hL.on RLabel.firm hW) h0
theorem down10_rev (L : List PickS) (k : Nat) (hk : k ≤ L.length) : (down10 L L.length k).map (fun x => x.2.1) = (L.map Subtype.val).reverse.take k := by
  apply List.ext_getElem?
  intro j
  unfold down10
  rw [List.map_map, List.getElem?_map, List.getElem?_take]
  by_cases hj : j < k
  · have h1 : j < L.length := by omega
    have h2 : L.length - 1 - j < L.length := by omega
    simp [hj, h1, h2, List.getElem?_reverse]
  · simp [hj]
end Go.Proofs.YtmnldngojgldiaaGreat
namespace Go.Proofs.YtmnldngojgldiaaGreat
open Go.RowKit Go.Shelf Go.Maps
set_option linter.unusedSimpArgs false
set_option maxRecDepth 100000

theorem down_all (L : List PickS) : (down10 L L.length L.length).map (fun x => x.2.1) = (L.map Subtype.val).reverse := by
  rw [down10_rev L _ (Nat.le_refl _)]; exact List.take_of_length_le (by simp)
set_option maxHeartbeats 16000000 in
theorem pUndo_calls (cs : List Value) (x : StateD) (a : Option Addr) (n c : Nat) (L : List PickD) (w : World) (h : Hid (RState (fun _ => True) w cs x)) (hL : Hid (SlAt RLabel 2 32 (fun _ => True) w a n c L)) :
    Calls Tryz.prog 9 #[.agg cs.toArray, .slice a n c] w (ApOut (undoP (sVs x, sCs x) L) w x) := by
  obtain ⟨⟨a0, n0, m0⟩, ⟨a1, n1, m1⟩, ⟨a2, n2, m2⟩, ⟨a3, n3, m3⟩, ⟨a4, n4, m4⟩, ⟨a5, n5, m5⟩, rfl, _⟩ := h.out.out
  simp only at h
  obtain ⟨L, rfl⟩ := picks_S hL.out
  have hlen : Hid (L.length = n) := by have := hL.out.1; rwa [List.length_map] at this
  obtain ⟨W1, hW1⟩ : ∃ W, W = (w.alloc (.cells #[.slice a0 n0 m0, .slice a1 n1 m1, .slice a2 n2 m2, .slice a3 n3 m3, .slice a4 n4 m4, .slice a5 n5 m5] 29)).alloc (.cells #[.slice none 0 0, .slice none 0 0, .slice none 0 0, .slice none 0 0, .slice none 0 0, .slice none 0 0] 29) := ⟨_, rfl⟩
  have B1 : Below w.heap.size w W1 := by rw [hW1]; go_grown
  have hz1 : W1.heap.size = w.heap.size + 1 + 1 := by rw [hW1]; simp
  have q1 : BoxL W1 w.heap.size [.slice a0 n0 m0, .slice a1 n1 m1, .slice a2 n2 m2, .slice a3 n3 m3, .slice a4 n4 m4, .slice a5 n5 m5] := by rw [hW1]; exact (BoxL.new w 29 _).on ((Below.refl _ _).alloc (Nat.le_refl _) _)
  have q2 : BoxL W1 (w.heap.size + 1) Z6 := by rw [hW1]; have := BoxL.new (w.alloc (.cells #[.slice a0 n0 m0, .slice a1 n1 m1, .slice a2 n2 m2, .slice a3 n3 m3, .slice a4 n4 m4, .slice a5 n5 m5] 29)) 29 [.slice none 0 0, .slice none 0 0, .slice none 0 0, .slice none 0 0, .slice none 0 0, .slice none 0 0]; simpa using this
  have HQ : Hid (∀ z, Kept (fun b => b = w.heap.size) W1 z → z.cell? ⟨w.heap.size, 0, none⟩ = some (.slice a0 n0 m0) ∧ z.cell? ⟨w.heap.size, 1, none⟩ = some (.slice a1 n1 m1) ∧ z.cell? ⟨w.heap.size, 2, none⟩ = some (.slice a2 n2 m2) ∧ z.cell? ⟨w.heap.size, 3, none⟩ = some (.slice a3 n3 m3) ∧ z.cell? ⟨w.heap.size, 4, none⟩ = some (.slice a4 n4 m4) ∧ z.cell? ⟨w.heap.size, 5, none⟩ = some (.slice a5 n5 m5)) := fun z hb => ⟨((q1.kept hb rfl).2 0 _ rfl).1, ((q1.kept hb rfl).2 1 _ rfl).1, ((q1.kept hb rfl).2 2 _ rfl).1, ((q1.kept hb rfl).2 3 _ rfl).1, ((q1.kept hb rfl).2 4 _ rfl).1, ((q1.kept hb rfl).2 5 _ rfl).1⟩
  have HS : Hid (∀ z, Below W1.heap.size W1 z → RState (fun b => b < w.heap.size) z [.slice a0 n0 m0, .slice a1 n1 m1, .slice a2 n2 m2, .slice a3 n3 m3, .slice a4 n4 m4, .slice a5 n5 m5] x ∧ SlAt RLabel 2 32 (fun b => b < w.heap.size) z a n c (L.map Subtype.val) ∧ BoxL z (w.heap.size + 1) Z6) := fun z hz => ⟨RState.firm.kept (RState.firm.weak h.out (A' := fun b => b < w.heap.size) (fun b hb _ => hb)) (Kept.below (on2 B1 hz)), (hL.out.weak RLabel.firm (fun b hb _ => hb)).on RLabel.firm (on2 B1 hz), q2.on hz⟩
  have HB1 : Hid (Below w.heap.size w W1) := B1
  clear h hL q1 q2 B1
  go_enter Tryz.func9, Tryz.ntmps9
  go_upto_region 1 with fail
  rw [← hW1]
  clear hW1
  refine t0 (fun z => Kept (fun b => b = w.heap.size) W1 z) (Kept.drew _ _) (fun hHeld => ?_)
  have hb0 : Below W1.heap.size W1 W1.drew := (Below.refl _ _).drew
  generalize hwd : W1.drew = wd at hHeld hb0 ⊢
  clear hwd
  try go_frame
  refine' tk 0 ?_ ?_; rotate_left
  · intro u hu; obtain ⟨f0, f1, f2, f3, f4, f5⟩ := HQ.out u hu; clear hu; go_simp; try with_reducible rfl
  try go_frame
  refine' tk 1 ?_ ?_; rotate_left
  · intro u hu; obtain ⟨f0, f1, f2, f3, f4, f5⟩ := HQ.out u hu; clear hu; go_simp; try with_reducible rfl
  try go_frame
  have hC := (callsIn_wide (n := 9)).1 (back_in Fence.wide 9 trivial rfl a n c wd)
  refine tr 2 (fun K hK => ?_)
  go_simp
  refine hC.mono ?_
  rintro e u1 ⟨rfl, hu1⟩
  clear hC
  have d1 : Below wd.heap.size wd u1 := by rw [hu1]; exact (Below.refl _ _).alloc (Nat.le_refl _) _
  have hb1 : Below W1.heap.size W1 u1 := on2 hb0 d1
  have qb : BoxL u1 wd.heap.size [.slice a n c] := by rw [hu1]; exact BoxL.new wd _ _
  have hwl : w.heap.size ≤ wd.heap.size := Nat.le_trans (by omega) hb0.size
  clear hu1
  go_wp2_with fail
  refine hK.out _ _ (Kept.below hb1) (fun hHeld2 => ?_)
  clear hK K hHeld; have hHeld := hHeld2; clear hHeld2
  try go_frame
  obtain ⟨s1, s2, s3⟩ := HS.out u1 hb1
  have hlw : w.heap.size ≤ u1.heap.size := Nat.le_trans hwl d1.size
  have hC := done_calls 45 23 #[.pointer (some ⟨wd.heap.size, 0, none⟩)] okU (fun _ _ => B0) (fun _ _ => B0) (fun ys => ys = down10 L n n) (fun pre => ∃ k, k ≤ n ∧ pre = down10 L n k) n w.heap.size [.slice a0 n0 m0, .slice a1 n1 m1, .slice a2 n2 m2, .slice a3 n3 m3, .slice a4 n4 m4, .slice a5 n5 m5] x u1 hlw s1 (enters_of Tryz.func45 (by kernel_rfl) rfl) (enters_of Tryz.func23 (by kernel_rfl) rfl)
    (fun W hW => back_stops Fence.wide 8 trivial rfl (by decide) wd.heap.size u1.heap.size a n c L W qb.1 hW.size ((qb.on hW).2 0 _ rfl).1 ((s2.weak RLabel.firm (fun b hb _ => hb)).on RLabel.firm hW)) (fun Bc oc Bv ov cs A c vs A' v u h1 h2 h3 h4 h5 h6 h7 h8 h9 => takeBack_calls Bc oc Bv ov cs A c vs A' v u h1 h2 h3 h4 h5 h6 h7 h8 h9) (fun c v h1 h2 => ⟨by simp [ByteArray.size], by simp [ByteArray.size]⟩)
  refine tr 3 (fun K hK => ?_)
  go_simp
  refine hC.mono ?_
  rintro e u2 hz
  clear hC
  rw [show stepD okU (fun _ _ => B0) (fun _ _ => B0) = stepU from rfl] at hz
  --M2
  rcases hz with ⟨ys, st, g0, g1, g2, g3, g4, g5, rfl, hr, rfl, hd⟩ | ⟨ys, k, ⟨j, hj, rfl⟩, hr, rfl, hk, hd⟩
  · have bu2 : Below u1.heap.size u1 u2 := hd.2.2
    have bw2 : Below w.heap.size w u2 := on2 (on2 HB1.out hb1) bu2
    have zb := s3.on bu2
    obtain ⟨b0, k0, c0, rfl⟩ := hd.2.1.1.head
    obtain ⟨b1, k1, c1, rfl⟩ := hd.2.1.2.1.head
    obtain ⟨b2, k2, c2, rfl⟩ := hd.1.1.head
    obtain ⟨b3, k3, c3, rfl⟩ := hd.1.2.1.head
    obtain ⟨b4, k4, c4, rfl⟩ := hd.2.1.2.2.1.head
    obtain ⟨b5, k5, c5, rfl⟩ := hd.2.1.2.2.2.head
    have HR : Hid (undoP (sVs x, sCs x) (L.map Subtype.val) = .ok st) := by have h8 := hr; rw [← hlen.out, down_all, runD_undo] at h8; exact h8
    clear hr
    go_wp2_with fail
    refine hK.out _ _ ((Kept.below hb1).trans (Kept.weak (A := fun b => b < u1.heap.size) (Kept.below bu2) (fun b hb => by have h8 : b = w.heap.size := hb; have h9 := qb.1; show b < u1.heap.size; omega))) (fun hHeld2 => ?_)
    clear hK K hHeld; have hHeld := hHeld2; clear hHeld2
    try go_frame
    refine' tk 4 ?_ ?_; rotate_left
    · intro u hu; clear hu; go_simp; try with_reducible rfl
    try go_frame
    refine' tk 5 ?_ ?_; rotate_left
    · intro u hu; clear hu; go_simp; try with_reducible rfl
    try go_frame
    obtain ⟨U, hU⟩ : ∃ U, U = u2.setCells (w.heap.size + 1) 0 [.slice b0 k0 c0, .slice b1 k1 c1, .slice b2 k2 c2, .slice b3 k3 c3, .slice b4 k4 c4, .slice b5 k5 c5] := ⟨_, rfl⟩
    refine ts 6 (fun K hK => ?_)
    refine want_yes (by rfl) (wp_store_mid 29 _ _ rfl (w.heap.size + 1) 0 #[.slice b0 k0 c0, .slice b1 k1 c1, .slice b2 k2 c2, .slice b3 k3 c3, .slice b4 k4 c4, .slice b5 k5 c5] rfl rfl zb.there infoSta (by simp [Value.oneCell']) ?_)
    have kU : Kept (fun b => b ≠ w.heap.size + 1) u2 U := by rw [hU]; exact kept_setCells (fun h => h rfl)
    have bU : Below w.heap.size w U := by rw [hU]; exact below_setCells bw2 (by omega)
    have qU : BoxL U (w.heap.size + 1) [.slice b0 k0 c0, .slice b1 k1 c1, .slice b2 k2 c2, .slice b3 k3 c3, .slice b4 k4 c4, .slice b5 k5 c5] := by rw [hU]; exact box_over8 zb rfl
    have eU : U = u2.setCells (w.heap.size + 1) 0 (#[.slice b0 k0 c0, .slice b1 k1 c1, .slice b2 k2 c2, .slice b3 k3 c3, .slice b4 k4 c4, .slice b5 k5 c5] : Array Value).toList := by rw [hU]
    have HE : Hid (DnS w.heap.size w U (.slice b0 k0 c0) (.slice b1 k1 c1) (.slice b2 k2 c2) (.slice b3 k3 c3) (.slice b4 k4 c4) (.slice b5 k5 c5) x st) := hd.rebase (on2 HB1.out hb1) (Nat.le_refl _) bU (kU.weak (fun b hb => by have := hb1.size; rcases hb with hb | hb <;> omega))
    rw [← eU]
    refine hK.out _ _ (((Kept.below hb1).trans (Kept.weak (A := fun b => b < u1.heap.size) (Kept.below bu2) (fun b hb => by have h8 : b = w.heap.size := hb; have h9 := qb.1; show b < u1.heap.size; omega))).trans (kU.weak (fun b hb => by have h8 : b = w.heap.size := hb; show b ≠ w.heap.size + 1; omega))) (fun hHeld2 => ?_)
    clear hK K hHeld; have hHeld := hHeld2; clear hHeld2
    try go_frame
    refine' tk 7 ?_ ?_; rotate_left
    · intro u hu; clear hu; go_simp; try with_reducible rfl
    try go_frame
    refine tz ?_
    have t0' := (qU.2 0 _ rfl).1
    have t1' := (qU.2 1 _ rfl).1
    have t2' := (qU.2 2 _ rfl).1
    have t3' := (qU.2 3 _ rfl).1
    have t4' := (qU.2 4 _ rfl).1
    have t5' := (qU.2 5 _ rfl).1
    clear hU eU kU bU qU zb bw2
    go_wp2_with fail
    clear hd bu2
    refine bodyPost_ret (v := .tuple #[.agg #[.slice b0 k0 c0, .slice b1 k1 c1, .slice b2 k2 c2, .slice b3 k3 c3, .slice b4 k4 c4, .slice b5 k5 c5], .int .i64 0]) (by simp [results, Tryz.results9, go_sem, t0', t1', t2', t3', t4', t5', Result.andThen]) rfl ?_
    exact .inl ⟨st, _, _, _, _, _, _, HR.out, rfl, HE.out⟩
  · have bu2 : Below u1.heap.size u1 u2 := hd
    have bw2 : Below w.heap.size w u2 := on2 (on2 HB1.out hb1) bu2
    have zb := s3.on bu2
    have HR : Hid (undoP (sVs x, sCs x) (L.map Subtype.val) = .error k) := by have h8 := hr; have hj8 := hj; rw [← hlen.out] at hj8 h8; rw [down10_rev L j hj8] at h8; have h9 := runD_take h8; rw [runD_undo] at h9; exact h9
    clear hr hj
    go_wp2_with fail
    refine hK.out _ _ ((Kept.below hb1).trans (Kept.weak (A := fun b => b < u1.heap.size) (Kept.below bu2) (fun b hb => by have h8 : b = w.heap.size := hb; have h9 := qb.1; show b < u1.heap.size; omega))) (fun hHeld2 => ?_)
    clear hK K hHeld; have hHeld := hHeld2; clear hHeld2
    try go_frame
    refine' tk 4 ?_ ?_; rotate_left
    · intro u hu; clear hu; go_simp; try with_reducible rfl
    try go_frame
    refine' tk 5 ?_ ?_; rotate_left
    · intro u hu; clear hu; go_simp; try with_reducible rfl
    try go_frame
    obtain ⟨U, hU⟩ : ∃ U, U = u2.setCells (w.heap.size + 1) 0 [.slice none 0 0, .slice none 0 0, .slice none 0 0, .slice none 0 0, .slice none 0 0, .slice none 0 0] := ⟨_, rfl⟩
    refine ts 6 (fun K hK => ?_)
    refine want_yes (by rfl) (wp_store_mid 29 _ _ rfl (w.heap.size + 1) 0 #[.slice none 0 0, .slice none 0 0, .slice none 0 0, .slice none 0 0, .slice none 0 0, .slice none 0 0] rfl rfl zb.there infoSta (by simp [Value.oneCell']) ?_)
    have kU : Kept (fun b => b ≠ w.heap.size + 1) u2 U := by rw [hU]; exact kept_setCells (fun h => h rfl)
    have bU : Below w.heap.size w U := by rw [hU]; exact below_setCells bw2 (by omega)
    have qU : BoxL U (w.heap.size + 1) [.slice none 0 0, .slice none 0 0, .slice none 0 0, .slice none 0 0, .slice none 0 0, .slice none 0 0] := by rw [hU]; exact box_over8 zb rfl
    have eU : U = u2.setCells (w.heap.size + 1) 0 (#[.slice none 0 0, .slice none 0 0, .slice none 0 0, .slice none 0 0, .slice none 0 0, .slice none 0 0] : Array Value).toList := by rw [hU]
    have HE : Hid (Below w.heap.size w U) := bU
    rw [← eU]
    refine hK.out _ _ (((Kept.below hb1).trans (Kept.weak (A := fun b => b < u1.heap.size) (Kept.below bu2) (fun b hb => by have h8 : b = w.heap.size := hb; have h9 := qb.1; show b < u1.heap.size; omega))).trans (kU.weak (fun b hb => by have h8 : b = w.heap.size := hb; show b ≠ w.heap.size + 1; omega))) (fun hHeld2 => ?_)
    clear hK K hHeld; have hHeld := hHeld2; clear hHeld2
    try go_frame
    refine' tk 7 ?_ ?_; rotate_left
    · intro u hu; clear hu; go_simp; try with_reducible rfl
    try go_frame
    refine tz ?_
    have t0' := (qU.2 0 _ rfl).1
    have t1' := (qU.2 1 _ rfl).1
    have t2' := (qU.2 2 _ rfl).1
    have t3' := (qU.2 3 _ rfl).1
    have t4' := (qU.2 4 _ rfl).1
    have t5' := (qU.2 5 _ rfl).1
    clear hU eU kU bU qU zb bw2
    go_wp2_with fail
    clear hd bu2
    refine bodyPost_ret (v := .tuple #[.agg #[.slice none 0 0, .slice none 0 0, .slice none 0 0, .slice none 0 0, .slice none 0 0, .slice none 0 0], .int .i64 k]) (by simp [results, Tryz.results9, go_sem, t0', t1', t2', t3', t4', t5', Result.andThen]) rfl ?_
    exact .inr ⟨k, HR.out, rfl, hk, HE.out⟩
end Go.Proofs.YtmnldngojgldiaaGreat
namespace Go.Proofs.YtmnldngojgldiaaGreat
open Go.RowKit
set_option linter.unusedSimpArgs false

set_option maxHeartbeats 4000000 in
theorem SameReqs_calls (a : Option Addr) (n cap : Nat) (A : Where) (L : List (Ask)) (b : Option Addr) (m capb : Nat) (A' : Where) (M : List (Ask)) (w : World) (hA : Hid (SlAt RReq 3 48 A w a n cap L)) (hB : Hid (SlAt RReq 3 48 A' w b m capb M)) : Calls Tryz.prog 41 #[.slice a n cap, .slice b m capb] w fun e w' => e = .returned (.bool (decide (L = M))) ∧ ∃ q, w' = w.drewN q := by
  have hn : Hid (L.length = n) := hA.out.1
  have hm : Hid (M.length = m) := hB.out.1
  have hlen := hA.out.len (by decide)
  by_cases hnm : n = m
  case neg =>
    have HF : Hid (decide (L = M) = false) := same_len (by rw [hn.out, hm.out]; exact hnm)
    have hne : ((n : Int) != (m : Int)) = true := by rw [bne_iff_ne]; omega
    go_enter Tryz.func41, Tryz.ntmps41
    go_wp2
    go_ret
    exact ⟨retB HF.out.symm, 0, rfl⟩
  subst hnm
  have hne : ((n : Int) != (n : Int)) = false := by simp
  go_enter Tryz.func41, Tryz.ntmps41
  go_wp2
  go_loopw [5] (fun i wr => ∃ k : Nat, k ≤ n ∧ i = .int .i64 k ∧ Hid (∃ q, wr = w.drewN q) ∧ Hid (∀ j, j < k → L.getD j default = M.getD j default)) (fun i _ => n - (intOf i).toNat)
  case atStart => exact ⟨0, Nat.zero_le _, rfl, ⟨0, rfl⟩, fun j hj => absurd hj (Nat.not_lt_zero _)⟩
  case round =>
    obtain ⟨k, hk, rfl, hwr, hall⟩ := hrel
    have hbel : Below w.heap.size w wr := by obtain ⟨q, rfl⟩ := hwr.out; exact below_drewN (Below.refl _ _) _
    have hback : Hid (∀ q, ∃ q', wr.drewN q = w.drewN q') := by obtain ⟨q0, rfl⟩ := hwr.out; exact fun q => ⟨_, World.drewN_drewN _ _ _⟩
    by_cases hlt : k < n
    · have hltz : (k : Int) < (n : Int) := by omega
      obtain ⟨B, off, rfl, hBl, _, cs, hra, hva⟩ := (hA.out.on RReq.firm hbel).get hlt
      obtain ⟨B', off', rfl, hBl', _, cs', hrb, hvb⟩ := (hB.out.on RReq.firm hbel).get hlt
      obtain ⟨ha, rfl, _, hTa⟩ := hra.out
      obtain ⟨hb, rfl, _, hTb⟩ := hrb.out
      have d0 := hva 0 _ rfl
      have g0 := hvb 0 _ rfl
      have d1 := hva 1 _ rfl
      have g1 := hvb 1 _ rfl
      have d2 := hva 2 _ rfl
      have g2 := hvb 2 _ rfl
      rw [Nat.add_zero] at d0 g0
      have HG : Hid (decide (L.getD k default = M.getD k default) = true → ∀ j, j < k + 1 → L.getD j default = M.getD j default) := fun h j hj => by
        rcases Nat.lt_succ_iff_lt_or_eq.1 hj with h' | rfl
        · exact hall.out j h'
        · exact of_decide_eq_true h
      have HF : Hid (decide (L.getD k default = M.getD k default) = false → decide (L = M) = false) := fun h => same_no (of_decide_eq_false h)
      clear hall hva hvb
      have HM0 : Hid (∀ m, Calls Tryz.prog 44 #[.slice ha.1 ha.2.1 ha.2.2, .slice hb.1 hb.2.1 hb.2.2] (wr.drewN m) fun e w' => e = .returned (.bool (decide ((L.getD k default).2.2 = (M.getD k default).2.2))) ∧ ∃ q, w' = (wr.drewN m).drewN q) := fun m => SameTexts_calls _ _ _ A _ _ _ _ A' _ _ (hTa.on RStr.firm (below_drewN (Below.refl _ _) _)) (hTb.on RStr.firm (below_drewN (Below.refl _ _) _))
      clear hTa hTb
      have HE := ask_eq (L.getD k default) (M.getD k default)
      generalize L.getD k default = x at d0 d1 d2 HE HG HF HM0
      generalize M.getD k default = y at g0 g1 g2 HE HG HF HM0
      obtain ⟨r, hr⟩ : ∃ r, decide (x.2.2 = y.2.2) = r := ⟨_, rfl⟩
      rw [hr] at HE
      have HM : Hid (∀ m, Calls Tryz.prog 44 #[.slice ha.1 ha.2.1 ha.2.2, .slice hb.1 hb.2.1 hb.2.2] (wr.drewN m) fun e w' => e = .returned (.bool r) ∧ ∃ q, w' = (wr.drewN m).drewN q) := by rw [← hr]; exact HM0
      clear HM0 hr
      obtain ⟨p, hp⟩ : ∃ p : Bool, (sEq x.1 y.1) = p := ⟨_, rfl⟩
      rw [hp] at HE
      have kp : (!(x.1.toList == y.1.toList)) = !p := by rw [← hp]; rfl
      clear hp
      obtain ⟨q, hq⟩ : ∃ q : Bool, (x.2.1 == y.2.1) = q := ⟨_, rfl⟩
      rw [hq] at HE
      have kq : (x.2.1 != y.2.1) = !q := by rw [← hq]; rfl
      clear hq
      cases p
      · have HX : Hid (decide (x = y) = false) := HE.trans rfl
        have HF2 : Hid (decide (L = M) = false) := HF.out HX.out
        clear HG HF HX HE
        simp only [Bool.not_true, Bool.not_false] at kp kq
        go_wp2_with fail
        go_quiet ((go_at_call 44; exact Calls.quiet_of (HM.out _)))
        go_wp2_with fail
        go_ret
        exact ⟨retB HF2.out.symm, hback.out _⟩
      · skip
        cases q
        · have HX : Hid (decide (x = y) = false) := HE.trans rfl
          have HF2 : Hid (decide (L = M) = false) := HF.out HX.out
          clear HG HF HX HE
          simp only [Bool.not_true, Bool.not_false] at kp kq
          go_wp2_with fail
          go_quiet ((go_at_call 44; exact Calls.quiet_of (HM.out _)))
          go_wp2_with fail
          go_ret
          exact ⟨retB HF2.out.symm, hback.out _⟩
        · skip
          cases r
          · have HX : Hid (decide (x = y) = false) := HE.trans rfl
            have HF2 : Hid (decide (L = M) = false) := HF.out HX.out
            clear HG HF HX HE
            simp only [Bool.not_true, Bool.not_false] at kp kq
            go_wp2_with fail
            go_quiet ((go_at_call 44; exact Calls.quiet_of (HM.out _)))
            go_wp2_with fail
            go_ret
            exact ⟨retB HF2.out.symm, hback.out _⟩
          · have HX : Hid (decide (x = y) = true) := HE.trans rfl
            have HG2 : Hid (∀ j, j < k + 1 → L.getD j default = M.getD j default) := HG.out HX.out
            clear HG HF HX HE
            simp only [Bool.not_true, Bool.not_false] at kp kq
            go_wp2_with fail
            go_quiet ((go_at_call 44; exact Calls.quiet_of (HM.out _)))
            go_wp2_with fail
            go_roundw
            case rel => exact ⟨k + 1, by omega, by go_num, hback.out _, HG2⟩
            case measure => simp [intOf]; omega
    · have HT : Hid (decide (L = M) = true) := same_yes (by rw [hn.out, hm.out]) (fun j hj => hall.out j (by rw [hn.out] at hj; omega))
      clear hall
      go_wp2
      go_ret
      exact ⟨retB HT.out.symm, hwr.out⟩

set_option maxHeartbeats 4000000 in
theorem sameTerms_calls (a : Option Addr) (n cap : Nat) (A : Where) (L : List (TermD)) (b : Option Addr) (m capb : Nat) (A' : Where) (M : List (TermD)) (w : World) (hA : Hid (SlAt RTerm 2 40 A w a n cap L)) (hB : Hid (SlAt RTerm 2 40 A' w b m capb M)) : Calls Tryz.prog 43 #[.slice a n cap, .slice b m capb] w fun e w' => e = .returned (.bool (decide (L = M))) ∧ ∃ q, w' = w.drewN q := by
  have hn : Hid (L.length = n) := hA.out.1
  have hm : Hid (M.length = m) := hB.out.1
  have hlen := hA.out.len (by decide)
  by_cases hnm : n = m
  case neg =>
    have HF : Hid (decide (L = M) = false) := same_len (by rw [hn.out, hm.out]; exact hnm)
    have hne : ((n : Int) != (m : Int)) = true := by rw [bne_iff_ne]; omega
    go_enter Tryz.func43, Tryz.ntmps43
    go_wp2
    go_ret
    exact ⟨retB HF.out.symm, 0, rfl⟩
  subst hnm
  have hne : ((n : Int) != (n : Int)) = false := by simp
  go_enter Tryz.func43, Tryz.ntmps43
  go_wp2
  go_loopw [5] (fun i wr => ∃ k : Nat, k ≤ n ∧ i = .int .i64 k ∧ Hid (∃ q, wr = w.drewN q) ∧ Hid (∀ j, j < k → L.getD j default = M.getD j default)) (fun i _ => n - (intOf i).toNat)
  case atStart => exact ⟨0, Nat.zero_le _, rfl, ⟨0, rfl⟩, fun j hj => absurd hj (Nat.not_lt_zero _)⟩
  case round =>
    obtain ⟨k, hk, rfl, hwr, hall⟩ := hrel
    have hbel : Below w.heap.size w wr := by obtain ⟨q, rfl⟩ := hwr.out; exact below_drewN (Below.refl _ _) _
    have hback : Hid (∀ q, ∃ q', wr.drewN q = w.drewN q') := by obtain ⟨q0, rfl⟩ := hwr.out; exact fun q => ⟨_, World.drewN_drewN _ _ _⟩
    by_cases hlt : k < n
    · have hltz : (k : Int) < (n : Int) := by omega
      obtain ⟨B, off, rfl, hBl, _, cs, hra, hva⟩ := (hA.out.on RTerm.firm hbel).get hlt
      obtain ⟨B', off', rfl, hBl', _, cs', hrb, hvb⟩ := (hB.out.on RTerm.firm hbel).get hlt
      obtain ⟨ha, rfl, hTa, _⟩ := hra.out
      obtain ⟨hb, rfl, hTb, _⟩ := hrb.out
      have d0 := hva 0 _ rfl
      have g0 := hvb 0 _ rfl
      have d1 := hva 1 _ rfl
      have g1 := hvb 1 _ rfl
      rw [Nat.add_zero] at d0 g0
      have HG : Hid (decide (L.getD k default = M.getD k default) = true → ∀ j, j < k + 1 → L.getD j default = M.getD j default) := fun h j hj => by
        rcases Nat.lt_succ_iff_lt_or_eq.1 hj with h' | rfl
        · exact hall.out j h'
        · exact of_decide_eq_true h
      have HF : Hid (decide (L.getD k default = M.getD k default) = false → decide (L = M) = false) := fun h => same_no (of_decide_eq_false h)
      clear hall hva hvb
      have HM0 : Hid (∀ m, Calls Tryz.prog 41 #[.slice ha.1 ha.2.1 ha.2.2, .slice hb.1 hb.2.1 hb.2.2] (wr.drewN m) fun e w' => e = .returned (.bool (decide ((L.getD k default).1 = (M.getD k default).1))) ∧ ∃ q, w' = (wr.drewN m).drewN q) := fun m => SameReqs_calls _ _ _ A _ _ _ _ A' _ _ (hTa.on RReq.firm (below_drewN (Below.refl _ _) _)) (hTb.on RReq.firm (below_drewN (Below.refl _ _) _))
      clear hTa hTb
      have HE := term_eq (L.getD k default) (M.getD k default)
      generalize L.getD k default = x at d0 d1 HE HG HF HM0
      generalize M.getD k default = y at g0 g1 HE HG HF HM0
      obtain ⟨r, hr⟩ : ∃ r, decide (x.1 = y.1) = r := ⟨_, rfl⟩
      rw [hr] at HE
      have HM : Hid (∀ m, Calls Tryz.prog 41 #[.slice ha.1 ha.2.1 ha.2.2, .slice hb.1 hb.2.1 hb.2.2] (wr.drewN m) fun e w' => e = .returned (.bool r) ∧ ∃ q, w' = (wr.drewN m).drewN q) := by rw [← hr]; exact HM0
      clear HM0 hr
      obtain ⟨p, hp⟩ : ∃ p : Bool, (sEq x.2 y.2) = p := ⟨_, rfl⟩
      rw [hp] at HE
      have kp : (!(x.2.toList == y.2.toList)) = !p := by rw [← hp]; rfl
      clear hp
      cases p
      · have HX : Hid (decide (x = y) = false) := HE.trans rfl
        have HF2 : Hid (decide (L = M) = false) := HF.out HX.out
        clear HG HF HX HE
        simp only [Bool.not_true, Bool.not_false] at kp
        go_wp2_with fail
        go_quiet ((go_at_call 41; exact Calls.quiet_of (HM.out _)))
        go_wp2_with fail
        go_ret
        exact ⟨retB HF2.out.symm, hback.out _⟩
      · skip
        cases r
        · have HX : Hid (decide (x = y) = false) := HE.trans rfl
          have HF2 : Hid (decide (L = M) = false) := HF.out HX.out
          clear HG HF HX HE
          simp only [Bool.not_true, Bool.not_false] at kp
          go_wp2_with fail
          go_quiet ((go_at_call 41; exact Calls.quiet_of (HM.out _)))
          go_wp2_with fail
          go_ret
          exact ⟨retB HF2.out.symm, hback.out _⟩
        · have HX : Hid (decide (x = y) = true) := HE.trans rfl
          have HG2 : Hid (∀ j, j < k + 1 → L.getD j default = M.getD j default) := HG.out HX.out
          clear HG HF HX HE
          simp only [Bool.not_true, Bool.not_false] at kp
          go_wp2_with fail
          go_quiet ((go_at_call 41; exact Calls.quiet_of (HM.out _)))
          go_wp2_with fail
          go_roundw
          case rel => exact ⟨k + 1, by omega, by go_num, hback.out _, HG2⟩
          case measure => simp [intOf]; omega
    · have HT : Hid (decide (L = M) = true) := same_yes (by rw [hn.out, hm.out]) (fun j hj => hall.out j (by rw [hn.out] at hj; omega))
      clear hall
      go_wp2
      go_ret
      exact ⟨retB HT.out.symm, hwr.out⟩
end Go.Proofs.YtmnldngojgldiaaGreat
