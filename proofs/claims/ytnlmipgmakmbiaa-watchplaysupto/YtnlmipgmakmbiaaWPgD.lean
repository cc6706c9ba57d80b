/- The program's watcher: Next. Condition: the watcher and the log lie as is said of them. -/
import Derived.RangeFuncBox
import Derived.Maps.AppendAt
import Derived.Test.YtnlmipgmakmbiaaWPgC
namespace Go.Proofs.Ytnlmipgmakmbiaa
open Go.RowKit Go.Shelf
set_option linter.unusedSimpArgs false
set_option maxRecDepth 100000
attribute [local go_sem] Oper.semAt_some

/-- The cells of changes, one behind the other. -/
def flatC : List Ch → List Value
  | [] => []
  | x :: L => chC x.1 x.2 ++ flatC L
theorem flat_len : ∀ L : List Ch, (flatC L).length = L.length * 42
  | [] => rfl
  | x :: L => by rw [flatC, List.length_append, flat_len L, show (chC x.1 x.2).length = 42 from rfl, List.length_cons]; omega
theorem flat_snoc : ∀ (L : List Ch) (x : Ch), flatC (L ++ [x]) = flatC L ++ chC x.1 x.2
  | [], x => by simp [flatC]
  | y :: L, x => by rw [List.cons_append, flatC, flat_snoc L x, flatC, List.append_assoc]
theorem flat_at : ∀ (L : List Ch) (i j : Nat), i < L.length → j < 42 → (flatC L)[i * 42 + j]? = (chC (L.getD i default).1 (L.getD i default).2)[j]?
  | [], _, _, h, _ => absurd h (Nat.not_lt_zero _)
  | x :: L, 0, j, _, hj => by
    rw [flatC, List.getElem?_append_left (by show 0 * 42 + j < 42; omega), Nat.zero_mul, Nat.zero_add]; rfl
  | x :: L, i + 1, j, h, hj => by
    rw [flatC, List.getElem?_append_right (by show 42 ≤ _; omega)]
    show (flatC L)[(i + 1) * 42 + j - 42]? = _
    rw [show (i + 1) * 42 + j - 42 = i * 42 + j by omega, flat_at L i j (by simpa using h) hj]
    rfl
theorem flat_one (x : Ch) : ∀ y ∈ chC x.1 x.2, y.oneCell' = true := (RCh.firm.one (A := fun _ => True) (w := default) (cs := chC x.1 x.2) (x := x) rfl)
/-- A list of one's own, as a slice. -/
theorem owns_sl13 {W : World} {base : Nat} {v : Value} {L : List Ch} (h : W.ownsRow base 76 42 v L.length (flatC L)) (hb : L.length * 640 ≤ 140737488351232) : ∃ a cap, v = .slice a L.length cap ∧ SlAt RCh 42 640 (fun b => base ≤ b) W a L.length cap L ∧ (0 < L.length → ∃ g, a = some ⟨g, 0, none⟩) := by
  obtain ⟨hl, ⟨rfl, h0⟩ | ⟨g, cap, cur, rfl, hBg, hg, hcp, hcm, hsz, htk⟩⟩ := h
  · exact ⟨none, 0, by rw [h0], ⟨rfl, by omega, fun _ => rfl, hb, fun h => absurd h (by omega)⟩, fun h => absurd h (by omega)⟩
  · refine ⟨some ⟨g, 0, none⟩, cap, rfl, ⟨rfl, hcp, (fun e => by cases e), hb, fun _ => ⟨g, 0, rfl, (Array.getElem?_eq_some_iff.1 hg).1, hBg, fun i hi => ⟨_, rfl, fun j y hj => ?_⟩⟩⟩, fun _ => ⟨g, rfl⟩⟩
    have hj42 : j < 42 := (List.getElem?_eq_some_iff.1 hj).1
    have h1 := flat_at L i j hi hj42
    rw [hj, ← htk, List.getElem?_take] at h1
    split at h1
    · rw [Array.getElem?_toList] at h1
      simp only [World.cell?, hg, Nat.zero_add]
      exact h1
    · cases h1
theorem rest_part {k v : Int} {L : List Ch} {j q : Nat} {pre : List Ch} {x : Ch} (h : pre ++ [x] = restW k v (L.take j)) (hq : pre.length = q) : (restW k v L).take q = pre := by
  have e : restW k v L = restW k v (L.take j) ++ restW k v (L.drop j) := by unfold restW; rw [← List.filter_append, List.take_append_drop]
  rw [e, ← h, ← hq, List.append_assoc, List.take_left]
/-- What has come lies in a list of the call's own. -/
structure NxI (u wc : World) (q : Nat) (pre : List Ch) (W : World) : Prop where
  row : ∃ val, Boxed W (u.heap.size + 1) 28 val ∧ W.ownsRow wc.heap.size 76 42 val pre.length (flatC pre)
  num : BoxL W u.heap.size [.int .i64 (q : Int)]
  below : Below u.heap.size u W
  size : wc.heap.size ≤ W.heap.size
  le : pre.length ≤ q
theorem NxI.grown {u wc W W' : World} {q : Nat} {pre : List Ch} {row : Option Nat} (h : NxI u wc q pre W) (hu : u.heap.size + 2 ≤ wc.heap.size) (hg : W.grownBy W' row) (hr : ∀ r, row = some r → wc.heap.size ≤ r ∧ ∃ o : Obj, W.heap[r]? = some o ∧ o.isCells = false) : NxI u wc q pre W' := by
  obtain ⟨val, hv, ho⟩ := h.row
  refine ⟨⟨val, hv.kept hg (fun e => ?_), ho.kept hg ?_⟩, h.num.kept (A := fun b => b < wc.heap.size) (Kept.grown hg (fun k e hk => by have := (hr k e).1; omega)) (by omega), h.below.grown hg h.below.size (fun k e => by have := (hr k e).1; omega), Nat.le_trans h.size hg.size, h.le⟩
  · have := (hr _ e.symm).1; omega
  · rcases ho.2 with ⟨rfl, _⟩ | ⟨g, cap, cur, rfl, _, hgb, _⟩
    · exact .inl rfl
    · refine .inr fun e' => ?_
      obtain ⟨_, o, ho, hc⟩ := hr g (by simpa [Value.ownBlock] using e'.symm)
      rw [hgb] at ho; cases ho; cases hc
theorem NxI.on {u wc W W' : World} {q : Nat} {pre : List Ch} (h : NxI u wc q pre W) (hu : u.heap.size + 2 ≤ wc.heap.size) (hb : Below W.heap.size W W') : NxI u wc q pre W' := h.grown hu (grown_below13 hb) (fun r e => by cases e)
/-- 'next = append(next, x)'. -/
theorem appended13 {W w1 : World} {base B : Nat} {t e : TypeId} {size : Nat} {v v' : Value} {k m : Nat} {xs ys : List Value} {tmp : Obj} (hv : Boxed W B t v) (hBb : B < base) (hrow : W.ownsRow base e size v k xs) (hown' : w1.ownsRow base e size v' m ys) (hgrow : (W.alloc tmp).grownBy w1 v.ownBlock) :
    Boxed w1 B t v ∧ Boxed (w1.setCell ⟨B, 0, none⟩ v') B t v' ∧ (w1.setCell ⟨B, 0, none⟩ v').ownsRow base e size v' m ys ∧ KeepsOthers W (w1.setCell ⟨B, 0, none⟩ v') ∧ Kept (fun b => b < base ∧ b ≠ B) W (w1.setCell ⟨B, 0, none⟩ v') ∧ Below B W (w1.setCell ⟨B, 0, none⟩ v') := by
  have hlt : B < W.heap.size := hv.lt
  have hne : ∀ {x : Value} {n : Nat} {zs : List Value} {Z : World}, Z.ownsRow base e size x n zs → ∀ j, x.ownBlock = some j → base ≤ j := fun hr j ej => by
    rcases hr.2 with ⟨rfl, _⟩ | ⟨g, cap, cur, rfl, hb, _, _⟩
    · simp [Value.ownBlock] at ej
    · obtain rfl : g = j := by simpa [Value.ownBlock] using ej
      exact hb
  have hv1 : Boxed w1 B t v := (hv.alloc tmp).kept hgrow (fun e' => by have := hne hrow B e'.symm; omega)
  refine ⟨hv1, hv1.set v', hown'.kept (grownBy_setCell' w1 B v') (.inr (fun e' => by have := hne hown' B e'; omega)), ?_, ?_, ?_⟩
  · refine ((KeepsOthers.alloc W tmp).trans (KeepsOthers.of_grownBy hgrow fun j o ej hj => ?_)).trans (KeepsOthers.setCell _ _ _)
    rcases (hrow.alloc tmp).2 with ⟨rfl, _⟩ | ⟨g, cap, cur, rfl, _, hgb, _⟩
    · simp [Value.ownBlock] at ej
    · obtain rfl : g = j := by simpa [Value.ownBlock] using ej
      rw [hgb] at hj; cases hj; rfl
  · exact ((Kept.alloc _ W tmp).trans (Kept.grown hgrow (fun j ej hj => by have := hne hrow j ej; omega))).trans (Kept.set (p := ⟨B, 0, none⟩) (fun h => h.2 rfl) _)
  · exact (((Below.refl B W).alloc (by omega) tmp).grown hgrow (by simp; omega) (fun j ej => by have := hne hrow j ej; omega)).setCell (p := ⟨B, 0, none⟩) (Nat.le_refl _) v'
set_option maxHeartbeats 8000000 in
theorem pNext_calls (p : Nat) (At : List Int) (Off : List Bool) (k n : Int) (a : Option Addr) (m cap : Nat) (A : Where) (L : List Ch) (u : World) (h : PWt u p At Off) (hL : SlAt RCh 42 640 A u a m cap L) : Calls Try.prog 13 #[.pointer (some ⟨p, 0, none⟩), .int .i64 k, .int .i64 n, .slice a m cap] u fun e u' => ∃ a' n' c', e = .returned (.tuple #[.slice a' n' c', .int .i64 (nextP At Off k n L).2.1]) ∧ SlAt RCh 42 640 (Fresh u) u' a' n' c' (nextP At Off k n L).1 ∧ PWt u' p (nextP At Off k n L).2.2 Off ∧ u'.os = u.os ∧ u'.tape = u.tape ∧ u'.output = u.output ∧ Kept (fun b => b ≠ p) u u' := by
  obtain ⟨W0, hW0⟩ : ∃ W, W = u.alloc (.cells #[.int .i64 n] 3) := ⟨_, rfl⟩
  have b0 : Below u.heap.size u W0 := by rw [hW0]; exact (Below.refl _ _).alloc (Nat.le_refl _) _
  have s0 : Hid (W0.heap.size = u.heap.size + 1) := by rw [hW0, Hid, World.size_alloc]
  have q0 : Hid (BoxL W0 u.heap.size [.int .i64 n]) := by rw [hW0]; exact BoxL.new u _ _
  have HW0 : Hid (u.alloc (.cells #[.int .i64 n] 3) = W0) := hW0.symm
  have hC := of_calls13 p W0 k (h.on b0).mark
  have Hh : Hid (PWt W0 p At Off) := h.on b0
  have Hb0 : Hid (Below u.heap.size u W0) := b0
  have HL : Hid (SlAt RCh 42 640 A u a m cap L) := hL
  have Hu : Hid (PWt u p At Off) := h
  have n0 := (q0.out.2 0 _ rfl).1
  have Hnil : ∀ (z : World), Hid (SlAt RCh 42 640 (Fresh u) z none 0 0 []) := fun u => ⟨rfl, Nat.le_refl _, fun _ => rfl, by omega, fun h => absurd h (Nat.lt_irrefl _)⟩
  clear hW0 b0 h hL
  cases hk : knB k with
  | false =>
    have HR : Hid (nextP At Off k n L = ([], 2, At)) := by rw [Hid]; unfold nextP; rw [hk]; rfl
    rw [hk] at hC
    go_enter Try.func13, Try.ntmps13
    go_upto_region 1 with fail
    rw [HW0.out]
    go_wp2_with fail
    refine hC.mono ?_
    rintro e u1 ⟨rfl, rfl⟩
    clear hC
    go_wp2_with fail
    go_ret2
    exact ⟨none, 0, 0, by rw [HR.out]; rfl, by rw [HR.out]; exact (Hnil _).out, by rw [HR.out]; exact Hh.out, Hb0.out.os, Hb0.out.tape, Hb0.out.output, Kept.below Hb0.out⟩
  | true =>
  rw [hk] at hC
  obtain ⟨k1, k2⟩ := kn_iff.1 hk
  obtain ⟨i, rfl⟩ : ∃ i : Nat, k = (i : Int) := ⟨k.toNat, by omega⟩
  have hi : i < 7 := by omega
  simp only [if_true, Int.toNat_natCast] at hC
  by_cases hn : n < 0
  · have HR : Hid (nextP At Off (i : Int) n L = ([], 2, At)) := by rw [Hid]; unfold nextP; rw [hk, decide_eq_true hn]; rfl
    go_enter Try.func13, Try.ntmps13
    go_upto_region 1 with fail
    rw [HW0.out]
    go_wp2_with fail
    refine hC.mono ?_
    rintro e u1 ⟨rfl, rfl⟩
    clear hC
    go_wp2_with fail
    go_ret2
    exact ⟨none, 0, 0, by rw [HR.out]; rfl, by rw [HR.out]; exact (Hnil _).out, by rw [HR.out]; exact Hh.out, Hb0.out.os, Hb0.out.tape, Hb0.out.output, Kept.below Hb0.out⟩
  obtain ⟨q, rfl⟩ : ∃ q : Nat, n = (q : Int) := ⟨n.toNat, by omega⟩
  obtain ⟨g0, _⟩ := Hh.out.gone hi
  generalize hb : Off.getD i default = b at g0
  cases b with
  | true =>
    have HR : Hid (nextP At Off (i : Int) (q : Int) L = ([], 130, At)) := by rw [Hid]; unfold nextP; rw [hk, decide_eq_false hn, Int.toNat_natCast, hb]; rfl
    go_enter Try.func13, Try.ntmps13
    go_upto_region 1 with fail
    rw [HW0.out]
    go_wp2_with fail
    refine hC.mono ?_
    rintro e u1 ⟨rfl, rfl⟩
    clear hC
    go_wp2_with fail
    go_ret2
    exact ⟨none, 0, 0, by rw [HR.out]; rfl, by rw [HR.out]; exact (Hnil _).out, by rw [HR.out]; exact Hh.out, Hb0.out.os, Hb0.out.tape, Hb0.out.output, Kept.below Hb0.out⟩
  | false =>
    obtain ⟨v, hv⟩ : ∃ v, v = At.getD i default := ⟨_, rfl⟩
    have HR : Hid (nextP At Off (i : Int) (q : Int) L = ((restW (i : Int) v L).take q, 0, if 0 < ((restW (i : Int) v L).take q).length then At.set i (lastV v ((restW (i : Int) v L).take q)) else At)) := by
      rw [Hid]; unfold nextP; rw [hk, decide_eq_false hn, Int.toNat_natCast, Int.toNat_natCast, hb, hv]; rfl
    obtain ⟨W1, hW1⟩ : ∃ W, W = W0.alloc (.cells #[.slice none 0 0] 28) := ⟨_, rfl⟩
    have b1 : Below W0.heap.size W0 W1 := by rw [hW1]; exact (Below.refl _ _).alloc (Nat.le_refl _) _
    have s1 : Hid (W1.heap.size = u.heap.size + 1 + 1) := by rw [hW1, Hid, World.size_alloc, s0.out]
    have q1 : Hid (Boxed W1 (u.heap.size + 1) 28 (.slice none 0 0)) := by rw [hW1, ← s0.out]; exact Boxed.new W0 _ _
    have d0 : W1.cell? ⟨p, 1 + i * 2, none⟩ = some (.int .i64 v) := by rw [hv]; exact ((Hh.out.on b1).seen hi).1
    have HW1 : Hid (W0.alloc (.cells #[.slice none 0 0] 28) = W1) := hW1.symm
    have Hb1 : Hid (Below W0.heap.size W0 W1) := b1
    have hC2 := come_calls (i : Int) v W1
    rw [s1.out] at hC2
    have Hs0 : Hid (u.heap.size + 1 = W0.heap.size) := s0.out.symm
    clear hv hW1 b1 hb
    refine (callsIn_wide (n := 9)).1 ?_
    refine callsIn_of_wp_marks Try.func13 rfl trivial ?_
    refine (wpIn_wide (n := 9)).2 ?_
    simp only [Try.ntmps13, List.size_toArray, List.length_cons, List.length_nil, Nat.reduceAdd, Nat.reduceSub, Array.replicate_succ, Array.replicate_zero, List.push_toArray, List.append_toArray, List.nil_append, List.cons_append]
    go_upto_region 1 with fail
    rw [HW0.out]
    go_wp2_with fail
    refine hC.mono ?_
    rintro e u1 ⟨rfl, rfl⟩
    clear hC
    go_upto_region 9 with fail
    --M0
    rw [HW1.out, ← Hs0.out]
    go_wp2_with fail
    --M1
    refine hC2.mono ?_
    rintro e w2 ⟨rfl, hw2⟩
    have Hw2 : Hid (w2 = (W1.alloc (.cells #[.int .i64 (i : Int)] 3)).alloc (.cells #[.int .i64 v] 3)) := hw2
    have s2 : w2.heap.size = u.heap.size + 1 + 1 + 2 := by rw [hw2, World.size_alloc, World.size_alloc, s1.out]
    have hC3 := sift_calls a m cap _ w2 #[.pointer (some ⟨u.heap.size + 1 + 1, 0, none⟩), .pointer (some ⟨u.heap.size + 1 + 1 + 1, 0, none⟩)] rfl
    rw [s2] at hC3
    clear hC2 hw2 s2
    go_wp2_with fail
    --M2
    refine hC3.mono ?_
    rintro e wc ⟨rfl, hwc⟩
    clear hC3
    have hIt : Hid (ItAt W1 (u.heap.size + 1 + 1) a m cap (i : Int) v wc) := by
      have h9 := ItAt.new W1 a m cap (i : Int) v 3 3 28 91
      rw [s1.out] at h9
      rw [hwc, Hw2.out]; exact h9
    clear Hw2 hwc
    go_wp2_with fail
    --M3
    have hws : wc.heap.size = u.heap.size + 1 + 1 + 4 := hIt.out.s
    have hb2 : Below W1.heap.size W1 wc := by have h9 := hIt.out.b; rw [← s1.out] at h9; exact h9
    have hbc : Below u.heap.size u wc := on2 Hb0.out (on2 Hb1.out hb2)
    have hI0 : NxI u wc q [] wc := ⟨⟨_, (hb2.block _ (by rw [s1.out]; omega)).trans q1.out, ⟨rfl, .inl ⟨rfl, rfl⟩⟩⟩, (q0.out.on (on2 Hb1.out hb2)), hbc, Nat.le_refl _, Nat.zero_le _⟩
    have hsq := sift_stops 8 (by decide) (u.heap.size + 1 + 1 + 2) (u.heap.size + 1 + 1 + 2 + 1) (u.heap.size + 1 + 1) (u.heap.size + 1 + 1 + 1) (fun b => b < wc.heap.size ∧ b ≠ u.heap.size + 1) a m cap L (i : Int) v wc hIt.out.l hIt.out.f hIt.out.k hIt.out.v (by omega) ⟨⟨by omega, by omega⟩, by omega⟩ ⟨⟨by omega, by omega⟩, by omega⟩ ⟨⟨by omega, by omega⟩, by omega⟩ ((HL.out.weak RCh.firm (fun b hb _ => (⟨by omega, by omega⟩ : b < wc.heap.size ∧ b ≠ u.heap.size + 1))).on RCh.firm hbc)
    have Hws : Hid (wc.heap.size = u.heap.size + 1 + 1 + 4) := hws
    have Hml : Hid (m * 640 ≤ 140737488351232) := HL.out.2.2.2.1
    have HLl : Hid ((restW (i : Int) v L).length ≤ m) := by have h1 := rest_take_le (i : Int) v L L.length; rw [List.take_length, HL.out.1] at h1; exact h1
    have hu2 : u.heap.size + 2 ≤ wc.heap.size := by omega
    clear hws hIt s1 q1 Hb1 HW1 HL d0 hb2 s0 q0 HW0 Hs0 Hh n0 Hnil g0 hn Hb0
    refine (wpIn_wide (n := 9)).1 ?_
    refine wpIn_rangeFunc_ownH rfl (by decide) (gf := 31) (lb := #[.pointer (some ⟨u.heap.size + 1 + 1 + 2, 0, none⟩), .pointer (some ⟨u.heap.size + 1 + 1 + 2 + 1, 0, none⟩)]) rfl trivial (enters_of Try.func31 (by kernel_rfl) rfl) hsq Kept.trans (keptK_b13 (fun b hb => hb.1)) (Below.refl _ _) (fun _ => rfl)
      (fun pre W => NxI u wc q pre W)
      (fun c s W => c = .exit 1 ∧ ∃ pre x, s = pre ++ [x] ∧ pre.length = q ∧ NxI u wc q pre W) ?own ?ownx hI0
      (fun x a' W => ∃ D, wc.heap.size ≤ D ∧ BoxL W D (chC x.1 x.2) ∧ a' = { tmps := #[.pointer (some ⟨p, 0, none⟩), .int .i64 (i : Int), .int .i64 (q : Int), .slice a m cap, undef, undef, .pointer (some ⟨u.heap.size, 0, none⟩), undef, .slice none 0 0, .int .i64 0, .pointer (some ⟨p, 1 + i * 2, none⟩), .int .i64 0, .pointer (some ⟨u.heap.size + 1, 0, none⟩), .pointer (some ⟨D, 0, none⟩), .tuple #[.pointer (some ⟨p, 1 + i * 2, none⟩), .int .i64 0], .pointer (some ⟨p, 0, none⟩), .int .i64 (i : Int), .tuple #[.pointer (some ⟨p, 1 + i * 2, none⟩), .int .i64 0], .pointer (some ⟨p, 1 + i * 2, none⟩), .int .i64 0, .bool false, .int .i64 0, .bool false, undef, .bool (decide ((q : Int) < 0)), .int .i64 (q : Int), .bool (decide ((q : Int) < 0)), .bool false, .pointer (some ⟨p, 1 + i * 2, none⟩), .pointer (some ⟨p, 1 + i * 2, none⟩), .pointer (some ⟨p, 1 + i * 2 + 1, none⟩), .bool false, .slice a m cap, .int .i64 (i : Int), .pointer (some ⟨p, 1 + i * 2, none⟩), .pointer (some ⟨p, 1 + i * 2, none⟩), .pointer (some ⟨p, 1 + i * 2, none⟩), .int .i64 v, .func (.func 32) #[] #[.pointer (some ⟨u.heap.size + 1 + 1, 0, none⟩), .pointer (some ⟨u.heap.size + 1 + 1 + 1, 0, none⟩)], .func (.func 31) #[] #[.pointer (some ⟨u.heap.size + 1 + 1 + 2, 0, none⟩), .pointer (some ⟨u.heap.size + 1 + 1 + 2 + 1, 0, none⟩)], .agg (chC x.1 x.2).toArray, undef, undef, undef, undef, undef, undef, undef, undef, undef, undef, undef, undef, undef, undef, undef, undef, undef, undef, undef, undef, undef, undef, undef], defers := [] })
      ?ax ?assign ?body ?done ?stop
    case own => rintro pre W W' row h hg hr; exact h.grown hu2 hg hr
    case ownx =>
      rintro c s W W' row ⟨hc, pre, x, h1, h2, h3⟩ hg hr
      exact ⟨hc, pre, x, h1, h2, h3.grown hu2 hg hr⟩
    case ax =>
      rintro x a' _ W W' row ⟨D, h1, h2, h3⟩ hg hr
      refine ⟨D, h1, h2.kept (A := fun b => b = D) (Kept.grown hg (fun k e hk => ?_)) rfl, h3⟩
      obtain ⟨_, o, ho, hc⟩ := hr k e
      have hk : k = D := hk
      subst hk
      have h4 := (h2.2 0 _ rfl).1
      cases o with
      | cells c t f => cases hc
      | _ => simp [World.cell?, ho] at h4
    case assign =>
      rintro l pre x W K hI hK
      have HI2 : Hid ((Try.prog.info? 76).map (·.size) = some (chC x.1 x.2).toArray.size) := sizeCh
      have HZ3 : Hid ((W.alloc (.cells chZ.toArray 76)).there W.heap.size 0 (chC x.1 x.2).toArray.size) := (BoxL.new W 76 chZ).there
      obtain ⟨W3, hW3⟩ : ∃ Z, Z = (W.alloc (.cells chZ.toArray 76)).setCells W.heap.size 0 (chC x.1 x.2) := ⟨_, rfl⟩
      have B3 : Below W.heap.size W W3 := by rw [hW3]; exact below_setCells ((Below.refl _ _).alloc (Nat.le_refl _) _) (Nat.le_refl _)
      have hBx : BoxL W3 W.heap.size (chC x.1 x.2) := by
        have h2 := World.rangeAt_setCells_same _ W.heap.size 0 (chC x.1 x.2) HZ3.out
        have h3 := World.there_setCells HZ3.out W.heap.size 0 (chC x.1 x.2)
        rw [← hW3] at h2 h3
        have hs : W.heap.size < W3.heap.size := by rw [hW3]; exact Nat.lt_of_lt_of_le (by simp) (kept_setCells (A := fun _ => False) (b := W.heap.size) (fun h => h) (vs := chC x.1 x.2) (o := 0)).1
        exact ⟨hs, fun i v hi => ⟨by have := h2 i v hi; rwa [Nat.zero_add] at this, by have := (h3 i (List.getElem?_eq_some_iff.1 hi).1).2; rwa [Nat.zero_add] at this⟩⟩
      have HW3 : Hid ((W.alloc (.cells chZ.toArray 76)).setCells W.heap.size 0 (chC x.1 x.2).toArray.toList = W3) := hW3.symm
      have HG : Hid (KeepsFrom wc.heap.size W W3 ∧ Kept (fun b => b < wc.heap.size ∧ b ≠ u.heap.size + 1) W W3 ∧ NxI u wc q pre W3 ∧ wc.heap.size ≤ W.heap.size ∧ BoxL W3 W.heap.size (chC x.1 x.2)) := ⟨⟨B3.size, fun k _ _ ho _ => (B3.block k (Array.getElem?_eq_some_iff.1 ho).1).trans ho⟩, Kept.below B3, hI.on hu2 B3, hI.size, hBx⟩
      clear hW3 B3 hBx hI hsq
      --M4
      gi_wp2_with (first | (refine storeIn13 rfl 76 _ _ rfl W.heap.size 0 (chC x.1 x.2).toArray rfl rfl HZ3.out HI2.out (by simp [Value.oneCell']) ?_; refine wlin13 HW3.out ?_) | fail)
      --M5
      exact hK _ _ HG.out.1 HG.out.2.1 HG.out.2.2.1 ⟨W.heap.size, HG.out.2.2.2.1, HG.out.2.2.2.2, rfl⟩
    case body =>
      rintro l pre x a' W hl hrec hI ⟨D, hD, zD, rfl⟩ hlt
      obtain ⟨val, hbx, how⟩ := hI.row
      have hll : pre.length * 640 ≤ 140737488351232 := by have h1 := Hml.out; omega
      obtain ⟨aa, cc, rfl, hsl, hg0⟩ := owns_sl13 how hll
      have c12 := hbx.cell
      have c6 := (hI.num.2 0 _ rfl).1
      have HI : Hid (NxI u wc q pre W) := hI
      have hple : pre.length ≤ q := hI.le
      clear hI
      by_cases hq : pre.length = q
      · have hqz : (pre.length : Int) = (q : Int) := by omega
        have Hq : Hid (pre.length = q) := hq
        clear hq how hsl hg0 hbx zD hsq
        --M6
        gi_wp2
        --M7
        exact ⟨⟨Nat.le_refl _, fun k _ _ ho _ => ho⟩, rfl, pre, x, rfl, Hq.out, HI.out⟩
      · have hqz : ¬ ((pre.length : Int) = (q : Int)) := by omega
        have hplt : pre.length < q := by omega
        have HQ4 : Hid (W.rangeAt D 0 (chC x.1 x.2)) := zD.range
        have HIc : Hid ((Try.prog.info? 76).map (·.size) = some (chC x.1 x.2).length) := sizeCh
        have HNw : Hid (∀ j y, (chC x.1 x.2)[j]? = some y → (W.alloc (.cells (chC x.1 x.2).toArray 76)).cell? ((⟨W.heap.size, 0, none⟩ : Addr).add j) = some y) := fun j y hj => by rw [Addr.add_mid, Nat.zero_add]; exact ((BoxL.new W 76 (chC x.1 x.2)).2 j y hj).1
        obtain ⟨i0, hi0, hz0, hz1, hz2⟩ := info_parts infoCh
        have HRow : Hid (W.ownsRow wc.heap.size 76 42 (.slice aa pre.length cc) pre.length (flatC pre)) := how
        have HBx : Hid (Boxed W (u.heap.size + 1) 28 (.slice aa pre.length cc)) := hbx
        have Hsz : Hid (wc.heap.size ≤ W.heap.size) := HI.out.size
        have b9 : (pre.length + 1) * 640 ≤ 140737488355328 := by omega
        have b8 : pre.length + 1 ≤ maxLen := by unfold maxLen; omega
        clear hq how hsl hg0 hbx zD hsq
        --M8
        gi_wp2_with (first | (refine loadIn13 rfl 76 _ rfl D 0 rfl (chC x.1 x.2) _ HQ4.out Try.underlying76 rfl HIc.out ?_) | (gi_at_builtin; refine wpListIn_append_own _ rfl _ _ 28 rfl wc.heap.size 76 i0 _ 42 640 Try.underlying28 hi0 hz0 hz1 hz2 rfl (by decide) _ _ _ rfl (HRow.out.alloc _) ⟨W.heap.size, 0, none⟩ 1 1 (chC x.1 x.2) rfl rfl HNw.out (flat_one x) b8 b9 (by rw [World.size_alloc]; exact Nat.le_succ_of_le Hsz.out) ?_; intro v' w1 hown' hgrow _; obtain ⟨g', cap', rfl⟩ := ownsRow_succ hown'; obtain ⟨hv1, hv2, hr2, hk2, hk3, hb2⟩ := appended13 HBx.out (by omega) HRow.out hown' hgrow; have hc1 := hv1.cell; have hf1 := hv1.frozen) | fail)
        --M9
        have e9 : (pre ++ [x]).length = pre.length + 1 := by simp
        have hb3 : Below u.heap.size W _ := hb2.mono (by omega)
        exact ⟨hk2.from _, hk3, ⟨⟨_, hv2, by rw [e9, flat_snoc]; exact hr2⟩, HI.out.num.kept hk3 ⟨by omega, by omega⟩, HI.out.below.trans hb3, Nat.le_trans HI.out.size hk3.1, by rw [List.length_append, List.length_singleton]; omega⟩⟩
    case done =>
      rintro D ys W hD hS hI hK
      have HT : Hid ((restW (i : Int) v L).take q = ys ∧ ys.length ≤ m) := ⟨by have e : ys = restW (i : Int) v L := hS; rw [← e]; exact List.take_of_length_le hI.le, by have e : ys = restW (i : Int) v L := hS; rw [e]; exact HLl.out⟩
      --M10
      obtain ⟨l, hl⟩ : ∃ l, l = ys := ⟨_, rfl⟩
      rw [← hl] at hI HT
      clear hl
      have HIw : Hid (PWt W p At Off ∧ Below u.heap.size u W) := ⟨Hu.out.on hI.below, hI.below⟩
      obtain ⟨val, hbx, how⟩ := hI.row
      have hll : l.length * 640 ≤ 140737488351232 := by have h1 := Hml.out; have h2 : l.length ≤ m := HT.out.2; omega
      obtain ⟨aa, cc, rfl, hsl, hg0⟩ := owns_sl13 how hll
      have HRR : Hid (nextP At Off (i : Int) (q : Int) L = (l, 0, if 0 < l.length then At.set i (lastV v l) else At)) := by rw [Hid, HR.out, HT.out.1]
      have hpu : p < u.heap.size := Hu.out.box.1
      have HDf : Hid (W.heap[D]? = some (.deferred (some []))) := hK
      have hDs : D < W.heap.size := (Array.getElem?_eq_some_iff.1 hK).1
      have c12 := hbx.cell
      have Hc12 : Hid (Boxed W (u.heap.size + 1) 28 (.slice aa l.length cc)) := hbx
      have HSL : Hid (SlAt RCh 42 640 (fun b => wc.heap.size ≤ b) W aa l.length cc l) := hsl
      have hDu : u.heap.size < D := by have := Hws.out; omega
      have HEnd : Hid (∀ (W5 W6 : World) (v6 : Value), W5.heap.size = W.heap.size → Below u.heap.size u W ∧ W5.os = W.os ∧ W5.tape = W.tape ∧ W5.output = W.output ∧ Kept (fun b => b ≠ p) W W5 → PWt W5 p (if 0 < l.length then At.set i (lastV v l) else At) Off → Row RCh 42 (fun _ => False) W5 W6 76 v6 l → ∃ a6 c6, v6 = .slice a6 l.length c6 ∧ (Instr.takeDeferred D).run Try.prog W6 = .ok [] (W6.putObj D (.deferred none)) ∧ SlAt RCh 42 640 (Fresh u) (W6.putObj D (.deferred none)) a6 l.length c6 l ∧ PWt (W6.putObj D (.deferred none)) p (if 0 < l.length then At.set i (lastV v l) else At) Off ∧ (W6.putObj D (.deferred none)).os = u.os ∧ (W6.putObj D (.deferred none)).tape = u.tape ∧ (W6.putObj D (.deferred none)).output = u.output ∧ Kept (fun b => b ≠ p) u (W6.putObj D (.deferred none))) := by
        intro W5 W6 v6 hsz hbl hp hr
        have b6 : Below W5.heap.size W5 W6 := hr.below
        obtain ⟨a6, c6, rfl, s6⟩ := (hr.wA13 RCh.firm (A' := Fresh W5) (fun _ h => h.elim)).slF (bytes := 640) RCh.firm hll
        have kD : Kept (fun b => b ≠ D) W6 (W6.putObj D (.deferred none)) := Kept.grown (grownBy_putObj' W6 D _) (fun k e hk => hk (by cases e; rfl))
        have hD5 : W6.heap[D]? = some (.deferred (some [])) := (b6.block D (by omega)).trans ((hbl.2.2.2.2.2 D (by omega) hDs).trans HDf.out)
        have hW : u.heap.size ≤ W.heap.size := hbl.1.size
        refine ⟨a6, c6, rfl, run_takeDeferred hD5, (s6.kept RCh.firm (kD.weak (fun b (hb : W5.heap.size ≤ b) => by omega))).weak RCh.firm (fun b _ (hb : W5.heap.size ≤ b) => (show u.heap.size ≤ b by omega)), (hp.on b6).kept kD (by omega), b6.os.trans (hbl.2.1.trans hbl.1.os), b6.tape.trans (hbl.2.2.1.trans hbl.1.tape), b6.output.trans (hbl.2.2.2.1.trans hbl.1.output), ?_⟩
        have k6 : Kept (fun b => b ≠ p) u W6 := (Kept.below hbl.1).trans (hbl.2.2.2.2.trans (Kept.below b6))
        exact ⟨Nat.le_trans k6.1 kD.1, fun b hb hlt => (kD.2 b (by omega) (Nat.lt_of_lt_of_le hlt k6.1)).trans (k6.2 b hb hlt)⟩
      clear hI hbx how hK hsl
      by_cases h0 : 0 < l.length
      · obtain ⟨g, rfl⟩ := hg0 h0
        have h0z : (0 : Int) < (l.length : Int) := by omega
        obtain ⟨B, off, eB, hB, hBf, hc⟩ := HSL.out.2.2.2.2 h0
        obtain ⟨rfl, rfl⟩ : g = B ∧ 0 = off := by simpa using eB
        obtain ⟨cs, hr, hv⟩ := hc (l.length - 1) (by omega)
        obtain rfl : cs = chC (l.getD (l.length - 1) default).1 (l.getD (l.length - 1) default).2 := hr
        have x0 := hv 0 _ rfl
        rw [Nat.add_zero, Nat.zero_add] at x0
        have Hlast : Hid (lastV v l = (l.getD (l.length - 1) default).1) := last_at13 v h0
        generalize (l.getD (l.length - 1) default).1 = y at x0 Hlast
        obtain ⟨d0, d1⟩ := HIw.out.1.seen hi
        have hp5 := HIw.out.1.setA hi y
        obtain ⟨W5, hW5⟩ : ∃ Z, Z = W.setCell ⟨p, 1 + i * 2, none⟩ (.int .i64 y) := ⟨_, rfl⟩
        have k5 : Kept (fun b => b ≠ p) W W5 := by rw [hW5]; exact kept_p13 _
        have z5 : W5.heap.size = W.heap.size := by rw [hW5]; simp
        have c5 : W5.cell? ⟨u.heap.size + 1, 0, none⟩ = some (.slice (some ⟨g, 0, none⟩) l.length cc) := (k5.cell (p := ⟨u.heap.size + 1, 0, none⟩) (show u.heap.size + 1 ≠ p by omega) Hc12.out.lt).trans c12
        have hC6 := changes_calls _ _ _ _ l W5 (HSL.out.kept RCh.firm (k5.weak (fun b (hb : wc.heap.size ≤ b) => (show b ≠ p by omega))))
        have HW5 : Hid (W.setCell ⟨p, 1 + i * 2, none⟩ (.int .i64 y) = W5) := hW5.symm
        have HP5 : Hid (W5.heap.size = W.heap.size ∧ (Below u.heap.size u W ∧ W5.os = W.os ∧ W5.tape = W.tape ∧ W5.output = W.output ∧ Kept (fun b => b ≠ p) W W5) ∧ PWt W5 p (if 0 < l.length then At.set i (lastV v l) else At) Off) := ⟨z5, ⟨HIw.out.2, by rw [hW5]; rfl, by rw [hW5]; rfl, by rw [hW5]; rfl, k5⟩, by rw [if_pos h0, Hlast.out, hW5]; exact hp5⟩
        obtain ⟨t, ht⟩ : ∃ t, t = l.length := ⟨_, rfl⟩
        have Ht : Hid (t = l.length) := ht
        have t0 : 0 < t := by omega
        have t9 : t * 640 ≤ 140737488351232 := by rw [ht]; exact hll
        rw [← ht] at c12 c5 x0 h0z hC6
        clear hp5 hW5 k5 z5 hc hv hB hBf eB ht h0 hll Hc12 HSL HIw hg0
        have hwr : IntKind.i64.wrap ((t : Int) - 1) = ((t - 1 : Nat) : Int) := by
          have h9 : (t : Int) - 1 = ((t - 1 : Nat) : Int) := by omega
          rw [h9]
          have h8 : t - 1 < 140737488351232 := by omega
          generalize t - 1 = y at h8
          simp [IntKind.wrap, IntKind.bits, IntKind.signed]
          omega
        have htz : ((t - 1 : Nat) : Int) < (t : Int) := by omega
        have htz2 : t - 1 < t := by omega
        --T1
        go_upto_region 15 with fail
        rw [HW5.out]
        go_wp2_with fail
        --T2
        refine hC6.mono ?_
        rintro e W6 ⟨v6, rfl, hrow6⟩
        obtain ⟨a6, c6, rfl, hT6, hS6⟩ := HEnd.out W5 W6 v6 HP5.out.1 HP5.out.2.1 HP5.out.2.2 hrow6
        have HT6 : Hid ((Instr.takeDeferred D).run Try.prog W6 = .ok [] (W6.putObj D (.deferred none))) := hT6
        clear hC6 hrow6 hT6 HEnd HP5 HW5
        go_wp2_with fail
        --T3
        refine ⟨by simp, .inl ⟨D, _, rfl, HT6.out, ?_⟩⟩
        refine ⟨.tuple #[.slice a6 l.length c6, .int .i64 0], by simp [results, Try.results13, go_sem], ?_⟩
        exact ⟨_, _, _, by rw [HRR.out], by rw [HRR.out]; exact hS6.1, by rw [HRR.out]; exact hS6.2.1, hS6.2.2⟩
      · have h0z : ¬ ((0 : Int) < (l.length : Int)) := by omega
        have hC6 := changes_calls _ _ _ _ l W HSL.out
        have HP5 : Hid (W.heap.size = W.heap.size ∧ (Below u.heap.size u W ∧ W.os = W.os ∧ W.tape = W.tape ∧ W.output = W.output ∧ Kept (fun b => b ≠ p) W W) ∧ PWt W p (if 0 < l.length then At.set i (lastV v l) else At) Off) := ⟨rfl, ⟨HIw.out.2, rfl, rfl, rfl, Kept.refl _ _⟩, by rw [if_neg h0]; exact HIw.out.1⟩
        obtain ⟨t, ht⟩ : ∃ t, t = l.length := ⟨_, rfl⟩
        have t9 : t * 640 ≤ 140737488351232 := by rw [ht]; exact hll
        rw [← ht] at c12 h0z hC6
        clear ht h0 hll Hc12 HSL HIw hg0
        go_wp2_with fail
        --T4
        refine hC6.mono ?_
        rintro e W6 ⟨v6, rfl, hrow6⟩
        obtain ⟨a6, c6, rfl, hT6, hS6⟩ := HEnd.out W W6 v6 rfl ⟨HP5.out.2.1.1, rfl, rfl, rfl, Kept.refl _ _⟩ HP5.out.2.2 hrow6
        have HT6 : Hid ((Instr.takeDeferred D).run Try.prog W6 = .ok [] (W6.putObj D (.deferred none))) := hT6
        clear hC6 hrow6 hT6 HEnd HP5
        go_wp2_with fail
        refine ⟨by simp, .inl ⟨D, _, rfl, HT6.out, ?_⟩⟩
        refine ⟨.tuple #[.slice a6 l.length c6, .int .i64 0], by simp [results, Try.results13, go_sem], ?_⟩
        exact ⟨_, _, _, by rw [HRR.out], by rw [HRR.out]; exact hS6.1, by rw [HRR.out]; exact hS6.2.1, hS6.2.2⟩
    case stop =>
      rintro D c s W hD hS ⟨rfl, pre, x, rfl, hq, hI⟩ hK
      obtain ⟨j, hj, hS⟩ := hS
      have HT : Hid ((restW (i : Int) v L).take q = pre ∧ pre.length ≤ m) := ⟨rest_part hS hq, by have h1 := rest_take_le (i : Int) v L j; rw [← hS, List.length_append] at h1; omega⟩
      clear hq hS
      refine (wpIn_wide (n := 9)).2 ?_
      --M11
      obtain ⟨l, hl⟩ : ∃ l, l = pre := ⟨_, rfl⟩
      rw [← hl] at hI HT
      clear hl
      have HIw : Hid (PWt W p At Off ∧ Below u.heap.size u W) := ⟨Hu.out.on hI.below, hI.below⟩
      obtain ⟨val, hbx, how⟩ := hI.row
      have hll : l.length * 640 ≤ 140737488351232 := by have h1 := Hml.out; have h2 : l.length ≤ m := HT.out.2; omega
      obtain ⟨aa, cc, rfl, hsl, hg0⟩ := owns_sl13 how hll
      have HRR : Hid (nextP At Off (i : Int) (q : Int) L = (l, 0, if 0 < l.length then At.set i (lastV v l) else At)) := by rw [Hid, HR.out, HT.out.1]
      have hpu : p < u.heap.size := Hu.out.box.1
      have HDf : Hid (W.heap[D]? = some (.deferred (some []))) := hK
      have hDs : D < W.heap.size := (Array.getElem?_eq_some_iff.1 hK).1
      have c12 := hbx.cell
      have Hc12 : Hid (Boxed W (u.heap.size + 1) 28 (.slice aa l.length cc)) := hbx
      have HSL : Hid (SlAt RCh 42 640 (fun b => wc.heap.size ≤ b) W aa l.length cc l) := hsl
      have hDu : u.heap.size < D := by have := Hws.out; omega
      have HEnd : Hid (∀ (W5 W6 : World) (v6 : Value), W5.heap.size = W.heap.size → Below u.heap.size u W ∧ W5.os = W.os ∧ W5.tape = W.tape ∧ W5.output = W.output ∧ Kept (fun b => b ≠ p) W W5 → PWt W5 p (if 0 < l.length then At.set i (lastV v l) else At) Off → Row RCh 42 (fun _ => False) W5 W6 76 v6 l → ∃ a6 c6, v6 = .slice a6 l.length c6 ∧ (Instr.takeDeferred D).run Try.prog W6 = .ok [] (W6.putObj D (.deferred none)) ∧ SlAt RCh 42 640 (Fresh u) (W6.putObj D (.deferred none)) a6 l.length c6 l ∧ PWt (W6.putObj D (.deferred none)) p (if 0 < l.length then At.set i (lastV v l) else At) Off ∧ (W6.putObj D (.deferred none)).os = u.os ∧ (W6.putObj D (.deferred none)).tape = u.tape ∧ (W6.putObj D (.deferred none)).output = u.output ∧ Kept (fun b => b ≠ p) u (W6.putObj D (.deferred none))) := by
        intro W5 W6 v6 hsz hbl hp hr
        have b6 : Below W5.heap.size W5 W6 := hr.below
        obtain ⟨a6, c6, rfl, s6⟩ := (hr.wA13 RCh.firm (A' := Fresh W5) (fun _ h => h.elim)).slF (bytes := 640) RCh.firm hll
        have kD : Kept (fun b => b ≠ D) W6 (W6.putObj D (.deferred none)) := Kept.grown (grownBy_putObj' W6 D _) (fun k e hk => hk (by cases e; rfl))
        have hD5 : W6.heap[D]? = some (.deferred (some [])) := (b6.block D (by omega)).trans ((hbl.2.2.2.2.2 D (by omega) hDs).trans HDf.out)
        have hW : u.heap.size ≤ W.heap.size := hbl.1.size
        refine ⟨a6, c6, rfl, run_takeDeferred hD5, (s6.kept RCh.firm (kD.weak (fun b (hb : W5.heap.size ≤ b) => by omega))).weak RCh.firm (fun b _ (hb : W5.heap.size ≤ b) => (show u.heap.size ≤ b by omega)), (hp.on b6).kept kD (by omega), b6.os.trans (hbl.2.1.trans hbl.1.os), b6.tape.trans (hbl.2.2.1.trans hbl.1.tape), b6.output.trans (hbl.2.2.2.1.trans hbl.1.output), ?_⟩
        have k6 : Kept (fun b => b ≠ p) u W6 := (Kept.below hbl.1).trans (hbl.2.2.2.2.trans (Kept.below b6))
        exact ⟨Nat.le_trans k6.1 kD.1, fun b hb hlt => (kD.2 b (by omega) (Nat.lt_of_lt_of_le hlt k6.1)).trans (k6.2 b hb hlt)⟩
      clear hI hbx how hK hsl
      by_cases h0 : 0 < l.length
      · obtain ⟨g, rfl⟩ := hg0 h0
        have h0z : (0 : Int) < (l.length : Int) := by omega
        obtain ⟨B, off, eB, hB, hBf, hc⟩ := HSL.out.2.2.2.2 h0
        obtain ⟨rfl, rfl⟩ : g = B ∧ 0 = off := by simpa using eB
        obtain ⟨cs, hr, hv⟩ := hc (l.length - 1) (by omega)
        obtain rfl : cs = chC (l.getD (l.length - 1) default).1 (l.getD (l.length - 1) default).2 := hr
        have x0 := hv 0 _ rfl
        rw [Nat.add_zero, Nat.zero_add] at x0
        have Hlast : Hid (lastV v l = (l.getD (l.length - 1) default).1) := last_at13 v h0
        generalize (l.getD (l.length - 1) default).1 = y at x0 Hlast
        obtain ⟨d0, d1⟩ := HIw.out.1.seen hi
        have hp5 := HIw.out.1.setA hi y
        obtain ⟨W5, hW5⟩ : ∃ Z, Z = W.setCell ⟨p, 1 + i * 2, none⟩ (.int .i64 y) := ⟨_, rfl⟩
        have k5 : Kept (fun b => b ≠ p) W W5 := by rw [hW5]; exact kept_p13 _
        have z5 : W5.heap.size = W.heap.size := by rw [hW5]; simp
        have c5 : W5.cell? ⟨u.heap.size + 1, 0, none⟩ = some (.slice (some ⟨g, 0, none⟩) l.length cc) := (k5.cell (p := ⟨u.heap.size + 1, 0, none⟩) (show u.heap.size + 1 ≠ p by omega) Hc12.out.lt).trans c12
        have hC6 := changes_calls _ _ _ _ l W5 (HSL.out.kept RCh.firm (k5.weak (fun b (hb : wc.heap.size ≤ b) => (show b ≠ p by omega))))
        have HW5 : Hid (W.setCell ⟨p, 1 + i * 2, none⟩ (.int .i64 y) = W5) := hW5.symm
        have HP5 : Hid (W5.heap.size = W.heap.size ∧ (Below u.heap.size u W ∧ W5.os = W.os ∧ W5.tape = W.tape ∧ W5.output = W.output ∧ Kept (fun b => b ≠ p) W W5) ∧ PWt W5 p (if 0 < l.length then At.set i (lastV v l) else At) Off) := ⟨z5, ⟨HIw.out.2, by rw [hW5]; rfl, by rw [hW5]; rfl, by rw [hW5]; rfl, k5⟩, by rw [if_pos h0, Hlast.out, hW5]; exact hp5⟩
        obtain ⟨t, ht⟩ : ∃ t, t = l.length := ⟨_, rfl⟩
        have Ht : Hid (t = l.length) := ht
        have t0 : 0 < t := by omega
        have t9 : t * 640 ≤ 140737488351232 := by rw [ht]; exact hll
        rw [← ht] at c12 c5 x0 h0z hC6
        clear hp5 hW5 k5 z5 hc hv hB hBf eB ht h0 hll Hc12 HSL HIw hg0
        have hwr : IntKind.i64.wrap ((t : Int) - 1) = ((t - 1 : Nat) : Int) := by
          have h9 : (t : Int) - 1 = ((t - 1 : Nat) : Int) := by omega
          rw [h9]
          have h8 : t - 1 < 140737488351232 := by omega
          generalize t - 1 = y at h8
          simp [IntKind.wrap, IntKind.bits, IntKind.signed]
          omega
        have htz : ((t - 1 : Nat) : Int) < (t : Int) := by omega
        have htz2 : t - 1 < t := by omega
        --T1
        go_upto_region 15 with fail
        rw [HW5.out]
        go_wp2_with fail
        --T2
        refine hC6.mono ?_
        rintro e W6 ⟨v6, rfl, hrow6⟩
        obtain ⟨a6, c6, rfl, hT6, hS6⟩ := HEnd.out W5 W6 v6 HP5.out.1 HP5.out.2.1 HP5.out.2.2 hrow6
        have HT6 : Hid ((Instr.takeDeferred D).run Try.prog W6 = .ok [] (W6.putObj D (.deferred none))) := hT6
        clear hC6 hrow6 hT6 HEnd HP5 HW5
        go_wp2_with fail
        --T3
        refine ⟨by simp, .inl ⟨D, _, rfl, HT6.out, ?_⟩⟩
        refine ⟨.tuple #[.slice a6 l.length c6, .int .i64 0], by simp [results, Try.results13, go_sem], ?_⟩
        exact ⟨_, _, _, by rw [HRR.out], by rw [HRR.out]; exact hS6.1, by rw [HRR.out]; exact hS6.2.1, hS6.2.2⟩
      · have h0z : ¬ ((0 : Int) < (l.length : Int)) := by omega
        have hC6 := changes_calls _ _ _ _ l W HSL.out
        have HP5 : Hid (W.heap.size = W.heap.size ∧ (Below u.heap.size u W ∧ W.os = W.os ∧ W.tape = W.tape ∧ W.output = W.output ∧ Kept (fun b => b ≠ p) W W) ∧ PWt W p (if 0 < l.length then At.set i (lastV v l) else At) Off) := ⟨rfl, ⟨HIw.out.2, rfl, rfl, rfl, Kept.refl _ _⟩, by rw [if_neg h0]; exact HIw.out.1⟩
        obtain ⟨t, ht⟩ : ∃ t, t = l.length := ⟨_, rfl⟩
        have t9 : t * 640 ≤ 140737488351232 := by rw [ht]; exact hll
        rw [← ht] at c12 h0z hC6
        clear ht h0 hll Hc12 HSL HIw hg0
        go_wp2_with fail
        --T4
        refine hC6.mono ?_
        rintro e W6 ⟨v6, rfl, hrow6⟩
        obtain ⟨a6, c6, rfl, hT6, hS6⟩ := HEnd.out W W6 v6 rfl ⟨HP5.out.2.1.1, rfl, rfl, rfl, Kept.refl _ _⟩ HP5.out.2.2 hrow6
        have HT6 : Hid ((Instr.takeDeferred D).run Try.prog W6 = .ok [] (W6.putObj D (.deferred none))) := hT6
        clear hC6 hrow6 hT6 HEnd HP5
        go_wp2_with fail
        refine ⟨by simp, .inl ⟨D, _, rfl, HT6.out, ?_⟩⟩
        refine ⟨.tuple #[.slice a6 l.length c6, .int .i64 0], by simp [results, Try.results13, go_sem], ?_⟩
        exact ⟨_, _, _, by rw [HRR.out], by rw [HRR.out]; exact hS6.1, by rw [HRR.out]; exact hS6.2.1, hS6.2.2⟩
end Go.Proofs.Ytnlmipgmakmbiaa
