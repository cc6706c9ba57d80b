/- slices.Insert and slices.Delete at Class, over a row of one's own, and its like. No condition beyond what each says. -/
import Derived.Laws.Cover1
import Derived.Test.YtfbnnfpnjjjfcaaGreatS28
namespace Go.Proofs.YtfbnnfpnjjjfcaaGreat
set_option maxHeartbeats 16000000
set_option maxRecDepth 100000
open Tryz Go.RowKit
set_option linter.unusedSimpArgs false
theorem infClass : (prog.info? 42).map (fun i => (i.zero, i.size, i.bytes)) = some (some (.agg #[.string ⟨#[]⟩, .bool false]), 2, 24) := by kernel_rfl
theorem InsEndClass (B n vb : Nat) (v : Value) (xs vs : List Value) (w : World) (hown : Hid (w.ownsRow B 42 2 v n xs)) (hB : B ≤ w.heap.size) (hvs : Hid (w.rangeAt vb 0 vs)) (hvl : vs.length = 2) (h1v : ∀ u ∈ vs, u.oneCell' = true) (hbig : (n + 1) * 24 ≤ 140737488355328) :
  Calls prog 292 #[v, .int .i64 n, .slice (some ⟨vb, 0, none⟩) 1 1] w fun e w' => ∃ v', e = .returned v' ∧ w'.ownsRow B 42 2 v' (n + 1) (xs ++ vs) ∧ w.grownBy w' v.ownBlock ∧ (v'.ownBlock = v.ownBlock ∨ v'.ownBlock = some w.heap.size) := by
 obtain ⟨i0, hi0, hz0, hzs, hzb⟩ := info_parts infClass
 obtain ⟨v', w', hr, h2, h3, _, h5⟩ := run_append_own_at (P := prog) w B 58 58 42 i0 _ 2 24 underlying58 hi0 hz0 hzs hzb rfl (by decide) v n xs hown.out ⟨vb, 0, none⟩ 1 1 vs (by rw [hvl]) (fun j u hj => by rw [add_lit]; exact hvs.out j u hj) h1v (by unfold maxLen; omega) hbig hB
 have HR : Hid ((Builtin.append_ #[58, 58] 58 #[v, .slice (some ⟨vb, 0, none⟩) 1 1]).run prog w = .ok v' w') := hr
 have HP : Hid (w'.ownsRow B 42 2 v' (n + 1) (xs ++ vs) ∧ w.grownBy w' v.ownBlock ∧ (v'.ownBlock = v.ownBlock ∨ v'.ownBlock = some w.heap.size)) := ⟨h2, h3, h5⟩
 clear hr h2 h3 h5 hvs h1v hi0 hz0 hzs hzb
 obtain ⟨_, ⟨rfl, rfl⟩ | ⟨g, cap, cur, rfl, _, _, hcp, hcm, _⟩⟩ := hown.out
 ·
  clear hown
  go_enter func292, ntmps292
  go_wp2_with (at_builtin; refine wpList_append_run' _ rfl _ _ 58 58 rfl _ _ rfl rfl HR.out ?_)
  all_goals (go_ret; exact ⟨_, rfl, HP.out⟩)
 ·
  clear hown
  unfold maxLen at hcm
  go_enter func292, ntmps292
  go_wp2_with (at_builtin; refine wpList_append_run' _ rfl _ _ 58 58 rfl _ _ rfl rfl HR.out ?_)
  all_goals (go_ret; exact ⟨_, rfl, HP.out⟩)
theorem InsShiftClass (g cap n i vb : Nat) (cur : Array Value) (xs vs : List Value) (w : World) (hi : i < n) (hroom : n + 1 ≤ cap) (hcm : cap ≤ 9223372036854775807) (hvb : vb ≠ g)
  (hg : w.heap[g]? = some (.cells cur 42 (0, 0))) (hsz : cur.size = cap * 2) (htk : cur.toList.take (n * 2) = xs) (h1c : ∀ u ∈ xs, u.oneCell' = true)
  (hvs : w.heap[vb]? = some (.cells vs.toArray 42 (0, 0))) (hvl : vs.length = 2) (h1v : ∀ u ∈ vs, u.oneCell' = true) :
  Calls prog 292 #[.slice (some ⟨g, 0, none⟩) n cap, .int .i64 i, .slice (some ⟨vb, 0, none⟩) 1 1] w fun e w' => e = .returned (.slice (some ⟨g, 0, none⟩) (n + 1) cap) ∧ w' = (w.drew.setCells g ((i + 1) * 2) (xs.drop (i * 2))).setCells g (i * 2) vs := by
 have hz2 : ¬ ((i : Int) = (n : Int)) := by omega
 have hw1 : IntKind.i64.wrap ((i : Int) + 1) = (i : Int) + 1 := by rw [IntKind.wrap_i64]; omega
 have hb1 : (0 : Int) ≤ (i : Int) + 1 := by omega
 have hin : i ≤ n := by omega
 have htn : ((i : Int) + 1).toNat = i + 1 := by omega
 have hb2 : ¬ (cap = i + 1) := by omega
 have hb3 : (i : Int) ≤ (n : Int) + 1 := by omega
 have hb4 : ¬ (cap = i) := by omega
 have hkn : (i + 1) * 2 ≤ n * 2 := Nat.mul_le_mul_right _ hi
 have hkc : (n + 1) * 2 ≤ cap * 2 := Nat.mul_le_mul_right _ hroom
 have hxl : xs.length = n * 2 := by rw [← htk, List.length_take, Array.length_toList, hsz]; omega
 have hdl : (xs.drop (i * 2)).length = (n - i) * 2 := by rw [List.length_drop, hxl, Nat.sub_mul]
 have HOV : Hid (∀ lb cb, (callFunc 299 #[.slice (some ⟨vb, 0, none⟩) 1 1, .slice (some ⟨g, (i + 1) * 2, none⟩) lb cb]).run prog w = .ok (.value (.bool false)) w) := fun lb cb => by
  rw [run_callFunc_extern func299 (by kernel_rfl) (by kernel_rfl) (by kernel_rfl) (e := Extern.SlicesOverlaps.overlaps #[58, 58] #[4]) (by kernel_rfl),
   Lib.run_overlaps_apart w 58 4 42 underlying58 2 Tryz.sizeOf42 ⟨vb, 0, none⟩ ⟨g, (i + 1) * 2, none⟩ 1 1 lb cb hvb _ _ _ _ (shape_cells hvs) (shape_cells hg) (by rw [hsz]; omega) (row_frozen hvs) (row_frozen hvs)]
  rfl
 have hcell : ∀ j, j < cap * 2 → (w.cell? ⟨g, j, none⟩).isSome = true := fun j hj => by
  rw [row_cell hg, List.getElem?_eq_getElem (by simp; omega)]; rfl
 have hxs : ∀ j u, xs[j]? = some u → w.cell? ⟨g, j, none⟩ = some u := fun j u hj => by
  have hjl : j < n * 2 := by
   have := (List.getElem?_eq_some_iff.1 hj).1
   omega
  rw [row_cell hg, ← hj, ← htk, List.getElem?_take, if_pos hjl]
 have HC1 : Hid (∀ ty dc sc, (Builtin.copy_ #[58, 58] ty #[.slice (some ⟨g, (i + 1) * 2, none⟩) (n - i) dc, .slice (some ⟨g, i * 2, none⟩) (n + 1 - i) sc]).run prog w.drew = .ok (goInt (Nat.min (n + 1 - i) (n - i))) (w.drew.setCells g ((i + 1) * 2) (xs.drop (i * 2)))) := fun ty dc sc =>
  run_copy_k w.drew _ _ ty 42 2 g ((i + 1) * 2) (n - i) dc ⟨g, i * 2, none⟩ (n + 1 - i) sc (xs.drop (i * 2)) underlying58 itClass (by rw [hdl]; simp only [Nat.min_def]; split <;> omega)
   (fun j u hj => by rw [add_lit]; exact hxs _ u (by rwa [List.getElem?_drop] at hj))
   (fun j hj => hcell _ (by rw [hdl] at hj; rw [Nat.sub_mul] at hj; rw [Nat.add_mul] at hkc ⊢; omega)) (fun j _ => row_frozen (w := w.drew) hg) (fun u hu => h1c u (List.mem_of_mem_drop hu))
 obtain ⟨W1, hW1⟩ : ∃ W1, W1 = w.drew.setCells g ((i + 1) * 2) (xs.drop (i * 2)) := ⟨_, rfl⟩
 obtain ⟨cur1, hg1, hs1, _⟩ := row_setCells g 42 (xs.drop (i * 2)) ((i + 1) * 2) w.drew cur hg (by rw [hdl, hsz, Nat.sub_mul, Nat.add_mul]; rw [Nat.add_mul] at hkc hkn; omega)
 have hvs1 : W1.heap[vb]? = some (.cells vs.toArray 42 (0, 0)) := by
  rw [hW1, (grown_setCells (w := w.drew) (g := g) _ _).block vb (lt_of_heap hvs) (by simpa using hvb)]
  exact hvs
 rw [← hW1] at hg1
 have HC2 : Hid (∀ ty dc, (Builtin.copy_ #[58, 58] ty #[.slice (some ⟨g, i * 2, none⟩) (n + 1 - i) dc, .slice (some ⟨vb, 0, none⟩) 1 1]).run prog W1 = .ok (goInt (Nat.min 1 (n + 1 - i))) (W1.setCells g (i * 2) vs)) := fun ty dc =>
  run_copy_k W1 _ _ ty 42 2 g (i * 2) (n + 1 - i) dc ⟨vb, 0, none⟩ 1 1 vs underlying58 itClass (by rw [hvl]; simp only [Nat.min_def]; split <;> omega)
   (fun j u hj => by rw [add_lit, row_cell hvs1]; simpa using hj)
   (fun j hj => by rw [row_cell hg1, List.getElem?_eq_getElem (by rw [hvl] at hj; rw [Array.length_toList, hs1, hsz]; rw [Nat.add_mul] at hkn; omega)]; rfl) (fun j _ => row_frozen hg1) h1v
 have HW : Hid (W1 = w.drew.setCells g ((i + 1) * 2) (xs.drop (i * 2))) := hW1
 have HC1' : Hid (∀ ty dc sc, (Builtin.copy_ #[58, 58] ty #[.slice (some ⟨g, (i + 1) * 2, none⟩) (n - i) dc, .slice (some ⟨g, i * 2, none⟩) (n + 1 - i) sc]).run prog w.drew = .ok (goInt (Nat.min (n + 1 - i) (n - i))) W1) := by
  intro ty dc sc; rw [hW1]; exact HC1.out ty dc sc
 rw [← hW1]
 clear hg hsz htk h1c hvs hvl h1v hkn hkc hxl hdl hcell hxs HC1 hW1 hg1 hs1 hvs1
 go_enter func292, ntmps292
 go_wp2_with fail
 simp only [HOV.out]
 go_wp2_with fail
 refine t0 (fun _ => True) (trivial) (fun hH => ?_)
 refine tp 0 ?_; try go_frame
 refine tp 1 ?_; try go_frame
 refine tp 2 ?_; try go_frame
 refine tp 3 ?_; try go_frame
 refine tp 4 ?_; try go_frame
 refine tp 5 ?_; try go_frame
 refine tp 6 ?_; try go_frame
 refine tp 7 ?_; try go_frame
 first | refine tr 8 (fun K hK => ?_) | refine ts 8 (fun K hK => ?_)
 refine want_yes (by rfl) (wp_copy_run _ _ _ 58 58 rfl _ _ rfl rfl (HC1'.out _ _ _) ?_)
 refine hK.out _ _ trivial (fun hH => ?_)
 clear hK K
 try go_frame
 refine tz ?_
 go_wp2_with fail
 rw [HC2.out]
 go_wp2_with fail
 go_ret
 exact ⟨rfl, rfl⟩
theorem InsGrowClass (g cap n i vb : Nat) (cur : Array Value) (xs vs : List Value) (w : World) (hi : i < n) (hnc : n ≤ cap) (hroom : cap < n + 1) (hbig : (n + 1) * 24 ≤ 140737488355328)
  (hg : w.heap[g]? = some (.cells cur 42 (0, 0))) (hsz : cur.size = cap * 2) (htk : cur.toList.take (n * 2) = xs) (h1c : ∀ u ∈ xs, u.oneCell' = true)
  (hvs : w.heap[vb]? = some (.cells vs.toArray 42 (0, 0))) (hvl : vs.length = 2) (h1v : ∀ u ∈ vs, u.oneCell' = true) :
  Calls prog 292 #[.slice (some ⟨g, 0, none⟩) n cap, .int .i64 i, .slice (some ⟨vb, 0, none⟩) 1 1] w fun e w' => ∃ G, n + 1 ≤ G ∧ G ≤ maxLen ∧ e = .returned (.slice (some ⟨w.heap.size, 0, none⟩) (n + 1) G) ∧ ∃ row : Array Value, row.size = G * 2 ∧ row.toList.take ((n + 1) * 2) = xs.take (i * 2) ++ vs ++ xs.drop (i * 2) ∧ w'.heap[w.heap.size]? = some (.cells row 42 (0, 0)) ∧ w.grownBy w' none := by
 obtain ⟨i0, hi0, hz0, hzs, hzb⟩ := info_parts infClass
 have hz2 : ¬ ((i : Int) = (n : Int)) := by omega
 have hz3 : (cap : Int) < (n : Int) + 1 := by omega
 have hw1 : IntKind.i64.wrap ((i : Int) + 1) = (i : Int) + 1 := by rw [IntKind.wrap_i64]; omega
 have hb1 : (0 : Int) ≤ (i : Int) + 1 := by omega
 have hin : i ≤ n := by omega
 have htn : ((i : Int) + 1).toNat = i + 1 := by omega
 have hb3 : (i : Int) ≤ (n : Int) := by omega
 have hci : ¬ (cap = i) := by omega
 have hkn : (i + 1) * 2 ≤ n * 2 := Nat.mul_le_mul_right _ hi
 have hkc : n * 2 ≤ cap * 2 := Nat.mul_le_mul_right _ hnc
 have hxl : xs.length = n * 2 := by rw [← htk, List.length_take, Array.length_toList, hsz]; omega
 have hdl : (xs.drop (i * 2)).length = (n - i) * 2 := by rw [List.length_drop, hxl, Nat.sub_mul]
 have hxs : ∀ j u, xs[j]? = some u → w.cell? ⟨g, j, none⟩ = some u := fun j u hj => by
  have hjl : j < n * 2 := by
   have := (List.getElem?_eq_some_iff.1 hj).1
   omega
  rw [row_cell hg, ← hj, ← htk, List.getElem?_take, if_pos hjl]
 have hold : (Builtin.firstCells i0.size i (.slice (some ⟨g, 0, none⟩) i cap)).run prog w.drew = .ok (xs.take (i * 2)).toArray w.drew := by
  rw [hzs]
  exact run_firstCells_some w.drew 2 i ⟨g, 0, none⟩ i cap (xs.take (i * 2)) (by rw [List.length_take, hxl]; omega) (fun j u hj => by
   rw [add_lit, Nat.zero_add]
   rw [List.getElem?_take] at hj
   split at hj
   ·
    exact hxs j u hj
   ·
    cases hj)
 have hkk : (n : Int) + 1 - (i : Int) = ((n + 1 - i : Nat) : Int) := by omega
 have hik : i + (n + 1 - i) = n + 1 := by omega
 have hrz : ∀ ty, (Builtin.append_ #[58, 3] ty #[.slice (some ⟨g, 0, none⟩) i cap, .int .i64 ((n : Int) + 1 - (i : Int))]).run prog w =
   .ok (.slice (some ⟨w.heap.size, 0, none⟩) (n + 1) (grownCap w (n + 1) cap 42)) (w.drew.alloc (.cells ((xs.take (i * 2)).toArray ++ Builtin.zeroCells (Value.agg #[.string ⟨#[]⟩, .bool false]).cells (n + 1 - i) ++ Builtin.zeroCells (Value.agg #[.string ⟨#[]⟩, .bool false]).cells (grownCap w (n + 1) cap 42 - (n + 1))) 42)) := fun ty => by
  have h := Lib.run_append_grow_zeros w 58 3 ty 42 i0 _ .i64 .i64 underlying58 underlying3 hi0 hz0 (some ⟨g, 0, none⟩) i cap (xs.take (i * 2)) hold (n + 1 - i) (by omega) (by omega) (by omega) (by omega) (by rw [hzb]; omega) (by rw [hzb, hik]; exact growslice_fits hroom hbig)
  rw [hik] at h
  rw [hkk]
  exact h
 obtain ⟨G, hG⟩ : ∃ G, G = grownCap w (n + 1) cap 42 := ⟨_, rfl⟩
 have hGn : n + 1 ≤ G := by rw [hG]; exact grownCap_ge w _ _ _
 have hGm : G ≤ maxLen := by rw [hG]; exact grownCap_le_maxLen w (n + 1) cap 42 (by unfold maxLen; omega)
 obtain ⟨ROW, hROW⟩ : ∃ ROW : Array Value, ROW = (xs.take (i * 2)).toArray ++ Builtin.zeroCells (Value.agg #[.string ⟨#[]⟩, .bool false]).cells (n + 1 - i) ++ Builtin.zeroCells (Value.agg #[.string ⟨#[]⟩, .bool false]).cells (G - (n + 1)) := ⟨_, rfl⟩
 rw [← hG] at hrz
 rw [← hROW] at hrz
 have hRl : ROW.size = G * 2 := by
  rw [hROW]
  simp only [Array.size_append, List.size_toArray, size_zeroCells, List.length_take, hxl, Value.cells]
  simp only [List.size_toArray, List.length_cons, List.length_nil]
  omega
 have hRt : ROW.toList.take (i * 2) = xs.take (i * 2) := by
  rw [hROW, Array.toList_append, Array.toList_append, List.toList_toArray, List.append_assoc, List.take_append_of_le_length (by rw [List.length_take, hxl]; omega), List.take_take, Nat.min_self]
 obtain ⟨W1, hW1⟩ : ∃ W1, W1 = w.drew.alloc (.cells ROW 42) := ⟨_, rfl⟩
 rw [← hW1] at hrz
 have hn1 : W1.heap[w.heap.size]? = some (.cells ROW 42 (0, 0)) := by rw [hW1]; exact heap_new w.drew _ _ rfl
 have hg1 : W1.heap[g]? = some (.cells cur 42 (0, 0)) := by rw [hW1, Below.heap_alloc w.drew _ g (lt_of_heap hg)]; exact hg
 have hv1 : W1.heap[vb]? = some (.cells vs.toArray 42 (0, 0)) := by rw [hW1, Below.heap_alloc w.drew _ vb (lt_of_heap hvs)]; exact hvs
 have hgr1 : w.grownBy W1 none := ⟨by rw [hW1]; rfl, by rw [hW1]; rfl, by rw [hW1]; rfl, by rw [hW1]; simp, fun k hk _ => by rw [hW1]; exact Below.heap_alloc w.drew _ k hk⟩
 obtain ⟨row2, hn2, hs2, ht2⟩ := row_setCells w.heap.size 42 vs (i * 2) W1 ROW hn1 (by rw [hvl, hRl]; omega)
 obtain ⟨W2, hW2⟩ : ∃ W2, W2 = W1.setCells w.heap.size (i * 2) vs := ⟨_, rfl⟩
 rw [← hW2] at hn2
 have hgN : g ≠ w.heap.size := Nat.ne_of_lt (lt_of_heap hg)
 have hg2 : W2.heap[g]? = some (.cells cur 42 (0, 0)) := by
  rw [hW2, (grown_setCells (w := W1) (g := w.heap.size) _ _).block g (lt_of_heap hg1) (by simpa using hgN)]; exact hg1
 obtain ⟨row3, hn3, hs3, ht3⟩ := row_setCells w.heap.size 42 (xs.drop (i * 2)) ((i + 1) * 2) W2.drew row2 hn2 (by rw [hdl, hs2, hRl]; omega)
 obtain ⟨W3, hW3⟩ : ∃ W3, W3 = W2.drew.setCells w.heap.size ((i + 1) * 2) (xs.drop (i * 2)) := ⟨_, rfl⟩
 rw [← hW3] at hn3
 have HCA : Hid (∀ ty dc, (Builtin.copy_ #[58, 58] ty #[.slice (some ⟨w.heap.size, i * 2, none⟩) (n + 1 - i) dc, .slice (some ⟨vb, 0, none⟩) 1 1]).run prog W1 = .ok (goInt (Nat.min 1 (n + 1 - i))) W2) := fun ty dc => by
  rw [hW2]
  exact run_copy_k W1 _ _ ty 42 2 w.heap.size (i * 2) (n + 1 - i) dc ⟨vb, 0, none⟩ 1 1 vs underlying58 itClass (by rw [hvl]; simp only [Nat.min_def]; split <;> omega)
   (fun j u hj => by rw [add_lit, row_cell hv1]; simpa using hj)
   (fun j hj => by rw [row_cell hn1, List.getElem?_eq_getElem (by rw [hvl] at hj; rw [Array.length_toList, hRl]; omega)]; rfl) (fun j _ => row_frozen hn1) h1v
 have HCB : Hid (∀ ty dc sc, (Builtin.copy_ #[58, 58] ty #[.slice (some ⟨w.heap.size, (i + 1) * 2, none⟩) (n - i) dc, .slice (some ⟨g, i * 2, none⟩) (n - i) sc]).run prog W2.drew = .ok (goInt (Nat.min (n - i) (n - i))) W3) := fun ty dc sc => by
  rw [hW3]
  exact run_copy_k W2.drew _ _ ty 42 2 w.heap.size ((i + 1) * 2) (n - i) dc ⟨g, i * 2, none⟩ (n - i) sc (xs.drop (i * 2)) underlying58 itClass (by rw [hdl]; simp only [Nat.min_def]; split <;> omega)
   (fun j u hj => by
    rw [add_lit, row_cell (w := W2.drew) hg2]
    have := hxs (i * 2 + j) u (by rwa [List.getElem?_drop] at hj)
    rwa [row_cell hg] at this)
   (fun j hj => by rw [row_cell (w := W2.drew) hn2, List.getElem?_eq_getElem (by rw [hdl] at hj; rw [Array.length_toList, hs2, hRl]; omega)]; rfl) (fun j _ => row_frozen (w := W2.drew) hn2) (fun u hu => h1c u (List.mem_of_mem_drop hu))
 have HRZ : Hid (∀ ty, (Builtin.append_ #[58, 3] ty #[.slice (some ⟨g, 0, none⟩) i cap, .int .i64 ((n : Int) + 1 - (i : Int))]).run prog w = .ok (.slice (some ⟨w.heap.size, 0, none⟩) (n + 1) G) W1) := hrz
 have HP : Hid (∃ row : Array Value, row.size = G * 2 ∧ row.toList.take ((n + 1) * 2) = xs.take (i * 2) ++ vs ++ xs.drop (i * 2) ∧ W3.heap[w.heap.size]? = some (.cells row 42 (0, 0)) ∧ w.grownBy W3 none) := by
  refine ⟨row3, by rw [hs3, hs2, hRl], ?_, hn3, ?_⟩
  ·
   have e2 : row2.toList.take ((i + 1) * 2) = xs.take (i * 2) ++ vs := by
    rw [ht2, hRt]
    rw [List.take_append_of_le_length (by simp only [List.length_append, List.length_take, hxl, hvl]; omega), List.take_of_length_le (by simp only [List.length_append, List.length_take, hxl, hvl]; omega)]
   rw [ht3, e2, List.take_append_of_le_length (by simp only [List.length_append, List.length_take, hxl, hvl, hdl]; omega), List.take_of_length_le (by simp only [List.length_append, List.length_take, hxl, hvl, hdl]; omega)]
  ·
   have s1 : w.heap.size < W1.heap.size := lt_of_heap hn1
   refine ⟨?_, ?_, ?_, ?_, fun k hk _ => ?_⟩
   ·
    rw [hW3, (grown_setCells (w := W2.drew) (g := w.heap.size) _ _).os]; show W2.os = _; rw [hW2, (grown_setCells (w := W1) (g := w.heap.size) _ _).os]; exact hgr1.os
   ·
    rw [hW3, (grown_setCells (w := W2.drew) (g := w.heap.size) _ _).tape]; show W2.tape = _; rw [hW2, (grown_setCells (w := W1) (g := w.heap.size) _ _).tape]; exact hgr1.tape
   ·
    rw [hW3, (grown_setCells (w := W2.drew) (g := w.heap.size) _ _).output]; show W2.output = _; rw [hW2, (grown_setCells (w := W1) (g := w.heap.size) _ _).output]; exact hgr1.output
   ·
    rw [hW3, size_setCells]; show _ ≤ W2.heap.size; rw [hW2, size_setCells]; exact hgr1.size
   ·
    have hne : some k ≠ some w.heap.size := by simp; omega
    rw [hW3, (grown_setCells (w := W2.drew) (g := w.heap.size) _ _).block k (by show k < W2.heap.size; rw [hW2, size_setCells]; omega) hne]
    show W2.heap[k]? = _
    rw [hW2, (grown_setCells (w := W1) (g := w.heap.size) _ _).block k (by omega) hne]
    exact hgr1.block k hk (by simp)
 have hGi : ¬ (G = i) := by omega
 have hGim : ¬ (G = i + 1) := by omega
 have hG63 : G ≤ 9223372036854775807 := by unfold maxLen at hGm; exact hGm
 have HG1 : Hid (n + 1 ≤ G ∧ G ≤ maxLen) := ⟨hGn, hGm⟩
 have HW1 : Hid (W1.heap.size = W1.heap.size) := rfl
 clear hrz hold hROW hG hRl hRt hn1 hg1 hv1 hgr1 hn2 hs2 ht2 hW2 hg2 hn3 hs3 ht3 hW3 hW1 hxs hdl hxl hkn hkc hg hsz htk h1c hvs hvl h1v hi0 hz0 hzs hzb hkk hik hGm hgN HW1
 go_enter func292, ntmps292
 go_wp2_with (at_builtin; refine wpList_append_run' _ rfl _ _ 58 3 rfl _ _ rfl rfl (HRZ.out _) ?_)
 rw [HCA.out]
 go_wp2_with fail
 refine t0 (fun _ => True) (trivial) (fun hH => ?_)
 refine tp 0 ?_; try go_frame
 refine tp 1 ?_; try go_frame
 refine tp 2 ?_; try go_frame
 refine tp 3 ?_; try go_frame
 refine tp 4 ?_; try go_frame
 refine tp 5 ?_; try go_frame
 refine tp 6 ?_; try go_frame
 refine tp 7 ?_; try go_frame
 first | refine tr 8 (fun K hK => ?_) | refine ts 8 (fun K hK => ?_)
 refine want_yes (by rfl) (wp_copy_run _ _ _ 58 58 rfl _ _ rfl rfl (HCB.out _ _ _) ?_)
 refine hK.out _ _ trivial (fun hH => ?_)
 clear hK K
 try go_frame
 refine tz ?_
 go_wp2_with fail
 go_ret
 exact ⟨G, HG1.out.1, HG1.out.2, rfl, HP.out⟩
theorem InsClass (B n i vb : Nat) (v : Value) (xs vs : List Value) (w : World) (hown : w.ownsRow B 42 2 v n xs) (hB : B ≤ w.heap.size) (hvs : w.heap[vb]? = some (.cells vs.toArray 42 (0, 0))) (hvo : v.ownBlock ≠ some vb) (hvl : vs.length = 2) (h1c : ∀ u ∈ xs, u.oneCell' = true) (h1v : ∀ u ∈ vs, u.oneCell' = true) (hi : i ≤ n) (hbig : (n + 1) * 24 ≤ 140737488355328) :
  Calls prog 292 #[v, .int .i64 i, .slice (some ⟨vb, 0, none⟩) 1 1] w fun e w' => ∃ v', e = .returned v' ∧ w'.ownsRow B 42 2 v' (n + 1) (xs.take (i * 2) ++ vs ++ xs.drop (i * 2)) ∧ w.grownBy w' v.ownBlock ∧ (v'.ownBlock = v.ownBlock ∨ v'.ownBlock = some w.heap.size) := by
 have hxl := hown.1
 rcases Nat.lt_or_ge i n with h | h
 ·
  obtain ⟨_, ⟨rfl, h0⟩ | ⟨g, cap, cur, rfl, hBg, hg, hcp, hcm, hsz, htk⟩⟩ := hown
  ·
   omega
  ·
   have hvb : vb ≠ g := fun e => hvo (by rw [e]; rfl)
   rcases Nat.lt_or_ge cap (n + 1) with hr | hr
   ·
    refine (InsGrowClass g cap n i vb cur xs vs w h hcp hr hbig hg hsz htk h1c hvs hvl h1v).mono ?_
    rintro e w' ⟨G, hG1, hG2, rfl, row, hr1, hr2, hr3, hgr⟩
    refine ⟨_, rfl, ⟨by simp only [List.length_append, List.length_take, List.length_drop, hvl, hxl]; omega, .inr ⟨w.heap.size, G, row, rfl, hB, hr3, hG1, hG2, hr1, hr2⟩⟩, ⟨hgr.os, hgr.tape, hgr.output, hgr.size, fun k hk _ => hgr.block k hk (by simp)⟩, .inr rfl⟩
   ·
    refine (InsShiftClass g cap n i vb cur xs vs w h hr (by unfold maxLen at hcm; exact hcm) hvb hg hsz htk h1c hvs hvl h1v).mono ?_
    rintro e w' ⟨rfl, rfl⟩
    have hkn : (i + 1) * 2 ≤ n * 2 := Nat.mul_le_mul_right _ h
    have hkc : (n + 1) * 2 ≤ cap * 2 := Nat.mul_le_mul_right _ hr
    have hdl : (xs.drop (i * 2)).length = (n - i) * 2 := by rw [List.length_drop, hxl, Nat.sub_mul]
    obtain ⟨cur1, hg1, hs1, ht1⟩ := row_setCells g 42 (xs.drop (i * 2)) ((i + 1) * 2) w.drew cur hg (by rw [hdl, hsz]; omega)
    obtain ⟨cur2, hg2, hs2, ht2⟩ := row_setCells g 42 vs (i * 2) _ cur1 hg1 (by rw [hvl, hs1, hsz]; omega)
    refine ⟨_, rfl, ⟨by simp only [List.length_append, List.length_take, List.length_drop, hvl, hxl]; omega, .inr ⟨g, cap, cur2, rfl, hBg, hg2, by omega, hcm, by rw [hs2, hs1, hsz], ?_⟩⟩, grown_trans grown_drew (grown_trans (grown_setCells _ _) (grown_setCells _ _)), .inl rfl⟩
    have hcl : cur.toList.length = cap * 2 := by rw [Array.length_toList, hsz]
    have e0 : cur.toList.take (i * 2) = xs.take (i * 2) := by rw [← htk, List.take_take]; congr 1; omega
    have e1 : cur1.toList.take (i * 2) = xs.take (i * 2) := by
     rw [ht1, List.append_assoc, List.take_append_of_le_length (by rw [List.length_take, hcl]; omega), List.take_take, show min (i * 2) ((i + 1) * 2) = i * 2 by omega, e0]
    have e2 : cur1.toList.drop (i * 2 + 2) = xs.drop (i * 2) ++ cur.toList.drop ((i + 1) * 2 + (n - i) * 2) := by
     have hl0 : (cur.toList.take ((i + 1) * 2)).length = i * 2 + 2 := by rw [List.length_take, hcl]; omega
     rw [ht1, List.append_assoc, List.drop_append_of_le_length (by omega), List.drop_of_length_le (by omega), List.nil_append, hdl]
    rw [ht2, hvl, e1, e2, ← List.append_assoc, List.take_append_of_le_length (by simp only [List.length_append, List.length_take, List.length_drop, hvl, hxl]; omega), List.take_of_length_le (by simp only [List.length_append, List.length_take, List.length_drop, hvl, hxl]; omega)]
 ·
  obtain rfl : i = n := by omega
  refine (InsEndClass B i vb v xs vs w hown hB (fun j u hj => ?_) hvl h1v hbig).mono ?_
  ·
   rw [row_cell hvs, Nat.zero_add]; simpa using hj
  ·
   rintro e w' ⟨v', rfl, h2, h3, h5⟩
   refine ⟨v', rfl, ?_, h3, h5⟩
   rw [List.take_of_length_le (by omega), List.drop_of_length_le (by omega), List.append_nil]
   exact h2
theorem find1Class (s : ByteArray) (D E : Nat) (w : World) (hD : D < w.heap.size) (hE : E < w.heap.size) (cD : w.cell? ⟨D, 0, none⟩ = some (.iface 152 (.agg #[]))) (cE : w.cell? ⟨E, 0, none⟩ = some (.string s)) : PredClass 298 #[.pointer (some ⟨D, 0, none⟩), .pointer (some ⟨E, 0, none⟩)] (fun x => sEq x.1 s) w := fun W cs x hb hr0 => by
 have hr : Hid (RClass (fun _ => True) W cs x) := hr0
 have hi : (prog.info? 42).map (·.size) = some cs.length := by rw [RClass.firm.len hr0]; exact itClass
 have HH : Hid (Held W [(W.heap.size, cs)] [] (W.alloc (.cells cs.toArray 42))) := (Held.start W).push rfl cs 42
 have hDW : D < W.heap.size := Nat.lt_of_lt_of_le hD hb.size
 have hEW : E < W.heap.size := Nat.lt_of_lt_of_le hE hb.size
 have HD : Hid (W.cell? ⟨D, 0, none⟩ = some (.iface 152 (.agg #[]))) := (hb.cell (p := ⟨D, 0, none⟩) hD).trans cD
 have HE : Hid (W.cell? ⟨E, 0, none⟩ = some (.string s)) := (hb.cell (p := ⟨E, 0, none⟩) hE).trans cE
 show Calls prog 298 #[.agg cs.toArray, .pointer (some ⟨D, 0, none⟩), .pointer (some ⟨E, 0, none⟩)] W fun e w' => e = .returned (.bool (sEq x.1 s)) ∧ Below W.heap.size W w'
 clear cD cE hb hD hE hr0
 go_enter func298, ntmps298
 go_wp2_with fail
 refine t0 (Held W [(W.heap.size, cs)] []) (HH.out.drew) (fun hH => ?_)
 refine' tk 0 ?_ ?_; rotate_left
 ·
  intro u hu; have hc0 := (hu.below.cell (p := ⟨D, 0, none⟩) hDW).trans HD.out; clear hu; go_simp; try with_reducible rfl
 try go_frame
 refine tq 1 (.agg (cs).toArray) (yieldsIf_load_mid (by rfl) 42 _ rfl (W.heap.size) 0 rfl (cs) _ (fun u hu => Held.get hu 0 rfl) underlying42 rfl hi) ?_ (hi := rfl)
 try go_frame
 refine' tk 3 ?_ ?_; rotate_left
 ·
  intro u hu; have hc0 := (hu.below.cell (p := ⟨E, 0, none⟩) hEW).trans HE.out; clear hu; go_simp; try with_reducible rfl
 try go_frame
 refine tr 2 (fun K hK => ?_)
 refine want_yes (by rfl) (call_enter (f := 278) (args := #[.agg #[], .agg cs.toArray]) (by kernel_rfl) (Class_named cs _ x _ (RClass.firm.kept hr.out (Kept.below hH.below))) (fun e u1 he => ?_))
 obtain ⟨rfl, hb1⟩ := he
 have HB1 : Hid (Below W.heap.size W u1) := on2 hH.below hb1
 refine ⟨_, rfl, hK.out _ _ (hH.on hb1) (fun hH => ?_)⟩
 clear hK K
 try go_frame
 refine tp 4 ?_; try go_frame
 refine tp 5 ?_; try go_frame
 refine tz ?_
 go_wp2_with fail
 go_ret
 exact ⟨retb (by simp only [sEq]), HB1.out⟩
theorem ent_findClass : ∀ args w, (callFunc 298 args).run prog w = .ok (.enter 298 args) w := Go.Proofs.enters_of func298 (by kernel_rfl) rfl
theorem place1Class (s : ByteArray) (D E : Nat) (w : World) (hD : D < w.heap.size) (hE : E < w.heap.size) (cD : w.cell? ⟨D, 0, none⟩ = some (.iface 152 (.agg #[]))) (cE : w.cell? ⟨E, 0, none⟩ = some (.string s)) : PredClass 301 #[.pointer (some ⟨D, 0, none⟩), .pointer (some ⟨E, 0, none⟩)] (fun x => sGt x.1 s) w := fun W cs x hb hr0 => by
 have hr : Hid (RClass (fun _ => True) W cs x) := hr0
 have hi : (prog.info? 42).map (·.size) = some cs.length := by rw [RClass.firm.len hr0]; exact itClass
 have HH : Hid (Held W [(W.heap.size, cs)] [] (W.alloc (.cells cs.toArray 42))) := (Held.start W).push rfl cs 42
 have hDW : D < W.heap.size := Nat.lt_of_lt_of_le hD hb.size
 have hEW : E < W.heap.size := Nat.lt_of_lt_of_le hE hb.size
 have HD : Hid (W.cell? ⟨D, 0, none⟩ = some (.iface 152 (.agg #[]))) := (hb.cell (p := ⟨D, 0, none⟩) hD).trans cD
 have HE : Hid (W.cell? ⟨E, 0, none⟩ = some (.string s)) := (hb.cell (p := ⟨E, 0, none⟩) hE).trans cE
 show Calls prog 301 #[.agg cs.toArray, .pointer (some ⟨D, 0, none⟩), .pointer (some ⟨E, 0, none⟩)] W fun e w' => e = .returned (.bool (sGt x.1 s)) ∧ Below W.heap.size W w'
 clear cD cE hb hD hE hr0
 go_enter func301, ntmps301
 go_wp2_with fail
 refine t0 (Held W [(W.heap.size, cs)] []) (HH.out.drew) (fun hH => ?_)
 refine' tk 0 ?_ ?_; rotate_left
 ·
  intro u hu; have hc0 := (hu.below.cell (p := ⟨D, 0, none⟩) hDW).trans HD.out; clear hu; go_simp; try with_reducible rfl
 try go_frame
 refine tq 1 (.agg (cs).toArray) (yieldsIf_load_mid (by rfl) 42 _ rfl (W.heap.size) 0 rfl (cs) _ (fun u hu => Held.get hu 0 rfl) underlying42 rfl hi) ?_ (hi := rfl)
 try go_frame
 refine' tk 3 ?_ ?_; rotate_left
 ·
  intro u hu; have hc0 := (hu.below.cell (p := ⟨E, 0, none⟩) hEW).trans HE.out; clear hu; go_simp; try with_reducible rfl
 try go_frame
 refine tr 2 (fun K hK => ?_)
 refine want_yes (by rfl) (call_enter (f := 278) (args := #[.agg #[], .agg cs.toArray]) (by kernel_rfl) (Class_named cs _ x _ (RClass.firm.kept hr.out (Kept.below hH.below))) (fun e u1 he => ?_))
 obtain ⟨rfl, hb1⟩ := he
 have HB1 : Hid (Below W.heap.size W u1) := on2 hH.below hb1
 refine ⟨_, rfl, hK.out _ _ (hH.on hb1) (fun hH => ?_)⟩
 clear hK K
 try go_frame
 refine tp 4 ?_; try go_frame
 refine tp 5 ?_; try go_frame
 refine tz ?_
 go_wp2_with fail
 go_ret
 exact ⟨retb (by simp only [sGt, sLt, sEq]), HB1.out⟩
theorem ent_placeClass : ∀ args w, (callFunc 301 args).run prog w = .ok (.enter 301 args) w := Go.Proofs.enters_of func301 (by kernel_rfl) rfl
theorem findClass_calls (a : Option Addr) (n cap : Nat) (A : Where) (L : List ClassD) (s : ByteArray) (w : World) (hL : SlAt RClass 2 24 A w a n cap L) : Calls prog 291 #[.iface 152 (.agg #[]), .slice a n cap, .string s] w fun e w' => ((∃ i : Nat, i < L.length ∧ sEq (L.getD i default).1 s = true ∧ (∀ j, j < i → sEq (L.getD j default).1 s = false) ∧ e = .returned (.int .i64 i)) ∨ ((∀ j, j < L.length → sEq (L.getD j default).1 s = false) ∧ e = .returned (.int .i64 (-1)))) ∧ Below w.heap.size w w' := by
 have hb0 : Below w.heap.size w ((w.alloc (.cells #[.iface 152 (.agg #[])] 154)).alloc (.cells #[.string s] 9)) := by go_grown
 have hI := IndexClass_calls a n cap A L _ (hL.on RClass.firm hb0) (fun x => sEq x.1 s) 298 #[.pointer (some ⟨w.heap.size, 0, none⟩), .pointer (some ⟨w.heap.size + 1, 0, none⟩)] ent_findClass (find1Class s w.heap.size (w.heap.size + 1) _ (by simp; omega) (by simp) (by simp [go_sem]) (by simp [go_sem]))
 go_enter func291, ntmps291
 go_wp2_with fail
 refine hI.mono ?_
 rintro e w1 ⟨⟨i, hi, hy, hn, rfl⟩ | ⟨hn, rfl⟩, hb⟩
 ·
  have HA : Hid (∃ i' : Nat, i' < L.length ∧ sEq (L.getD i' default).1 s = true ∧ (∀ j, j < i' → sEq (L.getD j default).1 s = false) ∧ Ending.returned (.int .i64 i) = .returned (.int .i64 i')) := ⟨i, hi, hy, hn, rfl⟩
  clear hy hn hI hL
  go_wp2_with fail
  go_ret
  exact ⟨.inl HA.out, on2 hb0 hb⟩
 ·
  have HA : Hid (∀ j, j < L.length → sEq (L.getD j default).1 s = false) := hn
  clear hn hI hL
  go_wp2_with fail
  go_ret
  exact ⟨.inr ⟨HA.out, rfl⟩, on2 hb0 hb⟩
theorem placeClass_calls (a : Option Addr) (n cap : Nat) (A : Where) (L : List ClassD) (s : ByteArray) (w : World) (hL : SlAt RClass 2 24 A w a n cap L) : Calls prog 293 #[.iface 152 (.agg #[]), .slice a n cap, .string s] w fun e w' => (∃ i : Nat, i ≤ L.length ∧ (∀ j, j < i → sGt (L.getD j default).1 s = false) ∧ (i < L.length → sGt (L.getD i default).1 s = true) ∧ e = .returned (.int .i64 i)) ∧ Below w.heap.size w w' := by
 have hb0 : Below w.heap.size w ((w.alloc (.cells #[.iface 152 (.agg #[])] 154)).alloc (.cells #[.string s] 9)) := by go_grown
 have hI := IndexClass_calls a n cap A L _ (hL.on RClass.firm hb0) (fun x => sGt x.1 s) 301 #[.pointer (some ⟨w.heap.size, 0, none⟩), .pointer (some ⟨w.heap.size + 1, 0, none⟩)] ent_placeClass (place1Class s w.heap.size (w.heap.size + 1) _ (by simp; omega) (by simp) (by simp [go_sem]) (by simp [go_sem]))
 have HN : Hid (L.length = n) := hL.1
 go_enter func293, ntmps293
 go_wp2_with fail
 refine hI.mono ?_
 rintro e w1 ⟨⟨i, hi, hy, hn, rfl⟩ | ⟨hn, rfl⟩, hb⟩
 ·
  have HA : Hid (∃ i' : Nat, i' ≤ L.length ∧ (∀ j, j < i' → sGt (L.getD j default).1 s = false) ∧ (i' < L.length → sGt (L.getD i' default).1 s = true) ∧ Ending.returned (.int .i64 i) = .returned (.int .i64 i')) := ⟨i, Nat.le_of_lt hi, hn, fun _ => hy, rfl⟩
  clear hy hn hI hL
  go_wp2_with fail
  go_ret
  exact ⟨HA.out, on2 hb0 hb⟩
 ·
  have HA : Hid (∃ i' : Nat, i' ≤ L.length ∧ (∀ j, j < i' → sGt (L.getD j default).1 s = false) ∧ (i' < L.length → sGt (L.getD i' default).1 s = true) ∧ Ending.returned (.int .i64 n) = .returned (.int .i64 i')) := ⟨n, Nat.le_of_eq HN.out.symm, fun j hj => hn j (by rw [HN.out]; exact hj), fun h => by rw [HN.out] at h; omega, rfl⟩
  clear hn hI hL
  go_wp2_with fail
  go_ret
  exact ⟨HA.out, on2 hb0 hb⟩
end Go.Proofs.YtfbnnfpnjjjfcaaGreat

