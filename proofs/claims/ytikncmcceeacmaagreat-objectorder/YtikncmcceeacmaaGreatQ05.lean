/- slices.Insert and slices.Delete at Pod, over a row of one's own, and its like. No condition beyond what each says. -/
import Derived.Laws.StructEq
import Derived.Shelf.Abstract
import Derived.Test.YtikncmcceeacmaaGreatQ04
namespace Go.Proofs.YtikncmcceeacmaaGreat
set_option maxHeartbeats 16000000
set_option maxRecDepth 100000
open Tryz Go.RowKit
set_option linter.unusedSimpArgs false
theorem infPod : (prog.info? 33).map (fun i => (i.zero, i.size, i.bytes)) = some (some (.agg #[.string ⟨#[]⟩, .int .i64 0, Z, .int .i64 0, .int .i64 0, .int .i64 0, Z, Z, Z, Z, Z, Z, Z, Z, .string ⟨#[]⟩, .string ⟨#[]⟩]), 16, 296) := by kernel_rfl
theorem InsEndPod (B n vb : Nat) (v : Value) (xs vs : List Value) (w : World) (hown : Hid (w.ownsRow B 33 16 v n xs)) (hB : B ≤ w.heap.size) (hvs : Hid (w.rangeAt vb 0 vs)) (hvl : vs.length = 16) (h1v : ∀ u ∈ vs, u.oneCell' = true) (hbig : (n + 1) * 296 ≤ 140737488355328) :
  Calls prog 162 #[v, .int .i64 n, .slice (some ⟨vb, 0, none⟩) 1 1] w fun e w' => ∃ v', e = .returned v' ∧ w'.ownsRow B 33 16 v' (n + 1) (xs ++ vs) ∧ w.grownBy w' v.ownBlock ∧ (v'.ownBlock = v.ownBlock ∨ v'.ownBlock = some w.heap.size) := by
 obtain ⟨i0, hi0, hz0, hzs, hzb⟩ := info_parts infPod
 obtain ⟨v', w', hr, h2, h3, _, h5⟩ := run_append_own_at (P := prog) w B 54 54 33 i0 _ 16 296 underlying54 hi0 hz0 hzs hzb rfl (by decide) v n xs hown.out ⟨vb, 0, none⟩ 1 1 vs (by rw [hvl]) (fun j u hj => by rw [add_lit]; exact hvs.out j u hj) h1v (by unfold maxLen; omega) hbig hB
 have HR : Hid ((Builtin.append_ #[54, 54] 54 #[v, .slice (some ⟨vb, 0, none⟩) 1 1]).run prog w = .ok v' w') := hr
 have HP : Hid (w'.ownsRow B 33 16 v' (n + 1) (xs ++ vs) ∧ w.grownBy w' v.ownBlock ∧ (v'.ownBlock = v.ownBlock ∨ v'.ownBlock = some w.heap.size)) := ⟨h2, h3, h5⟩
 clear hr h2 h3 h5 hvs h1v hi0 hz0 hzs hzb
 obtain ⟨_, ⟨rfl, rfl⟩ | ⟨g, cap, cur, rfl, _, _, hcp, hcm, _⟩⟩ := hown.out
 ·
  clear hown
  go_enter func162, ntmps162
  go_wp2_with (at_builtin; refine wpList_append_run' _ rfl _ _ 54 54 rfl _ _ rfl rfl HR.out ?_)
  all_goals (go_ret; exact ⟨_, rfl, HP.out⟩)
 ·
  clear hown
  unfold maxLen at hcm
  go_enter func162, ntmps162
  go_wp2_with (at_builtin; refine wpList_append_run' _ rfl _ _ 54 54 rfl _ _ rfl rfl HR.out ?_)
  all_goals (go_ret; exact ⟨_, rfl, HP.out⟩)
theorem InsShiftPod (g cap n i vb : Nat) (cur : Array Value) (xs vs : List Value) (w : World) (hi : i < n) (hroom : n + 1 ≤ cap) (hcm : cap ≤ 9223372036854775807) (hvb : vb ≠ g)
  (hg : w.heap[g]? = some (.cells cur 33 (0, 0))) (hsz : cur.size = cap * 16) (htk : cur.toList.take (n * 16) = xs) (h1c : ∀ u ∈ xs, u.oneCell' = true)
  (hvs : w.heap[vb]? = some (.cells vs.toArray 33 (0, 0))) (hvl : vs.length = 16) (h1v : ∀ u ∈ vs, u.oneCell' = true) :
  Calls prog 162 #[.slice (some ⟨g, 0, none⟩) n cap, .int .i64 i, .slice (some ⟨vb, 0, none⟩) 1 1] w fun e w' => e = .returned (.slice (some ⟨g, 0, none⟩) (n + 1) cap) ∧ w' = (w.drew.setCells g ((i + 1) * 16) (xs.drop (i * 16))).setCells g (i * 16) vs := by
 have hz2 : ¬ ((i : Int) = (n : Int)) := by omega
 have hw1 : IntKind.i64.wrap ((i : Int) + 1) = (i : Int) + 1 := by rw [IntKind.wrap_i64]; omega
 have hb1 : (0 : Int) ≤ (i : Int) + 1 := by omega
 have hin : i ≤ n := by omega
 have htn : ((i : Int) + 1).toNat = i + 1 := by omega
 have hb2 : ¬ (cap = i + 1) := by omega
 have hb3 : (i : Int) ≤ (n : Int) + 1 := by omega
 have hb4 : ¬ (cap = i) := by omega
 have hkn : (i + 1) * 16 ≤ n * 16 := Nat.mul_le_mul_right _ hi
 have hkc : (n + 1) * 16 ≤ cap * 16 := Nat.mul_le_mul_right _ hroom
 have hxl : xs.length = n * 16 := by rw [← htk, List.length_take, Array.length_toList, hsz]; omega
 have hdl : (xs.drop (i * 16)).length = (n - i) * 16 := by rw [List.length_drop, hxl, Nat.sub_mul]
 have HOV : Hid (∀ lb cb, (callFunc 169 #[.slice (some ⟨vb, 0, none⟩) 1 1, .slice (some ⟨g, (i + 1) * 16, none⟩) lb cb]).run prog w = .ok (.value (.bool false)) w) := fun lb cb => by
  rw [run_callFunc_extern func169 (by kernel_rfl) (by kernel_rfl) (by kernel_rfl) (e := Extern.SlicesOverlaps.overlaps #[54, 54] #[4]) (by kernel_rfl),
   Lib.run_overlaps_apart w 54 4 33 underlying54 16 Tryz.sizeOf33 ⟨vb, 0, none⟩ ⟨g, (i + 1) * 16, none⟩ 1 1 lb cb hvb _ _ _ _ (shape_cells hvs) (shape_cells hg) (by rw [hsz]; omega) (row_frozen hvs) (row_frozen hvs)]
  rfl
 have hcell : ∀ j, j < cap * 16 → (w.cell? ⟨g, j, none⟩).isSome = true := fun j hj => by
  rw [row_cell hg, List.getElem?_eq_getElem (by simp; omega)]; rfl
 have hxs : ∀ j u, xs[j]? = some u → w.cell? ⟨g, j, none⟩ = some u := fun j u hj => by
  have hjl : j < n * 16 := by
   have := (List.getElem?_eq_some_iff.1 hj).1
   omega
  rw [row_cell hg, ← hj, ← htk, List.getElem?_take, if_pos hjl]
 have HC1 : Hid (∀ ty dc sc, (Builtin.copy_ #[54, 54] ty #[.slice (some ⟨g, (i + 1) * 16, none⟩) (n - i) dc, .slice (some ⟨g, i * 16, none⟩) (n + 1 - i) sc]).run prog w.drew = .ok (goInt (Nat.min (n + 1 - i) (n - i))) (w.drew.setCells g ((i + 1) * 16) (xs.drop (i * 16)))) := fun ty dc sc =>
  run_copy_k w.drew _ _ ty 33 16 g ((i + 1) * 16) (n - i) dc ⟨g, i * 16, none⟩ (n + 1 - i) sc (xs.drop (i * 16)) underlying54 itPod (by rw [hdl]; simp only [Nat.min_def]; split <;> omega)
   (fun j u hj => by rw [add_lit]; exact hxs _ u (by rwa [List.getElem?_drop] at hj))
   (fun j hj => hcell _ (by rw [hdl] at hj; rw [Nat.sub_mul] at hj; rw [Nat.add_mul] at hkc ⊢; omega)) (fun j _ => row_frozen (w := w.drew) hg) (fun u hu => h1c u (List.mem_of_mem_drop hu))
 obtain ⟨W1, hW1⟩ : ∃ W1, W1 = w.drew.setCells g ((i + 1) * 16) (xs.drop (i * 16)) := ⟨_, rfl⟩
 obtain ⟨cur1, hg1, hs1, _⟩ := row_setCells g 33 (xs.drop (i * 16)) ((i + 1) * 16) w.drew cur hg (by rw [hdl, hsz, Nat.sub_mul, Nat.add_mul]; rw [Nat.add_mul] at hkc hkn; omega)
 have hvs1 : W1.heap[vb]? = some (.cells vs.toArray 33 (0, 0)) := by
  rw [hW1, (grown_setCells (w := w.drew) (g := g) _ _).block vb (lt_of_heap hvs) (by simpa using hvb)]
  exact hvs
 rw [← hW1] at hg1
 have HC2 : Hid (∀ ty dc, (Builtin.copy_ #[54, 54] ty #[.slice (some ⟨g, i * 16, none⟩) (n + 1 - i) dc, .slice (some ⟨vb, 0, none⟩) 1 1]).run prog W1 = .ok (goInt (Nat.min 1 (n + 1 - i))) (W1.setCells g (i * 16) vs)) := fun ty dc =>
  run_copy_k W1 _ _ ty 33 16 g (i * 16) (n + 1 - i) dc ⟨vb, 0, none⟩ 1 1 vs underlying54 itPod (by rw [hvl]; simp only [Nat.min_def]; split <;> omega)
   (fun j u hj => by rw [add_lit, row_cell hvs1]; simpa using hj)
   (fun j hj => by rw [row_cell hg1, List.getElem?_eq_getElem (by rw [hvl] at hj; rw [Array.length_toList, hs1, hsz]; rw [Nat.add_mul] at hkn; omega)]; rfl) (fun j _ => row_frozen hg1) h1v
 have HW : Hid (W1 = w.drew.setCells g ((i + 1) * 16) (xs.drop (i * 16))) := hW1
 have HC1' : Hid (∀ ty dc sc, (Builtin.copy_ #[54, 54] ty #[.slice (some ⟨g, (i + 1) * 16, none⟩) (n - i) dc, .slice (some ⟨g, i * 16, none⟩) (n + 1 - i) sc]).run prog w.drew = .ok (goInt (Nat.min (n + 1 - i) (n - i))) W1) := by
  intro ty dc sc; rw [hW1]; exact HC1.out ty dc sc
 rw [← hW1]
 clear hg hsz htk h1c hvs hvl h1v hkn hkc hxl hdl hcell hxs HC1 hW1 hg1 hs1 hvs1
 go_enter func162, ntmps162
 go_wp2_with fail
 simp only [HOV.out]
 go_wp2_with fail
 refine t0 (fun _ => True) (trivial) (fun hH => ?_)
 refine tp 0 ?_; try go_frame
 refine tp 1 ?_; try go_frame
 refine tp 2 ?_; try go_frame
 refine tp 3 ?_; try go_frame
 refine tp 4 ?_; try go_frame
 refine tp 5 ?_; try go_frame
 refine tp 6 ?_; try go_frame
 refine tp 7 ?_; try go_frame
 first | refine tr 8 (fun K hK => ?_) | refine ts 8 (fun K hK => ?_)
 refine want_yes (by rfl) (wp_copy_run _ _ _ 54 54 rfl _ _ rfl rfl (HC1'.out _ _ _) ?_)
 refine hK.out _ _ trivial (fun hH => ?_)
 clear hK K
 try go_frame
 refine tz ?_
 go_wp2_with fail
 rw [HC2.out]
 go_wp2_with fail
 go_ret
 exact ⟨rfl, rfl⟩
theorem InsGrowPod (g cap n i vb : Nat) (cur : Array Value) (xs vs : List Value) (w : World) (hi : i < n) (hnc : n ≤ cap) (hroom : cap < n + 1) (hbig : (n + 1) * 296 ≤ 140737488355328)
  (hg : w.heap[g]? = some (.cells cur 33 (0, 0))) (hsz : cur.size = cap * 16) (htk : cur.toList.take (n * 16) = xs) (h1c : ∀ u ∈ xs, u.oneCell' = true)
  (hvs : w.heap[vb]? = some (.cells vs.toArray 33 (0, 0))) (hvl : vs.length = 16) (h1v : ∀ u ∈ vs, u.oneCell' = true) :
  Calls prog 162 #[.slice (some ⟨g, 0, none⟩) n cap, .int .i64 i, .slice (some ⟨vb, 0, none⟩) 1 1] w fun e w' => ∃ G, n + 1 ≤ G ∧ G ≤ maxLen ∧ e = .returned (.slice (some ⟨w.heap.size, 0, none⟩) (n + 1) G) ∧ ∃ row : Array Value, row.size = G * 16 ∧ row.toList.take ((n + 1) * 16) = xs.take (i * 16) ++ vs ++ xs.drop (i * 16) ∧ w'.heap[w.heap.size]? = some (.cells row 33 (0, 0)) ∧ w.grownBy w' none := by
 obtain ⟨i0, hi0, hz0, hzs, hzb⟩ := info_parts infPod
 have hz2 : ¬ ((i : Int) = (n : Int)) := by omega
 have hz3 : (cap : Int) < (n : Int) + 1 := by omega
 have hw1 : IntKind.i64.wrap ((i : Int) + 1) = (i : Int) + 1 := by rw [IntKind.wrap_i64]; omega
 have hb1 : (0 : Int) ≤ (i : Int) + 1 := by omega
 have hin : i ≤ n := by omega
 have htn : ((i : Int) + 1).toNat = i + 1 := by omega
 have hb3 : (i : Int) ≤ (n : Int) := by omega
 have hci : ¬ (cap = i) := by omega
 have hkn : (i + 1) * 16 ≤ n * 16 := Nat.mul_le_mul_right _ hi
 have hkc : n * 16 ≤ cap * 16 := Nat.mul_le_mul_right _ hnc
 have hxl : xs.length = n * 16 := by rw [← htk, List.length_take, Array.length_toList, hsz]; omega
 have hdl : (xs.drop (i * 16)).length = (n - i) * 16 := by rw [List.length_drop, hxl, Nat.sub_mul]
 have hxs : ∀ j u, xs[j]? = some u → w.cell? ⟨g, j, none⟩ = some u := fun j u hj => by
  have hjl : j < n * 16 := by
   have := (List.getElem?_eq_some_iff.1 hj).1
   omega
  rw [row_cell hg, ← hj, ← htk, List.getElem?_take, if_pos hjl]
 have hold : (Builtin.firstCells i0.size i (.slice (some ⟨g, 0, none⟩) i cap)).run prog w.drew = .ok (xs.take (i * 16)).toArray w.drew := by
  rw [hzs]
  exact run_firstCells_some w.drew 16 i ⟨g, 0, none⟩ i cap (xs.take (i * 16)) (by rw [List.length_take, hxl]; omega) (fun j u hj => by
   rw [add_lit, Nat.zero_add]
   rw [List.getElem?_take] at hj
   split at hj
   ·
    exact hxs j u hj
   ·
    cases hj)
 have hkk : (n : Int) + 1 - (i : Int) = ((n + 1 - i : Nat) : Int) := by omega
 have hik : i + (n + 1 - i) = n + 1 := by omega
 have hrz : ∀ ty, (Builtin.append_ #[54, 3] ty #[.slice (some ⟨g, 0, none⟩) i cap, .int .i64 ((n : Int) + 1 - (i : Int))]).run prog w =
   .ok (.slice (some ⟨w.heap.size, 0, none⟩) (n + 1) (grownCap w (n + 1) cap 33)) (w.drew.alloc (.cells ((xs.take (i * 16)).toArray ++ Builtin.zeroCells (Value.agg #[.string ⟨#[]⟩, .int .i64 0, Z, .int .i64 0, .int .i64 0, .int .i64 0, Z, Z, Z, Z, Z, Z, Z, Z, .string ⟨#[]⟩, .string ⟨#[]⟩]).cells (n + 1 - i) ++ Builtin.zeroCells (Value.agg #[.string ⟨#[]⟩, .int .i64 0, Z, .int .i64 0, .int .i64 0, .int .i64 0, Z, Z, Z, Z, Z, Z, Z, Z, .string ⟨#[]⟩, .string ⟨#[]⟩]).cells (grownCap w (n + 1) cap 33 - (n + 1))) 33)) := fun ty => by
  have h := Lib.run_append_grow_zeros w 54 3 ty 33 i0 _ .i64 .i64 underlying54 underlying3 hi0 hz0 (some ⟨g, 0, none⟩) i cap (xs.take (i * 16)) hold (n + 1 - i) (by omega) (by omega) (by omega) (by omega) (by rw [hzb]; omega) (by rw [hzb, hik]; exact growslice_fits hroom hbig)
  rw [hik] at h
  rw [hkk]
  exact h
 obtain ⟨G, hG⟩ : ∃ G, G = grownCap w (n + 1) cap 33 := ⟨_, rfl⟩
 have hGn : n + 1 ≤ G := by rw [hG]; exact grownCap_ge w _ _ _
 have hGm : G ≤ maxLen := by rw [hG]; exact grownCap_le_maxLen w (n + 1) cap 33 (by unfold maxLen; omega)
 obtain ⟨ROW, hROW⟩ : ∃ ROW : Array Value, ROW = (xs.take (i * 16)).toArray ++ Builtin.zeroCells (Value.agg #[.string ⟨#[]⟩, .int .i64 0, Z, .int .i64 0, .int .i64 0, .int .i64 0, Z, Z, Z, Z, Z, Z, Z, Z, .string ⟨#[]⟩, .string ⟨#[]⟩]).cells (n + 1 - i) ++ Builtin.zeroCells (Value.agg #[.string ⟨#[]⟩, .int .i64 0, Z, .int .i64 0, .int .i64 0, .int .i64 0, Z, Z, Z, Z, Z, Z, Z, Z, .string ⟨#[]⟩, .string ⟨#[]⟩]).cells (G - (n + 1)) := ⟨_, rfl⟩
 rw [← hG] at hrz
 rw [← hROW] at hrz
 have hRl : ROW.size = G * 16 := by
  rw [hROW]
  simp only [Array.size_append, List.size_toArray, size_zeroCells, List.length_take, hxl, Value.cells]
  simp only [List.size_toArray, List.length_cons, List.length_nil]
  omega
 have hRt : ROW.toList.take (i * 16) = xs.take (i * 16) := by
  rw [hROW, Array.toList_append, Array.toList_append, List.toList_toArray, List.append_assoc, List.take_append_of_le_length (by rw [List.length_take, hxl]; omega), List.take_take, Nat.min_self]
 obtain ⟨W1, hW1⟩ : ∃ W1, W1 = w.drew.alloc (.cells ROW 33) := ⟨_, rfl⟩
 rw [← hW1] at hrz
 have hn1 : W1.heap[w.heap.size]? = some (.cells ROW 33 (0, 0)) := by rw [hW1]; exact heap_new w.drew _ _ rfl
 have hg1 : W1.heap[g]? = some (.cells cur 33 (0, 0)) := by rw [hW1, Below.heap_alloc w.drew _ g (lt_of_heap hg)]; exact hg
 have hv1 : W1.heap[vb]? = some (.cells vs.toArray 33 (0, 0)) := by rw [hW1, Below.heap_alloc w.drew _ vb (lt_of_heap hvs)]; exact hvs
 have hgr1 : w.grownBy W1 none := ⟨by rw [hW1]; rfl, by rw [hW1]; rfl, by rw [hW1]; rfl, by rw [hW1]; simp, fun k hk _ => by rw [hW1]; exact Below.heap_alloc w.drew _ k hk⟩
 obtain ⟨row2, hn2, hs2, ht2⟩ := row_setCells w.heap.size 33 vs (i * 16) W1 ROW hn1 (by rw [hvl, hRl]; omega)
 obtain ⟨W2, hW2⟩ : ∃ W2, W2 = W1.setCells w.heap.size (i * 16) vs := ⟨_, rfl⟩
 rw [← hW2] at hn2
 have hgN : g ≠ w.heap.size := Nat.ne_of_lt (lt_of_heap hg)
 have hg2 : W2.heap[g]? = some (.cells cur 33 (0, 0)) := by
  rw [hW2, (grown_setCells (w := W1) (g := w.heap.size) _ _).block g (lt_of_heap hg1) (by simpa using hgN)]; exact hg1
 obtain ⟨row3, hn3, hs3, ht3⟩ := row_setCells w.heap.size 33 (xs.drop (i * 16)) ((i + 1) * 16) W2.drew row2 hn2 (by rw [hdl, hs2, hRl]; omega)
 obtain ⟨W3, hW3⟩ : ∃ W3, W3 = W2.drew.setCells w.heap.size ((i + 1) * 16) (xs.drop (i * 16)) := ⟨_, rfl⟩
 rw [← hW3] at hn3
 have HCA : Hid (∀ ty dc, (Builtin.copy_ #[54, 54] ty #[.slice (some ⟨w.heap.size, i * 16, none⟩) (n + 1 - i) dc, .slice (some ⟨vb, 0, none⟩) 1 1]).run prog W1 = .ok (goInt (Nat.min 1 (n + 1 - i))) W2) := fun ty dc => by
  rw [hW2]
  exact run_copy_k W1 _ _ ty 33 16 w.heap.size (i * 16) (n + 1 - i) dc ⟨vb, 0, none⟩ 1 1 vs underlying54 itPod (by rw [hvl]; simp only [Nat.min_def]; split <;> omega)
   (fun j u hj => by rw [add_lit, row_cell hv1]; simpa using hj)
   (fun j hj => by rw [row_cell hn1, List.getElem?_eq_getElem (by rw [hvl] at hj; rw [Array.length_toList, hRl]; omega)]; rfl) (fun j _ => row_frozen hn1) h1v
 have HCB : Hid (∀ ty dc sc, (Builtin.copy_ #[54, 54] ty #[.slice (some ⟨w.heap.size, (i + 1) * 16, none⟩) (n - i) dc, .slice (some ⟨g, i * 16, none⟩) (n - i) sc]).run prog W2.drew = .ok (goInt (Nat.min (n - i) (n - i))) W3) := fun ty dc sc => by
  rw [hW3]
  exact run_copy_k W2.drew _ _ ty 33 16 w.heap.size ((i + 1) * 16) (n - i) dc ⟨g, i * 16, none⟩ (n - i) sc (xs.drop (i * 16)) underlying54 itPod (by rw [hdl]; simp only [Nat.min_def]; split <;> omega)
   (fun j u hj => by
    rw [add_lit, row_cell (w := W2.drew) hg2]
    have := hxs (i * 16 + j) u (by rwa [List.getElem?_drop] at hj)
    rwa [row_cell hg] at this)
   (fun j hj => by rw [row_cell (w := W2.drew) hn2, List.getElem?_eq_getElem (by rw [hdl] at hj; rw [Array.length_toList, hs2, hRl]; omega)]; rfl) (fun j _ => row_frozen (w := W2.drew) hn2) (fun u hu => h1c u (List.mem_of_mem_drop hu))
 have HRZ : Hid (∀ ty, (Builtin.append_ #[54, 3] ty #[.slice (some ⟨g, 0, none⟩) i cap, .int .i64 ((n : Int) + 1 - (i : Int))]).run prog w = .ok (.slice (some ⟨w.heap.size, 0, none⟩) (n + 1) G) W1) := hrz
 have HP : Hid (∃ row : Array Value, row.size = G * 16 ∧ row.toList.take ((n + 1) * 16) = xs.take (i * 16) ++ vs ++ xs.drop (i * 16) ∧ W3.heap[w.heap.size]? = some (.cells row 33 (0, 0)) ∧ w.grownBy W3 none) := by
  refine ⟨row3, by rw [hs3, hs2, hRl], ?_, hn3, ?_⟩
  ·
   have e2 : row2.toList.take ((i + 1) * 16) = xs.take (i * 16) ++ vs := by
    rw [ht2, hRt]
    rw [List.take_append_of_le_length (by simp only [List.length_append, List.length_take, hxl, hvl]; omega), List.take_of_length_le (by simp only [List.length_append, List.length_take, hxl, hvl]; omega)]
   rw [ht3, e2, List.take_append_of_le_length (by simp only [List.length_append, List.length_take, hxl, hvl, hdl]; omega), List.take_of_length_le (by simp only [List.length_append, List.length_take, hxl, hvl, hdl]; omega)]
  ·
   have s1 : w.heap.size < W1.heap.size := lt_of_heap hn1
   refine ⟨?_, ?_, ?_, ?_, fun k hk _ => ?_⟩
   ·
    rw [hW3, (grown_setCells (w := W2.drew) (g := w.heap.size) _ _).os]; show W2.os = _; rw [hW2, (grown_setCells (w := W1) (g := w.heap.size) _ _).os]; exact hgr1.os
   ·
    rw [hW3, (grown_setCells (w := W2.drew) (g := w.heap.size) _ _).tape]; show W2.tape = _; rw [hW2, (grown_setCells (w := W1) (g := w.heap.size) _ _).tape]; exact hgr1.tape
   ·
    rw [hW3, (grown_setCells (w := W2.drew) (g := w.heap.size) _ _).output]; show W2.output = _; rw [hW2, (grown_setCells (w := W1) (g := w.heap.size) _ _).output]; exact hgr1.output
   ·
    rw [hW3, size_setCells]; show _ ≤ W2.heap.size; rw [hW2, size_setCells]; exact hgr1.size
   ·
    have hne : some k ≠ some w.heap.size := by simp; omega
    rw [hW3, (grown_setCells (w := W2.drew) (g := w.heap.size) _ _).block k (by show k < W2.heap.size; rw [hW2, size_setCells]; omega) hne]
    show W2.heap[k]? = _
    rw [hW2, (grown_setCells (w := W1) (g := w.heap.size) _ _).block k (by omega) hne]
    exact hgr1.block k hk (by simp)
 have hGi : ¬ (G = i) := by omega
 have hGim : ¬ (G = i + 1) := by omega
 have hG63 : G ≤ 9223372036854775807 := by unfold maxLen at hGm; exact hGm
 have HG1 : Hid (n + 1 ≤ G ∧ G ≤ maxLen) := ⟨hGn, hGm⟩
 have HW1 : Hid (W1.heap.size = W1.heap.size) := rfl
 clear hrz hold hROW hG hRl hRt hn1 hg1 hv1 hgr1 hn2 hs2 ht2 hW2 hg2 hn3 hs3 ht3 hW3 hW1 hxs hdl hxl hkn hkc hg hsz htk h1c hvs hvl h1v hi0 hz0 hzs hzb hkk hik hGm hgN HW1
 go_enter func162, ntmps162
 go_wp2_with (at_builtin; refine wpList_append_run' _ rfl _ _ 54 3 rfl _ _ rfl rfl (HRZ.out _) ?_)
 rw [HCA.out]
 go_wp2_with fail
 refine t0 (fun _ => True) (trivial) (fun hH => ?_)
 refine tp 0 ?_; try go_frame
 refine tp 1 ?_; try go_frame
 refine tp 2 ?_; try go_frame
 refine tp 3 ?_; try go_frame
 refine tp 4 ?_; try go_frame
 refine tp 5 ?_; try go_frame
 refine tp 6 ?_; try go_frame
 refine tp 7 ?_; try go_frame
 first | refine tr 8 (fun K hK => ?_) | refine ts 8 (fun K hK => ?_)
 refine want_yes (by rfl) (wp_copy_run _ _ _ 54 54 rfl _ _ rfl rfl (HCB.out _ _ _) ?_)
 refine hK.out _ _ trivial (fun hH => ?_)
 clear hK K
 try go_frame
 refine tz ?_
 go_wp2_with fail
 go_ret
 exact ⟨G, HG1.out.1, HG1.out.2, rfl, HP.out⟩
theorem InsPod (B n i vb : Nat) (v : Value) (xs vs : List Value) (w : World) (hown : w.ownsRow B 33 16 v n xs) (hB : B ≤ w.heap.size) (hvs : w.heap[vb]? = some (.cells vs.toArray 33 (0, 0))) (hvo : v.ownBlock ≠ some vb) (hvl : vs.length = 16) (h1c : ∀ u ∈ xs, u.oneCell' = true) (h1v : ∀ u ∈ vs, u.oneCell' = true) (hi : i ≤ n) (hbig : (n + 1) * 296 ≤ 140737488355328) :
  Calls prog 162 #[v, .int .i64 i, .slice (some ⟨vb, 0, none⟩) 1 1] w fun e w' => ∃ v', e = .returned v' ∧ w'.ownsRow B 33 16 v' (n + 1) (xs.take (i * 16) ++ vs ++ xs.drop (i * 16)) ∧ w.grownBy w' v.ownBlock ∧ (v'.ownBlock = v.ownBlock ∨ v'.ownBlock = some w.heap.size) := by
 have hxl := hown.1
 rcases Nat.lt_or_ge i n with h | h
 ·
  obtain ⟨_, ⟨rfl, h0⟩ | ⟨g, cap, cur, rfl, hBg, hg, hcp, hcm, hsz, htk⟩⟩ := hown
  ·
   omega
  ·
   have hvb : vb ≠ g := fun e => hvo (by rw [e]; rfl)
   rcases Nat.lt_or_ge cap (n + 1) with hr | hr
   ·
    refine (InsGrowPod g cap n i vb cur xs vs w h hcp hr hbig hg hsz htk h1c hvs hvl h1v).mono ?_
    rintro e w' ⟨G, hG1, hG2, rfl, row, hr1, hr2, hr3, hgr⟩
    refine ⟨_, rfl, ⟨by simp only [List.length_append, List.length_take, List.length_drop, hvl, hxl]; omega, .inr ⟨w.heap.size, G, row, rfl, hB, hr3, hG1, hG2, hr1, hr2⟩⟩, ⟨hgr.os, hgr.tape, hgr.output, hgr.size, fun k hk _ => hgr.block k hk (by simp)⟩, .inr rfl⟩
   ·
    refine (InsShiftPod g cap n i vb cur xs vs w h hr (by unfold maxLen at hcm; exact hcm) hvb hg hsz htk h1c hvs hvl h1v).mono ?_
    rintro e w' ⟨rfl, rfl⟩
    have hkn : (i + 1) * 16 ≤ n * 16 := Nat.mul_le_mul_right _ h
    have hkc : (n + 1) * 16 ≤ cap * 16 := Nat.mul_le_mul_right _ hr
    have hdl : (xs.drop (i * 16)).length = (n - i) * 16 := by rw [List.length_drop, hxl, Nat.sub_mul]
    obtain ⟨cur1, hg1, hs1, ht1⟩ := row_setCells g 33 (xs.drop (i * 16)) ((i + 1) * 16) w.drew cur hg (by rw [hdl, hsz]; omega)
    obtain ⟨cur2, hg2, hs2, ht2⟩ := row_setCells g 33 vs (i * 16) _ cur1 hg1 (by rw [hvl, hs1, hsz]; omega)
    refine ⟨_, rfl, ⟨by simp only [List.length_append, List.length_take, List.length_drop, hvl, hxl]; omega, .inr ⟨g, cap, cur2, rfl, hBg, hg2, by omega, hcm, by rw [hs2, hs1, hsz], ?_⟩⟩, grown_trans grown_drew (grown_trans (grown_setCells _ _) (grown_setCells _ _)), .inl rfl⟩
    have hcl : cur.toList.length = cap * 16 := by rw [Array.length_toList, hsz]
    have e0 : cur.toList.take (i * 16) = xs.take (i * 16) := by rw [← htk, List.take_take]; congr 1; omega
    have e1 : cur1.toList.take (i * 16) = xs.take (i * 16) := by
     rw [ht1, List.append_assoc, List.take_append_of_le_length (by rw [List.length_take, hcl]; omega), List.take_take, show min (i * 16) ((i + 1) * 16) = i * 16 by omega, e0]
    have e2 : cur1.toList.drop (i * 16 + 16) = xs.drop (i * 16) ++ cur.toList.drop ((i + 1) * 16 + (n - i) * 16) := by
     have hl0 : (cur.toList.take ((i + 1) * 16)).length = i * 16 + 16 := by rw [List.length_take, hcl]; omega
     rw [ht1, List.append_assoc, List.drop_append_of_le_length (by omega), List.drop_of_length_le (by omega), List.nil_append, hdl]
    rw [ht2, hvl, e1, e2, ← List.append_assoc, List.take_append_of_le_length (by simp only [List.length_append, List.length_take, List.length_drop, hvl, hxl]; omega), List.take_of_length_le (by simp only [List.length_append, List.length_take, List.length_drop, hvl, hxl]; omega)]
 ·
  obtain rfl : i = n := by omega
  refine (InsEndPod B i vb v xs vs w hown hB (fun j u hj => ?_) hvl h1v hbig).mono ?_
  ·
   rw [row_cell hvs, Nat.zero_add]; simpa using hj
  ·
   rintro e w' ⟨v', rfl, h2, h3, h5⟩
   refine ⟨v', rfl, ?_, h3, h5⟩
   rw [List.take_of_length_le (by omega), List.drop_of_length_le (by omega), List.append_nil]
   exact h2
theorem sizPod : (prog.info? 33).map (·.size) = some 16 := by kernel_rfl
theorem Pod_member (p c q : List Value) (hp : p.length = 1) (hc : c.length = 16) (h1 : ∀ v ∈ c, v.oneCell' = true) (w : World) : Calls prog 339 #[.agg #[], .agg (p ++ (c ++ q)).toArray] w fun e w' => e = .returned (.agg c.toArray) ∧ Below w.heap.size w w' := by
 have hi : (prog.info? 33).map (·.size) = some c.length := by rw [hc]; exact sizPod
 have Hr : ∀ T z, Hid ((((w.alloc (.cells #[] T)).alloc (.cells (p ++ (c ++ q)).toArray 46)).alloc (.cells z 33)).rangeAt (w.heap.size + 1) 1 c) := fun T z => World.rangeAt_alloc (range_new (by simp) hp) _
 have Ht : ∀ T z, z.size = 16 → Hid ((((w.alloc (.cells #[] T)).alloc (.cells (p ++ (c ++ q)).toArray 46)).alloc (.cells z 33)).there (w.heap.size + 1 + 1) 0 c.toArray.size) := fun T z hz => there_new (by simp) (by simp [hc, hz])
 have h1' := all_oneCell_toArray h1
 have HE : Hid (c.toArray.size = 16) := by simp [Hid, hc]
 clear hp hc h1
 go_enter func339, ntmps339
 go_wp2_with (first | (refine wpList_load_mid rfl 33 _ rfl (w.heap.size + 1) 1 rfl c _ (Hr _ _).out underlying33 rfl hi ?_) | (refine wpList_store_mid rfl 33 _ _ rfl (w.heap.size + 1 + 1) 0 c.toArray rfl rfl (Ht _ _ rfl).out (by simpa using hi) h1' ?_))
 have HT := (Ht 132 #[.string ⟨#[]⟩, .int .i64 0, Z, .int .i64 0, .int .i64 0, .int .i64 0, Z, Z, Z, Z, Z, Z, Z, Z, .string ⟨#[]⟩, .string ⟨#[]⟩] rfl).out
 refine bodyPost_ret (v := .agg c.toArray) (res_cell (p := 4) (ty := 33) rfl _ _ (w.heap.size + 1 + 1) c _ rfl (World.rangeAt_setCells_same _ _ _ _ (by simpa using HT)) underlying33 rfl hi) rfl ⟨rfl, below_setCells (by go_grown) (by omega)⟩
theorem Pod_with (h0 h1 h2 h3 h4 h5 h : Hd) (w : World) : Calls prog 341 #[.agg #[], .agg #[J h0, J h1, J h2, J h3, J h4, J h5], J h] w fun e w' => e = .returned (.agg #[J h, J h1, J h2, J h3, J h4, J h5]) ∧ Below w.heap.size w w' := by
 go_enter func341, ntmps341
 go_wp2_with fail
 refine bodyPost_ret (v := .agg #[J h, J h1, J h2, J h3, J h4, J h5]) (by simp [results, results341, go_sem]) rfl ⟨rfl, by go_grown⟩
theorem areAmounts_calls (r : ResD) (w : World) : Calls prog 102 #[.agg #[.int .i64 r.1, .int .i64 r.2.1, .int .i64 r.2.2]] w fun e w' => e = .returned (.bool (resB r)) ∧ Below w.heap.size w w' := by
 have HH0 : Hid (Held w [(w.heap.size, [.int .i64 r.1, .int .i64 r.2.1, .int .i64 r.2.2])] [] (w.alloc (.cells #[.int .i64 r.1, .int .i64 r.2.1, .int .i64 r.2.2] 24))) := ((Held.start w).push rfl [.int .i64 r.1, .int .i64 r.2.1, .int .i64 r.2.2] 24)
 obtain ⟨b0, e0⟩ : ∃ b : Bool, amountB r.1 = b := ⟨_, rfl⟩
 obtain ⟨b1, e1⟩ : ∃ b : Bool, amountB r.2.1 = b := ⟨_, rfl⟩
 obtain ⟨b2, e2⟩ : ∃ b : Bool, amountB r.2.2 = b := ⟨_, rfl⟩
 have HF : Hid (resB r = (b0 && b1 && b2)) := by rw [Hid, ← e0, ← e1, ← e2]; rfl
 have HC0 : Hid (∀ u, Below w.heap.size w u → Calls prog 119 #[.int .i64 r.1] u fun e w' => e = .returned (.bool b0) ∧ Below u.heap.size u w') := fun u hu => by rw [← e0]; exact calls_same (isAmount_calls r.1 _)
 clear e0
 have HC1 : Hid (∀ u, Below w.heap.size w u → Calls prog 119 #[.int .i64 r.2.1] u fun e w' => e = .returned (.bool b1) ∧ Below u.heap.size u w') := fun u hu => by rw [← e1]; exact calls_same (isAmount_calls r.2.1 _)
 clear e1
 have HC2 : Hid (∀ u, Below w.heap.size w u → Calls prog 119 #[.int .i64 r.2.2] u fun e w' => e = .returned (.bool b2) ∧ Below u.heap.size u w') := fun u hu => by rw [← e2]; exact calls_same (isAmount_calls r.2.2 _)
 clear e2
 go_enter func102, ntmps102
 go_wp2_with fail
 refine (HC0.out _ HH0.out.below).mono ?_
 rintro e u1 ⟨rfl, hb1⟩
 have HH1 : Hid (Held w [(w.heap.size, [.int .i64 r.1, .int .i64 r.2.1, .int .i64 r.2.2])] [] u1) := HH0.out.on hb1
 clear hb1 HH0 HC0
 cases b0
 ·
  clear HC1 HC2
  go_wp2_with fail
  go_ret
  exact ⟨retb (by rw [HF.out] <;> simp), HH1.out.below⟩
 have k0_1 := HH1.out.cell 0 (b := w.heap.size) rfl 1 rfl
 have kl0 := HH1.out.lt 0 rfl
 go_wp2_with fail
 clear k0_1 kl0
 refine (HC1.out _ HH1.out.below).mono ?_
 rintro e u2 ⟨rfl, hb2⟩
 have HH2 : Hid (Held w [(w.heap.size, [.int .i64 r.1, .int .i64 r.2.1, .int .i64 r.2.2])] [] u2) := HH1.out.on hb2
 clear hb2 HH1 HC1
 cases b1
 ·
  clear HC2
  go_wp2_with fail
  go_ret
  exact ⟨retb (by rw [HF.out] <;> simp), HH2.out.below⟩
 have k1_2 := HH2.out.cell 0 (b := w.heap.size) rfl 2 rfl
 have kl1 := HH2.out.lt 0 rfl
 go_wp2_with fail
 clear k1_2 kl1
 refine (HC2.out _ HH2.out.below).mono ?_
 rintro e u3 ⟨rfl, hb3⟩
 have HH3 : Hid (Held w [(w.heap.size, [.int .i64 r.1, .int .i64 r.2.1, .int .i64 r.2.2])] [] u3) := HH2.out.on hb3
 clear hb3 HH2 HC2
 cases b2
 ·
  skip
  go_wp2_with fail
  go_ret
  exact ⟨retb (by rw [HF.out] <;> simp), HH3.out.below⟩
 go_wp2_with fail
 go_ret
 exact ⟨retb (by rw [HF.out] <;> simp), HH3.out.below⟩
theorem isPrefer_calls (c : List Value) (A : Where) (x : PreferD) (w : World) (h : Hid (RPrefer A w c x)) : Calls prog 104 #[.agg c.toArray] w fun e w' => e = .returned (.bool (preferB x)) ∧ Below w.heap.size w w' := by
 obtain ⟨h0, rfl, hs⟩ := h.out.out
 have HS : Hid (SlAt RReq 3 48 A w h0.1 h0.2.1 h0.2.2 x.1) := hs
 clear h hs
 have HH0 : Hid (Held w [(w.heap.size, [J h0, .int .i64 x.2])] [] (w.alloc (.cells #[J h0, .int .i64 x.2] 108))) := ((Held.start w).push rfl [J h0, .int .i64 x.2] 108)
 obtain ⟨b0, e0⟩ : ∃ b : Bool, reqsB x.1 = b := ⟨_, rfl⟩
 obtain ⟨b1, e1⟩ : ∃ b : Bool, withinB x.2 1 100 = b := ⟨_, rfl⟩
 have HF : Hid (preferB x = (b0 && b1)) := by rw [Hid, ← e0, ← e1]; rfl
 have HC0 : Hid (∀ u, Below w.heap.size w u → Calls prog 100 #[J h0] u fun e w' => e = .returned (.bool b0) ∧ Below u.heap.size u w') := fun u hu => by rw [← e0]; exact areReqs_calls _ _ _ A x.1 _ (HS.out.kept RReq.firm (Kept.below hu))
 clear e0
 have HC1 : Hid (∀ u, Below w.heap.size w u → Calls prog 98 #[.int .i64 x.2, .int .i64 1, .int .i64 100] u fun e w' => e = .returned (.bool b1) ∧ Below u.heap.size u w') := fun u hu => by rw [← e1]; exact calls_same (within_calls x.2 1 100 _)
 clear e1
 go_enter func104, ntmps104
 go_wp2_with fail
 refine (HC0.out _ HH0.out.below).mono ?_
 rintro e u1 ⟨rfl, hb1⟩
 have HH1 : Hid (Held w [(w.heap.size, [J h0, .int .i64 x.2])] [] u1) := HH0.out.on hb1
 clear hb1 HH0 HC0
 cases b0
 ·
  clear HC1
  go_wp2_with fail
  go_ret
  exact ⟨retb (by rw [HF.out] <;> simp), HH1.out.below⟩
 have k0_1 := HH1.out.cell 0 (b := w.heap.size) rfl 1 rfl
 have kl0 := HH1.out.lt 0 rfl
 go_wp2_with fail
 clear k0_1 kl0
 refine (HC1.out _ HH1.out.below).mono ?_
 rintro e u2 ⟨rfl, hb2⟩
 have HH2 : Hid (Held w [(w.heap.size, [J h0, .int .i64 x.2])] [] u2) := HH1.out.on hb2
 clear hb2 HH1 HC1
 cases b1
 ·
  skip
  go_wp2_with fail
  go_ret
  exact ⟨retb (by rw [HF.out] <;> simp), HH2.out.below⟩
 go_wp2_with fail
 go_ret
 exact ⟨retb (by rw [HF.out] <;> simp), HH2.out.below⟩
theorem isTerm_calls (c : List Value) (A : Where) (x : TermD) (w : World) (h : Hid (RTerm A w c x)) : Calls prog 109 #[.agg c.toArray] w fun e w' => e = .returned (.bool (termB x)) ∧ Below w.heap.size w w' := by
 obtain ⟨h0, rfl, hs, _⟩ := h.out.out
 have HS : Hid (SlAt RReq 3 48 A w h0.1 h0.2.1 h0.2.2 x.1) := hs
 clear h hs
 have HH0 : Hid (Held w [(w.heap.size, [J h0, .string x.2])] [] (w.alloc (.cells #[J h0, .string x.2] 171))) := ((Held.start w).push rfl [J h0, .string x.2] 171)
 obtain ⟨b0, e0⟩ : ∃ b : Bool, reqsB x.1 = b := ⟨_, rfl⟩
 obtain ⟨b1, e1⟩ : ∃ b : Bool, wordB x.2 = b := ⟨_, rfl⟩
 have HF : Hid (termB x = (b0 && b1)) := by rw [Hid, ← e0, ← e1]; rfl
 have HC0 : Hid (∀ u, Below w.heap.size w u → Calls prog 100 #[J h0] u fun e w' => e = .returned (.bool b0) ∧ Below u.heap.size u w') := fun u hu => by rw [← e0]; exact areReqs_calls _ _ _ A x.1 _ (HS.out.kept RReq.firm (Kept.below hu))
 clear e0
 have HC1 : Hid (∀ u, Below w.heap.size w u → Calls prog 97 #[.string x.2] u fun e w' => e = .returned (.bool b1) ∧ Below u.heap.size u w') := fun u hu => by rw [← e1]; exact calls_same (Word_calls x.2 _)
 clear e1
 go_enter func109, ntmps109
 go_wp2_with fail
 refine (HC0.out _ HH0.out.below).mono ?_
 rintro e u1 ⟨rfl, hb1⟩
 have HH1 : Hid (Held w [(w.heap.size, [J h0, .string x.2])] [] u1) := HH0.out.on hb1
 clear hb1 HH0 HC0
 cases b0
 ·
  clear HC1
  go_wp2_with fail
  go_ret
  exact ⟨retb (by rw [HF.out] <;> simp), HH1.out.below⟩
 have k0_1 := HH1.out.cell 0 (b := w.heap.size) rfl 1 rfl
 have kl0 := HH1.out.lt 0 rfl
 go_wp2_with fail
 clear k0_1 kl0
 refine (HC1.out _ HH1.out.below).mono ?_
 rintro e u2 ⟨rfl, hb2⟩
 have HH2 : Hid (Held w [(w.heap.size, [J h0, .string x.2])] [] u2) := HH1.out.on hb2
 clear hb2 HH1 HC1
 cases b1
 ·
  skip
  go_wp2_with fail
  go_ret
  exact ⟨retb (by rw [HF.out] <;> simp), HH2.out.below⟩
 go_wp2_with fail
 go_ret
 exact ⟨retb (by rw [HF.out] <;> simp), HH2.out.below⟩
theorem isSpread_calls (c : List Value) (A : Where) (x : SpreadD) (w : World) (h : Hid (RSpread A w c x)) : Calls prog 111 #[.agg c.toArray] w fun e w' => e = .returned (.bool (spreadB x)) ∧ Below w.heap.size w w' := by
 obtain ⟨h3, rfl, _, hs⟩ := h.out.out
 have HS : Hid (SlAt RReq 3 48 A w h3.1 h3.2.1 h3.2.2 x.2.2.2) := hs
 clear h hs
 have HH0 : Hid (Held w [(w.heap.size, [.string x.1, .int .i64 x.2.1, .int .i64 x.2.2.1, J h3])] [] (w.alloc (.cells #[.string x.1, .int .i64 x.2.1, .int .i64 x.2.2.1, J h3] 112))) := ((Held.start w).push rfl [.string x.1, .int .i64 x.2.1, .int .i64 x.2.2.1, J h3] 112)
 obtain ⟨b0, e0⟩ : ∃ b : Bool, wordB x.1 = b := ⟨_, rfl⟩
 obtain ⟨b1, e1⟩ : ∃ b : Bool, withinB x.2.1 1 1000 = b := ⟨_, rfl⟩
 obtain ⟨b2, e2⟩ : ∃ b : Bool, withinB x.2.2.1 0 1000 = b := ⟨_, rfl⟩
 obtain ⟨b3, e3⟩ : ∃ b : Bool, reqsB x.2.2.2 = b := ⟨_, rfl⟩
 have HF : Hid (spreadB x = (b0 && b1 && b2 && b3)) := by rw [Hid, ← e0, ← e1, ← e2, ← e3]; rfl
 have HC0 : Hid (∀ u, Below w.heap.size w u → Calls prog 97 #[.string x.1] u fun e w' => e = .returned (.bool b0) ∧ Below u.heap.size u w') := fun u hu => by rw [← e0]; exact calls_same (Word_calls x.1 _)
 clear e0
 have HC1 : Hid (∀ u, Below w.heap.size w u → Calls prog 98 #[.int .i64 x.2.1, .int .i64 1, .int .i64 1000] u fun e w' => e = .returned (.bool b1) ∧ Below u.heap.size u w') := fun u hu => by rw [← e1]; exact calls_same (within_calls x.2.1 1 1000 _)
 clear e1
 have HC2 : Hid (∀ u, Below w.heap.size w u → Calls prog 98 #[.int .i64 x.2.2.1, .int .i64 0, .int .i64 1000] u fun e w' => e = .returned (.bool b2) ∧ Below u.heap.size u w') := fun u hu => by rw [← e2]; exact calls_same (within_calls x.2.2.1 0 1000 _)
 clear e2
 have HC3 : Hid (∀ u, Below w.heap.size w u → Calls prog 100 #[J h3] u fun e w' => e = .returned (.bool b3) ∧ Below u.heap.size u w') := fun u hu => by rw [← e3]; exact areReqs_calls _ _ _ A x.2.2.2 _ (HS.out.kept RReq.firm (Kept.below hu))
 clear e3
 go_enter func111, ntmps111
 go_wp2_with fail
 refine (HC0.out _ HH0.out.below).mono ?_
 rintro e u1 ⟨rfl, hb1⟩
 have HH1 : Hid (Held w [(w.heap.size, [.string x.1, .int .i64 x.2.1, .int .i64 x.2.2.1, J h3])] [] u1) := HH0.out.on hb1
 clear hb1 HH0 HC0
 cases b0
 ·
  clear HC1 HC2 HC3
  go_wp2_with fail
  go_ret
  exact ⟨retb (by rw [HF.out] <;> simp), HH1.out.below⟩
 have k0_1 := HH1.out.cell 0 (b := w.heap.size) rfl 1 rfl
 have kl0 := HH1.out.lt 0 rfl
 go_wp2_with fail
 clear k0_1 kl0
 refine (HC1.out _ HH1.out.below).mono ?_
 rintro e u2 ⟨rfl, hb2⟩
 have HH2 : Hid (Held w [(w.heap.size, [.string x.1, .int .i64 x.2.1, .int .i64 x.2.2.1, J h3])] [] u2) := HH1.out.on hb2
 clear hb2 HH1 HC1
 cases b1
 ·
  clear HC2 HC3
  go_wp2_with fail
  go_ret
  exact ⟨retb (by rw [HF.out] <;> simp), HH2.out.below⟩
 have k1_2 := HH2.out.cell 0 (b := w.heap.size) rfl 2 rfl
 have kl1 := HH2.out.lt 0 rfl
 go_wp2_with fail
 clear k1_2 kl1
 refine (HC2.out _ HH2.out.below).mono ?_
 rintro e u3 ⟨rfl, hb3⟩
 have HH3 : Hid (Held w [(w.heap.size, [.string x.1, .int .i64 x.2.1, .int .i64 x.2.2.1, J h3])] [] u3) := HH2.out.on hb3
 clear hb3 HH2 HC2
 cases b2
 ·
  clear HC3
  go_wp2_with fail
  go_ret
  exact ⟨retb (by rw [HF.out] <;> simp), HH3.out.below⟩
 have k2_3 := HH3.out.cell 0 (b := w.heap.size) rfl 3 rfl
 have kl2 := HH3.out.lt 0 rfl
 go_wp2_with fail
 clear k2_3 kl2
 refine (HC3.out _ HH3.out.below).mono ?_
 rintro e u4 ⟨rfl, hb4⟩
 have HH4 : Hid (Held w [(w.heap.size, [.string x.1, .int .i64 x.2.1, .int .i64 x.2.2.1, J h3])] [] u4) := HH3.out.on hb4
 clear hb4 HH3 HC3
 cases b3
 ·
  skip
  go_wp2_with fail
  go_ret
  exact ⟨retb (by rw [HF.out] <;> simp), HH4.out.below⟩
 go_wp2_with fail
 go_ret
 exact ⟨retb (by rw [HF.out] <;> simp), HH4.out.below⟩
theorem Class_right (c : List Value) (A : Where) (x : ClassD) (w : World) (h : Hid (RClass A w c x)) : Calls prog 280 #[.agg #[], .agg c.toArray] w fun e w' => e = .returned (.bool (rightClass x)) ∧ Below w.heap.size w w' := by
 obtain ⟨rfl, _⟩ := h.out.out
 clear h
 have HH0 : Hid (Held w [(w.heap.size + 1, [.string x.1, .bool x.2]), (w.heap.size, [])] [] ((w.alloc (.cells #[] 152)).alloc (.cells #[.string x.1, .bool x.2] 42))) := (((Held.start w).push rfl [] 152).push (by simp) [.string x.1, .bool x.2] 42)
 obtain ⟨b0, e0⟩ : ∃ b : Bool, wordB x.1 = b := ⟨_, rfl⟩
 have HF : Hid (rightClass x = (b0)) := by rw [Hid, ← e0]; rfl
 have HC0 : Hid (∀ u, Below w.heap.size w u → Calls prog 97 #[.string x.1] u fun e w' => e = .returned (.bool b0) ∧ Below u.heap.size u w') := fun u hu => by rw [← e0]; exact calls_same (Word_calls x.1 _)
 clear e0
 go_enter func280, ntmps280
 go_wp2_with fail
 refine (HC0.out _ HH0.out.below).mono ?_
 rintro e u1 ⟨rfl, hb1⟩
 have HH1 : Hid (Held w [(w.heap.size + 1, [.string x.1, .bool x.2]), (w.heap.size, [])] [] u1) := HH0.out.on hb1
 clear hb1 HH0 HC0
 cases b0
 ·
  skip
  go_wp2_with fail
  go_ret
  exact ⟨retb (by rw [HF.out] <;> simp), HH1.out.below⟩
 go_wp2_with fail
 go_ret
 exact ⟨retb (by rw [HF.out] <;> simp), HH1.out.below⟩
theorem Claim_right (c : List Value) (A : Where) (x : ClaimD) (w : World) (h : Hid (RClaim A w c x)) : Calls prog 249 #[.agg #[], .agg c.toArray] w fun e w' => e = .returned (.bool (rightClaim x)) ∧ Below w.heap.size w w' := by
 obtain ⟨rfl, _⟩ := h.out.out
 clear h
 have HH0 : Hid (Held w [(w.heap.size + 1, [.string x.1, .int .i64 x.2.1, .string x.2.2.1, .string x.2.2.2]), (w.heap.size, [])] [] ((w.alloc (.cells #[] 147)).alloc (.cells #[.string x.1, .int .i64 x.2.1, .string x.2.2.1, .string x.2.2.2] 40))) := (((Held.start w).push rfl [] 147).push (by simp) [.string x.1, .int .i64 x.2.1, .string x.2.2.1, .string x.2.2.2] 40)
 obtain ⟨b0, e0⟩ : ∃ b : Bool, wordB x.1 = b := ⟨_, rfl⟩
 obtain ⟨b1, e1⟩ : ∃ b : Bool, amountB x.2.1 = b := ⟨_, rfl⟩
 obtain ⟨b2, e2⟩ : ∃ b : Bool, wordB x.2.2.1 = b := ⟨_, rfl⟩
 obtain ⟨b3, e3⟩ : ∃ b : Bool, nameNone x.2.2.2 = b := ⟨_, rfl⟩
 have HF : Hid (rightClaim x = (b0 && b1 && b2 && b3)) := by rw [Hid, ← e0, ← e1, ← e2, ← e3]; rfl
 have HC0 : Hid (∀ u, Below w.heap.size w u → Calls prog 97 #[.string x.1] u fun e w' => e = .returned (.bool b0) ∧ Below u.heap.size u w') := fun u hu => by rw [← e0]; exact calls_same (Word_calls x.1 _)
 clear e0
 have HC1 : Hid (∀ u, Below w.heap.size w u → Calls prog 119 #[.int .i64 x.2.1] u fun e w' => e = .returned (.bool b1) ∧ Below u.heap.size u w') := fun u hu => by rw [← e1]; exact calls_same (isAmount_calls x.2.1 _)
 clear e1
 have HC2 : Hid (∀ u, Below w.heap.size w u → Calls prog 97 #[.string x.2.2.1] u fun e w' => e = .returned (.bool b2) ∧ Below u.heap.size u w') := fun u hu => by rw [← e2]; exact calls_same (Word_calls x.2.2.1 _)
 clear e2
 have HC3 : Hid (∀ u, Below w.heap.size w u → Calls prog 114 #[.string x.2.2.2] u fun e w' => e = .returned (.bool b3) ∧ Below u.heap.size u w') := fun u hu => by rw [← e3]; exact calls_same (isNameOrNone_calls x.2.2.2 _)
 clear e3
 go_enter func249, ntmps249
 go_wp2_with fail
 refine (HC0.out _ HH0.out.below).mono ?_
 rintro e u1 ⟨rfl, hb1⟩
 have HH1 : Hid (Held w [(w.heap.size + 1, [.string x.1, .int .i64 x.2.1, .string x.2.2.1, .string x.2.2.2]), (w.heap.size, [])] [] u1) := HH0.out.on hb1
 clear hb1 HH0 HC0
 cases b0
 ·
  clear HC1 HC2 HC3
  go_wp2_with fail
  go_ret
  exact ⟨retb (by rw [HF.out] <;> simp), HH1.out.below⟩
 have k0_1 := HH1.out.cell 0 (b := w.heap.size + 1) rfl 1 rfl
 have kl0 := HH1.out.lt 0 rfl
 go_wp2_with fail
 clear k0_1 kl0
 refine (HC1.out _ HH1.out.below).mono ?_
 rintro e u2 ⟨rfl, hb2⟩
 have HH2 : Hid (Held w [(w.heap.size + 1, [.string x.1, .int .i64 x.2.1, .string x.2.2.1, .string x.2.2.2]), (w.heap.size, [])] [] u2) := HH1.out.on hb2
 clear hb2 HH1 HC1
 cases b1
 ·
  clear HC2 HC3
  go_wp2_with fail
  go_ret
  exact ⟨retb (by rw [HF.out] <;> simp), HH2.out.below⟩
 have k1_2 := HH2.out.cell 0 (b := w.heap.size + 1) rfl 2 rfl
 have kl1 := HH2.out.lt 0 rfl
 go_wp2_with fail
 clear k1_2 kl1
 refine (HC2.out _ HH2.out.below).mono ?_
 rintro e u3 ⟨rfl, hb3⟩
 have HH3 : Hid (Held w [(w.heap.size + 1, [.string x.1, .int .i64 x.2.1, .string x.2.2.1, .string x.2.2.2]), (w.heap.size, [])] [] u3) := HH2.out.on hb3
 clear hb3 HH2 HC2
 cases b2
 ·
  clear HC3
  go_wp2_with fail
  go_ret
  exact ⟨retb (by rw [HF.out] <;> simp), HH3.out.below⟩
 have k2_3 := HH3.out.cell 0 (b := w.heap.size + 1) rfl 3 rfl
 have kl2 := HH3.out.lt 0 rfl
 go_wp2_with fail
 clear k2_3 kl2
 refine (HC3.out _ HH3.out.below).mono ?_
 rintro e u4 ⟨rfl, hb4⟩
 have HH4 : Hid (Held w [(w.heap.size + 1, [.string x.1, .int .i64 x.2.1, .string x.2.2.1, .string x.2.2.2]), (w.heap.size, [])] [] u4) := HH3.out.on hb4
 clear hb4 HH3 HC3
 cases b3
 ·
  skip
  go_wp2_with fail
  go_ret
  exact ⟨retb (by rw [HF.out] <;> simp), HH4.out.below⟩
 go_wp2_with fail
 go_ret
 exact ⟨retb (by rw [HF.out] <;> simp), HH4.out.below⟩
theorem Volume_right (c : List Value) (A : Where) (x : VolumeD) (w : World) (h : Hid (RVolume A w c x)) : Calls prog 218 #[.agg #[], .agg c.toArray] w fun e w' => e = .returned (.bool (rightVolume x)) ∧ Below w.heap.size w w' := by
 obtain ⟨h3, rfl, _, _, hs, _⟩ := h.out.out
 have HS : Hid (SlAt RReq 3 48 A w h3.1 h3.2.1 h3.2.2 x.2.2.2.1) := hs
 clear h hs
 have HH0 : Hid (Held w [(w.heap.size + 1, [.string x.1, .int .i64 x.2.1, .string x.2.2.1, J h3, .string x.2.2.2.2]), (w.heap.size, [])] [] ((w.alloc (.cells #[] 142)).alloc (.cells #[.string x.1, .int .i64 x.2.1, .string x.2.2.1, J h3, .string x.2.2.2.2] 38))) := (((Held.start w).push rfl [] 142).push (by simp) [.string x.1, .int .i64 x.2.1, .string x.2.2.1, J h3, .string x.2.2.2.2] 38)
 obtain ⟨b0, e0⟩ : ∃ b : Bool, wordB x.1 = b := ⟨_, rfl⟩
 obtain ⟨b1, e1⟩ : ∃ b : Bool, amountB x.2.1 = b := ⟨_, rfl⟩
 obtain ⟨b2, e2⟩ : ∃ b : Bool, wordB x.2.2.1 = b := ⟨_, rfl⟩
 obtain ⟨b3, e3⟩ : ∃ b : Bool, reqsB x.2.2.2.1 = b := ⟨_, rfl⟩
 obtain ⟨b4, e4⟩ : ∃ b : Bool, nameNone x.2.2.2.2 = b := ⟨_, rfl⟩
 have HF : Hid (rightVolume x = (b0 && b1 && b2 && b3 && b4)) := by rw [Hid, ← e0, ← e1, ← e2, ← e3, ← e4]; rfl
 have HC0 : Hid (∀ u, Below w.heap.size w u → Calls prog 97 #[.string x.1] u fun e w' => e = .returned (.bool b0) ∧ Below u.heap.size u w') := fun u hu => by rw [← e0]; exact calls_same (Word_calls x.1 _)
 clear e0
 have HC1 : Hid (∀ u, Below w.heap.size w u → Calls prog 119 #[.int .i64 x.2.1] u fun e w' => e = .returned (.bool b1) ∧ Below u.heap.size u w') := fun u hu => by rw [← e1]; exact calls_same (isAmount_calls x.2.1 _)
 clear e1
 have HC2 : Hid (∀ u, Below w.heap.size w u → Calls prog 97 #[.string x.2.2.1] u fun e w' => e = .returned (.bool b2) ∧ Below u.heap.size u w') := fun u hu => by rw [← e2]; exact calls_same (Word_calls x.2.2.1 _)
 clear e2
 have HC3 : Hid (∀ u, Below w.heap.size w u → Calls prog 100 #[J h3] u fun e w' => e = .returned (.bool b3) ∧ Below u.heap.size u w') := fun u hu => by rw [← e3]; exact areReqs_calls _ _ _ A x.2.2.2.1 _ (HS.out.kept RReq.firm (Kept.below hu))
 clear e3
 have HC4 : Hid (∀ u, Below w.heap.size w u → Calls prog 114 #[.string x.2.2.2.2] u fun e w' => e = .returned (.bool b4) ∧ Below u.heap.size u w') := fun u hu => by rw [← e4]; exact calls_same (isNameOrNone_calls x.2.2.2.2 _)
 clear e4
 go_enter func218, ntmps218
 go_wp2_with fail
 refine (HC0.out _ HH0.out.below).mono ?_
 rintro e u1 ⟨rfl, hb1⟩
 have HH1 : Hid (Held w [(w.heap.size + 1, [.string x.1, .int .i64 x.2.1, .string x.2.2.1, J h3, .string x.2.2.2.2]), (w.heap.size, [])] [] u1) := HH0.out.on hb1
 clear hb1 HH0 HC0
 cases b0
 ·
  clear HC1 HC2 HC3 HC4
  go_wp2_with fail
  go_ret
  exact ⟨retb (by rw [HF.out] <;> simp), HH1.out.below⟩
 have k0_1 := HH1.out.cell 0 (b := w.heap.size + 1) rfl 1 rfl
 have kl0 := HH1.out.lt 0 rfl
 go_wp2_with fail
 clear k0_1 kl0
 refine (HC1.out _ HH1.out.below).mono ?_
 rintro e u2 ⟨rfl, hb2⟩
 have HH2 : Hid (Held w [(w.heap.size + 1, [.string x.1, .int .i64 x.2.1, .string x.2.2.1, J h3, .string x.2.2.2.2]), (w.heap.size, [])] [] u2) := HH1.out.on hb2
 clear hb2 HH1 HC1
 cases b1
 ·
  clear HC2 HC3 HC4
  go_wp2_with fail
  go_ret
  exact ⟨retb (by rw [HF.out] <;> simp), HH2.out.below⟩
 have k1_2 := HH2.out.cell 0 (b := w.heap.size + 1) rfl 2 rfl
 have kl1 := HH2.out.lt 0 rfl
 go_wp2_with fail
 clear k1_2 kl1
 refine (HC2.out _ HH2.out.below).mono ?_
 rintro e u3 ⟨rfl, hb3⟩
 have HH3 : Hid (Held w [(w.heap.size + 1, [.string x.1, .int .i64 x.2.1, .string x.2.2.1, J h3, .string x.2.2.2.2]), (w.heap.size, [])] [] u3) := HH2.out.on hb3
 clear hb3 HH2 HC2
 cases b2
 ·
  clear HC3 HC4
  go_wp2_with fail
  go_ret
  exact ⟨retb (by rw [HF.out] <;> simp), HH3.out.below⟩
 have k2_3 := HH3.out.cell 0 (b := w.heap.size + 1) rfl 3 rfl
 have kl2 := HH3.out.lt 0 rfl
 go_wp2_with fail
 clear k2_3 kl2
 refine (HC3.out _ HH3.out.below).mono ?_
 rintro e u4 ⟨rfl, hb4⟩
 have HH4 : Hid (Held w [(w.heap.size + 1, [.string x.1, .int .i64 x.2.1, .string x.2.2.1, J h3, .string x.2.2.2.2]), (w.heap.size, [])] [] u4) := HH3.out.on hb4
 clear hb4 HH3 HC3
 cases b3
 ·
  clear HC4
  go_wp2_with fail
  go_ret
  exact ⟨retb (by rw [HF.out] <;> simp), HH4.out.below⟩
 have k3_4 := HH4.out.cell 0 (b := w.heap.size + 1) rfl 4 rfl
 have kl3 := HH4.out.lt 0 rfl
 go_wp2_with fail
 clear k3_4 kl3
 refine (HC4.out _ HH4.out.below).mono ?_
 rintro e u5 ⟨rfl, hb5⟩
 have HH5 : Hid (Held w [(w.heap.size + 1, [.string x.1, .int .i64 x.2.1, .string x.2.2.1, J h3, .string x.2.2.2.2]), (w.heap.size, [])] [] u5) := HH4.out.on hb5
 clear hb5 HH4 HC4
 cases b4
 ·
  skip
  go_wp2_with fail
  go_ret
  exact ⟨retb (by rw [HF.out] <;> simp), HH5.out.below⟩
 go_wp2_with fail
 go_ret
 exact ⟨retb (by rw [HF.out] <;> simp), HH5.out.below⟩
theorem Budget_right (c : List Value) (A : Where) (x : BudgetD) (w : World) (h : Hid (RBudget A w c x)) : Calls prog 311 #[.agg #[], .agg c.toArray] w fun e w' => e = .returned (.bool (rightBudget x)) ∧ Below w.heap.size w w' := by
 obtain ⟨h1, rfl, _, hs⟩ := h.out.out
 have HS : Hid (SlAt RReq 3 48 A w h1.1 h1.2.1 h1.2.2 x.2.1) := hs
 clear h hs
 have HH0 : Hid (Held w [(w.heap.size + 1, [.string x.1, J h1, .int .i64 x.2.2]), (w.heap.size, [])] [] ((w.alloc (.cells #[] 157)).alloc (.cells #[.string x.1, J h1, .int .i64 x.2.2] 44))) := (((Held.start w).push rfl [] 157).push (by simp) [.string x.1, J h1, .int .i64 x.2.2] 44)
 obtain ⟨b0, e0⟩ : ∃ b : Bool, wordB x.1 = b := ⟨_, rfl⟩
 obtain ⟨b1, e1⟩ : ∃ b : Bool, reqsB x.2.1 = b := ⟨_, rfl⟩
 obtain ⟨b2, e2⟩ : ∃ b : Bool, withinB x.2.2 0 1000 = b := ⟨_, rfl⟩
 have HF : Hid (rightBudget x = (b0 && b1 && b2)) := by rw [Hid, ← e0, ← e1, ← e2]; rfl
 have HC0 : Hid (∀ u, Below w.heap.size w u → Calls prog 97 #[.string x.1] u fun e w' => e = .returned (.bool b0) ∧ Below u.heap.size u w') := fun u hu => by rw [← e0]; exact calls_same (Word_calls x.1 _)
 clear e0
 have HC1 : Hid (∀ u, Below w.heap.size w u → Calls prog 100 #[J h1] u fun e w' => e = .returned (.bool b1) ∧ Below u.heap.size u w') := fun u hu => by rw [← e1]; exact areReqs_calls _ _ _ A x.2.1 _ (HS.out.kept RReq.firm (Kept.below hu))
 clear e1
 have HC2 : Hid (∀ u, Below w.heap.size w u → Calls prog 98 #[.int .i64 x.2.2, .int .i64 0, .int .i64 1000] u fun e w' => e = .returned (.bool b2) ∧ Below u.heap.size u w') := fun u hu => by rw [← e2]; exact calls_same (within_calls x.2.2 0 1000 _)
 clear e2
 go_enter func311, ntmps311
 go_wp2_with fail
 refine (HC0.out _ HH0.out.below).mono ?_
 rintro e u1 ⟨rfl, hb1⟩
 have HH1 : Hid (Held w [(w.heap.size + 1, [.string x.1, J h1, .int .i64 x.2.2]), (w.heap.size, [])] [] u1) := HH0.out.on hb1
 clear hb1 HH0 HC0
 cases b0
 ·
  clear HC1 HC2
  go_wp2_with fail
  go_ret
  exact ⟨retb (by rw [HF.out] <;> simp), HH1.out.below⟩
 have k0_1 := HH1.out.cell 0 (b := w.heap.size + 1) rfl 1 rfl
 have kl0 := HH1.out.lt 0 rfl
 go_wp2_with fail
 clear k0_1 kl0
 refine (HC1.out _ HH1.out.below).mono ?_
 rintro e u2 ⟨rfl, hb2⟩
 have HH2 : Hid (Held w [(w.heap.size + 1, [.string x.1, J h1, .int .i64 x.2.2]), (w.heap.size, [])] [] u2) := HH1.out.on hb2
 clear hb2 HH1 HC1
 cases b1
 ·
  clear HC2
  go_wp2_with fail
  go_ret
  exact ⟨retb (by rw [HF.out] <;> simp), HH2.out.below⟩
 have k1_2 := HH2.out.cell 0 (b := w.heap.size + 1) rfl 2 rfl
 have kl1 := HH2.out.lt 0 rfl
 go_wp2_with fail
 clear k1_2 kl1
 refine (HC2.out _ HH2.out.below).mono ?_
 rintro e u3 ⟨rfl, hb3⟩
 have HH3 : Hid (Held w [(w.heap.size + 1, [.string x.1, J h1, .int .i64 x.2.2]), (w.heap.size, [])] [] u3) := HH2.out.on hb3
 clear hb3 HH2 HC2
 cases b2
 ·
  skip
  go_wp2_with fail
  go_ret
  exact ⟨retb (by rw [HF.out] <;> simp), HH3.out.below⟩
 go_wp2_with fail
 go_ret
 exact ⟨retb (by rw [HF.out] <;> simp), HH3.out.below⟩
end Go.Proofs.YtikncmcceeacmaaGreat

namespace Go.Proofs.YtikncmcceeacmaaGreat.Tn
set_option maxHeartbeats 16000000
set_option maxRecDepth 100000
open Tryz Go.RowKit
set_option linter.unusedSimpArgs false
def PredT (g : Nat) (lb : Array Value) (p : Tnt → Bool) (w : World) : Prop :=
 ∀ (W : World) (x : Tnt), Below w.heap.size w W → Calls prog g (#[.agg #[.string x.1, .string x.2.1, .int .i64 x.2.2]] ++ lb) W fun e w' => e = .returned (.bool (p x)) ∧ Below W.heap.size W w'
theorem IndexT_calls (a : Option Addr) (cap : Nat) (L : List Tnt) (w : World) (hL : Hid (TntsAt w a L)) (p : Tnt → Bool) (g : Nat) (lb : Array Value) (eg : ∀ args w, (callFunc g args).run prog w = .ok (.enter g args) w) (hp : Hid (PredT g lb p w)) :
  Calls prog 188 #[.slice a L.length cap, .func (.func g) #[] lb] w fun e w' => ((∃ i : Nat, i < L.length ∧ p (L.getD i default) = true ∧ (∀ j, j < i → p (L.getD j default) = false) ∧ e = .returned (.int .i64 i)) ∨ ((∀ j, j < L.length → p (L.getD j default) = false) ∧ e = .returned (.int .i64 (-1)))) ∧ Below w.heap.size w w' := by
 have hlen := hL.out.1
 go_enter func188, ntmps188
 go_wp2
 go_loopw [8] (fun i wr => ∃ k : Nat, k ≤ L.length ∧ i = .int .i64 k ∧ Below w.heap.size w wr ∧ Hid (∀ j, j < k → p (L.getD j default) = false)) (fun i _ => L.length - (intOf i).toNat)
 case atStart => exact ⟨0, Nat.zero_le _, rfl, Below.refl _ _, fun j hj => absurd hj (Nat.not_lt_zero _)⟩
 case round =>
  obtain ⟨k, hk, rfl, hbel, hall⟩ := hrel
  by_cases hlt : k < L.length
  ·
   obtain ⟨B, off, rfl, hB, c0, c1, c2, ho⟩ := TntsAt.get hL.out hlt
   clear ho
   have d0 := (hbel.cell (p := ⟨B, off + k * 3, none⟩) hB).trans c0
   have d1 := (hbel.cell (p := ⟨B, off + k * 3 + 1, none⟩) hB).trans c1
   have d2 := (hbel.cell (p := ⟨B, off + k * 3 + 2, none⟩) hB).trans c2
   clear c0 c1 c2
   have hcall := hp.out wr (L.getD k default) hbel
   have HG : Hid (p (L.getD k default) = false → ∀ j, j < k + 1 → p (L.getD j default) = false) := fun h j hj => by
    rcases Nat.lt_succ_iff_lt_or_eq.1 hj with h' | rfl
    ·
     exact hall.out j h'
    ·
     exact h
   have HF : Hid (p (L.getD k default) = true → ∃ i : Nat, i < L.length ∧ p (L.getD i default) = true ∧ (∀ j, j < i → p (L.getD j default) = false) ∧ Ending.returned (.int .i64 k) = .returned (.int .i64 i)) := fun h => ⟨k, hlt, h, hall.out, rfl⟩
   clear hall
   generalize L.getD k default = x at d0 d1 d2 hcall HG HF
   cases hq : p x
   ·
    have HG' : Hid (∀ j, j < k + 1 → p (L.getD j default) = false) := HG.out hq
    rw [hq] at hcall
    clear HG HF hq
    go_wp2_with fail
    refine hcall.mono ?_
    rintro e w' ⟨rfl, hb'⟩
    go_wp2_with fail
    go_roundw
    case rel => exact ⟨k + 1, by omega, by go_num, on2 hbel hb', HG'⟩
    case measure => simp [intOf]; omega
   ·
    have HF' := HF.out hq
    have HF2 : Hid (∃ i : Nat, i < L.length ∧ p (L.getD i default) = true ∧ (∀ j, j < i → p (L.getD j default) = false) ∧ Ending.returned (.int .i64 k) = .returned (.int .i64 i)) := HF'
    rw [hq] at hcall
    clear HG HF hq HF'
    go_wp2_with fail
    refine hcall.mono ?_
    rintro e w' ⟨rfl, hb'⟩
    go_wp2_with fail
    go_ret
    exact ⟨.inl HF2.out, on2 hbel hb'⟩
  ·
   have HA : Hid (∀ j, j < L.length → p (L.getD j default) = false) := fun j hj => hall.out j (by omega)
   clear hall
   go_wp2
   go_ret
   exact ⟨.inr ⟨HA.out, rfl⟩, hbel⟩
theorem ContainsT_calls (a : Option Addr) (cap : Nat) (L : List Tnt) (w : World) (hL : Hid (TntsAt w a L)) (p : Tnt → Bool) (g : Nat) (lb : Array Value) (eg : ∀ args w, (callFunc g args).run prog w = .ok (.enter g args) w) (hp : Hid (PredT g lb p w)) :
  Calls prog 186 #[.slice a L.length cap, .func (.func g) #[] lb] w fun e w' => e = .returned (.bool (L.any p)) ∧ Below w.heap.size w w' := by
 have hI := IndexT_calls a cap L w hL p g lb eg hp
 go_enter func186, ntmps186
 go_wp2_with fail
 refine hI.mono ?_
 rintro e w1 ⟨⟨i, hi, hy, _, rfl⟩ | ⟨hn, rfl⟩, hb⟩
 ·
  have HA : Hid (L.any p = true) := any_yes hi hy
  clear hy
  go_wp2_with fail
  go_ret
  exact ⟨retb HA.out.symm, hb⟩
 ·
  have HA : Hid (L.any p = false) := any_no hn
  clear hn
  go_wp2_with fail
  go_ret
  exact ⟨retb HA.out.symm, hb⟩
end Go.Proofs.YtikncmcceeacmaaGreat.Tn

namespace Go.Proofs.YtikncmcceeacmaaGreat.Tn
set_option maxHeartbeats 16000000
set_option maxRecDepth 100000
open Tryz Go.RowKit
set_option linter.unusedSimpArgs false
theorem guardT : prog.eqGuardType prog.depth 130 = false := by kernel_rfl
theorem eqT (x y : Tnt) (w : World) : Sem.run prog (binOp .eql 130 (.agg #[.string x.1, .string x.2.1, .int .i64 x.2.2]) (.agg #[.string y.1, .string y.2.1, .int .i64 y.2.2])) w = .ok (.bool (tEq x y)) w := by
 have u3 := underlying3
 have a3 := Tryz.isAgg3
 have z3 := Tryz.sizeOf3
 have u9 := underlying9
 have a9 := Tryz.isAgg9
 have z9 := Tryz.sizeOf9
 have hS : prog.underlying 130 = some (.struct (prog.fieldsOf 130)) := by kernel_rfl
 have hp : prog.stoodInHeld 130 = false := by kernel_rfl
 rw [run_eql_struct, show (10000 : Nat) = 9999 + 1 from rfl, run_equalIn_agg w 9999 130 _ _ hS hp]
 simp only [Program.fieldsOf, underlying130]
 go_simp
 simp only [tEq, sEq]
 by_cases h1 : x.1.toList = y.1.toList <;> by_cases h2 : x.2.1.toList = y.2.1.toList <;> by_cases h3 : x.2.2 = y.2.2 <;> simp [h1, h2, h3]
def BeS (wB : World) (D E : Nat) (bk bv : ByteArray) (ba : Bool) (be : Int) (tk tv : ByteArray) (te : Int) (u : World) : Prop :=
 Below wB.heap.size wB u ∧ u.cell? ⟨D, 0, none⟩ = some (.string bk) ∧ u.cell? ⟨D, 1, none⟩ = some (.string bv) ∧ u.cell? ⟨D, 2, none⟩ = some (.bool ba) ∧ u.cell? ⟨D, 3, none⟩ = some (.int .i64 be) ∧
  u.cell? ⟨E, 0, none⟩ = some (.string tk) ∧ u.cell? ⟨E, 1, none⟩ = some (.string tv) ∧ u.cell? ⟨E, 2, none⟩ = some (.int .i64 te)
theorem BeS.to {wB u' : World} {D E : Nat} {bk bv : ByteArray} {ba : Bool} {be : Int} {tk tv : ByteArray} {te : Int} (h : BeS wB D E bk bv ba be tk tv te wB) (hD : D < wB.heap.size) (hE : E < wB.heap.size) (hb : Below wB.heap.size wB u') : BeS wB D E bk bv ba be tk tv te u' := by
 obtain ⟨_, h1, h2, h3, h4, h5, h6, h7⟩ := h
 exact ⟨hb, (hb.cell hD).trans h1, (hb.cell hD).trans h2, (hb.cell hD).trans h3, (hb.cell hD).trans h4, (hb.cell hE).trans h5, (hb.cell hE).trans h6, (hb.cell hE).trans h7⟩
end Go.Proofs.YtikncmcceeacmaaGreat.Tn

namespace Go.Proofs.YtikncmcceeacmaaGreat.Tn
set_option maxHeartbeats 16000000
set_option maxRecDepth 100000
open Tryz Go.RowKit Go.Shelf
set_option linter.unusedSimpArgs false
def BoxT (u : World) (D : Nat) (x : Tnt) : Prop :=
 D < u.heap.size ∧ (u.cell? ⟨D, 0, none⟩ = some (.string x.1) ∧ u.cell? ⟨D, 1, none⟩ = some (.string x.2.1) ∧ u.cell? ⟨D, 2, none⟩ = some (.int .i64 x.2.2)) ∧ u.frozen? ⟨D, 0, none⟩ = false ∧ u.frozen? ⟨D, 1, none⟩ = false ∧ u.frozen? ⟨D, 2, none⟩ = false
theorem BoxT.on {u u' : World} {D : Nat} {x : Tnt} (h : BoxT u D x) (hb : Below u.heap.size u u') : BoxT u' D x := by
 obtain ⟨hB, ⟨h0, h1, h2⟩, f0, f1, f2⟩ := h
 exact ⟨Nat.lt_of_lt_of_le hB hb.size, ⟨(hb.cell hB).trans h0, (hb.cell hB).trans h1, (hb.cell hB).trans h2⟩, (hb.frozen hB).trans f0, (hb.frozen hB).trans f1, (hb.frozen hB).trans f2⟩
theorem BoxT.new (u : World) (t : TypeId) (x : Tnt) : BoxT (u.alloc (.cells #[.string x.1, .string x.2.1, .int .i64 x.2.2] t)) u.heap.size x :=
 ⟨by simp, ⟨by simp [go_sem], by simp [go_sem], by simp [go_sem]⟩, by simp [go_sem], by simp [go_sem], by simp [go_sem]⟩
theorem enters36 : ∀ args w, (callFunc 187 args).run prog w = .ok (.enter 187 args) w := enters_of func187 (by kernel_rfl) rfl
theorem twin_eq (x t : Tnt) : tEq (x.1, t.2.1, x.2.2) t = (sEq x.1 t.1 && (x.2.2 == t.2.2)) := by simp [tEq, sEq_self]
theorem twinPred (t : Tnt) (D : Nat) (w : World) (hD : BoxT w D t) : PredT 187 #[.pointer (some ⟨D, 0, none⟩)] (fun x => sEq x.1 t.1 && (x.2.2 == t.2.2)) w := fun W x hb => by
 obtain ⟨hDl, ⟨c0, c1, c2⟩, _⟩ := hD
 have d0 := (hb.cell (p := ⟨D, 0, none⟩) hDl).trans c0
 have d1 := (hb.cell (p := ⟨D, 1, none⟩) hDl).trans c1
 have d2 := (hb.cell (p := ⟨D, 2, none⟩) hDl).trans c2
 have hDW : D < W.heap.size := by have := hb.size; omega
 have hne : D ≠ W.heap.size := by omega
 have HQ := eqT (x.1, t.2.1, x.2.2) t
 have HG := guardT
 rw [twin_eq] at HQ
 show Calls prog 187 #[.agg #[.string x.1, .string x.2.1, .int .i64 x.2.2], .pointer (some ⟨D, 0, none⟩)] W fun e w' => e = .returned (.bool (sEq x.1 t.1 && (x.2.2 == t.2.2))) ∧ Below W.heap.size W w'
 generalize (sEq x.1 t.1 && (x.2.2 == t.2.2)) = r at HQ ⊢
 clear c0 c1 c2
 go_enter func187, ntmps187
 go_wp2_with fail
 go_ret
 exact ⟨rfl, by go_grown⟩
theorem hasTwin_calls (t : Tnt) (a : Option Addr) (cap : Nat) (L : List Tnt) (w : World) (hL : Hid (TntsAt w a L)) : Calls prog 185 #[.slice a L.length cap, .agg #[.string t.1, .string t.2.1, .int .i64 t.2.2]] w fun e w' => e = .returned (.bool (twinB L t)) ∧ Below w.heap.size w w' := by
 have hb0 : Below w.heap.size w (w.alloc (.cells #[.string t.1, .string t.2.1, .int .i64 t.2.2] 130)) := by go_grown
 have hC := ContainsT_calls a cap L (w.alloc (.cells #[.string t.1, .string t.2.1, .int .i64 t.2.2] 130)) (hL.out.on hb0) (fun x => sEq x.1 t.1 && (x.2.2 == t.2.2)) 187 #[.pointer (some ⟨w.heap.size, 0, none⟩)] enters36 (twinPred t w.heap.size _ (BoxT.new w _ t))
 change Calls prog _ _ _ fun e w' => e = .returned (.bool (twinB L t)) ∧ _ at hC
 generalize twinB L t = r at hC ⊢
 go_enter func185, ntmps185
 go_wp2_with fail
 refine hC.mono ?_
 rintro e w1 ⟨rfl, hb1⟩
 go_wp2_with fail
 go_ret
 exact ⟨rfl, on2 hb0 hb1⟩
end Go.Proofs.YtikncmcceeacmaaGreat.Tn

