/- kept.remove at Node, and its like. No condition beyond what each says. -/
import Derived.Shelf.Abstract
import Derived.Laws.Cover1
import Derived.Test.YtikncmcceeacmaaGreatQ13
namespace Go.Proofs.YtikncmcceeacmaaGreat
set_option maxHeartbeats 16000000
set_option maxRecDepth 100000
open Tryz Go.RowKit
set_option linter.unusedSimpArgs false
theorem itVolume : (prog.info? 38).map (·.size) = some 5 := by kernel_rfl
def PredVolume (g : Nat) (lb : Array Value) (p : VolumeD → Bool) (w : World) : Prop :=
 ∀ (W : World) (cs : List Value) (x : VolumeD), Below w.heap.size w W → RVolume (fun _ => True) W cs x → Calls prog g (#[.agg cs.toArray] ++ lb) W fun e w' => e = .returned (.bool (p x)) ∧ Below W.heap.size W w'
theorem IndexVolume_calls (a : Option Addr) (n cap : Nat) (A : Where) (L : List VolumeD) (w : World) (hL : Hid (SlAt RVolume 5 80 A w a n cap L)) (p : VolumeD → Bool) (g : Nat) (lb : Array Value) (eg : ∀ args w, (callFunc g args).run prog w = .ok (.enter g args) w) (hp : Hid (PredVolume g lb p w)) :
  Calls prog 235 #[.slice a n cap, .func (.func g) #[] lb] w fun e w' => ((∃ i : Nat, i < L.length ∧ p (L.getD i default) = true ∧ (∀ j, j < i → p (L.getD j default) = false) ∧ e = .returned (.int .i64 i)) ∨ ((∀ j, j < L.length → p (L.getD j default) = false) ∧ e = .returned (.int .i64 (-1)))) ∧ Below w.heap.size w w' := by
 have hlen := hL.out.len (by decide)
 have HN : Hid (L.length = n) := hL.out.1
 go_enter func235, ntmps235
 go_wp2
 go_loopw [8] (fun i wr => ∃ k : Nat, k ≤ n ∧ i = .int .i64 k ∧ Below w.heap.size w wr ∧ Hid (∀ j, j < k → p (L.getD j default) = false)) (fun i _ => n - (intOf i).toNat)
 case atStart => exact ⟨0, Nat.zero_le _, rfl, Below.refl _ _, fun j hj => absurd hj (Nat.not_lt_zero _)⟩
 case round =>
  obtain ⟨k, hk, rfl, hbel, hall⟩ := hrel
  by_cases hlt : k < n
  ·
   obtain ⟨B, off, rfl, hB, _, cs, hr, hv⟩ := (hL.out.on RVolume.firm hbel).get hlt
   have HV : Hid (wr.rangeAt B (off + k * 5) cs) := hv
   have hi : (prog.info? 38).map (·.size) = some cs.length := by rw [RVolume.firm.len hr]; exact itVolume
   have hcall := hp.out wr cs (L.getD k default) hbel (RVolume.firm.weak hr (fun _ _ _ => trivial))
   clear hv hr
   have HG : Hid (p (L.getD k default) = false → ∀ j, j < k + 1 → p (L.getD j default) = false) := fun h j hj => by
    rcases Nat.lt_succ_iff_lt_or_eq.1 hj with h' | rfl
    ·
     exact hall.out j h'
    ·
     exact h
   have HF : Hid (p (L.getD k default) = true → ∃ i : Nat, i < L.length ∧ p (L.getD i default) = true ∧ (∀ j, j < i → p (L.getD j default) = false) ∧ Ending.returned (.int .i64 k) = .returned (.int .i64 i)) := fun h => ⟨k, by rw [HN.out]; exact hlt, h, hall.out, rfl⟩
   clear hall
   generalize L.getD k default = x at hcall HG HF
   cases hq : p x
   ·
    have HG' : Hid (∀ j, j < k + 1 → p (L.getD j default) = false) := HG.out hq
    rw [hq] at hcall
    clear HG HF hq
    go_wp2_with (first | (refine wpList_load_mid rfl 38 _ rfl B (off + k * 5) rfl cs _ HV.out underlying38 rfl hi ?_) | fail)
    refine hcall.mono ?_
    rintro e w' ⟨rfl, hb'⟩
    go_wp2_with fail
    go_roundw
    case rel => exact ⟨k + 1, by omega, by go_num, on2 hbel hb', HG'⟩
    case measure => simp [intOf]; omega
   ·
    have HF' := HF.out hq
    have HF2 : Hid (∃ i : Nat, i < L.length ∧ p (L.getD i default) = true ∧ (∀ j, j < i → p (L.getD j default) = false) ∧ Ending.returned (.int .i64 k) = .returned (.int .i64 i)) := HF'
    rw [hq] at hcall
    clear HG HF hq HF'
    go_wp2_with (first | (refine wpList_load_mid rfl 38 _ rfl B (off + k * 5) rfl cs _ HV.out underlying38 rfl hi ?_) | fail)
    refine hcall.mono ?_
    rintro e w' ⟨rfl, hb'⟩
    go_wp2_with fail
    go_ret
    exact ⟨.inl HF2.out, on2 hbel hb'⟩
  ·
   have HA : Hid (∀ j, j < L.length → p (L.getD j default) = false) := fun j hj => hall.out j (by rw [HN.out] at hj; omega)
   clear hall
   go_wp2
   go_ret
   exact ⟨.inr ⟨HA.out, rfl⟩, hbel⟩
theorem ContainsVolume_calls (a : Option Addr) (n cap : Nat) (A : Where) (L : List VolumeD) (w : World) (hL : Hid (SlAt RVolume 5 80 A w a n cap L)) (p : VolumeD → Bool) (g : Nat) (lb : Array Value) (eg : ∀ args w, (callFunc g args).run prog w = .ok (.enter g args) w) (hp : Hid (PredVolume g lb p w)) :
  Calls prog 240 #[.slice a n cap, .func (.func g) #[] lb] w fun e w' => e = .returned (.bool (L.any p)) ∧ Below w.heap.size w w' := by
 have hI := IndexVolume_calls a n cap A L w hL p g lb eg hp
 go_enter func240, ntmps240
 go_wp2_with fail
 refine hI.mono ?_
 rintro e w1 ⟨⟨i, hi, hy, _, rfl⟩ | ⟨hn, rfl⟩, hb⟩
 ·
  have HA : Hid (L.any p = true) := any_yes hi hy
  clear hy
  go_wp2_with fail
  go_ret
  exact ⟨retb HA.out.symm, hb⟩
 ·
  have HA : Hid (L.any p = false) := any_no hn
  clear hn
  go_wp2_with fail
  go_ret
  exact ⟨retb HA.out.symm, hb⟩
theorem infVolume : (prog.info? 38).map (fun i => (i.zero, i.size, i.bytes)) = some (some (.agg #[.string ⟨#[]⟩, .int .i64 0, .string ⟨#[]⟩, Z, .string ⟨#[]⟩]), 5, 80) := by kernel_rfl
theorem InsEndVolume (B n vb : Nat) (v : Value) (xs vs : List Value) (w : World) (hown : Hid (w.ownsRow B 38 5 v n xs)) (hB : B ≤ w.heap.size) (hvs : Hid (w.rangeAt vb 0 vs)) (hvl : vs.length = 5) (h1v : ∀ u ∈ vs, u.oneCell' = true) (hbig : (n + 1) * 80 ≤ 140737488355328) :
  Calls prog 230 #[v, .int .i64 n, .slice (some ⟨vb, 0, none⟩) 1 1] w fun e w' => ∃ v', e = .returned v' ∧ w'.ownsRow B 38 5 v' (n + 1) (xs ++ vs) ∧ w.grownBy w' v.ownBlock ∧ (v'.ownBlock = v.ownBlock ∨ v'.ownBlock = some w.heap.size) := by
 obtain ⟨i0, hi0, hz0, hzs, hzb⟩ := info_parts infVolume
 obtain ⟨v', w', hr, h2, h3, _, h5⟩ := run_append_own_at (P := prog) w B 56 56 38 i0 _ 5 80 underlying56 hi0 hz0 hzs hzb rfl (by decide) v n xs hown.out ⟨vb, 0, none⟩ 1 1 vs (by rw [hvl]) (fun j u hj => by rw [add_lit]; exact hvs.out j u hj) h1v (by unfold maxLen; omega) hbig hB
 have HR : Hid ((Builtin.append_ #[56, 56] 56 #[v, .slice (some ⟨vb, 0, none⟩) 1 1]).run prog w = .ok v' w') := hr
 have HP : Hid (w'.ownsRow B 38 5 v' (n + 1) (xs ++ vs) ∧ w.grownBy w' v.ownBlock ∧ (v'.ownBlock = v.ownBlock ∨ v'.ownBlock = some w.heap.size)) := ⟨h2, h3, h5⟩
 clear hr h2 h3 h5 hvs h1v hi0 hz0 hzs hzb
 obtain ⟨_, ⟨rfl, rfl⟩ | ⟨g, cap, cur, rfl, _, _, hcp, hcm, _⟩⟩ := hown.out
 ·
  clear hown
  go_enter func230, ntmps230
  go_wp2_with (at_builtin; refine wpList_append_run' _ rfl _ _ 56 56 rfl _ _ rfl rfl HR.out ?_)
  all_goals (go_ret; exact ⟨_, rfl, HP.out⟩)
 ·
  clear hown
  unfold maxLen at hcm
  go_enter func230, ntmps230
  go_wp2_with (at_builtin; refine wpList_append_run' _ rfl _ _ 56 56 rfl _ _ rfl rfl HR.out ?_)
  all_goals (go_ret; exact ⟨_, rfl, HP.out⟩)
theorem InsShiftVolume (g cap n i vb : Nat) (cur : Array Value) (xs vs : List Value) (w : World) (hi : i < n) (hroom : n + 1 ≤ cap) (hcm : cap ≤ 9223372036854775807) (hvb : vb ≠ g)
  (hg : w.heap[g]? = some (.cells cur 38 (0, 0))) (hsz : cur.size = cap * 5) (htk : cur.toList.take (n * 5) = xs) (h1c : ∀ u ∈ xs, u.oneCell' = true)
  (hvs : w.heap[vb]? = some (.cells vs.toArray 38 (0, 0))) (hvl : vs.length = 5) (h1v : ∀ u ∈ vs, u.oneCell' = true) :
  Calls prog 230 #[.slice (some ⟨g, 0, none⟩) n cap, .int .i64 i, .slice (some ⟨vb, 0, none⟩) 1 1] w fun e w' => e = .returned (.slice (some ⟨g, 0, none⟩) (n + 1) cap) ∧ w' = (w.drew.setCells g ((i + 1) * 5) (xs.drop (i * 5))).setCells g (i * 5) vs := by
 have hz2 : ¬ ((i : Int) = (n : Int)) := by omega
 have hw1 : IntKind.i64.wrap ((i : Int) + 1) = (i : Int) + 1 := by rw [IntKind.wrap_i64]; omega
 have hb1 : (0 : Int) ≤ (i : Int) + 1 := by omega
 have hin : i ≤ n := by omega
 have htn : ((i : Int) + 1).toNat = i + 1 := by omega
 have hb2 : ¬ (cap = i + 1) := by omega
 have hb3 : (i : Int) ≤ (n : Int) + 1 := by omega
 have hb4 : ¬ (cap = i) := by omega
 have hkn : (i + 1) * 5 ≤ n * 5 := Nat.mul_le_mul_right _ hi
 have hkc : (n + 1) * 5 ≤ cap * 5 := Nat.mul_le_mul_right _ hroom
 have hxl : xs.length = n * 5 := by rw [← htk, List.length_take, Array.length_toList, hsz]; omega
 have hdl : (xs.drop (i * 5)).length = (n - i) * 5 := by rw [List.length_drop, hxl, Nat.sub_mul]
 have HOV : Hid (∀ lb cb, (callFunc 237 #[.slice (some ⟨vb, 0, none⟩) 1 1, .slice (some ⟨g, (i + 1) * 5, none⟩) lb cb]).run prog w = .ok (.value (.bool false)) w) := fun lb cb => by
  rw [run_callFunc_extern func237 (by kernel_rfl) (by kernel_rfl) (by kernel_rfl) (e := Extern.SlicesOverlaps.overlaps #[56, 56] #[4]) (by kernel_rfl),
   Lib.run_overlaps_apart w 56 4 38 underlying56 5 Tryz.sizeOf38 ⟨vb, 0, none⟩ ⟨g, (i + 1) * 5, none⟩ 1 1 lb cb hvb _ _ _ _ (shape_cells hvs) (shape_cells hg) (by rw [hsz]; omega) (row_frozen hvs) (row_frozen hvs)]
  rfl
 have hcell : ∀ j, j < cap * 5 → (w.cell? ⟨g, j, none⟩).isSome = true := fun j hj => by
  rw [row_cell hg, List.getElem?_eq_getElem (by simp; omega)]; rfl
 have hxs : ∀ j u, xs[j]? = some u → w.cell? ⟨g, j, none⟩ = some u := fun j u hj => by
  have hjl : j < n * 5 := by
   have := (List.getElem?_eq_some_iff.1 hj).1
   omega
  rw [row_cell hg, ← hj, ← htk, List.getElem?_take, if_pos hjl]
 have HC1 : Hid (∀ ty dc sc, (Builtin.copy_ #[56, 56] ty #[.slice (some ⟨g, (i + 1) * 5, none⟩) (n - i) dc, .slice (some ⟨g, i * 5, none⟩) (n + 1 - i) sc]).run prog w.drew = .ok (goInt (Nat.min (n + 1 - i) (n - i))) (w.drew.setCells g ((i + 1) * 5) (xs.drop (i * 5)))) := fun ty dc sc =>
  run_copy_k w.drew _ _ ty 38 5 g ((i + 1) * 5) (n - i) dc ⟨g, i * 5, none⟩ (n + 1 - i) sc (xs.drop (i * 5)) underlying56 itVolume (by rw [hdl]; simp only [Nat.min_def]; split <;> omega)
   (fun j u hj => by rw [add_lit]; exact hxs _ u (by rwa [List.getElem?_drop] at hj))
   (fun j hj => hcell _ (by rw [hdl] at hj; rw [Nat.sub_mul] at hj; rw [Nat.add_mul] at hkc ⊢; omega)) (fun j _ => row_frozen (w := w.drew) hg) (fun u hu => h1c u (List.mem_of_mem_drop hu))
 obtain ⟨W1, hW1⟩ : ∃ W1, W1 = w.drew.setCells g ((i + 1) * 5) (xs.drop (i * 5)) := ⟨_, rfl⟩
 obtain ⟨cur1, hg1, hs1, _⟩ := row_setCells g 38 (xs.drop (i * 5)) ((i + 1) * 5) w.drew cur hg (by rw [hdl, hsz, Nat.sub_mul, Nat.add_mul]; rw [Nat.add_mul] at hkc hkn; omega)
 have hvs1 : W1.heap[vb]? = some (.cells vs.toArray 38 (0, 0)) := by
  rw [hW1, (grown_setCells (w := w.drew) (g := g) _ _).block vb (lt_of_heap hvs) (by simpa using hvb)]
  exact hvs
 rw [← hW1] at hg1
 have HC2 : Hid (∀ ty dc, (Builtin.copy_ #[56, 56] ty #[.slice (some ⟨g, i * 5, none⟩) (n + 1 - i) dc, .slice (some ⟨vb, 0, none⟩) 1 1]).run prog W1 = .ok (goInt (Nat.min 1 (n + 1 - i))) (W1.setCells g (i * 5) vs)) := fun ty dc =>
  run_copy_k W1 _ _ ty 38 5 g (i * 5) (n + 1 - i) dc ⟨vb, 0, none⟩ 1 1 vs underlying56 itVolume (by rw [hvl]; simp only [Nat.min_def]; split <;> omega)
   (fun j u hj => by rw [add_lit, row_cell hvs1]; simpa using hj)
   (fun j hj => by rw [row_cell hg1, List.getElem?_eq_getElem (by rw [hvl] at hj; rw [Array.length_toList, hs1, hsz]; rw [Nat.add_mul] at hkn; omega)]; rfl) (fun j _ => row_frozen hg1) h1v
 have HW : Hid (W1 = w.drew.setCells g ((i + 1) * 5) (xs.drop (i * 5))) := hW1
 have HC1' : Hid (∀ ty dc sc, (Builtin.copy_ #[56, 56] ty #[.slice (some ⟨g, (i + 1) * 5, none⟩) (n - i) dc, .slice (some ⟨g, i * 5, none⟩) (n + 1 - i) sc]).run prog w.drew = .ok (goInt (Nat.min (n + 1 - i) (n - i))) W1) := by
  intro ty dc sc; rw [hW1]; exact HC1.out ty dc sc
 rw [← hW1]
 clear hg hsz htk h1c hvs hvl h1v hkn hkc hxl hdl hcell hxs HC1 hW1 hg1 hs1 hvs1
 go_enter func230, ntmps230
 go_wp2_with fail
 simp only [HOV.out]
 go_wp2_with fail
 refine t0 (fun _ => True) (trivial) (fun hH => ?_)
 refine tp 0 ?_; try go_frame
 refine tp 1 ?_; try go_frame
 refine tp 2 ?_; try go_frame
 refine tp 3 ?_; try go_frame
 refine tp 4 ?_; try go_frame
 refine tp 5 ?_; try go_frame
 refine tp 6 ?_; try go_frame
 refine tp 7 ?_; try go_frame
 first | refine tr 8 (fun K hK => ?_) | refine ts 8 (fun K hK => ?_)
 refine want_yes (by rfl) (wp_copy_run _ _ _ 56 56 rfl _ _ rfl rfl (HC1'.out _ _ _) ?_)
 refine hK.out _ _ trivial (fun hH => ?_)
 clear hK K
 try go_frame
 refine tz ?_
 go_wp2_with fail
 rw [HC2.out]
 go_wp2_with fail
 go_ret
 exact ⟨rfl, rfl⟩
theorem InsGrowVolume (g cap n i vb : Nat) (cur : Array Value) (xs vs : List Value) (w : World) (hi : i < n) (hnc : n ≤ cap) (hroom : cap < n + 1) (hbig : (n + 1) * 80 ≤ 140737488355328)
  (hg : w.heap[g]? = some (.cells cur 38 (0, 0))) (hsz : cur.size = cap * 5) (htk : cur.toList.take (n * 5) = xs) (h1c : ∀ u ∈ xs, u.oneCell' = true)
  (hvs : w.heap[vb]? = some (.cells vs.toArray 38 (0, 0))) (hvl : vs.length = 5) (h1v : ∀ u ∈ vs, u.oneCell' = true) :
  Calls prog 230 #[.slice (some ⟨g, 0, none⟩) n cap, .int .i64 i, .slice (some ⟨vb, 0, none⟩) 1 1] w fun e w' => ∃ G, n + 1 ≤ G ∧ G ≤ maxLen ∧ e = .returned (.slice (some ⟨w.heap.size, 0, none⟩) (n + 1) G) ∧ ∃ row : Array Value, row.size = G * 5 ∧ row.toList.take ((n + 1) * 5) = xs.take (i * 5) ++ vs ++ xs.drop (i * 5) ∧ w'.heap[w.heap.size]? = some (.cells row 38 (0, 0)) ∧ w.grownBy w' none := by
 obtain ⟨i0, hi0, hz0, hzs, hzb⟩ := info_parts infVolume
 have hz2 : ¬ ((i : Int) = (n : Int)) := by omega
 have hz3 : (cap : Int) < (n : Int) + 1 := by omega
 have hw1 : IntKind.i64.wrap ((i : Int) + 1) = (i : Int) + 1 := by rw [IntKind.wrap_i64]; omega
 have hb1 : (0 : Int) ≤ (i : Int) + 1 := by omega
 have hin : i ≤ n := by omega
 have htn : ((i : Int) + 1).toNat = i + 1 := by omega
 have hb3 : (i : Int) ≤ (n : Int) := by omega
 have hci : ¬ (cap = i) := by omega
 have hkn : (i + 1) * 5 ≤ n * 5 := Nat.mul_le_mul_right _ hi
 have hkc : n * 5 ≤ cap * 5 := Nat.mul_le_mul_right _ hnc
 have hxl : xs.length = n * 5 := by rw [← htk, List.length_take, Array.length_toList, hsz]; omega
 have hdl : (xs.drop (i * 5)).length = (n - i) * 5 := by rw [List.length_drop, hxl, Nat.sub_mul]
 have hxs : ∀ j u, xs[j]? = some u → w.cell? ⟨g, j, none⟩ = some u := fun j u hj => by
  have hjl : j < n * 5 := by
   have := (List.getElem?_eq_some_iff.1 hj).1
   omega
  rw [row_cell hg, ← hj, ← htk, List.getElem?_take, if_pos hjl]
 have hold : (Builtin.firstCells i0.size i (.slice (some ⟨g, 0, none⟩) i cap)).run prog w.drew = .ok (xs.take (i * 5)).toArray w.drew := by
  rw [hzs]
  exact run_firstCells_some w.drew 5 i ⟨g, 0, none⟩ i cap (xs.take (i * 5)) (by rw [List.length_take, hxl]; omega) (fun j u hj => by
   rw [add_lit, Nat.zero_add]
   rw [List.getElem?_take] at hj
   split at hj
   ·
    exact hxs j u hj
   ·
    cases hj)
 have hkk : (n : Int) + 1 - (i : Int) = ((n + 1 - i : Nat) : Int) := by omega
 have hik : i + (n + 1 - i) = n + 1 := by omega
 have hrz : ∀ ty, (Builtin.append_ #[56, 3] ty #[.slice (some ⟨g, 0, none⟩) i cap, .int .i64 ((n : Int) + 1 - (i : Int))]).run prog w =
   .ok (.slice (some ⟨w.heap.size, 0, none⟩) (n + 1) (grownCap w (n + 1) cap 38)) (w.drew.alloc (.cells ((xs.take (i * 5)).toArray ++ Builtin.zeroCells (Value.agg #[.string ⟨#[]⟩, .int .i64 0, .string ⟨#[]⟩, Z, .string ⟨#[]⟩]).cells (n + 1 - i) ++ Builtin.zeroCells (Value.agg #[.string ⟨#[]⟩, .int .i64 0, .string ⟨#[]⟩, Z, .string ⟨#[]⟩]).cells (grownCap w (n + 1) cap 38 - (n + 1))) 38)) := fun ty => by
  have h := Lib.run_append_grow_zeros w 56 3 ty 38 i0 _ .i64 .i64 underlying56 underlying3 hi0 hz0 (some ⟨g, 0, none⟩) i cap (xs.take (i * 5)) hold (n + 1 - i) (by omega) (by omega) (by omega) (by omega) (by rw [hzb]; omega) (by rw [hzb, hik]; exact growslice_fits hroom hbig)
  rw [hik] at h
  rw [hkk]
  exact h
 obtain ⟨G, hG⟩ : ∃ G, G = grownCap w (n + 1) cap 38 := ⟨_, rfl⟩
 have hGn : n + 1 ≤ G := by rw [hG]; exact grownCap_ge w _ _ _
 have hGm : G ≤ maxLen := by rw [hG]; exact grownCap_le_maxLen w (n + 1) cap 38 (by unfold maxLen; omega)
 obtain ⟨ROW, hROW⟩ : ∃ ROW : Array Value, ROW = (xs.take (i * 5)).toArray ++ Builtin.zeroCells (Value.agg #[.string ⟨#[]⟩, .int .i64 0, .string ⟨#[]⟩, Z, .string ⟨#[]⟩]).cells (n + 1 - i) ++ Builtin.zeroCells (Value.agg #[.string ⟨#[]⟩, .int .i64 0, .string ⟨#[]⟩, Z, .string ⟨#[]⟩]).cells (G - (n + 1)) := ⟨_, rfl⟩
 rw [← hG] at hrz
 rw [← hROW] at hrz
 have hRl : ROW.size = G * 5 := by
  rw [hROW]
  simp only [Array.size_append, List.size_toArray, size_zeroCells, List.length_take, hxl, Value.cells]
  simp only [List.size_toArray, List.length_cons, List.length_nil]
  omega
 have hRt : ROW.toList.take (i * 5) = xs.take (i * 5) := by
  rw [hROW, Array.toList_append, Array.toList_append, List.toList_toArray, List.append_assoc, List.take_append_of_le_length (by rw [List.length_take, hxl]; omega), List.take_take, Nat.min_self]
 obtain ⟨W1, hW1⟩ : ∃ W1, W1 = w.drew.alloc (.cells ROW 38) := ⟨_, rfl⟩
 rw [← hW1] at hrz
 have hn1 : W1.heap[w.heap.size]? = some (.cells ROW 38 (0, 0)) := by rw [hW1]; exact heap_new w.drew _ _ rfl
 have hg1 : W1.heap[g]? = some (.cells cur 38 (0, 0)) := by rw [hW1, Below.heap_alloc w.drew _ g (lt_of_heap hg)]; exact hg
 have hv1 : W1.heap[vb]? = some (.cells vs.toArray 38 (0, 0)) := by rw [hW1, Below.heap_alloc w.drew _ vb (lt_of_heap hvs)]; exact hvs
 have hgr1 : w.grownBy W1 none := ⟨by rw [hW1]; rfl, by rw [hW1]; rfl, by rw [hW1]; rfl, by rw [hW1]; simp, fun k hk _ => by rw [hW1]; exact Below.heap_alloc w.drew _ k hk⟩
 obtain ⟨row2, hn2, hs2, ht2⟩ := row_setCells w.heap.size 38 vs (i * 5) W1 ROW hn1 (by rw [hvl, hRl]; omega)
 obtain ⟨W2, hW2⟩ : ∃ W2, W2 = W1.setCells w.heap.size (i * 5) vs := ⟨_, rfl⟩
 rw [← hW2] at hn2
 have hgN : g ≠ w.heap.size := Nat.ne_of_lt (lt_of_heap hg)
 have hg2 : W2.heap[g]? = some (.cells cur 38 (0, 0)) := by
  rw [hW2, (grown_setCells (w := W1) (g := w.heap.size) _ _).block g (lt_of_heap hg1) (by simpa using hgN)]; exact hg1
 obtain ⟨row3, hn3, hs3, ht3⟩ := row_setCells w.heap.size 38 (xs.drop (i * 5)) ((i + 1) * 5) W2.drew row2 hn2 (by rw [hdl, hs2, hRl]; omega)
 obtain ⟨W3, hW3⟩ : ∃ W3, W3 = W2.drew.setCells w.heap.size ((i + 1) * 5) (xs.drop (i * 5)) := ⟨_, rfl⟩
 rw [← hW3] at hn3
 have HCA : Hid (∀ ty dc, (Builtin.copy_ #[56, 56] ty #[.slice (some ⟨w.heap.size, i * 5, none⟩) (n + 1 - i) dc, .slice (some ⟨vb, 0, none⟩) 1 1]).run prog W1 = .ok (goInt (Nat.min 1 (n + 1 - i))) W2) := fun ty dc => by
  rw [hW2]
  exact run_copy_k W1 _ _ ty 38 5 w.heap.size (i * 5) (n + 1 - i) dc ⟨vb, 0, none⟩ 1 1 vs underlying56 itVolume (by rw [hvl]; simp only [Nat.min_def]; split <;> omega)
   (fun j u hj => by rw [add_lit, row_cell hv1]; simpa using hj)
   (fun j hj => by rw [row_cell hn1, List.getElem?_eq_getElem (by rw [hvl] at hj; rw [Array.length_toList, hRl]; omega)]; rfl) (fun j _ => row_frozen hn1) h1v
 have HCB : Hid (∀ ty dc sc, (Builtin.copy_ #[56, 56] ty #[.slice (some ⟨w.heap.size, (i + 1) * 5, none⟩) (n - i) dc, .slice (some ⟨g, i * 5, none⟩) (n - i) sc]).run prog W2.drew = .ok (goInt (Nat.min (n - i) (n - i))) W3) := fun ty dc sc => by
  rw [hW3]
  exact run_copy_k W2.drew _ _ ty 38 5 w.heap.size ((i + 1) * 5) (n - i) dc ⟨g, i * 5, none⟩ (n - i) sc (xs.drop (i * 5)) underlying56 itVolume (by rw [hdl]; simp only [Nat.min_def]; split <;> omega)
   (fun j u hj => by
    rw [add_lit, row_cell (w := W2.drew) hg2]
    have := hxs (i * 5 + j) u (by rwa [List.getElem?_drop] at hj)
    rwa [row_cell hg] at this)
   (fun j hj => by rw [row_cell (w := W2.drew) hn2, List.getElem?_eq_getElem (by rw [hdl] at hj; rw [Array.length_toList, hs2, hRl]; omega)]; rfl) (fun j _ => row_frozen (w := W2.drew) hn2) (fun u hu => h1c u (List.mem_of_mem_drop hu))
 have HRZ : Hid (∀ ty, (Builtin.append_ #[56, 3] ty #[.slice (some ⟨g, 0, none⟩) i cap, .int .i64 ((n : Int) + 1 - (i : Int))]).run prog w = .ok (.slice (some ⟨w.heap.size, 0, none⟩) (n + 1) G) W1) := hrz
 have HP : Hid (∃ row : Array Value, row.size = G * 5 ∧ row.toList.take ((n + 1) * 5) = xs.take (i * 5) ++ vs ++ xs.drop (i * 5) ∧ W3.heap[w.heap.size]? = some (.cells row 38 (0, 0)) ∧ w.grownBy W3 none) := by
  refine ⟨row3, by rw [hs3, hs2, hRl], ?_, hn3, ?_⟩
  ·
   have e2 : row2.toList.take ((i + 1) * 5) = xs.take (i * 5) ++ vs := by
    rw [ht2, hRt]
    rw [List.take_append_of_le_length (by simp only [List.length_append, List.length_take, hxl, hvl]; omega), List.take_of_length_le (by simp only [List.length_append, List.length_take, hxl, hvl]; omega)]
   rw [ht3, e2, List.take_append_of_le_length (by simp only [List.length_append, List.length_take, hxl, hvl, hdl]; omega), List.take_of_length_le (by simp only [List.length_append, List.length_take, hxl, hvl, hdl]; omega)]
  ·
   have s1 : w.heap.size < W1.heap.size := lt_of_heap hn1
   refine ⟨?_, ?_, ?_, ?_, fun k hk _ => ?_⟩
   ·
    rw [hW3, (grown_setCells (w := W2.drew) (g := w.heap.size) _ _).os]; show W2.os = _; rw [hW2, (grown_setCells (w := W1) (g := w.heap.size) _ _).os]; exact hgr1.os
   ·
    rw [hW3, (grown_setCells (w := W2.drew) (g := w.heap.size) _ _).tape]; show W2.tape = _; rw [hW2, (grown_setCells (w := W1) (g := w.heap.size) _ _).tape]; exact hgr1.tape
   ·
    rw [hW3, (grown_setCells (w := W2.drew) (g := w.heap.size) _ _).output]; show W2.output = _; rw [hW2, (grown_setCells (w := W1) (g := w.heap.size) _ _).output]; exact hgr1.output
   ·
    rw [hW3, size_setCells]; show _ ≤ W2.heap.size; rw [hW2, size_setCells]; exact hgr1.size
   ·
    have hne : some k ≠ some w.heap.size := by simp; omega
    rw [hW3, (grown_setCells (w := W2.drew) (g := w.heap.size) _ _).block k (by show k < W2.heap.size; rw [hW2, size_setCells]; omega) hne]
    show W2.heap[k]? = _
    rw [hW2, (grown_setCells (w := W1) (g := w.heap.size) _ _).block k (by omega) hne]
    exact hgr1.block k hk (by simp)
 have hGi : ¬ (G = i) := by omega
 have hGim : ¬ (G = i + 1) := by omega
 have hG63 : G ≤ 9223372036854775807 := by unfold maxLen at hGm; exact hGm
 have HG1 : Hid (n + 1 ≤ G ∧ G ≤ maxLen) := ⟨hGn, hGm⟩
 have HW1 : Hid (W1.heap.size = W1.heap.size) := rfl
 clear hrz hold hROW hG hRl hRt hn1 hg1 hv1 hgr1 hn2 hs2 ht2 hW2 hg2 hn3 hs3 ht3 hW3 hW1 hxs hdl hxl hkn hkc hg hsz htk h1c hvs hvl h1v hi0 hz0 hzs hzb hkk hik hGm hgN HW1
 go_enter func230, ntmps230
 go_wp2_with (at_builtin; refine wpList_append_run' _ rfl _ _ 56 3 rfl _ _ rfl rfl (HRZ.out _) ?_)
 rw [HCA.out]
 go_wp2_with fail
 refine t0 (fun _ => True) (trivial) (fun hH => ?_)
 refine tp 0 ?_; try go_frame
 refine tp 1 ?_; try go_frame
 refine tp 2 ?_; try go_frame
 refine tp 3 ?_; try go_frame
 refine tp 4 ?_; try go_frame
 refine tp 5 ?_; try go_frame
 refine tp 6 ?_; try go_frame
 refine tp 7 ?_; try go_frame
 first | refine tr 8 (fun K hK => ?_) | refine ts 8 (fun K hK => ?_)
 refine want_yes (by rfl) (wp_copy_run _ _ _ 56 56 rfl _ _ rfl rfl (HCB.out _ _ _) ?_)
 refine hK.out _ _ trivial (fun hH => ?_)
 clear hK K
 try go_frame
 refine tz ?_
 go_wp2_with fail
 go_ret
 exact ⟨G, HG1.out.1, HG1.out.2, rfl, HP.out⟩
theorem InsVolume (B n i vb : Nat) (v : Value) (xs vs : List Value) (w : World) (hown : w.ownsRow B 38 5 v n xs) (hB : B ≤ w.heap.size) (hvs : w.heap[vb]? = some (.cells vs.toArray 38 (0, 0))) (hvo : v.ownBlock ≠ some vb) (hvl : vs.length = 5) (h1c : ∀ u ∈ xs, u.oneCell' = true) (h1v : ∀ u ∈ vs, u.oneCell' = true) (hi : i ≤ n) (hbig : (n + 1) * 80 ≤ 140737488355328) :
  Calls prog 230 #[v, .int .i64 i, .slice (some ⟨vb, 0, none⟩) 1 1] w fun e w' => ∃ v', e = .returned v' ∧ w'.ownsRow B 38 5 v' (n + 1) (xs.take (i * 5) ++ vs ++ xs.drop (i * 5)) ∧ w.grownBy w' v.ownBlock ∧ (v'.ownBlock = v.ownBlock ∨ v'.ownBlock = some w.heap.size) := by
 have hxl := hown.1
 rcases Nat.lt_or_ge i n with h | h
 ·
  obtain ⟨_, ⟨rfl, h0⟩ | ⟨g, cap, cur, rfl, hBg, hg, hcp, hcm, hsz, htk⟩⟩ := hown
  ·
   omega
  ·
   have hvb : vb ≠ g := fun e => hvo (by rw [e]; rfl)
   rcases Nat.lt_or_ge cap (n + 1) with hr | hr
   ·
    refine (InsGrowVolume g cap n i vb cur xs vs w h hcp hr hbig hg hsz htk h1c hvs hvl h1v).mono ?_
    rintro e w' ⟨G, hG1, hG2, rfl, row, hr1, hr2, hr3, hgr⟩
    refine ⟨_, rfl, ⟨by simp only [List.length_append, List.length_take, List.length_drop, hvl, hxl]; omega, .inr ⟨w.heap.size, G, row, rfl, hB, hr3, hG1, hG2, hr1, hr2⟩⟩, ⟨hgr.os, hgr.tape, hgr.output, hgr.size, fun k hk _ => hgr.block k hk (by simp)⟩, .inr rfl⟩
   ·
    refine (InsShiftVolume g cap n i vb cur xs vs w h hr (by unfold maxLen at hcm; exact hcm) hvb hg hsz htk h1c hvs hvl h1v).mono ?_
    rintro e w' ⟨rfl, rfl⟩
    have hkn : (i + 1) * 5 ≤ n * 5 := Nat.mul_le_mul_right _ h
    have hkc : (n + 1) * 5 ≤ cap * 5 := Nat.mul_le_mul_right _ hr
    have hdl : (xs.drop (i * 5)).length = (n - i) * 5 := by rw [List.length_drop, hxl, Nat.sub_mul]
    obtain ⟨cur1, hg1, hs1, ht1⟩ := row_setCells g 38 (xs.drop (i * 5)) ((i + 1) * 5) w.drew cur hg (by rw [hdl, hsz]; omega)
    obtain ⟨cur2, hg2, hs2, ht2⟩ := row_setCells g 38 vs (i * 5) _ cur1 hg1 (by rw [hvl, hs1, hsz]; omega)
    refine ⟨_, rfl, ⟨by simp only [List.length_append, List.length_take, List.length_drop, hvl, hxl]; omega, .inr ⟨g, cap, cur2, rfl, hBg, hg2, by omega, hcm, by rw [hs2, hs1, hsz], ?_⟩⟩, grown_trans grown_drew (grown_trans (grown_setCells _ _) (grown_setCells _ _)), .inl rfl⟩
    have hcl : cur.toList.length = cap * 5 := by rw [Array.length_toList, hsz]
    have e0 : cur.toList.take (i * 5) = xs.take (i * 5) := by rw [← htk, List.take_take]; congr 1; omega
    have e1 : cur1.toList.take (i * 5) = xs.take (i * 5) := by
     rw [ht1, List.append_assoc, List.take_append_of_le_length (by rw [List.length_take, hcl]; omega), List.take_take, show min (i * 5) ((i + 1) * 5) = i * 5 by omega, e0]
    have e2 : cur1.toList.drop (i * 5 + 5) = xs.drop (i * 5) ++ cur.toList.drop ((i + 1) * 5 + (n - i) * 5) := by
     have hl0 : (cur.toList.take ((i + 1) * 5)).length = i * 5 + 5 := by rw [List.length_take, hcl]; omega
     rw [ht1, List.append_assoc, List.drop_append_of_le_length (by omega), List.drop_of_length_le (by omega), List.nil_append, hdl]
    rw [ht2, hvl, e1, e2, ← List.append_assoc, List.take_append_of_le_length (by simp only [List.length_append, List.length_take, List.length_drop, hvl, hxl]; omega), List.take_of_length_le (by simp only [List.length_append, List.length_take, List.length_drop, hvl, hxl]; omega)]
 ·
  obtain rfl : i = n := by omega
  refine (InsEndVolume B i vb v xs vs w hown hB (fun j u hj => ?_) hvl h1v hbig).mono ?_
  ·
   rw [row_cell hvs, Nat.zero_add]; simpa using hj
  ·
   rintro e w' ⟨v', rfl, h2, h3, h5⟩
   refine ⟨v', rfl, ?_, h3, h5⟩
   rw [List.take_of_length_le (by omega), List.drop_of_length_le (by omega), List.append_nil]
   exact h2
theorem sizVolume : (prog.info? 38).map (·.size) = some 5 := by kernel_rfl
theorem Volume_member (p c q : List Value) (hp : p.length = 26) (hc : c.length = 5) (h1 : ∀ v ∈ c, v.oneCell' = true) (w : World) : Calls prog 215 #[.agg #[], .agg (p ++ (c ++ q)).toArray] w fun e w' => e = .returned (.agg c.toArray) ∧ Below w.heap.size w w' := by
 have hi : (prog.info? 38).map (·.size) = some c.length := by rw [hc]; exact sizVolume
 have Hr : ∀ T z, Hid ((((w.alloc (.cells #[] T)).alloc (.cells (p ++ (c ++ q)).toArray 46)).alloc (.cells z 38)).rangeAt (w.heap.size + 1) 26 c) := fun T z => World.rangeAt_alloc (range_new (by simp) hp) _
 have Ht : ∀ T z, z.size = 5 → Hid ((((w.alloc (.cells #[] T)).alloc (.cells (p ++ (c ++ q)).toArray 46)).alloc (.cells z 38)).there (w.heap.size + 1 + 1) 0 c.toArray.size) := fun T z hz => there_new (by simp) (by simp [hc, hz])
 have h1' := all_oneCell_toArray h1
 have HE : Hid (c.toArray.size = 5) := by simp [Hid, hc]
 clear hp hc h1
 go_enter func215, ntmps215
 go_wp2_with (first | (refine wpList_load_mid rfl 38 _ rfl (w.heap.size + 1) 26 rfl c _ (Hr _ _).out underlying38 rfl hi ?_) | (refine wpList_store_mid rfl 38 _ _ rfl (w.heap.size + 1 + 1) 0 c.toArray rfl rfl (Ht _ _ rfl).out (by simpa using hi) h1' ?_))
 have HT := (Ht 142 #[.string ⟨#[]⟩, .int .i64 0, .string ⟨#[]⟩, Z, .string ⟨#[]⟩] rfl).out
 refine bodyPost_ret (v := .agg c.toArray) (res_cell (p := 4) (ty := 38) rfl _ _ (w.heap.size + 1 + 1) c _ rfl (World.rangeAt_setCells_same _ _ _ _ (by simpa using HT)) underlying38 rfl hi) rfl ⟨rfl, below_setCells (by go_grown) (by omega)⟩
theorem Volume_with (h0 h1 h2 h3 h4 h5 h : Hd) (w : World) : Calls prog 219 #[.agg #[], .agg #[J h0, J h1, J h2, J h3, J h4, J h5], J h] w fun e w' => e = .returned (.agg #[J h0, J h1, J h, J h3, J h4, J h5]) ∧ Below w.heap.size w w' := by
 go_enter func219, ntmps219
 go_wp2_with fail
 refine bodyPost_ret (v := .agg #[J h0, J h1, J h, J h3, J h4, J h5]) (by simp [results, results219, go_sem]) rfl ⟨rfl, by go_grown⟩
theorem all1Volume (s : String) (hm : ∀ w, (method 406 142 (.agg #[]) s).run prog w = .ok (218, .agg #[]) w) (p : VolumeD → Bool) (D : Nat) (w : World) (hD : D < w.heap.size) (cD : w.cell? ⟨D, 0, none⟩ = some (.func (.method s) #[.iface 142 (.agg #[])] #[])) (hpr : p = rightVolume) : PredVolume 241 #[.pointer (some ⟨D, 0, none⟩)] (fun x => !p x) w := fun W cs x hb hr0 => by
 have hr : Hid (RVolume (fun _ => True) W cs x) := hr0
 clear hr0
 have HV : Hid ((W.alloc (.cells cs.toArray 38)).rangeAt W.heap.size 0 cs) := range_all rfl
 have hi : (prog.info? 38).map (·.size) = some cs.length := by rw [RVolume.firm.len hr.out]; exact itVolume
 have HB0 : Hid (Below w.heap.size w (W.alloc (.cells cs.toArray 38))) := on2 hb (by go_grown)
 have HBW : Hid (Below W.heap.size W (W.alloc (.cells cs.toArray 38))) := by unfold Hid; go_grown
 have hDW : D < W.heap.size := by have := hb.size; omega
 have hne : D ≠ W.heap.size := by omega
 have d0 := (hb.cell (p := ⟨D, 0, none⟩) hD).trans cD
 subst hpr
 have hcall := (Volume_right cs _ x (W.alloc (.cells cs.toArray 38)) (RVolume.firm.kept hr.out (Kept.alloc _ _ _)))
 show Calls prog 241 #[.agg cs.toArray, .pointer (some ⟨D, 0, none⟩)] W fun e w' => e = .returned (.bool (!rightVolume x)) ∧ Below W.heap.size W w'
 generalize rightVolume x = r at hcall ⊢
 clear cD hb
 go_enter func241, ntmps241
 go_wp2_with (first | (refine wpList_load_mid rfl 38 _ rfl W.heap.size 0 rfl cs _ HV.out underlying38 rfl hi ?_) | fail)
 refine hcall.mono ?_
 rintro e w1 ⟨rfl, hb1⟩
 go_wp2_with fail
 go_ret
 exact ⟨rfl, on2 HBW.out hb1⟩
theorem entsVolume : ∀ args w, (callFunc 241 args).run prog w = .ok (.enter 241 args) w := Go.Proofs.enters_of func241 (by kernel_rfl) rfl
theorem not_anyVolume (L : List VolumeD) (p : VolumeD → Bool) : (!L.any (fun x => !p x)) = L.all p := by
 rw [Bool.eq_iff_iff]; simp
theorem allRightVolume_calls (s : String) (hm : ∀ w, (method 406 142 (.agg #[]) s).run prog w = .ok (218, .agg #[]) w) (a : Option Addr) (n cap : Nat) (A : Where) (L : List VolumeD) (w : World) (hL : Hid (SlAt RVolume 5 80 A w a n cap L)) : Calls prog 233 #[.slice a n cap, .func (.method s) #[.iface 142 (.agg #[])] #[]] w fun e w' => e = .returned (.bool (L.all rightVolume)) ∧ Below w.heap.size w w' := by
 have hb0 : Below w.heap.size w (w.alloc (.cells #[.func (.method s) #[.iface 142 (.agg #[])] #[]] 89)) := by go_grown
 have hC := ContainsVolume_calls a n cap A L (w.alloc (.cells #[.func (.method s) #[.iface 142 (.agg #[])] #[]] 89)) (hL.out.on RVolume.firm hb0) (fun x => !rightVolume x) 241 #[.pointer (some ⟨w.heap.size, 0, none⟩)] entsVolume (all1Volume s hm rightVolume w.heap.size _ (by simp) (by simp [go_sem]) rfl)
 have HF := not_anyVolume L rightVolume
 generalize L.any (fun x => !rightVolume x) = r at hC HF
 have HF2 : Hid ((!r) = L.all rightVolume) := HF
 clear HF hL
 go_enter func233, ntmps233
 go_wp2_with fail
 refine hC.mono ?_
 rintro e w1 ⟨rfl, hb1⟩
 go_wp2_with fail
 go_ret
 exact ⟨retb HF2.out, on2 hb0 hb1⟩
theorem Volume_kright (p c q : List Value) (x : VolumeD) (A : Where) (w : World) (h : Hid (RVolume A w c x)) (hp : p.length = 26) (hall : (p ++ (c ++ q)).length = 40) : Calls prog 227 #[.agg #[.iface 142 (.agg #[])], .agg (p ++ (c ++ q)).toArray] w fun e w' => e = .returned (.bool (rightVolume x)) ∧ Below w.heap.size w w' := by
 have hi : (prog.info? 46).map (·.size) = some (p ++ (c ++ q)).length := by rw [hall]; exact infoObj
 have HH : Hid (Held w [(w.heap.size + 1, p ++ (c ++ q)), (w.heap.size, [.iface 142 (.agg #[])])] [] ((w.alloc (.cells #[.iface 142 (.agg #[])] 146)).alloc (.cells (p ++ (c ++ q)).toArray 46))) := ((Held.start w).push rfl [.iface 142 (.agg #[])] 146).push (by simp) (p ++ (c ++ q)) 46
 have hc := RVolume.firm.len h.out
 have h1 := RVolume.firm.one h.out
 go_enter func227, ntmps227
 go_wp2_with fail
 refine t0 (Held w [(w.heap.size + 1, p ++ (c ++ q)), (w.heap.size, [.iface 142 (.agg #[])])] []) (HH.out.drew) (fun hH => ?_)
 refine tp 0 ?_; try go_frame
 refine' tk 1 ?_ ?_; rotate_left
 ·
  intro u hu; have hc0 := Held.cell hu 1 rfl 0 rfl; clear hu; go_simp; try with_reducible rfl
 try go_frame
 refine tp 2 ?_; try go_frame
 refine' tk 3 ?_ ?_; rotate_left
 ·
  intro u hu; have hc0 := Held.cell hu 1 rfl 0 rfl; clear hu; go_simp; try with_reducible rfl
 try go_frame
 refine tq 4 (.agg (p ++ (c ++ q)).toArray) (yieldsIf_load_mid (by rfl) 46 _ rfl (w.heap.size + 1) 0 rfl (p ++ (c ++ q)) _ (fun u hu => Held.get hu 0 rfl) underlying46 rfl hi) ?_ (hi := rfl)
 try go_frame
 refine tp 6 ?_; try go_frame
 refine tp 7 ?_; try go_frame
 refine tr 5 (fun K hK => ?_)
 refine want_yes (by rfl) (call_enter (f := 215) (args := #[.agg #[], .agg (p ++ (c ++ q)).toArray]) (by kernel_rfl) (Volume_member p c q hp hc h1 _) (fun e u1 he => ?_))
 obtain ⟨rfl, hb1⟩ := he
 have HB1 : Hid (Below w.heap.size w u1) := on2 hH.below hb1
 refine ⟨_, rfl, hK.out _ _ (hH.on hb1) (fun hH => ?_)⟩
 clear hK K
 try go_frame
 refine tr 8 (fun K hK => ?_)
 refine want_yes (by rfl) (call_enter (f := 218) (args := #[.agg #[], .agg c.toArray]) (by kernel_rfl) (Volume_right c A x _ (RVolume.firm.kept h.out (Kept.below HB1.out))) (fun e u1 he => ?_))
 obtain ⟨rfl, hb2⟩ := he
 have HB2 : Hid (Below w.heap.size w u1) := on2 hH.below hb2
 refine ⟨_, rfl, hK.out _ _ (hH.on hb2) (fun hH => ?_)⟩
 clear hK K
 try go_frame
 refine tp 9 ?_; try go_frame
 refine tz ?_
 go_wp2_with fail
 go_ret
 exact ⟨rfl, HB2.out⟩
theorem Volume_kblank (p c q : List Value) (x : VolumeD) (A : Where) (w : World) (h : Hid (RVolume A w c x)) (hp : p.length = 26) (hall : (p ++ (c ++ q)).length = 40) : Calls prog 221 #[.agg #[.iface 142 (.agg #[])], .agg (p ++ (c ++ q)).toArray] w fun e w' => e = .returned (.bool (blankVolume x)) ∧ Below w.heap.size w w' := by
 have hi : (prog.info? 46).map (·.size) = some (p ++ (c ++ q)).length := by rw [hall]; exact infoObj
 have HH : Hid (Held w [(w.heap.size + 1, p ++ (c ++ q)), (w.heap.size, [.iface 142 (.agg #[])])] [] ((w.alloc (.cells #[.iface 142 (.agg #[])] 146)).alloc (.cells (p ++ (c ++ q)).toArray 46))) := ((Held.start w).push rfl [.iface 142 (.agg #[])] 146).push (by simp) (p ++ (c ++ q)) 46
 have hc := RVolume.firm.len h.out
 have h1 := RVolume.firm.one h.out
 go_enter func221, ntmps221
 go_wp2_with fail
 refine t0 (Held w [(w.heap.size + 1, p ++ (c ++ q)), (w.heap.size, [.iface 142 (.agg #[])])] []) (HH.out.drew) (fun hH => ?_)
 refine tp 0 ?_; try go_frame
 refine' tk 1 ?_ ?_; rotate_left
 ·
  intro u hu; have hc0 := Held.cell hu 1 rfl 0 rfl; clear hu; go_simp; try with_reducible rfl
 try go_frame
 refine tp 2 ?_; try go_frame
 refine' tk 3 ?_ ?_; rotate_left
 ·
  intro u hu; have hc0 := Held.cell hu 1 rfl 0 rfl; clear hu; go_simp; try with_reducible rfl
 try go_frame
 refine tq 4 (.agg (p ++ (c ++ q)).toArray) (yieldsIf_load_mid (by rfl) 46 _ rfl (w.heap.size + 1) 0 rfl (p ++ (c ++ q)) _ (fun u hu => Held.get hu 0 rfl) underlying46 rfl hi) ?_ (hi := rfl)
 try go_frame
 refine tp 6 ?_; try go_frame
 refine tp 7 ?_; try go_frame
 refine tr 5 (fun K hK => ?_)
 refine want_yes (by rfl) (call_enter (f := 215) (args := #[.agg #[], .agg (p ++ (c ++ q)).toArray]) (by kernel_rfl) (Volume_member p c q hp hc h1 _) (fun e u1 he => ?_))
 obtain ⟨rfl, hb1⟩ := he
 have HB1 : Hid (Below w.heap.size w u1) := on2 hH.below hb1
 refine ⟨_, rfl, hK.out _ _ (hH.on hb1) (fun hH => ?_)⟩
 clear hK K
 try go_frame
 refine tr 8 (fun K hK => ?_)
 refine want_yes (by rfl) (call_enter (f := 213) (args := #[.agg #[], .agg c.toArray]) (by kernel_rfl) (Volume_blank c A x _ (RVolume.firm.kept h.out (Kept.below HB1.out))) (fun e u1 he => ?_))
 obtain ⟨rfl, hb2⟩ := he
 have HB2 : Hid (Below w.heap.size w u1) := on2 hH.below hb2
 refine ⟨_, rfl, hK.out _ _ (hH.on hb2) (fun hH => ?_)⟩
 clear hK K
 try go_frame
 refine tp 9 ?_; try go_frame
 refine tz ?_
 go_wp2_with fail
 go_ret
 exact ⟨rfl, HB2.out⟩
theorem headVolume {A : Where} {w : World} {c : List Value} {x : VolumeD} (h : RVolume A w c x) : ∃ r, c = .string x.1 :: r := by
 obtain ⟨c1, d, rfl, ⟨rfl, _⟩, _⟩ := h
 exact ⟨d, rfl⟩
theorem Volume_named (c : List Value) (A : Where) (x : VolumeD) (w : World) (h : RVolume A w c x) : Calls prog 216 #[.agg #[], .agg c.toArray] w fun e w' => e = .returned (.string x.1) ∧ Below w.heap.size w w' := by
 obtain ⟨r, rfl⟩ := headVolume h
 exact Volume_name x.1 r w
theorem Volume_kname (p c q : List Value) (x : VolumeD) (A : Where) (w : World) (h : Hid (RVolume A w c x)) (hp : p.length = 26) (hall : (p ++ (c ++ q)).length = 40) : Calls prog 224 #[.agg #[.iface 142 (.agg #[])], .agg (p ++ (c ++ q)).toArray] w fun e w' => e = .returned (.string x.1) ∧ Below w.heap.size w w' := by
 have hi : (prog.info? 46).map (·.size) = some (p ++ (c ++ q)).length := by rw [hall]; exact infoObj
 have HH : Hid (Held w [(w.heap.size + 1, p ++ (c ++ q)), (w.heap.size, [.iface 142 (.agg #[])])] [] ((w.alloc (.cells #[.iface 142 (.agg #[])] 146)).alloc (.cells (p ++ (c ++ q)).toArray 46))) := ((Held.start w).push rfl [.iface 142 (.agg #[])] 146).push (by simp) (p ++ (c ++ q)) 46
 have hc := RVolume.firm.len h.out
 have h1 := RVolume.firm.one h.out
 go_enter func224, ntmps224
 go_wp2_with fail
 refine t0 (Held w [(w.heap.size + 1, p ++ (c ++ q)), (w.heap.size, [.iface 142 (.agg #[])])] []) (HH.out.drew) (fun hH => ?_)
 refine tp 0 ?_; try go_frame
 refine' tk 1 ?_ ?_; rotate_left
 ·
  intro u hu; have hc0 := Held.cell hu 1 rfl 0 rfl; clear hu; go_simp; try with_reducible rfl
 try go_frame
 refine tp 2 ?_; try go_frame
 refine' tk 3 ?_ ?_; rotate_left
 ·
  intro u hu; have hc0 := Held.cell hu 1 rfl 0 rfl; clear hu; go_simp; try with_reducible rfl
 try go_frame
 refine tq 4 (.agg (p ++ (c ++ q)).toArray) (yieldsIf_load_mid (by rfl) 46 _ rfl (w.heap.size + 1) 0 rfl (p ++ (c ++ q)) _ (fun u hu => Held.get hu 0 rfl) underlying46 rfl hi) ?_ (hi := rfl)
 try go_frame
 refine tp 6 ?_; try go_frame
 refine tp 7 ?_; try go_frame
 refine tr 5 (fun K hK => ?_)
 refine want_yes (by rfl) (call_enter (f := 215) (args := #[.agg #[], .agg (p ++ (c ++ q)).toArray]) (by kernel_rfl) (Volume_member p c q hp hc h1 _) (fun e u1 he => ?_))
 obtain ⟨rfl, hb1⟩ := he
 have HB1 : Hid (Below w.heap.size w u1) := on2 hH.below hb1
 refine ⟨_, rfl, hK.out _ _ (hH.on hb1) (fun hH => ?_)⟩
 clear hK K
 try go_frame
 refine tr 8 (fun K hK => ?_)
 refine want_yes (by rfl) (call_enter (f := 216) (args := #[.agg #[], .agg c.toArray]) (by kernel_rfl) (Volume_named c A x _ (RVolume.firm.kept h.out (Kept.below HB1.out))) (fun e u1 he => ?_))
 obtain ⟨rfl, hb2⟩ := he
 have HB2 : Hid (Below w.heap.size w u1) := on2 hH.below hb2
 refine ⟨_, rfl, hK.out _ _ (hH.on hb2) (fun hH => ?_)⟩
 clear hK K
 try go_frame
 refine tp 9 ?_; try go_frame
 refine tz ?_
 go_wp2_with fail
 go_ret
 exact ⟨rfl, HB2.out⟩
theorem Volume_kcount (h0 h1 h2 h3 h4 h5 : Hd) (w : World) : Calls prog 222 #[.agg #[.iface 142 (.agg #[])], .agg #[J h0, J h1, J h2, J h3, J h4, J h5]] w fun e w' => e = .returned (.int .i64 (h2.2.1 : Nat)) ∧ Below w.heap.size w w' := by
 have hL := Volume_list (J h0) (J h1) (J h2) (J h3) (J h4) (J h5)
 go_enter func222, ntmps222
 go_wp2_with fail
 refine (hL _).mono ?_
 rintro e w1 ⟨rfl, hb1⟩
 go_wp2_with fail
 go_ret
 exact ⟨rfl, on2 (by go_grown) hb1⟩
theorem find1Volume (s : ByteArray) (D E : Nat) (w : World) (hD : D < w.heap.size) (hE : E < w.heap.size) (cD : w.cell? ⟨D, 0, none⟩ = some (.iface 142 (.agg #[]))) (cE : w.cell? ⟨E, 0, none⟩ = some (.string s)) : PredVolume 236 #[.pointer (some ⟨D, 0, none⟩), .pointer (some ⟨E, 0, none⟩)] (fun x => sEq x.1 s) w := fun W cs x hb hr0 => by
 have hr : Hid (RVolume (fun _ => True) W cs x) := hr0
 have hi : (prog.info? 38).map (·.size) = some cs.length := by rw [RVolume.firm.len hr0]; exact itVolume
 have HH : Hid (Held W [(W.heap.size, cs)] [] (W.alloc (.cells cs.toArray 38))) := (Held.start W).push rfl cs 38
 have hDW : D < W.heap.size := Nat.lt_of_lt_of_le hD hb.size
 have hEW : E < W.heap.size := Nat.lt_of_lt_of_le hE hb.size
 have HD : Hid (W.cell? ⟨D, 0, none⟩ = some (.iface 142 (.agg #[]))) := (hb.cell (p := ⟨D, 0, none⟩) hD).trans cD
 have HE : Hid (W.cell? ⟨E, 0, none⟩ = some (.string s)) := (hb.cell (p := ⟨E, 0, none⟩) hE).trans cE
 show Calls prog 236 #[.agg cs.toArray, .pointer (some ⟨D, 0, none⟩), .pointer (some ⟨E, 0, none⟩)] W fun e w' => e = .returned (.bool (sEq x.1 s)) ∧ Below W.heap.size W w'
 clear cD cE hb hD hE hr0
 go_enter func236, ntmps236
 go_wp2_with fail
 refine t0 (Held W [(W.heap.size, cs)] []) (HH.out.drew) (fun hH => ?_)
 refine' tk 0 ?_ ?_; rotate_left
 ·
  intro u hu; have hc0 := (hu.below.cell (p := ⟨D, 0, none⟩) hDW).trans HD.out; clear hu; go_simp; try with_reducible rfl
 try go_frame
 refine tq 1 (.agg (cs).toArray) (yieldsIf_load_mid (by rfl) 38 _ rfl (W.heap.size) 0 rfl (cs) _ (fun u hu => Held.get hu 0 rfl) underlying38 rfl hi) ?_ (hi := rfl)
 try go_frame
 refine' tk 3 ?_ ?_; rotate_left
 ·
  intro u hu; have hc0 := (hu.below.cell (p := ⟨E, 0, none⟩) hEW).trans HE.out; clear hu; go_simp; try with_reducible rfl
 try go_frame
 refine tr 2 (fun K hK => ?_)
 refine want_yes (by rfl) (call_enter (f := 216) (args := #[.agg #[], .agg cs.toArray]) (by kernel_rfl) (Volume_named cs _ x _ (RVolume.firm.kept hr.out (Kept.below hH.below))) (fun e u1 he => ?_))
 obtain ⟨rfl, hb1⟩ := he
 have HB1 : Hid (Below W.heap.size W u1) := on2 hH.below hb1
 refine ⟨_, rfl, hK.out _ _ (hH.on hb1) (fun hH => ?_)⟩
 clear hK K
 try go_frame
 refine tp 4 ?_; try go_frame
 refine tp 5 ?_; try go_frame
 refine tz ?_
 go_wp2_with fail
 go_ret
 exact ⟨retb (by simp only [sEq]), HB1.out⟩
theorem ent_findVolume : ∀ args w, (callFunc 236 args).run prog w = .ok (.enter 236 args) w := Go.Proofs.enters_of func236 (by kernel_rfl) rfl
theorem place1Volume (s : ByteArray) (D E : Nat) (w : World) (hD : D < w.heap.size) (hE : E < w.heap.size) (cD : w.cell? ⟨D, 0, none⟩ = some (.iface 142 (.agg #[]))) (cE : w.cell? ⟨E, 0, none⟩ = some (.string s)) : PredVolume 239 #[.pointer (some ⟨D, 0, none⟩), .pointer (some ⟨E, 0, none⟩)] (fun x => sGt x.1 s) w := fun W cs x hb hr0 => by
 have hr : Hid (RVolume (fun _ => True) W cs x) := hr0
 have hi : (prog.info? 38).map (·.size) = some cs.length := by rw [RVolume.firm.len hr0]; exact itVolume
 have HH : Hid (Held W [(W.heap.size, cs)] [] (W.alloc (.cells cs.toArray 38))) := (Held.start W).push rfl cs 38
 have hDW : D < W.heap.size := Nat.lt_of_lt_of_le hD hb.size
 have hEW : E < W.heap.size := Nat.lt_of_lt_of_le hE hb.size
 have HD : Hid (W.cell? ⟨D, 0, none⟩ = some (.iface 142 (.agg #[]))) := (hb.cell (p := ⟨D, 0, none⟩) hD).trans cD
 have HE : Hid (W.cell? ⟨E, 0, none⟩ = some (.string s)) := (hb.cell (p := ⟨E, 0, none⟩) hE).trans cE
 show Calls prog 239 #[.agg cs.toArray, .pointer (some ⟨D, 0, none⟩), .pointer (some ⟨E, 0, none⟩)] W fun e w' => e = .returned (.bool (sGt x.1 s)) ∧ Below W.heap.size W w'
 clear cD cE hb hD hE hr0
 go_enter func239, ntmps239
 go_wp2_with fail
 refine t0 (Held W [(W.heap.size, cs)] []) (HH.out.drew) (fun hH => ?_)
 refine' tk 0 ?_ ?_; rotate_left
 ·
  intro u hu; have hc0 := (hu.below.cell (p := ⟨D, 0, none⟩) hDW).trans HD.out; clear hu; go_simp; try with_reducible rfl
 try go_frame
 refine tq 1 (.agg (cs).toArray) (yieldsIf_load_mid (by rfl) 38 _ rfl (W.heap.size) 0 rfl (cs) _ (fun u hu => Held.get hu 0 rfl) underlying38 rfl hi) ?_ (hi := rfl)
 try go_frame
 refine' tk 3 ?_ ?_; rotate_left
 ·
  intro u hu; have hc0 := (hu.below.cell (p := ⟨E, 0, none⟩) hEW).trans HE.out; clear hu; go_simp; try with_reducible rfl
 try go_frame
 refine tr 2 (fun K hK => ?_)
 refine want_yes (by rfl) (call_enter (f := 216) (args := #[.agg #[], .agg cs.toArray]) (by kernel_rfl) (Volume_named cs _ x _ (RVolume.firm.kept hr.out (Kept.below hH.below))) (fun e u1 he => ?_))
 obtain ⟨rfl, hb1⟩ := he
 have HB1 : Hid (Below W.heap.size W u1) := on2 hH.below hb1
 refine ⟨_, rfl, hK.out _ _ (hH.on hb1) (fun hH => ?_)⟩
 clear hK K
 try go_frame
 refine tp 4 ?_; try go_frame
 refine tp 5 ?_; try go_frame
 refine tz ?_
 go_wp2_with fail
 go_ret
 exact ⟨retb (by simp only [sGt, sLt, sEq]), HB1.out⟩
theorem ent_placeVolume : ∀ args w, (callFunc 239 args).run prog w = .ok (.enter 239 args) w := Go.Proofs.enters_of func239 (by kernel_rfl) rfl
theorem findVolume_calls (a : Option Addr) (n cap : Nat) (A : Where) (L : List VolumeD) (s : ByteArray) (w : World) (hL : SlAt RVolume 5 80 A w a n cap L) : Calls prog 229 #[.iface 142 (.agg #[]), .slice a n cap, .string s] w fun e w' => ((∃ i : Nat, i < L.length ∧ sEq (L.getD i default).1 s = true ∧ (∀ j, j < i → sEq (L.getD j default).1 s = false) ∧ e = .returned (.int .i64 i)) ∨ ((∀ j, j < L.length → sEq (L.getD j default).1 s = false) ∧ e = .returned (.int .i64 (-1)))) ∧ Below w.heap.size w w' := by
 have hb0 : Below w.heap.size w ((w.alloc (.cells #[.iface 142 (.agg #[])] 144)).alloc (.cells #[.string s] 9)) := by go_grown
 have hI := IndexVolume_calls a n cap A L _ (hL.on RVolume.firm hb0) (fun x => sEq x.1 s) 236 #[.pointer (some ⟨w.heap.size, 0, none⟩), .pointer (some ⟨w.heap.size + 1, 0, none⟩)] ent_findVolume (find1Volume s w.heap.size (w.heap.size + 1) _ (by simp; omega) (by simp) (by simp [go_sem]) (by simp [go_sem]))
 go_enter func229, ntmps229
 go_wp2_with fail
 refine hI.mono ?_
 rintro e w1 ⟨⟨i, hi, hy, hn, rfl⟩ | ⟨hn, rfl⟩, hb⟩
 ·
  have HA : Hid (∃ i' : Nat, i' < L.length ∧ sEq (L.getD i' default).1 s = true ∧ (∀ j, j < i' → sEq (L.getD j default).1 s = false) ∧ Ending.returned (.int .i64 i) = .returned (.int .i64 i')) := ⟨i, hi, hy, hn, rfl⟩
  clear hy hn hI hL
  go_wp2_with fail
  go_ret
  exact ⟨.inl HA.out, on2 hb0 hb⟩
 ·
  have HA : Hid (∀ j, j < L.length → sEq (L.getD j default).1 s = false) := hn
  clear hn hI hL
  go_wp2_with fail
  go_ret
  exact ⟨.inr ⟨HA.out, rfl⟩, on2 hb0 hb⟩
theorem placeVolume_calls (a : Option Addr) (n cap : Nat) (A : Where) (L : List VolumeD) (s : ByteArray) (w : World) (hL : SlAt RVolume 5 80 A w a n cap L) : Calls prog 231 #[.iface 142 (.agg #[]), .slice a n cap, .string s] w fun e w' => (∃ i : Nat, i ≤ L.length ∧ (∀ j, j < i → sGt (L.getD j default).1 s = false) ∧ (i < L.length → sGt (L.getD i default).1 s = true) ∧ e = .returned (.int .i64 i)) ∧ Below w.heap.size w w' := by
 have hb0 : Below w.heap.size w ((w.alloc (.cells #[.iface 142 (.agg #[])] 144)).alloc (.cells #[.string s] 9)) := by go_grown
 have hI := IndexVolume_calls a n cap A L _ (hL.on RVolume.firm hb0) (fun x => sGt x.1 s) 239 #[.pointer (some ⟨w.heap.size, 0, none⟩), .pointer (some ⟨w.heap.size + 1, 0, none⟩)] ent_placeVolume (place1Volume s w.heap.size (w.heap.size + 1) _ (by simp; omega) (by simp) (by simp [go_sem]) (by simp [go_sem]))
 have HN : Hid (L.length = n) := hL.1
 go_enter func231, ntmps231
 go_wp2_with fail
 refine hI.mono ?_
 rintro e w1 ⟨⟨i, hi, hy, hn, rfl⟩ | ⟨hn, rfl⟩, hb⟩
 ·
  have HA : Hid (∃ i' : Nat, i' ≤ L.length ∧ (∀ j, j < i' → sGt (L.getD j default).1 s = false) ∧ (i' < L.length → sGt (L.getD i' default).1 s = true) ∧ Ending.returned (.int .i64 i) = .returned (.int .i64 i')) := ⟨i, Nat.le_of_lt hi, hn, fun _ => hy, rfl⟩
  clear hy hn hI hL
  go_wp2_with fail
  go_ret
  exact ⟨HA.out, on2 hb0 hb⟩
 ·
  have HA : Hid (∃ i' : Nat, i' ≤ L.length ∧ (∀ j, j < i' → sGt (L.getD j default).1 s = false) ∧ (i' < L.length → sGt (L.getD i' default).1 s = true) ∧ Ending.returned (.int .i64 n) = .returned (.int .i64 i')) := ⟨n, Nat.le_of_eq HN.out.symm, fun j hj => hn j (by rw [HN.out]; exact hj), fun h => by rw [HN.out] at h; omega, rfl⟩
  clear hn hI hL
  go_wp2_with fail
  go_ret
  exact ⟨HA.out, on2 hb0 hb⟩
end Go.Proofs.YtikncmcceeacmaaGreat

