/- How entries are compared: by number, then by name. No condition. slices.SortFunc over a row of those that wait, of one's own: a permutation, sorted by number and name. Condition: the row is the function's own. The queue: gather. Condition: the queue lies as is said of it, and is not too long; what is asked of an entry is told. -/
import Derived.Test.YtbmejaailhjgfaaGreatQ12
import Derived.Test.YtbmejaailhjgfaaGreatShelf
import Derived.Test.YtbmejaailhjgfaaGreatQ13
import Derived.Test.YtbmejaailhjgfaaGreatQ14
import Derived.Lib.OwnBridge
import Derived.Lib.AppendIntMem
import Derived.Shelf.SlSortCmp.NoneTotal
import Derived.Test.YtbmejaailhjgfaaGreatQ15
import Derived.Test.YtbmejaailhjgfaaGreatQ04
import Derived.Sort.KeysCollected
namespace Go.Proofs.YtbmejaailhjgfaaGreat
open Go.RowKit Go.Maps Go.Shelf Go.Lib Go.Sort
set_option linter.unusedSimpArgs false
set_option maxRecDepth 100000

theorem gtY (a b : List UInt8) : (!(Op.bytesLess a b || a == b)) = Op.bytesLess b a := by
  by_cases e : a = b
  · subst e; simp [bl_irr]
  · have h : (a == b) = false := by simpa using e
    rw [bl_tot a b e, h, Bool.or_false]
/-- How two texts compare. -/
def cmpS (x y : ByteArray) : Int := if Op.bytesLess x.toList y.toList = true then -1 else if Op.bytesLess y.toList x.toList = true then 1 else 0
theorem nanS_calls (x : ByteArray) (w : World) : Calls Tryz.prog 78 #[.string x] w fun e w' => e = .returned (.bool false) ∧ w' = w := by
  go_enter Tryz.func78, Tryz.ntmps78
  go_wp2
  go_ret
  exact ⟨rfl, rfl⟩
theorem cmpS_calls (x y : ByteArray) (w : World) : Calls Tryz.prog 67 #[.string x, .string y] w fun e w' => e = .returned (.int .i64 (cmpS x y)) ∧ w' = w := by
  have hg : ∀ w, (binOp .gtr 9 (.string x) (.string y)).run Tryz.prog w = .ok (.bool (!(Op.bytesLess x.toList y.toList || x.toList == y.toList))) w := fun _ => by kernel_rfl
  simp only [gtY] at hg
  have hN := nanS_calls x w
  have hN2 := nanS_calls y w
  have HR : Hid (cmpS x y = if Op.bytesLess x.toList y.toList = true then -1 else if Op.bytesLess y.toList x.toList = true then 1 else 0) := rfl
  cases h1 : Op.bytesLess x.toList y.toList with
  | true =>
    have HN : Hid (cmpS x y = -1) := by rw [Hid, HR.out, if_pos h1]
    clear HR
    go_enter Tryz.func67, Tryz.ntmps67
    go_wp2_with fail
    refine hN.mono ?_
    rintro e w' ⟨rfl, hw'⟩
    obtain rfl := hw'.symm
    go_wp2_with fail
    refine hN2.mono ?_
    rintro e w' ⟨rfl, hw'⟩
    obtain rfl := hw'.symm
    go_wp2_with fail
    --M1
    go_ret
    exact ⟨by rw [HN.out]; rfl, rfl⟩
  | false =>
  cases h2 : Op.bytesLess y.toList x.toList with
  | true =>
    have HN : Hid (cmpS x y = 1) := by rw [Hid, HR.out, if_neg (by rw [h1]; decide), if_pos h2]
    clear HR
    go_enter Tryz.func67, Tryz.ntmps67
    go_wp2_with fail
    refine hN.mono ?_
    rintro e w' ⟨rfl, hw'⟩
    obtain rfl := hw'.symm
    go_wp2_with fail
    refine hN2.mono ?_
    rintro e w' ⟨rfl, hw'⟩
    obtain rfl := hw'.symm
    go_wp2_with fail
    go_ret
    exact ⟨by rw [HN.out]; rfl, rfl⟩
  | false =>
    have HN : Hid (cmpS x y = 0) := by rw [Hid, HR.out, if_neg (by rw [h1]; decide), if_neg (by rw [h2]; decide)]
    clear HR
    go_enter Tryz.func67, Tryz.ntmps67
    go_wp2_with fail
    refine hN.mono ?_
    rintro e w' ⟨rfl, hw'⟩
    obtain rfl := hw'.symm
    go_wp2_with fail
    refine hN2.mono ?_
    rintro e w' ⟨rfl, hw'⟩
    obtain rfl := hw'.symm
    go_wp2_with fail
    go_ret
    exact ⟨by rw [HN.out]; rfl, rfl⟩
/-- The first of two that is not nought. -/
def or2 (x y : Int) : Int := if x = 0 then y else x
theorem or2_calls (x y : Int) (b : Nat) (w : World) (c0 : w.cell? ⟨b, 0, none⟩ = some (.int .i64 x)) (c1 : w.cell? ⟨b, 1, none⟩ = some (.int .i64 y)) : Calls Tryz.prog 65 #[.slice (some ⟨b, 0, none⟩) 2 2] w fun e w' => e = .returned (.int .i64 (or2 x y)) ∧ w' = w := by
  obtain ⟨r, hr⟩ : ∃ r, r = or2 x y := ⟨_, rfl⟩
  rw [← hr]
  have HR : Hid (r = or2 x y) := hr
  clear hr
  go_enter Tryz.func65, Tryz.ntmps65
  go_wp2_with fail
  go_loop [8] (fun i => i = .int .i64 0 ∨ (i = .int .i64 1 ∧ x = 0) ∨ (i = .int .i64 2 ∧ x = 0 ∧ y = 0)) (fun i => 2 - (intOf i).toNat)
  case atStart => exact .inl rfl
  case round =>
    rcases hrel with rfl | ⟨rfl, hx⟩ | ⟨rfl, hx, hy⟩
    · by_cases hx : x = 0
      · subst hx
        go_wp2_with fail
        go_round
        case rel => exact .inr (.inl ⟨by go_num, by simp⟩)
        case measure => simp [intOf]
      · have HN : Hid (r = x) := by rw [Hid, HR.out]; exact if_neg hx
        clear HR
        go_wp2_with fail
        go_ret
        exact ⟨by rw [HN.out]; rfl, rfl⟩
    · subst hx
      have HN : Hid (r = y) := by rw [Hid, HR.out]; exact if_pos rfl
      by_cases hy : y = 0
      · subst hy
        clear HR HN
        go_wp2_with fail
        go_round
        case rel => exact .inr (.inr ⟨by go_num, by simp⟩)
        case measure => simp [intOf]
      · clear HR
        go_wp2_with fail
        go_ret
        exact ⟨by rw [HN.out]; rfl, rfl⟩
    · subst hx
      subst hy
      have HN : Hid (r = 0) := by rw [Hid, HR.out]; exact if_pos rfl
      clear HR
      go_wp2_with fail
      go_ret
      exact ⟨by rw [HN.out]; rfl, rfl⟩
/-- How two that wait compare. -/
def cfW (x y : WtD) : Int := or2 (Lib.compareInt x.2.2.1 y.2.2.1) (cmpS x.1 y.1)
set_option maxHeartbeats 8000000 in
theorem cfW_calls (x y : WtD) (W : World) : Calls Tryz.prog 64 #[.agg (wtC x).toArray, .agg (wtC y).toArray] W fun e w' => e = .returned (.int .i64 (cfW x y)) ∧ ∃ q os', w' = grow (W.drewN q) os' := by
  obtain ⟨W1, hW1⟩ : ∃ Z, Z = W.alloc (.cells (wtC x).toArray 31) := ⟨_, rfl⟩
  have b1 : Below W.heap.size W W1 := by rw [hW1]; exact (Below.refl _ _).alloc (Nat.le_refl _) _
  have q1 : BoxL W1 W.heap.size (wtC x) := by rw [hW1]; exact BoxL.new W 31 (wtC x)
  obtain ⟨W2, hW2⟩ : ∃ Z, Z = W1.alloc (.cells (wtC y).toArray 31) := ⟨_, rfl⟩
  have b2 : Below W1.heap.size W1 W2 := by rw [hW2]; exact (Below.refl _ _).alloc (Nat.le_refl _) _
  have q2 : BoxL W2 W1.heap.size (wtC y) := by rw [hW2]; exact BoxL.new W1 31 (wtC y)
  have q1a := q1.on b2
  have s1 : W1.heap.size = W.heap.size + 1 := by rw [hW1]; simp
  rw [s1] at q2
  have HW1 : Hid (W.alloc (.cells (wtC x).toArray 31) = W1) := hW1.symm
  have HW2 : Hid (W1.alloc (.cells (wtC y).toArray 31) = W2) := hW2.symm
  have HZ : Hid (or2 (Lib.compareInt x.2.2.1 y.2.2.1) (cmpS x.1 y.1) = cfW x y) := rfl
  clear hW1 hW2 b1 b2 q1 s1
  generalize cfW x y = cf at HZ
  obtain ⟨x0, x1, x2, x3, x4⟩ := x
  obtain ⟨y0, y1, y2, y3, y4⟩ := y
  have HQ : Hid (∀ z, Below W2.heap.size W2 z → z.cell? ⟨W.heap.size, 0, none⟩ = some (.string x0) ∧ z.cell? ⟨W.heap.size, 2, none⟩ = some (.int .i64 x2) ∧ z.cell? ⟨W.heap.size + 1, 0, none⟩ = some (.string y0) ∧ z.cell? ⟨W.heap.size + 1, 2, none⟩ = some (.int .i64 y2)) := fun z hz => ⟨((q1a.on hz).2 0 _ rfl).1, ((q1a.on hz).2 2 _ rfl).1, ((q2.on hz).2 0 _ rfl).1, ((q2.on hz).2 2 _ rfl).1⟩
  have HE : Hid (∀ (k1 k2 : Int) (Z : World), Z = W2.drew → ∃ q os', Z.alloc (.cells #[.int .i64 k1, .int .i64 k2] 3) = grow (W.drewN q) os') := by
    intro k1 k2 Z hZ
    rw [hZ, ← HW2.out, ← HW1.out]
    refine ⟨1, #[.cells (wtC (x0, x1, x2, x3, x4)).toArray 31 (0, 0), .cells (wtC (y0, y1, y2, y3, y4)).toArray 31 (0, 0), .cells #[.int .i64 k1, .int .i64 k2] 3 (0, 0)], ?_⟩
    rw [alloc_eq_grow, alloc_eq_grow, alloc_eq_grow]
    show grow (grow (grow (W.drewN 1) _) _) _ = _
    rw [grow_grow, grow_grow]
    rfl
  clear q1a q2
  go_enter Tryz.func64, Tryz.ntmps64
  go_upto_region 1 with fail
  rw [HW1.out, HW2.out]
  --M2
  refine t0 (fun z => Below W2.heap.size W2 z) (Below.refl _ _).drew (fun hHeld => ?_)
  obtain ⟨wd, hwd⟩ : ∃ Z, Z = W2.drew := ⟨_, rfl⟩
  have HWD : Hid (wd = W2.drew) := hwd
  rw [← hwd] at hHeld ⊢
  clear hwd
  try go_frame
  refine' tk 0 ?_ ?_; rotate_left
  · intro z hz; obtain ⟨f1, f2, f3, f4⟩ := HQ.out z hz; clear hz; go_simp; try with_reducible rfl
  try go_frame
  refine' tk 1 ?_ ?_; rotate_left
  · intro z hz; obtain ⟨f1, f2, f3, f4⟩ := HQ.out z hz; clear hz; go_simp; try with_reducible rfl
  try go_frame
  refine' tk 2 ?_ ?_; rotate_left
  · intro z hz; obtain ⟨f1, f2, f3, f4⟩ := HQ.out z hz; clear hz; go_simp; try with_reducible rfl
  try go_frame
  refine' tk 3 ?_ ?_; rotate_left
  · intro z hz; obtain ⟨f1, f2, f3, f4⟩ := HQ.out z hz; clear hz; go_simp; try with_reducible rfl
  try go_frame
  refine' tk 5 ?_ ?_; rotate_left
  · intro z hz; obtain ⟨f1, f2, f3, f4⟩ := HQ.out z hz; clear hz; go_simp; try with_reducible rfl
  try go_frame
  refine' tk 6 ?_ ?_; rotate_left
  · intro z hz; obtain ⟨f1, f2, f3, f4⟩ := HQ.out z hz; clear hz; go_simp; try with_reducible rfl
  try go_frame
  refine' tk 7 ?_ ?_; rotate_left
  · intro z hz; obtain ⟨f1, f2, f3, f4⟩ := HQ.out z hz; clear hz; go_simp; try with_reducible rfl
  try go_frame
  refine' tk 8 ?_ ?_; rotate_left
  · intro z hz; obtain ⟨f1, f2, f3, f4⟩ := HQ.out z hz; clear hz; go_simp; try with_reducible rfl
  try go_frame
  refine tr 4 (fun K hK => ?_)
  have hC := Tryz.cmp_Compare_int x2 y2 wd
  go_simp
  refine hC.mono ?_
  rintro e z4 ⟨rfl, hz4⟩
  obtain rfl := hz4.symm
  clear hC
  go_wp2_with fail
  refine hK.out _ _ hHeld (fun hHeld2 => ?_)
  clear hK K hHeld; have hHeld := hHeld2; clear hHeld2
  try go_frame
  refine tr 9 (fun K hK => ?_)
  have hC := cmpS_calls x0 y0 wd
  go_simp
  refine hC.mono ?_
  rintro e z9 ⟨rfl, hz9⟩
  obtain rfl := hz9.symm
  clear hC
  go_wp2_with fail
  refine hK.out _ _ hHeld (fun hHeld2 => ?_)
  clear hK K hHeld; have hHeld := hHeld2; clear hHeld2
  try go_frame
  generalize hZ1 : Lib.compareInt x2 y2 = k1
  generalize hZ2 : cmpS x0 y0 = k2
  refine tr 10 (fun K hK => ?_)
  go_simp
  obtain ⟨W3, hW3⟩ : ∃ Z, Z = wd.alloc (.cells #[.int .i64 k1, .int .i64 k2] 3) := ⟨_, rfl⟩
  have b3 : Below wd.heap.size wd W3 := by rw [hW3]; exact (Below.refl _ _).alloc (Nat.le_refl _) _
  have q3 : BoxL W3 wd.heap.size [.int .i64 k1, .int .i64 k2] := by rw [hW3]; exact BoxL.new wd 3 _
  have HW3 : Hid (W3 = wd.alloc (.cells #[.int .i64 k1, .int .i64 k2] 3)) := hW3
  rw [← hW3]
  clear hW3
  refine hK.out _ _ (on2 hHeld b3) (fun hHeld2 => ?_)
  clear hK K hHeld; have hHeld := hHeld2; clear hHeld2
  try go_frame
  refine tr 11 (fun K hK => ?_)
  have hC := or2_calls k1 k2 wd.heap.size W3 (q3.2 0 _ rfl).1 (q3.2 1 _ rfl).1
  go_simp
  refine hC.mono ?_
  rintro e z11 ⟨rfl, hz11⟩
  obtain rfl := hz11.symm
  clear hC
  go_wp2_with fail
  refine hK.out _ _ hHeld (fun hHeld2 => ?_)
  clear hK K hHeld; have hHeld := hHeld2; clear hHeld2
  try go_frame
  refine' tk 12 ?_ ?_; rotate_left
  · intro z hz; clear hz; go_simp; try with_reducible rfl
  try go_frame
  refine tz ?_
  clear hHeld b3 q3
  go_wp2_with fail
  --M3
  go_ret
  exact ⟨by rw [← HZ.out, hZ1, hZ2]; rfl, by rw [HW3.out]; exact HE.out _ _ _ HWD.out⟩
end Go.Proofs.YtbmejaailhjgfaaGreat
namespace Go.Proofs.YtbmejaailhjgfaaGreat
open Go.RowKit Go.Maps Go.Shelf Go.Lib Go.Sort
set_option linter.unusedSimpArgs false
set_option maxRecDepth 100000

/-- Which one comes ahead: by number, then by name. -/
def lessY (a b : WtD) : Bool := decide (a.2.2.1 < b.2.2.1) || (decide (a.2.2.1 = b.2.2.1) && Op.bytesLess a.1.toList b.1.toList)
theorem cfW_less (a b : WtD) : ltOf cfW a b = lessY a b := by
  unfold ltOf cfW or2 cmpS lessY compareInt
  rcases Int.lt_trichotomy a.2.2.1 b.2.2.1 with h | h | h
  · simp [h]
  · cases h1 : Op.bytesLess a.1.toList b.1.toList <;> cases h2 : Op.bytesLess b.1.toList a.1.toList <;> simp [h]
  · have h1 : ¬ a.2.2.1 < b.2.2.1 := by omega
    have h2 : ¬ a.2.2.1 = b.2.2.1 := by omega
    simp [h, h1, h2]
theorem lessY_irr (a : WtD) : lessY a a = false := by unfold lessY; simp [bl_irr]
theorem lessY_trans {a b c : WtD} (h1 : lessY a b = true) (h2 : lessY b c = true) : lessY a c = true := by
  unfold lessY at *
  simp only [Bool.or_eq_true, Bool.and_eq_true, decide_eq_true_eq] at *
  rcases h1 with h1 | ⟨h1, k1⟩ <;> rcases h2 with h2 | ⟨h2, k2⟩
  · exact .inl (by omega)
  · exact .inl (by omega)
  · exact .inl (by omega)
  · exact .inr ⟨by omega, bl_trans _ _ _ k1 k2⟩
theorem lessY_ntrans {a b c : WtD} (h1 : lessY a b = false) (h2 : lessY b c = false) : lessY a c = false := by
  cases h : lessY a c with
  | false => rfl
  | true =>
    unfold lessY at *
    simp only [Bool.or_eq_false_iff, Bool.and_eq_false_iff, decide_eq_false_iff_not, Bool.or_eq_true, Bool.and_eq_true, decide_eq_true_eq] at *
    obtain ⟨p1, p2⟩ := h1
    obtain ⟨q1, q2⟩ := h2
    rcases h with h | ⟨h, k⟩
    · omega
    · have e1 : a.2.2.1 = b.2.2.1 := by omega
      have e2 : b.2.2.1 = c.2.2.1 := by omega
      have p3 := p2.resolve_left (fun x => x e1)
      have q3 := q2.resolve_left (fun x => x e2)
      by_cases ab : a.1.toList = b.1.toList
      · rw [ab, q3] at k; cases k
      · have := bl_tot _ _ ab
        rw [p3] at this
        have := bl_trans _ _ _ this k
        rw [q3] at this; cases this
theorem swoW : SWO (ltOf cfW) := {
  irrefl := fun x => by rw [cfW_less]; exact lessY_irr x
  trans := fun x y z h1 h2 => by rw [cfW_less] at *; exact lessY_trans h1 h2
  ntrans := fun x y z h1 h2 => by rw [cfW_less] at *; exact lessY_ntrans h1 h2 }
theorem cfW_lays (blk off size : Nat) (w : World) : CmpLays Tryz.prog 64 #[] wtC 5 cfW blk off size w := fun _ _ _ _ x y => cfW_calls x y _
theorem isAggW (w : World) : (isAgg 31).run Tryz.prog w = .ok true w := Tryz.isAgg31 w
theorem sizeW (w : World) : (Go.sizeOf 31).run Tryz.prog w = .ok 5 w := Tryz.sizeOf31 w
/-- A row that has been written over, and blocks behind it. -/
theorem own_put {w0 u : World} {e : TypeId} {g n cap q k : Nat} {xs ys : List Value} (h : Own w0 u e k (.slice (some ⟨g, 0, none⟩) n cap) n xs) (hy : ys.length = n * k) (os : Array Obj) :
    Own w0 (grow (putRow id (Sort.ahead u q) g 0 ys.toArray) os) e k (.slice (some ⟨g, 0, none⟩) n cap) n ys := by
  obtain ⟨hb, hl, ⟨e0, _⟩ | ⟨g', cap', cur, e0, hB, hg, hn, hm, hs, ht⟩⟩ := h
  · cases e0
  · injection e0 with e1 _ e3
    injection e1 with e1
    injection e1 with e1
    subst e1; subst e3
    have h1 : RowKit.Below w0.heap.size w0 (putRow id (Sort.ahead u q) g 0 ys.toArray) := below_putRow hb hB
    have h2 := below_grow (putRow id (Sort.ahead u q) g 0 ys.toArray).heap.size (putRow id (Sort.ahead u q) g 0 ys.toArray) (Nat.le_refl _) 0 os
    have hlt : g < u.heap.size := block_lt hg
    have hlt2 : g < (putRow id (Sort.ahead u q) g 0 ys.toArray).heap.size := by simpa [putRow, mapBlock, Sort.ahead] using hlt
    have hnk : n * k ≤ cap * k := Nat.mul_le_mul_right k hn
    refine ⟨h1.trans (h2.mono h1.size), hy, .inr ⟨g, cap, putCells id 0 ys.toArray cur, rfl, hB, ?_, hn, hm, by simpa [putCells] using hs, ?_⟩⟩
    · refine (h2.block g hlt2).trans ?_
      simp [putRow, mapBlock, Sort.ahead, Array.getElem?_modify, hg, onCells]
    · apply List.ext_getElem?
      intro j
      rw [List.getElem?_take, Array.getElem?_toList]
      by_cases hj : j < n * k
      · have hjc : j < cur.size := by omega
        simp only [if_pos hj, putCells, Array.getElem?_mapIdx, Array.getElem?_eq_getElem hjc, Option.map_some]
        rw [if_pos (by simp; omega), List.getElem?_eq_getElem (by omega)]
        simp [getElem!_pos, show j < ys.length by omega]
      · rw [if_neg hj, List.getElem?_eq_none (by omega)]
theorem toList_getDY {α : Type} [Inhabited α] (d : Array α) (i : Nat) (h : i < d.size) : d.toList.getD i default = d[i]! := by
  rw [List.getD_eq_getElem?_getD, List.getElem?_eq_getElem (by simpa using h), getElem!_pos d i h]
  simp
/-- What a sort leaves. -/
def SrtOut (w0 : World) (v : Value) (L : List WtD) (e : Ending) (w' : World) : Prop := e = .returned (.tuple #[]) ∧ ∃ L', L'.Perm L ∧ L'.Pairwise (fun x y => lessY y x = false) ∧ Row RWt 5 (fun _ => False) w0 w' 31 v L'
set_option maxHeartbeats 1000000 in
theorem ysort_calls (w0 u : World) (v : Value) (L : List WtD) (hl : L.length ≤ 140737488355328) (hR : Row RWt 5 (fun _ => False) w0 u 31 v L) :
    Calls Tryz.prog 63 #[v, .func (.func 64) #[] #[]] u (SrtOut w0 v L) := by
  have hR0 := hR
  obtain ⟨xs, hO, hch⟩ := hR
  rcases own_cells hO.2 with ⟨rfl, h0⟩ | ⟨g, cap, rfl, hcp, hB, hg, hc⟩
  · have : L = [] := List.length_eq_zero_iff.1 h0
    subst this
    refine (show Calls Tryz.prog 63 #[.slice none 0 0, .func (.func 64) #[] #[]] u (fun e w' => e = .returned (.tuple #[]) ∧ w' = u) from AnyF.slices_SortFunc_none Tryz.laysSort none 0 _ u).mono ?_
    rintro e w' ⟨rfl, rfl⟩
    exact ⟨rfl, [], List.Perm.refl _, List.Pairwise.nil, hR0⟩
  · have hok : ∀ x ∈ L, okS x.1 := fun x hx => by
      obtain ⟨i, hi, rfl⟩ := List.getElem_of_mem hx
      obtain ⟨cs, h1, _⟩ := hch.2 i hi
      have h2 := h1.2
      rwa [List.getD_eq_getElem?_getD, List.getElem?_eq_getElem hi] at h2
    have hH : HoldsK wtC 5 u g 0 L.toArray := by
      intro j hj
      simp only [size_flatK, List.size_toArray] at hj
      have h1 := hc j hj
      rw [get_flatK _ _ _ _ (by simpa using hj), Nat.zero_add]
      refine ⟨h1.1.trans ?_, h1.2⟩
      have hil : j / 5 < L.length := by omega
      obtain ⟨cs, ⟨rfl, _⟩, h2⟩ := hch.2 (j / 5) hil
      have h3 := h2 (j % 5) (by omega)
      rw [show j / 5 * 5 + j % 5 = j by omega] at h3
      have hx : (L.toArray)[j / 5]! = L.getD (j / 5) default := by rw [← toList_getDY _ _ (by simpa using hil)]
      rw [h3, hx]
      have h5 : j % 5 < (wtC (L.getD (j / 5) default)).length := by simp; omega
      rw [List.getElem?_eq_getElem h5, getElem!_pos (wtC (L.getD (j / 5) default)) (j % 5) h5]
      rfl
    have eg : ∀ args w, (callFunc 64 args).run Tryz.prog w = .ok (.enter 64 args) w := enters_of Tryz.func64 (by kernel_rfl) rfl
    have hcon := AnyQ.slices_SortFunc Tryz.laysSort 5 isAggW sizeW wtC (fun _ => rfl) (fun x v hv => by simp at hv; rcases hv with rfl | rfl | rfl | rfl | rfl <;> rfl) cfW swoW 64 #[] g 0 cap L.toArray u eg (cfW_lays g 0 _ u) hH hg (by simp; omega)
    refine (show Calls Tryz.prog 63 #[.slice (some ⟨g, 0, none⟩) L.length cap, .func (.func 64) #[] #[]] u _ from hcon).mono ?_
    rintro e w' ⟨rfl, d', n, os, ⟨hz, _, hperm⟩, hsort, rfl⟩
    have hsz : d'.size = L.length := by simpa using hz
    have hperm' : d'.toList.Perm L := by simpa [Array.extract_eq_self_of_le, hsz] using hperm
    have hlen : d'.toList.length = L.length := by simpa using hsz
    refine ⟨rfl, d'.toList, hperm', ?_, (flatK wtC 5 d').toList, ?_, ?_⟩
    · refine List.pairwise_iff_getElem.2 (fun i j hi hj hij => ?_)
      have := hsort i j (Nat.zero_le _) hij (by simpa [hsz] using hj)
      rw [cfW_less] at this
      rwa [getElem!_pos d' j (by simpa using hj), getElem!_pos d' i (by simpa using hi)] at this
    · rw [hlen]
      have h := own_put (q := n) hO (ys := (flatK wtC 5 d').toList) (by simp [hsz]) os
      exact h
    · refine ⟨by simp, fun i hi => ?_⟩
      have hi' : i < d'.size := by simpa using hi
      refine ⟨wtC (d'.toList.getD i default), ⟨rfl, ?_⟩, fun j hj => ?_⟩
      · refine hok _ (hperm'.mem_iff.1 ?_)
        rw [List.getD_eq_getElem?_getD, List.getElem?_eq_getElem hi]
        exact List.getElem_mem hi
      · have ht : i * 5 + j < d'.size * 5 := by omega
        have h1 := get_flatK wtC 5 d' (i * 5 + j) ht
        rw [show (i * 5 + j) / 5 = i by omega, show (i * 5 + j) % 5 = j by omega] at h1
        rw [Array.getElem?_toList, Array.getElem?_eq_getElem (by simpa using ht), ← getElem!_pos (flatK wtC 5 d') (i * 5 + j) (by simpa using ht), h1, toList_getDY _ _ hi']
        have h5 : j < (wtC d'[i]!).length := by simpa using hj
        rw [List.getElem?_eq_getElem h5, getElem!_pos (wtC d'[i]!) j h5]
end Go.Proofs.YtbmejaailhjgfaaGreat
namespace Go.Proofs.YtbmejaailhjgfaaGreat
open Go.RowKit Go.Maps
set_option linter.unusedSimpArgs false
set_option maxRecDepth 100000

/-- The entries of a place that fit. -/
def gatP (pl : Int) (fit : WtD → Bool) (S : List EnD) : List WtD := (S.filter (fun e => decide (e.2 = pl) && fit e.1)).map Prod.fst
theorem gat_perm {pl : Int} {fit : WtD → Bool} {S S' : List EnD} (h : S'.Perm S) : (gatP pl fit S').Perm (gatP pl fit S) := (h.filter _).map _
theorem gat_snoc (pl : Int) (fit : WtD → Bool) (S : List EnD) (e : EnD) : gatP pl fit (S ++ [e]) = gatP pl fit S ++ (if (decide (e.2 = pl) && fit e.1) = true then [e.1] else []) := by
  unfold gatP
  rw [List.filter_append, List.map_append]
  congr 1
  simp only [List.filter_cons, List.filter_nil]
  split <;> rfl
theorem gat_len (pl : Int) (fit : WtD → Bool) (S : List EnD) : (gatP pl fit S).length ≤ S.length := by unfold gatP; rw [List.length_map]; exact List.length_filter_le _ _
theorem came_len {left : Lit → Bool} (S : List EnD) : (cameG enN left S).length ≤ S.length := List.length_filter_le _ _
/-- A closure that asks 'fit' of an entry. -/
def Asks (u : World) (g : Nat) (cb : Array Value) (fit : WtD → Bool) : Prop := (∀ args w, (callFunc g args).run Tryz.prog w = .ok (.enter g args) w) ∧ ∀ (x : WtD) (z : World), Below u.heap.size u z → Calls Tryz.prog g (#[.agg (wtC x).toArray] ++ cb) z fun e w' => e = .returned (.bool (fit x)) ∧ Below z.heap.size z w'
theorem below_grownY {u w : World} (h : Below u.heap.size u w) : u.grownBy w none := ⟨h.os, h.tape, h.output, h.size, fun i hi _ => h.block i hi⟩
abbrev Dv (v : Value) : DataW Value := .held v
/-- What gather hands back. -/
def GatOut (u : World) (G : List WtD) (e : Ending) (w' : World) : Prop := ∃ v l, e = .returned v ∧ Row RWt 5 (fun _ => False) u w' 31 v l ∧ l.Perm G ∧ l.Pairwise (fun x y => lessY y x = false)
/-- The relation of the loop. -/
def GatI (u : World) (sb : Nat) (D : DataW Value) (pl : Int) (fit : WtD → Bool) (S : List EnD) (v : Value) (wr : World) : Prop := ∃ left cnt l, wr.ranges Tryz.prog 9 RHv sb u.heap.size S.length D left cnt ∧ Row RWt 5 (fun _ => False) u wr 31 v l ∧ l.Perm (gatP pl fit (cameG enN left S)) ∧ ∀ b, v.ownBlock = some b → b ≠ u.heap.size
theorem spC_inj {e e' : EnD} (h : spC e = spC e') : e = e' := by
  obtain ⟨⟨a, b, c, d, f⟩, g⟩ := e
  obtain ⟨⟨a', b', c', d', f'⟩, g'⟩ := e'
  simp only [spC, Value.agg.injEq, Array.mk.injEq, List.cons.injEq, Value.int.injEq, Value.string.injEq, true_and, and_true] at h
  obtain ⟨rfl, rfl, rfl, rfl, rfl, rfl⟩ := h
  rfl
set_option maxHeartbeats 16000000 in
theorem ygather_calls {F : Where} {u : World} {p : Nat} {S : List EnD} {n : Int} {Ws : List WiD} (h : QA F u p S n Ws) (hl : S.length < 1000000000) (pl : Int) (g : Nat) (cb : Array Value) (fit : WtD → Bool) (hA : Asks u g cb fit) :
    Calls Tryz.prog 43 #[.pointer (some ⟨p, 0, none⟩), .int .i64 pl, .func (.func g) #[] cb] u (GatOut u (gatP pl fit S)) := by
  obtain ⟨hb, sb, nb, A, h⟩ := h
  have c1 := h.c1
  obtain ⟨D, hown, tls⟩ := h.spots
  obtain ⟨eg, hAc⟩ := hA
  have HA : Hid (∀ (x : WtD) (z : World), Below u.heap.size u z → Calls Tryz.prog g (#[.agg (wtC x).toArray] ++ cb) z fun e w' => e = .returned (.bool (fit x)) ∧ Below z.heap.size z w') := hAc
  have HT : Hid (Tls enN spC D S) := tls
  have HO : Hid (u.ownsMap Tryz.prog 9 RHv sb S.length D) := hown
  have HSb : Hid (sb < u.heap.size) := h.spots.lt
  have HOk : Hid (∀ e ∈ S, okE e) := h.ok
  clear hAc tls hown h
  go_enter Tryz.func43, Tryz.ntmps43
  go_upto_region 2 with fail
  go_wp2_with (first | (at_range; refine wpList_range_own _ rfl _ 57 rfl 9 78 lawT Tryz.underlying57 _ sb S.length D rfl HO.out ?_; intro w0 hrg0 hg0 hs0) | fail)
  go_frame
  --M1
  have HI0 : Hid (GatI u sb D pl fit S (.slice none 0 0) w0) := ⟨_, _, [], hrg0, (Row.nil (fun _ => False) u 31).grown RWt.firm hg0 (fun b hb => by cases hb), by rw [came_start HT.out]; exact List.Perm.refl _, fun b hb => by cases hb⟩
  clear hrg0 hg0 hs0 c1
  go_loopw [7] (fun v wr => Hid (GatI u sb D pl fit S v wr)) (fun _ wr => wr.rangeLeft sb u.heap.size)
  case atStart => exact HI0
  case round =>
    obtain ⟨left, cnt, l, hrg, hrow, hpm, hvr⟩ := hrel.out
    have HRel : Hid (wr.rangeLeft sb u.heap.size = cnt) := hrg.left_eq
    clear hrel HI0
    go_wp2_with (first | (at_next; refine wpList_next_ranges _ rfl _ rfl 9 lawT RHv (fun s : List UInt8 => Value.string ⟨s.toArray⟩) (fun v : Value => v) (fun key kl hk => by obtain ⟨x, hx, _⟩ := Maps.keyOf_str Tryz.underlying9 hk; exact ⟨x, hx⟩) (fun v y _ => ⟨v, rfl⟩) sb u.heap.size S.length D left cnt rfl hrg ?_ ?_) | fail)
    · intro hc0 hl0
      have HF : Hid (Row RWt 5 (fun _ => False) u wr 31 u7 l) := hrow
      have HP : Hid (l.Perm (gatP pl fit S)) := by have := hpm; rw [came_end hl0] at this; exact this
      have hC := ysort_calls u wr u7 l (by have h1 := hpm.length_eq; have h2 := gat_len pl fit (cameG enN left S); have h3 := came_len (left := left) S; omega) hrow
      clear hrg hrow hpm hvr hc0 hl0 HRel
      go_wp2_with fail
      --M2
      refine hC.mono ?_
      rintro e w2 ⟨rfl, l', hp', hs', hr'⟩
      have HF2 : Hid (l'.Perm (gatP pl fit S) ∧ l'.Pairwise (fun x y => lessY y x = false) ∧ Row RWt 5 (fun _ => False) u w2 31 u7 l') := ⟨hp'.trans HP.out, hs', hr'⟩
      clear hC hp' hs' hr'
      go_wp2_with fail
      go_ret
      exact ⟨_, l', rfl, HF2.out.2.2, HF2.out.1, HF2.out.2.1⟩
    · intro s c kl yd yp w1 cnt1 hkey hlk hv hat hrg1 hlt hg1 hs1 hen
      obtain ⟨rfl, rfl⟩ : Dv c = yd ∧ ([] : List MemPlace) = yp := by simpa [RHv, Dv] using hv
      obtain ⟨e, he, ek⟩ := HT.out.mem kl (has_true_of_atKey hat)
      subst ek
      have hce : c = spC e := by
        have h1 := hat .nil
        rw [HT.out.at_ e he] at h1
        simpa [Dv] using h1.symm
      subst hce
      have hrow1 : Row RWt 5 (fun _ => False) u w1 31 u7 l := hrow.grown RWt.firm hg1 (fun b hb => by injection hb with hb; subst hb; exact ⟨Nat.le_refl _, fun e => hvr _ e rfl, fun h => h⟩)
      have hpc := came_step HT.out.nd he hlk
      have hoke := HOk.out e he
      have HPm : Hid ((gatP pl fit (cameG enN (fun z => left z && !z.sameKey (kT (enN e))) S)).Perm (gatP pl fit (cameG enN left S) ++ (if (decide (e.2 = pl) && fit e.1) = true then [e.1] else []))) := by rw [Hid, ← gat_snoc]; exact gat_perm hpc
      have HLn : Hid (l.length ≤ S.length) := by have h1 := hpm.length_eq; have h2 := gat_len pl fit (cameG enN left S); have h3 := came_len (left := left) S; rw [Hid]; omega
      have HL : Hid (l.Perm (gatP pl fit (cameG enN left S))) := hpm
      have HV : Hid (∀ b, u7.ownBlock = some b → b ≠ u.heap.size) := hvr
      have HMs : Hid (w1.rangeLeft sb u.heap.size = cnt1 ∧ cnt1 < cnt) := ⟨hrg1.left_eq, hlt⟩
      obtain ⟨⟨x0, x1, x2, x3, x4⟩, xp⟩ := e
      obtain ⟨W2, hW2⟩ : ∃ Z, Z = w1.alloc (.cells #[.int .i64 xp, .string x0, .int .i64 x1, .int .i64 x2, .int .i64 x3, .int .i64 x4] 78) := ⟨_, rfl⟩
      have b2 : Below w1.heap.size w1 W2 := by rw [hW2]; exact (Below.refl _ _).alloc (Nat.le_refl _) _
      have q2 : BoxL W2 w1.heap.size [.int .i64 xp, .string x0, .int .i64 x1, .int .i64 x2, .int .i64 x3, .int .i64 x4] := by rw [hW2]; exact BoxL.new w1 78 _
      have g2 : w1.grownBy W2 none := by rw [hW2]; exact World.grownBy_alloc _ _ _
      have HG2 : Hid (W2.ranges Tryz.prog 9 RHv sb u.heap.size S.length D (fun z => left z && !z.sameKey (kT (enN ((x0, x1, x2, x3, x4), xp)))) cnt1 ∧ Row RWt 5 (fun _ => False) u W2 31 u7 l ∧ BoxL W2 w1.heap.size [.int .i64 xp, .string x0, .int .i64 x1, .int .i64 x2, .int .i64 x3, .int .i64 x4]) := ⟨hrg1.kept g2 (by simp) (by simp), hrow1.on RWt.firm b2, q2⟩
      have HW2 : Hid (w1.alloc (.cells #[.int .i64 xp, .string x0, .int .i64 x1, .int .i64 x2, .int .i64 x3, .int .i64 x4] 78) = W2) := hW2.symm
      have hlt1 := q2.1
      clear hrg hrow hpm hvr hkey hlk hv hat hrg1 hlt hg1 hs1 hrow1 hpc hW2 b2 q2 g2 he
      simp only [spC] at hen ⊢
      go_upto_region 5 with fail
      --M3
      rw [HW2.out]
      have c0 : W2.cell? ⟨w1.heap.size, 0, none⟩ = some (.int .i64 xp) := (HG2.out.2.2.2 0 _ rfl).1
      by_cases hxp : xp = pl
      · subst hxp
        have HC5 : Hid (∀ z, Below W2.heap.size W2 z → z.cell? ⟨w1.heap.size, 1, none⟩ = some (.string x0) ∧ z.cell? ⟨w1.heap.size, 2, none⟩ = some (.int .i64 x1) ∧ z.cell? ⟨w1.heap.size, 3, none⟩ = some (.int .i64 x2) ∧ z.cell? ⟨w1.heap.size, 4, none⟩ = some (.int .i64 x3) ∧ z.cell? ⟨w1.heap.size, 5, none⟩ = some (.int .i64 x4)) := fun z hz => by
          have q := HG2.out.2.2.on hz
          exact ⟨(q.2 1 _ rfl).1, (q.2 2 _ rfl).1, (q.2 3 _ rfl).1, (q.2 4 _ rfl).1, (q.2 5 _ rfl).1⟩
        obtain ⟨c1, c2, c3, c4, c5⟩ := HC5.out W2 (Below.refl _ _)
        have hC := HA.out (x0, x1, x2, x3, x4) W2 HG2.out.2.1.below
        have HPm2 : Hid ((gatP xp fit (cameG enN (fun z => left z && !z.sameKey (kT (enN ((x0, x1, x2, x3, x4), xp)))) S)).Perm (gatP xp fit (cameG enN left S) ++ (if fit (x0, x1, x2, x3, x4) = true then [(x0, x1, x2, x3, x4)] else []))) := by have := HPm.out; rw [Hid]; simpa using this
        clear HPm HW2
        generalize fit (x0, x1, x2, x3, x4) = ft at hC HPm2
        cases ft with
        | false =>
          go_wp2_with (first | (go_at_fn g; refine hC.mono ?_; rintro e w3 ⟨rfl, hb3⟩) | fail)
          --M4
          have HN : Hid (GatI u sb D xp fit S u7 w3) := ⟨_, cnt1, l, HG2.out.1.kept (below_grownY hb3) (by simp) (by simp), HG2.out.2.1.on RWt.firm hb3, by have h1 := HPm2.out; simp only [Bool.false_eq_true, if_false, List.append_nil] at h1; exact HL.out.trans h1.symm, HV.out⟩
          have HLe : Hid (w3.rangeLeft sb u.heap.size = cnt1) := (HG2.out.1.kept (below_grownY hb3) (by simp) (by simp)).left_eq
          clear HPm2 HG2 HL HV hb3 hC c0 c1 c2 c3 c4 c5
          go_roundw
          case rel => exact HN
          case measure => rw [HLe.out, HRel.out]; exact HMs.out.2
        | true =>
          go_upto_region 6 with (first | (go_at_fn g; refine hC.mono ?_; rintro e w3 ⟨rfl, hb3⟩) | fail)
          obtain ⟨d1, d2, d3, d4, d5⟩ := HC5.out w3 hb3
          have hb4 : Below w3.heap.size w3 (w3.alloc (.cells #[.string x0, .int .i64 x1, .int .i64 x2, .int .i64 x3, .int .i64 x4] 31)) := (Below.refl _ _).alloc (Nat.le_refl _) _
          have q4 : BoxL (w3.alloc (.cells #[.string x0, .int .i64 x1, .int .i64 x2, .int .i64 x3, .int .i64 x4] 31)) w3.heap.size (wtC (x0, x1, x2, x3, x4)) := BoxL.new w3 31 _
          have HR4 : Hid (Row RWt 5 (fun _ => False) u (w3.alloc (.cells #[.string x0, .int .i64 x1, .int .i64 x2, .int .i64 x3, .int .i64 x4] 31)) 31 u7 l) := (HG2.out.2.1.on RWt.firm hb3).on RWt.firm hb4
          have HSr : Hid (Src RWt 5 (fun b => False ∧ Value.ownBlock u7 ≠ some b) (w3.alloc (.cells #[.string x0, .int .i64 x1, .int .i64 x2, .int .i64 x3, .int .i64 x4] 31)) (some ⟨w3.heap.size, 0, none⟩) 1 [(x0, x1, x2, x3, x4)]) := src_boxG RWt.firm q4 ⟨rfl, hoke.1⟩
          have HLb : Hid ((l.length + [(x0, x1, x2, x3, x4)].length) * 48 ≤ 140737488355328) := by have h1 := HLn.out; rw [Hid, List.length_singleton]; omega
          have HRg : Hid ((w3.alloc (.cells #[.string x0, .int .i64 x1, .int .i64 x2, .int .i64 x3, .int .i64 x4] 31)).ranges Tryz.prog 9 RHv sb u.heap.size S.length D (fun z => left z && !z.sameKey (kT (enN ((x0, x1, x2, x3, x4), xp)))) cnt1) := (HG2.out.1.kept (below_grownY hb3) (by simp) (by simp)).kept (below_grownY hb4) (by simp) (by simp)
          have HSz : Hid (u.heap.size < (w3.alloc (.cells #[.string x0, .int .i64 x1, .int .i64 x2, .int .i64 x3, .int .i64 x4] 31)).heap.size ∧ sb < u.heap.size) := ⟨by have := HG2.out.1.lt; have h2 := hb3.size; have h3 := hb4.size; omega, HSb.out⟩
          clear hb4 q4 hb3 hC c0 c1 c2 c3 c4 c5 HG2
          go_wp2_with (at_builtin; go_must (refine row_appendP RWt.firm (A := (fun _ => False)) (w0 := u) rfl _ _ 50 31 rfl _ 48 infoWt Tryz.underlying50 rfl (by decide) (by decide) u7 l rfl HR4.out (some ⟨w3.heap.size, 0, none⟩) 1 1 [(x0, x1, x2, x3, x4)] rfl HSr.out HLb.out ?_); intro v5 w5 hrow5 hg5 hw5)
          --M6
          have hrg5 := HRg.out.kept hg5 (fun e => by have h1 := HR4.out.lt e.symm; have h2 := HSz.out.2; omega) (fun e => HV.out _ e.symm rfl)
          have HN : Hid (GatI u sb D xp fit S v5 w5) := ⟨_, cnt1, l ++ [(x0, x1, x2, x3, x4)], hrg5, hrow5, by have h1 := HPm2.out; simp only [if_true] at h1; exact (HL.out.append_right _).trans h1.symm, fun b hb => by
            rcases hw5 with e | e
            · exact HV.out b (by rw [← e]; exact hb)
            · rw [e] at hb; injection hb with hb; have := HSz.out.1; omega⟩
          have HLe : Hid (w5.rangeLeft sb u.heap.size = cnt1) := hrg5.left_eq
          clear hrg5 hrow5 hg5 hw5 HRg HR4 HSr HLb HPm2 HL HV HSz d1 d2 d3 d4 d5
          go_roundw
          case rel => exact HN
          case measure => rw [HLe.out, HRel.out]; exact HMs.out.2
      · have HN : Hid (GatI u sb D pl fit S u7 W2) := ⟨_, cnt1, l, HG2.out.1, HG2.out.2.1, by have h1 := HPm.out; simp only [hxp, decide_false, Bool.false_and, Bool.false_eq_true, if_false, List.append_nil] at h1; exact HL.out.trans h1.symm, HV.out⟩
        have HLe : Hid (W2.rangeLeft sb u.heap.size = cnt1) := HG2.out.1.left_eq
        clear HPm HW2 HG2 HL HV
        go_wp2_with fail
        --M5
        go_roundw
        case rel => exact HN
        case measure => rw [HLe.out, HRel.out]; exact HMs.out.2
end Go.Proofs.YtbmejaailhjgfaaGreat
