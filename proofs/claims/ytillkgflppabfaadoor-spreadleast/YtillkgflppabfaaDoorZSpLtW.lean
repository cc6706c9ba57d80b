/- SpreadLeast. Condition: the arguments lie as is said of them. -/
import Derived.Test.YtillkgflppabfaaDoorQ14
import Derived.Test.YtillkgflppabfaaDoorQ15
namespace Go.Proofs.YtillkgflppabfaaDoor
open Go.RowKit
set_option linter.unusedSimpArgs false
set_option maxRecDepth 100000

set_option maxHeartbeats 16000000 in
theorem spleast_walk (cs : List Value) (p : PodD) (ds : List Value) (s : SpreadD) (a : Option Addr) (n cap : Nat) (N : List NodeD) (b : Option Addr) (m capb : Nat) (L : List PlacedD) (w : World) (hp : RPod (fun _ => True) w cs p) (hs : RSpread (fun _ => True) w ds s) (hN : SlAt RNode 9 112 (fun _ => True) w a n cap N) (hL : SlAt RPlaced 17 320 (fun _ => True) w b m capb L) (ht : Hid (TB9 w.heap.size w)) :
    Calls Tryd.prog 3 #[.agg cs.toArray, .agg ds.toArray, .slice a n cap, .slice b m capb] w fun e w' => e = .returned (.bool true) ∧ Below w.heap.size w w' := by
  have HTb : Hid (∀ u, Below w.heap.size w u → TB9 u.heap.size u) := fun u hb w' h => ht.out w' (on2 hb h)
  clear ht
  obtain ⟨⟨r1, r2, r3⟩, hds, hk0, sr⟩ := hs.out
  simp only at hds sr
  subst hds
  have hlc : cs.length = 16 := RPod.firm.len hp
  have Hp : Hid (∀ u, Below w.heap.size w u → RPod (fun _ => True) u cs p ∧ SlAt RReq 3 48 (fun _ => True) u r1 r2 r3 (sReqs s) ∧ SlAt RNode 9 112 (fun _ => True) u a n cap N ∧ SlAt RPlaced 17 320 (fun b => b < w.heap.size) u b m capb L) := fun u hb => ⟨RPod.firm.kept hp (Kept.below hb), sr.on RReq.firm hb, hN.on RNode.firm hb, (hL.weak RPlaced.firm (fun b hb _ => hb)).on RPlaced.firm hb⟩
  have he0 : cs[0]? = some (.string p.1) := by obtain ⟨_, _, h, _⟩ := hp.reads9; exact h
  have hnL : Hid (L.length = m) := hL.1
  have hlenL := hL.len (by decide)
  have hbL : Hid (m * 320 ≤ 140737488351232) := hL.2.2.2.1
  have hnN : Hid (N.length = n) := hN.1
  have hlenN := hN.len (by decide)
  obtain ⟨W1, hW1⟩ : ∃ W, W = (w.alloc (.cells cs.toArray 33)).alloc (.cells #[.string s.1, .int .i64 s.2.1, .int .i64 s.2.2.1, .slice r1 r2 r3] 35) := ⟨_, rfl⟩
  have B1 : Below w.heap.size w W1 := by rw [hW1]; go_grown
  have q0 : BoxL W1 w.heap.size cs := by rw [hW1]; exact (BoxL.new w 33 cs).on ((Below.refl _ _).alloc (Nat.le_refl _) _)
  have q1 : BoxL W1 (w.heap.size + 1) [.string s.1, .int .i64 s.2.1, .int .i64 s.2.2.1, .slice r1 r2 r3] := by have h1 := BoxL.new (w.alloc (.cells cs.toArray 33)) 35 [.string s.1, .int .i64 s.2.1, .int .i64 s.2.2.1, .slice r1 r2 r3]; rw [hW1]; simpa using h1
  have HQ : Hid (BoxL W1 w.heap.size cs ∧ BoxL W1 (w.heap.size + 1) [.string s.1, .int .i64 s.2.1, .int .i64 s.2.2.1, .slice r1 r2 r3] ∧ Below w.heap.size w W1) := ⟨q0, q1, B1⟩
  clear hp hs hN hL sr q0 q1 B1
  go_enter Tryd.func3, Tryd.ntmps3
  go_wp2_with fail
  rw [← hW1]
  refine (works9_calls W1).mono ?_
  rintro e W8 ⟨rfl, b8⟩
  clear hW1
  have q0 := HQ.out.1.on b8
  have q1 := HQ.out.2.1.on b8
  have B8 : Below w.heap.size w W8 := on2 HQ.out.2.2 b8
  obtain ⟨y1, z1⟩ := q1.2 1 _ rfl
  obtain ⟨y2, z2⟩ := q1.2 2 _ rfl
  have HQ8 : Hid (BoxL W8 w.heap.size cs ∧ BoxL W8 (w.heap.size + 1) [.string s.1, .int .i64 s.2.1, .int .i64 s.2.2.1, .slice r1 r2 r3] ∧ Below w.heap.size w W8) := ⟨q0, q1, B8⟩
  clear q0 q1 B8 b8 HQ
  go_wp2_with fail
  have hAm := Among9_calls s.2.1 1000 (by omega) (by omega) W8
  rw [show (((1000 : Nat)) : Int) = 1000 from rfl] at hAm
  refine hAm.mono ?_
  clear hAm
  rintro e w8 ⟨⟨t, rfl, ht⟩, hw8⟩
  rw [hw8]
  clear hw8 w8
  obtain ⟨s', hs'⟩ : ∃ s' : SpreadD, s' = (s.1, 1 + (t : Int), 0, sReqs s) := ⟨_, rfl⟩
  obtain ⟨X3, hX3⟩ : ∃ X, X = (((W8.setCell ⟨w.heap.size + 1, 2, none⟩ (.int .i64 0)).setCell ⟨w.heap.size + 1, 1, none⟩ (.int .i64 (1 + (t : Int))))) := ⟨_, rfl⟩
  have p1 : BoxL X3 (w.heap.size + 1) [.string s.1, .int .i64 (1 + (t : Int)), .int .i64 0, .slice r1 r2 r3] := by rw [hX3]; have h1 := (HQ8.out.2.1.set 2 (.int .i64 0) (by simp)).set 1 (.int .i64 (1 + (t : Int))) (by simp); simpa using h1
  have p0 : BoxL X3 w.heap.size cs := by rw [hX3]; exact (HQ8.out.1.other (p := ⟨w.heap.size + 1, 2, none⟩) (by show w.heap.size + 1 ≠ w.heap.size; omega) _).other (p := ⟨w.heap.size + 1, 1, none⟩) (by show w.heap.size + 1 ≠ w.heap.size; omega) _
  have b3 : Below w.heap.size w X3 := by rw [hX3]; exact (HQ8.out.2.2.setCell (p := ⟨w.heap.size + 1, 2, none⟩) (Nat.le_succ _) _).setCell (p := ⟨w.heap.size + 1, 1, none⟩) (Nat.le_succ _) _
  obtain ⟨X4, hX4⟩ : ∃ X, X = X3.alloc (.cells #[.string s.1, .int .i64 (1 + (t : Int)), .int .i64 0, .slice r1 r2 r3] 35) := ⟨_, rfl⟩
  have b4 : Below X3.heap.size X3 X4 := by rw [hX4]; exact (Below.refl _ _).alloc (Nat.le_refl _) _
  have g4 : BoxL X4 X3.heap.size [.string s.1, .int .i64 (1 + (t : Int)), .int .i64 0, .slice r1 r2 r3] := by rw [hX4]; exact BoxL.new X3 35 [.string s.1, .int .i64 (1 + (t : Int)), .int .i64 0, .slice r1 r2 r3]
  obtain ⟨X5, hX5⟩ : ∃ X, X = X4.setCell ⟨w.heap.size, 12, none⟩ (.slice (some ⟨X3.heap.size, 0, none⟩) 1 1) := ⟨_, rfl⟩
  have hlt3 : w.heap.size + 1 < X3.heap.size := p1.1
  have p5 : BoxL X5 w.heap.size (cs.set 12 (.slice (some ⟨X3.heap.size, 0, none⟩) 1 1)) := by rw [hX5]; exact (p0.on b4).set 12 _ (by rw [hlc]; omega)
  have p6 : BoxL X5 (w.heap.size + 1) [.string s.1, .int .i64 (1 + (t : Int)), .int .i64 0, .slice r1 r2 r3] := by rw [hX5]; exact (p1.on b4).other (p := ⟨w.heap.size, 12, none⟩) (by show w.heap.size ≠ w.heap.size + 1; omega) _
  have g5 : BoxL X5 X3.heap.size [.string s.1, .int .i64 (1 + (t : Int)), .int .i64 0, .slice r1 r2 r3] := by rw [hX5]; exact g4.other (p := ⟨w.heap.size, 12, none⟩) (by show w.heap.size ≠ X3.heap.size; omega) _
  have b5 : Below w.heap.size w X5 := by rw [hX5]; exact (on2 b3 b4).setCell (p := ⟨w.heap.size, 12, none⟩) (Nat.le_refl _) _
  obtain ⟨cs', hcs'⟩ : ∃ c, c = cs.set 12 (.slice (some ⟨X3.heap.size, 0, none⟩) 1 1) := ⟨_, rfl⟩
  have HX : Hid (∀ u, Below X5.heap.size X5 u → BoxL u w.heap.size cs' ∧ BoxL u (w.heap.size + 1) [.string s.1, .int .i64 (1 + (t : Int)), .int .i64 0, .slice r1 r2 r3] ∧ RSpread (fun _ => True) u [.string s.1, .int .i64 (1 + (t : Int)), .int .i64 0, .slice r1 r2 r3] s' ∧ RPod (fun _ => True) u cs' (setSpr p [s']) ∧ Below w.heap.size w u) := fun u hb => by
    have hbw := on2 b5 hb
    have rs : RSpread (fun _ => True) u [.string s.1, .int .i64 (1 + (t : Int)), .int .i64 0, .slice r1 r2 r3] s' := by rw [hs']; exact RSpread.mk (x := (s.1, 1 + (t : Int), 0, sReqs s)) (h3 := (r1, r2, r3)) hk0 (Hp.out u hbw).2.1
    refine ⟨by rw [hcs']; exact p5.on hb, p6.on hb, rs, ?_, hbw⟩
    rw [hcs']; exact RPod.setSpr (g := (some ⟨X3.heap.size, 0, none⟩, 1, 1)) (Hp.out u hbw).1 (sl_one9 (g5.on hb) rs trivial (by decide))
  have he0' : Hid (cs'[0]? = some (.string p.1)) := by rw [Hid, hcs', List.getElem?_set_ne (by decide)]; exact he0
  have hi16 : (Tryd.prog.info? 33).map (·.size) = some cs'.length := by rw [hcs', List.length_set, hlc]; exact sizePo
  have HSp : Hid (1 ≤ s'.2.1 ∧ s'.2.2.1 = 0) := by rw [Hid, hs']; exact ⟨by show (1 : Int) ≤ 1 + (t : Int); omega, rfl⟩
  have hi4 : (Tryd.prog.info? 35).map (·.size) = some ([.string s.1, .int .i64 (1 + (t : Int)), .int .i64 0, .slice r1 r2 r3] : List Value).length := sizeSp
  have HR3 : Hid (X3.rangeAt (w.heap.size + 1) 0 [.string s.1, .int .i64 (1 + (t : Int)), .int .i64 0, .slice r1 r2 r3]) := p1.range
  obtain ⟨y12, z12⟩ := (p0.on b4).2 12 (cs.getD 12 default) (by rw [List.getD_eq_getElem?_getD, List.getElem?_eq_getElem (by omega)]; rfl)
  rw [hX4] at y12 z12
  have H345 : Hid (X3 = (((W8.setCell ⟨w.heap.size + 1, 2, none⟩ (.int .i64 0)).setCell ⟨w.heap.size + 1, 1, none⟩ (.int .i64 (1 + (t : Int))))) ∧ X4 = X3.alloc (.cells #[.string s.1, .int .i64 (1 + (t : Int)), .int .i64 0, .slice r1 r2 r3] 35) ∧ X5 = X4.setCell ⟨w.heap.size, 12, none⟩ (.slice (some ⟨X3.heap.size, 0, none⟩) 1 1)) := ⟨hX3, hX4, hX5⟩
  clear hs' hcs' p0 p1 p5 p6 g4 g5 b3 b4 b5 hX3 hX4 hX5 hk0 he0 hlc HQ8
  go_upto_region 4 with fail
  rw [← H345.out.1]
  clear y1 z1 y2 z2
  go_upto_region 5 with (first | (refine wpList_load_mid rfl 35 _ rfl (w.heap.size + 1) 0 rfl [.string s.1, .int .i64 (1 + (t : Int)), .int .i64 0, .slice r1 r2 r3] _ HR3.out Tryd.underlying35 rfl hi4 ?_) | fail)
  rw [← H345.out.2.1, ← H345.out.2.2]
  clear y12 z12 HR3 H345 hi4
  have hi4 : (Tryd.prog.info? 35).map (·.size) = some ([.string s.1, .int .i64 (1 + (t : Int)), .int .i64 0, .slice r1 r2 r3] : List Value).length := sizeSp
  obtain ⟨X6, hX6⟩ : ∃ X, X = X5.alloc (.cells #[] 41) := ⟨_, rfl⟩
  have HR0 : Hid (Row RPlaced 17 (fun b => b < w.heap.size) X5 X6 41 (.slice (some ⟨X5.heap.size, 0, none⟩) 0 0) (othersN p.1 (L.take 0))) := by rw [Hid, hX6]; exact Row.start _ X5 X5 _ (Below.refl _ _)
  go_upto_region 6 with fail
  rw [← hX6]
  clear hX6
  go_wp2_with fail
  go_loopw [9, 10] (fun v i wr => ∃ k : Nat, k ≤ m ∧ i = .int .i64 k ∧ Hid (Row RPlaced 17 (fun b => b < w.heap.size) X5 wr 41 v (othersN p.1 (L.take k)))) (fun _ i _ => m - (intOf i).toNat)
  case atStart => exact ⟨0, Nat.zero_le _, rfl, HR0⟩
  case round =>
    obtain ⟨k, hk, rfl, hrow⟩ := hrel
    have hx := HX.out wr hrow.out.below
    by_cases hlt : k < m
    · have hltz : (k : Int) < (m : Int) := by omega
      have hkl : k < L.length := by rw [hnL.out]; exact hlt
      obtain ⟨B, off, rfl, hB, _, xs, hr, hv⟩ := (Hp.out wr hx.2.2.2.2).2.2.2.get hlt
      have c0 := hv 0 _ hr.name9
      rw [Nat.add_zero] at c0
      have cp := (hx.1.2 0 _ he0'.out).1
      have HV : Hid (wr.rangeAt B (off + k * 17) xs) := hv
      have hi : (Tryd.prog.info? 41).map (·.size) = some xs.length := by rw [RPlaced.firm.len hr]; exact sizePl
      have HT : Hid (othersN p.1 (L.take (k + 1)) = othersN p.1 (L.take k) ++ (if sEq (L.getD k default).1.1 p.1 = true then [] else [L.getD k default])) := others_take p.1 L hkl
      have HLb : Hid (((othersN p.1 (L.take k)).length + 1) * 320 ≤ 140737488355328) := by
        have h1 := bytes_le hbL.out hlt
        have h2 := others_le8 p.1 (L.take k)
        rw [List.length_take] at h2
        rw [Hid]; omega
      have HE0 : Hid (RPlaced (fun b => b < w.heap.size) wr xs (L.getD k default)) := hr
      have hws : w.heap.size ≤ X5.heap.size ∧ w.heap.size ≤ wr.heap.size := ⟨(HX.out X5 (Below.refl _ _)).2.2.2.2.size, hx.2.2.2.2.size⟩
      generalize L.getD k default = x at HT HE0 c0
      have hq : sEq x.1.1 p.1 = (x.1.1.toList == p.1.toList) := rfl
      rw [hq] at HT
      have HSl : Hid (∀ u, Below wr.heap.size wr u → LtS w.heap.size B (off + k * 17) p.1 x.1.1 u) := fun u hb => ⟨(hb.cell (p := ⟨w.heap.size, 0, none⟩) hx.1.1).trans cp, (hb.cell (p := ⟨B, _, none⟩) hB).trans c0⟩
      skip
      clear hr hv hx c0 cp
      go_upto_region 9 with fail
      refine t0 (LtS w.heap.size B (off + k * 17) p.1 x.1.1) (HSl.out _ (Below.refl _ _).drew) (fun hHeld => ?_)
      refine' tk 0 ?_ ?_; rotate_left
      · intro u ⟨_, _⟩; go_simp; try with_reducible rfl
      try go_frame
      refine' tk 1 ?_ ?_; rotate_left
      · intro u ⟨_, _⟩; go_simp; try with_reducible rfl
      try go_frame
      refine' tk 2 ?_ ?_; rotate_left
      · intro u ⟨_, _⟩; go_simp; try with_reducible rfl
      try go_frame
      refine' tk 3 ?_ ?_; rotate_left
      · intro u ⟨_, _⟩; go_simp; try with_reducible rfl
      try go_frame
      refine' tk 4 ?_ ?_; rotate_left
      · intro u ⟨_, _⟩; go_simp; try with_reducible rfl
      try go_frame
      refine' tk 5 ?_ ?_; rotate_left
      · intro u ⟨_, _⟩; go_simp; try with_reducible rfl
      try go_frame
      refine' tk 6 ?_ ?_; rotate_left
      · intro u ⟨_, _⟩; go_simp; try with_reducible rfl
      try go_frame
      refine' tk 7 ?_ ?_; rotate_left
      · intro u ⟨_, _⟩; go_simp; try with_reducible rfl
      try go_frame
      refine' tk 8 ?_ ?_; rotate_left
      · intro u ⟨_, _⟩; go_simp; try with_reducible rfl
      try go_frame
      refine tz ?_
      obtain ⟨V, hV⟩ : ∃ V, V = wr.drew := ⟨_, rfl⟩
      have dV : Below wr.heap.size wr V := by rw [hV]; exact (Below.refl _ _).drew
      rw [← hV] at hHeld ⊢
      clear hHeld HSl
      have hrV : Row RPlaced 17 (fun b => b < w.heap.size) X5 V 41 u9 (othersN p.1 (L.take k)) := hrow.out.on RPlaced.firm dV
      have HVV : Hid (V.rangeAt B (off + k * 17) xs) := range_on10 hB dV HV.out
      have HEV : RPlaced (fun b => b < w.heap.size) V xs x := RPlaced.firm.kept HE0.out (Kept.below dV)
      clear hV HV
      cases hNm : (x.1.1.toList == p.1.toList)
      case true =>
        rw [hNm] at HT
        have h9 : Hid (Row RPlaced 17 (fun b => b < w.heap.size) X5 V 41 u9 (othersN p.1 (L.take (k + 1)))) := by rw [Hid, HT.out]; simpa using hrV
        clear hrow hrV HT HLb HE0 HEV HVV hq dV
        try rw [hNm]
        go_wp2_with fail
        go_roundw
        case rel => exact ⟨k + 1, by omega, by go_num, h9⟩
        case measure => simp [intOf]; omega
      case false =>
      rw [hNm] at HT
      obtain ⟨v0, v1, v2, v3, v4, v5, v6, v7, v8, v9, v10, v11, v12, v13, v14, v15, v16, rfl⟩ := RPlaced.lit HEV
      have hb3 : Below V.heap.size V (V.alloc (.cells #[v0, v1, v2, v3, v4, v5, v6, v7, v8, v9, v10, v11, v12, v13, v14, v15, v16] 41)) := (Below.refl _ _).alloc (Nat.le_refl _) _
      have HR3 : Hid (Row RPlaced 17 (fun b => b < w.heap.size) X5 (V.alloc (.cells #[v0, v1, v2, v3, v4, v5, v6, v7, v8, v9, v10, v11, v12, v13, v14, v15, v16] 41)) 41 u9 (othersN p.1 (L.take k))) := hrV.on RPlaced.firm hb3
      have HE : RPlaced (fun b => b < w.heap.size ∧ Value.ownBlock u9 ≠ some b) (V.alloc (.cells #[v0, v1, v2, v3, v4, v5, v6, v7, v8, v9, v10, v11, v12, v13, v14, v15, v16] 41)) [v0, v1, v2, v3, v4, v5, v6, v7, v8, v9, v10, v11, v12, v13, v14, v15, v16] x := RPlaced.firm.weak (RPlaced.firm.kept HEV (Kept.below hb3)) (fun b _ hb => ⟨hb, fun e => by have h1 := (row_lt8 hrV e).1; have h2 : b < w.heap.size := hb; have h3 := hws.1; omega⟩)
      have H1 : Hid (∀ y ∈ [v0, v1, v2, v3, v4, v5, v6, v7, v8, v9, v10, v11, v12, v13, v14, v15, v16], y.oneCell' = true) := RPlaced.firm.one HE
      have HCh : Hid (Chunks RPlaced 17 (fun b => b < w.heap.size ∧ Value.ownBlock u9 ≠ some b) (V.alloc (.cells #[v0, v1, v2, v3, v4, v5, v6, v7, v8, v9, v10, v11, v12, v13, v14, v15, v16] 41)) [v0, v1, v2, v3, v4, v5, v6, v7, v8, v9, v10, v11, v12, v13, v14, v15, v16] [x]) := chunk_one RPlaced.firm HE
      have HXc : Hid (∀ j y, [v0, v1, v2, v3, v4, v5, v6, v7, v8, v9, v10, v11, v12, v13, v14, v15, v16][j]? = some y → (V.alloc (.cells #[v0, v1, v2, v3, v4, v5, v6, v7, v8, v9, v10, v11, v12, v13, v14, v15, v16] 41)).cell? ((⟨V.heap.size, 0, none⟩ : Addr).add j) = some y) := one_cells V _ 41
      have HT2 : Hid (othersN p.1 (L.take k) ++ [x] = othersN p.1 (L.take (k + 1))) := by rw [Hid, HT.out]; rfl
      have HLb2 : Hid (((othersN p.1 (L.take k)).length + [x].length) * 320 ≤ 140737488355328) := HLb.out
      clear HE HE0 HEV hb3 hrow hrV HT HLb hq dV
      try rw [hNm]
      go_wp2_with (first | (refine wpList_load_mid rfl 41 _ rfl B (off + k * 17) rfl [v0, v1, v2, v3, v4, v5, v6, v7, v8, v9, v10, v11, v12, v13, v14, v15, v16] _ HVV.out Tryd.underlying41 rfl hi ?_) | (at_builtin; go_must (refine row_append RPlaced.firm (A := fun b => b < w.heap.size) (w0 := X5) rfl _ _ 37 41 rfl _ 320 infoPl Tryd.underlying37 rfl (by decide) (by decide) u9 (othersN p.1 (L.take k)) rfl HR3.out ⟨V.heap.size, 0, none⟩ 1 1 _ [x] rfl rfl HCh.out HXc.out H1.out HLb2.out ?_); intro v4 w4 hrow4 hg4))
      rw [HT2.out] at hrow4
      go_roundw
      case rel => exact ⟨k + 1, by omega, by go_num, hrow4⟩
      case measure => simp [intOf]; omega
    · have hk' : L.take k = L := List.take_of_length_le (by rw [hnL.out]; omega)
      obtain ⟨wy, hwy⟩ : ∃ x, x = wr := ⟨_, rfl⟩
      subst hwy
      rw [hk'] at hrow
      have hby : (othersN p.1 L).length * 320 ≤ 140737488351232 := by have h1 := others_le8 p.1 L; have h2 := hbL.out; rw [hnL.out] at h1; omega
      obtain ⟨av, cv, rfl, sv⟩ := hrow.out.slO9 (bytes := 320) RPlaced.firm hby
      have HB : Hid (Below X5.heap.size X5 wy) := hrow.out.below
      have hoi := others_idem p.1 L
      skip
      generalize othersN p.1 L = Q at sv hoi hby
      have HSv : Hid (∀ u, Below wy.heap.size wy u → SlAt RPlaced 17 320 (fun _ => True) u av Q.length cv Q) := fun u hb => sv.on RPlaced.firm hb
      have HCt := pCts_calls [.string s.1, .int .i64 (1 + (t : Int)), .int .i64 0, .slice r1 r2 r3] _ _ _ s' a n cap N av Q.length cv Q wy hx.2.2.1 (Hp.out wy hx.2.2.2.2).2.2.1 (HSv.out wy (Below.refl _ _)) (HTb.out wy hx.2.2.2.2)
      have HRs : Hid (wy.rangeAt (w.heap.size + 1) 0 [.string s.1, .int .i64 (1 + (t : Int)), .int .i64 0, .slice r1 r2 r3]) := hx.2.1.range
      have HOi : Hid (othersN p.1 Q = Q) := hoi
      have hcd : (countsP s' N Q).length = (domsP s'.1 N).length := by unfold countsP; rw [List.length_map]
      have hcl : (countsP s' N Q).length ≤ 140737488351232 := by have h1 := counts_le s' N Q; have h2 := hnN.out; omega
      clear hx hrow sv hby hoi HR0
      go_wp2_with (first | (refine wpList_load_mid rfl 35 _ rfl (w.heap.size + 1) 0 rfl [.string s.1, .int .i64 (1 + (t : Int)), .int .i64 0, .slice r1 r2 r3] _ HRs.out Tryd.underlying35 rfl hi4 ?_) | fail)
      refine HCt.mono ?_
      clear HCt HRs
      rintro e z1 ⟨a6, c6, rfl, _, bz1⟩
      have HZ : Hid (Below wy.heap.size wy z1) := bz1
      clear bz1
      have Hcd : Hid ((countsP s' N Q).length = (domsP s'.1 N).length) := hcd
      clear hcd
      generalize (countsP s' N Q).length = cl at Hcd hcl
      obtain ⟨op, hop⟩ : ∃ op : Bool, op = ((cl : Int) == 0) := ⟨_, rfl⟩
      have HOp : Hid (op = true ↔ domsP s'.1 N = []) := by rw [Hid, hop, ← List.length_eq_zero_iff, ← Hcd.out, beq_iff_eq]; omega
      go_upto_region 12 with fail
      rw [← hop]
      clear hop
      go_wp2_with fail
      go_loopw [11, 12] (fun o i wx => ∃ (k : Nat) (ob : Bool), k ≤ n ∧ i = .int .i64 k ∧ o = .bool ob ∧ Hid (Below wy.heap.size wy wx ∧ (op = true → ob = true) ∧ ∀ j, j < k → spreadP 12 (setSpr p [s']) (nLabs (N.getD j default)) N Q = 0 → ob = true)) (fun _ i _ => n - (intOf i).toNat)
      case atStart => exact ⟨0, op, Nat.zero_le _, rfl, rfl, HZ.out, fun h => h, fun j hj => absurd hj (Nat.not_lt_zero _)⟩
      case round =>
        obtain ⟨k, ob, hk, rfl, rfl, hst⟩ := hrel
        have hx := HX.out wr (on2 HB.out hst.out.1)
        by_cases hlt : k < n
        · have hltz : (k : Int) < (n : Int) := by omega
          obtain ⟨B, off, rfl, hB, _, xs, hr, hv⟩ := (Hp.out wr hx.2.2.2.2).2.2.1.get hlt
          obtain ⟨⟨g1, g2, g3⟩, _, rfl, _, sg, _⟩ := hr.out
          simp only at sg
          have d1 := hv 1 _ rfl
          have HSk : Hid (∀ u, Below wr.heap.size wr u → LtK cs' w.heap.size B (off + k * 9 + 1) (g1, g2, g3) u) := fun u hb => ⟨hx.1.on hb, (hb.cell (p := ⟨B, _, none⟩) hB).trans d1⟩
          have d0 : Below wr.heap.size wr wr.drew := (Below.refl _ _).drew
          have HCk := pChk_calls cs' (setSpr p [s']) g1 g2 g3 (nLabs (N.getD k default)) (some ⟨B, off, none⟩) n cap N av Q.length cv Q wr.drew (RPod.firm.kept hx.2.2.2.1 (Kept.below d0)) (sg.on RLabel.firm d0) ((Hp.out wr hx.2.2.2.2).2.2.1.on RNode.firm d0) (HSv.out _ (on2 hst.out.1 d0))
          have HNx : Hid (∀ ob' : Bool, (ob = true → ob' = true) → (spreadP 12 (setSpr p [s']) (nLabs (N.getD k default)) N Q = 0 → ob' = true) → (op = true → ob' = true) ∧ ∀ j, j < k + 1 → spreadP 12 (setSpr p [s']) (nLabs (N.getD j default)) N Q = 0 → ob' = true) := fun ob' h1 h2 => ⟨fun h => h1 (hst.out.2.1 h), fun j hj he => by
            rcases Nat.lt_succ_iff_lt_or_eq.1 hj with h | rfl
            · exact h1 (hst.out.2.2 j h he)
            · exact h2 he⟩
          have HBx : Hid (Below wy.heap.size wy wr) := hst.out.1
          generalize spreadP 12 (setSpr p [s']) (nLabs (N.getD k default)) N Q = ans at HCk HNx
          clear hst hr hv sg d1 hx
          go_upto_region 15 with fail
          refine t0 (LtK cs' w.heap.size B (off + k * 9 + 1) (g1, g2, g3)) (HSk.out _ d0) (fun hHeld => ?_)
          refine' tk 0 ?_ ?_; rotate_left
          · intro u ⟨_, _⟩; go_simp; try with_reducible rfl
          try go_frame
          refine' tk 1 ?_ ?_; rotate_left
          · intro u ⟨_, _⟩; go_simp; try with_reducible rfl
          try go_frame
          cases ob
          case true =>
            refine tn 2 ?_
            try go_frame
            refine tn 3 ?_
            try go_frame
            refine tn 4 ?_
            try go_frame
            refine tn 5 ?_
            try go_frame
            refine tn 6 ?_
            try go_frame
            refine tn 7 ?_
            try go_frame
            refine tn 8 ?_
            try go_frame
            refine tn 9 ?_
            try go_frame
            refine tn 10 ?_
            try go_frame
            refine tn 11 ?_
            try go_frame
            refine' tk 12 ?_ ?_; rotate_left
            · intro u ⟨_, _⟩; go_simp; try with_reducible rfl
            try go_frame
            refine' tk 13 ?_ ?_; rotate_left
            · intro u ⟨_, _⟩; go_simp; try with_reducible rfl
            try go_frame
            refine tz ?_
            have HN2 : Hid (Below wy.heap.size wy wr.drew ∧ (op = true → true = true) ∧ ∀ j, j < k + 1 → spreadP 12 (setSpr p [s']) (nLabs (N.getD j default)) N Q = 0 → true = true) := ⟨on2 HBx.out d0, HNx.out true (fun _ => rfl) (fun _ => rfl)⟩
            clear HCk HNx HSk hHeld HBx d0
            go_wp2_with fail
            go_roundw
            case rel => exact ⟨k + 1, true, by omega, by go_num, rfl, HN2⟩
            case measure => simp [intOf]; omega
          case false =>
          refine' tq 2 (.agg cs'.toArray) ?_ ?_
          · exact yieldsIf_load_mid rfl 33 _ rfl w.heap.size 0 rfl cs' _ (fun u hu => hu.1.range) Tryd.underlying33 rfl hi16
          try go_frame
          refine' tk 3 ?_ ?_; rotate_left
          · intro u ⟨_, _⟩; go_simp; try with_reducible rfl
          try go_frame
          refine' tk 4 ?_ ?_; rotate_left
          · intro u ⟨_, _⟩; go_simp; try with_reducible rfl
          try go_frame
          refine' tk 5 ?_ ?_; rotate_left
          · intro u ⟨_, _⟩; go_simp; try with_reducible rfl
          try go_frame
          refine' tk 6 ?_ ?_; rotate_left
          · intro u ⟨_, _⟩; go_simp; try with_reducible rfl
          try go_frame
          refine' tk 7 ?_ ?_; rotate_left
          · intro u ⟨_, _⟩; go_simp; try with_reducible rfl
          try go_frame
          refine' tk 8 ?_ ?_; rotate_left
          · intro u ⟨_, _⟩; go_simp; try with_reducible rfl
          try go_frame
          refine' tk 9 ?_ ?_; rotate_left
          · intro u ⟨_, _⟩; go_simp; try with_reducible rfl
          try go_frame
          refine tr 10 (fun K hK => ?_)
          go_simp
          refine HCk.mono ?_
          rintro e u1 ⟨rfl, b1⟩
          have e1 : Below wr.heap.size wr u1 := on2 d0 b1
          go_wp2_with fail
          refine hK.out _ _ (HSk.out _ e1) (fun hHeld2 => ?_)
          clear hK K hHeld HCk; have hHeld := hHeld2; clear hHeld2
          try go_frame
          refine' tk 11 ?_ ?_; rotate_left
          · intro u ⟨_, _⟩; go_simp; try with_reducible rfl
          try go_frame
          refine' tk 12 ?_ ?_; rotate_left
          · intro u ⟨_, _⟩; go_simp; try with_reducible rfl
          try go_frame
          refine' tk 13 ?_ ?_; rotate_left
          · intro u ⟨_, _⟩; go_simp; try with_reducible rfl
          try go_frame
          refine tz ?_
          obtain ⟨ob2, hob2⟩ : ∃ o : Bool, o = (ans == 0) := ⟨_, rfl⟩
          have HN2 : Hid (Below wy.heap.size wy u1 ∧ (op = true → ob2 = true) ∧ ∀ j, j < k + 1 → spreadP 12 (setSpr p [s']) (nLabs (N.getD j default)) N Q = 0 → ob2 = true) := ⟨on2 HBx.out e1, HNx.out ob2 (fun h => by cases h) (fun h => by rw [hob2, h]; rfl)⟩
          rw [← hob2]
          clear HNx HSk hHeld HBx d0 b1 e1 hob2
          go_wp2_with fail
          go_roundw
          case rel => exact ⟨k + 1, ob2, by omega, by go_num, rfl, HN2⟩
          case measure => simp [intOf]; omega
        · have hlz : ¬ ((k : Int) < (n : Int)) := by omega
          have hob : ob = true := by
            by_cases hd : domsP s'.1 N = []
            · exact hst.out.2.1 (HOp.out.2 hd)
            · obtain ⟨nd, hnd, e⟩ := least_open p s' HSp.out.1 HSp.out.2 N Q hd HOi.out
              obtain ⟨j, hj, rfl⟩ := List.mem_iff_getElem.1 hnd
              refine hst.out.2.2 j (by have h1 := hnN.out; omega) ?_
              rw [List.getD_eq_getElem?_getD, List.getElem?_eq_getElem hj]; exact e
          have HF : Hid (Below w.heap.size w wr) := hx.2.2.2.2
          clear hst hx
          subst hob
          go_wp2_with fail
          go_ret
          exact ⟨rfl, HF.out⟩
end Go.Proofs.YtillkgflppabfaaDoor
