/- The law SpreadHolds' walk. Condition: the arguments lie as is said of them; the program's contracts. -/
import Derived.Test.YtillkgflppabfaaW01
namespace Go.Proofs.Ytillkgflppabfaa
open Go.RowKit
set_option linter.unusedSimpArgs false
set_option maxRecDepth 100000

theorem holds_skew (p : PodD) (s : SpreadD) (hl : s.2.2.1 = 0) (hm : matchL (pLabs p) (sReqs s) = true) (N : List NodeD) (nd : NodeD) (hnd : nd ∈ N) (Q : List PlacedD) (ho : othersN p.1 Q = Q) (hc : spreadP 12 (setSpr p [s]) (nLabs nd) N Q = 0) :
    (skewP s N (Q ++ [(setSpr p [s], nLabs nd)]) ≤ skewP s N Q ∨ skewP s N (Q ++ [(setSpr p [s], nLabs nd)]) ≤ s.2.1) ∧ skewP s N Q - 1 ≤ skewP s N (Q ++ [(setSpr p [s], nLabs nd)]) := by
  have e1 : othersN (setSpr p [s]).1 Q = Q := ho
  have e2 : pSpreads (setSpr p [s]) = [s] := rfl
  have hb : badS (pLabs p) (nLabs nd) N Q s = false := by
    unfold spreadP at hc
    rw [e1, e2] at hc
    simp only [List.any_cons, List.any_nil, Bool.or_false] at hc
    have e3 : pLabs (setSpr p [s]) = pLabs p := rfl
    rw [e3] at hc
    cases h : badS (pLabs p) (nLabs nd) N Q s
    · rfl
    · rw [h] at hc; simp at hc
  unfold badS at hb
  rw [hm, hl] at hb
  have hlen : ¬ ((domsP s.1 N).length : Int) < 0 := by omega
  rw [if_neg hlen, if_pos rfl, Bool.or_eq_false_iff] at hb
  obtain ⟨h1, h2⟩ := hb
  have h1' : (getL (nLabs nd) s.1).2 = true := by simpa using h1
  have h2' := of_decide_eq_false h2
  have hd : (getL (nLabs nd) s.1).1 ∈ domsP s.1 N := (mem_doms s.1 _ N).2 ⟨nd, hnd, h1', rfl⟩
  unfold skewP
  refine holds_plain (d := (getL (nLabs nd) s.1).1) hd (fun e => ?_) (by omega)
  show cntP s e (Q ++ [(setSpr p [s], nLabs nd)]) = cntP s e Q + _
  rw [cnt_snoc]
  congr 1
  have hin : inS s e (setSpr p [s], nLabs nd) = sEq (getL (nLabs nd) s.1).1 e := by
    show ((getL (nLabs nd) s.1).2 && (sEq (getL (nLabs nd) s.1).1 e && matchL (pLabs p) (sReqs s))) = _
    rw [h1', hm]; simp
  rw [hin]
  by_cases q : e = (getL (nLabs nd) s.1).1
  · rw [if_pos q, if_pos ((sEq_iff _ _).2 q.symm)]
  · rw [if_neg q, if_neg (fun h => q ((sEq_iff _ _).1 h).symm)]
theorem skew_bound (s : SpreadD) (N : List NodeD) (l : List PlacedD) (h : l.length ≤ 140737488351232) : -140737488351232 ≤ skewP s N l ∧ skewP s N l ≤ 140737488351232 := by
  have h1 := lo_le (fun v => cntP s v l) _ (fun d => Nat.le_trans (cnt_le s d l) h) (domsP s.1 N)
  unfold skewP
  omega
set_option maxHeartbeats 16000000 in
theorem spholds_walk (cs : List Value) (p : PodD) (ds : List Value) (s : SpreadD) (which : Int) (a : Option Addr) (n cap : Nat) (N : List NodeD) (b : Option Addr) (m capb : Nat) (L : List PlacedD) (w : World) (hp : RPod (fun _ => True) w cs p) (hs : RSpread (fun _ => True) w ds s) (hN : SlAt RNode 9 112 (fun _ => True) w a n cap N) (hL : SlAt RPlaced 17 320 (fun _ => True) w b m capb L) :
    Calls Try.prog 4 #[.agg cs.toArray, .agg ds.toArray, .int .i64 which, .slice a n cap, .slice b m capb] w fun e w' => e = .returned (.bool true) ∧ Below w.heap.size w w' := by
  obtain ⟨⟨r1, r2, r3⟩, hds, hk0, sr⟩ := hs.out
  simp only at hds sr
  subst hds
  have hlc : cs.length = 16 := RPod.firm.len hp
  have Hp : Hid (∀ u, Below w.heap.size w u → RPod (fun _ => True) u cs p ∧ SlAt RReq 3 48 (fun _ => True) u r1 r2 r3 (sReqs s) ∧ SlAt RNode 9 112 (fun _ => True) u a n cap N ∧ SlAt RPlaced 17 320 (fun b => b < w.heap.size) u b m capb L) := fun u hb => ⟨RPod.firm.kept hp (Kept.below hb), sr.on RReq.firm hb, hN.on RNode.firm hb, (hL.weak RPlaced.firm (fun b hb _ => hb)).on RPlaced.firm hb⟩
  obtain ⟨⟨f1, f2, f3⟩, _, he0, he2, _, sf, _⟩ := hp.reads9
  simp only at he2 sf
  have HSf : Hid (∀ u, Below w.heap.size w u → SlAt RLabel 2 32 (fun _ => True) u f1 f2 f3 (pLabs p)) := fun u hb => sf.on RLabel.firm hb
  have hnL : Hid (L.length = m) := hL.1
  have hlenL := hL.len (by decide)
  have hbL : Hid (m * 320 ≤ 140737488351232) := hL.2.2.2.1
  have hnN : Hid (N.length = n) := hN.1
  have hlenN := hN.len (by decide)
  obtain ⟨W1, hW1⟩ : ∃ W, W = (w.alloc (.cells cs.toArray 33)).alloc (.cells #[.string s.1, .int .i64 s.2.1, .int .i64 s.2.2.1, .slice r1 r2 r3] 45) := ⟨_, rfl⟩
  have B1 : Below w.heap.size w W1 := by rw [hW1]; go_grown
  have q0 : BoxL W1 w.heap.size cs := by rw [hW1]; exact (BoxL.new w 33 cs).on ((Below.refl _ _).alloc (Nat.le_refl _) _)
  have q1 : BoxL W1 (w.heap.size + 1) [.string s.1, .int .i64 s.2.1, .int .i64 s.2.2.1, .slice r1 r2 r3] := by have h1 := BoxL.new (w.alloc (.cells cs.toArray 33)) 45 [.string s.1, .int .i64 s.2.1, .int .i64 s.2.2.1, .slice r1 r2 r3]; rw [hW1]; simpa using h1
  have HQ : Hid (BoxL W1 w.heap.size cs ∧ BoxL W1 (w.heap.size + 1) [.string s.1, .int .i64 s.2.1, .int .i64 s.2.2.1, .slice r1 r2 r3] ∧ Below w.heap.size w W1) := ⟨q0, q1, B1⟩
  clear hp hs hN hL sr q0 q1 B1 sf
  go_enter Try.func4, Try.ntmps4
  go_wp2_with fail
  rw [← hW1]
  refine (works9_calls W1).mono ?_
  rintro e W8 ⟨rfl, b8⟩
  clear hW1
  have q0 := HQ.out.1.on b8
  have q1 := HQ.out.2.1.on b8
  have B8 : Below w.heap.size w W8 := on2 HQ.out.2.2 b8
  obtain ⟨y2, z2⟩ := q1.2 2 _ rfl
  have HQ8 : Hid (BoxL W8 w.heap.size cs ∧ BoxL W8 (w.heap.size + 1) [.string s.1, .int .i64 s.2.1, .int .i64 s.2.2.1, .slice r1 r2 r3] ∧ Below w.heap.size w W8) := ⟨q0, q1, B8⟩
  clear q0 q1 B8 b8 HQ
  obtain ⟨s', hs'⟩ : ∃ s' : SpreadD, s' = (s.1, s.2.1, 0, sReqs s) := ⟨_, rfl⟩
  obtain ⟨X3, hX3⟩ : ∃ X, X = (W8.setCell ⟨w.heap.size + 1, 2, none⟩ (.int .i64 0)) := ⟨_, rfl⟩
  have p1 : BoxL X3 (w.heap.size + 1) [.string s.1, .int .i64 s.2.1, .int .i64 0, .slice r1 r2 r3] := by rw [hX3]; have h1 := HQ8.out.2.1.set 2 (.int .i64 0) (by simp); simpa using h1
  have p0 : BoxL X3 w.heap.size cs := by rw [hX3]; exact HQ8.out.1.other (p := ⟨w.heap.size + 1, 2, none⟩) (by show w.heap.size + 1 ≠ w.heap.size; omega) _
  have b3 : Below w.heap.size w X3 := by rw [hX3]; exact HQ8.out.2.2.setCell (p := ⟨w.heap.size + 1, 2, none⟩) (Nat.le_succ _) _
  obtain ⟨X4, hX4⟩ : ∃ X, X = X3.alloc (.cells #[.string s.1, .int .i64 s.2.1, .int .i64 0, .slice r1 r2 r3] 45) := ⟨_, rfl⟩
  have b4 : Below X3.heap.size X3 X4 := by rw [hX4]; exact (Below.refl _ _).alloc (Nat.le_refl _) _
  have g4 : BoxL X4 X3.heap.size [.string s.1, .int .i64 s.2.1, .int .i64 0, .slice r1 r2 r3] := by rw [hX4]; exact BoxL.new X3 45 [.string s.1, .int .i64 s.2.1, .int .i64 0, .slice r1 r2 r3]
  obtain ⟨X5, hX5⟩ : ∃ X, X = X4.setCell ⟨w.heap.size, 12, none⟩ (.slice (some ⟨X3.heap.size, 0, none⟩) 1 1) := ⟨_, rfl⟩
  have hlt3 : w.heap.size + 1 < X3.heap.size := p1.1
  have p5 : BoxL X5 w.heap.size (cs.set 12 (.slice (some ⟨X3.heap.size, 0, none⟩) 1 1)) := by rw [hX5]; exact (p0.on b4).set 12 _ (by rw [hlc]; omega)
  have p6 : BoxL X5 (w.heap.size + 1) [.string s.1, .int .i64 s.2.1, .int .i64 0, .slice r1 r2 r3] := by rw [hX5]; exact (p1.on b4).other (p := ⟨w.heap.size, 12, none⟩) (by show w.heap.size ≠ w.heap.size + 1; omega) _
  have g5 : BoxL X5 X3.heap.size [.string s.1, .int .i64 s.2.1, .int .i64 0, .slice r1 r2 r3] := by rw [hX5]; exact g4.other (p := ⟨w.heap.size, 12, none⟩) (by show w.heap.size ≠ X3.heap.size; omega) _
  have b5 : Below w.heap.size w X5 := by rw [hX5]; exact (on2 b3 b4).setCell (p := ⟨w.heap.size, 12, none⟩) (Nat.le_refl _) _
  obtain ⟨cs', hcs'⟩ : ∃ c, c = cs.set 12 (.slice (some ⟨X3.heap.size, 0, none⟩) 1 1) := ⟨_, rfl⟩
  have HX : Hid (∀ u, Below X5.heap.size X5 u → BoxL u w.heap.size cs' ∧ BoxL u (w.heap.size + 1) [.string s.1, .int .i64 s.2.1, .int .i64 0, .slice r1 r2 r3] ∧ RSpread (fun _ => True) u [.string s.1, .int .i64 s.2.1, .int .i64 0, .slice r1 r2 r3] s' ∧ RPod (fun _ => True) u cs' (setSpr p [s']) ∧ Below w.heap.size w u) := fun u hb => by
    have hbw := on2 b5 hb
    have rs : RSpread (fun _ => True) u [.string s.1, .int .i64 s.2.1, .int .i64 0, .slice r1 r2 r3] s' := by rw [hs']; exact RSpread.mk (x := (s.1, s.2.1, 0, sReqs s)) (h3 := (r1, r2, r3)) hk0 (Hp.out u hbw).2.1
    refine ⟨by rw [hcs']; exact p5.on hb, p6.on hb, rs, ?_, hbw⟩
    rw [hcs']; exact RPod.setSpr (g := (some ⟨X3.heap.size, 0, none⟩, 1, 1)) (Hp.out u hbw).1 (sl_one9 (g5.on hb) rs trivial (by decide))
  have he0' : Hid (cs'[0]? = some (.string p.1)) := by rw [Hid, hcs', List.getElem?_set_ne (by decide)]; exact he0
  have he2' : Hid (cs'[2]? = some (.slice f1 f2 f3)) := by rw [Hid, hcs', List.getElem?_set_ne (by decide)]; exact he2
  have hi16 : (Try.prog.info? 33).map (·.size) = some cs'.length := by rw [hcs', List.length_set, hlc]; exact sizePo
  have HSp : Hid (s'.2.2.1 = 0 ∧ sReqs s' = sReqs s ∧ s'.2.1 = s.2.1) := by rw [Hid, hs']; exact ⟨rfl, rfl, rfl⟩
  have hi4 : (Try.prog.info? 45).map (·.size) = some ([.string s.1, .int .i64 s.2.1, .int .i64 0, .slice r1 r2 r3] : List Value).length := sizeSp
  have HR3 : Hid (X3.rangeAt (w.heap.size + 1) 0 [.string s.1, .int .i64 s.2.1, .int .i64 0, .slice r1 r2 r3]) := p1.range
  obtain ⟨y12, z12⟩ := (p0.on b4).2 12 (cs.getD 12 default) (by rw [List.getD_eq_getElem?_getD, List.getElem?_eq_getElem (by omega)]; rfl)
  rw [hX4] at y12 z12
  have H345 : Hid (X3 = (W8.setCell ⟨w.heap.size + 1, 2, none⟩ (.int .i64 0)) ∧ X4 = X3.alloc (.cells #[.string s.1, .int .i64 s.2.1, .int .i64 0, .slice r1 r2 r3] 45) ∧ X5 = X4.setCell ⟨w.heap.size, 12, none⟩ (.slice (some ⟨X3.heap.size, 0, none⟩) 1 1)) := ⟨hX3, hX4, hX5⟩
  clear hs' hcs' p0 p1 p5 p6 g4 g5 b3 b4 b5 hX3 hX4 hX5 hk0 he0 he2 hlc HQ8
  go_upto_region 4 with fail
  rw [← H345.out.1]
  clear y2 z2
  go_upto_region 5 with (first | (refine wpList_load_mid rfl 45 _ rfl (w.heap.size + 1) 0 rfl [.string s.1, .int .i64 s.2.1, .int .i64 0, .slice r1 r2 r3] _ HR3.out Try.underlying45 rfl hi4 ?_) | fail)
  rw [← H345.out.2.1, ← H345.out.2.2]
  clear y12 z12 HR3 H345 hi4
  have hi4 : (Try.prog.info? 45).map (·.size) = some ([.string s.1, .int .i64 s.2.1, .int .i64 0, .slice r1 r2 r3] : List Value).length := sizeSp
  have HF5 : Hid (Below w.heap.size w X5) := (HX.out X5 (Below.refl _ _)).2.2.2.2
  by_cases hn0 : n = 0
  case pos =>
    have hz : ((n : Int) == 0) = true := by rw [hn0]; rfl
    clear HX Hp
    go_wp2_with fail
    go_ret
    exact ⟨rfl, HF5.out⟩
  have hz : ((n : Int) == 0) = false := by rw [beq_eq_false_iff_ne]; omega
  have yp2 := ((HX.out X5 (Below.refl _ _)).1.2 2 _ he2'.out).1
  have ys3 := ((HX.out X5 (Below.refl _ _)).2.1.2 3 _ rfl).1
  have HMt := Match_sl f1 f2 f3 _ (pLabs p) r1 r2 r3 _ (sReqs s) X5 (HSf.out X5 HF5.out) (Hp.out X5 HF5.out).2.1
  go_wp2_with fail
  refine HMt.mono ?_
  clear HMt yp2 ys3
  rintro e Xm ⟨rfl, bm⟩
  have HFm : Hid (Below w.heap.size w Xm) := on2 HF5.out bm
  cases hmt : matchL (pLabs p) (sReqs s)
  case false =>
    try rw [hmt]
    clear HX Hp
    go_wp2_with fail
    go_ret
    exact ⟨rfl, HFm.out⟩
  have HMm : Hid (matchL (pLabs p) (sReqs s) = true) := hmt
  try rw [hmt]
  clear hmt
  have HX0 := HX
  replace HX : Hid (∀ u, Below Xm.heap.size Xm u → BoxL u w.heap.size cs' ∧ BoxL u (w.heap.size + 1) [.string s.1, .int .i64 s.2.1, .int .i64 0, .slice r1 r2 r3] ∧ RSpread (fun _ => True) u [.string s.1, .int .i64 s.2.1, .int .i64 0, .slice r1 r2 r3] s' ∧ RPod (fun _ => True) u cs' (setSpr p [s']) ∧ Below w.heap.size w u) := fun u hb => HX0.out u (on2 bm hb)
  clear HX0 bm HF5
  skip
  obtain ⟨X6, hX6⟩ : ∃ X, X = Xm.alloc (.cells #[] 48) := ⟨_, rfl⟩
  have HR0 : Hid (Row RPlaced 17 (fun b => b < w.heap.size) Xm X6 48 (.slice (some ⟨Xm.heap.size, 0, none⟩) 0 0) (othersN p.1 (L.take 0))) := by rw [Hid, hX6]; exact Row.start _ Xm Xm _ (Below.refl _ _)
  go_upto_region 8 with fail
  rw [← hX6]
  clear hX6
  go_wp2_with fail
  go_loopw [11, 12] (fun v i wr => ∃ k : Nat, k ≤ m ∧ i = .int .i64 k ∧ Hid (Row RPlaced 17 (fun b => b < w.heap.size) Xm wr 48 v (othersN p.1 (L.take k)))) (fun _ i _ => m - (intOf i).toNat)
  case atStart => exact ⟨0, Nat.zero_le _, rfl, HR0⟩
  case round =>
    obtain ⟨k, hk, rfl, hrow⟩ := hrel
    have hx := HX.out wr hrow.out.below
    by_cases hlt : k < m
    · have hltz : (k : Int) < (m : Int) := by omega
      have hkl : k < L.length := by rw [hnL.out]; exact hlt
      obtain ⟨B, off, rfl, hB, _, xs, hr, hv⟩ := (Hp.out wr hx.2.2.2.2).2.2.2.get hlt
      have c0 := hv 0 _ hr.name9
      rw [Nat.add_zero] at c0
      have cp := (hx.1.2 0 _ he0'.out).1
      have HV : Hid (wr.rangeAt B (off + k * 17) xs) := hv
      have hi : (Try.prog.info? 48).map (·.size) = some xs.length := by rw [RPlaced.firm.len hr]; exact sizePl
      have HT : Hid (othersN p.1 (L.take (k + 1)) = othersN p.1 (L.take k) ++ (if sEq (L.getD k default).1.1 p.1 = true then [] else [L.getD k default])) := others_take p.1 L hkl
      have HLb : Hid (((othersN p.1 (L.take k)).length + 1) * 320 ≤ 140737488355328) := by
        have h1 := bytes_le hbL.out hlt
        have h2 := others_le8 p.1 (L.take k)
        rw [List.length_take] at h2
        rw [Hid]; omega
      have HE0 : Hid (RPlaced (fun b => b < w.heap.size) wr xs (L.getD k default)) := hr
      have hws : w.heap.size ≤ Xm.heap.size ∧ w.heap.size ≤ wr.heap.size := ⟨(HX.out Xm (Below.refl _ _)).2.2.2.2.size, hx.2.2.2.2.size⟩
      generalize L.getD k default = x at HT HE0 c0
      have hq : sEq x.1.1 p.1 = (x.1.1.toList == p.1.toList) := rfl
      rw [hq] at HT
      have HSl : Hid (∀ u, Below wr.heap.size wr u → LtS w.heap.size B (off + k * 17) p.1 x.1.1 u) := fun u hb => ⟨(hb.cell (p := ⟨w.heap.size, 0, none⟩) hx.1.1).trans cp, (hb.cell (p := ⟨B, _, none⟩) hB).trans c0⟩
      skip
      clear hr hv hx c0 cp
      go_upto_region 11 with fail
      refine t0 (LtS w.heap.size B (off + k * 17) p.1 x.1.1) (HSl.out _ (Below.refl _ _).drew) (fun hHeld => ?_)
      refine' tk 0 ?_ ?_; rotate_left
      · intro u ⟨_, _⟩; go_simp; try with_reducible rfl
      try go_frame
      refine' tk 1 ?_ ?_; rotate_left
      · intro u ⟨_, _⟩; go_simp; try with_reducible rfl
      try go_frame
      refine' tk 2 ?_ ?_; rotate_left
      · intro u ⟨_, _⟩; go_simp; try with_reducible rfl
      try go_frame
      refine' tk 3 ?_ ?_; rotate_left
      · intro u ⟨_, _⟩; go_simp; try with_reducible rfl
      try go_frame
      refine' tk 4 ?_ ?_; rotate_left
      · intro u ⟨_, _⟩; go_simp; try with_reducible rfl
      try go_frame
      refine' tk 5 ?_ ?_; rotate_left
      · intro u ⟨_, _⟩; go_simp; try with_reducible rfl
      try go_frame
      refine' tk 6 ?_ ?_; rotate_left
      · intro u ⟨_, _⟩; go_simp; try with_reducible rfl
      try go_frame
      refine' tk 7 ?_ ?_; rotate_left
      · intro u ⟨_, _⟩; go_simp; try with_reducible rfl
      try go_frame
      refine' tk 8 ?_ ?_; rotate_left
      · intro u ⟨_, _⟩; go_simp; try with_reducible rfl
      try go_frame
      refine tz ?_
      obtain ⟨V, hV⟩ : ∃ V, V = wr.drew := ⟨_, rfl⟩
      have dV : Below wr.heap.size wr V := by rw [hV]; exact (Below.refl _ _).drew
      rw [← hV] at hHeld ⊢
      clear hHeld HSl
      have hrV : Row RPlaced 17 (fun b => b < w.heap.size) Xm V 48 u11 (othersN p.1 (L.take k)) := hrow.out.on RPlaced.firm dV
      have HVV : Hid (V.rangeAt B (off + k * 17) xs) := range_on10 hB dV HV.out
      have HEV : RPlaced (fun b => b < w.heap.size) V xs x := RPlaced.firm.kept HE0.out (Kept.below dV)
      clear hV HV
      cases hNm : (x.1.1.toList == p.1.toList)
      case true =>
        rw [hNm] at HT
        have h9 : Hid (Row RPlaced 17 (fun b => b < w.heap.size) Xm V 48 u11 (othersN p.1 (L.take (k + 1)))) := by rw [Hid, HT.out]; simpa using hrV
        clear hrow hrV HT HLb HE0 HEV HVV hq dV
        try rw [hNm]
        go_wp2_with fail
        go_roundw
        case rel => exact ⟨k + 1, by omega, by go_num, h9⟩
        case measure => simp [intOf]; omega
      case false =>
      rw [hNm] at HT
      obtain ⟨v0, v1, v2, v3, v4, v5, v6, v7, v8, v9, v10, v11, v12, v13, v14, v15, v16, rfl⟩ := RPlaced.lit HEV
      have hb3 : Below V.heap.size V (V.alloc (.cells #[v0, v1, v2, v3, v4, v5, v6, v7, v8, v9, v10, v11, v12, v13, v14, v15, v16] 48)) := (Below.refl _ _).alloc (Nat.le_refl _) _
      have HR3 : Hid (Row RPlaced 17 (fun b => b < w.heap.size) Xm (V.alloc (.cells #[v0, v1, v2, v3, v4, v5, v6, v7, v8, v9, v10, v11, v12, v13, v14, v15, v16] 48)) 48 u11 (othersN p.1 (L.take k))) := hrV.on RPlaced.firm hb3
      have HE : RPlaced (fun b => b < w.heap.size ∧ Value.ownBlock u11 ≠ some b) (V.alloc (.cells #[v0, v1, v2, v3, v4, v5, v6, v7, v8, v9, v10, v11, v12, v13, v14, v15, v16] 48)) [v0, v1, v2, v3, v4, v5, v6, v7, v8, v9, v10, v11, v12, v13, v14, v15, v16] x := RPlaced.firm.weak (RPlaced.firm.kept HEV (Kept.below hb3)) (fun b _ hb => ⟨hb, fun e => by have h1 := (row_lt8 hrV e).1; have h2 : b < w.heap.size := hb; have h3 := hws.1; omega⟩)
      have H1 : Hid (∀ y ∈ [v0, v1, v2, v3, v4, v5, v6, v7, v8, v9, v10, v11, v12, v13, v14, v15, v16], y.oneCell' = true) := RPlaced.firm.one HE
      have HCh : Hid (Chunks RPlaced 17 (fun b => b < w.heap.size ∧ Value.ownBlock u11 ≠ some b) (V.alloc (.cells #[v0, v1, v2, v3, v4, v5, v6, v7, v8, v9, v10, v11, v12, v13, v14, v15, v16] 48)) [v0, v1, v2, v3, v4, v5, v6, v7, v8, v9, v10, v11, v12, v13, v14, v15, v16] [x]) := chunk_one RPlaced.firm HE
      have HXc : Hid (∀ j y, [v0, v1, v2, v3, v4, v5, v6, v7, v8, v9, v10, v11, v12, v13, v14, v15, v16][j]? = some y → (V.alloc (.cells #[v0, v1, v2, v3, v4, v5, v6, v7, v8, v9, v10, v11, v12, v13, v14, v15, v16] 48)).cell? ((⟨V.heap.size, 0, none⟩ : Addr).add j) = some y) := one_cells V _ 48
      have HT2 : Hid (othersN p.1 (L.take k) ++ [x] = othersN p.1 (L.take (k + 1))) := by rw [Hid, HT.out]; rfl
      have HLb2 : Hid (((othersN p.1 (L.take k)).length + [x].length) * 320 ≤ 140737488355328) := HLb.out
      clear HE HE0 HEV hb3 hrow hrV HT HLb hq dV
      try rw [hNm]
      go_wp2_with (first | (refine wpList_load_mid rfl 48 _ rfl B (off + k * 17) rfl [v0, v1, v2, v3, v4, v5, v6, v7, v8, v9, v10, v11, v12, v13, v14, v15, v16] _ HVV.out Try.underlying48 rfl hi ?_) | (at_builtin; go_must (refine row_append RPlaced.firm (A := fun b => b < w.heap.size) (w0 := Xm) rfl _ _ 35 48 rfl _ 320 infoPl Try.underlying35 rfl (by decide) (by decide) u11 (othersN p.1 (L.take k)) rfl HR3.out ⟨V.heap.size, 0, none⟩ 1 1 _ [x] rfl rfl HCh.out HXc.out H1.out HLb2.out ?_); intro v4 w4 hrow4 hg4))
      rw [HT2.out] at hrow4
      go_roundw
      case rel => exact ⟨k + 1, by omega, by go_num, hrow4⟩
      case measure => simp [intOf]; omega
    · have hk' : L.take k = L := List.take_of_length_le (by rw [hnL.out]; omega)
      obtain ⟨wy, hwy⟩ : ∃ x, x = wr := ⟨_, rfl⟩
      subst hwy
      rw [hk'] at hrow
      have hby : (othersN p.1 L).length * 320 ≤ 140737488351232 := by have h1 := others_le8 p.1 L; have h2 := hbL.out; rw [hnL.out] at h1; omega
      obtain ⟨av, cv, rfl, sv⟩ := hrow.out.slO9 (bytes := 320) RPlaced.firm hby
      have HB : Hid (Below Xm.heap.size Xm wy) := hrow.out.below
      have hoi := others_idem p.1 L
      skip
      have hQm0 : (othersN p.1 L).length ≤ m := by have h1 := others_le8 p.1 L; rw [hnL.out] at h1; exact h1
      generalize othersN p.1 L = Q at sv hoi hby hQm0
      have HSv : Hid (∀ u, Below wy.heap.size wy u → SlAt RPlaced 17 320 (fun _ => True) u av Q.length cv Q) := fun u hb => sv.on RPlaced.firm hb
      have HOi : Hid (othersN p.1 Q = Q) := hoi
      have hQl : Hid (Q.length ≤ 140737488351232) := by rw [Hid]; omega
      have hQm : Hid (Q.length ≤ m) := hQm0
      have HBx : Hid (Below w.heap.size w wy) := hx.2.2.2.2
      clear hx hrow sv hoi HR0
      go_wp2_with fail
      have hAm := Among9_calls which n (by omega) (by omega) wy
      refine hAm.mono ?_
      clear hAm
      rintro e w8 ⟨⟨t, rfl, ht⟩, hw8⟩
      rw [hw8]
      clear hw8 w8
      have htz : (t : Int) < (n : Int) := by omega
      obtain ⟨B, off, rfl, hB, _, xs, hr, hv⟩ := (Hp.out wy HBx.out).2.2.1.get ht
      obtain ⟨⟨g1, g2, g3⟩, _, rfl, _, sg, _⟩ := hr.out
      simp only at sg
      have d1 := hv 1 _ rfl
      have hmem : N.getD t default ∈ N := by rw [List.getD_eq_getElem?_getD, List.getElem?_eq_getElem (by have := hnN.out; omega)]; exact List.getElem_mem _
      have HPl := holds_skew p s' HSp.out.1 (by rw [HSp.out.2.1]; exact HMm.out) N (N.getD t default) hmem Q HOi.out
      rw [HSp.out.2.2] at HPl
      generalize N.getD t default = nd at sg HPl
      have HSg : Hid (∀ u, Below wy.heap.size wy u → SlAt RLabel 2 32 (fun _ => True) u g1 g2 g3 (nLabs nd)) := fun u hb => sg.on RLabel.firm hb
      have HXy : Hid (∀ u, Below wy.heap.size wy u → BoxL u w.heap.size cs' ∧ BoxL u (w.heap.size + 1) [.string s.1, .int .i64 s.2.1, .int .i64 0, .slice r1 r2 r3] ∧ RSpread (fun _ => True) u [.string s.1, .int .i64 s.2.1, .int .i64 0, .slice r1 r2 r3] s' ∧ RPod (fun _ => True) u cs' (setSpr p [s']) ∧ Below w.heap.size w u) := fun u hb => HX.out u (on2 HB.out hb)
      have HNd : Hid (∀ u, Below wy.heap.size wy u → SlAt RNode 9 112 (fun _ => True) u (some ⟨B, off, none⟩) n cap N) := fun u hb => (Hp.out u (HXy.out u hb).2.2.2.2).2.2.1
      have HCk := pChk_calls cs' (setSpr p [s']) g1 g2 g3 (nLabs nd) (some ⟨B, off, none⟩) n cap N av Q.length cv Q wy (HXy.out wy (Below.refl _ _)).2.2.2.1 sg (HNd.out wy (Below.refl _ _)) (HSv.out wy (Below.refl _ _))
      have HRp : Hid (wy.rangeAt w.heap.size 0 cs') := (HXy.out wy (Below.refl _ _)).1.range
      clear hr hv sg hmem HX
      generalize hck : spreadP 12 (setSpr p [s']) (nLabs nd) N Q = ck at HCk HPl
      clear hck
      go_wp2_with (first | (refine wpList_load_mid rfl 33 _ rfl w.heap.size 0 rfl cs' _ HRp.out Try.underlying33 rfl hi16 ?_) | fail)
      refine HCk.mono ?_
      clear HCk HRp d1
      rintro e z1 ⟨rfl, bz1⟩
      by_cases hc0 : ck = 0
      case neg =>
        have hcz : (ck == 0) = false := by rw [beq_eq_false_iff_ne]; exact hc0
        have HF : Hid (Below w.heap.size w z1) := (HXy.out z1 bz1).2.2.2.2
        clear HPl hc0
        go_wp2_with fail
        go_ret
        exact ⟨rfl, HF.out⟩
      have HPl2 := HPl hc0
      clear HPl
      subst hc0
      have HSk := pSkew_calls [.string s.1, .int .i64 s.2.1, .int .i64 0, .slice r1 r2 r3] _ _ _ s' (some ⟨B, off, none⟩) n cap N av Q.length cv Q z1 (HXy.out z1 bz1).2.2.1 (HNd.out z1 bz1) (HSv.out z1 bz1)
      have HRs : Hid (z1.rangeAt (w.heap.size + 1) 0 [.string s.1, .int .i64 s.2.1, .int .i64 0, .slice r1 r2 r3]) := (HXy.out z1 bz1).2.1.range
      have Hz1 : Hid (Below wy.heap.size wy z1) := bz1
      clear bz1
      have hb1 := skew_bound s' N Q hQl.out
      go_wp2_with (first | (refine wpList_load_mid rfl 45 _ rfl (w.heap.size + 1) 0 rfl [.string s.1, .int .i64 s.2.1, .int .i64 0, .slice r1 r2 r3] _ HRs.out Try.underlying45 rfl hi4 ?_) | fail)
      refine HSk.mono ?_
      clear HSk HRs
      rintro e z2 ⟨rfl, bz2⟩
      have H2 : Below wy.heap.size wy z2 := on2 Hz1.out bz2
      clear bz2 Hz1
      generalize skewP s' N Q = was at HPl2 hb1 ⊢
      obtain ⟨v0, v1, v2, v3, v4, v5, v6, v7, v8, v9, v10, v11, v12, v13, v14, v15, hlit⟩ := (HXy.out z2 H2).2.2.2.1.lit9
      subst hlit
      obtain ⟨C, hC⟩ : ∃ C, C = Q ++ [(setSpr p [s'], nLabs nd)] := ⟨_, rfl⟩
      have HCC : Hid (C = Q ++ [(setSpr p [s'], nLabs nd)]) := hC
      rw [← hC] at HPl2
      have hCl : C.length = Q.length + 1 := by rw [hC, List.length_append]; rfl
      clear hC
      have hQ1 : Hid (Q.length * 320 ≤ 140737488351232) := by have h1 := hQm.out; have h2 := hbL.out; rw [Hid]; omega
      have hb2 := skew_bound s' N C (by have h1 := hQ1.out; omega)
      generalize hnow : skewP s' N C = now at HPl2 hb2
      have HNow : Hid (skewP s' N C = now) := hnow
      clear hnow
      have hmx : decide (now ≤ max was s.2.1) = true := decide_eq_true (by rcases HPl2.1 with h | h <;> omega)
      have hge : decide (was - 1 ≤ now) = true := decide_eq_true HPl2.2
      have hwr : IntKind.i64.wrap (was - 1) = was - 1 := by rw [IntWalk.i64_left]; unfold wrap64; omega
      have HPx : Hid (∀ u, Below wy.heap.size wy u → RPlaced (fun _ => True) u [v0, v1, v2, v3, v4, v5, v6, v7, v8, v9, v10, v11, v12, v13, v14, v15, .slice g1 g2 g3] (setSpr p [s'], nLabs nd)) := fun u hb => ⟨[v0, v1, v2, v3, v4, v5, v6, v7, v8, v9, v10, v11, v12, v13, v14, v15], [.slice g1 g2 g3], rfl, (HXy.out u hb).2.2.2.1, g1, g2, g3, rfl, HSg.out u hb⟩
      clear HPl2 hb1 hb2 HOi HMm HSf
      go_upto_region 17 with fail
      have d0 : Below wy.heap.size wy z2.drew := H2.drew
      refine t0 (Below wy.heap.size wy) d0 (fun hHeld => ?_)
      refine' tq 0 (.agg #[.string s.1, .int .i64 s.2.1, .int .i64 0, .slice r1 r2 r3]) ?_ ?_
      · exact yieldsIf_load_mid rfl 45 _ rfl (w.heap.size + 1) 0 rfl [.string s.1, .int .i64 s.2.1, .int .i64 0, .slice r1 r2 r3] _ (fun u hu => (HXy.out u hu).2.1.range) Try.underlying45 rfl hi4
      try go_frame
      refine' tk 1 ?_ ?_; rotate_left
      · intro u hu; clear hu; go_simp; try with_reducible rfl
      try go_frame
      refine' tk 2 ?_ ?_; rotate_left
      · intro u hu; clear hu; go_simp; try with_reducible rfl
      try go_frame
      refine' tq 4 (.agg #[v0, v1, v2, v3, v4, v5, v6, v7, v8, v9, v10, v11, v12, v13, v14, v15]) ?_ ?_
      · exact yieldsIf_load_mid rfl 33 _ rfl w.heap.size 0 rfl [v0, v1, v2, v3, v4, v5, v6, v7, v8, v9, v10, v11, v12, v13, v14, v15] _ (fun u hu => (HXy.out u hu).1.range) Try.underlying33 rfl hi16
      try go_frame
      refine' tk 5 ?_ ?_; rotate_left
      · intro u hu; clear hu; go_simp; try with_reducible rfl
      try go_frame
      refine' tk 6 ?_ ?_; rotate_left
      · intro u hu; clear hu; go_simp; try with_reducible rfl
      try go_frame
      refine tb 3 7 (fun K hK => ?_) (fun K hK => ?_)
      ·
        go_simp
        refine (many9_calls av Q.length cv _ Q z2.drew (HSv.out _ d0)).mono ?_
        rintro e u1 ⟨vm, rfl, rm⟩
        have e1 : Below wy.heap.size wy u1 := on2 d0 rm.below
        go_wp2_with fail
        refine hK.out _ _ e1 (fun hHeld2 => ?_)
        clear hK K hHeld; have hHeld := hHeld2; clear hHeld2
        try go_frame
        refine tr 7 (fun K hK => ?_)
        go_simp
        obtain ⟨y2, hy2⟩ : ∃ y, y = u1.alloc (.cells #[v0, v1, v2, v3, v4, v5, v6, v7, v8, v9, v10, v11, v12, v13, v14, v15, .slice g1 g2 g3] 48) := ⟨_, rfl⟩
        have b2 : Below u1.heap.size u1 y2 := by rw [hy2]; exact (Below.refl _ _).alloc (Nat.le_refl _) _
        have q2 : BoxL y2 u1.heap.size [v0, v1, v2, v3, v4, v5, v6, v7, v8, v9, v10, v11, v12, v13, v14, v15, .slice g1 g2 g3] := by rw [hy2]; exact BoxL.new u1 48 [v0, v1, v2, v3, v4, v5, v6, v7, v8, v9, v10, v11, v12, v13, v14, v15, .slice g1 g2 g3]
        have e2 : Below wy.heap.size wy y2 := on2 e1 b2
        rw [← hy2]
        clear hy2
        refine hK.out _ _ e2 (fun hHeld2 => ?_)
        clear hK K hHeld; have hHeld := hHeld2; clear hHeld2
        try go_frame
        have hrow : Row RPlaced 17 (fun _ => True) z2.drew y2 48 vm Q := (rm.from RPlaced.firm (Below.refl _ _) (fun _ _ => trivial)).on RPlaced.firm b2
        have hsrc : Src RPlaced 17 (fun b => (fun _ => True) b ∧ vm.ownBlock ≠ some b) y2 (some ⟨u1.heap.size, 0, none⟩) 1 [(setSpr p [s'], nLabs nd)] := ((sl_one9 (k := 17) (bytes := 320) (A := fun b => b < z2.drew.heap.size ∨ b = u1.heap.size) q2 (RPlaced.firm.weak (RPlaced.firm.kept (RPlaced.firm.kept (RPlaced.firm.weak (HPx.out _ d0) (A' := fun b => b < z2.drew.heap.size) (fun b hb _ => hb)) (Kept.below rm.below)) (Kept.below b2)) (fun b _ hb => .inl hb)) (.inr rfl) (by decide)).src RPlaced.firm).weak RPlaced.firm (fun b _ hb => ⟨trivial, fun e => by have h1 := rm.lt e; rcases hb with h | h <;> omega⟩)
        have hown : ∀ b, vm.ownBlock = some b → wy.heap.size ≤ b := fun b e => Nat.le_trans d0.size (rm.lt e).1
        skip
        refine tr 8 (fun K hK => ?_)
        refine row_appendP_wp RPlaced.firm (A := (fun _ => True)) (w0 := z2.drew) _ _ 35 48 rfl _ 320 infoPl Try.underlying35 rfl (by decide) (by decide) vm Q rfl hrow (some ⟨u1.heap.size, 0, none⟩) 1 1 [(setSpr p [s'], nLabs nd)] rfl hsrc (by have h1 := hQ1.out; rw [List.length_singleton]; omega) ?_
        intro z4 y4 r4 gr4 hp4
        have e4 : Below wy.heap.size wy y4 := Below.grown e2 gr4 e2.size (fun b e => hown b e)
        rw [← HCC.out] at r4
        obtain ⟨ra, rc, re, rs⟩ := r4.slO9 (bytes := 319) RPlaced.firm (by have h1 := hQ1.out; rw [hCl]; omega)
        subst re
        refine hK.out _ _ e4 (fun hHeld2 => ?_)
        clear hK K hHeld; have hHeld := hHeld2; clear hHeld2
        try go_frame
        have HS2 := pSkew_calls [.string s.1, .int .i64 s.2.1, .int .i64 0, .slice r1 r2 r3] _ _ _ s' (some ⟨B, off, none⟩) n cap N ra C.length rc C y4 (HXy.out y4 e4).2.2.1 (HNd.out y4 e4) rs
        rw [HNow.out] at HS2
        generalize C.length = cl9 at HS2 ⊢
        refine tr 9 (fun K hK => ?_)
        go_simp
        refine HS2.mono ?_
        rintro e y5 ⟨rfl, b5⟩
        have e5 : Below wy.heap.size wy y5 := on2 e4 b5
        go_wp2_with fail
        refine hK.out _ _ e5 (fun hHeld2 => ?_)
        clear hK K hHeld; have hHeld := hHeld2; clear hHeld2
        try go_frame
        refine' tk 10 ?_ ?_; rotate_left
        · intro u hu; clear hu; go_simp; try with_reducible rfl
        try go_frame
        refine tz ?_
        have yk := ((HXy.out y5 e5).2.1.2 1 _ rfl).1
        have HF : Hid (Below w.heap.size w y5) := (HXy.out y5 e5).2.2.2.2
        clear HXy HNd HSv HSg HPx hHeld HS2
        go_wp2_with fail
        go_ret
        exact ⟨rfl, HF.out⟩
      ·
        go_simp
        obtain ⟨y2, hy2⟩ : ∃ y, y = z2.drew.alloc (.cells #[v0, v1, v2, v3, v4, v5, v6, v7, v8, v9, v10, v11, v12, v13, v14, v15, .slice g1 g2 g3] 48) := ⟨_, rfl⟩
        have b2 : Below z2.drew.heap.size z2.drew y2 := by rw [hy2]; exact (Below.refl _ _).alloc (Nat.le_refl _) _
        have q2 : BoxL y2 z2.drew.heap.size [v0, v1, v2, v3, v4, v5, v6, v7, v8, v9, v10, v11, v12, v13, v14, v15, .slice g1 g2 g3] := by rw [hy2]; exact BoxL.new z2.drew 48 [v0, v1, v2, v3, v4, v5, v6, v7, v8, v9, v10, v11, v12, v13, v14, v15, .slice g1 g2 g3]
        have e2 : Below wy.heap.size wy y2 := on2 d0 b2
        first | rw [← hy2] | (rw [show (z2.alloc (.cells #[v0, v1, v2, v3, v4, v5, v6, v7, v8, v9, v10, v11, v12, v13, v14, v15, .slice g1 g2 g3] 48)).drew = y2 from hy2.symm])
        clear hy2
        refine hK.out _ _ e2 (fun hHeld2 => ?_)
        clear hK K hHeld; have hHeld := hHeld2; clear hHeld2
        try go_frame
        refine tr 3 (fun K hK => ?_)
        go_simp
        refine (many9_calls av Q.length cv _ Q y2 (HSv.out _ e2)).mono ?_
        rintro e u1 ⟨vm, rfl, rm⟩
        have e1 : Below wy.heap.size wy u1 := on2 e2 rm.below
        go_wp2_with fail
        refine hK.out _ _ e1 (fun hHeld2 => ?_)
        clear hK K hHeld; have hHeld := hHeld2; clear hHeld2
        try go_frame
        have hrow : Row RPlaced 17 (fun _ => True) y2 u1 48 vm Q := rm.from RPlaced.firm (Below.refl _ _) (fun _ _ => trivial)
        have hsrc : Src RPlaced 17 (fun b => (fun _ => True) b ∧ vm.ownBlock ≠ some b) u1 (some ⟨z2.heap.size, 0, none⟩) 1 [(setSpr p [s'], nLabs nd)] := ((sl_one9 (k := 17) (bytes := 320) (A := fun b => b < y2.heap.size) (q2.on rm.below) (RPlaced.firm.kept (RPlaced.firm.weak (HPx.out _ e2) (A' := fun b => b < y2.heap.size) (fun b hb _ => hb)) (Kept.below rm.below)) q2.1 (by decide)).src RPlaced.firm).weak RPlaced.firm (fun b _ hb => ⟨trivial, fun e => by have h1 := rm.lt e; have h2 : b < y2.heap.size := hb; omega⟩)
        have hown : ∀ b, vm.ownBlock = some b → wy.heap.size ≤ b := fun b e => Nat.le_trans e2.size (rm.lt e).1
        refine tr 8 (fun K hK => ?_)
        refine row_appendP_wp RPlaced.firm (A := (fun _ => True)) (w0 := y2) _ _ 35 48 rfl _ 320 infoPl Try.underlying35 rfl (by decide) (by decide) vm Q rfl hrow (some ⟨z2.heap.size, 0, none⟩) 1 1 [(setSpr p [s'], nLabs nd)] rfl hsrc (by have h1 := hQ1.out; rw [List.length_singleton]; omega) ?_
        intro z4 y4 r4 gr4 hp4
        have e4 : Below wy.heap.size wy y4 := Below.grown e1 gr4 e1.size (fun b e => hown b e)
        rw [← HCC.out] at r4
        obtain ⟨ra, rc, re, rs⟩ := r4.slO9 (bytes := 319) RPlaced.firm (by have h1 := hQ1.out; rw [hCl]; omega)
        subst re
        refine hK.out _ _ e4 (fun hHeld2 => ?_)
        clear hK K hHeld; have hHeld := hHeld2; clear hHeld2
        try go_frame
        have HS2 := pSkew_calls [.string s.1, .int .i64 s.2.1, .int .i64 0, .slice r1 r2 r3] _ _ _ s' (some ⟨B, off, none⟩) n cap N ra C.length rc C y4 (HXy.out y4 e4).2.2.1 (HNd.out y4 e4) rs
        rw [HNow.out] at HS2
        generalize C.length = cl9 at HS2 ⊢
        refine tr 9 (fun K hK => ?_)
        go_simp
        refine HS2.mono ?_
        rintro e y5 ⟨rfl, b5⟩
        have e5 : Below wy.heap.size wy y5 := on2 e4 b5
        go_wp2_with fail
        refine hK.out _ _ e5 (fun hHeld2 => ?_)
        clear hK K hHeld; have hHeld := hHeld2; clear hHeld2
        try go_frame
        refine' tk 10 ?_ ?_; rotate_left
        · intro u hu; clear hu; go_simp; try with_reducible rfl
        try go_frame
        refine tz ?_
        have yk := ((HXy.out y5 e5).2.1.2 1 _ rfl).1
        have HF : Hid (Below w.heap.size w y5) := (HXy.out y5 e5).2.2.2.2
        clear HXy HNd HSv HSg HPx hHeld HS2
        go_wp2_with fail
        go_ret
        exact ⟨rfl, HF.out⟩
end Go.Proofs.Ytillkgflppabfaa
