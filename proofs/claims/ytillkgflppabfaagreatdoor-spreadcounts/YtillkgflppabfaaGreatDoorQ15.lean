/- The document's ends and Skew of layer 9. Condition: the arguments lie as is said of them. The document's Others: what is placed but of a name. Condition: the slice lies as is said of it. base.terms gives a slice of its own, what it asks copied too, that holds the same. Condition: the slice holds what is said of it. -/
import Derived.Test.YtillkgflppabfaaGreatDoorQ11
import Derived.Test.YtillkgflppabfaaGreatDoorQ13
import Derived.Test.YtillkgflppabfaaGreatDoorQ04
namespace Go.Proofs.YtillkgflppabfaaGreatDoor
open Go.RowKit
set_option linter.unusedSimpArgs false
set_option maxRecDepth 100000

theorem sizeSp : (Tryz.prog.info? 24).map (·.size) = some 4 := by kernel_rfl
theorem lo_take (c : ByteArray → Nat) {D : List ByteArray} {k : Nat} (h : k < D.length) (h0 : 0 < k) : loP c (D.take (k + 1)) = min (loP c (D.take k)) (c (D.getD k default)) ∧ hiP c (D.take (k + 1)) = max (hiP c (D.take k)) (c (D.getD k default)) := by
  rw [← take_at9 h]
  generalize D.getD k default = y
  cases hD : D.take k with
  | nil =>
    have := congrArg List.length hD
    rw [List.length_take] at this
    simp only [List.length_nil] at this
    omega
  | cons d r =>
    constructor <;> simp [loP, hiP, List.foldl_append]
theorem lo_one (c : ByteArray → Nat) {D : List ByteArray} (h : 0 < D.length) : loP c (D.take 1) = c (D.getD 0 default) ∧ hiP c (D.take 1) = c (D.getD 0 default) := by
  cases D with
  | nil => cases h
  | cons d r => exact ⟨rfl, rfl⟩
theorem lo_le (c : ByteArray → Nat) (M : Nat) (hM : ∀ d, c d ≤ M) (D : List ByteArray) : loP c D ≤ M ∧ hiP c D ≤ M := by
  by_cases h : D = []
  · subst h; exact ⟨Nat.zero_le _, Nat.zero_le _⟩
  · obtain ⟨_, d, _, e⟩ := lo_spec c h
    obtain ⟨_, d', _, e'⟩ := hi_spec c h
    rw [e, e']
    exact ⟨hM d, hM d'⟩
set_option maxHeartbeats 8000000 in
theorem rEnds_calls (cs : List Value) (A A' A'' : Where) (s : SpreadD) (a : Option Addr) (n cap : Nat) (D : List ByteArray) (b : Option Addr) (m capb : Nat) (Pl : List PlacedD) (w : World) (hs : Hid (RSpread A w cs s)) (hD : Hid (SlAt RStr 1 16 A'' w a n cap D)) (hP : Hid (SlAt RPlaced 17 320 A' w b m capb Pl)) :
    Calls Tryz.prog 26 #[.agg cs.toArray, .slice a n cap, .slice b m capb] w fun e w' => e = .returned (.tuple #[.int .i64 (loP (fun v => cntP s v Pl) D : Nat), .int .i64 (hiP (fun v => cntP s v Pl) D : Nat)]) ∧ Below w.heap.size w w' := by
  have hls : cs.length = 4 := RSpread.firm.len hs.out
  have hi4 : (Tryz.prog.info? 24).map (·.size) = some cs.length := by rw [hls]; exact sizeSp
  have hn : Hid (D.length = n) := hD.out.1
  have hlen := hD.out.len (by decide)
  have hmb : Hid (Pl.length ≤ 140737488351232) := by rw [Hid, hP.out.1]; exact hP.out.len (by decide)
  obtain ⟨W1, hW1⟩ : ∃ W, W = w.alloc (.cells cs.toArray 24) := ⟨_, rfl⟩
  have B1 : Below w.heap.size w W1 := by rw [hW1]; go_grown
  have qx : BoxL W1 w.heap.size cs := by rw [hW1]; exact BoxL.new w 24 _
  have HU : Hid (∀ u, Below W1.heap.size W1 u → BoxL u w.heap.size cs ∧ RSpread A u cs s ∧ SlAt RStr 1 16 A'' u a n cap D ∧ SlAt RPlaced 17 320 A' u b m capb Pl ∧ Below w.heap.size w u) := fun u hb => ⟨qx.on hb, RSpread.firm.kept hs.out (Kept.below (on2 B1 hb)), hD.out.on RStr.firm (on2 B1 hb), hP.out.on RPlaced.firm (on2 B1 hb), on2 B1 hb⟩
  clear hs hD hP qx B1 hls
  obtain ⟨c, hc⟩ : ∃ c : ByteArray → Nat, c = fun v => cntP s v Pl := ⟨_, rfl⟩
  have HC : Hid (c = fun v => cntP s v Pl) := hc
  have HM : Hid (∀ d, c d ≤ 140737488351232) := fun d => by rw [hc]; exact Nat.le_trans (cnt_le s d Pl) hmb.out
  rw [← hc]
  clear hc hmb
  go_enter Tryz.func26, Tryz.ntmps26
  go_upto_region 1 with fail
  rw [← hW1]
  clear hW1
  go_wp2_with fail
  go_loopw [8, 9, 10] (fun x y i wr => ∃ k : Nat, k ≤ n ∧ i = .int .i64 k ∧ x = .int .i64 (loP c (D.take k) : Nat) ∧ y = .int .i64 (hiP c (D.take k) : Nat) ∧ Hid (Below W1.heap.size W1 wr)) (fun _ _ i _ => n - (intOf i).toNat)
  case atStart => exact ⟨0, Nat.zero_le _, rfl, rfl, rfl, Below.refl _ _⟩
  case round =>
    obtain ⟨k, hk, rfl, rfl, rfl, hst⟩ := hrel
    obtain ⟨q0, q1, q2, q3, q4⟩ := HU.out wr hst.out
    by_cases hlt : k < n
    · have hltz : (k : Int) < (n : Int) := by omega
      have hkl : k < D.length := by rw [hn.out]; exact hlt
      obtain ⟨B, off, rfl, hB, _, xs, hr, hv⟩ := q2.get hlt
      obtain ⟨rfl, _⟩ := hr
      have d0 := hv 0 _ rfl
      rw [Nat.add_zero, Nat.mul_one] at d0
      have HT : Hid ((0 < k → loP c (D.take (k + 1)) = min (loP c (D.take k)) (c (D.getD k default)) ∧ hiP c (D.take (k + 1)) = max (hiP c (D.take k)) (c (D.getD k default))) ∧ (k = 0 → loP c (D.take (k + 1)) = c (D.getD k default) ∧ hiP c (D.take (k + 1)) = c (D.getD k default))) := ⟨fun h0 => lo_take c hkl h0, fun h0 => by subst h0; exact lo_one c hkl⟩
      have HCt : Hid (∀ u, Below wr.heap.size wr u → _) := fun u hb => rCnt_calls cs A _ s (D.getD k default) b m capb Pl u (RSpread.firm.kept q1 (Kept.below hb)) (q3.on RPlaced.firm hb)
      have hcv : Hid (cntP s (D.getD k default) Pl = c (D.getD k default)) := by rw [Hid, HC.out]
      have hml := (lo_le c _ HM.out (D.take k)).1
      have hmh := (lo_le c _ HM.out (D.take k)).2
      have hmc := HM.out (D.getD k default)
      have HS : Hid (∀ u, Below wr.heap.size wr u → BoxL u w.heap.size cs ∧ u.cell? ⟨B, off + k, none⟩ = some (.string (D.getD k default))) := fun u hb => ⟨q0.on hb, (hb.cell (p := ⟨B, _, none⟩) hB).trans d0⟩
      have HB : Hid (Below W1.heap.size W1 wr) := hst.out
      clear hst hv q0 q1 q2 q3 q4 d0 hkl
      skip
      generalize D.getD k default = dv at HT HCt hcv HS hmc
      generalize loP c (D.take k) = l0 at HT hml
      generalize hiP c (D.take k) = h0 at HT hmh
      go_upto_region 5 with fail
      refine t0 (fun u => BoxL u w.heap.size cs ∧ u.cell? ⟨B, off + k, none⟩ = some (.string dv)) (HS.out _ (Below.refl _ _).drew) (fun hHeld => ?_)
      refine' tq 0 (.agg cs.toArray) ?_ ?_
      · exact yieldsIf_load_mid rfl 24 _ rfl w.heap.size 0 rfl cs _ (fun u hu => hu.1.range) Tryz.underlying24 rfl hi4
      try go_frame
      refine' tk 1 ?_ ?_; rotate_left
      · intro u ⟨_, _⟩; go_simp; try with_reducible rfl
      try go_frame
      refine' tk 2 ?_ ?_; rotate_left
      · intro u ⟨_, _⟩; go_simp; try with_reducible rfl
      try go_frame
      refine' tk 3 ?_ ?_; rotate_left
      · intro u ⟨_, _⟩; go_simp; try with_reducible rfl
      try go_frame
      refine' tk 4 ?_ ?_; rotate_left
      · intro u ⟨_, _⟩; go_simp; try with_reducible rfl
      try go_frame
      refine' tk 5 ?_ ?_; rotate_left
      · intro u ⟨_, _⟩; go_simp; try with_reducible rfl
      try go_frame
      refine tr 6 (fun K hK => ?_)
      go_simp
      refine (HCt.out _ (Below.refl _ _).drew).mono ?_
      rintro e u1 ⟨rfl, hu1⟩
      have hd : Below wr.heap.size wr u1 := (Below.refl _ _).drew.trans hu1
      rw [hcv.out]
      go_wp2_with fail
      refine hK.out _ _ (HS.out _ hd) (fun hHeld2 => ?_)
      clear hK K hHeld; have hHeld := hHeld2; clear hHeld2
      try go_frame
      refine' tk 7 ?_ ?_; rotate_left
      · intro u ⟨_, _⟩; go_simp; try with_reducible rfl
      try go_frame
      refine tz ?_
      have HBn : Hid (Below W1.heap.size W1 u1) := on2 HB.out hd
      clear hu1 hd HB HS HCt hHeld hcv
      generalize c dv = cv at HT hmc
      by_cases hk0 : k = 0
      ·
        obtain ⟨t1, t2⟩ := HT.out.2 hk0
        have hz : ((k : Int) == 0) = true := by rw [hk0]; rfl
        have hmm : min (cv : Int) (cv : Int) = (cv : Int) ∧ max (cv : Int) (cv : Int) = (cv : Int) := ⟨by omega, by omega⟩
        have T1 : Hid (loP c (D.take (k + 1)) = cv ∧ hiP c (D.take (k + 1)) = cv) := ⟨t1, t2⟩
        clear t1 t2 HT hk0
        go_wp2_with fail
        go_roundw
        case rel => exact ⟨k + 1, by omega, by go_num, (by first | (rw [T1.out.1]; done) | (rw [T1.out.1]; rfl) | (rw [T1.out.1]; congr 1; omega)), (by first | (rw [T1.out.2]; done) | (rw [T1.out.2]; rfl) | (rw [T1.out.2]; congr 1; omega)), HBn⟩
        case measure => simp [intOf]; omega
      ·
        obtain ⟨t1, t2⟩ := HT.out.1 (by omega)
        have hz : ((k : Int) == 0) = false := by simpa using hk0
        have T1 : Hid (loP c (D.take (k + 1)) = min l0 cv ∧ hiP c (D.take (k + 1)) = max h0 cv) := ⟨t1, t2⟩
        clear t1 t2 HT hk0
        go_wp2_with fail
        go_roundw
        case rel => exact ⟨k + 1, by omega, by go_num, (by first | (rw [T1.out.1]; done) | (rw [T1.out.1]; rfl) | (rw [T1.out.1]; congr 1; omega)), (by first | (rw [T1.out.2]; done) | (rw [T1.out.2]; rfl) | (rw [T1.out.2]; congr 1; omega)), HBn⟩
        case measure => simp [intOf]; omega
    · have hlz : ¬ ((k : Int) < (n : Int)) := by omega
      have hk' : D.take k = D := List.take_of_length_le (by rw [hn.out]; omega)
      rw [hk']
      have HF : Hid (Below w.heap.size w wr) := q4
      clear q0 q1 q2 q3 q4 hst
      go_wp2_with fail
      go_ret2
      exact ⟨rfl, HF.out⟩
set_option maxHeartbeats 8000000 in
theorem rSkew_calls (cs : List Value) (A A' A'' : Where) (s : SpreadD) (a : Option Addr) (n cap : Nat) (N : List NodeD) (b : Option Addr) (m capb : Nat) (Pl : List PlacedD) (w : World) (hs : Hid (RSpread A w cs s)) (hN : Hid (SlAt RNode 9 112 A'' w a n cap N)) (hP : Hid (SlAt RPlaced 17 320 A' w b m capb Pl)) :
    Calls Tryz.prog 10 #[.agg cs.toArray, .slice a n cap, .slice b m capb] w fun e w' => e = .returned (.int .i64 (skewP s N Pl)) ∧ Below w.heap.size w w' := by
  have hls : cs.length = 4 := RSpread.firm.len hs.out
  have hi4 : (Tryz.prog.info? 24).map (·.size) = some cs.length := by rw [hls]; exact sizeSp
  have hmb : Pl.length ≤ 140737488351232 := by rw [hP.out.1]; exact hP.out.len (by decide)
  obtain ⟨W1, hW1⟩ : ∃ W, W = w.alloc (.cells cs.toArray 24) := ⟨_, rfl⟩
  have B1 : Below w.heap.size w W1 := by rw [hW1]; go_grown
  have qx : BoxL W1 w.heap.size cs := by rw [hW1]; exact BoxL.new w 24 _
  have hk0 : cs[0]? = some (.string s.1) := by obtain ⟨_, rfl, _⟩ := hs.out.out; rfl
  have HU : Hid (∀ u, Below W1.heap.size W1 u → (BoxL u w.heap.size cs ∧ u.cell? ⟨w.heap.size, 0, none⟩ = some (.string s.1)) ∧ RSpread A u cs s ∧ SlAt RNode 9 112 A'' u a n cap N ∧ SlAt RPlaced 17 320 A' u b m capb Pl ∧ Below w.heap.size w u) := fun u hb => ⟨⟨qx.on hb, ((qx.on hb).2 0 _ hk0).1⟩, RSpread.firm.kept hs.out (Kept.below (on2 B1 hb)), hN.out.on RNode.firm (on2 B1 hb), hP.out.on RPlaced.firm (on2 B1 hb), on2 B1 hb⟩
  have hlb := lo_le (fun v => cntP s v Pl) _ (fun d => Nat.le_trans (cnt_le s d Pl) hmb) (domsP s.1 N)
  have HA : Hid (skewP s N Pl = (hiP (fun v => cntP s v Pl) (domsP s.1 N) : Int) - (loP (fun v => cntP s v Pl) (domsP s.1 N) : Int)) := rfl
  clear hs hN hP qx B1 hls hk0 hmb
  generalize skewP s N Pl = ans at HA
  go_enter Tryz.func10, Tryz.ntmps10
  go_upto_region 1 with fail
  rw [← hW1]
  clear hW1
  have d0 : Below W1.heap.size W1 W1.drew := (Below.refl _ _).drew
  refine t0 (fun u => BoxL u w.heap.size cs ∧ u.cell? ⟨w.heap.size, 0, none⟩ = some (.string s.1)) (HU.out _ d0).1 (fun hHeld => ?_)
  refine' tq 0 (.agg cs.toArray) ?_ ?_
  · exact yieldsIf_load_mid rfl 24 _ rfl w.heap.size 0 rfl cs _ (fun u hu => hu.1.range) Tryz.underlying24 rfl hi4
  try go_frame
  refine' tk 1 ?_ ?_; rotate_left
  · intro u ⟨_, _⟩; go_simp; try with_reducible rfl
  try go_frame
  refine' tk 2 ?_ ?_; rotate_left
  · intro u ⟨_, _⟩; go_simp; try with_reducible rfl
  try go_frame
  refine' tk 3 ?_ ?_; rotate_left
  · intro u ⟨_, _⟩; go_simp; try with_reducible rfl
  try go_frame
  refine' tk 5 ?_ ?_; rotate_left
  · intro u ⟨_, _⟩; go_simp; try with_reducible rfl
  try go_frame
  refine tr 4 (fun K hK => ?_)
  go_simp
  refine (rDom_calls s.1 a n cap _ N _ (HU.out _ d0).2.2.1).mono ?_
  rintro e u1 ⟨a', cap', rfl, sd, hu1⟩
  have d1 : Below W1.heap.size W1 u1 := on2 d0 hu1
  go_wp2_with fail
  refine hK.out _ _ (HU.out _ d1).1 (fun hHeld2 => ?_)
  clear hK K hHeld; have hHeld := hHeld2; clear hHeld2
  try go_frame
  refine tr 6 (fun K hK => ?_)
  go_simp
  refine (rEnds_calls cs _ _ _ s a' (domsP s.1 N).length cap' (domsP s.1 N) b m capb Pl _ (HU.out _ d1).2.1 sd (HU.out _ d1).2.2.2.1).mono ?_
  rintro e u2 ⟨rfl, hu2⟩
  have d2 : Below W1.heap.size W1 u2 := on2 d1 hu2
  go_wp2_with fail
  refine hK.out _ _ (HU.out _ d2).1 (fun hHeld2 => ?_)
  clear hK K hHeld; have hHeld := hHeld2; clear hHeld2
  try go_frame
  have HF : Hid (Below w.heap.size w u2) := (HU.out _ d2).2.2.2.2
  generalize loP (fun v => cntP s v Pl) (domsP s.1 N) = lo at hlb HA
  generalize hiP (fun v => cntP s v Pl) (domsP s.1 N) = hi at hlb HA
  try generalize loP (fun v => cntP s v Pl) (domsP s.1 N) = lo
  refine' tk 7 ?_ ?_; rotate_left
  · intro u ⟨_, _⟩; go_simp; try with_reducible rfl
  try go_frame
  refine' tk 8 ?_ ?_; rotate_left
  · intro u ⟨_, _⟩; go_simp; try with_reducible rfl
  try go_frame
  refine' tk 9 ?_ ?_; rotate_left
  · intro u ⟨_, _⟩; go_simp; try with_reducible rfl
  try go_frame
  refine' tk 10 ?_ ?_; rotate_left
  · intro u ⟨_, _⟩; go_simp; try with_reducible rfl
  try go_frame
  refine' tk 11 ?_ ?_; rotate_left
  · intro u ⟨_, _⟩; go_simp; try with_reducible rfl
  try go_frame
  refine tz ?_
  clear HU d0 d1 d2 hu1 hu2 sd hHeld
  go_wp2_with fail
  go_ret
  exact ⟨by rw [HA.out]; first | rfl | (congr 2; rw [IntWalk.i64_left]; unfold wrap64; omega), HF.out⟩
end Go.Proofs.YtillkgflppabfaaGreatDoor
namespace Go.Proofs.YtillkgflppabfaaGreatDoor
open Go.RowKit
set_option linter.unusedSimpArgs false
set_option maxRecDepth 100000

theorem sizePl : (Tryz.prog.info? 52).map (·.size) = some 17 := by kernel_rfl
theorem sizePo : (Tryz.prog.info? 49).map (·.size) = some 16 := by kernel_rfl
theorem infoPl : (Tryz.prog.info? 52).map (fun i => (i.zero, i.size, i.bytes)) = some (some (.agg #[.string ⟨#[]⟩, .int .i64 0, .slice none 0 0, .int .i64 0, .int .i64 0, .int .i64 0, .slice none 0 0, .slice none 0 0, .slice none 0 0, .slice none 0 0, .slice none 0 0, .slice none 0 0, .slice none 0 0, .slice none 0 0, .string ⟨#[]⟩, .string ⟨#[]⟩, .slice none 0 0]), 17, 320) := by kernel_rfl
theorem RPlaced.lit {A : Where} {w : World} {cs : List Value} {x : PlacedD} (h : RPlaced A w cs x) : ∃ v0 v1 v2 v3 v4 v5 v6 v7 v8 v9 v10 v11 v12 v13 v14 v15 v16 : Value, cs = [v0, v1, v2, v3, v4, v5, v6, v7, v8, v9, v10, v11, v12, v13, v14, v15, v16] := by
  obtain ⟨c, d, rfl, h1, ⟨a, n, cap, rfl, h3⟩⟩ := h
  obtain ⟨_, _, _, _, _, _, _, _, _, rfl, _⟩ := h1.out
  exact ⟨_, _, _, _, _, _, _, _, _, _, _, _, _, _, _, _, _, rfl⟩
theorem RPlaced.name9 {A : Where} {w : World} {cs : List Value} {x : PlacedD} (h : RPlaced A w cs x) : cs[0]? = some (.string x.1.1) := by
  obtain ⟨c, d, rfl, h1, ⟨a, n, cap, rfl, h3⟩⟩ := h
  obtain ⟨_, _, _, _, _, _, _, _, _, rfl, _⟩ := h1.out
  rfl
theorem row_lt8 {α : Type} [Inhabited α] {R : Rep α} {k : Nat} {A : Where} {w0 u : World} {e : TypeId} {v : Value} {L : List α} (h : Row R k A w0 u e v L) {b : Nat} (hb : v.ownBlock = some b) : w0.heap.size ≤ b ∧ b < u.heap.size := by
  obtain ⟨xs, h1, _⟩ := h
  exact h1.2.lt b hb
theorem others_take (nm : ByteArray) (L : List PlacedD) {k : Nat} (hk : k < L.length) : othersN nm (L.take (k + 1)) = othersN nm (L.take k) ++ (if sEq (L.getD k default).1.1 nm = true then [] else [L.getD k default]) := by
  unfold othersN
  rw [← take_at hk, List.filter_append]
  congr 1
  generalize L.getD k default = x
  cases h : sEq x.1.1 nm <;> simp [h]
theorem others_le8 (nm : ByteArray) (L : List PlacedD) : (othersN nm L).length ≤ L.length := List.length_filter_le _ _
end Go.Proofs.YtillkgflppabfaaGreatDoor
namespace Go.Proofs.YtillkgflppabfaaGreatDoor
open Go.RowKit
set_option linter.unusedSimpArgs false

theorem infoTerm : (Tryz.prog.info? 100).map (fun i => (i.zero, i.size, i.bytes)) = some (some (.agg #[.slice none 0 0, .string ⟨#[]⟩]), 2, 40) := by kernel_rfl
/-- The row's place holds what it held, and nothing that was there has turned. -/
def TmS (w : World) (D off k : Nat) (h : Hd) (s : ByteArray) (u : World) : Prop :=
  Below w.heap.size w u ∧ u.cell? ⟨D, off + k * 2, none⟩ = some (.slice h.1 h.2.1 h.2.2) ∧ u.cell? ⟨D, off + k * 2 + 1, none⟩ = some (.string s)

set_option maxHeartbeats 2000000 in
theorem terms_copy (a : Option Addr) (n cap : Nat) (A : Where) (L : List TermD) (w : World) (hL : Hid (SlAt RTerm 2 40 A w a n cap L)) : Calls Tryz.prog 33 #[.slice a n cap] w fun e w' => ∃ a' cap', e = .returned (.slice a' n cap') ∧ SlAt RTerm 2 40 (Fresh w) w' a' n cap' L ∧ Below w.heap.size w w' := by
  have hlen := hL.out.len (by decide)
  have hn : Hid (L.length = n) := hL.out.1
  have hbb : Hid (n * 40 ≤ 140737488351232) := hL.out.2.2.2.1
  have HR0 : Hid (Row RTerm 2 (Fresh w) w (w.alloc (.cells #[] 100)) 100 (.slice (some ⟨w.heap.size, 0, none⟩) 0 0) (L.take 0)) := Row.start _ w w _ (Below.refl _ _)
  go_enter Tryz.func33, Tryz.ntmps33
  go_wp2_with fail
  go_loopw [3, 4] (fun s i wr => ∃ k : Nat, k ≤ n ∧ i = .int .i64 k ∧ Hid (Row RTerm 2 (Fresh w) w wr 100 s (L.take k))) (fun _ i _ => n - (intOf i).toNat)
  case atStart => exact ⟨0, Nat.zero_le _, rfl, HR0⟩
  case round =>
    obtain ⟨k, hk, rfl, hrow⟩ := hrel
    by_cases hlt : k < n
    · have hltz : (k : Int) < (n : Int) := by omega
      have hkl : Hid (k < L.length) := by rw [Hid, hn.out]; exact hlt
      have hbw : Below w.heap.size w wr := hrow.out.below
      obtain ⟨D, off, rfl, hD, _, cs, hr, hv⟩ := hL.out.get hlt
      obtain ⟨h0, rfl, hT, hs⟩ := hr.out
      have d0 := hv 0 _ rfl
      have d1 := hv 1 _ rfl
      rw [Nat.add_zero] at d0
      have HT : Hid (L.take k ++ [L.getD k default] = L.take (k + 1)) := take_at hkl.out
      have HS : Hid (∀ {u : World}, Below w.heap.size w u → TmS w D off k h0 (L.getD k default).2 u) := fun hb => ⟨hb, (hb.cell hD).trans d0, (hb.cell hD).trans d1⟩
      have HC := Reqs_copy h0.1 h0.2.1 h0.2.2 A (L.getD k default).1 wr.drew (hT.on RReq.firm hbw.drew)
      have HLb : Hid (((L.take k).length + 1) * 40 ≤ 140737488355328) := by
        have := bytes_le hbb.out hlt
        rw [Hid, List.length_take, hn.out, Nat.min_eq_left (by omega)]
        exact this
      clear hr hT hv d0 d1
      generalize L.getD k default = x at hs HT HS HC
      go_wp2_with fail
      refine wp_region_noPanic ?_
      refine wp_region_held_drew (S := TmS w D off k h0 x.2) (by kernel_rfl) (HS.out hbw.drew) (fun hHeld => ?_)
      refine wpAnyH_take (i := 0) (v := ?v0) rfl (by kernel_rfl) (by kernel_rfl) (by kernel_rfl) (fun _ _ _ h => h) (Or.inl ⟨by rfl, ?hy0⟩) (by assumption) ?rest0
      case hy0 => (intro u hu; obtain ⟨_, _, _⟩ := hu; go_simp; try with_reducible rfl)
      try simp only [Act.put, List.setIfInBounds_toArray, List.set_cons_zero, List.set_cons_succ, List.getElem_toArray, List.getElem_cons_zero, List.getElem_cons_succ]
      refine wpAnyH_take (i := 1) (v := ?v1) rfl (by kernel_rfl) (by kernel_rfl) (by kernel_rfl) (fun _ _ _ h => h) (Or.inl ⟨by rfl, ?hy1⟩) (by assumption) ?rest1
      case hy1 => (intro u hu; obtain ⟨_, _, _⟩ := hu; go_simp; try with_reducible rfl)
      try simp only [Act.put, List.setIfInBounds_toArray, List.set_cons_zero, List.set_cons_succ, List.getElem_toArray, List.getElem_cons_zero, List.getElem_cons_succ]
      refine wpAnyH_take (i := 2) (v := ?v2) rfl (by kernel_rfl) (by kernel_rfl) (by kernel_rfl) (fun _ _ _ h => h) (Or.inl ⟨by rfl, ?hy2⟩) (by assumption) ?rest2
      case hy2 => (intro u hu; obtain ⟨_, _, _⟩ := hu; go_simp; try with_reducible rfl)
      try simp only [Act.put, List.setIfInBounds_toArray, List.set_cons_zero, List.set_cons_succ, List.getElem_toArray, List.getElem_cons_zero, List.getElem_cons_succ]
      refine wpAnyH_take (i := 3) (v := ?v3) rfl (by kernel_rfl) (by kernel_rfl) (by kernel_rfl) (fun _ _ _ h => h) (Or.inl ⟨by rfl, ?hy3⟩) (by assumption) ?rest3
      case hy3 => (intro u hu; obtain ⟨_, _, _⟩ := hu; go_simp; try with_reducible rfl)
      try simp only [Act.put, List.setIfInBounds_toArray, List.set_cons_zero, List.set_cons_succ, List.getElem_toArray, List.getElem_cons_zero, List.getElem_cons_succ]
      refine wpAnyH_take (i := 4) (v := ?v4) rfl (by kernel_rfl) (by kernel_rfl) (by kernel_rfl) (fun _ _ _ h => h) (Or.inl ⟨by rfl, ?hy4⟩) (by assumption) ?rest4
      case hy4 => (intro u hu; obtain ⟨_, _, _⟩ := hu; go_simp; try with_reducible rfl)
      try simp only [Act.put, List.setIfInBounds_toArray, List.set_cons_zero, List.set_cons_succ, List.getElem_toArray, List.getElem_cons_zero, List.getElem_cons_succ]
      refine wpAnyH_take (i := 5) (v := ?v5) rfl (by kernel_rfl) (by kernel_rfl) (by kernel_rfl) (fun _ _ _ h => h) (Or.inl ⟨by rfl, ?hy5⟩) (by assumption) ?rest5
      case hy5 => (intro u hu; obtain ⟨_, _, _⟩ := hu; go_simp; try with_reducible rfl)
      try simp only [Act.put, List.setIfInBounds_toArray, List.set_cons_zero, List.set_cons_succ, List.getElem_toArray, List.getElem_cons_zero, List.getElem_cons_succ]
      refine wpAnyH_take (i := 7) (v := ?v7) rfl (by kernel_rfl) (by kernel_rfl) (by kernel_rfl) (fun _ _ _ h => h) (Or.inl ⟨by rfl, ?hy7⟩) (by assumption) ?rest7
      case hy7 => (intro u hu; obtain ⟨_, _, _⟩ := hu; go_simp; try with_reducible rfl)
      try simp only [Act.put, List.setIfInBounds_toArray, List.set_cons_zero, List.set_cons_succ, List.getElem_toArray, List.getElem_cons_zero, List.getElem_cons_succ]
      refine wpAnyH_take (i := 8) (v := ?v8) rfl (by kernel_rfl) (by kernel_rfl) (by kernel_rfl) (fun _ _ _ h => h) (Or.inl ⟨by rfl, ?hy8⟩) (by assumption) ?rest8
      case hy8 => (intro u hu; obtain ⟨_, _, _⟩ := hu; go_simp; try with_reducible rfl)
      try simp only [Act.put, List.setIfInBounds_toArray, List.set_cons_zero, List.set_cons_succ, List.getElem_toArray, List.getElem_cons_zero, List.getElem_cons_succ]
      refine wpAnyH_take (i := 9) (v := ?v9) rfl (by kernel_rfl) (by kernel_rfl) (by kernel_rfl) (fun _ _ _ h => h) (Or.inl ⟨by rfl, ?hy9⟩) (by assumption) ?rest9
      case hy9 => (intro u hu; obtain ⟨_, _, _⟩ := hu; go_simp; try with_reducible rfl)
      try simp only [Act.put, List.setIfInBounds_toArray, List.set_cons_zero, List.set_cons_succ, List.getElem_toArray, List.getElem_cons_zero, List.getElem_cons_succ]
      refine wpAnyH_take (i := 10) (v := ?v10) rfl (by kernel_rfl) (by kernel_rfl) (by kernel_rfl) (fun _ _ _ h => h) (Or.inl ⟨by rfl, ?hy10⟩) (by assumption) ?rest10
      case hy10 => (intro u hu; obtain ⟨_, _, _⟩ := hu; go_simp; try with_reducible rfl)
      try simp only [Act.put, List.setIfInBounds_toArray, List.set_cons_zero, List.set_cons_succ, List.getElem_toArray, List.getElem_cons_zero, List.getElem_cons_succ]
      refine wpAnyH_take (i := 11) (v := ?v11) rfl (by kernel_rfl) (by kernel_rfl) (by kernel_rfl) (fun _ _ _ h => h) (Or.inl ⟨by rfl, ?hy11⟩) (by assumption) ?rest11
      case hy11 => (intro u hu; obtain ⟨_, _, _⟩ := hu; go_simp; try with_reducible rfl)
      try simp only [Act.put, List.setIfInBounds_toArray, List.set_cons_zero, List.set_cons_succ, List.getElem_toArray, List.getElem_cons_zero, List.getElem_cons_succ]
      refine wpAnyH_ready (rs := [6]) (by kernel_rfl) (by simp) ?_
      refine AllReadyH.cons rfl (fun K hK => ?_) AllReadyH.nil
      go_simp
      refine (HC).mono ?_
      rintro e w5 ⟨a5, c5, rfl, hS5, hb5⟩
      have hb6 : Below wr.heap.size wr (w5.alloc (.cells #[.slice a5 h0.2.1 c5, .string x.2] 100)) := ((Below.refl _ wr).drew.trans (hb5.mono (Nat.le_refl _))).alloc hb5.size _
      have HR6 := hrow.out.on RTerm.firm hb6
      have HE : RTerm (fun b => Fresh w b ∧ Value.ownBlock u3 ≠ some b) (w5.alloc (.cells #[.slice a5 h0.2.1 c5, .string x.2] 100)) [.slice a5 h0.2.1 c5, .string x.2] x := RTerm.mk (h0 := (a5, h0.2.1, c5)) ((hS5.kept RReq.firm (Kept.alloc _ _ _)).weak RReq.firm (fun b _ hb => hrow.out.apart (u' := wr.drew) (Nat.le_refl _) b hb)) hs
      have HCh := chunk_one RTerm.firm HE
      have HX := one_cells w5 [.slice a5 h0.2.1 c5, .string x.2] 100
      go_wp2_with fail
      refine hK.out _ _ (HS.out (on2 hHeld.1 hb5)) (fun hHeld2 => ?_)
      clear hK K hHeld
      have hHeld := hHeld2
      clear hHeld2
      try simp only [Act.put, List.setIfInBounds_toArray, List.set_cons_zero, List.set_cons_succ, List.getElem_toArray, List.getElem_cons_zero, List.getElem_cons_succ]
      refine wpAnyH_take (i := 12) (v := ?v12) rfl (by kernel_rfl) (by kernel_rfl) (by kernel_rfl) (fun _ _ _ h => h) (Or.inl ⟨by rfl, ?hy12⟩) (by assumption) ?rest12
      case hy12 => (intro u hu; obtain ⟨_, _, _⟩ := hu; go_simp; try with_reducible rfl)
      try simp only [Act.put, List.setIfInBounds_toArray, List.set_cons_zero, List.set_cons_succ, List.getElem_toArray, List.getElem_cons_zero, List.getElem_cons_succ]
      refine wpAnyH_ready (rs := [13]) (by kernel_rfl) (by simp) ?_
      refine AllReadyH.cons rfl (fun K hK => ?_) AllReadyH.nil
      go_simp
      refine hK.out _ _ (HS.out (on2 hHeld.1 ((Below.refl _ _).alloc (Nat.le_refl _) _))) (fun hHeld2 => ?_)
      clear hK K hHeld
      have hHeld := hHeld2
      clear hHeld2
      try simp only [Act.put, List.setIfInBounds_toArray, List.set_cons_zero, List.set_cons_succ, List.getElem_toArray, List.getElem_cons_zero, List.getElem_cons_succ]
      refine wpAnyH_ready (rs := [14]) (by kernel_rfl) (by simp) ?_
      refine AllReadyH.cons rfl (fun K hK => ?_) AllReadyH.nil
      refine row_append_wp RTerm.firm (A := Fresh w) (w0 := w) _ _ 45 100 rfl _ 40 infoTerm Tryz.underlying45 rfl (by decide) (by decide) u3 (L.take k) rfl HR6 ⟨w5.heap.size, 0, none⟩ 1 1 _ [x] rfl rfl HCh HX (by simp [Value.oneCell']) HLb.out ?_
      intro v6 w6 hrow6 hg6
      refine hK.out _ _ (HS.out hrow6.below) (fun hHeld2 => ?_)
      clear hK K hHeld
      have hHeld := hHeld2
      clear hHeld2
      try simp only [Act.put, List.setIfInBounds_toArray, List.set_cons_zero, List.set_cons_succ, List.getElem_toArray, List.getElem_cons_zero, List.getElem_cons_succ]
      refine wpAnyH_take (i := 15) (v := ?v15) rfl (by kernel_rfl) (by kernel_rfl) (by kernel_rfl) (fun _ _ _ h => h) (Or.inl ⟨by rfl, ?hy15⟩) (by assumption) ?rest15
      case hy15 => (intro u hu; obtain ⟨_, _, _⟩ := hu; go_simp; try with_reducible rfl)
      try simp only [Act.put, List.setIfInBounds_toArray, List.set_cons_zero, List.set_cons_succ, List.getElem_toArray, List.getElem_cons_zero, List.getElem_cons_succ]
      refine wpAnyH_done (by kernel_rfl) ?_ _
      refine NoPanic.normal ?_
      rw [HT.out] at hrow6
      have hrow6' : Hid (Row RTerm 2 (Fresh w) w w6 100 v6 (L.take (k + 1))) := hrow6
      go_wp2_with fail
      go_roundw
      case rel => exact ⟨k + 1, by omega, by go_num, hrow6'⟩
      case measure => simp [intOf]; omega
    · have hk' : L.take k = L := List.take_of_length_le (by rw [hn.out]; omega)
      obtain ⟨a', cap', e1, h2⟩ := hrow.out.slF (bytes := 40) RTerm.firm (by rw [hk', hn.out]; exact hbb.out)
      rw [hk', hn.out] at e1 h2
      have hb9 := hrow.out.below
      have h2' : Hid (SlAt RTerm 2 40 (Fresh w) wr a' n cap' L) := h2
      clear h2 hrow
      subst e1
      go_wp2_with fail
      go_ret
      exact ⟨a', cap', rfl, h2'.out, hb9⟩
end Go.Proofs.YtillkgflppabfaaGreatDoor
