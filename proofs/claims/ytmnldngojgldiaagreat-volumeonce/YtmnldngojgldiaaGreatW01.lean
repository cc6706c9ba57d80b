/- volume.Free: as many volumes as are free. Conditions: the state lies as is said of it, and each volume has a name of its own. all at Claim: those that count, in order. Condition: the list and its map lie as is said of them. -/
import Derived.Test.YtmnldngojgldiaaGreatQ21
import Derived.Test.YtmnldngojgldiaaGreatQ26
import Derived.Test.YtmnldngojgldiaaGreatQ16
import Derived.Test.YtmnldngojgldiaaGreatQ15
import Derived.Test.YtmnldngojgldiaaGreatQ28
import Derived.Test.YtmnldngojgldiaaGreatQ29
import Derived.Test.YtmnldngojgldiaaGreatQ17
import Derived.Test.YtmnldngojgldiaaGreatQ20
namespace Go.Proofs.YtmnldngojgldiaaGreat
open Go.RowKit Go.Maps
set_option linter.unusedSimpArgs false
set_option maxRecDepth 100000

/-- What Free hands back. -/
def FrOut (w : World) (l : Nat) (e : Ending) (w' : World) : Prop := ∃ a cap, e = .returned (.slice a l cap) ∧ Below w.heap.size w w'
theorem free_take12 (V : List VolumeD) (k : Nat) (hk : k < V.length) : freeP (V.take (k + 1)) = if sEq (vCl (V.getD k default)) B0 = true then freeP (V.take k) ++ [(V.getD k default).1] else freeP (V.take k) := by
  unfold freeP
  rw [List.take_succ_eq_append_getElem hk, List.filter_append, List.map_append, List.getD_eq_getElem?_getD, List.getElem?_eq_getElem hk]
  by_cases h : sEq (vCl V[k]) B0 = true
  · simp [h]
  · simp [h]
theorem free_len12 (V : List VolumeD) (k : Nat) : (freeP (V.take k)).length ≤ k := by
  unfold freeP
  rw [List.length_map]
  exact Nat.le_trans (List.length_filter_le _ _) (by rw [List.length_take]; omega)
set_option maxHeartbeats 16000000 in
theorem pFree_calls (cs : List Value) (x : StateD) (w : World) (h : Hid (RState (fun _ => True) w cs x)) (hn : (vNs (sVs x)).Nodup) :
    Calls Tryz.prog 11 #[.agg cs.toArray] w (FrOut w (freeP (sVs x)).length) := by
  obtain ⟨⟨a0, n0, m0⟩, ⟨a1, n1, m1⟩, ⟨a2, n2, m2⟩, ⟨a3, n3, m3⟩, ⟨a4, n4, m4⟩, ⟨a5, n5, m5⟩, rfl, _, _, s2, _⟩ := h.out.out
  simp only at s2
  have hb80 := s2.2.2.2.1
  have hl2 : Hid ((sVs x).length = n2) := s2.1
  have hN : Hid ((vNs (sVs x)).Nodup) := hn
  obtain ⟨W1, hW1⟩ : ∃ W, W = w.alloc (.cells #[.slice a0 n0 m0, .slice a1 n1 m1, .slice a2 n2 m2, .slice a3 n3 m3, .slice a4 n4 m4, .slice a5 n5 m5] 29) := ⟨_, rfl⟩
  have B1 : Below w.heap.size w W1 := by rw [hW1]; go_grown
  have q1 : BoxL W1 w.heap.size [.slice a0 n0 m0, .slice a1 n1 m1, .slice a2 n2 m2, .slice a3 n3 m3, .slice a4 n4 m4, .slice a5 n5 m5] := by rw [hW1]; exact BoxL.new w 29 _
  have f2 := (q1.2 2 _ rfl).1
  have hlt1 := q1.1
  have HS : Hid (SlAt RVolume 5 72 (fun _ => True) W1 a2 n2 m2 (sVs x)) := (SlAt.bytes10 s2 (by decide)).on RVolume.firm B1
  have HB1 : Hid (Below w.heap.size w W1) := B1
  have hC := tabVolume_calls a2 n2 m2 _ (sVs x) W1 HS
  clear h s2 B1 q1 hn
  generalize sVs x = V at *
  go_enter Tryz.func11, Tryz.ntmps11
  go_upto_region 1 with fail
  rw [← hW1]
  clear hW1
  go_wp2_with fail
  refine hC.mono ?_
  rintro e u1 ⟨mb, rfl, nm, _, d1⟩
  have hC2 := allVolume_calls a2 n2 m2 _ V mb u1 (HS.out.on RVolume.firm d1) nm (by omega)
  clear hC f2 nm
  --M1
  go_wp2_with fail
  refine hC2.mono ?_
  rintro e u2 ⟨v, rfl, hr⟩
  rw [allL_once Prod.fst hN.out] at hr
  have d2 : Below u1.heap.size u1 u2 := hr.below
  obtain ⟨ra, rc, rfl, sr⟩ := hr.sl (bytes := 72) RVolume.firm (by rw [hl2.out]; omega)
  rw [hl2.out] at sr ⊢
  have HB2 : Hid (Below w.heap.size w u2) := on2 (on2 HB1.out d1) d2
  have HV : Hid (∀ z, Below u2.heap.size u2 z → SlAt RVolume 5 72 (fun _ => True) z ra n2 rc V) := fun z hz => (sr.weak RVolume.firm (fun _ _ _ => trivial)).on RVolume.firm hz
  clear hC2 hr sr d1 d2 HS hlt1
  --M2
  go_wp2_with fail
  --M3
  go_loopw [3, 11] (fun out j wr => ∃ k : Nat, k ≤ n2 ∧ j = .int .i64 k ∧ Hid (Row RStr 1 (fun _ => False) u2 wr 9 out (freeP (V.take k)))) (fun _ j _ => n2 - (intOf j).toNat)
  case atStart => exact ⟨0, Nat.zero_le _, rfl, Row.nil _ _ _⟩
  case round =>
    obtain ⟨k, hk, rfl, hrow⟩ := hrel
    have hbr : Below u2.heap.size u2 wr := hrow.out.below
    by_cases hlt : k < n2
    · have hltz : (k : Int) < (n2 : Int) := by omega
      have hkl : k < V.length := by rw [hl2.out]; exact hlt
      obtain ⟨B, off, hBe, hB, _, ys, hrv, hv⟩ := (HV.out wr hbr).get hlt
      subst hBe
      obtain ⟨⟨g1, g2, g3⟩, rfl, hs1, _⟩ := hrv.out
      simp only at hv hrv hs1
      have e0 := hv 0 _ rfl
      have e1 := hv 1 _ rfl
      have e2 := hv 2 _ rfl
      have e3 := hv 3 _ rfl
      have e4 := hv 4 _ rfl
      rw [Nat.add_zero] at e0
      have HT : Hid (freeP (V.take (k + 1)) = if sEq (vCl (V.getD k default)) B0 = true then freeP (V.take k) ++ [(V.getD k default).1] else freeP (V.take k)) := free_take12 V k hkl
      have hpl := free_len12 V k
      obtain ⟨pa, pc, rfl, _⟩ := hrow.out.sl (bytes := 16) RStr.firm (by omega)
      have HRW : Hid (Row RStr 1 (fun _ => False) u2 wr 9 (.slice pa (freeP (V.take k)).length pc) (freeP (V.take k))) := hrow
      have HVr : Hid (RVolume (fun _ => True) wr [.string (V.getD k default).1, .int .i64 (V.getD k default).2.1, .string (V.getD k default).2.2.1, .slice g1 g2 g3, .string (vCl (V.getD k default))] (V.getD k default)) := hrv
      clear hrow hrv hv
      generalize freeP (V.take k) = Pre at HRW HT hpl
      generalize V.getD k default = y at HVr HT e0 e1 e2 e3 e4 hs1
      obtain ⟨Wb, hWb⟩ : ∃ W, W = wr.alloc (.cells #[.string y.1, .int .i64 y.2.1, .string y.2.2.1, .slice g1 g2 g3, .string (vCl y)] 49) := ⟨_, rfl⟩
      have bb : Below wr.heap.size wr Wb := by rw [hWb]; exact (Below.refl _ _).alloc (Nat.le_refl _) _
      have qb : BoxL Wb wr.heap.size [.string y.1, .int .i64 y.2.1, .string y.2.2.1, .slice g1 g2 g3, .string (vCl y)] := by rw [hWb]; exact BoxL.new wr 49 _
      have hC := isFree_calls [.string y.1, .int .i64 y.2.1, .string y.2.2.1, .slice g1 g2 g3, .string (vCl y)] _ y Wb (RVolume.firm.kept HVr.out (Kept.below bb))
      have HWb : Hid (Wb = wr.alloc (.cells #[.string y.1, .int .i64 y.2.1, .string y.2.2.1, .slice g1 g2 g3, .string (vCl y)] 49)) := hWb
      clear hWb
      --M4
      go_upto_region 5 with fail
      rw [← HWb.out]
      clear HWb e0 e1 e2 e3 e4
      have y0 := (qb.2 0 _ rfl).1
      have y1 := (qb.2 1 _ rfl).1
      have y2 := (qb.2 2 _ rfl).1
      have y3 := (qb.2 3 _ rfl).1
      have y4 := (qb.2 4 _ rfl).1
      have hltb := qb.1
      --M5
      go_wp2_with fail
      refine hC.mono ?_
      rintro e u3 ⟨rfl, d3⟩
      have bz : Below wr.heap.size wr u3 := on2 bb d3
      have z0 := ((qb.on d3).2 0 _ rfl).1
      have hlt3 := (qb.on d3).1
      clear y0 y1 y2 y3 y4 hC hltb
      cases hf : sEq (vCl y) B0 with
      | false =>
        rw [hf] at HT
        have HN : Hid (Row RStr 1 (fun _ => False) u2 u3 9 (.slice pa Pre.length pc) (freeP (V.take (k + 1)))) := by rw [HT.out]; exact HRW.out.on RStr.firm bz
        clear HT HRW bz d3 bb qb z0 hlt3
        generalize Pre.length = pl at HN hpl ⊢
        --M6
        go_wp2_with fail
        go_roundw
        case rel => exact ⟨k + 1, by omega, by simp, HN⟩
        case measure => simp [intOf]; omega
      | true =>
        rw [hf, if_pos rfl] at HT
        have bV : Below u3.heap.size u3 (u3.alloc (.cells #[.string y.1] 9)) := (Below.refl _ _).alloc (Nat.le_refl _) _
        have HTV : Hid (Row RStr 1 (fun _ => False) u2 (u3.alloc (.cells #[.string y.1] 9)) 9 (.slice pa Pre.length pc) Pre) := HRW.out.on RStr.firm (on2 bz bV)
        have HSr : Hid (Src RStr 1 (fun b => (fun _ => False) b ∧ (Value.slice pa Pre.length pc).ownBlock ≠ some b) (u3.alloc (.cells #[.string y.1] 9)) (some ⟨u3.heap.size, 0, none⟩) 1 [y.1]) := src_one10 RStr.firm RStr.flat (BoxL.new u3 9 [.string y.1]) ⟨rfl, hs1⟩
        have HOb : Hid ((Pre.length + [y.1].length) * 16 ≤ 140737488355328) := by rw [Hid, List.length_singleton]; omega
        have Hpp : Hid (∃ pl, pl = Pre.length) := ⟨_, rfl⟩
        clear bV HRW bz d3 bb qb
        --M7
        go_wp2_with (at_builtin; go_must (refine row_appendP RStr.firm (A := (fun _ => False)) (w0 := u2) rfl _ _ 41 9 rfl _ 16 infoS10 Tryz.underlying41 rfl (by decide) (by decide) (.slice pa Pre.length pc) Pre rfl HTV.out (some ⟨_, 0, none⟩) 1 1 [y.1] rfl HSr.out HOb.out ?_); intro v7 u7 hr7 hg7 hw7)
        have HN : Hid (Row RStr 1 (fun _ => False) u2 u7 9 v7 (freeP (V.take (k + 1)))) := by rw [HT.out]; exact hr7
        clear hr7 hg7 hw7 HTV HSr HOb HT
        --M8
        go_roundw
        case rel => exact ⟨k + 1, by omega, by go_num, HN⟩
        case measure => simp [intOf]; omega
    · obtain rfl : k = n2 := by omega
      have htk : V.take k = V := List.take_of_length_le (by rw [hl2.out]; exact Nat.le_refl _)
      rw [htk] at hrow
      have hpl : (freeP V).length ≤ k := by have := free_len12 V k; rwa [htk] at this
      obtain ⟨pa, pc, rfl, _⟩ := hrow.out.sl (bytes := 16) RStr.firm (by omega)
      have HE : Hid (Below w.heap.size w wr) := on2 HB2.out hbr
      clear hrow hbr htk HV
      obtain ⟨fl, hfl⟩ : ∃ fl, (freeP V).length = fl := ⟨_, rfl⟩
      have HFl : Hid ((freeP V).length = fl) := hfl
      rw [hfl] at hpl ⊢
      clear hfl
      --M9
      go_wp2_with fail
      go_ret
      exact ⟨_, _, by rw [HFl.out]; rfl, HE.out⟩
end Go.Proofs.YtmnldngojgldiaaGreat
namespace Go.Proofs.YtmnldngojgldiaaGreat
open Go.RowKit Go.Maps
set_option linter.unusedSimpArgs false
set_option maxRecDepth 100000

set_option maxHeartbeats 16000000 in
theorem allClaim_calls (a : Option Addr) (n cap : Nat) (A : Where) (L : List ClaimD) (mb : Nat) (w : World) (hL : Hid (SlAt RClaim 4 56 A w a n cap L)) (hm : Hid (NmAt w mb (L.map Prod.fst))) (hrb : n * 56 ≤ 140737488355328) :
    Calls Tryz.prog 28 #[.agg #[.slice a n cap, .map (some mb)]] w (AllOut RClaim 4 (Lo10 A w) 44 w (allL Prod.fst L)) := by
  have hnl : Hid (L.length = n) := hL.out.1
  have hbn : Hid (n * 56 ≤ 140737488351232) := hL.out.2.2.2.1
  have hlen := hL.out.len (by decide)
  obtain ⟨W1, hW1⟩ : ∃ W, W = w.alloc (.cells #[.slice a n cap, .map (some mb)] 82) := ⟨_, rfl⟩
  have B1 : Below w.heap.size w W1 := by rw [hW1]; go_grown
  have q1 : BoxL W1 w.heap.size [.slice a n cap, .map (some mb)] := by rw [hW1]; exact BoxL.new w 82 _
  obtain ⟨F, hF⟩ : ∃ F, F = firstsI (L.map Prod.fst) := ⟨_, rfl⟩
  have hFn : F.length ≤ n := by have := firstsI_len (L.map Prod.fst); rw [hF, ← hnl.out]; rwa [List.length_map] at this
  have hln := (hm.out.on B1).len
  rw [← hF] at hln
  obtain ⟨i0, hi0, hz0, hz1, hz2⟩ := info_parts infcClaim
  obtain ⟨W2, hmk, hown, hg2⟩ := run_make_own (P := Tryz.prog) W1 W1.heap.size 25 44 i0 _ 4 Tryz.underlying25 hi0 hz0 hz1 .i64 .i64 F.length (by rw [hz2]; have := hbn.out; omega) (by have := hbn.out; have := maxLen9; omega) (Nat.le_refl _)
  have B2 : Below W1.heap.size W1 W2 := (Below.refl _ _).grown hg2 (Nat.le_refl _) (fun k e => by cases e)
  have r2 : Row RClaim 4 (Lo10 A w) W1 W2 44 (.slice (some ⟨W1.heap.size, 0, none⟩) 0 F.length) ((allL Prod.fst L).take 0) := ⟨[], ⟨B2, hown⟩, Chunks.nil _ _⟩
  have m2 := hm.out.on (on2 B1 B2)
  have HU : Hid (∀ u, Below W1.heap.size W1 u → BoxL u w.heap.size [.slice a n cap, .map (some mb)] ∧ SlAt RClaim 4 56 (Lo10 A w) u a n cap L ∧ Below w.heap.size w u) := fun u hb => ⟨q1.on hb, (hL.out.weak RClaim.firm (fun b hb h => ⟨h, hb⟩)).on RClaim.firm (on2 B1 hb), on2 B1 hb⟩
  have HA : Hid (∀ k, k < F.length → F.getD k default < n ∧ (allL Prod.fst L).take (k + 1) = (allL Prod.fst L).take k ++ [L.getD (F.getD k default) default] ∧ (firstsZ (L.map Prod.fst)).getD k default = ((F.getD k default : Nat) : Int)) := fun k hk => by rw [hF] at hk ⊢; rw [← hnl.out]; exact allL_at Prod.fst hk
  have HFl : Hid ((firstsZ (L.map Prod.fst)).length = F.length) := by rw [Hid, hF]; unfold firstsZ; rw [List.length_map]
  have HAl : Hid ((allL Prod.fst L).length = F.length) := by rw [Hid, hF]; exact allL_len _ _
  have c1 := (q1.2 1 _ rfl).1
  have c1' := ((q1.on B2).2 1 _ rfl).1
  have hsz1 : W1.heap.size < W2.heap.size := (hown.lt W1.heap.size rfl).2
  have hCv := mVals_calls (some mb) W2
  have hCs := sortedV_calls m2 (by rw [List.length_map, hnl.out]; have := hbn.out; omega)
  have H2 : Hid (Row RClaim 4 (Lo10 A w) W1 W2 44 (.slice (some ⟨W1.heap.size, 0, none⟩) 0 F.length) ((allL Prod.fst L).take 0) ∧ W1.heap.size < W2.heap.size ∧ Below W1.heap.size W1 W2) := ⟨r2, hsz1, B2⟩
  have Hw1 : Hid (w.heap.size < W1.heap.size ∧ Below w.heap.size w W1) := ⟨q1.1, B1⟩
  unfold SrtOut at hCs
  clear hL hm B1 q1 hown hg2 B2 r2 m2 hi0 hz0 hz1 hz2 hF hsz1
  generalize allL Prod.fst L = M at H2 HA HAl
  generalize firstsZ (L.map Prod.fst) = Zs at hCs HA HFl
  have HCs : Hid (Calls Tryz.prog 46 #[.func (.func 66) #[] #[.pointer (some ⟨W2.heap.size, 0, none⟩)]] (W2.alloc (.cells #[.map (some mb)] 80)) (fun e w' => ∃ v, e = .returned v ∧ Row RInt 1 (fun _ => False) W2 w' 3 v Zs)) := hCs
  clear hCs
  go_enter Tryz.func28, Tryz.ntmps28
  go_upto_region 1 with fail
  rw [← hW1]
  clear hW1
  go_upto_region 2 with fail
  clear hmk hln c1
  go_wp2_with fail
  refine hCv.mono ?_
  rintro e w3 ⟨rfl, rfl⟩
  clear hCv
  go_wp2_with fail
  refine HCs.out.mono ?_
  rintro e w4 ⟨s, rfl, hrs⟩
  clear HCs c1'
  have b4 : Below W2.heap.size W2 w4 := hrs.below
  have hbs : Beside RClaim 4 (Lo10 A w) W1 w4 44 (.slice (some ⟨W1.heap.size, 0, none⟩) 0 F.length) s (M.take 0) Zs := ⟨H2.out.1.on RClaim.firm b4, hrs.from RInt.firm H2.out.2.2 (fun _ h => h), fun b hb e => by
    have h1 := (hrs.lt e).1
    have h2 := H2.out.2.1
    simp only [Value.ownBlock, Option.some.injEq] at hb
    omega⟩
  obtain ⟨sa, sn, sc, rfl, ss⟩ := hrs.sl10 (bytes := 8) RInt.firm (by rw [HFl.out]; have := hbn.out; omega)
  have hsn : Hid (sn = F.length) := by rw [Hid, ← ss.1]; exact HFl.out
  have hsnl := ss.len (by decide)
  have HI : Hid (Beside RClaim 4 (Lo10 A w) W1 w4 44 (.slice (some ⟨W1.heap.size, 0, none⟩) 0 F.length) (.slice sa sn sc) (M.take 0) Zs) := hbs
  clear hrs b4 hbs ss H2
  go_wp2_with fail
  go_loopw [3, 15] (fun o i wr => ∃ k : Nat, k ≤ sn ∧ i = .int .i64 k ∧ Hid (Beside RClaim 4 (Lo10 A w) W1 wr 44 o (.slice sa sn sc) (M.take k) Zs)) (fun _ i _ => sn - (intOf i).toNat)
  case atStart => exact ⟨0, Nat.zero_le _, rfl, HI⟩
  case round =>
    obtain ⟨k, hk, rfl, hrun⟩ := hrel
    have hbs := hrun.out
    clear hrun HI
    obtain ⟨hq, hS, hbw⟩ := HU.out wr hbs.below
    by_cases hlt : k < sn
    · have hltz : (k : Int) < (sn : Int) := by omega
      obtain ⟨ja, jb, jc⟩ := HA.out k (by rw [← hsn.out]; exact hlt)
      obtain ⟨j, hj⟩ : ∃ j, j = F.getD k default := ⟨_, rfl⟩
      rw [← hj] at ja jb jc
      clear hj
      have hjz : (j : Int) < (n : Int) := by omega
      obtain ⟨_, _, _, es, ss⟩ := hbs.2.1.sl10 (bytes := 8) RInt.firm (by rw [HFl.out]; have := hbn.out; omega)
      cases es
      obtain ⟨Bs, os, rfl, hBs, _, ys, hys, hyv⟩ := ss.get hlt
      obtain rfl : ys = [.int .i64 (Zs.getD k default)] := hys
      have d0 := hyv 0 _ rfl
      rw [jc, Nat.mul_one, Nat.add_zero] at d0
      obtain ⟨B, off, rfl, hB, hAB, xs, hr, hv⟩ := hS.get ja
      have HT : Hid (M.take (k + 1) = M.take k ++ [L.getD j default]) := jb
      have HLk : Hid ((M.take k).length ≤ k) := by rw [Hid, List.length_take]; omega
      generalize L.getD j default = x at hr HT
      obtain ⟨rfl, _⟩ := hr.out
      have HV0 : Hid (wr.rangeAt B (off + j * 4) [.string x.1, .int .i64 x.2.1, .string x.2.2.1, .string (cVo x)]) := hv
      have hi : (Tryz.prog.info? 44).map (·.size) = some ([.string x.1, .int .i64 x.2.1, .string x.2.2.1, .string (cVo x)] : List Value).length := iszClaim
      obtain ⟨Wb, hWb⟩ : ∃ W, W = wr.alloc (.cells #[.string x.1, .int .i64 x.2.1, .string x.2.2.1, .string (cVo x)] 44) := ⟨_, rfl⟩
      have bWb : Below wr.heap.size wr Wb := by rw [hWb]; go_grown
      have HB2 : Hid (Beside RClaim 4 (Lo10 A w) W1 Wb 44 u3 (.slice (some ⟨Bs, os, none⟩) sn sc) (M.take k) Zs) := hbs.on RClaim.firm bWb
      have HSr : Hid (Src RClaim 4 (fun b => Lo10 A w b ∧ u3.ownBlock ≠ some b) Wb (some ⟨wr.heap.size, 0, none⟩) 1 [x]) := src_box10 RClaim.firm (cs := [.string x.1, .int .i64 x.2.1, .string x.2.2.1, .string (cVo x)]) (by rw [hWb]; exact BoxL.new wr 44 _) (RClaim.firm.weak (RClaim.firm.kept hr (Kept.below bWb)) (fun b _ h => ⟨h, fun e => by have h1 := (hbs.1.lt e).1; have h2 := h.2; have h3 := Hw1.out.1; omega⟩))
      have HWb : Hid (Wb = wr.alloc (.cells #[.string x.1, .int .i64 x.2.1, .string x.2.2.1, .string (cVo x)] 44)) := hWb
      have HOb : Hid (((M.take k).length + [x].length) * 56 ≤ 140737488355328) := by have h1 := HLk.out; have h2 := hrb; have h3 := hsn.out; rw [Hid, List.length_singleton]; omega
      have c0 := (hq.2 0 _ rfl).1
      have HRw : Hid (Row RClaim 4 (Lo10 A w) W1 Wb 44 u3 (M.take k)) := HB2.out.1
      clear hq hS hbw hr hv hyv ss hbs hWb bWb jb jc HLk hB hAB hBs
      generalize x.1 = p0 at HV0 hi HWb
      generalize x.2.1 = p1 at HV0 hi HWb
      generalize x.2.2.1 = p2 at HV0 hi HWb
      generalize cVo x = p3 at HV0 hi HWb
      go_wp2_with (first | (refine wpList_load_mid rfl 44 _ rfl B (off + j * 4) rfl [.string p0, .int .i64 p1, .string p2, .string p3] _ HV0.out Tryz.underlying44 rfl hi ?_) | (at_builtin; refine wpl_w8 HWb.out ?_; go_must (refine row_appendP RClaim.firm (A := Lo10 A w) (w0 := W1) rfl _ _ 25 44 rfl _ 56 infcClaim Tryz.underlying25 rfl (by decide) (by decide) u3 (M.take k) rfl HRw.out (some ⟨wr.heap.size, 0, none⟩) 1 1 [x] rfl HSr.out HOb.out ?_); intro v7 u7 hr7 hg7 hw7) | fail)
      have HN : Hid (Beside RClaim 4 (Lo10 A w) W1 u7 44 v7 (.slice (some ⟨Bs, os, none⟩) sn sc) (M.take (k + 1)) Zs) := by rw [Hid, HT.out]; exact HB2.out.app hr7 hg7 hw7
      clear hr7 hg7 hw7 HB2 HT HSr HOb HRw HV0 HWb c0 d0
      go_roundw
      case rel => exact ⟨k + 1, by omega, by go_num, HN⟩
      case measure => simp [intOf]; omega
    · have htk : M.take k = M := List.take_of_length_le (by rw [HAl.out, ← hsn.out]; omega)
      rw [htk] at hbs
      have HF : Hid (Row RClaim 4 (Lo10 A w) w wr 44 u3 M) := hbs.1.from RClaim.firm Hw1.out.2 (fun _ h => h)
      clear hq hS hbw hbs htk
      go_wp2_with fail
      go_ret
      exact ⟨_, rfl, HF.out⟩
end Go.Proofs.YtmnldngojgldiaaGreat
