/- all at Volume: those that count, in order. Condition: the list and its map lie as is said of them. -/
import Derived.Test.YtmnldngojgldiaaGreatQ20
namespace Go.Proofs.YtmnldngojgldiaaGreat
open Go.RowKit Go.Maps
set_option linter.unusedSimpArgs false
set_option maxRecDepth 100000

set_option maxHeartbeats 16000000 in
theorem allVolume_calls (a : Option Addr) (n cap : Nat) (A : Where) (L : List VolumeD) (mb : Nat) (w : World) (hL : Hid (SlAt RVolume 5 72 A w a n cap L)) (hm : Hid (NmAt w mb (L.map Prod.fst))) (hrb : n * 80 ≤ 140737488355328) :
    Calls Tryz.prog 31 #[.agg #[.slice a n cap, .map (some mb)]] w (AllOut RVolume 5 (Lo10 A w) 49 w (allL Prod.fst L)) := by
  have hnl : Hid (L.length = n) := hL.out.1
  have hbn : Hid (n * 72 ≤ 140737488351232) := hL.out.2.2.2.1
  have hlen := hL.out.len (by decide)
  obtain ⟨W1, hW1⟩ : ∃ W, W = w.alloc (.cells #[.slice a n cap, .map (some mb)] 86) := ⟨_, rfl⟩
  have B1 : Below w.heap.size w W1 := by rw [hW1]; go_grown
  have q1 : BoxL W1 w.heap.size [.slice a n cap, .map (some mb)] := by rw [hW1]; exact BoxL.new w 86 _
  obtain ⟨F, hF⟩ : ∃ F, F = firstsI (L.map Prod.fst) := ⟨_, rfl⟩
  have hFn : F.length ≤ n := by have := firstsI_len (L.map Prod.fst); rw [hF, ← hnl.out]; rwa [List.length_map] at this
  have hln := (hm.out.on B1).len
  rw [← hF] at hln
  obtain ⟨i0, hi0, hz0, hz1, hz2⟩ := info_parts infcVolume
  obtain ⟨W2, hmk, hown, hg2⟩ := run_make_own (P := Tryz.prog) W1 W1.heap.size 24 49 i0 _ 5 Tryz.underlying24 hi0 hz0 hz1 .i64 .i64 F.length (by rw [hz2]; have := hbn.out; omega) (by have := hbn.out; have := maxLen9; omega) (Nat.le_refl _)
  have B2 : Below W1.heap.size W1 W2 := (Below.refl _ _).grown hg2 (Nat.le_refl _) (fun k e => by cases e)
  have r2 : Row RVolume 5 (Lo10 A w) W1 W2 49 (.slice (some ⟨W1.heap.size, 0, none⟩) 0 F.length) ((allL Prod.fst L).take 0) := ⟨[], ⟨B2, hown⟩, Chunks.nil _ _⟩
  have m2 := hm.out.on (on2 B1 B2)
  have HU : Hid (∀ u, Below W1.heap.size W1 u → BoxL u w.heap.size [.slice a n cap, .map (some mb)] ∧ SlAt RVolume 5 72 (Lo10 A w) u a n cap L ∧ Below w.heap.size w u) := fun u hb => ⟨q1.on hb, (hL.out.weak RVolume.firm (fun b hb h => ⟨h, hb⟩)).on RVolume.firm (on2 B1 hb), on2 B1 hb⟩
  have HA : Hid (∀ k, k < F.length → F.getD k default < n ∧ (allL Prod.fst L).take (k + 1) = (allL Prod.fst L).take k ++ [L.getD (F.getD k default) default] ∧ (firstsZ (L.map Prod.fst)).getD k default = ((F.getD k default : Nat) : Int)) := fun k hk => by rw [hF] at hk ⊢; rw [← hnl.out]; exact allL_at Prod.fst hk
  have HFl : Hid ((firstsZ (L.map Prod.fst)).length = F.length) := by rw [Hid, hF]; unfold firstsZ; rw [List.length_map]
  have HAl : Hid ((allL Prod.fst L).length = F.length) := by rw [Hid, hF]; exact allL_len _ _
  have c1 := (q1.2 1 _ rfl).1
  have c1' := ((q1.on B2).2 1 _ rfl).1
  have hsz1 : W1.heap.size < W2.heap.size := (hown.lt W1.heap.size rfl).2
  have hCv := mVals_calls (some mb) W2
  have hCs := sortedV_calls m2 (by rw [List.length_map, hnl.out]; have := hbn.out; omega)
  have H2 : Hid (Row RVolume 5 (Lo10 A w) W1 W2 49 (.slice (some ⟨W1.heap.size, 0, none⟩) 0 F.length) ((allL Prod.fst L).take 0) ∧ W1.heap.size < W2.heap.size ∧ Below W1.heap.size W1 W2) := ⟨r2, hsz1, B2⟩
  have Hw1 : Hid (w.heap.size < W1.heap.size ∧ Below w.heap.size w W1) := ⟨q1.1, B1⟩
  unfold SrtOut at hCs
  clear hL hm B1 q1 hown hg2 B2 r2 m2 hi0 hz0 hz1 hz2 hF hsz1
  generalize allL Prod.fst L = M at H2 HA HAl
  generalize firstsZ (L.map Prod.fst) = Zs at hCs HA HFl
  have HCs : Hid (Calls Tryz.prog 46 #[.func (.func 66) #[] #[.pointer (some ⟨W2.heap.size, 0, none⟩)]] (W2.alloc (.cells #[.map (some mb)] 80)) (fun e w' => ∃ v, e = .returned v ∧ Row RInt 1 (fun _ => False) W2 w' 3 v Zs)) := hCs
  clear hCs
  go_enter Tryz.func31, Tryz.ntmps31
  go_upto_region 1 with fail
  rw [← hW1]
  clear hW1
  go_upto_region 2 with fail
  clear hmk hln c1
  go_wp2_with fail
  refine hCv.mono ?_
  rintro e w3 ⟨rfl, rfl⟩
  clear hCv
  go_wp2_with fail
  refine HCs.out.mono ?_
  rintro e w4 ⟨s, rfl, hrs⟩
  clear HCs c1'
  have b4 : Below W2.heap.size W2 w4 := hrs.below
  have hbs : Beside RVolume 5 (Lo10 A w) W1 w4 49 (.slice (some ⟨W1.heap.size, 0, none⟩) 0 F.length) s (M.take 0) Zs := ⟨H2.out.1.on RVolume.firm b4, hrs.from RInt.firm H2.out.2.2 (fun _ h => h), fun b hb e => by
    have h1 := (hrs.lt e).1
    have h2 := H2.out.2.1
    simp only [Value.ownBlock, Option.some.injEq] at hb
    omega⟩
  obtain ⟨sa, sn, sc, rfl, ss⟩ := hrs.sl10 (bytes := 8) RInt.firm (by rw [HFl.out]; have := hbn.out; omega)
  have hsn : Hid (sn = F.length) := by rw [Hid, ← ss.1]; exact HFl.out
  have hsnl := ss.len (by decide)
  have HI : Hid (Beside RVolume 5 (Lo10 A w) W1 w4 49 (.slice (some ⟨W1.heap.size, 0, none⟩) 0 F.length) (.slice sa sn sc) (M.take 0) Zs) := hbs
  clear hrs b4 hbs ss H2
  go_wp2_with fail
  go_loopw [3, 15] (fun o i wr => ∃ k : Nat, k ≤ sn ∧ i = .int .i64 k ∧ Hid (Beside RVolume 5 (Lo10 A w) W1 wr 49 o (.slice sa sn sc) (M.take k) Zs)) (fun _ i _ => sn - (intOf i).toNat)
  case atStart => exact ⟨0, Nat.zero_le _, rfl, HI⟩
  case round =>
    obtain ⟨k, hk, rfl, hrun⟩ := hrel
    have hbs := hrun.out
    clear hrun HI
    obtain ⟨hq, hS, hbw⟩ := HU.out wr hbs.below
    by_cases hlt : k < sn
    · have hltz : (k : Int) < (sn : Int) := by omega
      obtain ⟨ja, jb, jc⟩ := HA.out k (by rw [← hsn.out]; exact hlt)
      obtain ⟨j, hj⟩ : ∃ j, j = F.getD k default := ⟨_, rfl⟩
      rw [← hj] at ja jb jc
      clear hj
      have hjz : (j : Int) < (n : Int) := by omega
      obtain ⟨_, _, _, es, ss⟩ := hbs.2.1.sl10 (bytes := 8) RInt.firm (by rw [HFl.out]; have := hbn.out; omega)
      cases es
      obtain ⟨Bs, os, rfl, hBs, _, ys, hys, hyv⟩ := ss.get hlt
      obtain rfl : ys = [.int .i64 (Zs.getD k default)] := hys
      have d0 := hyv 0 _ rfl
      rw [jc, Nat.mul_one, Nat.add_zero] at d0
      obtain ⟨B, off, rfl, hB, hAB, xs, hr, hv⟩ := hS.get ja
      have HT : Hid (M.take (k + 1) = M.take k ++ [L.getD j default]) := jb
      have HLk : Hid ((M.take k).length ≤ k) := by rw [Hid, List.length_take]; omega
      generalize L.getD j default = x at hr HT
      obtain ⟨⟨q1, q2, q3⟩, rfl, _⟩ := hr.out
      have HV0 : Hid (wr.rangeAt B (off + j * 5) [.string x.1, .int .i64 x.2.1, .string x.2.2.1, .slice q1 q2 q3, .string (vCl x)]) := hv
      have hi : (Tryz.prog.info? 49).map (·.size) = some ([.string x.1, .int .i64 x.2.1, .string x.2.2.1, .slice q1 q2 q3, .string (vCl x)] : List Value).length := iszVolume
      obtain ⟨Wb, hWb⟩ : ∃ W, W = wr.alloc (.cells #[.string x.1, .int .i64 x.2.1, .string x.2.2.1, .slice q1 q2 q3, .string (vCl x)] 49) := ⟨_, rfl⟩
      have bWb : Below wr.heap.size wr Wb := by rw [hWb]; go_grown
      have HB2 : Hid (Beside RVolume 5 (Lo10 A w) W1 Wb 49 u3 (.slice (some ⟨Bs, os, none⟩) sn sc) (M.take k) Zs) := hbs.on RVolume.firm bWb
      have HSr : Hid (Src RVolume 5 (fun b => Lo10 A w b ∧ u3.ownBlock ≠ some b) Wb (some ⟨wr.heap.size, 0, none⟩) 1 [x]) := src_box10 RVolume.firm (cs := [.string x.1, .int .i64 x.2.1, .string x.2.2.1, .slice q1 q2 q3, .string (vCl x)]) (by rw [hWb]; exact BoxL.new wr 49 _) (RVolume.firm.weak (RVolume.firm.kept hr (Kept.below bWb)) (fun b _ h => ⟨h, fun e => by have h1 := (hbs.1.lt e).1; have h2 := h.2; have h3 := Hw1.out.1; omega⟩))
      have HWb : Hid (Wb = wr.alloc (.cells #[.string x.1, .int .i64 x.2.1, .string x.2.2.1, .slice q1 q2 q3, .string (vCl x)] 49)) := hWb
      have HOb : Hid (((M.take k).length + [x].length) * 80 ≤ 140737488355328) := by have h1 := HLk.out; have h2 := hrb; have h3 := hsn.out; rw [Hid, List.length_singleton]; omega
      have c0 := (hq.2 0 _ rfl).1
      have HRw : Hid (Row RVolume 5 (Lo10 A w) W1 Wb 49 u3 (M.take k)) := HB2.out.1
      clear hq hS hbw hr hv hyv ss hbs hWb bWb jb jc HLk hB hAB hBs
      generalize x.1 = p0 at HV0 hi HWb
      generalize x.2.1 = p1 at HV0 hi HWb
      generalize x.2.2.1 = p2 at HV0 hi HWb
      generalize vCl x = p4 at HV0 hi HWb
      go_wp2_with (first | (refine wpList_load_mid rfl 49 _ rfl B (off + j * 5) rfl [.string p0, .int .i64 p1, .string p2, .slice q1 q2 q3, .string p4] _ HV0.out Tryz.underlying49 rfl hi ?_) | (at_builtin; refine wpl_w8 HWb.out ?_; go_must (refine row_appendP RVolume.firm (A := Lo10 A w) (w0 := W1) rfl _ _ 24 49 rfl _ 80 infcVolume Tryz.underlying24 rfl (by decide) (by decide) u3 (M.take k) rfl HRw.out (some ⟨wr.heap.size, 0, none⟩) 1 1 [x] rfl HSr.out HOb.out ?_); intro v7 u7 hr7 hg7 hw7) | fail)
      have HN : Hid (Beside RVolume 5 (Lo10 A w) W1 u7 49 v7 (.slice (some ⟨Bs, os, none⟩) sn sc) (M.take (k + 1)) Zs) := by rw [Hid, HT.out]; exact HB2.out.app hr7 hg7 hw7
      clear hr7 hg7 hw7 HB2 HT HSr HOb HRw HV0 HWb c0 d0
      go_roundw
      case rel => exact ⟨k + 1, by omega, by go_num, HN⟩
      case measure => simp [intOf]; omega
    · have htk : M.take k = M := List.take_of_length_le (by rw [HAl.out, ← hsn.out]; omega)
      rw [htk] at hbs
      have HF : Hid (Row RVolume 5 (Lo10 A w) w wr 49 u3 M) := hbs.1.from RVolume.firm Hw1.out.2 (fun _ h => h)
      clear hq hS hbw hbs htk
      go_wp2_with fail
      go_ret
      exact ⟨_, rfl, HF.out⟩
end Go.Proofs.YtmnldngojgldiaaGreat
