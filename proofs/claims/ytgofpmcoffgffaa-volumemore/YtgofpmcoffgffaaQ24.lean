/- all at texts: those that count, in order. Condition: the list and its map lie as is said of them. tableOf at texts: where the first one of each stands. Condition: the list lies as is said of it. slices.Grow and slices.Concat at texts; eachOnce: all lists' names, in order, each where it stands first. Condition: the lists lie as is said of them; a bound that inputs of Go's own size keep. What the law VolumeMeets looks for: a claim and its volume stand at one place; a list whose sorted list is as long holds each once. Plain mathematics. No condition. -/
import Derived.Test.YtgofpmcoffgffaaQ17
import Derived.Test.YtgofpmcoffgffaaQ23
import Derived.Test.YtgofpmcoffgffaaQ13
import Derived.Lib.AppendZeros
import Derived.Test.YtgofpmcoffgffaaQ15
import Derived.Test.YtgofpmcoffgffaaQ05
namespace Go.Proofs.Ytgofpmcoffgffaa
open Go.RowKit Go.Maps
set_option linter.unusedSimpArgs false
set_option maxRecDepth 100000

set_option maxHeartbeats 16000000 in
theorem allS_calls (a : Option Addr) (n cap : Nat) (A : Where) (L : List ByteArray) (mb : Nat) (w : World) (hL : Hid (SlAt RStr 1 8 A w a n cap L)) (hm : Hid (NmAt w mb (L.map id))) :
    Calls Try.prog 36 #[.agg #[.slice a n cap, .map (some mb)]] w (AllOut RStr 1 (Lo10 A w) 9 w (allL id L)) := by
  have hnl : Hid (L.length = n) := hL.out.1
  have hbn : Hid (n * 8 ≤ 140737488351232) := hL.out.2.2.2.1
  have hlen := hL.out.len (by decide)
  obtain ⟨W1, hW1⟩ : ∃ W, W = w.alloc (.cells #[.slice a n cap, .map (some mb)] 107) := ⟨_, rfl⟩
  have B1 : Below w.heap.size w W1 := by rw [hW1]; go_grown
  have q1 : BoxL W1 w.heap.size [.slice a n cap, .map (some mb)] := by rw [hW1]; exact BoxL.new w 107 _
  obtain ⟨F, hF⟩ : ∃ F, F = firstsI (L.map id) := ⟨_, rfl⟩
  have hFn : F.length ≤ n := by have := firstsI_len (L.map id); rw [hF, ← hnl.out]; rwa [List.length_map] at this
  have hln := (hm.out.on B1).len
  rw [← hF] at hln
  obtain ⟨i0, hi0, hz0, hz1, hz2⟩ := info_parts infoS10
  obtain ⟨W2, hmk, hown, hg2⟩ := run_make_own (P := Try.prog) W1 W1.heap.size 31 9 i0 _ 1 Try.underlying31 hi0 hz0 hz1 .i64 .i64 F.length (by rw [hz2]; have := hbn.out; omega) (by have := hbn.out; have := maxLen9; omega) (Nat.le_refl _)
  have B2 : Below W1.heap.size W1 W2 := (Below.refl _ _).grown hg2 (Nat.le_refl _) (fun k e => by cases e)
  have r2 : Row RStr 1 (Lo10 A w) W1 W2 9 (.slice (some ⟨W1.heap.size, 0, none⟩) 0 F.length) ((allL id L).take 0) := ⟨[], ⟨B2, hown⟩, Chunks.nil _ _⟩
  have m2 := hm.out.on (on2 B1 B2)
  have HU : Hid (∀ u, Below W1.heap.size W1 u → BoxL u w.heap.size [.slice a n cap, .map (some mb)] ∧ SlAt RStr 1 8 (Lo10 A w) u a n cap L ∧ Below w.heap.size w u) := fun u hb => ⟨q1.on hb, (hL.out.weak RStr.firm (fun b hb h => ⟨h, hb⟩)).on RStr.firm (on2 B1 hb), on2 B1 hb⟩
  have HA : Hid (∀ k, k < F.length → F.getD k default < n ∧ (allL id L).take (k + 1) = (allL id L).take k ++ [L.getD (F.getD k default) default] ∧ (firstsZ (L.map id)).getD k default = ((F.getD k default : Nat) : Int)) := fun k hk => by rw [hF] at hk ⊢; rw [← hnl.out]; exact allL_at id hk
  have HFl : Hid ((firstsZ (L.map id)).length = F.length) := by rw [Hid, hF]; unfold firstsZ; rw [List.length_map]
  have HAl : Hid ((allL id L).length = F.length) := by rw [Hid, hF]; exact allL_len _ _
  have c1 := (q1.2 1 _ rfl).1
  have c1' := ((q1.on B2).2 1 _ rfl).1
  have hsz1 : W1.heap.size < W2.heap.size := (hown.lt W1.heap.size rfl).2
  have hCv := mVals_calls (some mb) W2
  have hCs := sortedV_calls m2 (by rw [List.length_map, hnl.out]; have := hbn.out; omega)
  have H2 : Hid (Row RStr 1 (Lo10 A w) W1 W2 9 (.slice (some ⟨W1.heap.size, 0, none⟩) 0 F.length) ((allL id L).take 0) ∧ W1.heap.size < W2.heap.size ∧ Below W1.heap.size W1 W2) := ⟨r2, hsz1, B2⟩
  have Hw1 : Hid (w.heap.size < W1.heap.size ∧ Below w.heap.size w W1) := ⟨q1.1, B1⟩
  unfold SrtOut at hCs
  clear hL hm B1 q1 hown hg2 B2 r2 m2 hi0 hz0 hz1 hz2 hF hsz1
  generalize allL id L = M at H2 HA HAl
  generalize firstsZ (L.map id) = Zs at hCs HA HFl
  have HCs : Hid (Calls Try.prog 53 #[.func (.func 76) #[] #[.pointer (some ⟨W2.heap.size, 0, none⟩)]] (W2.alloc (.cells #[.map (some mb)] 70)) (fun e w' => ∃ v, e = .returned v ∧ Row RInt 1 (fun _ => False) W2 w' 3 v Zs)) := hCs
  clear hCs
  go_enter Try.func36, Try.ntmps36
  go_upto_region 1 with fail
  rw [← hW1]
  clear hW1
  go_upto_region 2 with fail
  clear hmk hln c1
  go_wp2_with fail
  refine hCv.mono ?_
  rintro e w3 ⟨rfl, rfl⟩
  clear hCv
  go_wp2_with fail
  refine HCs.out.mono ?_
  rintro e w4 ⟨s, rfl, hrs⟩
  clear HCs c1'
  have b4 : Below W2.heap.size W2 w4 := hrs.below
  have hbs : Beside RStr 1 (Lo10 A w) W1 w4 9 (.slice (some ⟨W1.heap.size, 0, none⟩) 0 F.length) s (M.take 0) Zs := ⟨H2.out.1.on RStr.firm b4, hrs.from RInt.firm H2.out.2.2 (fun _ h => h), fun b hb e => by
    have h1 := (hrs.lt e).1
    have h2 := H2.out.2.1
    simp only [Value.ownBlock, Option.some.injEq] at hb
    omega⟩
  obtain ⟨sa, sn, sc, rfl, ss⟩ := hrs.sl10 (bytes := 8) RInt.firm (by rw [HFl.out]; have := hbn.out; omega)
  have hsn : Hid (sn = F.length) := by rw [Hid, ← ss.1]; exact HFl.out
  have hsnl := ss.len (by decide)
  have HI : Hid (Beside RStr 1 (Lo10 A w) W1 w4 9 (.slice (some ⟨W1.heap.size, 0, none⟩) 0 F.length) (.slice sa sn sc) (M.take 0) Zs ∧ Roomy (.slice (some ⟨W1.heap.size, 0, none⟩) 0 F.length) (M.take 0).length F.length) := ⟨hbs, .inr ⟨W1.heap.size, F.length, by simp, Nat.le_refl _⟩⟩
  clear hrs b4 hbs ss H2
  go_wp2_with fail
  go_loopw [3, 15] (fun o i wr => ∃ k : Nat, k ≤ sn ∧ i = .int .i64 k ∧ Hid (Beside RStr 1 (Lo10 A w) W1 wr 9 o (.slice sa sn sc) (M.take k) Zs ∧ Roomy o (M.take k).length F.length)) (fun _ i _ => sn - (intOf i).toNat)
  case atStart => exact ⟨0, Nat.zero_le _, rfl, HI⟩
  case round =>
    obtain ⟨k, hk, rfl, hrun⟩ := hrel
    obtain ⟨hbs, hro⟩ := hrun.out
    have HRo : Hid (Roomy u3 (M.take k).length F.length) := hro
    clear hrun HI hro
    obtain ⟨hq, hS, hbw⟩ := HU.out wr hbs.below
    by_cases hlt : k < sn
    · have hltz : (k : Int) < (sn : Int) := by omega
      obtain ⟨ja, jb, jc⟩ := HA.out k (by rw [← hsn.out]; exact hlt)
      obtain ⟨j, hj⟩ : ∃ j, j = F.getD k default := ⟨_, rfl⟩
      rw [← hj] at ja jb jc
      clear hj
      have hjz : (j : Int) < (n : Int) := by omega
      obtain ⟨_, _, _, es, ss⟩ := hbs.2.1.sl10 (bytes := 8) RInt.firm (by rw [HFl.out]; have := hbn.out; omega)
      cases es
      obtain ⟨Bs, os, rfl, hBs, _, ys, hys, hyv⟩ := ss.get hlt
      obtain rfl : ys = [.int .i64 (Zs.getD k default)] := hys
      have d0 := hyv 0 _ rfl
      rw [jc, Nat.mul_one, Nat.add_zero] at d0
      obtain ⟨B, off, rfl, hB, hAB, xs, hr, hv⟩ := hS.get ja
      have HT : Hid (M.take (k + 1) = M.take k ++ [L.getD j default]) := jb
      have HLk : Hid ((M.take k).length ≤ k) := by rw [Hid, List.length_take]; omega
      generalize L.getD j default = x at hr HT
      obtain ⟨rfl, hxz⟩ := hr
      have d1 := hv 0 _ rfl
      rw [Nat.mul_one, Nat.add_zero] at d1
      obtain ⟨Wb, hWb⟩ : ∃ W, W = wr.alloc (.cells #[.string x] 9) := ⟨_, rfl⟩
      have bWb : Below wr.heap.size wr Wb := by rw [hWb]; go_grown
      have HB2 : Hid (Beside RStr 1 (Lo10 A w) W1 Wb 9 u3 (.slice (some ⟨Bs, os, none⟩) sn sc) (M.take k) Zs) := hbs.on RStr.firm bWb
      have HSr : Hid (Src RStr 1 (fun b => Lo10 A w b ∧ u3.ownBlock ≠ some b) Wb (some ⟨wr.heap.size, 0, none⟩) 1 [x]) := src_box10 RStr.firm (cs := [.string x]) (by rw [hWb]; exact BoxL.new wr 9 _) ⟨rfl, hxz⟩
      have HWb : Hid (Wb = wr.alloc (.cells #[.string x] 9)) := hWb
      have HOb : Hid ((M.take k).length + [x].length ≤ F.length) := by have h1 := HLk.out; have h3 := hsn.out; rw [Hid, List.length_singleton]; omega
      have c0 := (hq.2 0 _ rfl).1
      have HRw : Hid (Row RStr 1 (Lo10 A w) W1 Wb 9 u3 (M.take k)) := HB2.out.1
      clear hq hS hbw hv hyv ss hbs hWb bWb jb jc HLk hB hAB hBs
      go_wp2_with (first | (at_builtin; refine wpl_w8 HWb.out ?_; go_must (refine row_appendC RStr.firm (A := Lo10 A w) (w0 := W1) rfl _ _ 31 9 rfl _ 16 infoS10 Try.underlying31 u3 (M.take k) F.length rfl HRw.out HRo.out (some ⟨wr.heap.size, 0, none⟩) 1 1 [x] rfl HSr.out HOb.out ?_); intro v7 u7 hr7 hg7 hw7 ho7) | fail)
      have HN : Hid (Beside RStr 1 (Lo10 A w) W1 u7 9 v7 (.slice (some ⟨Bs, os, none⟩) sn sc) (M.take (k + 1)) Zs ∧ Roomy v7 (M.take (k + 1)).length F.length) := by rw [Hid, HT.out]; exact ⟨HB2.out.app hr7 hg7 (.inl hw7), ho7⟩
      clear hr7 hg7 hw7 ho7 HRo HB2 HT HSr HOb HRw HWb c0 d0 d1
      go_roundw
      case rel => exact ⟨k + 1, by omega, by go_num, HN⟩
      case measure => simp [intOf]; omega
    · have htk : M.take k = M := List.take_of_length_le (by rw [HAl.out, ← hsn.out]; omega)
      rw [htk] at hbs
      have HF : Hid (Row RStr 1 (Lo10 A w) w wr 9 u3 M) := hbs.1.from RStr.firm Hw1.out.2 (fun _ h => h)
      clear hq hS hbw hbs htk
      go_wp2_with fail
      go_ret
      exact ⟨_, rfl, HF.out⟩
end Go.Proofs.Ytgofpmcoffgffaa
namespace Go.Proofs.Ytgofpmcoffgffaa
open Go.RowKit Go.Maps
set_option linter.unusedSimpArgs false
set_option maxRecDepth 100000

theorem nmS_calls (s : ByteArray) (w : World) : Calls Try.prog 35 #[.string s] w fun e w' => e = .returned (.string s) ∧ w' = w := by
  go_enter Try.func35, Try.ntmps35
  go_wp2_with fail
  go_ret
  exact ⟨rfl, rfl⟩
set_option maxHeartbeats 16000000 in
theorem tabS_calls (a : Option Addr) (n cap : Nat) (A : Where) (L : List ByteArray) (w : World) (hL : Hid (SlAt RStr 1 8 A w a n cap L)) :
    Calls Try.prog 33 #[.slice a n cap, .func (.func 35) #[] #[]] w (TabOut w (.slice a n cap) (L.map id)) := by
  have hnl : Hid (L.length = n) := hL.out.1
  have hbn : Hid (n * 8 ≤ 140737488351232) := hL.out.2.2.2.1
  have hlen := hL.out.len (by decide)
  have HU : Hid (∀ u, Below w.heap.size w u → SlAt RStr 1 8 A u a n cap L) := fun u hb => hL.out.on RStr.firm hb
  clear hL
  obtain ⟨W1, hW1⟩ : ∃ W, W = w.alloc (.cells #[.slice none 0 0, .map none] 107) := ⟨_, rfl⟩
  have B1 : Below w.heap.size w W1 := by rw [hW1]; go_grown
  have hz1 : W1.heap.size = w.heap.size + 1 := by rw [hW1]; simp
  have q1 : BoxL W1 w.heap.size [.slice none 0 0, .map none] := by rw [hW1]; exact BoxL.new w 107 _
  obtain ⟨W2, hW2⟩ : ∃ W, W = W1.alloc (.map #[] 0) := ⟨_, rfl⟩
  have B2 : Below W1.heap.size W1 W2 := by rw [hW2]; go_grown
  have m2 : NmAt W2 (w.heap.size + 1) ((L.map id).take 0) := by rw [hW2, ← hz1]; exact NmAt.made W1
  have HI : Hid (NmAt W2 (w.heap.size + 1) ((L.map id).take 0) ∧ BoxL W2 w.heap.size [.slice none 0 0, .map none] ∧ Below w.heap.size w W2) := ⟨m2, q1.on B2, on2 B1 B2⟩
  have hmm := makeMap_hint10
  have HZ : Hid (W1.heap.size = w.heap.size + 1) := hz1
  clear B1 q1 B2 m2 hz1
  have eg := enters_of Try.func35 (by kernel_rfl) rfl
  go_enter Try.func33, Try.ntmps33
  go_upto_region 1 with fail
  rw [← hW1]
  clear hW1
  go_upto_region 2 with fail
  rw [← hW2]
  clear hW2
  rw [HZ.out]
  clear hmm HZ
  go_wp2_with fail
  go_loopw [15] (fun i wr => ∃ k : Nat, k ≤ n ∧ i = .int .i64 k ∧ Hid (NmAt wr (w.heap.size + 1) ((L.map id).take k) ∧ BoxL wr w.heap.size [.slice none 0 0, .map none] ∧ Below w.heap.size w wr)) (fun i _ => n - (intOf i).toNat)
  case atStart => exact ⟨0, Nat.zero_le _, rfl, HI⟩
  case round =>
    obtain ⟨k, hk, rfl, hrun⟩ := hrel
    obtain ⟨hm, hq, hbw⟩ := hrun.out
    clear hrun HI
    by_cases hlt : k < n
    · have hltz : (k : Int) < (n : Int) := by omega
      have hkl : k < L.length := by rw [hnl.out]; exact hlt
      obtain ⟨B, off, rfl, hB, hAB, xs, hr, hv⟩ := (HU.out wr hbw).get hlt
      obtain ⟨rfl, hsz⟩ := hr
      have d0 := hv 0 _ rfl
      rw [Nat.mul_one, Nat.add_zero] at d0
      have HT : Hid ((L.map id).take (k + 1) = (L.map id).take k ++ [L.getD k default]) := take_map10 id hkl
      have HL : Hid (((L.map id).take k).length = k) := by rw [Hid, List.length_take, List.length_map]; omega
      have hlk := hm.look 70 Try.underlying70 hsz
      have hC := nmS_calls (L.getD k default) wr
      clear hv hB hAB
      generalize (L.getD k default) = x at hC hsz HT d0 hlk
      generalize (L.map id).take k = N at HT HL hm hlk
      go_wp2_with fail
      refine hC.mono ?_
      rintro e w6 ⟨rfl, rfl⟩
      cases hf : fI N x with
      | some j =>
        rw [hf] at hlk
        have HN3 : Hid (NmAt w6 (w.heap.size + 1) ((L.map id).take (k + 1)) ∧ BoxL w6 w.heap.size [.slice none 0 0, .map none] ∧ Below w.heap.size w w6) := ⟨by rw [HT.out]; exact hm.more hf, hq, hbw⟩
        simp only [Option.isSome_some, Option.getD_some] at hlk
        clear hm hq hbw HT HL hf hC
        go_wp2_with fail
        go_roundw
        case rel => exact ⟨k + 1, by omega, by go_num, HN3⟩
        case measure => simp [intOf]; omega
      | none =>
        rw [hf] at hlk
        simp only [Option.isSome_none, Option.getD_none] at hlk
        go_wp2_with fail
        refine hC.mono ?_
        rintro e w7 ⟨rfl, rfl⟩
        obtain ⟨w8, hup, nm8, hg8⟩ := hm.put 70 Try.underlying70 hsz hf (by have h1 := hbn.out; have h2 := HL.out; omega)
        have HN3 : Hid (NmAt w8 (w.heap.size + 1) ((L.map id).take (k + 1)) ∧ BoxL w8 w.heap.size [.slice none 0 0, .map none] ∧ Below w.heap.size w w8) := ⟨by rw [HT.out]; exact nm8, hq.grown10 hg8 (by omega), below_grown10 hbw hg8 (by omega)⟩
        rw [HL.out] at hup
        clear hm hq hbw nm8 hg8 HT HL hf hC hlk
        go_wp2_with fail
        go_roundw
        case rel => exact ⟨k + 1, by omega, by go_num, HN3⟩
        case measure => simp [intOf]; omega
    · have htk : (L.map id).take k = L.map id := List.take_of_length_le (by rw [List.length_map, hnl.out]; omega)
      rw [htk] at hm
      obtain ⟨V, hV⟩ : ∃ V, V = wr.setCells w.heap.size 0 [.slice a n cap, .map (some (w.heap.size + 1))] := ⟨_, rfl⟩
      have HTh : Hid (wr.there w.heap.size 0 (#[.slice a n cap, .map (some (w.heap.size + 1))] : Array Value).size) := hq.there
      have HWV : Hid (V = wr.setCells w.heap.size 0 (#[.slice a n cap, .map (some (w.heap.size + 1))] : Array Value).toList) := by rw [Hid, hV]
      have HOc : Hid ((#[.slice a n cap, .map (some (w.heap.size + 1))] : Array Value).all (·.oneCell') = true) := by rw [Hid]; simp [Value.oneCell']
      have kV : Kept (fun b => b ≠ w.heap.size) wr V := by rw [hV]; exact kept_setCells (fun h => h rfl)
      have qV : BoxL V w.heap.size [.slice a n cap, .map (some (w.heap.size + 1))] := by rw [hV]; exact box_over8 hq rfl
      have HOut : Hid (NmAt V (w.heap.size + 1) (L.map id) ∧ w.heap.size ≤ w.heap.size + 1 ∧ Below w.heap.size w V) := ⟨hm.kept kV (by omega), by omega, by rw [hV]; exact below_setCells hbw (by omega)⟩
      have t0 := (qV.2 0 _ rfl).1
      have t1 := (qV.2 1 _ rfl).1
      have hszT : (Try.prog.info? 107).map (·.size) = some (#[.slice a n cap, .map (some (w.heap.size + 1))] : Array Value).size := by kernel_rfl
      clear hm hq hbw htk kV qV hV HU
      go_wp2_with (first | (refine wpList_store_mid rfl 107 _ _ rfl w.heap.size 0 #[.slice a n cap, .map (some (w.heap.size + 1))] rfl rfl HTh.out hszT HOc.out ?_; refine wpl_w8 HWV.out ?_) | fail)
      refine bodyPost_ret (v := .agg #[.slice a n cap, .map (some (w.heap.size + 1))]) (by simp [results, Try.results33, go_sem, t0, t1, Result.andThen]) rfl ?_
      exact ⟨_, rfl, by have h9 := HOut.out; rw [List.map_id] at h9; exact h9⟩
end Go.Proofs.Ytgofpmcoffgffaa
namespace Go.Proofs.Ytgofpmcoffgffaa
open Go.RowKit Go.Maps
set_option linter.unusedSimpArgs false
set_option maxRecDepth 100000

theorem wrap64_10 {n : Int} (h0 : 0 ≤ n) (h1 : n < 9223372036854775808) : wrap64 n = n := by unfold wrap64; omega
/-- What Grow hands back: nothing, with room. -/
def GrowOut (w : World) (n : Nat) (e : Ending) (w' : World) : Prop := ∃ v, e = .returned v ∧ Row RStr 1 (fun _ => False) w w' 9 v [] ∧ Roomy v 0 n
set_option maxHeartbeats 4000000 in
theorem grow_calls (n : Nat) (w : World) (hn : n * 16 ≤ 281474976710656) : Calls Try.prog 55 #[.slice none 0 0, .int .i64 (n : Int)] w (GrowOut w n) := by
  have h0 : ¬ ((n : Int) < 0) := by omega
  have hw : wrap64 (n : Int) = n := by unfold wrap64; omega
  cases hz : n with
  | zero =>
    go_enter Try.func55, Try.ntmps55
    go_wp2_with fail
    go_ret
    exact ⟨_, rfl, Row.nil _ _ _, .inl ⟨rfl, rfl⟩⟩
  | succ m =>
    rw [← hz]
    have hp : (0 : Int) < (n : Int) := by omega
    obtain ⟨i0, hi, hz0, hz1, hz2⟩ := info_parts infoS10
    have hap := fun ty => Lib.run_append_nil_zeros (P := Try.prog) w 31 3 ty 9 i0 _ .i64 .i64 Try.underlying31 Try.underlying3 hi hz0 n (by omega) (by rw [hz1]; decide) (by omega) (by rw [hz2]; exact hn)
    have hge := grownCap_ge w n 0 9
    have hle := grownCap_le_maxLen w n 0 9 (by unfold maxLen; omega)
    obtain ⟨gc, hgc⟩ : ∃ g, g = grownCap w n 0 9 := ⟨_, rfl⟩
    rw [← hgc] at hge hle hap
    obtain ⟨W, hW⟩ : ∃ W, W = w.drew.alloc (.cells (Builtin.zeroCells (Value.string ⟨#[]⟩).cells n ++ Builtin.zeroCells (Value.string ⟨#[]⟩).cells (gc - n)) 9) := ⟨_, rfl⟩
    have hr : Row RStr 1 (fun _ => False) w W 9 (.slice (some ⟨w.heap.size, 0, none⟩) 0 gc) [] := by
      have hown := World.ownsRow_made (base := w.heap.size) (e := 9) (size := 1) w.drew (Builtin.zeroCells (Value.string ⟨#[]⟩).cells n ++ Builtin.zeroCells (Value.string ⟨#[]⟩).cells (gc - n)) gc (by simp) hle (by rw [Array.size_append, size_zeroCells, size_zeroCells]; simp [Value.cells]; omega)
      refine ⟨[], ⟨by rw [hW]; exact ((Below.refl _ _).drew).alloc (by simp) _, by rw [hW]; simpa using hown⟩, Chunks.nil _ _⟩
    have HF : Hid (Row RStr 1 (fun _ => False) w W 9 (.slice (some ⟨w.heap.size, 0, none⟩) 0 gc) [] ∧ Roomy (.slice (some ⟨w.heap.size, 0, none⟩) 0 gc) 0 n) := ⟨hr, .inr ⟨w.heap.size, gc, rfl, hge⟩⟩
    rw [← hW] at hap
    clear hr hgc hi hz0 hz1 hz2 hz hW
    have hn0 : ¬ ((n : Int) = 0) := by omega
    go_enter Try.func55, Try.ntmps55
    go_wp2_with (at_builtin; refine Lib.wpList_append_run _ rfl _ _ _ _ rfl _ _ rfl rfl _ _ (hap _) ?_)
    go_ret
    exact ⟨_, rfl, HF.out⟩
abbrev RSs : Rep (List ByteArray) := RSl RStr 1 16
theorem RSs.firm : Firm RSs 1 := RSl.firm RStr.firm
/-- What Concat hands back. -/
def CatOut (w : World) (L : List ByteArray) (e : Ending) (w' : World) : Prop := ∃ v, e = .returned v ∧ Row RStr 1 (fun _ => False) w w' 9 v L
theorem flat_take10 {LL : List (List ByteArray)} {k : Nat} (h : k < LL.length) : (LL.take (k + 1)).flatten = (LL.take k).flatten ++ LL.getD k default := by
  rw [List.take_succ_eq_append_getElem h, List.flatten_append, List.getD_eq_getElem?_getD, List.getElem?_eq_getElem h]
  simp
theorem flat_le10 (LL : List (List ByteArray)) (k : Nat) : (LL.take k).flatten.length ≤ LL.flatten.length := by
  have := congrArg List.length (congrArg List.flatten (List.take_append_drop k LL))
  rw [List.flatten_append, List.length_append] at this
  omega
set_option maxHeartbeats 16000000 in
theorem concat_calls (a : Option Addr) (m cap : Nat) (A : Where) (LL : List (List ByteArray)) (w : World) (hL : Hid (SlAt RSs 1 24 A w a m cap LL)) (hb : LL.flatten.length * 16 ≤ 281474976710656) :
    Calls Try.prog 34 #[.slice a m cap] w (CatOut w LL.flatten) := by
  have hml : Hid (LL.length = m) := hL.out.1
  have hlen := hL.out.len (by decide)
  have HG := grow_calls LL.flatten.length w hb
  have HU : Hid (∀ u, Below w.heap.size w u → SlAt RSs 1 24 A u a m cap LL) := fun u hb => hL.out.on RSs.firm hb
  have HT : Hid (∀ k, k < m → (LL.take (k + 1)).flatten = (LL.take k).flatten ++ LL.getD k default ∧ (LL.take (k + 1)).flatten.length ≤ LL.flatten.length) := fun k hk => ⟨flat_take10 (by rw [hml.out]; exact hk), flat_le10 LL (k + 1)⟩
  have HTm : Hid (LL.take m = LL) := List.take_of_length_le (by rw [hml.out]; omega)
  obtain ⟨T, hT⟩ : ∃ T, T = LL.flatten.length := ⟨_, rfl⟩
  rw [← hT] at hb HG HT
  clear hL
  go_enter Try.func34, Try.ntmps34
  go_wp2_with fail
  go_loopw [3, 11] (fun z i wr => ∃ k c : Nat, k ≤ m ∧ i = .int .i64 k ∧ z = .int .i64 c ∧ Hid (c = (LL.take k).flatten.length) ∧ wr = w) (fun _ i _ => m - (intOf i).toNat)
  case atStart => exact ⟨0, 0, Nat.zero_le _, rfl, rfl, (rfl : (0 : Nat) = (LL.take 0).flatten.length), rfl⟩
  case round =>
    obtain ⟨k, c, hk, rfl, rfl, hrun, hwr⟩ := hrel
    have hc := hrun.out
    subst hwr
    clear hrun
    by_cases hlt : k < m
    · have hltz : (k : Int) < (m : Int) := by omega
      obtain ⟨t1, t2⟩ := HT.out k hlt
      obtain ⟨B, off, rfl, hB, hAB, xs, hr, hv⟩ := (HU.out wr (Below.refl _ _)).get hlt
      obtain ⟨b1, b2, b3, rfl, hsl⟩ := hr
      have d0 := hv 0 _ rfl
      rw [Nat.mul_one, Nat.add_zero] at d0
      have hl2 := hsl.1
      rw [t1, List.length_append, hl2, ← hc] at t2
      have hcn : ¬ ((c : Int) + (b2 : Int) < 0) := by omega
      have hwp : wrap64 ((c : Int) + (b2 : Int)) = (c : Int) + (b2 : Int) := wrap64_10 (by omega) (by omega)
      have HN : Hid (c + b2 = (LL.take (k + 1)).flatten.length) := by rw [Hid, t1, List.length_append, hl2, ← hc]
      clear hsl hv hl2 t1 t2 hc hB hAB
      go_wp2_with fail
      go_roundw
      case rel => exact ⟨k + 1, c + b2, by omega, by go_num, by simp [hwp], HN, by simp⟩
      case measure => simp [intOf]; omega
    · have hkm : k = m := by omega
      rw [hkm, HTm.out, ← hT] at hc
      subst hc
      clear hT hkm
      have hltz : ¬ ((k : Int) < (m : Int)) := by omega
      go_wp2_with fail
      refine HG.mono ?_
      rintro e w3 ⟨v, rfl, hr3, ho3⟩
      have HI : Hid (Row RStr 1 (fun _ => False) wr w3 9 v (LL.take 0).flatten ∧ Roomy v (LL.take 0).flatten.length c) := ⟨hr3, ho3⟩
      clear hr3 ho3 HG hlt hltz
      obtain ⟨w4, rfl⟩ : ∃ u, u = wr := ⟨_, rfl⟩
      go_wp2_with fail
      go_loopw [6, 27] (fun o i wr => ∃ k : Nat, k ≤ m ∧ i = .int .i64 k ∧ Hid (Row RStr 1 (fun _ => False) w4 wr 9 o (LL.take k).flatten ∧ Roomy o (LL.take k).flatten.length c)) (fun _ i _ => m - (intOf i).toNat)
      case atStart => exact ⟨0, Nat.zero_le _, rfl, HI⟩
      case round =>
        obtain ⟨k, hk, rfl, hrun⟩ := hrel
        obtain ⟨hrw, hro⟩ := hrun.out
        clear hrun HI
        by_cases hlt : k < m
        · have hltz : (k : Int) < (m : Int) := by omega
          obtain ⟨t1, t2⟩ := HT.out k hlt
          obtain ⟨B, off, rfl, hB, hAB, xs, hr, hv⟩ := (HU.out _ hrw.below).get hlt
          obtain ⟨b1, b2, b3, rfl, hsl⟩ := hr
          have d0 := hv 0 _ rfl
          rw [Nat.mul_one, Nat.add_zero] at d0
          rw [t1, List.length_append] at t2
          have HRw : Hid (Row RStr 1 (fun _ => False) w4 wr 9 u6 (LL.take k).flatten) := hrw
          have HRo : Hid (Roomy u6 (LL.take k).flatten.length c) := hro
          have HT1 : Hid ((LL.take k).flatten ++ LL.getD k default = (LL.take (k + 1)).flatten) := t1.symm
          have HSr : Hid (Src RStr 1 (fun b => False ∧ u6.ownBlock ≠ some b) wr b1 b2 (LL.getD k default)) := (hsl.src RStr.firm).flat RStr.flat
          have HOb : Hid ((LL.take k).flatten.length + (LL.getD k default).length ≤ c) := t2
          clear hrw hro t1 t2 hsl hv hB hAB
          generalize LL.getD k default = M at HT1 HSr HOb
          generalize (LL.take k).flatten = N at HRw HRo HT1 HOb
          go_wp2_with (at_builtin; go_must (refine row_appendC RStr.firm (A := fun _ => False) (w0 := w4) rfl _ _ 31 9 rfl _ 16 infoS10 Try.underlying31 u6 N c rfl HRw.out HRo.out b1 b2 b3 M rfl HSr.out HOb.out ?_); intro v7 u7 hr7 hg7 hw7 ho7)
          have HN : Hid (Row RStr 1 (fun _ => False) w4 u7 9 v7 (LL.take (k + 1)).flatten ∧ Roomy v7 (LL.take (k + 1)).flatten.length c) := by rw [Hid, ← HT1.out]; exact ⟨hr7, ho7⟩
          clear hr7 hg7 hw7 ho7 HRw HRo HSr HOb HT1 d0
          go_roundw
          case rel => exact ⟨k + 1, by omega, by go_num, HN⟩
          case measure => simp [intOf]; omega
        · have hkm : k = m := by omega
          rw [hkm, HTm.out] at hrw
          have HF : Hid (Row RStr 1 (fun _ => False) w4 wr 9 u6 LL.flatten) := hrw
          clear hrw hro hkm
          go_wp2_with fail
          go_ret
          exact ⟨_, rfl, HF.out⟩
set_option maxHeartbeats 4000000 in
/-- eachOnce. -/
theorem each_calls (a : Option Addr) (m cap : Nat) (A : Where) (LL : List (List ByteArray)) (w : World) (hL : Hid (SlAt RSs 1 24 A w a m cap LL)) (hb : LL.flatten.length * 8 ≤ 140737488351232) :
    Calls Try.prog 15 #[.slice a m cap] w (AllOut RStr 1 (fun _ => True) 9 w (allL id LL.flatten)) := by
  have HC := concat_calls a m cap A LL w hL (by omega)
  have Hb : Hid (LL.flatten.length * 8 ≤ 140737488351232) := hb
  clear hL hb
  generalize LL.flatten = L at HC Hb
  go_enter Try.func15, Try.ntmps15
  go_wp2_with fail
  refine HC.mono ?_
  rintro e w1 ⟨v, rfl, hr⟩
  clear HC
  obtain ⟨b1, b2, b3, rfl, sl⟩ := hr.sl10 (bytes := 8) RStr.firm Hb.out
  have HB1 : Hid (Below w.heap.size w w1) := hr.below
  have HT := tabS_calls b1 b2 b3 _ L w1 sl
  have HS : Hid (∀ u, Below w1.heap.size w1 u → SlAt RStr 1 8 (fun _ => True) u b1 b2 b3 L) := fun u hb => sl.on RStr.firm hb
  clear hr sl
  go_wp2_with fail
  refine HT.mono ?_
  rintro e w2 ⟨mb, rfl, hn, _, hb2⟩
  clear HT
  have HA := allS_calls b1 b2 b3 _ L mb w2 (HS.out w2 hb2) hn
  have HB2 : Hid (Below w.heap.size w w2) := on2 HB1.out hb2
  clear hn hb2 HS HB1
  go_wp2_with fail
  refine HA.mono ?_
  rintro e w3 ⟨v, rfl, hr⟩
  have HF : Hid (Row RStr 1 (fun _ => True) w w3 9 v (allL id L)) := hr.from RStr.firm HB2.out (fun _ _ => trivial)
  clear HA hr HB2
  go_wp2_with fail
  go_ret
  exact ⟨_, rfl, HF.out⟩
end Go.Proofs.Ytgofpmcoffgffaa
namespace Go.Proofs.Ytgofpmcoffgffaa
open Go.RowKit
set_option linter.unusedSimpArgs false

theorem ins_in10 (s : ByteArray) : ∀ K : List ByteArray, Srt9 K → s ∈ K → (insB sLt sEq K s).length = K.length
  | [], _, h => by cases h
  | x :: xs, hs, h => by
    obtain ⟨h1, h2⟩ := List.pairwise_cons.1 hs
    unfold insB
    by_cases c1 : sLt x s = true
    · rw [if_pos c1]
      rcases List.mem_cons.1 h with e | e
      · subst e; exact absurd c1 (sLt_irr _)
      · simp only [List.length_cons]; rw [ins_in10 s xs h2 e]
    · rw [if_neg c1]
      rcases List.mem_cons.1 h with e | e
      · subst e; rw [if_pos (sEq_self _)]
      · exact absurd (h1 s e) c1
theorem fold_len10 : ∀ (L M : List ByteArray), (L.foldl (insB sLt sEq) M).length ≤ M.length + L.length
  | [], M => Nat.le_refl _
  | x :: xs, M => by
    have h1 := fold_len10 xs (insB sLt sEq M x)
    have h2 := insB_len sLt sEq x M
    simp only [List.foldl_cons, List.length_cons]
    omega
theorem fold_once10 : ∀ (L M : List ByteArray), Srt9 M → (L.foldl (insB sLt sEq) M).length = M.length + L.length → L.Nodup ∧ ∀ x ∈ L, x ∉ M
  | [], _, _, _ => ⟨List.nodup_nil, fun _ h => by cases h⟩
  | x :: xs, M, hM, h => by
    simp only [List.foldl_cons, List.length_cons] at h
    have h1 := fold_len10 xs (insB sLt sEq M x)
    have h2 := insB_len sLt sEq x M
    have hx : x ∉ M := fun hx => by have := ins_in10 x M hM hx; omega
    obtain ⟨h3, h4⟩ := fold_once10 xs (insB sLt sEq M x) (srt_insB x M hM) (by omega)
    have h5 : ∀ y ∈ xs, y ∉ M ∧ y ≠ x := fun y hy => ⟨fun e => h4 y hy ((mem_insB9 x y M).2 (.inl e)), fun e => h4 y hy ((mem_insB9 x y M).2 (.inr e))⟩
    refine ⟨List.nodup_cons.2 ⟨fun e => (h5 x e).2 rfl, h3⟩, fun y hy => ?_⟩
    rcases List.mem_cons.1 hy with e | e
    · subst e; exact hx
    · exact (h5 y e).1
theorem sorted_once10 {L : List ByteArray} (h : (sortB sLt sEq L).length = L.length) : L.Nodup := (fold_once10 L [] List.Pairwise.nil (by rw [List.length_nil, Nat.zero_add]; exact h)).1
/-- Where the claim stands and its volume. -/
theorem hit_iff10 {t : VC} {nm : ByteArray} {c v n m : Nat} (ho : OnceP t) (hc : fI (cNs t.2) nm = some c) (hv : fI (vNs t.1) (cVo (t.2.getD c default)) = some v) (hn : n < t.2.length) (hm : m < t.1.length) :
    ((t.2.getD n default).1 = nm ∧ (t.1.getD m default).1 = cVo (t.2.getD n default)) ↔ (n = c ∧ m = v) := by
  have gn : ∀ i, i < t.2.length → (cNs t.2).getD i default = (t.2.getD i default).1 := fun i hi => by
    rw [List.getD_eq_getElem?_getD, List.getD_eq_getElem?_getD, List.getElem?_map, List.getElem?_eq_getElem hi]; rfl
  have gm : ∀ i, i < t.1.length → (vNs t.1).getD i default = (t.1.getD i default).1 := fun i hi => by
    rw [List.getD_eq_getElem?_getD, List.getD_eq_getElem?_getD, List.getElem?_map, List.getElem?_eq_getElem hi]; rfl
  obtain ⟨c1, c2, _⟩ := fI_some hc
  obtain ⟨v1, v2, _⟩ := fI_some hv
  rw [List.length_map] at c1 v1
  rw [gn c c1] at c2
  rw [gm v v1] at v2
  constructor
  · rintro ⟨h1, h2⟩
    have e1 := fI_once ho.1 (i := n) (by rw [List.length_map]; exact hn)
    rw [gn n hn, h1, hc] at e1
    obtain rfl : c = n := by simpa using e1
    have e2 := fI_once ho.2.2.1 (i := m) (by rw [List.length_map]; exact hm)
    rw [gm m hm, h2, hv] at e2
    exact ⟨rfl, by simpa using e2.symm⟩
  · rintro ⟨rfl, rfl⟩
    exact ⟨c2, v2⟩
end Go.Proofs.Ytgofpmcoffgffaa
