/- tableOf at Claim: where the first one of each name stands. Condition: the list lies as is said of it. tableOf at Volume: where the first one of each name stands. Condition: the list lies as is said of it. find: the pointer to the first one of that name, or none. Condition: the list and its map lie as is said of them. base.SamePicks tells whether two lists of picks hold the same. Condition: the lists hold what is said of them. -/
import Derived.Test.YtmnldngojgldiaaGreatQ15
import Derived.Test.YtmnldngojgldiaaGreatQ05
namespace Go.Proofs.YtmnldngojgldiaaGreat
open Go.RowKit Go.Maps
set_option linter.unusedSimpArgs false
set_option maxRecDepth 100000

set_option maxHeartbeats 1000000 in
theorem nmClaim_calls (cs : List Value) (A : Where) (x : ClaimD) (w : World) (h : RClaim A w cs x) : Calls Tryz.prog 25 #[.agg cs.toArray] w fun e w' => e = .returned (.string x.1) ∧ Below w.heap.size w w' := by
  obtain ⟨W1, hW1⟩ : ∃ W, W = w.alloc (.cells cs.toArray 44) := ⟨_, rfl⟩
  have B1 : Below w.heap.size w W1 := by rw [hW1]; go_grown
  have c0 : W1.cell? ⟨w.heap.size, 0, none⟩ = some (.string x.1) := by rw [hW1]; exact ((BoxL.new w 44 cs).2 0 _ h.head10.1).1
  clear h
  go_enter Tryz.func25, Tryz.ntmps25
  go_upto_region 1 with fail
  rw [← hW1]
  clear hW1
  go_wp2_with fail
  go_ret
  exact ⟨rfl, B1⟩
set_option maxHeartbeats 16000000 in
theorem tabClaim_calls (a : Option Addr) (n cap : Nat) (A : Where) (L : List ClaimD) (w : World) (hL : Hid (SlAt RClaim 4 56 A w a n cap L)) :
    Calls Tryz.prog 24 #[.slice a n cap, .func (.func 25) #[] #[]] w (TabOut w (.slice a n cap) (L.map Prod.fst)) := by
  have hnl : Hid (L.length = n) := hL.out.1
  have hbn : Hid (n * 56 ≤ 140737488351232) := hL.out.2.2.2.1
  have hlen := hL.out.len (by decide)
  have HU : Hid (∀ u, Below w.heap.size w u → SlAt RClaim 4 56 A u a n cap L) := fun u hb => hL.out.on RClaim.firm hb
  clear hL
  obtain ⟨W1, hW1⟩ : ∃ W, W = w.alloc (.cells #[.slice none 0 0, .map none] 82) := ⟨_, rfl⟩
  have B1 : Below w.heap.size w W1 := by rw [hW1]; go_grown
  have hz1 : W1.heap.size = w.heap.size + 1 := by rw [hW1]; simp
  have q1 : BoxL W1 w.heap.size [.slice none 0 0, .map none] := by rw [hW1]; exact BoxL.new w 82 _
  obtain ⟨W2, hW2⟩ : ∃ W, W = W1.alloc (.map #[] 0) := ⟨_, rfl⟩
  have B2 : Below W1.heap.size W1 W2 := by rw [hW2]; go_grown
  have m2 : NmAt W2 (w.heap.size + 1) ((L.map Prod.fst).take 0) := by rw [hW2, ← hz1]; exact NmAt.made W1
  have HI : Hid (NmAt W2 (w.heap.size + 1) ((L.map Prod.fst).take 0) ∧ BoxL W2 w.heap.size [.slice none 0 0, .map none] ∧ Below w.heap.size w W2) := ⟨m2, q1.on B2, on2 B1 B2⟩
  have hmm := makeMap_hint10
  have HZ : Hid (W1.heap.size = w.heap.size + 1) := hz1
  clear B1 q1 B2 m2 hz1
  have eg := enters_of Tryz.func25 (by kernel_rfl) rfl
  go_enter Tryz.func24, Tryz.ntmps24
  go_upto_region 1 with fail
  rw [← hW1]
  clear hW1
  go_upto_region 2 with fail
  rw [← hW2]
  clear hW2
  rw [HZ.out]
  clear hmm HZ
  go_wp2_with fail
  go_loopw [15] (fun i wr => ∃ k : Nat, k ≤ n ∧ i = .int .i64 k ∧ Hid (NmAt wr (w.heap.size + 1) ((L.map Prod.fst).take k) ∧ BoxL wr w.heap.size [.slice none 0 0, .map none] ∧ Below w.heap.size w wr)) (fun i _ => n - (intOf i).toNat)
  case atStart => exact ⟨0, Nat.zero_le _, rfl, HI⟩
  case round =>
    obtain ⟨k, hk, rfl, hrun⟩ := hrel
    obtain ⟨hm, hq, hbw⟩ := hrun.out
    clear hrun HI
    by_cases hlt : k < n
    · have hltz : (k : Int) < (n : Int) := by omega
      have hkl : k < L.length := by rw [hnl.out]; exact hlt
      obtain ⟨B, off, rfl, hB, hAB, xs, hr, hv⟩ := (HU.out wr hbw).get hlt
      have hl : xs.length = 4 := RClaim.firm.len hr
      have hi : (Tryz.prog.info? 44).map (·.size) = some xs.length := by rw [hl]; exact iszClaim
      have hia : (Tryz.prog.info? 44).map (·.size) = some xs.toArray.size := by simpa using hi
      have HO : Hid (xs.toArray.all (·.oneCell') = true) := all_oneCell10 (RClaim.firm.one hr)
      have HV0 : Hid (wr.rangeAt B (off + k * 4) xs) := hv
      have HVz : Hid ((wr.alloc (.cells #[.string ⟨#[]⟩, .int .i64 0, .string ⟨#[]⟩, .string ⟨#[]⟩] 44)).rangeAt B (off + k * 4) xs) := fun j v hj => (((Below.refl _ wr).alloc (Nat.le_refl _) _).cell hB).trans (hv j v hj)
      obtain ⟨V, hV⟩ : ∃ V, V = (wr.alloc (.cells #[.string ⟨#[]⟩, .int .i64 0, .string ⟨#[]⟩, .string ⟨#[]⟩] 44)).setCells wr.heap.size 0 xs := ⟨_, rfl⟩
      have HTh : Hid ((wr.alloc (.cells #[.string ⟨#[]⟩, .int .i64 0, .string ⟨#[]⟩, .string ⟨#[]⟩] 44)).there wr.heap.size 0 xs.toArray.size) := by have e : xs.toArray.size = 4 := (by simp [hl]); rw [Hid, e]; exact (BoxL.new wr 44 [.string ⟨#[]⟩, .int .i64 0, .string ⟨#[]⟩, .string ⟨#[]⟩]).there
      have bV : Below wr.heap.size wr V := by rw [hV]; exact below_setCells ((Below.refl _ _).alloc (Nat.le_refl _) _) (Nat.le_refl _)
      have qV : BoxL V wr.heap.size xs := by rw [hV]; exact box_over8 (BoxL.new wr 44 [.string ⟨#[]⟩, .int .i64 0, .string ⟨#[]⟩, .string ⟨#[]⟩]) (by rw [hl]; rfl)
      have HWV : Hid (V = (wr.alloc (.cells #[.string ⟨#[]⟩, .int .i64 0, .string ⟨#[]⟩, .string ⟨#[]⟩] 44)).setCells wr.heap.size 0 xs.toArray.toList) := by rw [Hid, hV]
      clear hV
      have hrV := RClaim.firm.kept hr (Kept.below bV)
      have hC := nmClaim_calls xs A (L.getD k default) V hrV
      have hsz : (L.getD k default).1.size ≤ 140737488355328 := hr.head10.2
      have HT : Hid ((L.map Prod.fst).take (k + 1) = (L.map Prod.fst).take k ++ [(L.getD k default).1]) := take_map10 Prod.fst hkl
      have HL : Hid (((L.map Prod.fst).take k).length = k) := by rw [Hid, List.length_take, List.length_map]; omega
      have HN : Hid (∀ u, Below V.heap.size V u → Below w.heap.size w u ∧ NmAt u (w.heap.size + 1) ((L.map Prod.fst).take k) ∧ BoxL u w.heap.size [.slice none 0 0, .map none] ∧ u.rangeAt wr.heap.size 0 xs ∧ RClaim A u xs (L.getD k default)) := fun u hb => ⟨on2 (on2 hbw bV) hb, hm.on (on2 bV hb), hq.on (on2 bV hb), (qV.on hb).range, RClaim.firm.kept hrV (Kept.below hb)⟩
      have HX0 : Hid (V.rangeAt wr.heap.size 0 xs) := qV.range
      clear hr hv hm hq hbw qV bV hrV hB hAB
      generalize (L.getD k default) = x at hC hsz HT HN
      generalize (L.map Prod.fst).take k = N at HT HL HN
      go_wp2_with (first | (refine wpList_load_mid rfl 44 _ rfl B (off + k * 4) rfl xs _ HV0.out Tryz.underlying44 rfl hi ?_) | (refine wpList_load_mid rfl 44 _ rfl B (off + k * 4) rfl xs _ HVz.out Tryz.underlying44 rfl hi ?_) | (refine wpList_store_mid rfl 44 _ _ rfl wr.heap.size 0 xs.toArray rfl rfl HTh.out hia HO.out ?_; refine wpl_w8 HWV.out ?_) | (refine wpList_load_mid rfl 44 _ rfl wr.heap.size 0 rfl xs _ HX0.out Tryz.underlying44 rfl hi ?_) | fail)
      refine hC.mono ?_
      rintro e w6 ⟨rfl, hb6⟩
      obtain ⟨bw6, nm6, q6, r6, R6⟩ := HN.out w6 hb6
      clear hC HTh HO HV0 HVz HWV HX0 hia
      have hlk := nm6.look 80 Tryz.underlying80 hsz
      cases hf : fI N x.1 with
      | some j =>
        rw [hf] at hlk
        have HN3 : Hid (NmAt w6 (w.heap.size + 1) ((L.map Prod.fst).take (k + 1)) ∧ BoxL w6 w.heap.size [.slice none 0 0, .map none] ∧ Below w.heap.size w w6) := ⟨by rw [HT.out]; exact nm6.more hf, q6, bw6⟩
        simp only [Option.isSome_some, Option.getD_some] at hlk
        clear nm6 q6 bw6 r6 R6 HN HT HL hf hb6
        go_wp2_with fail
        go_roundw
        case rel => exact ⟨k + 1, by omega, by go_num, HN3⟩
        case measure => simp [intOf]; omega
      | none =>
        rw [hf] at hlk
        simp only [Option.isSome_none, Option.getD_none] at hlk
        have hC := nmClaim_calls xs A x w6 R6
        have HR6 : Hid (w6.rangeAt wr.heap.size 0 xs) := r6
        have HN6 : Hid (∀ u, Below w6.heap.size w6 u → Below w.heap.size w u ∧ NmAt u (w.heap.size + 1) N ∧ BoxL u w.heap.size [.slice none 0 0, .map none]) := fun u hb => ⟨on2 bw6 hb, nm6.on hb, q6.on hb⟩
        clear nm6 q6 bw6 r6 R6 HN hb6
        go_wp2_with (first | (refine wpList_load_mid rfl 44 _ rfl wr.heap.size 0 rfl xs _ HR6.out Tryz.underlying44 rfl hi ?_) | fail)
        refine hC.mono ?_
        rintro e w7 ⟨rfl, hb7⟩
        obtain ⟨bw7, nm7, q7⟩ := HN6.out w7 hb7
        obtain ⟨w8, hup, nm8, hg8⟩ := nm7.put 80 Tryz.underlying80 hsz hf (by have h1 := hbn.out; have h2 := HL.out; omega)
        have HN3 : Hid (NmAt w8 (w.heap.size + 1) ((L.map Prod.fst).take (k + 1)) ∧ BoxL w8 w.heap.size [.slice none 0 0, .map none] ∧ Below w.heap.size w w8) := ⟨by rw [HT.out]; exact nm8, q7.grown10 hg8 (by omega), below_grown10 bw7 hg8 (by omega)⟩
        rw [HL.out] at hup
        clear nm7 q7 bw7 nm8 hg8 HN6 HT HL hf hb7 hC HR6 hlk
        go_wp2_with fail
        go_roundw
        case rel => exact ⟨k + 1, by omega, by go_num, HN3⟩
        case measure => simp [intOf]; omega
    · have htk : (L.map Prod.fst).take k = L.map Prod.fst := List.take_of_length_le (by rw [List.length_map, hnl.out]; omega)
      rw [htk] at hm
      obtain ⟨V, hV⟩ : ∃ V, V = wr.setCells w.heap.size 0 [.slice a n cap, .map (some (w.heap.size + 1))] := ⟨_, rfl⟩
      have HTh : Hid (wr.there w.heap.size 0 (#[.slice a n cap, .map (some (w.heap.size + 1))] : Array Value).size) := hq.there
      have HWV : Hid (V = wr.setCells w.heap.size 0 (#[.slice a n cap, .map (some (w.heap.size + 1))] : Array Value).toList) := by rw [Hid, hV]
      have HOc : Hid ((#[.slice a n cap, .map (some (w.heap.size + 1))] : Array Value).all (·.oneCell') = true) := by rw [Hid]; simp [Value.oneCell']
      have kV : Kept (fun b => b ≠ w.heap.size) wr V := by rw [hV]; exact kept_setCells (fun h => h rfl)
      have qV : BoxL V w.heap.size [.slice a n cap, .map (some (w.heap.size + 1))] := by rw [hV]; exact box_over8 hq rfl
      have HOut : Hid (NmAt V (w.heap.size + 1) (L.map Prod.fst) ∧ w.heap.size ≤ w.heap.size + 1 ∧ Below w.heap.size w V) := ⟨hm.kept kV (by omega), by omega, by rw [hV]; exact below_setCells hbw (by omega)⟩
      have t0 := (qV.2 0 _ rfl).1
      have t1 := (qV.2 1 _ rfl).1
      have hszT : (Tryz.prog.info? 82).map (·.size) = some (#[.slice a n cap, .map (some (w.heap.size + 1))] : Array Value).size := by kernel_rfl
      clear hm hq hbw htk kV qV hV HU
      go_wp2_with (first | (refine wpList_store_mid rfl 82 _ _ rfl w.heap.size 0 #[.slice a n cap, .map (some (w.heap.size + 1))] rfl rfl HTh.out hszT HOc.out ?_; refine wpl_w8 HWV.out ?_) | fail)
      refine bodyPost_ret (v := .agg #[.slice a n cap, .map (some (w.heap.size + 1))]) (by simp [results, Tryz.results24, go_sem, t0, t1, Result.andThen]) rfl ?_
      exact ⟨_, rfl, HOut.out⟩
end Go.Proofs.YtmnldngojgldiaaGreat
namespace Go.Proofs.YtmnldngojgldiaaGreat
open Go.RowKit Go.Maps
set_option linter.unusedSimpArgs false
set_option maxRecDepth 100000

set_option maxHeartbeats 1000000 in
theorem nmVolume_calls (cs : List Value) (A : Where) (x : VolumeD) (w : World) (h : RVolume A w cs x) : Calls Tryz.prog 27 #[.agg cs.toArray] w fun e w' => e = .returned (.string x.1) ∧ Below w.heap.size w w' := by
  obtain ⟨W1, hW1⟩ : ∃ W, W = w.alloc (.cells cs.toArray 49) := ⟨_, rfl⟩
  have B1 : Below w.heap.size w W1 := by rw [hW1]; go_grown
  have c0 : W1.cell? ⟨w.heap.size, 0, none⟩ = some (.string x.1) := by rw [hW1]; exact ((BoxL.new w 49 cs).2 0 _ h.head10.1).1
  clear h
  go_enter Tryz.func27, Tryz.ntmps27
  go_upto_region 1 with fail
  rw [← hW1]
  clear hW1
  go_wp2_with fail
  go_ret
  exact ⟨rfl, B1⟩
set_option maxHeartbeats 16000000 in
theorem tabVolume_calls (a : Option Addr) (n cap : Nat) (A : Where) (L : List VolumeD) (w : World) (hL : Hid (SlAt RVolume 5 72 A w a n cap L)) :
    Calls Tryz.prog 26 #[.slice a n cap, .func (.func 27) #[] #[]] w (TabOut w (.slice a n cap) (L.map Prod.fst)) := by
  have hnl : Hid (L.length = n) := hL.out.1
  have hbn : Hid (n * 72 ≤ 140737488351232) := hL.out.2.2.2.1
  have hlen := hL.out.len (by decide)
  have HU : Hid (∀ u, Below w.heap.size w u → SlAt RVolume 5 72 A u a n cap L) := fun u hb => hL.out.on RVolume.firm hb
  clear hL
  obtain ⟨W1, hW1⟩ : ∃ W, W = w.alloc (.cells #[.slice none 0 0, .map none] 86) := ⟨_, rfl⟩
  have B1 : Below w.heap.size w W1 := by rw [hW1]; go_grown
  have hz1 : W1.heap.size = w.heap.size + 1 := by rw [hW1]; simp
  have q1 : BoxL W1 w.heap.size [.slice none 0 0, .map none] := by rw [hW1]; exact BoxL.new w 86 _
  obtain ⟨W2, hW2⟩ : ∃ W, W = W1.alloc (.map #[] 0) := ⟨_, rfl⟩
  have B2 : Below W1.heap.size W1 W2 := by rw [hW2]; go_grown
  have m2 : NmAt W2 (w.heap.size + 1) ((L.map Prod.fst).take 0) := by rw [hW2, ← hz1]; exact NmAt.made W1
  have HI : Hid (NmAt W2 (w.heap.size + 1) ((L.map Prod.fst).take 0) ∧ BoxL W2 w.heap.size [.slice none 0 0, .map none] ∧ Below w.heap.size w W2) := ⟨m2, q1.on B2, on2 B1 B2⟩
  have hmm := makeMap_hint10
  have HZ : Hid (W1.heap.size = w.heap.size + 1) := hz1
  clear B1 q1 B2 m2 hz1
  have eg := enters_of Tryz.func27 (by kernel_rfl) rfl
  go_enter Tryz.func26, Tryz.ntmps26
  go_upto_region 1 with fail
  rw [← hW1]
  clear hW1
  go_upto_region 2 with fail
  rw [← hW2]
  clear hW2
  rw [HZ.out]
  clear hmm HZ
  go_wp2_with fail
  go_loopw [15] (fun i wr => ∃ k : Nat, k ≤ n ∧ i = .int .i64 k ∧ Hid (NmAt wr (w.heap.size + 1) ((L.map Prod.fst).take k) ∧ BoxL wr w.heap.size [.slice none 0 0, .map none] ∧ Below w.heap.size w wr)) (fun i _ => n - (intOf i).toNat)
  case atStart => exact ⟨0, Nat.zero_le _, rfl, HI⟩
  case round =>
    obtain ⟨k, hk, rfl, hrun⟩ := hrel
    obtain ⟨hm, hq, hbw⟩ := hrun.out
    clear hrun HI
    by_cases hlt : k < n
    · have hltz : (k : Int) < (n : Int) := by omega
      have hkl : k < L.length := by rw [hnl.out]; exact hlt
      obtain ⟨B, off, rfl, hB, hAB, xs, hr, hv⟩ := (HU.out wr hbw).get hlt
      have hl : xs.length = 5 := RVolume.firm.len hr
      have hi : (Tryz.prog.info? 49).map (·.size) = some xs.length := by rw [hl]; exact iszVolume
      have hia : (Tryz.prog.info? 49).map (·.size) = some xs.toArray.size := by simpa using hi
      have HO : Hid (xs.toArray.all (·.oneCell') = true) := all_oneCell10 (RVolume.firm.one hr)
      have HV0 : Hid (wr.rangeAt B (off + k * 5) xs) := hv
      have HVz : Hid ((wr.alloc (.cells #[.string ⟨#[]⟩, .int .i64 0, .string ⟨#[]⟩, .slice none 0 0, .string ⟨#[]⟩] 49)).rangeAt B (off + k * 5) xs) := fun j v hj => (((Below.refl _ wr).alloc (Nat.le_refl _) _).cell hB).trans (hv j v hj)
      obtain ⟨V, hV⟩ : ∃ V, V = (wr.alloc (.cells #[.string ⟨#[]⟩, .int .i64 0, .string ⟨#[]⟩, .slice none 0 0, .string ⟨#[]⟩] 49)).setCells wr.heap.size 0 xs := ⟨_, rfl⟩
      have HTh : Hid ((wr.alloc (.cells #[.string ⟨#[]⟩, .int .i64 0, .string ⟨#[]⟩, .slice none 0 0, .string ⟨#[]⟩] 49)).there wr.heap.size 0 xs.toArray.size) := by have e : xs.toArray.size = 5 := (by simp [hl]); rw [Hid, e]; exact (BoxL.new wr 49 [.string ⟨#[]⟩, .int .i64 0, .string ⟨#[]⟩, .slice none 0 0, .string ⟨#[]⟩]).there
      have bV : Below wr.heap.size wr V := by rw [hV]; exact below_setCells ((Below.refl _ _).alloc (Nat.le_refl _) _) (Nat.le_refl _)
      have qV : BoxL V wr.heap.size xs := by rw [hV]; exact box_over8 (BoxL.new wr 49 [.string ⟨#[]⟩, .int .i64 0, .string ⟨#[]⟩, .slice none 0 0, .string ⟨#[]⟩]) (by rw [hl]; rfl)
      have HWV : Hid (V = (wr.alloc (.cells #[.string ⟨#[]⟩, .int .i64 0, .string ⟨#[]⟩, .slice none 0 0, .string ⟨#[]⟩] 49)).setCells wr.heap.size 0 xs.toArray.toList) := by rw [Hid, hV]
      clear hV
      have hrV := RVolume.firm.kept hr (Kept.below bV)
      have hC := nmVolume_calls xs A (L.getD k default) V hrV
      have hsz : (L.getD k default).1.size ≤ 140737488355328 := hr.head10.2
      have HT : Hid ((L.map Prod.fst).take (k + 1) = (L.map Prod.fst).take k ++ [(L.getD k default).1]) := take_map10 Prod.fst hkl
      have HL : Hid (((L.map Prod.fst).take k).length = k) := by rw [Hid, List.length_take, List.length_map]; omega
      have HN : Hid (∀ u, Below V.heap.size V u → Below w.heap.size w u ∧ NmAt u (w.heap.size + 1) ((L.map Prod.fst).take k) ∧ BoxL u w.heap.size [.slice none 0 0, .map none] ∧ u.rangeAt wr.heap.size 0 xs ∧ RVolume A u xs (L.getD k default)) := fun u hb => ⟨on2 (on2 hbw bV) hb, hm.on (on2 bV hb), hq.on (on2 bV hb), (qV.on hb).range, RVolume.firm.kept hrV (Kept.below hb)⟩
      have HX0 : Hid (V.rangeAt wr.heap.size 0 xs) := qV.range
      clear hr hv hm hq hbw qV bV hrV hB hAB
      generalize (L.getD k default) = x at hC hsz HT HN
      generalize (L.map Prod.fst).take k = N at HT HL HN
      go_wp2_with (first | (refine wpList_load_mid rfl 49 _ rfl B (off + k * 5) rfl xs _ HV0.out Tryz.underlying49 rfl hi ?_) | (refine wpList_load_mid rfl 49 _ rfl B (off + k * 5) rfl xs _ HVz.out Tryz.underlying49 rfl hi ?_) | (refine wpList_store_mid rfl 49 _ _ rfl wr.heap.size 0 xs.toArray rfl rfl HTh.out hia HO.out ?_; refine wpl_w8 HWV.out ?_) | (refine wpList_load_mid rfl 49 _ rfl wr.heap.size 0 rfl xs _ HX0.out Tryz.underlying49 rfl hi ?_) | fail)
      refine hC.mono ?_
      rintro e w6 ⟨rfl, hb6⟩
      obtain ⟨bw6, nm6, q6, r6, R6⟩ := HN.out w6 hb6
      clear hC HTh HO HV0 HVz HWV HX0 hia
      have hlk := nm6.look 80 Tryz.underlying80 hsz
      cases hf : fI N x.1 with
      | some j =>
        rw [hf] at hlk
        have HN3 : Hid (NmAt w6 (w.heap.size + 1) ((L.map Prod.fst).take (k + 1)) ∧ BoxL w6 w.heap.size [.slice none 0 0, .map none] ∧ Below w.heap.size w w6) := ⟨by rw [HT.out]; exact nm6.more hf, q6, bw6⟩
        simp only [Option.isSome_some, Option.getD_some] at hlk
        clear nm6 q6 bw6 r6 R6 HN HT HL hf hb6
        go_wp2_with fail
        go_roundw
        case rel => exact ⟨k + 1, by omega, by go_num, HN3⟩
        case measure => simp [intOf]; omega
      | none =>
        rw [hf] at hlk
        simp only [Option.isSome_none, Option.getD_none] at hlk
        have hC := nmVolume_calls xs A x w6 R6
        have HR6 : Hid (w6.rangeAt wr.heap.size 0 xs) := r6
        have HN6 : Hid (∀ u, Below w6.heap.size w6 u → Below w.heap.size w u ∧ NmAt u (w.heap.size + 1) N ∧ BoxL u w.heap.size [.slice none 0 0, .map none]) := fun u hb => ⟨on2 bw6 hb, nm6.on hb, q6.on hb⟩
        clear nm6 q6 bw6 r6 R6 HN hb6
        go_wp2_with (first | (refine wpList_load_mid rfl 49 _ rfl wr.heap.size 0 rfl xs _ HR6.out Tryz.underlying49 rfl hi ?_) | fail)
        refine hC.mono ?_
        rintro e w7 ⟨rfl, hb7⟩
        obtain ⟨bw7, nm7, q7⟩ := HN6.out w7 hb7
        obtain ⟨w8, hup, nm8, hg8⟩ := nm7.put 80 Tryz.underlying80 hsz hf (by have h1 := hbn.out; have h2 := HL.out; omega)
        have HN3 : Hid (NmAt w8 (w.heap.size + 1) ((L.map Prod.fst).take (k + 1)) ∧ BoxL w8 w.heap.size [.slice none 0 0, .map none] ∧ Below w.heap.size w w8) := ⟨by rw [HT.out]; exact nm8, q7.grown10 hg8 (by omega), below_grown10 bw7 hg8 (by omega)⟩
        rw [HL.out] at hup
        clear nm7 q7 bw7 nm8 hg8 HN6 HT HL hf hb7 hC HR6 hlk
        go_wp2_with fail
        go_roundw
        case rel => exact ⟨k + 1, by omega, by go_num, HN3⟩
        case measure => simp [intOf]; omega
    · have htk : (L.map Prod.fst).take k = L.map Prod.fst := List.take_of_length_le (by rw [List.length_map, hnl.out]; omega)
      rw [htk] at hm
      obtain ⟨V, hV⟩ : ∃ V, V = wr.setCells w.heap.size 0 [.slice a n cap, .map (some (w.heap.size + 1))] := ⟨_, rfl⟩
      have HTh : Hid (wr.there w.heap.size 0 (#[.slice a n cap, .map (some (w.heap.size + 1))] : Array Value).size) := hq.there
      have HWV : Hid (V = wr.setCells w.heap.size 0 (#[.slice a n cap, .map (some (w.heap.size + 1))] : Array Value).toList) := by rw [Hid, hV]
      have HOc : Hid ((#[.slice a n cap, .map (some (w.heap.size + 1))] : Array Value).all (·.oneCell') = true) := by rw [Hid]; simp [Value.oneCell']
      have kV : Kept (fun b => b ≠ w.heap.size) wr V := by rw [hV]; exact kept_setCells (fun h => h rfl)
      have qV : BoxL V w.heap.size [.slice a n cap, .map (some (w.heap.size + 1))] := by rw [hV]; exact box_over8 hq rfl
      have HOut : Hid (NmAt V (w.heap.size + 1) (L.map Prod.fst) ∧ w.heap.size ≤ w.heap.size + 1 ∧ Below w.heap.size w V) := ⟨hm.kept kV (by omega), by omega, by rw [hV]; exact below_setCells hbw (by omega)⟩
      have t0 := (qV.2 0 _ rfl).1
      have t1 := (qV.2 1 _ rfl).1
      have hszT : (Tryz.prog.info? 86).map (·.size) = some (#[.slice a n cap, .map (some (w.heap.size + 1))] : Array Value).size := by kernel_rfl
      clear hm hq hbw htk kV qV hV HU
      go_wp2_with (first | (refine wpList_store_mid rfl 86 _ _ rfl w.heap.size 0 #[.slice a n cap, .map (some (w.heap.size + 1))] rfl rfl HTh.out hszT HOc.out ?_; refine wpl_w8 HWV.out ?_) | fail)
      refine bodyPost_ret (v := .agg #[.slice a n cap, .map (some (w.heap.size + 1))]) (by simp [results, Tryz.results26, go_sem, t0, t1, Result.andThen]) rfl ?_
      exact ⟨_, rfl, HOut.out⟩
end Go.Proofs.YtmnldngojgldiaaGreat
namespace Go.Proofs.YtmnldngojgldiaaGreat
open Go.RowKit Go.Maps
set_option linter.unusedSimpArgs false
set_option maxRecDepth 100000

/-- Where the one at that place lies. -/
def pAt (k : Nat) : Option Addr → Option Nat → Option Addr
  | some ⟨B, off, p⟩, some i => some ⟨B, off + i * k, p⟩
  | _, _ => none
set_option maxHeartbeats 4000000 in
theorem fndClaim_calls (a : Option Addr) (n cap : Nat) (A : Where) (L : List ClaimD) (mb : Nat) (s : ByteArray) (w : World) (hL : Hid (SlAt RClaim 4 56 A w a n cap L)) (hm : Hid (NmAt w mb (L.map Prod.fst))) (hs : s.size ≤ 140737488355328) :
    Calls Tryz.prog 32 #[.agg #[.slice a n cap, .map (some mb)], .string s] w fun e w' => e = .returned (.pointer (pAt 4 a (fI (L.map Prod.fst) s))) ∧ Below w.heap.size w w' := by
  obtain ⟨W1, hW1⟩ : ∃ W, W = w.alloc (.cells #[.slice a n cap, .map (some mb)] 82) := ⟨_, rfl⟩
  have B1 : Below w.heap.size w W1 := by rw [hW1]; go_grown
  have q1 : BoxL W1 w.heap.size [.slice a n cap, .map (some mb)] := by rw [hW1]; exact BoxL.new w 82 _
  have c0 := (q1.2 0 _ rfl).1
  have c1 := (q1.2 1 _ rfl).1
  have hlk := (hm.out.on B1).look 80 Tryz.underlying80 hs
  have hnl : Hid (L.length = n) := hL.out.1
  have hlen := hL.out.len (by decide)
  have HB : Hid (Below w.heap.size w W1) := B1
  cases hf : fI (L.map Prod.fst) s with
  | none =>
    rw [hf] at hlk
    simp only [Option.isSome_none, Option.getD_none] at hlk
    clear hL hm q1 B1
    go_enter Tryz.func32, Tryz.ntmps32
    go_upto_region 1 with fail
    rw [← hW1]
    clear hW1
    go_wp2_with fail
    go_ret
    exact ⟨by cases a <;> rfl, HB.out⟩
  | some i =>
    rw [hf] at hlk
    simp only [Option.isSome_some, Option.getD_some] at hlk
    have hi := (fI_some hf).1
    rw [List.length_map, hnl.out] at hi
    have hiz : (i : Int) < (n : Int) := by omega
    obtain ⟨B, off, rfl, _⟩ := hL.out.get hi
    clear hL hm q1 B1
    go_enter Tryz.func32, Tryz.ntmps32
    go_upto_region 1 with fail
    rw [← hW1]
    clear hW1
    go_wp2_with fail
    go_ret
    exact ⟨rfl, HB.out⟩
set_option maxHeartbeats 4000000 in
theorem fndVolume_calls (a : Option Addr) (n cap : Nat) (A : Where) (L : List VolumeD) (mb : Nat) (s : ByteArray) (w : World) (hL : Hid (SlAt RVolume 5 72 A w a n cap L)) (hm : Hid (NmAt w mb (L.map Prod.fst))) (hs : s.size ≤ 140737488355328) :
    Calls Tryz.prog 29 #[.agg #[.slice a n cap, .map (some mb)], .string s] w fun e w' => e = .returned (.pointer (pAt 5 a (fI (L.map Prod.fst) s))) ∧ Below w.heap.size w w' := by
  obtain ⟨W1, hW1⟩ : ∃ W, W = w.alloc (.cells #[.slice a n cap, .map (some mb)] 86) := ⟨_, rfl⟩
  have B1 : Below w.heap.size w W1 := by rw [hW1]; go_grown
  have q1 : BoxL W1 w.heap.size [.slice a n cap, .map (some mb)] := by rw [hW1]; exact BoxL.new w 86 _
  have c0 := (q1.2 0 _ rfl).1
  have c1 := (q1.2 1 _ rfl).1
  have hlk := (hm.out.on B1).look 80 Tryz.underlying80 hs
  have hnl : Hid (L.length = n) := hL.out.1
  have hlen := hL.out.len (by decide)
  have HB : Hid (Below w.heap.size w W1) := B1
  cases hf : fI (L.map Prod.fst) s with
  | none =>
    rw [hf] at hlk
    simp only [Option.isSome_none, Option.getD_none] at hlk
    clear hL hm q1 B1
    go_enter Tryz.func29, Tryz.ntmps29
    go_upto_region 1 with fail
    rw [← hW1]
    clear hW1
    go_wp2_with fail
    go_ret
    exact ⟨by cases a <;> rfl, HB.out⟩
  | some i =>
    rw [hf] at hlk
    simp only [Option.isSome_some, Option.getD_some] at hlk
    have hi := (fI_some hf).1
    rw [List.length_map, hnl.out] at hi
    have hiz : (i : Int) < (n : Int) := by omega
    obtain ⟨B, off, rfl, _⟩ := hL.out.get hi
    clear hL hm q1 B1
    go_enter Tryz.func29, Tryz.ntmps29
    go_upto_region 1 with fail
    rw [← hW1]
    clear hW1
    go_wp2_with fail
    go_ret
    exact ⟨rfl, HB.out⟩
set_option maxHeartbeats 4000000 in
theorem fndClass_calls (a : Option Addr) (n cap : Nat) (A : Where) (L : List ClassD) (mb : Nat) (s : ByteArray) (w : World) (hL : Hid (SlAt RClass 2 24 A w a n cap L)) (hm : Hid (NmAt w mb (L.map Prod.fst))) (hs : s.size ≤ 140737488355328) :
    Calls Tryz.prog 69 #[.agg #[.slice a n cap, .map (some mb)], .string s] w fun e w' => e = .returned (.pointer (pAt 2 a (fI (L.map Prod.fst) s))) ∧ Below w.heap.size w w' := by
  obtain ⟨W1, hW1⟩ : ∃ W, W = w.alloc (.cells #[.slice a n cap, .map (some mb)] 98) := ⟨_, rfl⟩
  have B1 : Below w.heap.size w W1 := by rw [hW1]; go_grown
  have q1 : BoxL W1 w.heap.size [.slice a n cap, .map (some mb)] := by rw [hW1]; exact BoxL.new w 98 _
  have c0 := (q1.2 0 _ rfl).1
  have c1 := (q1.2 1 _ rfl).1
  have hlk := (hm.out.on B1).look 80 Tryz.underlying80 hs
  have hnl : Hid (L.length = n) := hL.out.1
  have hlen := hL.out.len (by decide)
  have HB : Hid (Below w.heap.size w W1) := B1
  cases hf : fI (L.map Prod.fst) s with
  | none =>
    rw [hf] at hlk
    simp only [Option.isSome_none, Option.getD_none] at hlk
    clear hL hm q1 B1
    go_enter Tryz.func69, Tryz.ntmps69
    go_upto_region 1 with fail
    rw [← hW1]
    clear hW1
    go_wp2_with fail
    go_ret
    exact ⟨by cases a <;> rfl, HB.out⟩
  | some i =>
    rw [hf] at hlk
    simp only [Option.isSome_some, Option.getD_some] at hlk
    have hi := (fI_some hf).1
    rw [List.length_map, hnl.out] at hi
    have hiz : (i : Int) < (n : Int) := by omega
    obtain ⟨B, off, rfl, _⟩ := hL.out.get hi
    clear hL hm q1 B1
    go_enter Tryz.func69, Tryz.ntmps69
    go_upto_region 1 with fail
    rw [← hW1]
    clear hW1
    go_wp2_with fail
    go_ret
    exact ⟨rfl, HB.out⟩
end Go.Proofs.YtmnldngojgldiaaGreat
namespace Go.Proofs.YtmnldngojgldiaaGreat
open Go.RowKit
set_option linter.unusedSimpArgs false

theorem guardPk : Tryz.prog.eqGuardType Tryz.prog.depth 39 = false := by kernel_rfl
theorem neqPk (x y : Lab) (w : World) : Sem.run Tryz.prog (binOp .neq 39 (.agg #[.string x.1, .string x.2]) (.agg #[.string y.1, .string y.2])) w = .ok (.bool (!(sEq x.1 y.1 && sEq x.2 y.2))) w := by
  have u9 := Tryz.underlying9
  have a9 := Tryz.isAgg9
  have z9 := Tryz.sizeOf9
  have hS : Tryz.prog.underlying 39 = some (.struct (Tryz.prog.fieldsOf 39)) := by kernel_rfl
  have hp : Tryz.prog.stoodInHeld 39 = false := by kernel_rfl
  rw [run_neq_struct, show (10000 : Nat) = 9999 + 1 from rfl, run_equalIn_agg w 9999 39 _ _ hS hp]
  simp only [Program.fieldsOf, Tryz.underlying39]
  go_simp
  simp only [sEq]
  by_cases h1 : x.1.toList = y.1.toList <;> by_cases h2 : x.2.toList = y.2.toList <;> simp [h1, h2]
set_option maxHeartbeats 4000000 in
theorem SamePicks_calls (a : Option Addr) (n cap : Nat) (A : Where) (L : List (Lab)) (b : Option Addr) (m capb : Nat) (A' : Where) (M : List (Lab)) (w : World) (hA : Hid (SlAt RLabel 2 32 A w a n cap L)) (hB : Hid (SlAt RLabel 2 32 A' w b m capb M)) : Calls Tryz.prog 13 #[.slice a n cap, .slice b m capb] w fun e w' => e = .returned (.bool (decide (L = M))) ∧ ∃ q, w' = w.drewN q := by
  have hn : Hid (L.length = n) := hA.out.1
  have hm : Hid (M.length = m) := hB.out.1
  have hlen := hA.out.len (by decide)
  by_cases hnm : n = m
  case neg =>
    have HF : Hid (decide (L = M) = false) := same_len (by rw [hn.out, hm.out]; exact hnm)
    have hne : ((n : Int) != (m : Int)) = true := by rw [bne_iff_ne]; omega
    go_enter Tryz.func13, Tryz.ntmps13
    go_wp2
    go_ret
    exact ⟨retB HF.out.symm, 0, rfl⟩
  subst hnm
  have hne : ((n : Int) != (n : Int)) = false := by simp
  go_enter Tryz.func13, Tryz.ntmps13
  go_wp2
  go_loopw [5] (fun i wr => ∃ k : Nat, k ≤ n ∧ i = .int .i64 k ∧ Hid (∃ q, wr = w.drewN q) ∧ Hid (∀ j, j < k → L.getD j default = M.getD j default)) (fun i _ => n - (intOf i).toNat)
  case atStart => exact ⟨0, Nat.zero_le _, rfl, ⟨0, rfl⟩, fun j hj => absurd hj (Nat.not_lt_zero _)⟩
  case round =>
    obtain ⟨k, hk, rfl, hwr, hall⟩ := hrel
    have hbel : Below w.heap.size w wr := by obtain ⟨q, rfl⟩ := hwr.out; exact below_drewN (Below.refl _ _) _
    have hback : Hid (∀ q, ∃ q', wr.drewN q = w.drewN q') := by obtain ⟨q0, rfl⟩ := hwr.out; exact fun q => ⟨_, World.drewN_drewN _ _ _⟩
    by_cases hlt : k < n
    · have hltz : (k : Int) < (n : Int) := by omega
      obtain ⟨B, off, rfl, hBl, _, cs, hra, hva⟩ := (hA.out.on RLabel.firm hbel).get hlt
      obtain ⟨B', off', rfl, hBl', _, cs', hrb, hvb⟩ := (hB.out.on RLabel.firm hbel).get hlt
      obtain ⟨rfl, _, _⟩ := hra.out
      obtain ⟨rfl, _, _⟩ := hrb.out
      have d0 := hva 0 _ rfl
      have g0 := hvb 0 _ rfl
      have d1 := hva 1 _ rfl
      have g1 := hvb 1 _ rfl
      rw [Nat.add_zero] at d0 g0
      have HG : Hid (decide (L.getD k default = M.getD k default) = true → ∀ j, j < k + 1 → L.getD j default = M.getD j default) := fun h j hj => by
        rcases Nat.lt_succ_iff_lt_or_eq.1 hj with h' | rfl
        · exact hall.out j h'
        · exact of_decide_eq_true h
      have HF : Hid (decide (L.getD k default = M.getD k default) = false → decide (L = M) = false) := fun h => same_no (of_decide_eq_false h)
      clear hall hva hvb
      have HE : ∀ w, Sem.run Tryz.prog (binOp .neq 39 (.agg #[.string (L.getD k default).1, .string (L.getD k default).2]) (.agg #[.string (M.getD k default).1, .string (M.getD k default).2])) w = .ok (.bool (!decide (L.getD k default = M.getD k default))) w := fun w => by rw [neqPk, lab_eq]
      have hgd := guardPk
      generalize L.getD k default = x at d0 d1 HE HG HF
      generalize M.getD k default = y at g0 g1 HE HG HF
      cases hd : decide (x = y)
      · have HF2 : Hid (decide (L = M) = false) := HF.out hd
        rw [hd] at HE
        clear HG HF hd
        go_wp2_with fail
        go_quiet (fail)
        go_wp2_with fail
        go_ret
        exact ⟨retB HF2.out.symm, hback.out _⟩
      · have HG2 : Hid (∀ j, j < k + 1 → L.getD j default = M.getD j default) := HG.out hd
        rw [hd] at HE
        clear HG HF hd
        go_wp2_with fail
        go_quiet (fail)
        go_wp2_with fail
        go_roundw
        case rel => exact ⟨k + 1, by omega, by go_num, hback.out _, HG2⟩
        case measure => simp [intOf]; omega
    · have HT : Hid (decide (L = M) = true) := same_yes (by rw [hn.out, hm.out]) (fun j hj => hall.out j (by rw [hn.out] at hj; omega))
      clear hall
      go_wp2
      go_ret
      exact ⟨retB HT.out.symm, hwr.out⟩
end Go.Proofs.YtmnldngojgldiaaGreat
