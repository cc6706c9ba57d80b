/- tableOf at Volume: where the first one of each name stands. Condition: the list lies as is said of it. tableOf at Class: where the first one of each name stands. Condition: the list lies as is said of it. slices.Sorted(maps.Values(m)) at a map that tells where each name's first one stands: the places of the first ones, rising. Condition: the map lies as is said of it. -/
import Derived.Test.YtgofpmcoffgffaaQ13
import Derived.Test.YtgofpmcoffgffaaQ02
import Derived.Test.YtgofpmcoffgffaaShelf
namespace Go.Proofs.Ytgofpmcoffgffaa
open Go.RowKit Go.Maps
set_option linter.unusedSimpArgs false
set_option maxRecDepth 100000

set_option maxHeartbeats 1000000 in
theorem nmVolume_calls (cs : List Value) (A : Where) (x : VolumeD) (w : World) (h : RVolume A w cs x) : Calls Try.prog 28 #[.agg cs.toArray] w fun e w' => e = .returned (.string x.1) ∧ Below w.heap.size w w' := by
  obtain ⟨W1, hW1⟩ : ∃ W, W = w.alloc (.cells cs.toArray 59) := ⟨_, rfl⟩
  have B1 : Below w.heap.size w W1 := by rw [hW1]; go_grown
  have c0 : W1.cell? ⟨w.heap.size, 0, none⟩ = some (.string x.1) := by rw [hW1]; exact ((BoxL.new w 59 cs).2 0 _ h.head10.1).1
  clear h
  go_enter Try.func28, Try.ntmps28
  go_upto_region 1 with fail
  rw [← hW1]
  clear hW1
  go_wp2_with fail
  go_ret
  exact ⟨rfl, B1⟩
set_option maxHeartbeats 16000000 in
theorem tabVolume_calls (a : Option Addr) (n cap : Nat) (A : Where) (L : List VolumeD) (w : World) (hL : Hid (SlAt RVolume 5 72 A w a n cap L)) :
    Calls Try.prog 27 #[.slice a n cap, .func (.func 28) #[] #[]] w (TabOut w (.slice a n cap) (L.map Prod.fst)) := by
  have hnl : Hid (L.length = n) := hL.out.1
  have hbn : Hid (n * 72 ≤ 140737488351232) := hL.out.2.2.2.1
  have hlen := hL.out.len (by decide)
  have HU : Hid (∀ u, Below w.heap.size w u → SlAt RVolume 5 72 A u a n cap L) := fun u hb => hL.out.on RVolume.firm hb
  clear hL
  obtain ⟨W1, hW1⟩ : ∃ W, W = w.alloc (.cells #[.slice none 0 0, .map none] 74) := ⟨_, rfl⟩
  have B1 : Below w.heap.size w W1 := by rw [hW1]; go_grown
  have hz1 : W1.heap.size = w.heap.size + 1 := by rw [hW1]; simp
  have q1 : BoxL W1 w.heap.size [.slice none 0 0, .map none] := by rw [hW1]; exact BoxL.new w 74 _
  obtain ⟨W2, hW2⟩ : ∃ W, W = W1.alloc (.map #[] 0) := ⟨_, rfl⟩
  have B2 : Below W1.heap.size W1 W2 := by rw [hW2]; go_grown
  have m2 : NmAt W2 (w.heap.size + 1) ((L.map Prod.fst).take 0) := by rw [hW2, ← hz1]; exact NmAt.made W1
  have HI : Hid (NmAt W2 (w.heap.size + 1) ((L.map Prod.fst).take 0) ∧ BoxL W2 w.heap.size [.slice none 0 0, .map none] ∧ Below w.heap.size w W2) := ⟨m2, q1.on B2, on2 B1 B2⟩
  have hmm := makeMap_hint10
  have HZ : Hid (W1.heap.size = w.heap.size + 1) := hz1
  clear B1 q1 B2 m2 hz1
  have eg := enters_of Try.func28 (by kernel_rfl) rfl
  go_enter Try.func27, Try.ntmps27
  go_upto_region 1 with fail
  rw [← hW1]
  clear hW1
  go_upto_region 2 with fail
  rw [← hW2]
  clear hW2
  rw [HZ.out]
  clear hmm HZ
  go_wp2_with fail
  go_loopw [15] (fun i wr => ∃ k : Nat, k ≤ n ∧ i = .int .i64 k ∧ Hid (NmAt wr (w.heap.size + 1) ((L.map Prod.fst).take k) ∧ BoxL wr w.heap.size [.slice none 0 0, .map none] ∧ Below w.heap.size w wr)) (fun i _ => n - (intOf i).toNat)
  case atStart => exact ⟨0, Nat.zero_le _, rfl, HI⟩
  case round =>
    obtain ⟨k, hk, rfl, hrun⟩ := hrel
    obtain ⟨hm, hq, hbw⟩ := hrun.out
    clear hrun HI
    by_cases hlt : k < n
    · have hltz : (k : Int) < (n : Int) := by omega
      have hkl : k < L.length := by rw [hnl.out]; exact hlt
      obtain ⟨B, off, rfl, hB, hAB, xs, hr, hv⟩ := (HU.out wr hbw).get hlt
      have hl : xs.length = 5 := RVolume.firm.len hr
      have hi : (Try.prog.info? 59).map (·.size) = some xs.length := by rw [hl]; exact iszVolume
      have hia : (Try.prog.info? 59).map (·.size) = some xs.toArray.size := by simpa using hi
      have HO : Hid (xs.toArray.all (·.oneCell') = true) := all_oneCell10 (RVolume.firm.one hr)
      have HV0 : Hid (wr.rangeAt B (off + k * 5) xs) := hv
      have HVz : Hid ((wr.alloc (.cells #[.string ⟨#[]⟩, .int .i64 0, .string ⟨#[]⟩, .slice none 0 0, .string ⟨#[]⟩] 59)).rangeAt B (off + k * 5) xs) := fun j v hj => (((Below.refl _ wr).alloc (Nat.le_refl _) _).cell hB).trans (hv j v hj)
      obtain ⟨V, hV⟩ : ∃ V, V = (wr.alloc (.cells #[.string ⟨#[]⟩, .int .i64 0, .string ⟨#[]⟩, .slice none 0 0, .string ⟨#[]⟩] 59)).setCells wr.heap.size 0 xs := ⟨_, rfl⟩
      have HTh : Hid ((wr.alloc (.cells #[.string ⟨#[]⟩, .int .i64 0, .string ⟨#[]⟩, .slice none 0 0, .string ⟨#[]⟩] 59)).there wr.heap.size 0 xs.toArray.size) := by have e : xs.toArray.size = 5 := (by simp [hl]); rw [Hid, e]; exact (BoxL.new wr 59 [.string ⟨#[]⟩, .int .i64 0, .string ⟨#[]⟩, .slice none 0 0, .string ⟨#[]⟩]).there
      have bV : Below wr.heap.size wr V := by rw [hV]; exact below_setCells ((Below.refl _ _).alloc (Nat.le_refl _) _) (Nat.le_refl _)
      have qV : BoxL V wr.heap.size xs := by rw [hV]; exact box_over8 (BoxL.new wr 59 [.string ⟨#[]⟩, .int .i64 0, .string ⟨#[]⟩, .slice none 0 0, .string ⟨#[]⟩]) (by rw [hl]; rfl)
      have HWV : Hid (V = (wr.alloc (.cells #[.string ⟨#[]⟩, .int .i64 0, .string ⟨#[]⟩, .slice none 0 0, .string ⟨#[]⟩] 59)).setCells wr.heap.size 0 xs.toArray.toList) := by rw [Hid, hV]
      clear hV
      have hrV := RVolume.firm.kept hr (Kept.below bV)
      have hC := nmVolume_calls xs A (L.getD k default) V hrV
      have hsz : (L.getD k default).1.size ≤ 140737488355328 := hr.head10.2
      have HT : Hid ((L.map Prod.fst).take (k + 1) = (L.map Prod.fst).take k ++ [(L.getD k default).1]) := take_map10 Prod.fst hkl
      have HL : Hid (((L.map Prod.fst).take k).length = k) := by rw [Hid, List.length_take, List.length_map]; omega
      have HN : Hid (∀ u, Below V.heap.size V u → Below w.heap.size w u ∧ NmAt u (w.heap.size + 1) ((L.map Prod.fst).take k) ∧ BoxL u w.heap.size [.slice none 0 0, .map none] ∧ u.rangeAt wr.heap.size 0 xs ∧ RVolume A u xs (L.getD k default)) := fun u hb => ⟨on2 (on2 hbw bV) hb, hm.on (on2 bV hb), hq.on (on2 bV hb), (qV.on hb).range, RVolume.firm.kept hrV (Kept.below hb)⟩
      have HX0 : Hid (V.rangeAt wr.heap.size 0 xs) := qV.range
      clear hr hv hm hq hbw qV bV hrV hB hAB
      generalize (L.getD k default) = x at hC hsz HT HN
      generalize (L.map Prod.fst).take k = N at HT HL HN
      go_wp2_with (first | (refine wpList_load_mid rfl 59 _ rfl B (off + k * 5) rfl xs _ HV0.out Try.underlying59 rfl hi ?_) | (refine wpList_load_mid rfl 59 _ rfl B (off + k * 5) rfl xs _ HVz.out Try.underlying59 rfl hi ?_) | (refine wpList_store_mid rfl 59 _ _ rfl wr.heap.size 0 xs.toArray rfl rfl HTh.out hia HO.out ?_; refine wpl_w8 HWV.out ?_) | (refine wpList_load_mid rfl 59 _ rfl wr.heap.size 0 rfl xs _ HX0.out Try.underlying59 rfl hi ?_) | fail)
      refine hC.mono ?_
      rintro e w6 ⟨rfl, hb6⟩
      obtain ⟨bw6, nm6, q6, r6, R6⟩ := HN.out w6 hb6
      clear hC HTh HO HV0 HVz HWV HX0 hia
      have hlk := nm6.look 70 Try.underlying70 hsz
      cases hf : fI N x.1 with
      | some j =>
        rw [hf] at hlk
        have HN3 : Hid (NmAt w6 (w.heap.size + 1) ((L.map Prod.fst).take (k + 1)) ∧ BoxL w6 w.heap.size [.slice none 0 0, .map none] ∧ Below w.heap.size w w6) := ⟨by rw [HT.out]; exact nm6.more hf, q6, bw6⟩
        simp only [Option.isSome_some, Option.getD_some] at hlk
        clear nm6 q6 bw6 r6 R6 HN HT HL hf hb6
        go_wp2_with fail
        go_roundw
        case rel => exact ⟨k + 1, by omega, by go_num, HN3⟩
        case measure => simp [intOf]; omega
      | none =>
        rw [hf] at hlk
        simp only [Option.isSome_none, Option.getD_none] at hlk
        have hC := nmVolume_calls xs A x w6 R6
        have HR6 : Hid (w6.rangeAt wr.heap.size 0 xs) := r6
        have HN6 : Hid (∀ u, Below w6.heap.size w6 u → Below w.heap.size w u ∧ NmAt u (w.heap.size + 1) N ∧ BoxL u w.heap.size [.slice none 0 0, .map none]) := fun u hb => ⟨on2 bw6 hb, nm6.on hb, q6.on hb⟩
        clear nm6 q6 bw6 r6 R6 HN hb6
        go_wp2_with (first | (refine wpList_load_mid rfl 59 _ rfl wr.heap.size 0 rfl xs _ HR6.out Try.underlying59 rfl hi ?_) | fail)
        refine hC.mono ?_
        rintro e w7 ⟨rfl, hb7⟩
        obtain ⟨bw7, nm7, q7⟩ := HN6.out w7 hb7
        obtain ⟨w8, hup, nm8, hg8⟩ := nm7.put 70 Try.underlying70 hsz hf (by have h1 := hbn.out; have h2 := HL.out; omega)
        have HN3 : Hid (NmAt w8 (w.heap.size + 1) ((L.map Prod.fst).take (k + 1)) ∧ BoxL w8 w.heap.size [.slice none 0 0, .map none] ∧ Below w.heap.size w w8) := ⟨by rw [HT.out]; exact nm8, q7.grown10 hg8 (by omega), below_grown10 bw7 hg8 (by omega)⟩
        rw [HL.out] at hup
        clear nm7 q7 bw7 nm8 hg8 HN6 HT HL hf hb7 hC HR6 hlk
        go_wp2_with fail
        go_roundw
        case rel => exact ⟨k + 1, by omega, by go_num, HN3⟩
        case measure => simp [intOf]; omega
    · have htk : (L.map Prod.fst).take k = L.map Prod.fst := List.take_of_length_le (by rw [List.length_map, hnl.out]; omega)
      rw [htk] at hm
      obtain ⟨V, hV⟩ : ∃ V, V = wr.setCells w.heap.size 0 [.slice a n cap, .map (some (w.heap.size + 1))] := ⟨_, rfl⟩
      have HTh : Hid (wr.there w.heap.size 0 (#[.slice a n cap, .map (some (w.heap.size + 1))] : Array Value).size) := hq.there
      have HWV : Hid (V = wr.setCells w.heap.size 0 (#[.slice a n cap, .map (some (w.heap.size + 1))] : Array Value).toList) := by rw [Hid, hV]
      have HOc : Hid ((#[.slice a n cap, .map (some (w.heap.size + 1))] : Array Value).all (·.oneCell') = true) := by rw [Hid]; simp [Value.oneCell']
      have kV : Kept (fun b => b ≠ w.heap.size) wr V := by rw [hV]; exact kept_setCells (fun h => h rfl)
      have qV : BoxL V w.heap.size [.slice a n cap, .map (some (w.heap.size + 1))] := by rw [hV]; exact box_over8 hq rfl
      have HOut : Hid (NmAt V (w.heap.size + 1) (L.map Prod.fst) ∧ w.heap.size ≤ w.heap.size + 1 ∧ Below w.heap.size w V) := ⟨hm.kept kV (by omega), by omega, by rw [hV]; exact below_setCells hbw (by omega)⟩
      have t0 := (qV.2 0 _ rfl).1
      have t1 := (qV.2 1 _ rfl).1
      have hszT : (Try.prog.info? 74).map (·.size) = some (#[.slice a n cap, .map (some (w.heap.size + 1))] : Array Value).size := by kernel_rfl
      clear hm hq hbw htk kV qV hV HU
      go_wp2_with (first | (refine wpList_store_mid rfl 74 _ _ rfl w.heap.size 0 #[.slice a n cap, .map (some (w.heap.size + 1))] rfl rfl HTh.out hszT HOc.out ?_; refine wpl_w8 HWV.out ?_) | fail)
      refine bodyPost_ret (v := .agg #[.slice a n cap, .map (some (w.heap.size + 1))]) (by simp [results, Try.results27, go_sem, t0, t1, Result.andThen]) rfl ?_
      exact ⟨_, rfl, HOut.out⟩
end Go.Proofs.Ytgofpmcoffgffaa
namespace Go.Proofs.Ytgofpmcoffgffaa
open Go.RowKit Go.Maps
set_option linter.unusedSimpArgs false
set_option maxRecDepth 100000

set_option maxHeartbeats 1000000 in
theorem nmClass_calls (cs : List Value) (A : Where) (x : ClassD) (w : World) (h : RClass A w cs x) : Calls Try.prog 30 #[.agg cs.toArray] w fun e w' => e = .returned (.string x.1) ∧ Below w.heap.size w w' := by
  obtain ⟨W1, hW1⟩ : ∃ W, W = w.alloc (.cells cs.toArray 65) := ⟨_, rfl⟩
  have B1 : Below w.heap.size w W1 := by rw [hW1]; go_grown
  have c0 : W1.cell? ⟨w.heap.size, 0, none⟩ = some (.string x.1) := by rw [hW1]; exact ((BoxL.new w 65 cs).2 0 _ h.head10.1).1
  clear h
  go_enter Try.func30, Try.ntmps30
  go_upto_region 1 with fail
  rw [← hW1]
  clear hW1
  go_wp2_with fail
  go_ret
  exact ⟨rfl, B1⟩
set_option maxHeartbeats 16000000 in
theorem tabClass_calls (a : Option Addr) (n cap : Nat) (A : Where) (L : List ClassD) (w : World) (hL : Hid (SlAt RClass 2 24 A w a n cap L)) :
    Calls Try.prog 29 #[.slice a n cap, .func (.func 30) #[] #[]] w (TabOut w (.slice a n cap) (L.map Prod.fst)) := by
  have hnl : Hid (L.length = n) := hL.out.1
  have hbn : Hid (n * 24 ≤ 140737488351232) := hL.out.2.2.2.1
  have hlen := hL.out.len (by decide)
  have HU : Hid (∀ u, Below w.heap.size w u → SlAt RClass 2 24 A u a n cap L) := fun u hb => hL.out.on RClass.firm hb
  clear hL
  obtain ⟨W1, hW1⟩ : ∃ W, W = w.alloc (.cells #[.slice none 0 0, .map none] 76) := ⟨_, rfl⟩
  have B1 : Below w.heap.size w W1 := by rw [hW1]; go_grown
  have hz1 : W1.heap.size = w.heap.size + 1 := by rw [hW1]; simp
  have q1 : BoxL W1 w.heap.size [.slice none 0 0, .map none] := by rw [hW1]; exact BoxL.new w 76 _
  obtain ⟨W2, hW2⟩ : ∃ W, W = W1.alloc (.map #[] 0) := ⟨_, rfl⟩
  have B2 : Below W1.heap.size W1 W2 := by rw [hW2]; go_grown
  have m2 : NmAt W2 (w.heap.size + 1) ((L.map Prod.fst).take 0) := by rw [hW2, ← hz1]; exact NmAt.made W1
  have HI : Hid (NmAt W2 (w.heap.size + 1) ((L.map Prod.fst).take 0) ∧ BoxL W2 w.heap.size [.slice none 0 0, .map none] ∧ Below w.heap.size w W2) := ⟨m2, q1.on B2, on2 B1 B2⟩
  have hmm := makeMap_hint10
  have HZ : Hid (W1.heap.size = w.heap.size + 1) := hz1
  clear B1 q1 B2 m2 hz1
  have eg := enters_of Try.func30 (by kernel_rfl) rfl
  go_enter Try.func29, Try.ntmps29
  go_upto_region 1 with fail
  rw [← hW1]
  clear hW1
  go_upto_region 2 with fail
  rw [← hW2]
  clear hW2
  rw [HZ.out]
  clear hmm HZ
  go_wp2_with fail
  go_loopw [15] (fun i wr => ∃ k : Nat, k ≤ n ∧ i = .int .i64 k ∧ Hid (NmAt wr (w.heap.size + 1) ((L.map Prod.fst).take k) ∧ BoxL wr w.heap.size [.slice none 0 0, .map none] ∧ Below w.heap.size w wr)) (fun i _ => n - (intOf i).toNat)
  case atStart => exact ⟨0, Nat.zero_le _, rfl, HI⟩
  case round =>
    obtain ⟨k, hk, rfl, hrun⟩ := hrel
    obtain ⟨hm, hq, hbw⟩ := hrun.out
    clear hrun HI
    by_cases hlt : k < n
    · have hltz : (k : Int) < (n : Int) := by omega
      have hkl : k < L.length := by rw [hnl.out]; exact hlt
      obtain ⟨B, off, rfl, hB, hAB, xs, hr, hv⟩ := (HU.out wr hbw).get hlt
      have hl : xs.length = 2 := RClass.firm.len hr
      have hi : (Try.prog.info? 65).map (·.size) = some xs.length := by rw [hl]; exact iszClass
      have hia : (Try.prog.info? 65).map (·.size) = some xs.toArray.size := by simpa using hi
      have HO : Hid (xs.toArray.all (·.oneCell') = true) := all_oneCell10 (RClass.firm.one hr)
      have HV0 : Hid (wr.rangeAt B (off + k * 2) xs) := hv
      have HVz : Hid ((wr.alloc (.cells #[.string ⟨#[]⟩, .bool false] 65)).rangeAt B (off + k * 2) xs) := fun j v hj => (((Below.refl _ wr).alloc (Nat.le_refl _) _).cell hB).trans (hv j v hj)
      obtain ⟨V, hV⟩ : ∃ V, V = (wr.alloc (.cells #[.string ⟨#[]⟩, .bool false] 65)).setCells wr.heap.size 0 xs := ⟨_, rfl⟩
      have HTh : Hid ((wr.alloc (.cells #[.string ⟨#[]⟩, .bool false] 65)).there wr.heap.size 0 xs.toArray.size) := by have e : xs.toArray.size = 2 := (by simp [hl]); rw [Hid, e]; exact (BoxL.new wr 65 [.string ⟨#[]⟩, .bool false]).there
      have bV : Below wr.heap.size wr V := by rw [hV]; exact below_setCells ((Below.refl _ _).alloc (Nat.le_refl _) _) (Nat.le_refl _)
      have qV : BoxL V wr.heap.size xs := by rw [hV]; exact box_over8 (BoxL.new wr 65 [.string ⟨#[]⟩, .bool false]) (by rw [hl]; rfl)
      have HWV : Hid (V = (wr.alloc (.cells #[.string ⟨#[]⟩, .bool false] 65)).setCells wr.heap.size 0 xs.toArray.toList) := by rw [Hid, hV]
      clear hV
      have hrV := RClass.firm.kept hr (Kept.below bV)
      have hC := nmClass_calls xs A (L.getD k default) V hrV
      have hsz : (L.getD k default).1.size ≤ 140737488355328 := hr.head10.2
      have HT : Hid ((L.map Prod.fst).take (k + 1) = (L.map Prod.fst).take k ++ [(L.getD k default).1]) := take_map10 Prod.fst hkl
      have HL : Hid (((L.map Prod.fst).take k).length = k) := by rw [Hid, List.length_take, List.length_map]; omega
      have HN : Hid (∀ u, Below V.heap.size V u → Below w.heap.size w u ∧ NmAt u (w.heap.size + 1) ((L.map Prod.fst).take k) ∧ BoxL u w.heap.size [.slice none 0 0, .map none] ∧ u.rangeAt wr.heap.size 0 xs ∧ RClass A u xs (L.getD k default)) := fun u hb => ⟨on2 (on2 hbw bV) hb, hm.on (on2 bV hb), hq.on (on2 bV hb), (qV.on hb).range, RClass.firm.kept hrV (Kept.below hb)⟩
      have HX0 : Hid (V.rangeAt wr.heap.size 0 xs) := qV.range
      clear hr hv hm hq hbw qV bV hrV hB hAB
      generalize (L.getD k default) = x at hC hsz HT HN
      generalize (L.map Prod.fst).take k = N at HT HL HN
      go_wp2_with (first | (refine wpList_load_mid rfl 65 _ rfl B (off + k * 2) rfl xs _ HV0.out Try.underlying65 rfl hi ?_) | (refine wpList_load_mid rfl 65 _ rfl B (off + k * 2) rfl xs _ HVz.out Try.underlying65 rfl hi ?_) | (refine wpList_store_mid rfl 65 _ _ rfl wr.heap.size 0 xs.toArray rfl rfl HTh.out hia HO.out ?_; refine wpl_w8 HWV.out ?_) | (refine wpList_load_mid rfl 65 _ rfl wr.heap.size 0 rfl xs _ HX0.out Try.underlying65 rfl hi ?_) | fail)
      refine hC.mono ?_
      rintro e w6 ⟨rfl, hb6⟩
      obtain ⟨bw6, nm6, q6, r6, R6⟩ := HN.out w6 hb6
      clear hC HTh HO HV0 HVz HWV HX0 hia
      have hlk := nm6.look 70 Try.underlying70 hsz
      cases hf : fI N x.1 with
      | some j =>
        rw [hf] at hlk
        have HN3 : Hid (NmAt w6 (w.heap.size + 1) ((L.map Prod.fst).take (k + 1)) ∧ BoxL w6 w.heap.size [.slice none 0 0, .map none] ∧ Below w.heap.size w w6) := ⟨by rw [HT.out]; exact nm6.more hf, q6, bw6⟩
        simp only [Option.isSome_some, Option.getD_some] at hlk
        clear nm6 q6 bw6 r6 R6 HN HT HL hf hb6
        go_wp2_with fail
        go_roundw
        case rel => exact ⟨k + 1, by omega, by go_num, HN3⟩
        case measure => simp [intOf]; omega
      | none =>
        rw [hf] at hlk
        simp only [Option.isSome_none, Option.getD_none] at hlk
        have hC := nmClass_calls xs A x w6 R6
        have HR6 : Hid (w6.rangeAt wr.heap.size 0 xs) := r6
        have HN6 : Hid (∀ u, Below w6.heap.size w6 u → Below w.heap.size w u ∧ NmAt u (w.heap.size + 1) N ∧ BoxL u w.heap.size [.slice none 0 0, .map none]) := fun u hb => ⟨on2 bw6 hb, nm6.on hb, q6.on hb⟩
        clear nm6 q6 bw6 r6 R6 HN hb6
        go_wp2_with (first | (refine wpList_load_mid rfl 65 _ rfl wr.heap.size 0 rfl xs _ HR6.out Try.underlying65 rfl hi ?_) | fail)
        refine hC.mono ?_
        rintro e w7 ⟨rfl, hb7⟩
        obtain ⟨bw7, nm7, q7⟩ := HN6.out w7 hb7
        obtain ⟨w8, hup, nm8, hg8⟩ := nm7.put 70 Try.underlying70 hsz hf (by have h1 := hbn.out; have h2 := HL.out; omega)
        have HN3 : Hid (NmAt w8 (w.heap.size + 1) ((L.map Prod.fst).take (k + 1)) ∧ BoxL w8 w.heap.size [.slice none 0 0, .map none] ∧ Below w.heap.size w w8) := ⟨by rw [HT.out]; exact nm8, q7.grown10 hg8 (by omega), below_grown10 bw7 hg8 (by omega)⟩
        rw [HL.out] at hup
        clear nm7 q7 bw7 nm8 hg8 HN6 HT HL hf hb7 hC HR6 hlk
        go_wp2_with fail
        go_roundw
        case rel => exact ⟨k + 1, by omega, by go_num, HN3⟩
        case measure => simp [intOf]; omega
    · have htk : (L.map Prod.fst).take k = L.map Prod.fst := List.take_of_length_le (by rw [List.length_map, hnl.out]; omega)
      rw [htk] at hm
      obtain ⟨V, hV⟩ : ∃ V, V = wr.setCells w.heap.size 0 [.slice a n cap, .map (some (w.heap.size + 1))] := ⟨_, rfl⟩
      have HTh : Hid (wr.there w.heap.size 0 (#[.slice a n cap, .map (some (w.heap.size + 1))] : Array Value).size) := hq.there
      have HWV : Hid (V = wr.setCells w.heap.size 0 (#[.slice a n cap, .map (some (w.heap.size + 1))] : Array Value).toList) := by rw [Hid, hV]
      have HOc : Hid ((#[.slice a n cap, .map (some (w.heap.size + 1))] : Array Value).all (·.oneCell') = true) := by rw [Hid]; simp [Value.oneCell']
      have kV : Kept (fun b => b ≠ w.heap.size) wr V := by rw [hV]; exact kept_setCells (fun h => h rfl)
      have qV : BoxL V w.heap.size [.slice a n cap, .map (some (w.heap.size + 1))] := by rw [hV]; exact box_over8 hq rfl
      have HOut : Hid (NmAt V (w.heap.size + 1) (L.map Prod.fst) ∧ w.heap.size ≤ w.heap.size + 1 ∧ Below w.heap.size w V) := ⟨hm.kept kV (by omega), by omega, by rw [hV]; exact below_setCells hbw (by omega)⟩
      have t0 := (qV.2 0 _ rfl).1
      have t1 := (qV.2 1 _ rfl).1
      have hszT : (Try.prog.info? 76).map (·.size) = some (#[.slice a n cap, .map (some (w.heap.size + 1))] : Array Value).size := by kernel_rfl
      clear hm hq hbw htk kV qV hV HU
      go_wp2_with (first | (refine wpList_store_mid rfl 76 _ _ rfl w.heap.size 0 #[.slice a n cap, .map (some (w.heap.size + 1))] rfl rfl HTh.out hszT HOc.out ?_; refine wpl_w8 HWV.out ?_) | fail)
      refine bodyPost_ret (v := .agg #[.slice a n cap, .map (some (w.heap.size + 1))]) (by simp [results, Try.results29, go_sem, t0, t1, Result.andThen]) rfl ?_
      exact ⟨_, rfl, HOut.out⟩
end Go.Proofs.Ytgofpmcoffgffaa
namespace Go.Proofs.Ytgofpmcoffgffaa
open Go.RowKit Go.Maps Go.Sort Go.Shelf
set_option linter.unusedSimpArgs false
set_option maxRecDepth 100000

theorem sorts10 (m : Nat) : AnyZI.SortsIn Try.prog Try.laysSorted_ren Fence.wide m :=
  ⟨fun blk off cap ss W hH hblk hsz => callsIn_wide.2 (AnyM.slices_Sort_int Try.laysSort blk off cap ss W hH hblk hsz),
   fun p cap W => callsIn_wide.2 (AnyM.slices_Sort_int_none Try.laysSort p cap W)⟩
theorem mVals_calls (mb : Option Nat) (W : World) : Calls Try.prog 54 #[.map mb] W fun e w' => e = .returned (.func (.func 76) #[] #[.pointer (some ⟨W.heap.size, 0, none⟩)]) ∧ w' = W.alloc (.cells #[.map mb] 70) :=
  (callsIn_wide (n := 5)).1 (AnyY.values_in Try.laysValues Fence.wide 5 trivial rfl mb W)
theorem chunks_int10 (u : World) (A : Where) : ∀ L : List Int, Chunks RInt 1 A u (L.map (fun c => Value.int .i64 c)) L := fun L => ⟨by simp, fun i hi => ⟨[.int .i64 (L.getD i default)], rfl, fun j hj => by
  obtain rfl : j = 0 := by omega
  rw [Nat.mul_one, Nat.add_zero, List.getElem?_map, List.getD_eq_getElem?_getD, List.getElem?_eq_getElem hi]; rfl⟩⟩
/-- The first ones' places as Go's numbers. -/
abbrev firstsZ (N : List ByteArray) : List Int := (firstsI N).map (fun k : Nat => (k : Int))
def SrtOut (w : World) (N : List ByteArray) (e : Ending) (w' : World) : Prop := ∃ v, e = .returned v ∧ Row RInt 1 (fun _ => False) w w' 3 v (firstsZ N)
set_option maxHeartbeats 2000000 in
theorem sortedV_calls {w : World} {mb : Nat} {N : List ByteArray} (h : NmAt w mb N) (hn : N.length * 8 ≤ 140737488355328) :
    Calls Try.prog 53 #[.func (.func 76) #[] #[.pointer (some ⟨w.heap.size, 0, none⟩)]] (w.alloc (.cells #[.map (some mb)] 70)) (SrtOut w N) := by
  obtain ⟨D, hown, hsize, hsort⟩ := h.values
  have hbl := hown.lt
  have hle := firstsI_len N
  have hseq : SeqGives Fence.wide 2 Try.prog 76 #[.pointer (some ⟨w.heap.size, 0, none⟩)] encZ (fun xs => ∃ ps, AnyY.AllOf D ps ∧ xs = ps.map (·.2)) (Maps.size D) (w.alloc (.cells #[.map (some mb)] 70)) :=
    (AnyY.values_stops (ρ := Try.laysValues_ren) { Try.laysValues with } Fence.wide _ trivial rfl (by omega) w.heap.size mb N.length D _ (by simp) (by simp) (by
      obtain ⟨es, clock, hb, Ft, hs, hD⟩ := hown
      exact ⟨es, clock, (Below.heap_alloc _ _ mb hbl).trans hb, Ft, hs, hD⟩)).gives
  have cS := AnyZI.sorted_in Try.laysSorted Fence.wide 5 trivial trivial trivial trivial rfl (by omega) (sorts10 _) (enters_of Try.func75 (by kernel_rfl) rfl) 76 #[.pointer (some ⟨w.heap.size, 0, none⟩)] trivial (enters_of Try.func76 (by kernel_rfl) rfl) _ (Maps.size D) (by have := maxLen9; omega) (by omega) _ hseq
  change CallsIn _ _ Try.prog 53 _ _ _ at cS
  refine ((callsIn_wide (n := 5)).1 cS).mono ?_
  rintro e w' ⟨v, ss, rfl, ⟨ps, ⟨hp1, _, hp3⟩, rfl⟩, hrow, _, hb⟩
  have e1 := hsort ps hp1 (fun p hp => hp3 p hp)
  have hlen : (ps.map (·.2)).length = (firstsZ N).length := by
    have := congrArg List.length e1
    rwa [List.length_mergeSort] at this
  refine ⟨v, rfl, (firstsZ N).map (fun c => Value.int .i64 c), ⟨((Below.refl _ w).alloc (Nat.le_refl _) _).trans (hb.mono (by simp)), ?_⟩, chunks_int10 _ _ _⟩
  rw [e1, hlen] at hrow
  exact Go.Joins.ownsRow_le hrow (by simp)
end Go.Proofs.Ytgofpmcoffgffaa
