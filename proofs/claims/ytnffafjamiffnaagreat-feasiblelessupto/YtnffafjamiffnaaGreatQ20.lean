/- Functions of the program, each walked under the conditions that its theorem names. -/
import Derived.Test.YtnffafjamiffnaaGreatQ15
set_option linter.unusedSimpArgs false
set_option maxRecDepth 100000
set_option maxHeartbeats 32000000
namespace Go.Proofs.YtnffafjamiffnaaGreat
open Go.RowKit Go.Maps
theorem zC3 (cs : List Value) (A : Where) (x : ClaimD) (w : World) (h : RClaim A w cs x) : Calls Tryz.prog 86 #[.agg cs.toArray] w fun e w' => e = .returned (.string x.1) /\ Below w.heap.size w w' := by
 obtain ⟨W1, hW1⟩ : ∃ W, W = w.alloc (.cells cs.toArray 96) := ⟨_, rfl⟩
 have B1 : Below w.heap.size w W1 := by rw [hW1]; go_grown
 have c0 : W1.cell? ⟨w.heap.size, 0, none⟩ = some (.string x.1) := by rw [hW1]; exact ((BoxL.new w 96 cs).2 0 _ h.head10.1).1
 clear h
 go_enter Tryz.func86, Tryz.ntmps86
 go_upto_region 1 with fail
 rw [<- hW1]
 clear hW1
 go_wp2_with fail
 go_ret
 exact ⟨rfl, B1⟩
theorem zAK (a : Option Addr) (n cap : Nat) (A : Where) (L : List ClaimD) (w : World) (hL : Hid (SlAt RClaim 4 56 A w a n cap L)) :
  Calls Tryz.prog 85 #[.slice a n cap, .func (.func 86) #[] #[]] w (TabOut w (.slice a n cap) (L.map Prod.fst)) := by
 have hnl : Hid (L.length = n) := hL.out.1
 have hbn : Hid (n * 56 <= 140737488351232) := hL.out.2.2.2.1
 have hlen := hL.out.len (by decide)
 have HU : Hid (∀ u, Below w.heap.size w u -> SlAt RClaim 4 56 A u a n cap L) := fun u hb => hL.out.on RClaim.firm hb
 clear hL
 obtain ⟨W1, hW1⟩ : ∃ W, W = w.alloc (.cells #[.slice none 0 0, .map none] 167) := ⟨_, rfl⟩
 have B1 : Below w.heap.size w W1 := by rw [hW1]; go_grown
 have hz1 : W1.heap.size = w.heap.size + 1 := by rw [hW1]; simp
 have q1 : BoxL W1 w.heap.size [.slice none 0 0, .map none] := by rw [hW1]; exact BoxL.new w 167 _
 obtain ⟨W2, hW2⟩ : ∃ W, W = W1.alloc (.map #[] 0) := ⟨_, rfl⟩
 have B2 : Below W1.heap.size W1 W2 := by rw [hW2]; go_grown
 have m2 : NmAt W2 (w.heap.size + 1) ((L.map Prod.fst).take 0) := by rw [hW2, <- hz1]; exact NmAt.made W1
 have HI : Hid (NmAt W2 (w.heap.size + 1) ((L.map Prod.fst).take 0) /\ BoxL W2 w.heap.size [.slice none 0 0, .map none] /\ Below w.heap.size w W2) := ⟨m2, q1.on B2, on2 B1 B2⟩
 have hmm := zAR
 have HZ : Hid (W1.heap.size = w.heap.size + 1) := hz1
 clear B1 q1 B2 m2 hz1
 have eg := enters_of Tryz.func86 (by kernel_rfl) rfl
 go_enter Tryz.func85, Tryz.ntmps85
 go_upto_region 1 with fail
 rw [<- hW1]
 clear hW1
 go_upto_region 2 with fail
 rw [<- hW2]
 clear hW2
 rw [HZ.out]
 clear hmm HZ
 go_wp2_with fail
 go_loopw [15] (fun i wr => ∃ k : Nat, k <= n /\ i = .int .i64 k /\ Hid (NmAt wr (w.heap.size + 1) ((L.map Prod.fst).take k) /\ BoxL wr w.heap.size [.slice none 0 0, .map none] /\ Below w.heap.size w wr)) (fun i _ => n - (intOf i).toNat)
 case atStart => exact ⟨0, Nat.zero_le _, rfl, HI⟩
 case round =>
  obtain ⟨k, hk, rfl, hrun⟩ := hrel
  obtain ⟨hm, hq, hbw⟩ := hrun.out
  clear hrun HI
  by_cases hlt : k < n
  ·have hltz : (k : Int) < (n : Int) := by omega
   have hkl : k < L.length := by rw [hnl.out]; exact hlt
   obtain ⟨B, off, rfl, hB, hAB, xs, hr, hv⟩ := (HU.out wr hbw).get hlt
   have hl : xs.length = 4 := RClaim.firm.len hr
   have hi : (Tryz.prog.info? 96).map (·.size) = some xs.length := by rw [hl]; exact zBi
   have hia : (Tryz.prog.info? 96).map (·.size) = some xs.toArray.size := by simpa using hi
   have HO : Hid (xs.toArray.all (·.oneCell') = true) := zAO (RClaim.firm.one hr)
   have HV0 : Hid (wr.rangeAt B (off + k * 4) xs) := hv
   have HVz : Hid ((wr.alloc (.cells #[.string ⟨#[]⟩, .int .i64 0, .string ⟨#[]⟩, .string ⟨#[]⟩] 96)).rangeAt B (off + k * 4) xs) := fun j v hj => (((Below.refl _ wr).alloc (Nat.le_refl _) _).cell hB).trans (hv j v hj)
   obtain ⟨V, hV⟩ : ∃ V, V = (wr.alloc (.cells #[.string ⟨#[]⟩, .int .i64 0, .string ⟨#[]⟩, .string ⟨#[]⟩] 96)).setCells wr.heap.size 0 xs := ⟨_, rfl⟩
   have HTh : Hid ((wr.alloc (.cells #[.string ⟨#[]⟩, .int .i64 0, .string ⟨#[]⟩, .string ⟨#[]⟩] 96)).there wr.heap.size 0 xs.toArray.size) := by have e : xs.toArray.size = 4 := (by simp [hl]); rw [Hid, e]; exact (BoxL.new wr 96 [.string ⟨#[]⟩, .int .i64 0, .string ⟨#[]⟩, .string ⟨#[]⟩]).there
   have bV : Below wr.heap.size wr V := by rw [hV]; exact zA0 ((Below.refl _ _).alloc (Nat.le_refl _) _) (Nat.le_refl _)
   have qV : BoxL V wr.heap.size xs := by rw [hV]; exact zA2 (BoxL.new wr 96 [.string ⟨#[]⟩, .int .i64 0, .string ⟨#[]⟩, .string ⟨#[]⟩]) (by rw [hl]; rfl)
   have HWV : Hid (V = (wr.alloc (.cells #[.string ⟨#[]⟩, .int .i64 0, .string ⟨#[]⟩, .string ⟨#[]⟩] 96)).setCells wr.heap.size 0 xs.toArray.toList) := by rw [Hid, hV]
   clear hV
   have hrV := RClaim.firm.kept hr (Kept.below bV)
   have hC := zC3 xs A (L.getD k default) V hrV
   have hsz : (L.getD k default).1.size <= 140737488355328 := hr.head10.2
   have HT : Hid ((L.map Prod.fst).take (k + 1) = (L.map Prod.fst).take k ++ [(L.getD k default).1]) := zAw Prod.fst hkl
   have HL : Hid (((L.map Prod.fst).take k).length = k) := by rw [Hid, List.length_take, List.length_map]; omega
   have HN : Hid (∀ u, Below V.heap.size V u -> Below w.heap.size w u /\ NmAt u (w.heap.size + 1) ((L.map Prod.fst).take k) /\ BoxL u w.heap.size [.slice none 0 0, .map none] /\ u.rangeAt wr.heap.size 0 xs /\ RClaim A u xs (L.getD k default)) := fun u hb => ⟨on2 (on2 hbw bV) hb, hm.on (on2 bV hb), hq.on (on2 bV hb), (qV.on hb).range, RClaim.firm.kept hrV (Kept.below hb)⟩
   have HX0 : Hid (V.rangeAt wr.heap.size 0 xs) := qV.range
   clear hr hv hm hq hbw qV bV hrV hB hAB
   generalize (L.getD k default) = x at hC hsz HT HN
   generalize (L.map Prod.fst).take k = N at HT HL HN
   go_wp2_with (first | (refine wpList_load_mid rfl 96 _ rfl B (off + k * 4) rfl xs _ HV0.out Tryz.underlying96 rfl hi ?_) | (refine wpList_load_mid rfl 96 _ rfl B (off + k * 4) rfl xs _ HVz.out Tryz.underlying96 rfl hi ?_) | (refine wpList_store_mid rfl 96 _ _ rfl wr.heap.size 0 xs.toArray rfl rfl HTh.out hia HO.out ?_; refine zAN HWV.out ?_) | (refine wpList_load_mid rfl 96 _ rfl wr.heap.size 0 rfl xs _ HX0.out Tryz.underlying96 rfl hi ?_) | fail)
   refine hC.mono ?_
   rintro e w6 ⟨rfl, hb6⟩
   obtain ⟨bw6, nm6, q6, r6, R6⟩ := HN.out w6 hb6
   clear hC HTh HO HV0 HVz HWV HX0 hia
   have hlk := nm6.look 165 Tryz.underlying165 hsz
   cases hf : fI N x.1 with
   | some j =>
    rw [hf] at hlk
    have HN3 : Hid (NmAt w6 (w.heap.size + 1) ((L.map Prod.fst).take (k + 1)) /\ BoxL w6 w.heap.size [.slice none 0 0, .map none] /\ Below w.heap.size w w6) := ⟨by rw [HT.out]; exact nm6.more hf, q6, bw6⟩
    simp only [Option.isSome_some, Option.getD_some] at hlk
    clear nm6 q6 bw6 r6 R6 HN HT HL hf hb6
    go_wp2_with fail
    go_roundw
    case rel => exact ⟨k + 1, by omega, by go_num, HN3⟩
    case measure => simp [intOf]; omega
   | none =>
    rw [hf] at hlk
    simp only [Option.isSome_none, Option.getD_none] at hlk
    have hC := zC3 xs A x w6 R6
    have HR6 : Hid (w6.rangeAt wr.heap.size 0 xs) := r6
    have HN6 : Hid (∀ u, Below w6.heap.size w6 u -> Below w.heap.size w u /\ NmAt u (w.heap.size + 1) N /\ BoxL u w.heap.size [.slice none 0 0, .map none]) := fun u hb => ⟨on2 bw6 hb, nm6.on hb, q6.on hb⟩
    clear nm6 q6 bw6 r6 R6 HN hb6
    go_wp2_with (first | (refine wpList_load_mid rfl 96 _ rfl wr.heap.size 0 rfl xs _ HR6.out Tryz.underlying96 rfl hi ?_) | fail)
    refine hC.mono ?_
    rintro e w7 ⟨rfl, hb7⟩
    obtain ⟨bw7, nm7, q7⟩ := HN6.out w7 hb7
    obtain ⟨w8, hup, nm8, hg8⟩ := nm7.put 165 Tryz.underlying165 hsz hf (by have h1 := hbn.out; have h2 := HL.out; omega)
    have HN3 : Hid (NmAt w8 (w.heap.size + 1) ((L.map Prod.fst).take (k + 1)) /\ BoxL w8 w.heap.size [.slice none 0 0, .map none] /\ Below w.heap.size w w8) := ⟨by rw [HT.out]; exact nm8, q7.grown10 hg8 (by omega), zAe bw7 hg8 (by omega)⟩
    rw [HL.out] at hup
    clear nm7 q7 bw7 nm8 hg8 HN6 HT HL hf hb7 hC HR6 hlk
    go_wp2_with fail
    go_roundw
    case rel => exact ⟨k + 1, by omega, by go_num, HN3⟩
    case measure => simp [intOf]; omega
  ·have htk : (L.map Prod.fst).take k = L.map Prod.fst := List.take_of_length_le (by rw [List.length_map, hnl.out]; omega)
   rw [htk] at hm
   obtain ⟨V, hV⟩ : ∃ V, V = wr.setCells w.heap.size 0 [.slice a n cap, .map (some (w.heap.size + 1))] := ⟨_, rfl⟩
   have HTh : Hid (wr.there w.heap.size 0 (#[.slice a n cap, .map (some (w.heap.size + 1))] : Array Value).size) := hq.there
   have HWV : Hid (V = wr.setCells w.heap.size 0 (#[.slice a n cap, .map (some (w.heap.size + 1))] : Array Value).toList) := by rw [Hid, hV]
   have HOc : Hid ((#[.slice a n cap, .map (some (w.heap.size + 1))] : Array Value).all (·.oneCell') = true) := by rw [Hid]; simp [Value.oneCell']
   have kV : Kept (fun b => b ≠ w.heap.size) wr V := by rw [hV]; exact zA1 (fun h => h rfl)
   have qV : BoxL V w.heap.size [.slice a n cap, .map (some (w.heap.size + 1))] := by rw [hV]; exact zA2 hq rfl
   have HOut : Hid (NmAt V (w.heap.size + 1) (L.map Prod.fst) /\ w.heap.size <= w.heap.size + 1 /\ Below w.heap.size w V) := ⟨hm.kept kV (by omega), by omega, by rw [hV]; exact zA0 hbw (by omega)⟩
   have t0 := (qV.2 0 _ rfl).1
   have t1 := (qV.2 1 _ rfl).1
   have hszT : (Tryz.prog.info? 167).map (·.size) = some (#[.slice a n cap, .map (some (w.heap.size + 1))] : Array Value).size := by kernel_rfl
   clear hm hq hbw htk kV qV hV HU
   go_wp2_with (first | (refine wpList_store_mid rfl 167 _ _ rfl w.heap.size 0 #[.slice a n cap, .map (some (w.heap.size + 1))] rfl rfl HTh.out hszT HOc.out ?_; refine zAN HWV.out ?_) | fail)
   refine bodyPost_ret (v := .agg #[.slice a n cap, .map (some (w.heap.size + 1))]) (by simp [results, Tryz.results85, go_sem, t0, t1, Result.andThen]) rfl ?_
   exact ⟨_, rfl, HOut.out⟩
theorem zBZ (cs : List Value) (A : Where) (x : VolumeD) (w : World) (h : RVolume A w cs x) : Calls Tryz.prog 88 #[.agg cs.toArray] w fun e w' => e = .returned (.string x.1) /\ Below w.heap.size w w' := by
 obtain ⟨W1, hW1⟩ : ∃ W, W = w.alloc (.cells cs.toArray 79) := ⟨_, rfl⟩
 have B1 : Below w.heap.size w W1 := by rw [hW1]; go_grown
 have c0 : W1.cell? ⟨w.heap.size, 0, none⟩ = some (.string x.1) := by rw [hW1]; exact ((BoxL.new w 79 cs).2 0 _ h.head10.1).1
 clear h
 go_enter Tryz.func88, Tryz.ntmps88
 go_upto_region 1 with fail
 rw [<- hW1]
 clear hW1
 go_wp2_with fail
 go_ret
 exact ⟨rfl, B1⟩
theorem zA6 (a : Option Addr) (n cap : Nat) (A : Where) (L : List VolumeD) (w : World) (hL : Hid (SlAt RVolume 5 72 A w a n cap L)) :
  Calls Tryz.prog 87 #[.slice a n cap, .func (.func 88) #[] #[]] w (TabOut w (.slice a n cap) (L.map Prod.fst)) := by
 have hnl : Hid (L.length = n) := hL.out.1
 have hbn : Hid (n * 72 <= 140737488351232) := hL.out.2.2.2.1
 have hlen := hL.out.len (by decide)
 have HU : Hid (∀ u, Below w.heap.size w u -> SlAt RVolume 5 72 A u a n cap L) := fun u hb => hL.out.on RVolume.firm hb
 clear hL
 obtain ⟨W1, hW1⟩ : ∃ W, W = w.alloc (.cells #[.slice none 0 0, .map none] 171) := ⟨_, rfl⟩
 have B1 : Below w.heap.size w W1 := by rw [hW1]; go_grown
 have hz1 : W1.heap.size = w.heap.size + 1 := by rw [hW1]; simp
 have q1 : BoxL W1 w.heap.size [.slice none 0 0, .map none] := by rw [hW1]; exact BoxL.new w 171 _
 obtain ⟨W2, hW2⟩ : ∃ W, W = W1.alloc (.map #[] 0) := ⟨_, rfl⟩
 have B2 : Below W1.heap.size W1 W2 := by rw [hW2]; go_grown
 have m2 : NmAt W2 (w.heap.size + 1) ((L.map Prod.fst).take 0) := by rw [hW2, <- hz1]; exact NmAt.made W1
 have HI : Hid (NmAt W2 (w.heap.size + 1) ((L.map Prod.fst).take 0) /\ BoxL W2 w.heap.size [.slice none 0 0, .map none] /\ Below w.heap.size w W2) := ⟨m2, q1.on B2, on2 B1 B2⟩
 have hmm := zAR
 have HZ : Hid (W1.heap.size = w.heap.size + 1) := hz1
 clear B1 q1 B2 m2 hz1
 have eg := enters_of Tryz.func88 (by kernel_rfl) rfl
 go_enter Tryz.func87, Tryz.ntmps87
 go_upto_region 1 with fail
 rw [<- hW1]
 clear hW1
 go_upto_region 2 with fail
 rw [<- hW2]
 clear hW2
 rw [HZ.out]
 clear hmm HZ
 go_wp2_with fail
 go_loopw [15] (fun i wr => ∃ k : Nat, k <= n /\ i = .int .i64 k /\ Hid (NmAt wr (w.heap.size + 1) ((L.map Prod.fst).take k) /\ BoxL wr w.heap.size [.slice none 0 0, .map none] /\ Below w.heap.size w wr)) (fun i _ => n - (intOf i).toNat)
 case atStart => exact ⟨0, Nat.zero_le _, rfl, HI⟩
 case round =>
  obtain ⟨k, hk, rfl, hrun⟩ := hrel
  obtain ⟨hm, hq, hbw⟩ := hrun.out
  clear hrun HI
  by_cases hlt : k < n
  ·have hltz : (k : Int) < (n : Int) := by omega
   have hkl : k < L.length := by rw [hnl.out]; exact hlt
   obtain ⟨B, off, rfl, hB, hAB, xs, hr, hv⟩ := (HU.out wr hbw).get hlt
   have hl : xs.length = 5 := RVolume.firm.len hr
   have hi : (Tryz.prog.info? 79).map (·.size) = some xs.length := by rw [hl]; exact zAa
   have hia : (Tryz.prog.info? 79).map (·.size) = some xs.toArray.size := by simpa using hi
   have HO : Hid (xs.toArray.all (·.oneCell') = true) := zAO (RVolume.firm.one hr)
   have HV0 : Hid (wr.rangeAt B (off + k * 5) xs) := hv
   have HVz : Hid ((wr.alloc (.cells #[.string ⟨#[]⟩, .int .i64 0, .string ⟨#[]⟩, .slice none 0 0, .string ⟨#[]⟩] 79)).rangeAt B (off + k * 5) xs) := fun j v hj => (((Below.refl _ wr).alloc (Nat.le_refl _) _).cell hB).trans (hv j v hj)
   obtain ⟨V, hV⟩ : ∃ V, V = (wr.alloc (.cells #[.string ⟨#[]⟩, .int .i64 0, .string ⟨#[]⟩, .slice none 0 0, .string ⟨#[]⟩] 79)).setCells wr.heap.size 0 xs := ⟨_, rfl⟩
   have HTh : Hid ((wr.alloc (.cells #[.string ⟨#[]⟩, .int .i64 0, .string ⟨#[]⟩, .slice none 0 0, .string ⟨#[]⟩] 79)).there wr.heap.size 0 xs.toArray.size) := by have e : xs.toArray.size = 5 := (by simp [hl]); rw [Hid, e]; exact (BoxL.new wr 79 [.string ⟨#[]⟩, .int .i64 0, .string ⟨#[]⟩, .slice none 0 0, .string ⟨#[]⟩]).there
   have bV : Below wr.heap.size wr V := by rw [hV]; exact zA0 ((Below.refl _ _).alloc (Nat.le_refl _) _) (Nat.le_refl _)
   have qV : BoxL V wr.heap.size xs := by rw [hV]; exact zA2 (BoxL.new wr 79 [.string ⟨#[]⟩, .int .i64 0, .string ⟨#[]⟩, .slice none 0 0, .string ⟨#[]⟩]) (by rw [hl]; rfl)
   have HWV : Hid (V = (wr.alloc (.cells #[.string ⟨#[]⟩, .int .i64 0, .string ⟨#[]⟩, .slice none 0 0, .string ⟨#[]⟩] 79)).setCells wr.heap.size 0 xs.toArray.toList) := by rw [Hid, hV]
   clear hV
   have hrV := RVolume.firm.kept hr (Kept.below bV)
   have hC := zBZ xs A (L.getD k default) V hrV
   have hsz : (L.getD k default).1.size <= 140737488355328 := hr.head10.2
   have HT : Hid ((L.map Prod.fst).take (k + 1) = (L.map Prod.fst).take k ++ [(L.getD k default).1]) := zAw Prod.fst hkl
   have HL : Hid (((L.map Prod.fst).take k).length = k) := by rw [Hid, List.length_take, List.length_map]; omega
   have HN : Hid (∀ u, Below V.heap.size V u -> Below w.heap.size w u /\ NmAt u (w.heap.size + 1) ((L.map Prod.fst).take k) /\ BoxL u w.heap.size [.slice none 0 0, .map none] /\ u.rangeAt wr.heap.size 0 xs /\ RVolume A u xs (L.getD k default)) := fun u hb => ⟨on2 (on2 hbw bV) hb, hm.on (on2 bV hb), hq.on (on2 bV hb), (qV.on hb).range, RVolume.firm.kept hrV (Kept.below hb)⟩
   have HX0 : Hid (V.rangeAt wr.heap.size 0 xs) := qV.range
   clear hr hv hm hq hbw qV bV hrV hB hAB
   generalize (L.getD k default) = x at hC hsz HT HN
   generalize (L.map Prod.fst).take k = N at HT HL HN
   go_wp2_with (first | (refine wpList_load_mid rfl 79 _ rfl B (off + k * 5) rfl xs _ HV0.out Tryz.underlying79 rfl hi ?_) | (refine wpList_load_mid rfl 79 _ rfl B (off + k * 5) rfl xs _ HVz.out Tryz.underlying79 rfl hi ?_) | (refine wpList_store_mid rfl 79 _ _ rfl wr.heap.size 0 xs.toArray rfl rfl HTh.out hia HO.out ?_; refine zAN HWV.out ?_) | (refine wpList_load_mid rfl 79 _ rfl wr.heap.size 0 rfl xs _ HX0.out Tryz.underlying79 rfl hi ?_) | fail)
   refine hC.mono ?_
   rintro e w6 ⟨rfl, hb6⟩
   obtain ⟨bw6, nm6, q6, r6, R6⟩ := HN.out w6 hb6
   clear hC HTh HO HV0 HVz HWV HX0 hia
   have hlk := nm6.look 165 Tryz.underlying165 hsz
   cases hf : fI N x.1 with
   | some j =>
    rw [hf] at hlk
    have HN3 : Hid (NmAt w6 (w.heap.size + 1) ((L.map Prod.fst).take (k + 1)) /\ BoxL w6 w.heap.size [.slice none 0 0, .map none] /\ Below w.heap.size w w6) := ⟨by rw [HT.out]; exact nm6.more hf, q6, bw6⟩
    simp only [Option.isSome_some, Option.getD_some] at hlk
    clear nm6 q6 bw6 r6 R6 HN HT HL hf hb6
    go_wp2_with fail
    go_roundw
    case rel => exact ⟨k + 1, by omega, by go_num, HN3⟩
    case measure => simp [intOf]; omega
   | none =>
    rw [hf] at hlk
    simp only [Option.isSome_none, Option.getD_none] at hlk
    have hC := zBZ xs A x w6 R6
    have HR6 : Hid (w6.rangeAt wr.heap.size 0 xs) := r6
    have HN6 : Hid (∀ u, Below w6.heap.size w6 u -> Below w.heap.size w u /\ NmAt u (w.heap.size + 1) N /\ BoxL u w.heap.size [.slice none 0 0, .map none]) := fun u hb => ⟨on2 bw6 hb, nm6.on hb, q6.on hb⟩
    clear nm6 q6 bw6 r6 R6 HN hb6
    go_wp2_with (first | (refine wpList_load_mid rfl 79 _ rfl wr.heap.size 0 rfl xs _ HR6.out Tryz.underlying79 rfl hi ?_) | fail)
    refine hC.mono ?_
    rintro e w7 ⟨rfl, hb7⟩
    obtain ⟨bw7, nm7, q7⟩ := HN6.out w7 hb7
    obtain ⟨w8, hup, nm8, hg8⟩ := nm7.put 165 Tryz.underlying165 hsz hf (by have h1 := hbn.out; have h2 := HL.out; omega)
    have HN3 : Hid (NmAt w8 (w.heap.size + 1) ((L.map Prod.fst).take (k + 1)) /\ BoxL w8 w.heap.size [.slice none 0 0, .map none] /\ Below w.heap.size w w8) := ⟨by rw [HT.out]; exact nm8, q7.grown10 hg8 (by omega), zAe bw7 hg8 (by omega)⟩
    rw [HL.out] at hup
    clear nm7 q7 bw7 nm8 hg8 HN6 HT HL hf hb7 hC HR6 hlk
    go_wp2_with fail
    go_roundw
    case rel => exact ⟨k + 1, by omega, by go_num, HN3⟩
    case measure => simp [intOf]; omega
  ·have htk : (L.map Prod.fst).take k = L.map Prod.fst := List.take_of_length_le (by rw [List.length_map, hnl.out]; omega)
   rw [htk] at hm
   obtain ⟨V, hV⟩ : ∃ V, V = wr.setCells w.heap.size 0 [.slice a n cap, .map (some (w.heap.size + 1))] := ⟨_, rfl⟩
   have HTh : Hid (wr.there w.heap.size 0 (#[.slice a n cap, .map (some (w.heap.size + 1))] : Array Value).size) := hq.there
   have HWV : Hid (V = wr.setCells w.heap.size 0 (#[.slice a n cap, .map (some (w.heap.size + 1))] : Array Value).toList) := by rw [Hid, hV]
   have HOc : Hid ((#[.slice a n cap, .map (some (w.heap.size + 1))] : Array Value).all (·.oneCell') = true) := by rw [Hid]; simp [Value.oneCell']
   have kV : Kept (fun b => b ≠ w.heap.size) wr V := by rw [hV]; exact zA1 (fun h => h rfl)
   have qV : BoxL V w.heap.size [.slice a n cap, .map (some (w.heap.size + 1))] := by rw [hV]; exact zA2 hq rfl
   have HOut : Hid (NmAt V (w.heap.size + 1) (L.map Prod.fst) /\ w.heap.size <= w.heap.size + 1 /\ Below w.heap.size w V) := ⟨hm.kept kV (by omega), by omega, by rw [hV]; exact zA0 hbw (by omega)⟩
   have t0 := (qV.2 0 _ rfl).1
   have t1 := (qV.2 1 _ rfl).1
   have hszT : (Tryz.prog.info? 171).map (·.size) = some (#[.slice a n cap, .map (some (w.heap.size + 1))] : Array Value).size := by kernel_rfl
   clear hm hq hbw htk kV qV hV HU
   go_wp2_with (first | (refine wpList_store_mid rfl 171 _ _ rfl w.heap.size 0 #[.slice a n cap, .map (some (w.heap.size + 1))] rfl rfl HTh.out hszT HOc.out ?_; refine zAN HWV.out ?_) | fail)
   refine bodyPost_ret (v := .agg #[.slice a n cap, .map (some (w.heap.size + 1))]) (by simp [results, Tryz.results87, go_sem, t0, t1, Result.andThen]) rfl ?_
   exact ⟨_, rfl, HOut.out⟩
theorem zBm (cs : List Value) (A : Where) (x : ClassD) (w : World) (h : RClass A w cs x) : Calls Tryz.prog 172 #[.agg cs.toArray] w fun e w' => e = .returned (.string x.1) /\ Below w.heap.size w w' := by
 obtain ⟨W1, hW1⟩ : ∃ W, W = w.alloc (.cells cs.toArray 99) := ⟨_, rfl⟩
 have B1 : Below w.heap.size w W1 := by rw [hW1]; go_grown
 have c0 : W1.cell? ⟨w.heap.size, 0, none⟩ = some (.string x.1) := by rw [hW1]; exact ((BoxL.new w 99 cs).2 0 _ h.head10.1).1
 clear h
 go_enter Tryz.func172, Tryz.ntmps172
 go_upto_region 1 with fail
 rw [<- hW1]
 clear hW1
 go_wp2_with fail
 go_ret
 exact ⟨rfl, B1⟩
theorem zAY (a : Option Addr) (n cap : Nat) (A : Where) (L : List ClassD) (w : World) (hL : Hid (SlAt RClass 2 24 A w a n cap L)) :
  Calls Tryz.prog 171 #[.slice a n cap, .func (.func 172) #[] #[]] w (TabOut w (.slice a n cap) (L.map Prod.fst)) := by
 have hnl : Hid (L.length = n) := hL.out.1
 have hbn : Hid (n * 24 <= 140737488351232) := hL.out.2.2.2.1
 have hlen := hL.out.len (by decide)
 have HU : Hid (∀ u, Below w.heap.size w u -> SlAt RClass 2 24 A u a n cap L) := fun u hb => hL.out.on RClass.firm hb
 clear hL
 obtain ⟨W1, hW1⟩ : ∃ W, W = w.alloc (.cells #[.slice none 0 0, .map none] 225) := ⟨_, rfl⟩
 have B1 : Below w.heap.size w W1 := by rw [hW1]; go_grown
 have hz1 : W1.heap.size = w.heap.size + 1 := by rw [hW1]; simp
 have q1 : BoxL W1 w.heap.size [.slice none 0 0, .map none] := by rw [hW1]; exact BoxL.new w 225 _
 obtain ⟨W2, hW2⟩ : ∃ W, W = W1.alloc (.map #[] 0) := ⟨_, rfl⟩
 have B2 : Below W1.heap.size W1 W2 := by rw [hW2]; go_grown
 have m2 : NmAt W2 (w.heap.size + 1) ((L.map Prod.fst).take 0) := by rw [hW2, <- hz1]; exact NmAt.made W1
 have HI : Hid (NmAt W2 (w.heap.size + 1) ((L.map Prod.fst).take 0) /\ BoxL W2 w.heap.size [.slice none 0 0, .map none] /\ Below w.heap.size w W2) := ⟨m2, q1.on B2, on2 B1 B2⟩
 have hmm := zAR
 have HZ : Hid (W1.heap.size = w.heap.size + 1) := hz1
 clear B1 q1 B2 m2 hz1
 have eg := enters_of Tryz.func172 (by kernel_rfl) rfl
 go_enter Tryz.func171, Tryz.ntmps171
 go_upto_region 1 with fail
 rw [<- hW1]
 clear hW1
 go_upto_region 2 with fail
 rw [<- hW2]
 clear hW2
 rw [HZ.out]
 clear hmm HZ
 go_wp2_with fail
 go_loopw [15] (fun i wr => ∃ k : Nat, k <= n /\ i = .int .i64 k /\ Hid (NmAt wr (w.heap.size + 1) ((L.map Prod.fst).take k) /\ BoxL wr w.heap.size [.slice none 0 0, .map none] /\ Below w.heap.size w wr)) (fun i _ => n - (intOf i).toNat)
 case atStart => exact ⟨0, Nat.zero_le _, rfl, HI⟩
 case round =>
  obtain ⟨k, hk, rfl, hrun⟩ := hrel
  obtain ⟨hm, hq, hbw⟩ := hrun.out
  clear hrun HI
  by_cases hlt : k < n
  ·have hltz : (k : Int) < (n : Int) := by omega
   have hkl : k < L.length := by rw [hnl.out]; exact hlt
   obtain ⟨B, off, rfl, hB, hAB, xs, hr, hv⟩ := (HU.out wr hbw).get hlt
   have hl : xs.length = 2 := RClass.firm.len hr
   have hi : (Tryz.prog.info? 99).map (·.size) = some xs.length := by rw [hl]; exact iszClass
   have hia : (Tryz.prog.info? 99).map (·.size) = some xs.toArray.size := by simpa using hi
   have HO : Hid (xs.toArray.all (·.oneCell') = true) := zAO (RClass.firm.one hr)
   have HV0 : Hid (wr.rangeAt B (off + k * 2) xs) := hv
   have HVz : Hid ((wr.alloc (.cells #[.string ⟨#[]⟩, .bool false] 99)).rangeAt B (off + k * 2) xs) := fun j v hj => (((Below.refl _ wr).alloc (Nat.le_refl _) _).cell hB).trans (hv j v hj)
   obtain ⟨V, hV⟩ : ∃ V, V = (wr.alloc (.cells #[.string ⟨#[]⟩, .bool false] 99)).setCells wr.heap.size 0 xs := ⟨_, rfl⟩
   have HTh : Hid ((wr.alloc (.cells #[.string ⟨#[]⟩, .bool false] 99)).there wr.heap.size 0 xs.toArray.size) := by have e : xs.toArray.size = 2 := (by simp [hl]); rw [Hid, e]; exact (BoxL.new wr 99 [.string ⟨#[]⟩, .bool false]).there
   have bV : Below wr.heap.size wr V := by rw [hV]; exact zA0 ((Below.refl _ _).alloc (Nat.le_refl _) _) (Nat.le_refl _)
   have qV : BoxL V wr.heap.size xs := by rw [hV]; exact zA2 (BoxL.new wr 99 [.string ⟨#[]⟩, .bool false]) (by rw [hl]; rfl)
   have HWV : Hid (V = (wr.alloc (.cells #[.string ⟨#[]⟩, .bool false] 99)).setCells wr.heap.size 0 xs.toArray.toList) := by rw [Hid, hV]
   clear hV
   have hrV := RClass.firm.kept hr (Kept.below bV)
   have hC := zBm xs A (L.getD k default) V hrV
   have hsz : (L.getD k default).1.size <= 140737488355328 := hr.head10.2
   have HT : Hid ((L.map Prod.fst).take (k + 1) = (L.map Prod.fst).take k ++ [(L.getD k default).1]) := zAw Prod.fst hkl
   have HL : Hid (((L.map Prod.fst).take k).length = k) := by rw [Hid, List.length_take, List.length_map]; omega
   have HN : Hid (∀ u, Below V.heap.size V u -> Below w.heap.size w u /\ NmAt u (w.heap.size + 1) ((L.map Prod.fst).take k) /\ BoxL u w.heap.size [.slice none 0 0, .map none] /\ u.rangeAt wr.heap.size 0 xs /\ RClass A u xs (L.getD k default)) := fun u hb => ⟨on2 (on2 hbw bV) hb, hm.on (on2 bV hb), hq.on (on2 bV hb), (qV.on hb).range, RClass.firm.kept hrV (Kept.below hb)⟩
   have HX0 : Hid (V.rangeAt wr.heap.size 0 xs) := qV.range
   clear hr hv hm hq hbw qV bV hrV hB hAB
   generalize (L.getD k default) = x at hC hsz HT HN
   generalize (L.map Prod.fst).take k = N at HT HL HN
   go_wp2_with (first | (refine wpList_load_mid rfl 99 _ rfl B (off + k * 2) rfl xs _ HV0.out Tryz.underlying99 rfl hi ?_) | (refine wpList_load_mid rfl 99 _ rfl B (off + k * 2) rfl xs _ HVz.out Tryz.underlying99 rfl hi ?_) | (refine wpList_store_mid rfl 99 _ _ rfl wr.heap.size 0 xs.toArray rfl rfl HTh.out hia HO.out ?_; refine zAN HWV.out ?_) | (refine wpList_load_mid rfl 99 _ rfl wr.heap.size 0 rfl xs _ HX0.out Tryz.underlying99 rfl hi ?_) | fail)
   refine hC.mono ?_
   rintro e w6 ⟨rfl, hb6⟩
   obtain ⟨bw6, nm6, q6, r6, R6⟩ := HN.out w6 hb6
   clear hC HTh HO HV0 HVz HWV HX0 hia
   have hlk := nm6.look 165 Tryz.underlying165 hsz
   cases hf : fI N x.1 with
   | some j =>
    rw [hf] at hlk
    have HN3 : Hid (NmAt w6 (w.heap.size + 1) ((L.map Prod.fst).take (k + 1)) /\ BoxL w6 w.heap.size [.slice none 0 0, .map none] /\ Below w.heap.size w w6) := ⟨by rw [HT.out]; exact nm6.more hf, q6, bw6⟩
    simp only [Option.isSome_some, Option.getD_some] at hlk
    clear nm6 q6 bw6 r6 R6 HN HT HL hf hb6
    go_wp2_with fail
    go_roundw
    case rel => exact ⟨k + 1, by omega, by go_num, HN3⟩
    case measure => simp [intOf]; omega
   | none =>
    rw [hf] at hlk
    simp only [Option.isSome_none, Option.getD_none] at hlk
    have hC := zBm xs A x w6 R6
    have HR6 : Hid (w6.rangeAt wr.heap.size 0 xs) := r6
    have HN6 : Hid (∀ u, Below w6.heap.size w6 u -> Below w.heap.size w u /\ NmAt u (w.heap.size + 1) N /\ BoxL u w.heap.size [.slice none 0 0, .map none]) := fun u hb => ⟨on2 bw6 hb, nm6.on hb, q6.on hb⟩
    clear nm6 q6 bw6 r6 R6 HN hb6
    go_wp2_with (first | (refine wpList_load_mid rfl 99 _ rfl wr.heap.size 0 rfl xs _ HR6.out Tryz.underlying99 rfl hi ?_) | fail)
    refine hC.mono ?_
    rintro e w7 ⟨rfl, hb7⟩
    obtain ⟨bw7, nm7, q7⟩ := HN6.out w7 hb7
    obtain ⟨w8, hup, nm8, hg8⟩ := nm7.put 165 Tryz.underlying165 hsz hf (by have h1 := hbn.out; have h2 := HL.out; omega)
    have HN3 : Hid (NmAt w8 (w.heap.size + 1) ((L.map Prod.fst).take (k + 1)) /\ BoxL w8 w.heap.size [.slice none 0 0, .map none] /\ Below w.heap.size w w8) := ⟨by rw [HT.out]; exact nm8, q7.grown10 hg8 (by omega), zAe bw7 hg8 (by omega)⟩
    rw [HL.out] at hup
    clear nm7 q7 bw7 nm8 hg8 HN6 HT HL hf hb7 hC HR6 hlk
    go_wp2_with fail
    go_roundw
    case rel => exact ⟨k + 1, by omega, by go_num, HN3⟩
    case measure => simp [intOf]; omega
  ·have htk : (L.map Prod.fst).take k = L.map Prod.fst := List.take_of_length_le (by rw [List.length_map, hnl.out]; omega)
   rw [htk] at hm
   obtain ⟨V, hV⟩ : ∃ V, V = wr.setCells w.heap.size 0 [.slice a n cap, .map (some (w.heap.size + 1))] := ⟨_, rfl⟩
   have HTh : Hid (wr.there w.heap.size 0 (#[.slice a n cap, .map (some (w.heap.size + 1))] : Array Value).size) := hq.there
   have HWV : Hid (V = wr.setCells w.heap.size 0 (#[.slice a n cap, .map (some (w.heap.size + 1))] : Array Value).toList) := by rw [Hid, hV]
   have HOc : Hid ((#[.slice a n cap, .map (some (w.heap.size + 1))] : Array Value).all (·.oneCell') = true) := by rw [Hid]; simp [Value.oneCell']
   have kV : Kept (fun b => b ≠ w.heap.size) wr V := by rw [hV]; exact zA1 (fun h => h rfl)
   have qV : BoxL V w.heap.size [.slice a n cap, .map (some (w.heap.size + 1))] := by rw [hV]; exact zA2 hq rfl
   have HOut : Hid (NmAt V (w.heap.size + 1) (L.map Prod.fst) /\ w.heap.size <= w.heap.size + 1 /\ Below w.heap.size w V) := ⟨hm.kept kV (by omega), by omega, by rw [hV]; exact zA0 hbw (by omega)⟩
   have t0 := (qV.2 0 _ rfl).1
   have t1 := (qV.2 1 _ rfl).1
   have hszT : (Tryz.prog.info? 225).map (·.size) = some (#[.slice a n cap, .map (some (w.heap.size + 1))] : Array Value).size := by kernel_rfl
   clear hm hq hbw htk kV qV hV HU
   go_wp2_with (first | (refine wpList_store_mid rfl 225 _ _ rfl w.heap.size 0 #[.slice a n cap, .map (some (w.heap.size + 1))] rfl rfl HTh.out hszT HOc.out ?_; refine zAN HWV.out ?_) | fail)
   refine bodyPost_ret (v := .agg #[.slice a n cap, .map (some (w.heap.size + 1))]) (by simp [results, Tryz.results171, go_sem, t0, t1, Result.andThen]) rfl ?_
   exact ⟨_, rfl, HOut.out⟩
end Go.Proofs.YtnffafjamiffnaaGreat
