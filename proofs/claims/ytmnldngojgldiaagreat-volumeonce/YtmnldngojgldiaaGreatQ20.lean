/- tableOf at Class: where the first one of each name stands. Condition: the list lies as is said of it. slices.Sorted(maps.Values(m)) at a map that tells where each name's first one stands: the places of the first ones, rising. Condition: the map lies as is said of it. Further structs of the program as plain data, and how each lies in cells. No program. No condition. The document's best of layer 10: which volume a claim gets. Condition: the arguments lie as is said of them. Two rows of one's own side by side: picks, and the names of volumes that are picked; the plan as far as it has come. Plain facts on worlds. No condition. base.Texts and base.Ints give rows of their own. Condition: the slice lies as is said of it. The document's Free of layer 10: the names of the volumes that are free. Condition: the state lies as is said of it. The document's Plan of layer 10. Condition: the arguments lie as is said of them; the claims in use and the pod's are together not above a thousand millions. all: those that count, in order: small facts. Plain. No condition. -/
import Derived.Test.YtmnldngojgldiaaGreatQ15
import Derived.Test.YtmnldngojgldiaaGreatQ13
import Derived.Test.YtmnldngojgldiaaGreatQ02
import Derived.Test.YtmnldngojgldiaaGreatShelf
import Derived.Test.YtmnldngojgldiaaGreatQ03
import Derived.Test.YtmnldngojgldiaaGreatQ14
import Derived.Test.YtmnldngojgldiaaGreatQ04
import Derived.Test.YtmnldngojgldiaaGreatQ07
import Derived.Test.YtmnldngojgldiaaGreatQ09
import Derived.Great.BuildSlice
import Derived.Laws.MakeOwn
namespace Go.Proofs.YtmnldngojgldiaaGreat
open Go.RowKit Go.Maps
set_option linter.unusedSimpArgs false
set_option maxRecDepth 100000

set_option maxHeartbeats 1000000 in
theorem nmClass_calls (cs : List Value) (A : Where) (x : ClassD) (w : World) (h : RClass A w cs x) : Calls Tryz.prog 49 #[.agg cs.toArray] w fun e w' => e = .returned (.string x.1) ∧ Below w.heap.size w w' := by
  obtain ⟨W1, hW1⟩ : ∃ W, W = w.alloc (.cells cs.toArray 46) := ⟨_, rfl⟩
  have B1 : Below w.heap.size w W1 := by rw [hW1]; go_grown
  have c0 : W1.cell? ⟨w.heap.size, 0, none⟩ = some (.string x.1) := by rw [hW1]; exact ((BoxL.new w 46 cs).2 0 _ h.head10.1).1
  clear h
  go_enter Tryz.func49, Tryz.ntmps49
  go_upto_region 1 with fail
  rw [← hW1]
  clear hW1
  go_wp2_with fail
  go_ret
  exact ⟨rfl, B1⟩
set_option maxHeartbeats 16000000 in
theorem tabClass_calls (a : Option Addr) (n cap : Nat) (A : Where) (L : List ClassD) (w : World) (hL : Hid (SlAt RClass 2 24 A w a n cap L)) :
    Calls Tryz.prog 48 #[.slice a n cap, .func (.func 49) #[] #[]] w (TabOut w (.slice a n cap) (L.map Prod.fst)) := by
  have hnl : Hid (L.length = n) := hL.out.1
  have hbn : Hid (n * 24 ≤ 140737488351232) := hL.out.2.2.2.1
  have hlen := hL.out.len (by decide)
  have HU : Hid (∀ u, Below w.heap.size w u → SlAt RClass 2 24 A u a n cap L) := fun u hb => hL.out.on RClass.firm hb
  clear hL
  obtain ⟨W1, hW1⟩ : ∃ W, W = w.alloc (.cells #[.slice none 0 0, .map none] 98) := ⟨_, rfl⟩
  have B1 : Below w.heap.size w W1 := by rw [hW1]; go_grown
  have hz1 : W1.heap.size = w.heap.size + 1 := by rw [hW1]; simp
  have q1 : BoxL W1 w.heap.size [.slice none 0 0, .map none] := by rw [hW1]; exact BoxL.new w 98 _
  obtain ⟨W2, hW2⟩ : ∃ W, W = W1.alloc (.map #[] 0) := ⟨_, rfl⟩
  have B2 : Below W1.heap.size W1 W2 := by rw [hW2]; go_grown
  have m2 : NmAt W2 (w.heap.size + 1) ((L.map Prod.fst).take 0) := by rw [hW2, ← hz1]; exact NmAt.made W1
  have HI : Hid (NmAt W2 (w.heap.size + 1) ((L.map Prod.fst).take 0) ∧ BoxL W2 w.heap.size [.slice none 0 0, .map none] ∧ Below w.heap.size w W2) := ⟨m2, q1.on B2, on2 B1 B2⟩
  have hmm := makeMap_hint10
  have HZ : Hid (W1.heap.size = w.heap.size + 1) := hz1
  clear B1 q1 B2 m2 hz1
  have eg := enters_of Tryz.func49 (by kernel_rfl) rfl
  go_enter Tryz.func48, Tryz.ntmps48
  go_upto_region 1 with fail
  rw [← hW1]
  clear hW1
  go_upto_region 2 with fail
  rw [← hW2]
  clear hW2
  rw [HZ.out]
  clear hmm HZ
  go_wp2_with fail
  go_loopw [15] (fun i wr => ∃ k : Nat, k ≤ n ∧ i = .int .i64 k ∧ Hid (NmAt wr (w.heap.size + 1) ((L.map Prod.fst).take k) ∧ BoxL wr w.heap.size [.slice none 0 0, .map none] ∧ Below w.heap.size w wr)) (fun i _ => n - (intOf i).toNat)
  case atStart => exact ⟨0, Nat.zero_le _, rfl, HI⟩
  case round =>
    obtain ⟨k, hk, rfl, hrun⟩ := hrel
    obtain ⟨hm, hq, hbw⟩ := hrun.out
    clear hrun HI
    by_cases hlt : k < n
    · have hltz : (k : Int) < (n : Int) := by omega
      have hkl : k < L.length := by rw [hnl.out]; exact hlt
      obtain ⟨B, off, rfl, hB, hAB, xs, hr, hv⟩ := (HU.out wr hbw).get hlt
      have hl : xs.length = 2 := RClass.firm.len hr
      have hi : (Tryz.prog.info? 46).map (·.size) = some xs.length := by rw [hl]; exact iszClass
      have hia : (Tryz.prog.info? 46).map (·.size) = some xs.toArray.size := by simpa using hi
      have HO : Hid (xs.toArray.all (·.oneCell') = true) := all_oneCell10 (RClass.firm.one hr)
      have HV0 : Hid (wr.rangeAt B (off + k * 2) xs) := hv
      have HVz : Hid ((wr.alloc (.cells #[.string ⟨#[]⟩, .bool false] 46)).rangeAt B (off + k * 2) xs) := fun j v hj => (((Below.refl _ wr).alloc (Nat.le_refl _) _).cell hB).trans (hv j v hj)
      obtain ⟨V, hV⟩ : ∃ V, V = (wr.alloc (.cells #[.string ⟨#[]⟩, .bool false] 46)).setCells wr.heap.size 0 xs := ⟨_, rfl⟩
      have HTh : Hid ((wr.alloc (.cells #[.string ⟨#[]⟩, .bool false] 46)).there wr.heap.size 0 xs.toArray.size) := by have e : xs.toArray.size = 2 := (by simp [hl]); rw [Hid, e]; exact (BoxL.new wr 46 [.string ⟨#[]⟩, .bool false]).there
      have bV : Below wr.heap.size wr V := by rw [hV]; exact below_setCells ((Below.refl _ _).alloc (Nat.le_refl _) _) (Nat.le_refl _)
      have qV : BoxL V wr.heap.size xs := by rw [hV]; exact box_over8 (BoxL.new wr 46 [.string ⟨#[]⟩, .bool false]) (by rw [hl]; rfl)
      have HWV : Hid (V = (wr.alloc (.cells #[.string ⟨#[]⟩, .bool false] 46)).setCells wr.heap.size 0 xs.toArray.toList) := by rw [Hid, hV]
      clear hV
      have hrV := RClass.firm.kept hr (Kept.below bV)
      have hC := nmClass_calls xs A (L.getD k default) V hrV
      have hsz : (L.getD k default).1.size ≤ 140737488355328 := hr.head10.2
      have HT : Hid ((L.map Prod.fst).take (k + 1) = (L.map Prod.fst).take k ++ [(L.getD k default).1]) := take_map10 Prod.fst hkl
      have HL : Hid (((L.map Prod.fst).take k).length = k) := by rw [Hid, List.length_take, List.length_map]; omega
      have HN : Hid (∀ u, Below V.heap.size V u → Below w.heap.size w u ∧ NmAt u (w.heap.size + 1) ((L.map Prod.fst).take k) ∧ BoxL u w.heap.size [.slice none 0 0, .map none] ∧ u.rangeAt wr.heap.size 0 xs ∧ RClass A u xs (L.getD k default)) := fun u hb => ⟨on2 (on2 hbw bV) hb, hm.on (on2 bV hb), hq.on (on2 bV hb), (qV.on hb).range, RClass.firm.kept hrV (Kept.below hb)⟩
      have HX0 : Hid (V.rangeAt wr.heap.size 0 xs) := qV.range
      clear hr hv hm hq hbw qV bV hrV hB hAB
      generalize (L.getD k default) = x at hC hsz HT HN
      generalize (L.map Prod.fst).take k = N at HT HL HN
      go_wp2_with (first | (refine wpList_load_mid rfl 46 _ rfl B (off + k * 2) rfl xs _ HV0.out Tryz.underlying46 rfl hi ?_) | (refine wpList_load_mid rfl 46 _ rfl B (off + k * 2) rfl xs _ HVz.out Tryz.underlying46 rfl hi ?_) | (refine wpList_store_mid rfl 46 _ _ rfl wr.heap.size 0 xs.toArray rfl rfl HTh.out hia HO.out ?_; refine wpl_w8 HWV.out ?_) | (refine wpList_load_mid rfl 46 _ rfl wr.heap.size 0 rfl xs _ HX0.out Tryz.underlying46 rfl hi ?_) | fail)
      refine hC.mono ?_
      rintro e w6 ⟨rfl, hb6⟩
      obtain ⟨bw6, nm6, q6, r6, R6⟩ := HN.out w6 hb6
      clear hC HTh HO HV0 HVz HWV HX0 hia
      have hlk := nm6.look 80 Tryz.underlying80 hsz
      cases hf : fI N x.1 with
      | some j =>
        rw [hf] at hlk
        have HN3 : Hid (NmAt w6 (w.heap.size + 1) ((L.map Prod.fst).take (k + 1)) ∧ BoxL w6 w.heap.size [.slice none 0 0, .map none] ∧ Below w.heap.size w w6) := ⟨by rw [HT.out]; exact nm6.more hf, q6, bw6⟩
        simp only [Option.isSome_some, Option.getD_some] at hlk
        clear nm6 q6 bw6 r6 R6 HN HT HL hf hb6
        go_wp2_with fail
        go_roundw
        case rel => exact ⟨k + 1, by omega, by go_num, HN3⟩
        case measure => simp [intOf]; omega
      | none =>
        rw [hf] at hlk
        simp only [Option.isSome_none, Option.getD_none] at hlk
        have hC := nmClass_calls xs A x w6 R6
        have HR6 : Hid (w6.rangeAt wr.heap.size 0 xs) := r6
        have HN6 : Hid (∀ u, Below w6.heap.size w6 u → Below w.heap.size w u ∧ NmAt u (w.heap.size + 1) N ∧ BoxL u w.heap.size [.slice none 0 0, .map none]) := fun u hb => ⟨on2 bw6 hb, nm6.on hb, q6.on hb⟩
        clear nm6 q6 bw6 r6 R6 HN hb6
        go_wp2_with (first | (refine wpList_load_mid rfl 46 _ rfl wr.heap.size 0 rfl xs _ HR6.out Tryz.underlying46 rfl hi ?_) | fail)
        refine hC.mono ?_
        rintro e w7 ⟨rfl, hb7⟩
        obtain ⟨bw7, nm7, q7⟩ := HN6.out w7 hb7
        obtain ⟨w8, hup, nm8, hg8⟩ := nm7.put 80 Tryz.underlying80 hsz hf (by have h1 := hbn.out; have h2 := HL.out; omega)
        have HN3 : Hid (NmAt w8 (w.heap.size + 1) ((L.map Prod.fst).take (k + 1)) ∧ BoxL w8 w.heap.size [.slice none 0 0, .map none] ∧ Below w.heap.size w w8) := ⟨by rw [HT.out]; exact nm8, q7.grown10 hg8 (by omega), below_grown10 bw7 hg8 (by omega)⟩
        rw [HL.out] at hup
        clear nm7 q7 bw7 nm8 hg8 HN6 HT HL hf hb7 hC HR6 hlk
        go_wp2_with fail
        go_roundw
        case rel => exact ⟨k + 1, by omega, by go_num, HN3⟩
        case measure => simp [intOf]; omega
    · have htk : (L.map Prod.fst).take k = L.map Prod.fst := List.take_of_length_le (by rw [List.length_map, hnl.out]; omega)
      rw [htk] at hm
      obtain ⟨V, hV⟩ : ∃ V, V = wr.setCells w.heap.size 0 [.slice a n cap, .map (some (w.heap.size + 1))] := ⟨_, rfl⟩
      have HTh : Hid (wr.there w.heap.size 0 (#[.slice a n cap, .map (some (w.heap.size + 1))] : Array Value).size) := hq.there
      have HWV : Hid (V = wr.setCells w.heap.size 0 (#[.slice a n cap, .map (some (w.heap.size + 1))] : Array Value).toList) := by rw [Hid, hV]
      have HOc : Hid ((#[.slice a n cap, .map (some (w.heap.size + 1))] : Array Value).all (·.oneCell') = true) := by rw [Hid]; simp [Value.oneCell']
      have kV : Kept (fun b => b ≠ w.heap.size) wr V := by rw [hV]; exact kept_setCells (fun h => h rfl)
      have qV : BoxL V w.heap.size [.slice a n cap, .map (some (w.heap.size + 1))] := by rw [hV]; exact box_over8 hq rfl
      have HOut : Hid (NmAt V (w.heap.size + 1) (L.map Prod.fst) ∧ w.heap.size ≤ w.heap.size + 1 ∧ Below w.heap.size w V) := ⟨hm.kept kV (by omega), by omega, by rw [hV]; exact below_setCells hbw (by omega)⟩
      have t0 := (qV.2 0 _ rfl).1
      have t1 := (qV.2 1 _ rfl).1
      have hszT : (Tryz.prog.info? 98).map (·.size) = some (#[.slice a n cap, .map (some (w.heap.size + 1))] : Array Value).size := by kernel_rfl
      clear hm hq hbw htk kV qV hV HU
      go_wp2_with (first | (refine wpList_store_mid rfl 98 _ _ rfl w.heap.size 0 #[.slice a n cap, .map (some (w.heap.size + 1))] rfl rfl HTh.out hszT HOc.out ?_; refine wpl_w8 HWV.out ?_) | fail)
      refine bodyPost_ret (v := .agg #[.slice a n cap, .map (some (w.heap.size + 1))]) (by simp [results, Tryz.results48, go_sem, t0, t1, Result.andThen]) rfl ?_
      exact ⟨_, rfl, HOut.out⟩
end Go.Proofs.YtmnldngojgldiaaGreat
namespace Go.Proofs.YtmnldngojgldiaaGreat
open Go.RowKit Go.Maps Go.Sort Go.Shelf
set_option linter.unusedSimpArgs false
set_option maxRecDepth 100000

theorem sorts10 (m : Nat) : AnyZI.SortsIn Tryz.prog Tryz.laysSorted_ren Fence.wide m :=
  ⟨fun blk off cap ss W hH hblk hsz => callsIn_wide.2 (AnyM.slices_Sort_int Tryz.laysSort blk off cap ss W hH hblk hsz),
   fun p cap W => callsIn_wide.2 (AnyM.slices_Sort_int_none Tryz.laysSort p cap W)⟩
theorem mVals_calls (mb : Option Nat) (W : World) : Calls Tryz.prog 47 #[.map mb] W fun e w' => e = .returned (.func (.func 66) #[] #[.pointer (some ⟨W.heap.size, 0, none⟩)]) ∧ w' = W.alloc (.cells #[.map mb] 80) :=
  (callsIn_wide (n := 5)).1 (AnyY.values_in Tryz.laysValues Fence.wide 5 trivial rfl mb W)
theorem chunks_int10 (u : World) (A : Where) : ∀ L : List Int, Chunks RInt 1 A u (L.map (fun c => Value.int .i64 c)) L := fun L => ⟨by simp, fun i hi => ⟨[.int .i64 (L.getD i default)], rfl, fun j hj => by
  obtain rfl : j = 0 := by omega
  rw [Nat.mul_one, Nat.add_zero, List.getElem?_map, List.getD_eq_getElem?_getD, List.getElem?_eq_getElem hi]; rfl⟩⟩
/-- The first ones' places as Go's numbers. -/
abbrev firstsZ (N : List ByteArray) : List Int := (firstsI N).map (fun k : Nat => (k : Int))
def SrtOut (w : World) (N : List ByteArray) (e : Ending) (w' : World) : Prop := ∃ v, e = .returned v ∧ Row RInt 1 (fun _ => False) w w' 3 v (firstsZ N)
set_option maxHeartbeats 2000000 in
theorem sortedV_calls {w : World} {mb : Nat} {N : List ByteArray} (h : NmAt w mb N) (hn : N.length * 8 ≤ 140737488355328) :
    Calls Tryz.prog 46 #[.func (.func 66) #[] #[.pointer (some ⟨w.heap.size, 0, none⟩)]] (w.alloc (.cells #[.map (some mb)] 80)) (SrtOut w N) := by
  obtain ⟨D, hown, hsize, hsort⟩ := h.values
  have hbl := hown.lt
  have hle := firstsI_len N
  have hseq : SeqGives Fence.wide 2 Tryz.prog 66 #[.pointer (some ⟨w.heap.size, 0, none⟩)] encZ (fun xs => ∃ ps, AnyY.AllOf D ps ∧ xs = ps.map (·.2)) (Maps.size D) (w.alloc (.cells #[.map (some mb)] 80)) :=
    (AnyY.values_stops (ρ := Tryz.laysValues_ren) { Tryz.laysValues with } Fence.wide _ trivial rfl (by omega) w.heap.size mb N.length D _ (by simp) (by simp) (by
      obtain ⟨es, clock, hb, Ft, hs, hD⟩ := hown
      exact ⟨es, clock, (Below.heap_alloc _ _ mb hbl).trans hb, Ft, hs, hD⟩)).gives
  have cS := AnyZI.sorted_in Tryz.laysSorted Fence.wide 5 trivial trivial trivial trivial rfl (by omega) (sorts10 _) (enters_of Tryz.func65 (by kernel_rfl) rfl) 66 #[.pointer (some ⟨w.heap.size, 0, none⟩)] trivial (enters_of Tryz.func66 (by kernel_rfl) rfl) _ (Maps.size D) (by have := maxLen9; omega) (by omega) _ hseq
  change CallsIn _ _ Tryz.prog 46 _ _ _ at cS
  refine ((callsIn_wide (n := 5)).1 cS).mono ?_
  rintro e w' ⟨v, ss, rfl, ⟨ps, ⟨hp1, _, hp3⟩, rfl⟩, hrow, _, hb⟩
  have e1 := hsort ps hp1 (fun p hp => hp3 p hp)
  have hlen : (ps.map (·.2)).length = (firstsZ N).length := by
    have := congrArg List.length e1
    rwa [List.length_mergeSort] at this
  refine ⟨v, rfl, (firstsZ N).map (fun c => Value.int .i64 c), ⟨((Below.refl _ w).alloc (Nat.le_refl _) _).trans (hb.mono (by simp)), ?_⟩, chunks_int10 _ _ _⟩
  rw [e1, hlen] at hrow
  exact Go.Joins.ownsRow_le hrow (by simp)
end Go.Proofs.YtmnldngojgldiaaGreat
namespace Go.Proofs.YtmnldngojgldiaaGreat
open Go.RowKit
set_option linter.unusedSimpArgs false


abbrev InfoD := NodeD × List ByteArray × ResD × List Int × List ByteArray
def RInfo : Rep InfoD := RPair RNode (RPair (RSl RStr 1 16) (RPair RRes (RPair (RSl RInt 1 8) (RSl RStr 1 16))))
theorem RInfo.firm : Firm RInfo 15 := Firm.pair RNode.firm (Firm.pair (RSl.firm RStr.firm) (Firm.pair RRes.firm (Firm.pair (RSl.firm RInt.firm) ((RSl.firm RStr.firm)))))
theorem RInfo.out {A : Where} {w : World} {cs : List Value} {x : InfoD} (h : RInfo A w cs x) : ∃ h1 h2 h9 h13 h14 : Hd, cs = [.string x.1.1, .slice h1.1 h1.2.1 h1.2.2, .slice h2.1 h2.2.1 h2.2.2, .bool x.1.2.2.2.1, .int .i64 x.1.2.2.2.2.1.1, .int .i64 x.1.2.2.2.2.1.2.1, .int .i64 x.1.2.2.2.2.1.2.2, .int .i64 x.1.2.2.2.2.2.1, .int .i64 x.1.2.2.2.2.2.2, .slice h9.1 h9.2.1 h9.2.2, .int .i64 x.2.2.1.1, .int .i64 x.2.2.1.2.1, .int .i64 x.2.2.1.2.2, .slice h13.1 h13.2.1 h13.2.2, .slice h14.1 h14.2.1 h14.2.2] ∧ x.1.1.size ≤ 140737488355328 ∧ SlAt RLabel 2 32 A w h1.1 h1.2.1 h1.2.2 x.1.2.1 ∧ SlAt RTaint 3 40 A w h2.1 h2.2.1 h2.2.2 x.1.2.2.1 ∧ SlAt RStr 1 16 A w h9.1 h9.2.1 h9.2.2 x.2.1 ∧ SlAt RInt 1 8 A w h13.1 h13.2.1 h13.2.2 x.2.2.2.1 ∧ SlAt RStr 1 16 A w h14.1 h14.2.1 h14.2.2 x.2.2.2.2 := by
  obtain ⟨l_0, r_0, q_0, f_0, g_0⟩ := h
  obtain ⟨l_0_0, r_0_0, q_0_0, f_0_0, g_0_0⟩ := f_0
  obtain ⟨e_0_0, s_0_0⟩ := f_0_0
  obtain ⟨l_0_1, r_0_1, q_0_1, f_0_1, g_0_1⟩ := g_0_0
  obtain ⟨a_0_1, n_0_1, c_0_1, e_0_1, s_0_1⟩ := f_0_1
  obtain ⟨l_0_2, r_0_2, q_0_2, f_0_2, g_0_2⟩ := g_0_1
  obtain ⟨a_0_2, n_0_2, c_0_2, e_0_2, s_0_2⟩ := f_0_2
  obtain ⟨l_0_3, r_0_3, q_0_3, f_0_3, g_0_3⟩ := g_0_2
  have e_0_3 := f_0_3
  obtain ⟨l_0_4, r_0_4, q_0_4, f_0_4, g_0_4⟩ := g_0_3
  obtain ⟨l_0_4_0, r_0_4_0, q_0_4_0, f_0_4_0, g_0_4_0⟩ := f_0_4
  have e_0_4_0 := f_0_4_0
  obtain ⟨l_0_4_1, r_0_4_1, q_0_4_1, f_0_4_1, g_0_4_1⟩ := g_0_4_0
  have e_0_4_1 := f_0_4_1
  have e_0_4_2 := g_0_4_1
  obtain ⟨l_0_5, r_0_5, q_0_5, f_0_5, g_0_5⟩ := g_0_4
  have e_0_5 := f_0_5
  have e_0_6 := g_0_5
  obtain ⟨l_1, r_1, q_1, f_1, g_1⟩ := g_0
  obtain ⟨a_1, n_1, c_1, e_1, s_1⟩ := f_1
  obtain ⟨l_2, r_2, q_2, f_2, g_2⟩ := g_1
  obtain ⟨l_2_0, r_2_0, q_2_0, f_2_0, g_2_0⟩ := f_2
  have e_2_0 := f_2_0
  obtain ⟨l_2_1, r_2_1, q_2_1, f_2_1, g_2_1⟩ := g_2_0
  have e_2_1 := f_2_1
  have e_2_2 := g_2_1
  obtain ⟨l_3, r_3, q_3, f_3, g_3⟩ := g_2
  obtain ⟨a_3, n_3, c_3, e_3, s_3⟩ := f_3
  obtain ⟨a_4, n_4, c_4, e_4, s_4⟩ := g_3
  exact ⟨(a_0_1, n_0_1, c_0_1), (a_0_2, n_0_2, c_0_2), (a_1, n_1, c_1), (a_3, n_3, c_3), (a_4, n_4, c_4), by rw [q_0, q_0_0, e_0_0, q_0_1, e_0_1, q_0_2, e_0_2, q_0_3, e_0_3, q_0_4, q_0_4_0, e_0_4_0, q_0_4_1, e_0_4_1, e_0_4_2, q_0_5, e_0_5, e_0_6, q_1, e_1, q_2, q_2_0, e_2_0, q_2_1, e_2_1, e_2_2, q_3, e_3, e_4]; rfl, s_0_0, s_0_1, s_0_2, s_1, s_3, s_4⟩
theorem RInfo.mk {A : Where} {w : World} {x : InfoD} {h1 h2 h9 h13 h14 : Hd} (p0 : x.1.1.size ≤ 140737488355328) (p1 : SlAt RLabel 2 32 A w h1.1 h1.2.1 h1.2.2 x.1.2.1) (p2 : SlAt RTaint 3 40 A w h2.1 h2.2.1 h2.2.2 x.1.2.2.1) (p3 : SlAt RStr 1 16 A w h9.1 h9.2.1 h9.2.2 x.2.1) (p4 : SlAt RInt 1 8 A w h13.1 h13.2.1 h13.2.2 x.2.2.2.1) (p5 : SlAt RStr 1 16 A w h14.1 h14.2.1 h14.2.2 x.2.2.2.2) : RInfo A w [.string x.1.1, .slice h1.1 h1.2.1 h1.2.2, .slice h2.1 h2.2.1 h2.2.2, .bool x.1.2.2.2.1, .int .i64 x.1.2.2.2.2.1.1, .int .i64 x.1.2.2.2.2.1.2.1, .int .i64 x.1.2.2.2.2.1.2.2, .int .i64 x.1.2.2.2.2.2.1, .int .i64 x.1.2.2.2.2.2.2, .slice h9.1 h9.2.1 h9.2.2, .int .i64 x.2.2.1.1, .int .i64 x.2.2.1.2.1, .int .i64 x.2.2.1.2.2, .slice h13.1 h13.2.1 h13.2.2, .slice h14.1 h14.2.1 h14.2.2] x :=
  ⟨_, _, rfl, ⟨_, _, rfl, ⟨rfl, p0⟩, ⟨_, _, rfl, ⟨h1.1, h1.2.1, h1.2.2, rfl, p1⟩, ⟨_, _, rfl, ⟨h2.1, h2.2.1, h2.2.2, rfl, p2⟩, ⟨_, _, rfl, rfl, ⟨_, _, rfl, ⟨_, _, rfl, rfl, ⟨_, _, rfl, rfl, rfl⟩⟩, ⟨_, _, rfl, rfl, rfl⟩⟩⟩⟩⟩⟩, ⟨_, _, rfl, ⟨h9.1, h9.2.1, h9.2.2, rfl, p3⟩, ⟨_, _, rfl, ⟨_, _, rfl, rfl, ⟨_, _, rfl, rfl, rfl⟩⟩, ⟨_, _, rfl, ⟨h13.1, h13.2.1, h13.2.2, rfl, p4⟩, ⟨h14.1, h14.2.1, h14.2.2, rfl, p5⟩⟩⟩⟩⟩
end Go.Proofs.YtmnldngojgldiaaGreat
namespace Go.Proofs.YtmnldngojgldiaaGreat
open Go.RowKit
set_option linter.unusedSimpArgs false
set_option maxRecDepth 100000

abbrev iLabs (i : InfoD) : List Lab := i.1.2.1
theorem RInfo.labs10 {A : Where} {w : World} {cs : List Value} {i : InfoD} (h : RInfo A w cs i) : ∃ h1 h14 : Hd, cs[1]? = some (.slice h1.1 h1.2.1 h1.2.2) ∧ cs[8]? = some (.int .i64 i.1.2.2.2.2.2.2) ∧ cs[14]? = some (.slice h14.1 h14.2.1 h14.2.2) ∧ SlAt RLabel 2 32 A w h1.1 h1.2.1 h1.2.2 (iLabs i) ∧ SlAt RStr 1 16 A w h14.1 h14.2.1 h14.2.2 i.2.2.2.2 := by
  obtain ⟨h1, h2, h9, h13, h14, rfl, _, s1, _, _, _, s14⟩ := h.out
  exact ⟨h1, h14, rfl, rfl, rfl, s1, s14⟩
theorem sizeVo10 : (Tryz.prog.info? 49).map (·.size) = some 5 := by kernel_rfl
theorem best_not {fit : VolumeD → Bool} {V : List VolumeD} {k : Nat} (h : fit (V.getD k default) = false) : bestF fit V (k + 1) = bestF fit V k := by
  show (if fit (V.getD k default) = true then _ else _) = _
  rw [h]; rfl
theorem best_new {fit : VolumeD → Bool} {V : List VolumeD} {k : Nat} (h : fit (V.getD k default) = true) (e : bestF fit V k = none) : bestF fit V (k + 1) = some k := by
  show (if fit (V.getD k default) = true then _ else _) = _
  rw [h, e]; rfl
theorem best_old {fit : VolumeD → Bool} {V : List VolumeD} {k b : Nat} (h : fit (V.getD k default) = true) (e : bestF fit V k = some b) : bestF fit V (k + 1) = if lessV (V.getD k default) (V.getD b default) = true then some k else some b := by
  show (if fit (V.getD k default) = true then _ else _) = _
  rw [h, e]; rfl
/-- What lies where behind the calls. -/
def BsS (D : Nat) (c : ClaimD) (l1 : Option Addr) (l2 l3 : Nat) (a2 : Option Addr) (n2 m2 : Nat) (u : World) : Prop :=
  u.cell? ⟨D, 1, none⟩ = some (.int .i64 c.2.1) ∧ u.cell? ⟨D, 2, none⟩ = some (.string c.2.2.1) ∧ u.cell? ⟨D + 1, 1, none⟩ = some (.slice l1 l2 l3) ∧ u.cell? ⟨D + 1 + 1, 2, none⟩ = some (.slice a2 n2 m2)
end Go.Proofs.YtmnldngojgldiaaGreat
namespace Go.Proofs.YtmnldngojgldiaaGreat
open Go.RowKit
set_option linter.unusedSimpArgs false
set_option maxRecDepth 100000

def TwoR (w0 u : World) (v1 v2 : Value) (o : List PickD) (l : List ByteArray) : Prop :=
  Row RLabel 2 (fun _ => False) w0 u 39 v1 o ∧ Row RStr 1 (fun _ => False) w0 u 9 v2 l ∧ ∀ b, v1.ownBlock = some b → v2.ownBlock ≠ some b
theorem TwoR.below {w0 u : World} {v1 v2 : Value} {o : List PickD} {l : List ByteArray} (h : TwoR w0 u v1 v2 o l) : Below w0.heap.size w0 u := h.1.below
theorem TwoR.on {w0 u u' : World} {v1 v2 : Value} {o : List PickD} {l : List ByteArray} (h : TwoR w0 u v1 v2 o l) (hb : Below u.heap.size u u') : TwoR w0 u' v1 v2 o l := ⟨h.1.on RLabel.firm hb, h.2.1.on RStr.firm hb, h.2.2⟩
theorem TwoR.start {w0 : World} {u : World} (hb : Below w0.heap.size w0 u) : TwoR w0 ((u.alloc (.cells #[] 39)).alloc (.cells #[] 9)) (.slice (some ⟨u.heap.size, 0, none⟩) 0 0) (.slice (some ⟨u.heap.size + 1, 0, none⟩) 0 0) [] [] := by
  have h1 : Row RLabel 2 (fun _ => False) w0 (u.alloc (.cells #[] 39)) 39 (.slice (some ⟨u.heap.size, 0, none⟩) 0 0) [] := Row.start _ w0 u _ hb
  have h2 : Row RStr 1 (fun _ => False) w0 ((u.alloc (.cells #[] 39)).alloc (.cells #[] 9)) 9 (.slice (some ⟨(u.alloc (.cells #[] 39)).heap.size, 0, none⟩) 0 0) [] := Row.start _ w0 _ _ h1.below
  refine ⟨h1.on RLabel.firm ((Below.refl _ _).alloc (Nat.le_refl _) _), by simpa using h2, fun b hb hc => ?_⟩
  simp only [Value.ownBlock, Option.some.injEq] at hb hc
  omega
theorem TwoR.fst {w0 u u' : World} {v1 v2 v1' : Value} {o o' : List PickD} {l : List ByteArray} (h : TwoR w0 u v1 v2 o l) (hr : Row RLabel 2 (fun _ => False) w0 u' 39 v1' o') (hg : u.grownBy u' v1.ownBlock) (hw : v1'.ownBlock = v1.ownBlock ∨ v1'.ownBlock = some u.heap.size) : TwoR w0 u' v1' v2 o' l := by
  obtain ⟨h1, h2, h3⟩ := h
  refine ⟨hr, h2.grown RStr.firm hg (fun b hb => ⟨(h1.lt hb).1, h3 b hb, id⟩), fun b hb => ?_⟩
  rcases hw with hw | hw
  · exact h3 b (hw ▸ hb)
  · rw [hw] at hb
    injection hb with hb
    subst hb
    exact fun e => by have := (h2.lt e).2; omega
theorem TwoR.snd {w0 u u' : World} {v1 v2 v2' : Value} {o : List PickD} {l l' : List ByteArray} (h : TwoR w0 u v1 v2 o l) (hr : Row RStr 1 (fun _ => False) w0 u' 9 v2' l') (hg : u.grownBy u' v2.ownBlock) (hw : v2'.ownBlock = v2.ownBlock ∨ v2'.ownBlock = some u.heap.size) : TwoR w0 u' v1 v2' o l' := by
  obtain ⟨h1, h2, h3⟩ := h
  refine ⟨h1.grown RLabel.firm hg (fun b hb => ⟨(h2.lt hb).1, fun e => h3 b e hb, id⟩), hr, fun b hb => ?_⟩
  rcases hw with hw | hw
  · rw [hw]; exact h3 b hb
  · rw [hw]
    intro e
    injection e with e
    have := (h1.lt hb).2
    omega
theorem src_one10 {α : Type} [Inhabited α] {R : Rep α} {k : Nat} (hR : Firm R k) (hF : Flat R) {A : Where} {u : World} {B : Nat} {cs : List Value} {x : α} (hb : BoxL u B cs) (hr : R (fun _ => True) u cs x) : Src R k A u (some ⟨B, 0, none⟩) 1 [x] := by
  have h : SlAt R k 1 (fun _ => True) u (some ⟨B, 0, none⟩) 1 1 [x] := by
    refine ⟨rfl, Nat.le_refl _, (fun h => by cases h), by decide, fun _ => ⟨B, 0, rfl, hb.1, trivial, fun i hi => ?_⟩⟩
    obtain rfl : i = 0 := by omega
    refine ⟨cs, hr, fun j v hj => ?_⟩
    have := (hb.2 j v hj).1
    simpa using this
  exact (h.src hR).flat hF
theorem planL_cons (st : VC) (K : List ClassD) (NL : List Lab) (nm : ByteArray) (r : List ByteArray) (out : List PickD) : planL st K NL (nm :: r) out = match stepP st K NL (out.map Prod.snd) nm with | .error e => .error e | .ok none => planL st K NL r out | .ok (some pk) => planL st K NL r (out ++ [pk]) := rfl
theorem plan_append {st : VC} {K : List ClassD} {NL : List Lab} : ∀ (P Q : List ByteArray) (out : List PickD), planL st K NL (P ++ Q) out = match planL st K NL P out with | .error e => .error e | .ok o => planL st K NL Q o
  | [], Q, out => rfl
  | nm :: P, Q, out => by
    rw [List.cons_append, planL_cons, planL_cons]
    cases stepP st K NL (out.map Prod.snd) nm with
    | error e => rfl
    | ok o =>
      cases o with
      | none => exact plan_append P Q out
      | some pk => exact plan_append P Q (out ++ [pk])
/-- One claim more. -/
theorem plan_step {st : VC} {K : List ClassD} {NL : List Lab} {L : List ByteArray} {k : Nat} {out : List PickD} (hk : k < L.length) (h : planL st K NL (L.take k) [] = .ok out) :
    (∀ e, stepP st K NL (out.map Prod.snd) (L.getD k default) = .error e → planL st K NL L [] = .error e) ∧ (stepP st K NL (out.map Prod.snd) (L.getD k default) = .ok none → planL st K NL (L.take (k + 1)) [] = .ok out) ∧ ∀ pk, stepP st K NL (out.map Prod.snd) (L.getD k default) = .ok (some pk) → planL st K NL (L.take (k + 1)) [] = .ok (out ++ [pk]) := by
  have e1 : L.take (k + 1) = L.take k ++ [L.getD k default] := by rw [List.take_succ_eq_append_getElem hk, List.getD_eq_getElem?_getD, List.getElem?_eq_getElem hk]; rfl
  have e2 : planL st K NL (L.take (k + 1)) [] = planL st K NL [L.getD k default] out := by rw [e1, plan_append, h]
  refine ⟨fun e he => ?_, fun he => ?_, fun pk he => ?_⟩
  · rw [← List.take_append_drop (k + 1) L, plan_append, e2]
    unfold planL
    rw [he]
  · rw [e2]
    unfold planL
    rw [he]
    rfl
  · rw [e2]
    unfold planL
    rw [he]
    rfl
end Go.Proofs.YtmnldngojgldiaaGreat
namespace Go.Proofs.YtmnldngojgldiaaGreat
open Go.RowKit
set_option linter.unusedSimpArgs false
set_option maxRecDepth 100000

end Go.Proofs.YtmnldngojgldiaaGreat
namespace Go.Proofs.YtmnldngojgldiaaGreat
open Go.RowKit
set_option linter.unusedSimpArgs false
set_option maxRecDepth 100000

theorem free_take {L : List VolumeD} {k : Nat} (h : k < L.length) : freeP (L.take (k + 1)) = freeP (L.take k) ++ (if sEq (vCl (L.getD k default)) B0 = true then [(L.getD k default).1] else []) := by
  unfold freeP
  rw [List.take_succ_eq_append_getElem h, List.filter_append, List.map_append, List.getD_eq_getElem?_getD, List.getElem?_eq_getElem h]
  simp only [Option.getD_some]
  generalize L[k] = y
  congr 1
  simp only [List.filter_cons, List.filter_nil]
  split <;> rfl
theorem free_le (L : List VolumeD) : (freeP L).length ≤ L.length := by unfold freeP; rw [List.length_map]; exact List.length_filter_le _ _
theorem infoS10 : (Tryz.prog.info? 9).map (fun i => (i.zero, i.size, i.bytes)) = some (some (.string ⟨#[]⟩), 1, 16) := by kernel_rfl
end Go.Proofs.YtmnldngojgldiaaGreat
namespace Go.Proofs.YtmnldngojgldiaaGreat
open Go.RowKit
set_option linter.unusedSimpArgs false
set_option maxRecDepth 100000

abbrev pClm (p : PodD) : List ByteArray := p.2.2.2.2.2.2.2.2.2.2.2.1
abbrev iDsk (i : InfoD) : List ByteArray := i.2.2.2.2
abbrev iNum (i : InfoD) : Int := i.1.2.2.2.2.2.2
def planD (p : PodD) (i : InfoD) (x : StateD) : List PickD × Int := planP (stVC x) (sKs x) (iLabs i) (pClm p) (iDsk i) (iNum i)
theorem RPod.clm10 {A : Where} {w : World} {cs : List Value} {p : PodD} (h : RPod A w cs p) : ∃ h13 : Hd, cs[13]? = some (.slice h13.1 h13.2.1 h13.2.2) ∧ SlAt RStr 1 16 A w h13.1 h13.2.1 h13.2.2 (pClm p) := by
  obtain ⟨h2, h6, h7, h8, h9, h10, h11, h12, h13, rfl, _, _, _, _, _, _, _, _, _, s13, _⟩ := h.out
  exact ⟨h13, rfl, s13⟩
theorem want10 {c : Prop} [Decidable c] {A B : Prop} (h : c) (k : A) : if c then A else B := by rw [if_pos h]; exact k
/-- What Plan hands back. -/
def PlOut10 (w : World) (r : List PickD × Int) (e : Ending) (w' : World) : Prop := ∃ v, e = .returned (.tuple #[v, .int .i64 r.2]) ∧ Row RLabel 2 (fun _ => False) w w' 39 v r.1
theorem PlOut10.no {w w' : World} {r : List PickD × Int} {e : Int} (hr : r = ([], e)) (hb : Below w.heap.size w w') : PlOut10 w r (.returned (.tuple #[.slice none 0 0, .int .i64 e])) w' := by
  subst hr
  exact ⟨_, rfl, (Row.nil (fun _ => False) w 39).on RLabel.firm hb⟩
theorem Row.sl10 {α : Type} [Inhabited α] {R : Rep α} {k : Nat} (hR : Firm R k) {bytes : Nat} {A : Where} {w0 u : World} {e : TypeId} {v : Value} {L : List α} (h : Row R k A w0 u e v L) (hb : L.length * bytes ≤ 140737488351232) :
    ∃ a n cap, v = .slice a n cap ∧ SlAt R k bytes (fun _ => True) u a n cap L := by
  obtain ⟨xs, h1, h2⟩ := h
  obtain ⟨a, cap, e1, h3⟩ := sl_of_owns (bytes := bytes) hR h1.2 h2 hb
  exact ⟨a, _, cap, e1, h3.weak hR (fun b _ _ => trivial)⟩
theorem infoPk10 : (Tryz.prog.info? 39).map (fun i => (i.zero, i.size, i.bytes)) = some (some (.agg #[.string ⟨#[]⟩, .string ⟨#[]⟩]), 2, 32) := by kernel_rfl
theorem sizeCl10 : (Tryz.prog.info? 44).map (·.size) = some 4 := by kernel_rfl
theorem sizeIn10 : (Tryz.prog.info? 66).map (·.size) = some 15 := by kernel_rfl
end Go.Proofs.YtmnldngojgldiaaGreat
namespace Go.Proofs.YtmnldngojgldiaaGreat
open Go.RowKit Go.Maps
set_option linter.unusedSimpArgs false
set_option maxRecDepth 100000

/-- Those that count: the first one of each name. -/
def allL {α : Type} [Inhabited α] (f : α → ByteArray) (L : List α) : List α := (firstsI (L.map f)).map (fun k => L.getD k default)
theorem allL_once {α : Type} [Inhabited α] (f : α → ByteArray) {L : List α} (h : (L.map f).Nodup) : allL f L = L := by
  unfold allL
  rw [firstsI_nodup h, List.length_map]
  apply List.ext_getElem
  · simp
  · intro i h1 h2
    simp [List.getD_eq_getElem?_getD, h2]
theorem allL_len {α : Type} [Inhabited α] (f : α → ByteArray) (L : List α) : (allL f L).length = (firstsI (L.map f)).length := by unfold allL; rw [List.length_map]
theorem allL_le {α : Type} [Inhabited α] (f : α → ByteArray) (L : List α) : (allL f L).length ≤ L.length := by have := firstsI_len (L.map f); rw [allL_len]; rwa [List.length_map] at this
/-- The one at k, and where it stands. -/
theorem allL_at {α : Type} [Inhabited α] (f : α → ByteArray) {L : List α} {k : Nat} (h : k < (firstsI (L.map f)).length) : (firstsI (L.map f)).getD k default < L.length ∧ (allL f L).take (k + 1) = (allL f L).take k ++ [L.getD ((firstsI (L.map f)).getD k default) default] ∧ (firstsZ (L.map f)).getD k default = (((firstsI (L.map f)).getD k default : Nat) : Int) := by
  have hm : (firstsI (L.map f)).getD k default ∈ firstsI (L.map f) := by rw [List.getD_eq_getElem?_getD, List.getElem?_eq_getElem h]; exact List.getElem_mem h
  obtain ⟨s, hs⟩ := (mem_firstsI _ _).1 hm
  have h1 := (fI_some hs).1
  rw [List.length_map] at h1
  refine ⟨h1, ?_, ?_⟩
  · have h2 : k < (allL f L).length := by rw [allL_len]; exact h
    have e : (allL f L)[k]? = some (L.getD ((firstsI (L.map f)).getD k default) default) := by
      unfold allL
      rw [List.getElem?_map, List.getD_eq_getElem?_getD (l := firstsI (L.map f)), List.getElem?_eq_getElem h]
      rfl
    rw [List.take_add_one, e]
    rfl
  · unfold firstsZ
    rw [List.getD_eq_getElem?_getD, List.getElem?_map, List.getD_eq_getElem?_getD, List.getElem?_eq_getElem h]
    rfl
theorem NmAt.len {w : World} {mb : Nat} {N : List ByteArray} (h : NmAt w mb N) (ty : TypeId) : (Builtin.len_ #[80] ty #[.map (some mb)]).run Tryz.prog w = .ok (.int .i64 ((firstsI N).length : Int)) w := by
  obtain ⟨D, h1, h2, _⟩ := h.values
  have := h1.len Tryz.underlying80 ty
  rw [h2] at this
  exact this
section
variable {α : Type} [Inhabited α] {R : Rep α} {k : Nat}
theorem src_box10 (hR : Firm R k) {A : Where} {u : World} {B : Nat} {cs : List Value} {x : α} (hb : BoxL u B cs) (hr : R A u cs x) : Src R k A u (some ⟨B, 0, none⟩) 1 [x] := by
  refine ⟨rfl, .inr ⟨⟨B, 0, none⟩, cs, rfl, ⟨by rw [hR.len hr]; simp, fun i hi => ?_⟩, fun j y hj => ?_, hR.one hr⟩⟩
  · obtain rfl : i = 0 := by simpa using hi
    exact ⟨cs, hr, fun j _ => by rw [Nat.zero_mul, Nat.zero_add]⟩
  · have := (hb.2 j y hj).1
    by_cases h0 : j = 0
    · subst h0; simpa [Addr.add] using this
    · simpa [Addr.add, h0] using this
/-- A row that grows, beside places told by numbers, that stay. -/
def Beside (R : Rep α) (k : Nat) (A : Where) (w u : World) (e : TypeId) (v s : Value) (L : List α) (Z : List Int) : Prop :=
  Row R k A w u e v L ∧ Row RInt 1 (fun _ => False) w u 3 s Z ∧ ∀ b, v.ownBlock = some b → s.ownBlock ≠ some b
theorem Beside.below {A : Where} {w u : World} {e : TypeId} {v s : Value} {L : List α} {Z : List Int} (h : Beside R k A w u e v s L Z) : Below w.heap.size w u := h.1.below
theorem Beside.on (hR : Firm R k) {A : Where} {w u u' : World} {e : TypeId} {v s : Value} {L : List α} {Z : List Int} (h : Beside R k A w u e v s L Z) (hb : Below u.heap.size u u') : Beside R k A w u' e v s L Z := ⟨h.1.on hR hb, h.2.1.on RInt.firm hb, h.2.2⟩
theorem Beside.app {A : Where} {w u u' : World} {e : TypeId} {v v' s : Value} {L L' : List α} {Z : List Int} (h : Beside R k A w u e v s L Z) (hr : Row R k A w u' e v' L') (hg : u.grownBy u' v.ownBlock) (hw : v'.ownBlock = v.ownBlock ∨ v'.ownBlock = some u.heap.size) : Beside R k A w u' e v' s L' Z := by
  obtain ⟨h1, h2, h3⟩ := h
  refine ⟨hr, h2.grown RInt.firm hg (fun b hb => ⟨(h1.lt hb).1, h3 b hb, id⟩), fun b hb => ?_⟩
  rcases hw with hw | hw
  · exact h3 b (hw ▸ hb)
  · rw [hw] at hb
    injection hb with hb
    subst hb
    exact fun e => by have := (h2.lt e).2; omega
end
/-- What all hands back. -/
def AllOut {α : Type} [Inhabited α] (R : Rep α) (k : Nat) (A : Where) (ty : TypeId) (w : World) (L : List α) (e : Ending) (w' : World) : Prop := ∃ v, e = .returned v ∧ Row R k A w w' ty v L
end Go.Proofs.YtmnldngojgldiaaGreat
