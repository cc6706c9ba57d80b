/- The program's Scores. Condition: the frame lies as is said of it. The program's frame keeps what is asked of it. No condition. Arguments as they come in: texts and slices of structs, read off memory. No condition beyond the row's own reach. Arguments as they come in, whatever their type: read off memory, they lie as said. No condition beyond the row's own reach. Arguments of the program's struct types, as they come in. No condition beyond the row's own reach. Arguments of layer 17's laws as they come in. No condition beyond the row's own reach. What the carded laws need of the row's form: the world with the library's tables laid. No condition. -/
import Derived.Test.YtoacbobchngooaaDoorQ14
import Derived.Test.YtoacbobchngooaaDoorQ07
import Derived.OwnWalk
import Derived.Test.YtoacbobchngooaaDoorQ01
import Derived.Deep.Slices
import Derived.Deep.Strs
import Derived.SizedLaws
import Derived.Test.YtoacbobchngooaaDoorQ03
import Derived.Test.YtoacbobchngooaaDoorQ05
import Derived.Test.YtoacbobchngooaaDoorCards
import Derived.Test.YtoacbobchngooaaDoorTie
import Derived.Lib.LaidTab
namespace Go.Proofs.YtoacbobchngooaaDoor
open Go.RowKit Go.Maps
set_option linter.unusedSimpArgs false
set_option maxRecDepth 100000

theorem row_made17 {w0 w w' : World} {e : TypeId} {n : Nat} {g : Nat} (h : w'.ownsRow w0.heap.size e 1 (.slice (some ⟨g, 0, none⟩) n n) n (madeCells (Value.int .i64 0).cells (n * 1)).toList) (hb0 : Below w0.heap.size w0 w) (hg : w.grownBy w' none) : Row RInt 1 (fun _ => False) w0 w' e (.slice (some ⟨g, 0, none⟩) n n) (List.replicate n (0 : Int)) := by
  have e1 : (madeCells (Value.int .i64 0).cells (n * 1)).toList = List.replicate n (Value.int .i64 0) := by rw [Nat.mul_one]; exact toList_madeCells_one _ _
  rw [e1] at h
  refine ⟨List.replicate n (Value.int .i64 0), ⟨hb0.grown hg hb0.size (fun b hb => by cases hb), by rw [List.length_replicate]; exact h⟩, by simp, fun i hi => ?_⟩
  rw [List.length_replicate] at hi
  refine ⟨[.int .i64 0], ?_, fun j hj => ?_⟩
  · show [Value.int .i64 0] = [.int .i64 ((List.replicate n (0 : Int)).getD i default)]
    rw [List.getD_eq_getElem?_getD, List.getElem?_replicate, if_pos hi]; rfl
  · obtain rfl : j = 0 := by omega
    rw [Nat.mul_one, Nat.add_zero, List.getElem?_replicate, if_pos hi]; rfl
theorem rowI_set17 {w0 u : World} {e : TypeId} {g n cap k : Nat} {L : List Int} (x : Int) (h : Row RInt 1 (fun _ => False) w0 u e (.slice (some ⟨g, 0, none⟩) n cap) L) (hn : L.length = n) (hk : k < n) : Row RInt 1 (fun _ => False) w0 (u.setCell ⟨g, k, none⟩ (.int .i64 x)) e (.slice (some ⟨g, 0, none⟩) n cap) (L.set k x) := by
  subst hn
  have r := h.setG RInt.firm (i := k) (j := 0) (val := .int .i64 x) (x := x) hk (by decide) (fun B cs hr => by obtain rfl : cs = _ := hr; rfl)
  rwa [Nat.mul_one, Nat.add_zero] at r
theorem rowI_get17 {w0 u : World} {e : TypeId} {g n cap k : Nat} {L : List Int} (h : Row RInt 1 (fun _ => False) w0 u e (.slice (some ⟨g, 0, none⟩) n cap) L) (hn : L.length = n) (hk : k < n) : u.cell? ⟨g, k, none⟩ = some (.int .i64 (L.getD k default)) ∧ u.frozen? ⟨g, k, none⟩ = false := by
  subst hn
  obtain ⟨g', c', cs, e1, _, hr, hc⟩ := h.getG RInt.firm hk
  simp only [Value.slice.injEq, Option.some.injEq, Addr.mk.injEq, and_true, true_and] at e1
  obtain ⟨rfl, _⟩ := e1
  obtain rfl : cs = _ := hr
  refine ⟨?_, h.meltsG⟩
  have := hc 0 _ rfl
  rwa [Nat.mul_one, Nat.add_zero] at this
theorem infoIntX : ∃ i, Tryd.prog.info? 3 = some i ∧ i.zero = some (.int .i64 0) ∧ i.size = 1 ∧ i.bytes = 8 := by
  have h := infoIntF
  cases e : Tryd.prog.info? 3 with
  | none => rw [e] at h; cases h
  | some i => rw [e] at h; simp only [Option.map_some, Option.some.injEq, Prod.mk.injEq] at h; exact ⟨i, rfl, h.1, h.2.1, h.2.2⟩
/-- The sums, where plugin j has come to place k. -/
def sumsP (L : List PlugD) (m j k : Nat) : List Int := (List.range m).map fun q => if q < k then scoreTo L q (j + 1) else scoreTo L q j
theorem sums_len (L : List PlugD) (m j k : Nat) : (sumsP L m j k).length = m := by unfold sumsP; rw [List.length_map, List.length_range]
theorem sums_get (L : List PlugD) {m j k : Nat} (hk : k < m) : (sumsP L m j k).getD k default = scoreTo L k j := by
  unfold sumsP
  rw [List.getD_eq_getElem?_getD, List.getElem?_map, List.getElem?_range hk]
  show (if k < k then scoreTo L k (j + 1) else scoreTo L k j) = _
  rw [if_neg (Nat.lt_irrefl _)]
theorem sums_zero (L : List PlugD) (m : Nat) : sumsP L m 0 0 = List.replicate m 0 := by
  unfold sumsP
  rw [List.eq_replicate_iff]
  refine ⟨by rw [List.length_map, List.length_range], fun b hb => ?_⟩
  obtain ⟨q, _, rfl⟩ := List.mem_map.1 hb
  rw [if_neg (Nat.not_lt_zero _)]; rfl
theorem sums_set (L : List PlugD) {m j k : Nat} (_hk : k < m) : (sumsP L m j k).set k (scoreTo L k (j + 1)) = sumsP L m j (k + 1) := by
  unfold sumsP
  apply List.ext_getElem (by simp)
  intro q h1 h2
  rw [List.getElem_set]
  simp only [List.getElem_map, List.getElem_range]
  by_cases e : k = q
  · subst e; rw [if_pos rfl, if_pos (by omega)]
  · rw [if_neg e]
    by_cases hq : q < k
    · rw [if_pos hq, if_pos (by omega)]
    · rw [if_neg hq, if_neg (by omega)]
theorem sums_next (L : List PlugD) (m j : Nat) : sumsP L m j m = sumsP L m (j + 1) 0 := by
  unfold sumsP
  apply List.map_congr_left
  intro q hq
  rw [if_pos (List.mem_range.1 hq), if_neg (Nat.not_lt_zero _)]
theorem sums_all (L : List PlugD) {m : Nat} (hm : (plS (L.getD 0 default)).length = m) : sumsP L m L.length 0 = scoresP L := by
  unfold sumsP scoresP
  rw [hm]
  apply List.map_congr_left
  intro q hq
  rw [if_neg (Nat.not_lt_zero _)]
  unfold scoreTo; rw [List.take_length]
set_option maxHeartbeats 8000000 in
theorem scores_calls {S : Where} {w u : World} {p : Nat} {b c : Value} {C : List (Int × Int)} {f : FrD} (h : PfE S w u p b c C f) :
    Calls Tryd.prog 19 #[.pointer (some ⟨p, 0, none⟩)] u fun e w' => ∃ v, e = .returned v ∧ Row RInt 1 (fun _ => False) u w' 3 v (scoresP f.1) := by
  have hM := made_calls h
  have h64 := h.h64
  obtain ⟨n, hn⟩ : ∃ n, n = f.1.length := ⟨_, rfl⟩
  have hnl : Hid (f.1.length = n) := hn.symm
  have HV : Hid (newB f.1 = true) := h.hv
  obtain ⟨ba, bk, rfl, hbg⟩ := h.form
  have d1 := h.cells.1.2.1
  have Hh : Hid (∀ z, Below u.heap.size u z → PfE S w z p (.slice ba f.1.length bk) c C f) := fun z hz => h.on hz
  rw [← hn] at h64 hbg d1 Hh
  have HBG : Hid (0 < n → ∃ g, ba = some ⟨g, 0, none⟩) := hbg
  by_cases hn0 : n = 0
  · have hnz : ((n : Int) == 0) = true := by subst hn0; rfl
    have HE : Hid (Row RInt 1 (fun _ => False) u u 3 (.slice none 0 0) (scoresP f.1)) := by
      have e : f.1 = [] := List.length_eq_zero_iff.1 (by rw [hnl.out]; exact hn0)
      have e2 : scoresP f.1 = [] := by rw [e]; rfl
      rw [e2]; exact Row.nil _ _ _
    clear h hbg Hh HBG hn hn0
    go_enter Tryd.func19, Tryd.ntmps19
    go_wp2_with fail
    refine hM.mono ?_
    rintro e w1 ⟨rfl, rfl⟩
    clear hM
    go_wp2_with fail
    go_ret
    exact ⟨_, rfl, HE.out⟩
  have hnz : ((n : Int) == 0) = false := by have h9 : (n : Int) ≠ 0 := (by omega); simpa using h9
  have hnp : 0 < n := by omega
  obtain ⟨g, rfl⟩ := hbg hnp
  obtain ⟨g', k', s0a, m, s0c, e, hgl, hv0, _, hs0⟩ := h.plug (i := 0) (by omega)
  simp only [Value.slice.injEq, Option.some.injEq, Addr.mk.injEq, and_true, true_and] at e
  obtain ⟨rfl, -, rfl⟩ := e
  have HM : Hid ((plS (f.1.getD 0 default)).length = m) := hs0.1
  have hmb : m * 8 ≤ 140737488351232 := hs0.2.2.2.1
  have hml : m < 1000000000000000 := by omega
  have hmk : m ≤ maxLen := by unfold maxLen; omega
  have hmb2 : 8 * m ≤ 281474976710656 := by omega
  have d6 := hv0 6 _ rfl
  rw [Nat.zero_mul, Nat.zero_add] at d6
  obtain ⟨ii, hi1, hi2, hi3, hi4⟩ := infoIntX
  clear h hbg hn hv0 hs0 hn0
  go_enter Tryd.func19, Tryd.ntmps19
  go_wp2_with fail
  refine hM.mono ?_
  rintro e w1 ⟨rfl, rfl⟩
  clear hM
  --M0
  go_wp2_with (first | (refine wpList_make_full w1 rfl _ _ 23 rfl w1.heap.size 3 ii (.int .i64 0) 1 Tryd.underlying23 hi1 hi2 hi3 .i64 .i64 _ _ m rfl rfl rfl rfl (by rw [hi4]; exact hmb2) hmk (Nat.le_refl _) ?_; intro w2 hr2 hg2; have hbw2 : Below w1.heap.size w1 w2 := (row_made17 hr2 (Below.refl _ _) hg2).below; have d2 := (Hh.out w2 hbw2).cells.1.2.1) | fail)
  --M1
  have HR0 : Hid (Row RInt 1 (fun _ => False) w1 w2 3 (.slice (some ⟨w1.heap.size, 0, none⟩) m m) (sumsP f.1 m 0 0)) := by
    have h := row_made17 hr2 (Below.refl _ _) hg2
    rw [Hid, sums_zero]; exact h
  obtain ⟨r, hrr⟩ : ∃ r, r = w1.heap.size := ⟨_, rfl⟩
  rw [← hrr] at HR0
  rw [← hrr]
  clear hr2 hg2 hi1 hi2 hi3 hi4 hmk hmb2 hmb d1 d6 hbw2 d2 hrr
  go_loopw [34] (fun i z => ∃ j : Nat, j ≤ n ∧ i = .int .i64 j ∧ Hid (Row RInt 1 (fun _ => False) w1 z 3 (.slice (some ⟨r, 0, none⟩) m m) (sumsP f.1 m j 0))) (fun i _ => n - (intOf i).toNat)
  case atStart => exact ⟨0, Nat.zero_le _, rfl, HR0⟩
  case round =>
    clear HR0
    obtain ⟨j, hj, rfl, hrun⟩ := hrel
    by_cases hlt : j < n
    case neg =>
      have hltz : ¬ (j : Int) < (n : Int) := by omega
      have HE : Hid (Row RInt 1 (fun _ => False) w1 wr 3 (.slice (some ⟨r, 0, none⟩) m m) (scoresP f.1)) := by
        have h := hrun.out
        rw [show j = f.1.length by rw [hnl.out]; omega, sums_all f.1 HM.out] at h
        exact h
      clear hrun
      go_wp2_with fail
      go_ret
      exact ⟨_, rfl, HE.out⟩
    have hltz : (j : Int) < (n : Int) := by omega
    have hjl : j < f.1.length := by rw [hnl.out]; exact hlt
    have hz := Hh.out wr hrun.out.below
    obtain ⟨g', k', sa, sn, sc, e, hgl2, hv, _, hss⟩ := hz.plug hjl
    simp only [Value.slice.injEq, Option.some.injEq, Addr.mk.injEq, and_true, true_and] at e
    obtain ⟨rfl, -, rfl⟩ := e
    obtain ⟨⟨y1, y2⟩, hln, hsc⟩ := plug_ok HV.out hjl
    have hsn : sn = m := by have := hss.1; rw [hln, HM.out] at this; exact this.symm
    subst hsn
    obtain ⟨x, hx⟩ : ∃ x, x = f.1.getD j default := ⟨_, rfl⟩
    have HSs : Hid (∀ z, Below w1.heap.size w1 z → SlAt RInt 1 8 S z sa sn sc (plS x)) := fun z hzz => by
      obtain ⟨g2, k2, sa2, sn2, sc2, e2, _, hv2, _, hss2⟩ := (Hh.out w1 (Below.refl _ _)).plug hjl
      simp only [Value.slice.injEq, Option.some.injEq, Addr.mk.injEq, and_true, true_and] at e2
      obtain ⟨rfl, -, rfl⟩ := e2
      have e6 := (hrun.out.below.cell (p := ⟨g, j * 8 + 6, none⟩) hgl).trans (hv2 6 _ rfl)
      rw [hv 6 _ rfl] at e6
      simp only [Option.some.injEq, Value.slice.injEq] at e6
      obtain ⟨rfl, rfl, rfl⟩ := e6
      rw [hx]; exact hss2.on RInt.firm hzz
    rw [← hx] at hv y1 y2 hsc
    obtain ⟨xs, hxs⟩ : ∃ x, x = f.2.1.getD j default := ⟨_, rfl⟩
    rw [← hxs] at hv
    obtain ⟨x1, hx1⟩ : ∃ y, y = x.1 := ⟨_, rfl⟩
    obtain ⟨x2, hx2⟩ : ∃ y, y = x.2.1 := ⟨_, rfl⟩
    obtain ⟨x3, hx3⟩ : ∃ y, y = x.2.2.1 := ⟨_, rfl⟩
    obtain ⟨x4, hx4⟩ : ∃ y, y = x.2.2.2.1 := ⟨_, rfl⟩
    obtain ⟨x5, hx5⟩ : ∃ y, y = x.2.2.2.2.1 := ⟨_, rfl⟩
    obtain ⟨x6, hx6⟩ : ∃ y, y = plW x := ⟨_, rfl⟩
    rw [← hx1, ← hx2, ← hx3, ← hx4, ← hx5, ← hx6] at hv
    rw [← hx6] at y1 y2
    have d0 := hv 0 _ rfl
    have d1 := hv 1 _ rfl
    have d2 := hv 2 _ rfl
    have d3 := hv 3 _ rfl
    have d4 := hv 4 _ rfl
    have d5 := hv 5 _ rfl
    have d6 := hv 6 _ rfl
    have d7 := hv 7 _ rfl
    rw [Nat.add_zero] at d0
    obtain ⟨W3, hW3⟩ : ∃ Z, Z = wr.alloc (.cells #[.string x1, .int .i64 x2, .int .i64 x3, .int .i64 x4, .int .i64 x5, .int .i64 x6, .slice sa sn sc, .bool xs] 59) := ⟨_, rfl⟩
    have b3 : Below wr.heap.size wr W3 := by rw [hW3]; exact (Below.refl _ _).alloc (Nat.le_refl _) _
    have q3 : BoxL W3 wr.heap.size [.string x1, .int .i64 x2, .int .i64 x3, .int .i64 x4, .int .i64 x5, .int .i64 x6, .slice sa sn sc, .bool xs] := by rw [hW3]; exact BoxL.new wr 59 _
    have HW3 : Hid (wr.alloc (.cells #[.string x1, .int .i64 x2, .int .i64 x3, .int .i64 x4, .int .i64 x5, .int .i64 x6, .slice sa sn sc, .bool xs] 59) = W3) := hW3.symm
    obtain ⟨B, hB⟩ : ∃ B, B = wr.heap.size := ⟨_, rfl⟩
    have HBB : Hid (wr.heap.size = B) := hB.symm
    rw [← hB] at q3
    have e6 := (q3.2 6 _ rfl).1
    have HrB : Hid (r ≠ B) := by have h9 := (hrun.out.lt (b := r) rfl).2; rw [Hid]; omega
    have HBw : Hid (w1.heap.size ≤ B) := by have h9 := hrun.out.below.size; rw [Hid]; omega
    have H0 : Hid (Row RInt 1 (fun _ => False) w1 W3 3 (.slice (some ⟨r, 0, none⟩) sn sn) (sumsP f.1 sn j 0) ∧ BoxL W3 B [.string x1, .int .i64 x2, .int .i64 x3, .int .i64 x4, .int .i64 x5, .int .i64 x6, .slice sa sn sc, .bool xs]) := ⟨hrun.out.on RInt.firm b3, q3⟩
    have hsc' : Hid (∀ k, 0 ≤ (plS x).getD k default ∧ (plS x).getD k default ≤ 100) := hsc
    have hstep : Hid (∀ k, scoreTo f.1 k (j + 1) = scoreTo f.1 k j + (plS x).getD k default * x6) := fun k => by rw [hx6, hx]; exact scoreTo_step f.1 k hjl
    have hsin : Hid (∀ k, 0 ≤ scoreTo f.1 k j ∧ scoreTo f.1 k j ≤ 10000 * (j : Int)) := fun k => scoreTo_in HV.out k j (by omega)
    clear hrun hz hv hss hsc hln hxs hx hx1 hx2 hx3 hx4 hx5 hx6 hB hW3 b3 q3 hgl2
    go_upto_region 7 with fail
    rw [HW3.out, HBB.out]
    clear d0 d1 d2 d3 d4 d5 d6 d7 HW3
    go_wp2_with fail
    clear e6
    --M2
    go_loopw [42] (fun i z => ∃ k : Nat, k ≤ sn ∧ i = .int .i64 k ∧ Hid (Row RInt 1 (fun _ => False) w1 z 3 (.slice (some ⟨r, 0, none⟩) sn sn) (sumsP f.1 sn j k) ∧ BoxL z B [.string x1, .int .i64 x2, .int .i64 x3, .int .i64 x4, .int .i64 x5, .int .i64 x6, .slice sa sn sc, .bool xs])) (fun i _ => sn - (intOf i).toNat)
    case atStart => exact ⟨0, Nat.zero_le _, rfl, H0⟩
    case round =>
      clear H0
      rename World => V
      obtain ⟨k, hk, rfl, hru⟩ := hrel
      by_cases hkl : k < sn
      case neg =>
        have hkz : ¬ (k : Int) < (sn : Int) := by omega
        have HE : Hid (Row RInt 1 (fun _ => False) w1 V 3 (.slice (some ⟨r, 0, none⟩) sn sn) (sumsP f.1 sn (j + 1) 0)) := by
          have h := hru.out.1
          rw [show k = sn by omega, sums_next] at h
          exact h
        clear hru
        go_wp2_with fail
        go_roundw
        case rel => exact ⟨j + 1, by omega, by go_num, HE⟩
        case measure => simp [intOf]; omega
      have hkz : (k : Int) < (sn : Int) := by omega
      obtain ⟨E, oe, rfl, hE, hAE, es, hre, hve⟩ := (HSs.out V hru.out.1.below).get hkl
      obtain rfl : es = [.int .i64 ((plS x).getD k default)] := hre
      have s0 := hve 0 _ rfl
      rw [Nat.add_zero, Nat.mul_one] at s0
      have c0 := rowI_get17 hru.out.1 (sums_len _ _ _ _) hkl
      rw [sums_get f.1 hkl] at c0
      have hset := rowI_set17 (scoreTo f.1 k (j + 1)) hru.out.1 (sums_len _ _ _ _) hkl
      rw [sums_set f.1 hkl] at hset
      have h5 := hru.out.2
      obtain ⟨⟨ys1, ys2⟩, ⟨si1, si2⟩, hst⟩ := (show _ ∧ _ ∧ _ from ⟨hsc'.out k, hsin.out k, hstep.out k⟩)
      obtain ⟨ys, hys⟩ : ∃ y, y = (plS x).getD k default := ⟨_, rfl⟩
      obtain ⟨sk, hsk⟩ : ∃ y, y = scoreTo f.1 k j := ⟨_, rfl⟩
      rw [← hys] at s0 ys1 ys2 hst
      rw [← hsk] at c0 si1 si2 hst
      obtain ⟨q, hq⟩ : ∃ q, q = ys * x6 := ⟨_, rfl⟩
      have hqq : ys * x6 = q := hq.symm
      have hq0 : 0 ≤ q ∧ q ≤ 10000 := by
        rw [hq]; exact ⟨Int.mul_nonneg ys1 y1, Int.mul_le_mul ys2 y2 y1 (by decide : (0 : Int) ≤ 100)⟩
      rw [← hq] at hst
      rw [hst] at hset
      have hin2 : 0 ≤ sk ∧ sk ≤ 640000 := by omega
      have hw1 : IntKind.i64.wrap q = q := by simp [IntKind.wrap, IntKind.bits, IntKind.signed]; omega
      have hw2 : IntKind.i64.wrap (sk + q) = sk + q := by simp [IntKind.wrap, IntKind.bits, IntKind.signed]; omega
      have HCl : Hid (V.cell? ⟨r, k, none⟩ = some (.int .i64 sk) ∧ r < V.heap.size) := ⟨c0.1, (hru.out.1.lt (b := r) rfl).2⟩
      have HFz : Hid (∀ z, Kept (fun y => y = r ∨ y = B) V z → z.frozen? ⟨r, k, none⟩ = false) := fun z hz => (World.frozen?_of_block (hz.2 r (.inl rfl) HCl.out.2)).trans c0.2
      have HC : Hid (∀ z, Kept (fun y => y = r ∨ y = B) V z → z.cell? ⟨r, k, none⟩ = some (.int .i64 sk) ∧ z.cell? ⟨B, 5, none⟩ = some (.int .i64 x6)) := fun z hz => ⟨(hz.cell (p := ⟨r, k, none⟩) (.inl rfl) HCl.out.2).trans HCl.out.1, ((h5.kept hz (.inr rfl)).2 5 _ rfl).1⟩
      have HE : Hid (∀ z, Below V.heap.size V z → Row RInt 1 (fun _ => False) w1 (z.setCell ⟨r, k, none⟩ (.int .i64 (sk + q))) 3 (.slice (some ⟨r, 0, none⟩) sn sn) (sumsP f.1 sn j (k + 1)) ∧ BoxL (z.setCell ⟨r, k, none⟩ (.int .i64 (sk + q))) B [.string x1, .int .i64 x2, .int .i64 x3, .int .i64 x4, .int .i64 x5, .int .i64 x6, .slice (some ⟨E, oe, none⟩) sn sc, .bool xs]) := fun z hz => by
        have h9 := rowI_set17 (sk + q) (hru.out.1.on RInt.firm hz) (sums_len _ _ _ _) hkl
        rw [← hst, sums_set f.1 hkl] at h9
        rw [hst] at h9
        exact ⟨h9, (hru.out.2.on hz).other (p := ⟨r, k, none⟩) HrB.out _⟩
      clear hru hset hve h5 c0 hst hys hsk hq hAE hE
      go_upto_region 10 with fail
      clear s0
      --M3
      have hb0 : Below V.heap.size V V.drew := (Below.refl _ _).drew
      refine u0 11 (fun z => Kept (fun y => y = r ∨ y = B) V z) (Kept.below hb0) (fun hHeld => ?_)
      have Hd : Hid (Below V.heap.size V V.drew) := hb0
      generalize hwd : V.drew = wd at hHeld Hd ⊢
      clear hwd hb0
      try go_frame
      refine' uk 0 ?_ ?_; rotate_left
      · intro z hz; obtain ⟨f0, f1⟩ := HC.out z hz; clear hz; go_simp; try with_reducible rfl
      try go_frame
      refine' uk 1 ?_ ?_; rotate_left
      · intro z hz; obtain ⟨f0, f1⟩ := HC.out z hz; clear hz; go_simp; try with_reducible rfl
      try go_frame
      refine' uk 2 ?_ ?_; rotate_left
      · intro z hz; obtain ⟨f0, f1⟩ := HC.out z hz; clear hz; go_simp; try with_reducible rfl
      try go_frame
      refine' uk 3 ?_ ?_; rotate_left
      · intro z hz; obtain ⟨f0, f1⟩ := HC.out z hz; clear hz; go_simp; try with_reducible rfl
      try go_frame
      refine' uk 4 ?_ ?_; rotate_left
      · intro z hz; obtain ⟨f0, f1⟩ := HC.out z hz; clear hz; go_simp; try with_reducible rfl
      try go_frame
      refine' uk 5 ?_ ?_; rotate_left
      · intro z hz; obtain ⟨f0, f1⟩ := HC.out z hz; clear hz; go_simp; try with_reducible rfl
      try go_frame
      refine' uk 6 ?_ ?_; rotate_left
      · intro z hz; obtain ⟨f0, f1⟩ := HC.out z hz; clear hz; go_simp; try with_reducible rfl
      try go_frame
      refine' uk 7 ?_ ?_; rotate_left
      · intro z hz; obtain ⟨f0, f1⟩ := HC.out z hz; clear hz; go_simp; try with_reducible rfl
      try go_frame
      refine' uk 8 ?_ ?_; rotate_left
      · intro z hz; obtain ⟨f0, f1⟩ := HC.out z hz; clear hz; go_simp; try with_reducible rfl
      try go_frame
      refine' uk 9 ?_ ?_; rotate_left
      · intro z hz; obtain ⟨f0, f1⟩ := HC.out z hz; clear hz; go_simp; try with_reducible rfl
      try go_frame
      refine' uk 10 ?_ ?_; rotate_left
      · intro z hz; obtain ⟨f0, f1⟩ := HC.out z hz; clear hz; go_simp; try with_reducible rfl
      try go_frame
      --M4
      refine uz 11 (fun K hK => ?_)
      have g0 := (HC.out wd hHeld).1
      have g1 := HFz.out wd hHeld
      go_simp
      have HE2 := HE.out wd Hd.out
      obtain ⟨W5, hW5⟩ : ∃ Z, Z = wd.setCell ⟨r, k, none⟩ (.int .i64 (sk + q)) := ⟨_, rfl⟩
      rw [← hW5] at HE2 ⊢
      have HE3 : Hid (Row RInt 1 (fun _ => False) w1 W5 3 (.slice (some ⟨r, 0, none⟩) sn sn) (sumsP f.1 sn j (k + 1)) ∧ BoxL W5 B [.string x1, .int .i64 x2, .int .i64 x3, .int .i64 x4, .int .i64 x5, .int .i64 x6, .slice (some ⟨E, oe, none⟩) sn sc, .bool xs]) := HE2
      refine hK.out _ (NoPanic.normal ?_)
      clear hK K hHeld hW5 HE2 HE HC HFz g0 g1 Hd HCl
      go_wp2_with fail
      go_roundw
      case rel => exact ⟨k + 1, by omega, by go_num, HE3⟩
      case measure => simp [intOf]; omega
end Go.Proofs.YtoacbobchngooaaDoor
namespace Go.Proofs.YtoacbobchngooaaDoor
open Go.RowKit Go.Maps
set_option linter.unusedSimpArgs false
set_option maxRecDepth 100000

/-- A world without blocks. -/
def empW (u : World) : World := { u with heap := #[] }
theorem below_emp (u : World) : Below (empW u).heap.size (empW u) u := ⟨rfl, rfl, rfl, Nat.zero_le _, fun k hk => absurd hk (Nat.not_lt_zero k)⟩
theorem Row.emp {α : Type} [Inhabited α] {R : Rep α} {k : Nat} {A : Where} {w0 u : World} {e : TypeId} {v : Value} {L : List α} (h : Row R k A w0 u e v L) : Row R k A (empW u) u e v L := by
  obtain ⟨xs, h1, h2⟩ := h
  exact ⟨xs, ⟨below_emp u, Go.Joins.ownsRow_le h1.2 (Nat.zero_le _)⟩, h2⟩
theorem Row.keptE {α : Type} [Inhabited α] {R : Rep α} {k : Nat} (hR : Firm R k) {A : Where} {w0 u u' : World} {e : TypeId} {v : Value} {L : List α} (h : Row R k A w0 u e v L) (hk : Kept (fun b => A b ∨ v.ownBlock = some b) u u') : Row R k A (empW u') u' e v L := by
  obtain ⟨xs, h1, h2⟩ := h
  have h3 := Go.Joins.ownsRow_le h1.2 (Nat.zero_le w0.heap.size)
  refine ⟨xs, ⟨below_emp u', ?_⟩, h2.kept hR (hk.weak (fun b hb => .inl hb.1))⟩
  obtain ⟨hl, h0 | ⟨g, cap, cur, rfl, hg, hh, r⟩⟩ := h3
  · exact ⟨hl, .inl h0⟩
  · exact ⟨hl, .inr ⟨g, cap, cur, rfl, hg, (hk.2 g (.inr rfl) (Array.getElem?_eq_some_iff.1 hh).1).trans hh, r⟩⟩
theorem PfE.emp {S : Where} {w u : World} {p : Nat} {b c : Value} {C : List (Int × Int)} {f : FrD} (h : PfE S w u p b c C f) : PfE S (empW u) u p b c C f :=
  ⟨h.box, h.rb.emp, h.rc.emp, Nat.zero_le _, h.sp, h.nb, h.nc, h.ne, h.hl, h.hv, h.hC, h.hI⟩
/-- Where a frame lies: S is what nobody writes any more, F what its calls may write. -/
def PfF (S F : Where) (u : World) (p : Nat) (f : FrD) : Prop := ∃ b c C, PfE S (empW u) u p b c C f ∧ ∀ x, DF p b c x → F x
theorem DF.lt {S : Where} {w u : World} {p : Nat} {b c : Value} {C : List (Int × Int)} {f : FrD} (h : PfE S w u p b c C f) {x : Nat} (hx : DF p b c x) : x < u.heap.size := by
  rcases hx with rfl | hx | hx
  · exact h.box.1
  · exact (h.rb.lt hx).2
  · exact (h.rc.lt hx).2
theorem PfO.pf {S F : Where} {w u : World} {p : Nat} {b c : Value} {f : FrD} {w' : World} (h : PfO S w u p b c f w') (hd : ∀ x, DF p b c x → F x) (hF : ∀ x, u.heap.size ≤ x → F x) : PfF S F w' p f ∧ Turns F u w' := by
  obtain ⟨c', C', e, t, o⟩ := h
  refine ⟨⟨b, c', C', e.emp, fun x hx => ?_⟩, t.weak (fun x _ hx => hd x hx)⟩
  rcases hx with hx | hx | hx
  · exact hd x (.inl hx)
  · exact hd x (.inr (.inl hx))
  · rcases o with o | o
    · rw [o] at hx; exact hd x (.inr (.inr hx))
    · exact hF x (o x hx)
def frameOK2 : FrameOK2 := {
  PF := PfF,
  weak := fun ⟨b, c, C, h, hd⟩ k => ⟨b, c, C, h, fun x hx => k x (DF.lt h hx) (hd x hx)⟩,
  kept := fun ⟨b, c, C, h, hd⟩ k => ⟨b, c, C, ⟨h.box.kept k (.inl (hd _ (.inl rfl))), h.rb.keptE RPl8.firm (k.weak (fun x hx => hx.elim .inr (fun e => .inl (hd x (.inr (.inl e)))))), h.rc.keptE RCall.firm (k.weak (fun x hx => hx.elim (fun q => q.elim) (fun e => .inl (hd x (.inr (.inr e)))))), Nat.zero_le _, fun x hx => ⟨Nat.lt_of_lt_of_le (h.sp x hx).1 k.1, (h.sp x hx).2⟩, h.nb, h.nc, h.ne, h.hl, h.hv, h.hC, h.hI⟩, hd⟩,
  still := fun ⟨_, _, _, h, _⟩ x hx => (h.sp x hx).1,
  new := fun a n cap A l w hL => (new_calls17 a n cap A l w hL).mono (fun e w' ⟨hb, ho⟩ => ⟨hb, by
    rcases ho with ⟨hv, p, rfl, b, S, h⟩ | hno
    · refine .inl ⟨hv, p, S, rfl, ⟨b, _, _, (h.done hv).emp, fun x hx => ?_⟩, fun x hx => ⟨(h.sp x hx).1, (h.sp x hx).2.1⟩⟩
      rcases hx with rfl | hx | hx
      · exact ⟨h.lo, fun hs => (h.sp _ hs).2.2.1 rfl⟩
      · exact ⟨(h.rb.lt hx).1, fun hs => (h.sp _ hs).2.2.2 hx⟩
      · cases hx
    · exact .inr hno⟩),
  run := fun ⟨b, c, C, h, hd⟩ hF hl pt => (run_calls h (by omega) pt).mono (fun e w' ⟨he, ho⟩ => ⟨he, ho.pf hd hF⟩),
  calls := fun ⟨_, _, _, h, _⟩ hl => calls_calls h hl,
  reset := fun ⟨b, c, C, h, hd⟩ hF => (reset_calls h).mono (fun e w' ⟨he, ho⟩ => ⟨he, ho.pf hd hF⟩),
  scores := fun ⟨_, _, _, h, _⟩ => scores_calls h,
  clone := fun {S F u p f} ⟨b, c, C, h, hd⟩ hl => (clone_calls17 h hl).mono (fun e w' ⟨p', b', c', he, hp⟩ => ⟨p', he, ⟨b', c', C, hp.emp, fun x hx => by
    rcases hx with rfl | hx | hx
    · exact hp.lo
    · exact (hp.rb.lt hx).1
    · exact (hp.rc.lt hx).1⟩, hp.below⟩),
  more := fun ⟨b, c, C, h, hd⟩ => ⟨h.h64, h.box.1, hd _ (.inl rfl)⟩ }
def frameOK : FrameOK := frameOK2.plain
end Go.Proofs.YtoacbobchngooaaDoor
namespace Go.Proofs.YtoacbobchngooaaDoor
open Go.ChangeShapes Go.WideShapes Go.ChangeAt Go.RowKit

/-- What a datum weighs is within reach. -/
def Light {H : Type} (d : DataW H) (t : TypeId) : Prop := ∀ n ∈ d.weights Tryd.prog t, n ≤ 140737488351232
theorem light_all {H : Type} {e : TypeId} : ∀ {ds : List (DataW H)} {d : DataW H}, d ∈ ds → (∀ n ∈ DataW.weightsAll Tryd.prog e ds, n ≤ 140737488351232) → Light d e
  | [], _, h, _ => by simp at h
  | x :: ds, d, h, hw => by
    rcases List.mem_cons.1 h with rfl | h
    · intro n hn; exact hw n (by simp [DataW.weightsAll, hn])
    · exact light_all h (fun n hn => hw n (by simp [DataW.weightsAll, hn]))
theorem light_slice {H : Type} {t e : TypeId} {elems spare : List (DataW H)} (hu : Tryd.prog.underlying t = some (.slice e)) (h : Light (.slice elems spare) t) : elems.length * Tryd.prog.bytesOf e ≤ 140737488351232 ∧ ∀ d ∈ elems, Light d e := by
  unfold Light at h
  simp only [DataW.weights, hu, List.mem_cons, List.mem_append] at h
  refine ⟨?_, fun d hd => light_all hd (fun n hn => h n (.inr (.inl hn)))⟩
  have := h _ (.inl rfl)
  rw [Nat.add_mul] at this
  omega
theorem light_struct {H : Type} {t : TypeId} {fs : Array Field} {parts : List (DataW H)} (hu : Tryd.prog.underlying t = some (.struct fs)) (h : Light (.agg parts) t) {j : Nat} {tj : TypeId} {d : DataW H} (ht : (fs.toList.map (·.type))[j]? = some tj) (hd : parts[j]? = some d) : Light d tj := by
  intro n hn
  refine h n ?_
  simp only [DataW.weights, hu]
  exact DataW.weights_mem_each ht hd n hn
theorem light_arg {H : Type} {ts : List TypeId} {ds : List (DataW H)} (h : (DataW.weightsEach Tryd.prog ts ds).all (· ≤ reachBytes) = true) {j : Nat} {t : TypeId} {d : DataW H} (ht : ts[j]? = some t) (hd : ds[j]? = some d) : Light d t := by
  intro n hn
  have := List.all_eq_true.1 h _ (DataW.weights_mem_each ht hd n hn)
  have hre : reachBytes = 140737488351232 := by decide
  rw [hre] at this
  simpa using this

section
variable {H : Type} {enc : TypeId × Value → H} {W : World} {base n : Nat} {sp : Nat → Bool} {held : Bool}

theorem open_str {v : Value} {x : DataW H × List MemPlace} (h : DataW.trod enc Tryd.prog W base sp held n 9 [v] = some x) (hl : Light x.1 9) : ∃ s : ByteArray, v = .string s ∧ s.size ≤ 140737488355328 := by
  obtain ⟨s, hs, rfl, _⟩ := DataW.trod_string Tryd.underlying9 h
  refine ⟨s, by simpa using hs, ?_⟩
  have := hl s.data.toList.length (by simp [DataW.weights])
  simp at this
  omega

theorem addr_lt {B off : Nat} {spot : Option _} {v : Value} (h : W.cell? ⟨B, off, spot⟩ = some v) : B < W.heap.size := by
  rcases Nat.lt_or_ge B W.heap.size with h2 | h2
  · exact h2
  · simp [World.cell?, Array.getElem?_eq_none h2] at h

theorem getD_range {α : Type} [Inhabited α] (f : Nat → α) (len i : Nat) (h : i < len) : ((List.range len).map f).getD i default = f i := by
  rw [getE _ _ (by simpa using h)]; simp

theorem open_row {α : Type} [Inhabited α] {en : α → List Value} {k bytes : Nat} {ok : α → Prop} {t e : TypeId} (hu : Tryd.prog.underlying t = some (.slice e)) (ck : Tryd.prog.cellsOf e = k) (bk : Tryd.prog.bytesOf e = bytes) (hk : ∀ x, (en x).length = k) (hk0 : 0 < k) (hb1 : 1 ≤ bytes)
    (hE : ∀ {m : Nat} {cs : List Value} {x : DataW H × List MemPlace}, DataW.trod enc Tryd.prog W base sp held m e cs = some x → Light x.1 e → ∃ y : α, cs = en y ∧ ok y)
    {v : Value} {x : DataW H × List MemPlace} (h : DataW.trod enc Tryd.prog W base sp held n t [v] = some x) (hl : Light x.1 t) :
    ∃ (a : Option Addr) (L : List α) (cap : Nat), v = .slice a L.length cap ∧ RowAt en k ok W a L ∧ L.length * bytes ≤ 140737488351232 ∧ (a = none → cap = 0) ∧ L.length ≤ cap := by
  rcases Go.Deep.open_slice hu h with ⟨hv, _⟩ | ⟨a, len, cap, m, nn, D, Pl, hv, _, hlc, _, hm, rfl, hel⟩
  · exact ⟨none, [], 0, by simpa using hv, RowAt.nil _ _, by simp, fun _ => rfl, by simp⟩
  · obtain rfl : v = .slice (some a) len cap := by simpa using hv
    obtain ⟨w1, w2⟩ := light_slice hu hl
    simp only [List.length_map, List.length_range, bk] at w1
    have hlb : len * 1 ≤ len * bytes := Nat.mul_le_mul_left _ hb1
    have hml : len ≤ m := by rw [hm]; split <;> omega
    rw [ck] at hel
    have each : ∀ i, i < len → ∃ y : α, (∀ j u, (en y)[j]? = some u → W.cell? ((a.add (i * k)).add j) = some u) ∧ ok y := fun i hi => by
      obtain ⟨cs', h1, h2⟩ := hel i (by omega)
      obtain ⟨y, rfl, ho⟩ := hE h2 (w2 _ (List.mem_map.2 ⟨i, List.mem_range.2 hi, rfl⟩))
      obtain ⟨_, _, hcell⟩ := World.cells?_some h1
      refine ⟨y, fun j u hj => ?_, ho⟩
      have hjk : j < k := by
        have := (List.getElem?_eq_some_iff.1 hj).1
        rwa [hk] at this
      rw [hcell j hjk, hj]
    obtain ⟨f, hf⟩ := Go.Deep.choose_lt each
    refine ⟨some a, (List.range len).map f, cap, by simp, ⟨by simp; omega, ?_, fun hn => ?_⟩, by simpa using w1, (fun h => by cases h), by simpa using hlc⟩
    · intro s hs
      obtain ⟨i, hi, rfl⟩ := List.mem_map.1 hs
      exact (hf i (List.mem_range.1 hi)).2
    · have hpos : 0 < len := by
        rcases Nat.eq_zero_or_pos len with h0 | h0
        · subst h0; exact absurd rfl hn
        · exact h0
      obtain ⟨B, off, spot⟩ := a
      have hex : ∃ u, (en (f 0))[0]? = some u := by
        cases e : en (f 0) with
        | nil => have := hk (f 0); rw [e] at this; simp at this; omega
        | cons u r => exact ⟨u, rfl⟩
      obtain ⟨u0, hu0⟩ := hex
      have hc0 := (hf 0 hpos).1 0 u0 hu0
      have hsp : spot = none := by
        have := World.cell?_spot hc0
        simpa [Addr.add] using this
      subst hsp
      rw [add_lit, add_lit] at hc0
      refine ⟨B, off, rfl, addr_lt hc0, fun i hi j u hj => ?_⟩
      have hi' : i < len := by simpa using hi
      rw [getD_range f len i hi'] at hj
      have := (hf i hi').1 j u hj
      rwa [add_lit, add_lit] at this
theorem trod_struct4 {t : TypeId} {f0 f1 f2 f3 : Field} {fuel : Nat} {cs : List Value} {x : DataW H × List MemPlace} (ht : Tryd.prog.underlying t = some (.struct #[f0, f1, f2, f3])) (h : DataW.trod enc Tryd.prog W base sp held fuel t cs = some x) :
    ∃ y0 y1 y2 y3 n, x = (.agg [y0.1, y1.1, y2.1, y3.1], y0.2 ++ (y1.2 ++ (y2.2 ++ y3.2))) ∧ cs.length = Tryd.prog.cellsOf t ∧ DataW.trod enc Tryd.prog W base sp held n f0.type ((cs.drop f0.offset).take (Tryd.prog.cellsOf f0.type)) = some y0 ∧
      DataW.trod enc Tryd.prog W base sp held n f1.type ((cs.drop f1.offset).take (Tryd.prog.cellsOf f1.type)) = some y1 ∧ DataW.trod enc Tryd.prog W base sp held n f2.type ((cs.drop f2.offset).take (Tryd.prog.cellsOf f2.type)) = some y2 ∧ DataW.trod enc Tryd.prog W base sp held n f3.type ((cs.drop f3.offset).take (Tryd.prog.cellsOf f3.type)) = some y3 := by
  obtain ⟨xs, n, _, rfl, hl, hlen, hf⟩ := DataW.trod_struct ht h
  match xs, hlen with
  | [y0, y1, y2, y3], _ => exact ⟨y0, y1, y2, y3, n, by simp, hl, by simpa using hf 0 f0 rfl, by simpa using hf 1 f1 rfl, by simpa using hf 2 f2 rfl, by simpa using hf 3 f3 rfl⟩
end
end Go.Proofs.YtoacbobchngooaaDoor
namespace Go.Proofs.YtoacbobchngooaaDoor
open Go.ChangeShapes Go.WideShapes Go.ChangeAt Go.RowKit

/-- What is read as of that type lies as said. -/
def Opens {α : Type} (R : Rep α) (t : TypeId) : Prop :=
  ∀ {H : Type} {enc : TypeId × Value → H} {W : World} {base n : Nat} {sp : Nat → Bool} {held : Bool} {cs : List Value} {x : DataW H × List MemPlace},
    DataW.trod enc Tryd.prog W base sp held n t cs = some x → Light x.1 t → ∃ y, R (fun _ => True) W cs y
theorem opens_str : Opens RStr 9 := by
  intro H enc W base n sp held cs x h hl
  obtain ⟨s, hs, rfl, _⟩ := DataW.trod_string Tryd.underlying9 h
  refine ⟨s, hs, ?_⟩
  have := hl s.data.toList.length (by simp [DataW.weights])
  simp at this
  omega
theorem opens_int : Opens RInt 3 := by
  intro H enc W base n sp held cs x h _
  obtain ⟨e, e1, _, _⟩ := DataW.trod_int Tryd.underlying3 h
  exact ⟨e, e1⟩
theorem opens_bool : Opens RBool 4 := by
  intro H enc W base n sp held cs x h _
  obtain ⟨b, b1, _⟩ := DataW.trod_bool Tryd.underlying4 h
  exact ⟨b, b1⟩
theorem opens_slice {α : Type} [Inhabited α] {R : Rep α} {k bytes : Nat} {t e : TypeId} (hR : Firm R k) (hu : Tryd.prog.underlying t = some (.slice e)) (ck : Tryd.prog.cellsOf e = k) (bk : Tryd.prog.bytesOf e = bytes) (hk0 : 0 < k) (hE : Opens R e) : Opens (RSl R k bytes) t := by
  intro H enc W base n sp held cs x h hl
  rcases Go.Deep.open_slice hu h with ⟨hv, _⟩ | ⟨a, len, cap, m, nn, D, Pl, hv, _, hlc, _, hm, rfl, hel⟩
  · exact ⟨[], none, 0, 0, hv, SlAt.nil _ _ _ _ (fun _ => rfl)⟩
  · obtain ⟨w1, w2⟩ := light_slice hu hl
    simp only [List.length_map, List.length_range, bk] at w1
    have hml : len ≤ m := by rw [hm]; split <;> omega
    rw [ck] at hel
    have each : ∀ i, i < len → ∃ y : α, ∃ cs, R (fun _ => True) W cs y ∧ ∀ j u, cs[j]? = some u → W.cell? ((a.add (i * k)).add j) = some u := fun i hi => by
      obtain ⟨cs', h1, h2⟩ := hel i (by omega)
      obtain ⟨y, hy⟩ := hE h2 (w2 _ (List.mem_map.2 ⟨i, List.mem_range.2 hi, rfl⟩))
      obtain ⟨_, _, hcell⟩ := World.cells?_some h1
      refine ⟨y, cs', hy, fun j u hj => ?_⟩
      have hjk : j < k := by
        have := (List.getElem?_eq_some_iff.1 hj).1
        rwa [hR.len hy] at this
      rw [hcell j hjk, hj]
    obtain ⟨f, hf⟩ := Go.Deep.choose_lt each
    refine ⟨(List.range len).map f, some a, len, cap, hv, by simp, hlc, (fun h => by cases h), w1, fun hpos => ?_⟩
    obtain ⟨B, off, spot⟩ := a
    obtain ⟨cs0, hr0, hc0⟩ := hf 0 hpos
    have hex : ∃ u, cs0[0]? = some u := by
      cases e : cs0 with
      | nil => have := hR.len hr0; rw [e] at this; simp at this; omega
      | cons u r => exact ⟨u, rfl⟩
    obtain ⟨u0, hu0⟩ := hex
    have hc0 := hc0 0 u0 hu0
    have hsp : spot = none := by
      have := World.cell?_spot hc0
      simpa [Addr.add] using this
    subst hsp
    rw [add_lit, add_lit] at hc0
    refine ⟨B, off, rfl, addr_lt hc0, trivial, fun i hi => ?_⟩
    obtain ⟨cs, hr, hc⟩ := hf i hi
    refine ⟨cs, by rw [getD_range f len i hi]; exact hr, fun j u hj => ?_⟩
    have := hc j u hj
    rwa [add_lit, add_lit] at this
/-- The same of a struct's fields from a place on. -/
def OpensFs {α : Type} (fs : List Field) (off total : Nat) (R : Rep α) : Prop :=
  ∀ {H : Type} {enc : TypeId × Value → H} {W : World} {base n : Nat} {sp : Nat → Bool} {held : Bool} {cs : List Value}, cs.length = total →
    (∀ (j : Nat) (f : Field), fs[j]? = some f → ∃ d, DataW.trod enc Tryd.prog W base sp held n f.type ((cs.drop f.offset).take (Tryd.prog.cellsOf f.type)) = some d ∧ Light d.1 f.type) → ∃ y, R (fun _ => True) W (cs.drop off) y
theorem opensFs_last {α : Type} {R : Rep α} {f : Field} {off total : Nat} (ho : f.offset = off) (ht : off + Tryd.prog.cellsOf f.type = total) (h : Opens R f.type) : OpensFs [f] off total R := by
  intro H enc W base n sp held cs hl hf
  obtain ⟨d, h1, h2⟩ := hf 0 f rfl
  rw [ho, List.take_of_length_le (by rw [List.length_drop]; omega)] at h1
  exact h h1 h2
theorem opensFs_cons {α β : Type} {R : Rep α} {S : Rep β} {f : Field} {fs : List Field} {off m total : Nat} (ho : f.offset = off) (hm : off + Tryd.prog.cellsOf f.type = m) (h : Opens R f.type) (hs : OpensFs fs m total S) : OpensFs (f :: fs) off total (RPair R S) := by
  intro H enc W base n sp held cs hl hf
  obtain ⟨d, h1, h2⟩ := hf 0 f rfl
  rw [ho] at h1
  obtain ⟨y, hy⟩ := h h1 h2
  obtain ⟨z, hz⟩ := hs (cs := cs) hl (fun j g hg => hf (j + 1) g (by simpa using hg))
  refine ⟨(y, z), (cs.drop off).take (Tryd.prog.cellsOf f.type), cs.drop m, ?_, hy, hz⟩
  rw [← hm, ← List.drop_drop]
  exact (List.take_append_drop _ _).symm
theorem opens_struct {α : Type} {R : Rep α} {t : TypeId} {fs : Array Field} {total : Nat} (hu : Tryd.prog.underlying t = some (.struct fs)) (hc : Tryd.prog.cellsOf t = total) (h : OpensFs fs.toList 0 total R) : Opens R t := by
  intro H enc W base n sp held cs x hx hl
  obtain ⟨xs, m, _, rfl, hlen, hxs, hf⟩ := DataW.trod_struct hu hx
  have := h (enc := enc) (W := W) (base := base) (n := m) (sp := sp) (held := held) (cs := cs) (by rw [hlen, hc]) (fun j f hj => by
    have hj' : fs[j]? = some f := by simpa using hj
    have h1 := hf j f hj'
    have hlt : j < xs.length := by
      have := (Array.getElem?_eq_some_iff.1 hj').1
      omega
    have h2 : xs[j]? = some xs[j] := List.getElem?_eq_getElem hlt
    rw [h2] at h1
    refine ⟨xs[j], h1, light_struct hu hl (j := j) (by simp [hj']) (by simp [h2])⟩)
  simpa using this
theorem arg_agg {P : Program} {t : TypeId} {fs : Array Field} (hu : P.underlying t = some (.struct fs)) {H : Type} {enc : TypeId × Value → H} {W : World} {base b0 : Nat} {r : Reach} {sp : Nat → Bool} {held : Bool} {v : Value} {d : DataW H} {p : List MemPlace}
    (hv : Value.okWide P W r b0 t v) (hd : DataW.Trod enc P W base sp held t v d p) : ∃ (cs : Array Value) (fuel : Nat), v = .agg cs ∧ DataW.trod enc P W base sp held fuel t cs.toList = some (d, p) := by
  obtain ⟨cs, rfl, _⟩ := okWide_struct hu hv
  obtain ⟨fuel, hf⟩ := hd
  exact ⟨cs, fuel, rfl, hf⟩
set_option maxRecDepth 100000 in
/-- A struct that is handed in. -/
theorem opens_arg {α : Type} {R : Rep α} {t : TypeId} {fs : Array Field} (hu : Tryd.prog.underlying t = some (.struct fs)) (h : Opens R t) {H : Type} {enc : TypeId × Value → H} {W : World} {base b0 : Nat} {r : Reach} {sp : Nat → Bool} {held : Bool} {v : Value} {d : DataW H} {p : List MemPlace}
    (hv : Value.okWide Tryd.prog W r b0 t v) (hd : DataW.Trod enc Tryd.prog W base sp held t v d p) (hl : Light d t) : ∃ cs y, v = .agg cs ∧ R (fun _ => True) W cs.toList y := by
  obtain ⟨cs, fuel, e, hf⟩ := arg_agg hu hv hd
  obtain ⟨y, hy⟩ := h hf hl
  exact ⟨cs, y, e, hy⟩
end Go.Proofs.YtoacbobchngooaaDoor
namespace Go.Proofs.YtoacbobchngooaaDoor
open Go.ChangeShapes Go.WideShapes Go.ChangeAt Go.RowKit

theorem opens_s_str : Opens (RSl RStr 1 16) 37 := opens_slice RStr.firm Tryd.underlying37 (by kernel_rfl) (by kernel_rfl) (by decide) opens_str
theorem opens_s_int : Opens (RSl RInt 1 8) 23 := opens_slice RInt.firm Tryd.underlying23 (by kernel_rfl) (by kernel_rfl) (by decide) opens_int
end Go.Proofs.YtoacbobchngooaaDoor
namespace Go.Proofs.YtoacbobchngooaaDoor
open Go.ChangeShapes Go.WideShapes Go.ChangeAt Go.RowKit
set_option linter.unusedSimpArgs false
set_option maxRecDepth 100000

theorem opens_Plug : Opens RPlug 33 := opens_struct (total := 7) Tryd.underlying33 (by kernel_rfl) (opensFs_cons (m := 1) rfl (by kernel_rfl) opens_str (opensFs_cons (m := 2) rfl (by kernel_rfl) opens_int (opensFs_cons (m := 3) rfl (by kernel_rfl) opens_int (opensFs_cons (m := 4) rfl (by kernel_rfl) opens_int (opensFs_cons (m := 5) rfl (by kernel_rfl) opens_int (opensFs_cons (m := 6) rfl (by kernel_rfl) opens_int (opensFs_last rfl (by kernel_rfl) (opens_slice RInt.firm Tryd.underlying23 (by kernel_rfl) (by kernel_rfl) (by decide) opens_int))))))))
theorem opens_s_Plug : Opens (RSl RPlug 7 80) 22 := opens_slice RPlug.firm Tryd.underlying22 (by kernel_rfl) (by kernel_rfl) (by decide) opens_Plug
theorem opens_s_intS : Opens (RSl RInt 1 8) 23 := opens_slice RInt.firm Tryd.underlying23 (by kernel_rfl) (by kernel_rfl) (by decide) opens_int
end Go.Proofs.YtoacbobchngooaaDoor
namespace Go.Proofs.YtoacbobchngooaaDoor
open Go.ChangeShapes Go.WideShapes Go.ChangeAt Go.RowKit

def cellsOfTab (k : IntKind) (zs : List Int) : Array Value := (zs.map fun z => Value.int k z).toArray
def bruijn32 : List Int := [0, 1, 28, 2, 29, 14, 24, 3, 30, 22, 20, 15, 25, 17, 4, 8, 31, 27, 13, 23, 21, 19, 16, 7, 26, 12, 18, 6, 11, 5, 10, 9]
def bruijn64 : List Int := [0, 1, 56, 2, 57, 49, 28, 3, 61, 58, 42, 50, 38, 29, 17, 4, 62, 47, 59, 36, 45, 43, 51, 22, 53, 39, 33, 30, 24, 18, 12, 5, 63, 55, 48, 27, 60, 41, 37, 16, 46, 35, 44, 21, 52, 32, 23, 11, 54, 26, 40, 15, 34, 20, 31, 10, 25, 14, 19, 9, 13, 8, 7, 6]
def putCells (c : Array Value) : Obj → Obj
  | .cells _ t frozen => .cells c t frozen
  | o => o
/-- The world w with the three tables laid. -/
def layTabs (w : World) : World :=
  { w with heap := ((w.heap.modify 0 (putCells (cellsOfTab .u64 Lib.pow10Tab))).modify 1 (putCells (cellsOfTab .u8 bruijn32))).modify 2 (putCells (cellsOfTab .u8 bruijn64)) }
end Go.Proofs.YtoacbobchngooaaDoor
