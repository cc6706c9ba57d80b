/- slices.Sort over a row of names of one's own, each there once: sorted. Condition: the row is the function's own. The queue: Nominated. Condition: the queue lies as is said of it, and its wishes are not too many. Entries that are shifted, one behind the other. Plain facts. No condition. The queue: Move. Condition: the queue lies as is said of it, and is not too long. -/
import Derived.Test.YtbmejaailhjgfaaGreatQ17
import Derived.Test.YtbmejaailhjgfaaGreatQ16
import Derived.Test.YtbmejaailhjgfaaGreatShelf
import Derived.Sort.OwnSortedInts
import Derived.Lib.OwnBridge
namespace Go.Proofs.YtbmejaailhjgfaaGreat
open Go.RowKit Go.Maps
set_option linter.unusedSimpArgs false
set_option maxRecDepth 100000

open Go.Sort Go.Lib
theorem nSY : Tryz.laysSortS_ren.f 54 = 50 := rfl
theorem blY_lt : ∀ (x y : List UInt8), Op.bytesLess x y = true ↔ x < y
  | [], [] => by simp [Op.bytesLess]
  | _ :: _, [] => by simp [Op.bytesLess]
  | [], _ :: _ => by simp [Op.bytesLess]
  | a :: x, b :: y => by
    have ih := blY_lt x y
    rw [Op.bytesLess, List.cons_lt_cons_iff, ← ih]
    simp
theorem ordLY : OrdB Op.bytesLess (fun a b : List UInt8 => a == b) := ⟨fun a b => by simp, bl_irr, bl_trans, fun a b h => by
  have := bl_tot a b h
  cases h1 : Op.bytesLess a b
  · right; rw [this, h1]; rfl
  · left; rfl⟩
theorem sortMY (L : List ByteArray) (hn : L.Nodup) : (L.map ByteArray.toList).mergeSort (fun x y => decide (x ≤ y)) = (sortB sLt sEq L).map ByteArray.toList := by
  have hs : ((L.map ByteArray.toList).mergeSort fun x y => decide (x ≤ y)).Pairwise (fun a b => a ≤ b) := by
    refine (List.pairwise_mergeSort (le := fun x y : List UInt8 => decide (x ≤ y)) ?_ ?_ _).imp ?_
    · intro a b c; simp only [decide_eq_true_eq]; exact List.le_trans
    · intro a b; simp only [Bool.or_eq_true, decide_eq_true_eq]; exact List.le_total a b
    · intro a b; simp only [decide_eq_true_eq]; exact id
  have hN : ((L.map ByteArray.toList).mergeSort fun x y => decide (x ≤ y)).Nodup := (List.mergeSort_perm _ _).nodup_iff.2 (List.pairwise_map.2 (hn.imp (fun h e => h (toList_inj e))))
  refine UpB.one ordLY _ _ ((hs.and hN).imp ?_) ?_ (fun x => ?_)
  · rintro a b ⟨h1, h2⟩
    rcases ordLY.tot a b h2 with h3 | h3
    · exact h3
    · exact absurd ((blY_lt b a).1 h3) (List.not_lt.2 h1)
  · exact List.pairwise_map.2 (UpB.sort ordS L)
  · rw [List.mem_mergeSort, List.mem_map, List.mem_map]
    constructor
    · rintro ⟨a, ha, e⟩; exact ⟨a, (mem_sortB (fun a b h => (sEq_iff a b).1 h) a L).2 ha, e⟩
    · rintro ⟨a, ha, e⟩; exact ⟨a, (mem_sortB (fun a b h => (sEq_iff a b).1 h) a L).1 ha, e⟩
theorem getEY {α : Type} [Inhabited α] (L : List α) (i : Nat) (h : i < L.length) : L.getD i default = L[i] := by rw [List.getD_eq_getElem?_getD, List.getElem?_eq_getElem h]; rfl
theorem chunks_strY {A : Where} {u : World} {xs : List Value} {L : List ByteArray} (h : Chunks RStr 1 A u xs L) : xs = (L.map ByteArray.toList).map encStr ∧ ∀ s ∈ L, s.size ≤ 140737488355328 := by
  refine ⟨List.ext_getElem? (fun i => ?_), fun s hs => ?_⟩
  · by_cases hi : i < L.length
    · obtain ⟨cs, ⟨e, _⟩, h2⟩ := h.2 i hi
      have := h2 0 (by decide)
      rw [Nat.mul_one, Nat.add_zero, e] at this
      rw [this, List.getElem?_map, List.getElem?_map, List.getElem?_eq_getElem hi, getEY _ _ hi]
      simp [encStr, ByteArray.toList_eq]
    · rw [List.getElem?_eq_none (by rw [h.1]; omega), List.getElem?_eq_none (by simp; omega)]
  · obtain ⟨i, hi, rfl⟩ := List.getElem_of_mem hs
    obtain ⟨cs, ⟨_, e⟩, _⟩ := h.2 i hi
    rwa [getEY _ _ hi] at e
theorem str_chunksY (A : Where) (u : World) {L : List ByteArray} (hs : ∀ s ∈ L, s.size ≤ 140737488355328) : Chunks RStr 1 A u ((L.map ByteArray.toList).map encStr) L := by
  refine ⟨by simp, fun i hi => ⟨[.string (L.getD i default)], ⟨rfl, ?_⟩, fun j hj => ?_⟩⟩
  · rw [getEY _ _ hi]; exact hs _ (List.getElem_mem hi)
  · obtain rfl : j = 0 := by omega
    rw [Nat.mul_one, Nat.add_zero, List.getElem?_map, List.getElem?_map, List.getElem?_eq_getElem hi, getEY _ _ hi]
    simp [encStr, ByteArray.toList_eq]
theorem ysorts_calls (w0 u : World) (v : Value) (L : List ByteArray) (hn : L.Nodup) (hl : L.length ≤ 140737488355328) (hR : Row RStr 1 (fun _ => False) w0 u 9 v L) :
    Calls Tryz.prog 50 #[v] u fun e w' => e = .returned (.tuple #[]) ∧ Row RStr 1 (fun _ => False) w0 w' 9 v (sortB sLt sEq L) := by
  have hR0 := hR
  obtain ⟨xs, ⟨hb, hown⟩, hch⟩ := hR
  by_cases hv : v = .slice none 0 0
  · subst hv
    have h0 : L = [] := by
      rcases hown.2 with ⟨_, h0⟩ | ⟨g, cap, cur, h0, _⟩
      · exact List.length_eq_zero_iff.1 h0
      · cases h0
    subst h0
    have h := AnyG.slices_Sort_string_none Tryz.laysSortS none 0 u
    rw [nSY] at h
    refine h.mono ?_
    rintro e w' ⟨rfl, rfl⟩
    exact ⟨rfl, hR0⟩
  · obtain ⟨hx, hsz⟩ := chunks_strY hch
    subst hx
    obtain ⟨g, cap, rfl, hbg, hg, hnc, hcm, hl0, hH⟩ := holds_of_ownsRow hown hv
    have h := AnyG.slices_Sort_string Tryz.laysSortS g 0 cap (L.map ByteArray.toList) u hH hg (by rw [List.length_map]; omega)
    rw [nSY, List.length_map] at h
    refine h.mono ?_
    rintro e w' ⟨rfl, n, os, rfl⟩
    rcases hown.2 with ⟨h0, _⟩ | ⟨g', cap', cur, hv', hbase, hcur, h1, h2, h3, h4⟩
    · cases h0
    cases hv'
    have hs := ownsRow_sorted (n := n) (os := os) (ts := ((L.map ByteArray.toList).mergeSort fun x y => decide (x ≤ y))) (ss := (L.map ByteArray.toList)) (base := w0.heap.size) (by rw [List.length_mergeSort]) hbase hcur (by simpa using h1) h2 h3
    have hlen : (sortB sLt sEq L).length = L.length := by
      have h5 := congrArg List.length (sortMY L hn)
      rw [List.length_mergeSort, List.length_map, List.length_map] at h5
      exact h5.symm
    refine ⟨rfl, ((sortB sLt sEq L).map ByteArray.toList).map encStr, ⟨hb.grown (grownBy_sorted _) hb.size (fun j hj => by cases hj; exact hbase), ?_⟩, str_chunksY _ _ (fun s hs => hsz s ((mem_sortB (fun a b h => (sEq_iff a b).1 h) s L).1 hs))⟩
    rw [hlen]
    rw [List.length_map, sortMY L hn] at hs
    rw [sortMY L hn]
    exact hs
end Go.Proofs.YtbmejaailhjgfaaGreat
namespace Go.Proofs.YtbmejaailhjgfaaGreat
open Go.RowKit Go.Maps
set_option linter.unusedSimpArgs false
set_option maxRecDepth 100000

/-- Who hopes for a node. -/
def nomP (nd : ByteArray) (L : List WiD) : List ByteArray := (L.filter (fun x => sEq x.2 nd)).map Prod.fst
theorem nom_perm {nd : ByteArray} {S S' : List WiD} (h : S'.Perm S) : (nomP nd S').Perm (nomP nd S) := (h.filter _).map _
theorem nom_snoc (nd : ByteArray) (S : List WiD) (e : WiD) : nomP nd (S ++ [e]) = nomP nd S ++ (if sEq e.2 nd = true then [e.1] else []) := by
  unfold nomP
  rw [List.filter_append, List.map_append]
  congr 1
  simp only [List.filter_cons, List.filter_nil]
  split <;> rfl
theorem nom_len (nd : ByteArray) (S : List WiD) : (nomP nd S).length ≤ S.length := by unfold nomP; rw [List.length_map]; exact List.length_filter_le _ _
theorem nom_nodup {nd : ByteArray} {S : List WiD} (h : (S.map Prod.fst).Nodup) : (nomP nd S).Nodup := List.Nodup.sublist (List.Sublist.map Prod.fst List.filter_sublist) h
theorem camW_len {left : Lit → Bool} (S : List WiD) : (cameG Prod.fst left S).length ≤ S.length := List.length_filter_le _ _
theorem hoC_inj {x y : WiD} (h : hoC x = hoC y) : x.2 = y.2 := by simpa [hoC] using h
/-- The relation of the loop. -/
def NomI (u : World) (nb : Nat) (D : DataW Value) (nd : ByteArray) (S : List WiD) (v : Value) (wr : World) : Prop := ∃ left cnt l, wr.ranges Tryz.prog 9 RHv nb u.heap.size S.length D left cnt ∧ Row RStr 1 (fun _ => False) u wr 9 v l ∧ l.Perm (nomP nd (cameG Prod.fst left S)) ∧ ∀ b, v.ownBlock = some b → b ≠ u.heap.size
def NomOut (u : World) (l : List ByteArray) (e : Ending) (w' : World) : Prop := ∃ v, e = .returned v ∧ Row RStr 1 (fun _ => False) u w' 9 v l
set_option maxHeartbeats 16000000 in
theorem ynom_calls {F : Where} {u : World} {p : Nat} {S : List EnD} {n : Int} {Ws : List WiD} (h : QA F u p S n Ws) (hl : Ws.length < 1000000000) (nd : ByteArray) :
    Calls Tryz.prog 24 #[.pointer (some ⟨p, 0, none⟩), .string nd] u (NomOut u (sortB sLt sEq (nomP nd Ws))) := by
  obtain ⟨hb, sb, nb, A, h⟩ := h
  have c0 := h.c0
  have c2 := h.c2
  have hM := ymade_calls c0 ⟨_, rfl⟩
  obtain ⟨D, hown, tls⟩ := h.hopes
  have HT : Hid (Tls Prod.fst hoC D Ws) := tls
  have HO : Hid (u.ownsMap Tryz.prog 9 RHv nb Ws.length D) := hown
  have HSb : Hid (nb < u.heap.size) := h.hopes.lt
  have HOk : Hid (∀ x ∈ Ws, okW x) := h.okw
  clear tls hown h
  go_enter Tryz.func24, Tryz.ntmps24
  go_upto_region 4 with (go_at_call 36; refine hM.mono ?_; rintro e w' ⟨rfl, hw'⟩; obtain rfl := hw'.symm)
  go_wp2_with (first | (at_range; refine wpList_range_own _ rfl _ 58 rfl 9 80 lawT Tryz.underlying58 _ nb Ws.length D rfl HO.out ?_; intro w0 hrg0 hg0 hs0) | fail)
  go_frame
  --M1
  have HI0 : Hid (NomI u nb D nd Ws (.slice none 0 0) w0) := ⟨_, _, [], hrg0, (Row.nil (fun _ => False) u 9).grown RStr.firm hg0 (fun b hb => by cases hb), by rw [came_start HT.out]; exact List.Perm.refl _, fun b hb => by cases hb⟩
  clear hrg0 hg0 hs0 c0 c2 hM
  go_loopw [5] (fun v wr => Hid (NomI u nb D nd Ws v wr)) (fun _ wr => wr.rangeLeft nb u.heap.size)
  case atStart => exact HI0
  case round =>
    obtain ⟨left, cnt, l, hrg, hrow, hpm, hvr⟩ := hrel.out
    have HRel : Hid (wr.rangeLeft nb u.heap.size = cnt) := hrg.left_eq
    clear hrel HI0
    go_wp2_with (first | (at_next; refine wpList_next_ranges _ rfl _ rfl 9 lawT RHv (fun s : List UInt8 => Value.string ⟨s.toArray⟩) (fun v : Value => v) (fun key kl hk => by obtain ⟨x, hx, _⟩ := Maps.keyOf_str Tryz.underlying9 hk; exact ⟨x, hx⟩) (fun v y _ => ⟨v, rfl⟩) nb u.heap.size Ws.length D left cnt rfl hrg ?_ ?_) | fail)
    · intro hc0 hl0
      have HP : Hid (l.Perm (nomP nd Ws)) := by have := hpm; rw [came_end hl0] at this; exact this
      have hnd : l.Nodup := HP.out.nodup_iff.2 (nom_nodup HT.out.nd)
      have hC := ysorts_calls u wr u5 l hnd (by have h1 := hpm.length_eq; have h2 := nom_len nd (cameG Prod.fst left Ws); have h3 := camW_len (left := left) Ws; omega) hrow
      have HS : Hid (sortB sLt sEq l = sortB sLt sEq (nomP nd Ws)) := sort_eq ordS (fun x => HP.out.mem_iff)
      rw [HS.out] at hC
      clear hrg hrow hpm hvr hc0 hl0 HRel hnd HS
      go_wp2_with fail
      --M2
      refine hC.mono ?_
      rintro e w2 ⟨rfl, hr'⟩
      have HF2 : Hid (Row RStr 1 (fun _ => False) u w2 9 u5 (sortB sLt sEq (nomP nd Ws))) := hr'
      clear hC hr'
      go_wp2_with fail
      go_ret
      exact ⟨_, rfl, HF2.out⟩
    · intro s c kl yd yp w1 cnt1 hkey hlk hv hat hrg1 hlt hg1 hs1 hen
      obtain ⟨rfl, rfl⟩ : Dv c = yd ∧ ([] : List MemPlace) = yp := by simpa [RHv, Dv] using hv
      obtain ⟨e, he, ek⟩ := HT.out.mem kl (has_true_of_atKey hat)
      subst ek
      have hce : c = hoC e := by
        have h1 := hat .nil
        rw [HT.out.at_ e he] at h1
        simpa [Dv] using h1.symm
      subst hce
      have hkn : (⟨s.toArray⟩ : ByteArray) = e.1 := by
        obtain ⟨x, hx, hk2⟩ := Maps.keyOf_str Tryz.underlying9 hkey
        injection hx with hx
        have hk3 := hk2
        unfold kT at hk3
        simp only [Lit.string.injEq] at hk3
        rw [hx, ← hk3.1]
      have hrow1 : Row RStr 1 (fun _ => False) u w1 9 u5 l := hrow.grown RStr.firm hg1 (fun b hb => by injection hb with hb; subst hb; exact ⟨Nat.le_refl _, fun e => hvr _ e rfl, fun h => h⟩)
      have hpc := came_step HT.out.nd he hlk
      have hoke := HOk.out e he
      have HPm : Hid ((nomP nd (cameG Prod.fst (fun z => left z && !z.sameKey (kT (Prod.fst e))) Ws)).Perm (nomP nd (cameG Prod.fst left Ws) ++ (if sEq e.2 nd = true then [e.1] else []))) := by rw [Hid, ← nom_snoc]; exact nom_perm hpc
      have HLn : Hid (l.length ≤ Ws.length) := by have h1 := hpm.length_eq; have h2 := nom_len nd (cameG Prod.fst left Ws); have h3 := camW_len (left := left) Ws; rw [Hid]; omega
      have HL : Hid (l.Perm (nomP nd (cameG Prod.fst left Ws))) := hpm
      have HV : Hid (∀ b, u5.ownBlock = some b → b ≠ u.heap.size) := hvr
      have HMs : Hid (w1.rangeLeft nb u.heap.size = cnt1 ∧ cnt1 < cnt) := ⟨hrg1.left_eq, hlt⟩
      obtain ⟨x0, x1⟩ := e
      obtain ⟨W2, hW2⟩ : ∃ Z, Z = w1.alloc (.cells #[.string x1] 80) := ⟨_, rfl⟩
      have b2 : Below w1.heap.size w1 W2 := by rw [hW2]; exact (Below.refl _ _).alloc (Nat.le_refl _) _
      have q2 : BoxL W2 w1.heap.size [.string x1] := by rw [hW2]; exact BoxL.new w1 80 _
      have g2 : w1.grownBy W2 none := by rw [hW2]; exact World.grownBy_alloc _ _ _
      have HG2 : Hid (W2.ranges Tryz.prog 9 RHv nb u.heap.size Ws.length D (fun z => left z && !z.sameKey (kT (Prod.fst (x0, x1)))) cnt1 ∧ Row RStr 1 (fun _ => False) u W2 9 u5 l ∧ BoxL W2 w1.heap.size [.string x1]) := ⟨hrg1.kept g2 (by simp) (by simp), hrow1.on RStr.firm b2, q2⟩
      have HW2 : Hid (w1.alloc (.cells #[.string x1] 80) = W2) := hW2.symm
      have hlt1 := q2.1
      clear hrg hrow hpm hvr hkey hlk hv hat hrg1 hlt hg1 hs1 hrow1 hpc hW2 b2 q2 g2 he
      simp only [hoC, hkn] at hen ⊢
      go_upto_region 7 with fail
      --M3
      rw [HW2.out]
      have c0 : W2.cell? ⟨w1.heap.size, 0, none⟩ = some (.string x1) := (HG2.out.2.2.2 0 _ rfl).1
      cases heq : sEq x1 nd with
      | false =>
        have heq2 : (x1.toList == nd.toList) = false := heq
        have HN : Hid (NomI u nb D nd Ws u5 W2) := ⟨_, cnt1, l, HG2.out.1, HG2.out.2.1, by have h1 := HPm.out; simp only [heq, Bool.false_eq_true, if_false, List.append_nil] at h1; exact HL.out.trans h1.symm, HV.out⟩
        have HLe : Hid (W2.rangeLeft nb u.heap.size = cnt1) := HG2.out.1.left_eq
        clear HPm HW2 HG2 HL HV heq
        go_wp2_with fail
        --M5
        go_roundw
        case rel => exact HN
        case measure => rw [HLe.out, HRel.out]; exact HMs.out.2
      | true =>
        have heq2 : (x1.toList == nd.toList) = true := heq
        have hb4 : Below W2.heap.size W2 (W2.alloc (.cells #[.string x0] 9)) := (Below.refl _ _).alloc (Nat.le_refl _) _
        have HR4 : Hid (Row RStr 1 (fun _ => False) u (W2.alloc (.cells #[.string x0] 9)) 9 u5 l) := HG2.out.2.1.on RStr.firm hb4
        have HSr : Hid (Src RStr 1 (fun b => False ∧ Value.ownBlock u5 ≠ some b) (W2.alloc (.cells #[.string x0] 9)) (some ⟨W2.heap.size, 0, none⟩) 1 [x0]) := ⟨rfl, .inr ⟨_, [.string x0], rfl, chunk_one RStr.firm ⟨rfl, hoke.1⟩, one_cells W2 [.string x0] 9, by simp [Value.oneCell']⟩⟩
        have HLb : Hid ((l.length + [x0].length) * 16 ≤ 140737488355328) := by have h1 := HLn.out; rw [Hid, List.length_singleton]; omega
        have HRg : Hid ((W2.alloc (.cells #[.string x0] 9)).ranges Tryz.prog 9 RHv nb u.heap.size Ws.length D (fun z => left z && !z.sameKey (kT (Prod.fst (x0, x1)))) cnt1) := HG2.out.1.kept (below_grownY hb4) (by simp) (by simp)
        have HSz : Hid (u.heap.size < (W2.alloc (.cells #[.string x0] 9)).heap.size ∧ nb < u.heap.size) := ⟨by have := HG2.out.1.lt; have h3 := hb4.size; omega, HSb.out⟩
        clear hb4 HG2 HW2 heq
        go_wp2_with (at_builtin; go_must (refine row_appendP RStr.firm (A := (fun _ => False)) (w0 := u) rfl _ _ 47 9 rfl _ 16 infoTxY Tryz.underlying47 rfl (by decide) (by decide) u5 l rfl HR4.out (some ⟨W2.heap.size, 0, none⟩) 1 1 [x0] rfl HSr.out HLb.out ?_); intro v5 w5 hrow5 hg5 hw5)
        --M6
        have hrg5 := HRg.out.kept hg5 (fun e => by have h1 := HR4.out.lt e.symm; have h2 := HSz.out.2; omega) (fun e => HV.out _ e.symm rfl)
        have HN : Hid (NomI u nb D nd Ws v5 w5) := ⟨_, cnt1, l ++ [x0], hrg5, hrow5, by have h1 := HPm.out; simp only [heq2, sEq, if_true] at h1; exact (HL.out.append_right _).trans h1.symm, fun b hb => by
          rcases hw5 with e | e
          · exact HV.out b (by rw [← e]; exact hb)
          · rw [e] at hb; injection hb with hb; have := HSz.out.1; omega⟩
        have HLe : Hid (w5.rangeLeft nb u.heap.size = cnt1) := hrg5.left_eq
        clear hrg5 hrow5 hg5 hw5 HRg HR4 HSr HLb HPm HL HV HSz
        go_roundw
        case rel => exact HN
        case measure => rw [HLe.out, HRel.out]; exact HMs.out.2
end Go.Proofs.YtbmejaailhjgfaaGreat
namespace Go.Proofs.YtbmejaailhjgfaaGreat
open Go.RowKit Go.Maps
set_option linter.unusedSimpArgs false
set_option maxRecDepth 100000

/-- Those that are named in N stand elsewhere. -/
def shfS (S : List EnD) (tgt : WtD → Int) (N : List WtD) : List EnD := S.map (fun e => if N.any (fun x => sEq x.1 e.1.1) = true then (e.1, tgt e.1) else e)
theorem shf_nil (S : List EnD) (tgt : WtD → Int) : shfS S tgt [] = S := by unfold shfS; simp
theorem shf_len (S : List EnD) (tgt : WtD → Int) (N : List WtD) : (shfS S tgt N).length = S.length := by unfold shfS; simp
theorem othG_perm {α : Type} {key : α → ByteArray} {S : List α} (hn : (S.map key).Nodup) {x : α} (hx : x ∈ S) : S.Perm (othG key (key x) S ++ [x]) := by
  induction S with
  | nil => cases hx
  | cons y S ih =>
    rw [List.map_cons, List.nodup_cons] at hn
    unfold othG
    rw [List.filter_cons]
    rcases List.mem_cons.1 hx with e | hx2
    · subst e
      have h1 : sEq (key x) (key x) = true := (sEq_iff _ _).2 rfl
      rw [if_neg (by rw [h1]; decide)]
      have h2 : S.filter (fun z => !sEq (key z) (key x)) = S := by
        rw [List.filter_eq_self]
        intro z hz
        cases e : sEq (key z) (key x) with
        | false => rfl
        | true => exact absurd (List.mem_map.2 ⟨z, hz, (sEq_iff _ _).1 e⟩) hn.1
      rw [h2]
      exact List.perm_append_comm (l₁ := [x])
    · have hne : sEq (key y) (key x) = false := by
        cases e : sEq (key y) (key x) with
        | false => rfl
        | true => exact absurd (List.mem_map.2 ⟨x, hx2, ((sEq_iff _ _).1 e).symm⟩) hn.1
      rw [if_pos (by rw [hne]; rfl)]
      exact List.Perm.cons y (ih hn.2 hx2)
theorem shf_step {S : List EnD} {tgt : WtD → Int} {N : List WtD} {e : EnD} (hn : (S.map enN).Nodup) (he : e ∈ S) (_hN : N.any (fun x => sEq x.1 e.1.1) = false) : (shfS S tgt (N ++ [e.1])).Perm (othG enN e.1.1 (shfS S tgt N) ++ [(e.1, tgt e.1)]) := by
  have h1 : (shfS S tgt (N ++ [e.1])).Perm (shfS (othG enN e.1.1 S ++ [e]) tgt (N ++ [e.1])) := (othG_perm hn he).map _
  refine h1.trans ?_
  have h2 : shfS (othG enN e.1.1 S ++ [e]) tgt (N ++ [e.1]) = othG enN e.1.1 (shfS S tgt N) ++ [(e.1, tgt e.1)] := by
    unfold shfS
    rw [List.map_append, List.map_singleton]
    have h3 : ((N ++ [e.1]).any fun x => sEq x.1 e.1.1) = true := by
      rw [List.any_append]; simp [(sEq_iff _ _).2]
    rw [if_pos h3]
    congr 1
    unfold othG
    rw [List.filter_map]
    have h4 : (fun y : EnD => !sEq (enN y) e.1.1) ∘ (fun y : EnD => if N.any (fun x => sEq x.1 y.1.1) = true then (y.1, tgt y.1) else y) = fun y : EnD => !sEq (enN y) e.1.1 := by
      funext y
      simp only [Function.comp]
      split <;> rfl
    rw [h4]
    refine List.map_congr_left (fun y hy => ?_)
    have hy2 := (mem_othG (key := enN) (s := e.1.1) (S := S)).1 hy
    have h5 : sEq e.1.1 y.1.1 = false := by
      cases e2 : sEq e.1.1 y.1.1 with
      | false => rfl
      | true => exact absurd ((sEq_iff _ _).1 e2).symm hy2.2
    rw [List.any_append, List.any_cons, List.any_nil, h5, Bool.or_false, Bool.or_false]
  rw [h2]
theorem shf_all {S : List EnD} {tgt : WtD → Int} {N : List WtD} {pl : Int} {fit : WtD → Bool} (hn : (S.map enN).Nodup) (hN : N.Perm (gatP pl fit S)) : shfS S tgt N = S.map (fun e => if (decide (e.2 = pl) && fit e.1) = true then (e.1, tgt e.1) else e) := by
  unfold shfS
  refine List.map_congr_left (fun e he => ?_)
  have h1 : N.any (fun x => sEq x.1 e.1.1) = (decide (e.2 = pl) && fit e.1) := by
    rw [Bool.eq_iff_iff, List.any_eq_true]
    constructor
    · rintro ⟨x, hx, h2⟩
      obtain ⟨y, hy, rfl⟩ := List.mem_map.1 (hN.mem_iff.1 hx)
      obtain ⟨hy, hp⟩ := List.mem_filter.1 hy
      have : y = e := nd_one (key := enN) hn hy he ((sEq_iff _ _).1 h2)
      rw [← this]; exact hp
    · intro h2
      exact ⟨e.1, hN.mem_iff.2 (List.mem_map.2 ⟨e, List.mem_filter.2 ⟨he, h2⟩, rfl⟩), (sEq_iff _ _).2 rfl⟩
  rw [h1]
/-- What is gathered: each one is an entry, and none has the name of one ahead of it. -/
theorem gat_at {S : List EnD} {N : List WtD} {pl : Int} {fit : WtD → Bool} (hn : (S.map enN).Nodup) (hN : N.Perm (gatP pl fit S)) {k : Nat} (hk : k < N.length) : ∃ e ∈ S, e.1 = N.getD k default ∧ e.2 = pl ∧ (N.take k).any (fun x => sEq x.1 e.1.1) = false := by
  have hg : N.getD k default = N[k] := by rw [List.getD_eq_getElem?_getD, List.getElem?_eq_getElem hk]; rfl
  obtain ⟨e, he, h1⟩ := List.mem_map.1 (hN.mem_iff.1 (List.getElem_mem hk))
  obtain ⟨he, hp⟩ := List.mem_filter.1 he
  simp only [Bool.and_eq_true, decide_eq_true_eq] at hp
  refine ⟨e, he, by rw [hg, h1], hp.1, ?_⟩
  have hnd : (N.map Prod.fst).Nodup := by
    rw [(hN.map Prod.fst).nodup_iff]
    unfold gatP
    rw [List.map_map]
    exact hn.sublist (List.filter_sublist.map _)
  rw [List.any_eq_false]
  intro x hx hs
  have hs := (sEq_iff _ _).1 hs
  have h2 : N.map Prod.fst = (N.take k).map Prod.fst ++ (N[k].1 :: (N.drop (k + 1)).map Prod.fst) := by
    rw [← List.map_cons, ← List.map_append, ← List.drop_eq_getElem_cons hk, List.take_append_drop]
  rw [h2, List.nodup_append] at hnd
  refine hnd.2.2 x.1 (List.mem_map.2 ⟨x, hx, rfl⟩) N[k].1 (List.mem_cons_self ..) ?_
  rw [hs, h1]
/-- Behind Move; behind Tick. -/
def mvE (now : Int) (e : EnD) : EnD := if e.2 = 3 then (e.1, if e.1.2.2.2.2 ≤ now then 1 else 2) else e
def tkE (now : Int) (e : EnD) : EnD := if e.2 = 2 ∧ e.1.2.2.2.2 ≤ now then (e.1, 1) else e
def mvL (S : List EnD) (now : Int) : List EnD := if whenY now = true then S.map (mvE now) else S
def tkL (S : List EnD) (now : Int) : List EnD := if whenY now = true then S.map (tkE now) else S
abbrev yesF : WtD → Bool := fun _ => true
def dueF (now : Int) : WtD → Bool := fun x => decide (x.2.2.2.2 ≤ now)
def mvN (S : List EnD) (now : Int) : Int := if whenY now = true then ((gatP 3 yesF S).length : Int) else 0
def tkN (S : List EnD) (now : Int) : Int := if whenY now = true then ((gatP 2 (dueF now) S).length : Int) else 0
def nowE (now : Int) : Int := if whenY now = true then 0 else 2
def mvT (now : Int) (x : WtD) : Int := if x.2.2.2.2 ≤ now then 1 else 2
theorem mv_all {S : List EnD} {N : List WtD} {now : Int} (hn : (S.map enN).Nodup) (hN : N.Perm (gatP 3 yesF S)) : shfS S (mvT now) N = S.map (mvE now) := by
  rw [shf_all hn hN]
  refine List.map_congr_left (fun e _ => ?_)
  unfold mvE mvT
  simp
theorem tk_all {S : List EnD} {N : List WtD} {now : Int} (hn : (S.map enN).Nodup) (hN : N.Perm (gatP 2 (dueF now) S)) : shfS S (fun _ => 1) N = S.map (tkE now) := by
  rw [shf_all hn hN]
  refine List.map_congr_left (fun e _ => ?_)
  unfold tkE dueF
  simp
end Go.Proofs.YtbmejaailhjgfaaGreat
namespace Go.Proofs.YtbmejaailhjgfaaGreat
open Go.RowKit Go.Maps
set_option linter.unusedSimpArgs false
set_option maxRecDepth 100000

theorem ymovf_asks (u : World) : Asks u 44 #[] yesF := by
  refine ⟨enters_of Tryz.func44 (by kernel_rfl) rfl, fun x z hz => ?_⟩
  show Calls Tryz.prog 44 #[.agg (wtC x).toArray] z _
  go_enter Tryz.func44, Tryz.ntmps44
  go_wp2
  go_ret
  exact ⟨rfl, by go_grown⟩
set_option maxHeartbeats 16000000 in
theorem ymove_calls {F : Where} {u : World} {p : Nat} {S : List EnD} {n : Int} {Ws : List WiD} (h : QA F u p S n Ws) (hF : ∀ b, u.heap.size ≤ b → F b) (now : Int) (hl : S.length < 1000000000) :
    Calls Tryz.prog 12 #[.pointer (some ⟨p, 0, none⟩), .int .i64 now] u fun e w' => e = .returned (.tuple #[.int .i64 (mvN S now), .int .i64 (nowE now)]) ∧ QA F w' p (mvL S now) n Ws ∧ Turns F u w' := by
  have HF : Hid (∀ b, u.heap.size ≤ b → F b) := hF
  have HT1 : Hid (Turns F u u) := Turns.refl _ _
  have HQ : Hid (QA F u p S n Ws) := h
  have hG := ygather_calls h hl 3 44 #[] yesF (ymovf_asks u)
  have HS : Hid (S.length < 1000000000) := hl
  obtain ⟨hb, sb, nb, A, h⟩ := h
  have hN := yagNow_calls h.c0 now
  clear h hF hl 
  cases hw : whenY now with
  | false =>
    have HR : Hid (mvN S now = 0 ∧ nowE now = 2 ∧ mvL S now = S) := ⟨by unfold mvN; rw [if_neg (by rw [hw]; decide)], by unfold nowE; rw [if_neg (by rw [hw]; decide)], by unfold mvL; rw [if_neg (by rw [hw]; decide)]⟩
    rw [hw] at hN
    clear hw hG
    go_enter Tryz.func12, Tryz.ntmps12
    go_wp2_with fail
    refine hN.mono ?_
    rintro e w2 ⟨rfl, hw2⟩
    obtain rfl := hw2.symm
    clear hN
    go_wp2_with fail
    go_ret2
    exact ⟨by rw [HR.out.1, HR.out.2.1]; rfl, by rw [HR.out.2.2]; exact HQ.out, HT1.out⟩
  | true =>
    have HRL : Hid (mvL S now = S.map (mvE now)) := by rw [Hid]; unfold mvL; rw [if_pos hw]
    have HRN : Hid (mvN S now = ((gatP 3 yesF S).length : Int) ∧ nowE now = 0) := ⟨by unfold mvN; rw [if_pos hw], by unfold nowE; rw [if_pos hw]⟩
    rw [hw] at hN
    clear hw
    go_enter Tryz.func12, Tryz.ntmps12
    go_wp2_with fail
    refine hN.mono ?_
    rintro e w2 ⟨rfl, hw2⟩
    obtain rfl := hw2.symm
    clear hN
    go_wp2_with fail
    refine hG.mono ?_
    rintro e w2 ⟨v, l, rfl, hrow, hperm, hsrt⟩
    obtain ⟨va, vn, vc, rfl⟩ := hrow.headG
    have hvn : l.length = vn := by
      obtain ⟨xs, ⟨_, _, ⟨e1, h0⟩ | ⟨g', cap', cur, e1, _⟩⟩, _⟩ := hrow
      · simp only [Value.slice.injEq] at e1; omega
      · simp only [Value.slice.injEq] at e1; omega
    subst hvn
    have HB2 : Hid (Below u.heap.size u w2) := hrow.below
    have HGe : Hid (∀ k, k < l.length → ∃ e ∈ S, e.1 = l.getD k default ∧ e.2 = 3 ∧ (l.take k).any (fun x => sEq x.1 e.1.1) = false) := fun k hk => gat_at HQ.out.nd hperm hk
    have HEnd : Hid (shfS S (mvT now) l = S.map (mvE now) ∧ l.length = (gatP 3 yesF S).length) := ⟨mv_all HQ.out.nd hperm, hperm.length_eq⟩
    have HG : Hid (∀ k, k < l.length → ∃ g c, Value.slice va l.length vc = .slice (some ⟨g, 0, none⟩) l.length c ∧ u.heap.size ≤ g ∧ g < w2.heap.size ∧ okS (l.getD k default).1 ∧ ∀ z : World, z.heap[g]? = w2.heap[g]? → z.rangeAt g (k * 5) (wtC (l.getD k default))) := fun k hk => by
      obtain ⟨g, c, cs, e, hg, hr, hc⟩ := hrow.getG RWt.firm hk
      obtain ⟨rfl, h2⟩ : cs = wtC _ ∧ _ := hr
      refine ⟨g, c, e, (hrow.lt (b := g) (by rw [e]; rfl)).1, hg, h2, fun z hz j v hj => ?_⟩
      have h3 := hc j v hj
      simp only [World.cell?, hz] at h3 ⊢
      exact h3
    have HVl : Hid (∀ b, (Value.slice va l.length vc).ownBlock = some b → u.heap.size ≤ b ∧ b < w2.heap.size) := fun b hb => hrow.lt hb
    have HI0 : Hid (QA (fun b => F b ∧ (Value.slice va l.length vc).ownBlock ≠ some b) w2 p (shfS S (mvT now) (l.take 0)) n Ws ∧ Turns F u w2 ∧ ∀ b, (Value.slice va l.length vc).ownBlock = some b → w2.heap[b]? = w2.heap[b]?) := by
      refine ⟨?_, HT1.out.trans (Turns.below hrow.below), fun b _ => rfl⟩
      rw [List.take_zero, shf_nil]
      exact (HQ.out.weak (fun b hb hf => ⟨hf, fun e => by have := (hrow.lt e).1; omega⟩)).on hrow.below
    obtain ⟨m, hm⟩ : ∃ m, m = l.length := ⟨_, rfl⟩
    have HLm : Hid (m < 1000000000) := by have h1 := HEnd.out.2; have h2 := gat_len 3 yesF S; have h3 := HS.out; rw [Hid]; omega
    have hml : m < 1000000000000000 := by have := HLm.out; omega
    have HQn : Hid ((S.map enN).Nodup ∧ (∀ e ∈ S, okE e)) := ⟨HQ.out.nd, HQ.out.ok⟩
    rw [← hm] at HG HVl HI0 HGe ⊢
    have Hm : Hid (m = l.length) := hm
    clear hG hrow hperm hsrt hm 
    go_wp2_with fail
    --M1
    go_loopw [20] (fun i wr => ∃ k : Nat, k ≤ m ∧ i = .int .i64 k ∧ Hid (QA (fun b => F b ∧ (Value.slice va m vc).ownBlock ≠ some b) wr p (shfS S (mvT now) (l.take k)) n Ws ∧ Turns F u wr ∧ (∀ b, (Value.slice va m vc).ownBlock = some b → wr.heap[b]? = w2.heap[b]?) ∧ w2.heap.size ≤ wr.heap.size)) (fun i _ => m - (intOf i).toNat)
    case atStart => exact ⟨0, Nat.zero_le _, rfl, HI0.out.1, HI0.out.2.1, fun _ _ => rfl, Nat.le_refl _⟩
    case round =>
      obtain ⟨k, hk, rfl, HI⟩ := hrel
      by_cases hlt : k < m
      · have hltz : (k : Int) < (m : Int) := by omega
        obtain ⟨g, c, ev, hge, hg, hok, hr⟩ := HG.out k hlt
        obtain ⟨e, heS, he1, he2, heN⟩ := HGe.out k hlt
        obtain ⟨rfl, rfl⟩ : va = some ⟨g, 0, none⟩ ∧ vc = c := by simp only [Value.slice.injEq] at ev; exact ⟨ev.1, ev.2.2⟩
        have hrz := hr wr (HI.out.2.2.1 g rfl)
        have hst := shf_step (tgt := (mvT now)) HQn.out.1 heS heN
        have HTk : Hid (l.take (k + 1) = l.take k ++ [e.1]) := by rw [Hid, List.take_succ_eq_append_getElem (by rw [← Hm.out]; exact hlt), he1, List.getD_eq_getElem?_getD, List.getElem?_eq_getElem (by rw [← Hm.out]; exact hlt)]; rfl
        have HSt : Hid ((shfS S (mvT now) (l.take (k + 1))).Perm (othG enN e.1.1 (shfS S (mvT now) (l.take k)) ++ [(e.1, (mvT now) e.1)])) := by rw [Hid, HTk.out]; exact hst
        have hoke := HQn.out.2 e heS
        rw [← he1] at hrz
        obtain ⟨W3, hW3⟩ : ∃ Z, Z = wr.alloc (.cells (wtC e.1).toArray 31) := ⟨_, rfl⟩
        have b3 : Below wr.heap.size wr W3 := by rw [hW3]; exact (Below.refl _ _).alloc (Nat.le_refl _) _
        have q3 : BoxL W3 wr.heap.size (wtC e.1) := by rw [hW3]; exact BoxL.new wr 31 _
        have hC := fun (pl' : Int) (hpl : okE (e.1, pl')) => yshift_calls (HI.out.1.on b3) (fun b hb => ⟨HF.out b (Nat.le_trans HI.out.2.1.size (Nat.le_trans b3.size hb)), fun e => by have e2 : g = b := (by injection e); have h1 := HI.out.2.2.2; have h2 := b3.size; omega⟩) e.1 pl' hpl (by rw [shf_len]; exact HS.out)
        have HX3 : Hid (BoxL W3 wr.heap.size (wtC e.1) ∧ Below wr.heap.size wr W3) := ⟨q3, b3⟩
        have HW3 : Hid (wr.alloc (.cells (wtC e.1).toArray 31) = W3) := hW3.symm
        have HNx : Hid (∀ w4, QA (fun b => F b ∧ (Value.slice (some ⟨g, 0, none⟩) m vc).ownBlock ≠ some b) w4 p (othG enN e.1.1 (shfS S (mvT now) (l.take k)) ++ [(e.1, (mvT now) e.1)]) n Ws → Turns (fun b => F b ∧ (Value.slice (some ⟨g, 0, none⟩) m vc).ownBlock ≠ some b) W3 w4 → QA (fun b => F b ∧ (Value.slice (some ⟨g, 0, none⟩) m vc).ownBlock ≠ some b) w4 p (shfS S (mvT now) (l.take (k + 1))) n Ws ∧ Turns F u w4 ∧ (∀ b, (Value.slice (some ⟨g, 0, none⟩) m vc).ownBlock = some b → w4.heap[b]? = w2.heap[b]?) ∧ w2.heap.size ≤ w4.heap.size) := fun w4 hq ht => by
          refine ⟨hq.perm HSt.out, HI.out.2.1.trans ((Turns.below b3).trans (ht.weak (fun b _ hf => hf.1))), fun b hb => ?_, Nat.le_trans HI.out.2.2.2 (Nat.le_trans b3.size ht.size)⟩
          have hb2 := hb
          injection hb with hb
          subst hb
          have h1 := HI.out.2.2.2
          exact (ht.block g (by have := b3.size; omega) (fun hf => hf.2 hb2)).trans ((b3.block g (by omega)).trans (HI.out.2.2.1 g hb2))
        clear hst hr ev hok hW3 b3 q3 heN he1 he2 HSt HTk HI0
        obtain ⟨⟨x0, x1, x2, x3, x4⟩, xp⟩ := e
        have d0 := hrz 0 _ rfl
        have d1 := hrz 1 _ rfl
        have d2 := hrz 2 _ rfl
        have d3 := hrz 3 _ rfl
        have d4 := hrz 4 _ rfl
        rw [Nat.add_zero] at d0
        have HX : Hid (wr.rangeAt g (k * 5) (wtC (x0, x1, x2, x3, x4))) := hrz
        clear hrz
        go_upto_region 8 with (first | (refine wpList_load_mid rfl 31 _ rfl g (k * 5) rfl (wtC (x0, x1, x2, x3, x4)) _ HX.out Tryz.underlying31 rfl (by kernel_rfl) ?_) | fail)
        --M2
        rw [HW3.out]
        clear d0 d1 d2 d3 d4 HX HW3
        have HX4 : Hid (W3.rangeAt wr.heap.size 0 (wtC (x0, x1, x2, x3, x4))) := HX3.out.1.range
        have c4 : W3.cell? ⟨wr.heap.size, 4, none⟩ = some (.int .i64 x4) := (HX3.out.1.2 4 _ rfl).1
        by_cases hx4 : x4 ≤ now
        · have hC2 := hC 1 ⟨hoke.1, hoke.2.1, .inl rfl⟩
          clear hC
          have HNx2 : Hid (∀ w4, QA (fun b => F b ∧ (Value.slice (some ⟨g, 0, none⟩) m vc).ownBlock ≠ some b) w4 p (othG enN x0 (shfS S (mvT now) (l.take k)) ++ [((x0, x1, x2, x3, x4), 1)]) n Ws → Turns (fun b => F b ∧ (Value.slice (some ⟨g, 0, none⟩) m vc).ownBlock ≠ some b) W3 w4 → QA (fun b => F b ∧ (Value.slice (some ⟨g, 0, none⟩) m vc).ownBlock ≠ some b) w4 p (shfS S (mvT now) (l.take (k + 1))) n Ws ∧ Turns F u w4 ∧ (∀ b, (Value.slice (some ⟨g, 0, none⟩) m vc).ownBlock = some b → w4.heap[b]? = w2.heap[b]?) ∧ w2.heap.size ≤ w4.heap.size) := by have h1 := HNx.out; rw [show mvT now (x0, x1, x2, x3, x4) = 1 from if_pos hx4] at h1; exact h1
          clear HNx HX3
          go_wp2_with (first | (refine wpList_load_mid rfl 31 _ rfl wr.heap.size 0 rfl (wtC (x0, x1, x2, x3, x4)) _ HX4.out Tryz.underlying31 rfl (by kernel_rfl) ?_) | fail)
          refine hC2.mono ?_
          rintro e w4 ⟨rfl, h4, t4⟩
          have HN4 := HNx2.out w4 h4 t4
          have HN5 : Hid (_ ∧ _) := HN4
          clear HN4 hC2 h4 t4 HNx2
          go_wp2_with fail
          go_roundw
          case rel => exact ⟨k + 1, by omega, by go_num, HN5.out⟩
          case measure => simp [intOf]; omega
        · have hC2 := hC 2 ⟨hoke.1, hoke.2.1, .inr (.inl rfl)⟩
          clear hC
          have HNx2 : Hid (∀ w4, QA (fun b => F b ∧ (Value.slice (some ⟨g, 0, none⟩) m vc).ownBlock ≠ some b) w4 p (othG enN x0 (shfS S (mvT now) (l.take k)) ++ [((x0, x1, x2, x3, x4), 2)]) n Ws → Turns (fun b => F b ∧ (Value.slice (some ⟨g, 0, none⟩) m vc).ownBlock ≠ some b) W3 w4 → QA (fun b => F b ∧ (Value.slice (some ⟨g, 0, none⟩) m vc).ownBlock ≠ some b) w4 p (shfS S (mvT now) (l.take (k + 1))) n Ws ∧ Turns F u w4 ∧ (∀ b, (Value.slice (some ⟨g, 0, none⟩) m vc).ownBlock = some b → w4.heap[b]? = w2.heap[b]?) ∧ w2.heap.size ≤ w4.heap.size) := by have h1 := HNx.out; rw [show mvT now (x0, x1, x2, x3, x4) = 2 from if_neg hx4] at h1; exact h1
          clear HNx HX3
          go_wp2_with (first | (refine wpList_load_mid rfl 31 _ rfl wr.heap.size 0 rfl (wtC (x0, x1, x2, x3, x4)) _ HX4.out Tryz.underlying31 rfl (by kernel_rfl) ?_) | fail)
          refine hC2.mono ?_
          rintro e w4 ⟨rfl, h4, t4⟩
          have HN4 := HNx2.out w4 h4 t4
          have HN5 : Hid (_ ∧ _) := HN4
          clear HN4 hC2 h4 t4 HNx2
          go_wp2_with fail
          go_roundw
          case rel => exact ⟨k + 1, by omega, by go_num, HN5.out⟩
          case measure => simp [intOf]; omega
      · have hkm : k = m := by omega
        have HFn : Hid (QA F wr p (S.map (mvE now)) n Ws ∧ Turns F u wr) := by
          have h1 := HI.out.1
          rw [hkm, Hm.out, List.take_length, HEnd.out.1] at h1
          exact ⟨h1.weak (fun b _ hf => hf.1), HI.out.2.1⟩
        have HNm : Hid (mvN S now = (m : Int)) := by rw [Hid, HRN.out.1, ← HEnd.out.2, ← Hm.out]
        clear HI hkm HI0
        go_wp2_with fail
        --M3
        go_ret2
        exact ⟨by rw [HNm.out, HRN.out.2]; rfl, by rw [HRL.out]; exact HFn.out.1, HFn.out.2⟩
end Go.Proofs.YtbmejaailhjgfaaGreat
