/- The queue: All. Condition: the queue lies as is said of it, and is not too long. The queue: Clone. Condition: the queue lies as is said of it, and is not too long. base.Reqs gives a slice of its own, its values' texts copied too, that holds the same. Condition: the slice holds what is said of it. base.SameTexts, SameInts, SameLabels, SameReqs, sameTerms tell whether two slices hold the same; they change nothing but the count of draws. Condition: the slices hold what is said of them. base.Has and base.HasInt tell whether it is in a list, and change nothing. Condition: the slice lies as is said of it. Insertion into a rising list, each once. Plain mathematics. No condition. Texts sorted, each once: what is sorted hangs on what there is alone. Plain mathematics. No condition. The law's own less: a list without a text. Condition: the list lies as is said of it. -/
import Derived.Test.YtbmejaailhjgfaaGreatQ16
import Derived.Test.YtbmejaailhjgfaaGreatQ13
import Derived.Shelf.SlMaps.Clone
import Derived.Test.YtbmejaailhjgfaaGreatQ03
import Derived.Laws.StructEq
import Derived.Test.YtbmejaailhjgfaaGreatQ09
import Derived.Test.YtbmejaailhjgfaaGreatQ02
import Derived.Test.YtbmejaailhjgfaaGreatQ04
namespace Go.Proofs.YtbmejaailhjgfaaGreat
open Go.RowKit Go.Maps
set_option linter.unusedSimpArgs false
set_option maxRecDepth 100000

/-- Those of a place, in their order. -/
def AllR (S : List EnD) (pl : Int) (l : List WtD) : Prop := l.Perm (gatP pl (fun _ => true) S) ∧ (pl ≠ 1 → l.Pairwise (fun x y => lessY y x = false)) ∧ (pl = 1 → l.Pairwise (fun x y => ahead (itY y) (itY x) = false))
def AllO (u : World) (S : List EnD) (pl : Int) (e : Ending) (w' : World) : Prop := ∃ v l, e = .returned v ∧ Row RWt 5 (fun _ => False) u w' 31 v l ∧ AllR S pl l
theorem yallf_asks (u : World) : Asks u 52 #[] (fun _ => true) := by
  refine ⟨enters_of Tryz.func52 (by kernel_rfl) rfl, fun x z hz => ?_⟩
  show Calls Tryz.prog 52 #[.agg (wtC x).toArray] z _
  go_enter Tryz.func52, Tryz.ntmps52
  go_wp2
  go_ret
  exact ⟨rfl, by go_grown⟩
theorem all_ready {F : Where} {u : World} {p hb sb nb : Nat} {A : List It} {S : List EnD} {n : Int} {Ws : List WiD} (h : QF F u p hb sb nb A S n Ws) : AllR S 1 ((stabF A).map (fun it => enY S it.1)) := by
  have hnd := h.spots.nd
  have hen : ∀ e ∈ S, enY S e.1.1 = e.1 := fun e he => by unfold enY; rw [fndG_of (key := enN) hnd he]; rfl
  have hp : (stabF A).Perm (rdyY S) := (stabF_perm A).trans h.pm
  refine ⟨?_, fun e => absurd rfl e, fun _ => ?_⟩
  · refine (hp.map _).trans ?_
    unfold rdyY gatP
    rw [List.map_map]
    have e1 : (S.filter (fun e => decide (e.2 = 1))).map ((fun it => enY S it.1) ∘ fun e => itY e.1) = (S.filter (fun e => decide (e.2 = 1) && (fun _ => true) e.1)).map Prod.fst := by
      simp only [Bool.and_true]
      refine List.map_congr_left (fun e he => ?_)
      exact hen e (List.mem_filter.1 he).1
    rw [e1]
  · have hit : ∀ it ∈ stabF A, itY (enY S it.1) = it := fun it hi => by
      obtain ⟨e, he, e1⟩ := List.mem_map.1 (hp.mem_iff.1 hi)
      have he := (List.mem_filter.1 he).1
      rw [← e1]
      show itY (enY S e.1.1) = itY e.1
      rw [hen e he]
    rw [List.pairwise_map, List.pairwise_iff_getElem]
    intro i j hi hj hij
    rw [hit _ (List.getElem_mem hj), hit _ (List.getElem_mem hi)]
    have := stabF_srt A i j (Nat.zero_le _) (Nat.le_of_lt hij) (by rw [← stabF_length]; exact hj)
    unfold nl at this
    rw [at_get hi, at_get hj] at this
    exact this
set_option maxHeartbeats 16000000 in
theorem yall_calls {F : Where} {u : World} {p : Nat} {S : List EnD} {n : Int} {Ws : List WiD} (h : QA F u p S n Ws) (hl : S.length < 1000000000) (pl : Int) :
    Calls Tryz.prog 27 #[.pointer (some ⟨p, 0, none⟩), .int .i64 pl] u (AllO u S pl) := by
  have hG := ygather_calls h hl pl 52 #[] (fun _ => true) (yallf_asks u)
  obtain ⟨hb, sb, nb, A, h⟩ := h
  have hM := ymade_calls h.c0 ⟨_, rfl⟩
  by_cases hp1 : pl = 1
  · subst hp1
    have hAl : A.length < 1000000000 := by
      have e1 := h.pm.length_eq
      have e2 : (rdyY S).length ≤ S.length := by unfold rdyY; rw [List.length_map]; exact List.length_filter_le _ _
      omega
    have hA := All_calls h.heap hAl
    have HAR : Hid (AllR S 1 ((stabF A).map (fun it => enY S it.1))) := all_ready h
    have HSM : Hid ((stabF A).length = A.length) := stabF_length A
    obtain ⟨M, hMd⟩ : ∃ M, M = stabF A := ⟨_, rfl⟩
    rw [← hMd] at HAR HSM hA
    obtain ⟨m, hm⟩ : ∃ m, m = A.length := ⟨_, rfl⟩
    rw [← hm] at HSM hA hAl
    have c0 := h.c0
    have HQ : Hid (QF F u p hb sb nb A S n Ws) := h
    have HAl : Hid (m < 1000000000) := hAl
    have hml : m < 1000000000000000 := by omega
    clear h hG hMd hm
    go_enter Tryz.func27, Tryz.ntmps27
    go_upto_region 6 with (go_at_call 36; refine hM.mono ?_; rintro e w' ⟨rfl, hw'⟩; obtain rfl := hw'.symm)
    go_wp2_with fail
    refine hA.mono ?_
    rintro e w1 ⟨a', c', rfl, hrow, hb1, _⟩
    have HR : Hid (RowAt encI 3 okI w1 a' M) := hrow
    have HB1 : Hid (Below u.heap.size u w1) := hb1
    have HR0 : Hid (Row RWt 5 (fun _ => False) w1 w1 31 (.slice none 0 0) ((M.take 0).map (fun it => enY S it.1))) := Row.nil _ _ _
    clear hA hM hrow hb1 c0
    go_wp2_with fail
    --M1
    go_loopw [5, 22] (fun v iv wr => ∃ k : Nat, k ≤ m ∧ iv = .int .i64 k ∧ Hid (Row RWt 5 (fun _ => False) w1 wr 31 v ((M.take k).map (fun it => enY S it.1)))) (fun _ iv _ => m - (intOf iv).toNat)
    case atStart => exact ⟨0, Nat.zero_le _, rfl, HR0⟩
    case round =>
      obtain ⟨k, hk, rfl, hrow⟩ := hrel
      clear HR0
      by_cases hlt : k < m
      · have hltz : (k : Int) < (m : Int) := by omega
        have hkM : k < M.length := by rw [HSM.out]; exact hlt
        obtain ⟨B, off, rfl, hB, hcs, hok⟩ := (HR.out.on hrow.out.below).get hkM
        have hst : (M.take (k + 1)).map (fun it => enY S it.1) = (M.take k).map (fun it => enY S it.1) ++ [enY S (M.getD k default).1] := by
          rw [List.take_succ_eq_append_getElem hkM, List.map_append, List.getD_eq_getElem?_getD, List.getElem?_eq_getElem hkM]
          rfl
        obtain ⟨it, hit⟩ : ∃ it, it = M.getD k default := ⟨_, rfl⟩
        rw [← hit] at hcs hok hst
        have d0 := hcs 0 _ rfl
        have d1 := hcs 1 _ rfl
        have d2 := hcs 2 _ rfl
        rw [Nat.add_zero] at d0
        obtain ⟨V, hV⟩ : ∃ Z, Z = wr.alloc (.cells #[.string it.1, .int .i64 it.2.1, .int .i64 it.2.2] 67) := ⟨_, rfl⟩
        have bV : Below wr.heap.size wr V := by rw [hV]; exact (Below.refl _ _).alloc (Nat.le_refl _) _
        have qV : BoxL V wr.heap.size [.string it.1, .int .i64 it.2.1, .int .i64 it.2.2] := by rw [hV]; exact BoxL.new wr 67 _
        have HV : Hid (wr.alloc (.cells #[.string it.1, .int .i64 it.2.1, .int .i64 it.2.2] 67) = V) := hV.symm
        have hbu : Below u.heap.size u V := on2 HB1.out (on2 hrow.out.below bV)
        obtain ⟨xp, hlk⟩ := en_look S it.1
        have hoks : okS (enY S it.1).1 := by
          unfold enY
          cases e : fndG enN S it.1 with
          | none => show (0 : Nat) ≤ 140737488355328; omega
          | some y => exact (HQ.out.ok y (fndG_some e).1).1
        have HOK : Hid (okS (enY S it.1).1) := hoks
        obtain ⟨x, hx⟩ : ∃ x, x = enY S it.1 := ⟨_, rfl⟩
        rw [← hx] at hlk hst HOK
        have HSt : Hid ((M.take (k + 1)).map (fun it => enY S it.1) = (M.take k).map (fun it => enY S it.1) ++ [x]) := hst
        have HLn : Hid (((M.take k).map (fun it => enY S it.1)).length ≤ k) := by rw [Hid, List.length_map, List.length_take]; omega
        obtain ⟨N, hN⟩ : ∃ N, N = (M.take k).map (fun it => enY S it.1) := ⟨_, rfl⟩
        rw [← hN] at hrow HSt HLn
        have hrV : Row RWt 5 (fun _ => False) w1 V 31 u5 N := hrow.out.on RWt.firm bV
        have hlow : ∀ b, u5.ownBlock = some b → w1.heap.size ≤ b ∧ b < wr.heap.size := fun b hb => hrow.out.lt hb
        have hpl : p < w1.heap.size ∧ sb < w1.heap.size := ⟨Nat.lt_of_lt_of_le HQ.out.lt HB1.out.size, Nat.lt_of_lt_of_le HQ.out.spots.lt HB1.out.size⟩
        have HC : Hid (∀ z, Kept (fun b => u5.ownBlock ≠ some b) V z → z.cell? ⟨p, 1, none⟩ = some (.map (some sb)) ∧ z.cell? ⟨wr.heap.size, 0, none⟩ = some (.string it.1) ∧ (Instr.lookup 57 (.map (some sb)) (.string it.1) false).run Tryz.prog z = .ok (spC (x, xp)) z) := fun z hz => by
          have n1 : u5.ownBlock ≠ some p := fun e => by have := (hlow p e).1; omega
          have n2 : u5.ownBlock ≠ some sb := fun e => by have := (hlow sb e).1; omega
          have n3 : u5.ownBlock ≠ some wr.heap.size := fun e => by have := (hlow _ e).2; omega
          have hqV := HQ.out.on hbu
          refine ⟨?_, ((qV.kept hz n3).2 0 _ rfl).1, ?_⟩
          · exact (hz.cell (p := ⟨p, 1, none⟩) n1 hqV.lt).trans hqV.c1
          · have := (hqV.spots.same (hz.2 sb n2 hqV.spots.lt)).look 57 78 Tryz.underlying57 (zeroSp z) hok
            rw [hlk] at this
            exact this
        have HRV : Hid (Row RWt 5 (fun _ => False) w1 V 31 u5 N) := hrV
        have hfd := fldE
        obtain ⟨x0, x1, x2, x3, x4⟩ := x
        simp only [spC] at HC
        clear hcs hst hlk hoks hN hrow hrV hlow hpl hV bV qV hbu hkM hit hx hok HAR
        go_upto_region 9 with fail
        rw [HV.out]
        clear d0 d1 d2 HV
        --M2
        have hb0 : Below V.heap.size V V.drew := (Below.refl _ _).drew
        refine t0 (fun z => Kept (fun b => u5.ownBlock ≠ some b) V z) (Kept.below hb0) (fun hHeld => ?_)
        have Hd : Hid (Row RWt 5 (fun _ => False) w1 V.drew 31 u5 N) := HRV.out.on RWt.firm hb0
        generalize hwd : V.drew = wd at hHeld Hd ⊢
        clear hwd hb0
        try go_frame
        refine' tk 0 ?_ ?_; rotate_left
        · intro z hz; obtain ⟨f0, f1, f2⟩ := HC.out z hz; clear hz; go_simp; try with_reducible rfl
        try go_frame
        refine' tk 1 ?_ ?_; rotate_left
        · intro z hz; obtain ⟨f0, f1, f2⟩ := HC.out z hz; clear hz; go_simp; try with_reducible rfl
        try go_frame
        refine' tk 2 ?_ ?_; rotate_left
        · intro z hz; obtain ⟨f0, f1, f2⟩ := HC.out z hz; clear hz; go_simp; try with_reducible rfl
        try go_frame
        refine' tk 3 ?_ ?_; rotate_left
        · intro z hz; obtain ⟨f0, f1, f2⟩ := HC.out z hz; clear hz; go_simp; try with_reducible rfl
        try go_frame
        refine' tk 4 ?_ ?_; rotate_left
        · intro z hz; obtain ⟨f0, f1, f2⟩ := HC.out z hz; clear hz; go_simp; try with_reducible rfl
        try go_frame
        refine' tk 5 ?_ ?_; rotate_left
        · intro z hz; obtain ⟨f0, f1, f2⟩ := HC.out z hz; clear hz; go_simp; try with_reducible rfl
        try go_frame
        refine' tk 6 ?_ ?_; rotate_left
        · intro z hz; obtain ⟨f0, f1, f2⟩ := HC.out z hz; clear hz; go_simp; try with_reducible rfl
        try go_frame
        refine' tk 7 ?_ ?_; rotate_left
        · intro z hz; obtain ⟨f0, f1, f2⟩ := HC.out z hz; clear hz; go_simp; try with_reducible rfl
        try go_frame
        refine' tk 8 ?_ ?_; rotate_left
        · intro z hz; obtain ⟨f0, f1, f2⟩ := HC.out z hz; clear hz; go_simp; try with_reducible rfl
        try go_frame
        refine tr 9 (fun K hK => ?_)
        go_simp
        obtain ⟨W3, hW3⟩ : ∃ Z, Z = wd.alloc (.cells #[.string x0, .int .i64 x1, .int .i64 x2, .int .i64 x3, .int .i64 x4] 31) := ⟨_, rfl⟩
        have b3 : Below wd.heap.size wd W3 := by rw [hW3]; exact (Below.refl _ _).alloc (Nat.le_refl _) _
        have q3 : BoxL W3 wd.heap.size (wtC (x0, x1, x2, x3, x4)) := by rw [hW3]; exact BoxL.new wd 31 _
        rw [← hW3]
        clear hW3
        refine hK.out _ _ (hHeld.trans (Kept.below b3)) (fun hHeld2 => ?_)
        clear hK K hHeld; have hHeld := hHeld2; clear hHeld2
        try go_frame
        refine tr 10 (fun K hK => ?_)
        refine want_yesY (by rfl) (row_appendP_wp RWt.firm (A := fun _ => False) (w0 := w1) _ _ 50 31 rfl _ 48 infoWt Tryz.underlying50 rfl (by decide) (by decide) u5 N rfl (Hd.out.on RWt.firm b3) (some ⟨wd.heap.size, 0, none⟩) 1 1 [(x0, x1, x2, x3, x4)] rfl (src_boxG RWt.firm q3 ⟨rfl, HOK.out⟩) (by rw [List.length_singleton]; have h1 := HLn.out; have h2 := HAl.out; omega) ?_)
        intro v4 w4 hrow4 hg4 hw4
        refine hK.out _ _ (hHeld.trans (Kept.grown hg4 (fun k e hk => hk e))) (fun hHeld2 => ?_)
        clear hK K hHeld; have hHeld := hHeld2; clear hHeld2
        try go_frame
        refine' tk 11 ?_ ?_; rotate_left
        · intro z hz; clear hz; go_simp; try with_reducible rfl
        try go_frame
        refine tz ?_
        have HN : Hid (Row RWt 5 (fun _ => False) w1 w4 31 v4 ((M.take (k + 1)).map (fun it => enY S it.1))) := by rw [Hid, HSt.out]; exact hrow4
        clear hHeld hrow4 hg4 hw4 b3 q3 Hd HRV HC HSt HLn HOK
        go_wp2_with fail
        --M3
        go_roundw
        case rel => exact ⟨k + 1, by omega, by go_num, HN⟩
        case measure => simp [intOf]; omega
      · have hkm : k = m := by omega
        have HF : Hid (Row RWt 5 (fun _ => False) u wr 31 u5 (M.map (fun it => enY S it.1))) := by
          have h1 := hrow.out
          rw [List.take_of_length_le (by rw [HSM.out]; omega)] at h1
          exact h1.from RWt.firm HB1.out (fun _ h => h)
        clear hrow hkm
        go_wp2_with fail
        go_ret
        exact ⟨_, _, rfl, HF.out, HAR.out⟩
  · have HPl : Hid (pl ≠ 1) := hp1
    clear h
    go_enter Tryz.func27, Tryz.ntmps27
    go_wp2_with (first | (go_at_call 36; refine hM.mono ?_; rintro e w' ⟨rfl, hw'⟩; obtain rfl := hw'.symm) | fail)
    refine hG.mono ?_
    rintro e w2 ⟨v, l, rfl, hr, hp, hs⟩
    have HF : Hid (Row RWt 5 (fun _ => False) u w2 31 v l ∧ AllR S pl l) := ⟨hr, hp, fun _ => hs, fun e => absurd e HPl.out⟩
    clear hG hr hp hs
    go_wp2_with fail
    go_ret
    exact ⟨v, l, rfl, HF.out.1, HF.out.2⟩
end Go.Proofs.YtbmejaailhjgfaaGreat
namespace Go.Proofs.YtbmejaailhjgfaaGreat
open Go.RowKit Go.Maps
set_option linter.unusedSimpArgs false
set_option maxRecDepth 100000

set_option maxHeartbeats 2000000 in
theorem spClone_calls (b : Nat) (es : Array MapEntry) (clock : Nat) (w : World) (hb : w.heap[b]? = some (.map es clock)) :
    Calls Tryz.prog 48 #[.map (some b)] w fun e w' => e = .returned (.map (some w.heap.size)) ∧ w' = w.alloc (.map es clock) := by
  have hq := fun w => run_eql_map_nil_sl (P := Tryz.prog) w 57 _ _ (some b) Tryz.underlying57
  go_enter Tryz.func48, Tryz.ntmps48
  go_wp2
  rw [run_callFunc_extern Tryz.func69 (by kernel_rfl) (by kernel_rfl) (by kernel_rfl) (e := Extern.MapsClone.clone) (by kernel_rfl), run_maps_clone_sl w 57 hb]
  simp only [Result.andThen]
  rw [Oper.upon_value]
  go_wp2
  rw [run_typeAssert_map_sl _ 57 _ _ _ _ Tryz.underlying57]
  simp only [Result.andThen]
  rw [Oper.upon_value]
  go_wp2
  go_ret
  exact ⟨rfl, rfl⟩
set_option maxHeartbeats 2000000 in
theorem hoClone_calls (b : Nat) (es : Array MapEntry) (clock : Nat) (w : World) (hb : w.heap[b]? = some (.map es clock)) :
    Calls Tryz.prog 49 #[.map (some b)] w fun e w' => e = .returned (.map (some w.heap.size)) ∧ w' = w.alloc (.map es clock) := by
  have hq := fun w => run_eql_map_nil_sl (P := Tryz.prog) w 58 _ _ (some b) Tryz.underlying58
  go_enter Tryz.func49, Tryz.ntmps49
  go_wp2
  rw [run_callFunc_extern Tryz.func69 (by kernel_rfl) (by kernel_rfl) (by kernel_rfl) (e := Extern.MapsClone.clone) (by kernel_rfl), run_maps_clone_sl w 58 hb]
  simp only [Result.andThen]
  rw [Oper.upon_value]
  go_wp2
  rw [run_typeAssert_map_sl _ 58 _ _ _ _ Tryz.underlying58]
  simp only [Result.andThen]
  rw [Oper.upon_value]
  go_wp2
  go_ret
  exact ⟨rfl, rfl⟩
theorem MpL.cloned {α : Type} {key : α → ByteArray} {val : α → Value} {S : List α} {u : World} {mb : Nat} (h : MpL u mb key val S) : ∃ es ck, u.heap[mb]? = some (.map es ck) ∧ ∀ (w : World) (b : Nat), w.heap[b]? = some (.map es ck) → MpL w b key val S := by
  obtain ⟨D, ⟨es, ck, h1, h2⟩, h3⟩ := h
  exact ⟨es, ck, h1, fun w b hb => ⟨D, ⟨es, ck, hb, h2⟩, h3⟩⟩
def CloO (u : World) (S : List EnD) (n : Int) (Ws : List WiD) (e : Ending) (w' : World) : Prop := ∃ q, e = .returned (.pointer (some ⟨q, 0, none⟩)) ∧ QA (Fresh u) w' q S n Ws ∧ Below u.heap.size u w'
set_option maxHeartbeats 16000000 in
theorem yclone_calls {F : Where} {u : World} {p : Nat} {S : List EnD} {n : Int} {Ws : List WiD} (h : QA F u p S n Ws) (hl : S.length < 1000000000) :
    Calls Tryz.prog 20 #[.pointer (some ⟨p, 0, none⟩)] u (CloO u S n Ws) := by
  obtain ⟨hb, sb, nb, A, h⟩ := h
  have hM := ymade_calls h.c0 ⟨_, rfl⟩
  have hAl : A.length < 1000000000 := by
    have e1 := h.pm.length_eq
    have e2 : (rdyY S).length ≤ S.length := by unfold rdyY; rw [List.length_map]; exact List.length_filter_le _ _
    omega
  obtain ⟨es, ck, hsm, hS⟩ := h.spots.cloned
  obtain ⟨es2, ck2, hnm, hN⟩ := h.hopes.cloned
  have HC : Hid (∀ z, Below u.heap.size u z → z.cell? ⟨p, 0, none⟩ = some (.pointer (some ⟨hb, 0, none⟩)) ∧ z.cell? ⟨p, 1, none⟩ = some (.map (some sb)) ∧ z.cell? ⟨p, 2, none⟩ = some (.map (some nb)) ∧ z.cell? ⟨p, 3, none⟩ = some (.int .i64 n)) := fun z hz => ⟨(h.on hz).c0, (h.on hz).c1, (h.on hz).c2, (h.on hz).c3⟩
  have HA : Hid (∀ z, Below u.heap.size u z → Calls Tryz.prog 47 #[.pointer (some ⟨hb, 0, none⟩)] z fun e w' => ∃ hb', e = .returned (.pointer (some ⟨hb', 0, none⟩)) ∧ HAt (Fresh z) w' hb' A ∧ Below z.heap.size z w') := fun z hz => HClone_calls (h.on hz).heap hAl
  have HS : Hid (∀ z, Below u.heap.size u z → z.heap[sb]? = some (.map es ck)) := fun z hz => (hz.block sb h.spots.lt).trans hsm
  have HN : Hid (∀ z, Below u.heap.size u z → z.heap[nb]? = some (.map es2 ck2)) := fun z hz => (hz.block nb h.hopes.lt).trans hnm
  have HSM : Hid (∀ (w : World) (b : Nat), w.heap[b]? = some (.map es ck) → MpL w b enN spC S) := hS
  have HNM : Hid (∀ (w : World) (b : Nat), w.heap[b]? = some (.map es2 ck2) → MpL w b Prod.fst hoC Ws) := hN
  have HX : Hid (HeapL A ∧ A.Perm (rdyY S) ∧ (∀ e ∈ S, okE e) ∧ ∀ x ∈ Ws, okW x) := ⟨h.hp, h.pm, h.ok, h.okw⟩
  have c0 := h.c0
  clear hsm hS hnm hN h
  go_enter Tryz.func20, Tryz.ntmps20
  go_upto_region 3 with (go_at_call 36; refine hM.mono ?_; rintro e w' ⟨rfl, hw'⟩; obtain rfl := hw'.symm)
  clear hM c0
  --M1
  have hb0 : Below u.heap.size u u.drew := (Below.refl _ _).drew
  refine t0 (fun z => Below u.heap.size u z) hb0 (fun hHeld => ?_)
  have Hd : Hid (Below u.heap.size u u.drew) := hb0
  generalize hwd : u.drew = wd at hHeld Hd ⊢
  clear hwd hb0
  try go_frame
  refine' tk 0 ?_ ?_; rotate_left
  · intro z hz; obtain ⟨f0, f1, f2, f3⟩ := HC.out z hz; clear hz; go_simp; try with_reducible rfl
  try go_frame
  refine' tk 1 ?_ ?_; rotate_left
  · intro z hz; obtain ⟨f0, f1, f2, f3⟩ := HC.out z hz; clear hz; go_simp; try with_reducible rfl
  try go_frame
  refine' tk 2 ?_ ?_; rotate_left
  · intro z hz; obtain ⟨f0, f1, f2, f3⟩ := HC.out z hz; clear hz; go_simp; try with_reducible rfl
  try go_frame
  refine' tk 3 ?_ ?_; rotate_left
  · intro z hz; obtain ⟨f0, f1, f2, f3⟩ := HC.out z hz; clear hz; go_simp; try with_reducible rfl
  try go_frame
  refine' tk 5 ?_ ?_; rotate_left
  · intro z hz; obtain ⟨f0, f1, f2, f3⟩ := HC.out z hz; clear hz; go_simp; try with_reducible rfl
  try go_frame
  refine' tk 6 ?_ ?_; rotate_left
  · intro z hz; obtain ⟨f0, f1, f2, f3⟩ := HC.out z hz; clear hz; go_simp; try with_reducible rfl
  try go_frame
  refine' tk 7 ?_ ?_; rotate_left
  · intro z hz; obtain ⟨f0, f1, f2, f3⟩ := HC.out z hz; clear hz; go_simp; try with_reducible rfl
  try go_frame
  refine' tk 8 ?_ ?_; rotate_left
  · intro z hz; obtain ⟨f0, f1, f2, f3⟩ := HC.out z hz; clear hz; go_simp; try with_reducible rfl
  try go_frame
  refine' tk 10 ?_ ?_; rotate_left
  · intro z hz; obtain ⟨f0, f1, f2, f3⟩ := HC.out z hz; clear hz; go_simp; try with_reducible rfl
  try go_frame
  refine' tk 11 ?_ ?_; rotate_left
  · intro z hz; obtain ⟨f0, f1, f2, f3⟩ := HC.out z hz; clear hz; go_simp; try with_reducible rfl
  try go_frame
  refine' tk 12 ?_ ?_; rotate_left
  · intro z hz; obtain ⟨f0, f1, f2, f3⟩ := HC.out z hz; clear hz; go_simp; try with_reducible rfl
  try go_frame
  refine' tk 13 ?_ ?_; rotate_left
  · intro z hz; obtain ⟨f0, f1, f2, f3⟩ := HC.out z hz; clear hz; go_simp; try with_reducible rfl
  try go_frame
  refine' tk 15 ?_ ?_; rotate_left
  · intro z hz; obtain ⟨f0, f1, f2, f3⟩ := HC.out z hz; clear hz; go_simp; try with_reducible rfl
  try go_frame
  refine' tk 16 ?_ ?_; rotate_left
  · intro z hz; obtain ⟨f0, f1, f2, f3⟩ := HC.out z hz; clear hz; go_simp; try with_reducible rfl
  try go_frame
  refine' tk 17 ?_ ?_; rotate_left
  · intro z hz; obtain ⟨f0, f1, f2, f3⟩ := HC.out z hz; clear hz; go_simp; try with_reducible rfl
  try go_frame
  refine' tk 18 ?_ ?_; rotate_left
  · intro z hz; obtain ⟨f0, f1, f2, f3⟩ := HC.out z hz; clear hz; go_simp; try with_reducible rfl
  try go_frame
  --M2
  refine tr 4 (fun K hK => ?_)
  have hC := HA.out wd Hd.out
  go_simp
  refine hC.mono ?_
  rintro e w4 ⟨hb', rfl, hA4, hb4⟩
  have H4 : Hid (HAt (Fresh wd) w4 hb' A ∧ Below wd.heap.size wd w4) := ⟨hA4, hb4⟩
  have HB4 : Hid (Below u.heap.size u w4) := on2 Hd.out hb4
  clear hC hA4 hb4
  go_wp2_with fail
  refine hK.out _ _ HB4.out (fun hHeld2 => ?_)
  clear hK K hHeld; have hHeld := hHeld2; clear hHeld2
  try go_frame
  --M3
  refine tr 9 (fun K hK => ?_)
  have hC := spClone_calls sb es ck w4 (HS.out w4 HB4.out)
  go_simp
  refine hC.mono ?_
  rintro e w5 ⟨rfl, hw5⟩
  have HB5 : Hid (Below u.heap.size u w5) := by rw [hw5]; exact on2 HB4.out ((Below.refl _ _).alloc (Nat.le_refl _) _)
  have H5 : Hid (w5 = w4.alloc (.map es ck)) := hw5
  clear hC hw5
  go_wp2_with fail
  refine hK.out _ _ HB5.out (fun hHeld2 => ?_)
  clear hK K hHeld; have hHeld := hHeld2; clear hHeld2
  try go_frame
  refine tr 14 (fun K hK => ?_)
  have hC := hoClone_calls nb es2 ck2 w5 (HN.out w5 HB5.out)
  go_simp
  refine hC.mono ?_
  rintro e w6 ⟨rfl, hw6⟩
  have HB6 : Hid (Below u.heap.size u w6) := by rw [hw6]; exact on2 HB5.out ((Below.refl _ _).alloc (Nat.le_refl _) _)
  have H6 : Hid (w6 = w5.alloc (.map es2 ck2)) := hw6
  clear hC hw6
  go_wp2_with fail
  refine hK.out _ _ HB6.out (fun hHeld2 => ?_)
  clear hK K hHeld; have hHeld := hHeld2; clear hHeld2
  try go_frame
  refine' tk 19 ?_ ?_; rotate_left
  · intro z hz; clear hz; go_simp; try with_reducible rfl
  try go_frame
  --M4
  refine tr 20 (fun K hK => ?_)
  go_simp
  obtain ⟨W, hW⟩ : ∃ Z, Z = w6.alloc (.cells #[.pointer (some ⟨hb', 0, none⟩), .map (some w4.heap.size), .map (some w5.heap.size), .int .i64 n] 60) := ⟨_, rfl⟩
  rw [← hW]
  have HW : Hid (W = w6.alloc (.cells #[.pointer (some ⟨hb', 0, none⟩), .map (some w4.heap.size), .map (some w5.heap.size), .int .i64 n] 60)) := hW
  have HBW : Hid (Below u.heap.size u W) := by rw [hW]; exact on2 HB6.out ((Below.refl _ _).alloc (Nat.le_refl _) _)
  clear hW
  refine hK.out _ _ HBW.out (fun hHeld2 => ?_)
  clear hK K hHeld; have hHeld := hHeld2; clear hHeld2
  try go_frame
  refine' tk 21 ?_ ?_; rotate_left
  · intro z hz; clear hz; go_simp; try with_reducible rfl
  try go_frame
  refine tz ?_
  clear hHeld
  go_wp2_with fail
  go_ret
  --M5
  have h5 := H5.out
  have h6 := H6.out
  have hW := HW.out
  have s4 := HB4.out.size
  have s0 := Hd.out.size
  have e5 : w5.heap.size = w4.heap.size + 1 := by rw [h5]; simp
  have e6 : w6.heap.size = w5.heap.size + 1 := by rw [h6]; simp
  have b45 : Below w4.heap.size w4 w5 := by rw [h5]; exact (Below.refl _ _).alloc (Nat.le_refl _) _
  have b56 : Below w5.heap.size w5 w6 := by rw [h6]; exact (Below.refl _ _).alloc (Nat.le_refl _) _
  have b6W : Below w6.heap.size w6 W := by rw [hW]; exact (Below.refl _ _).alloc (Nat.le_refl _) _
  have m5 : w5.heap[w4.heap.size]? = some (.map es ck) := by rw [h5]; exact heap_new _ _ _ rfl
  have m6 : w6.heap[w5.heap.size]? = some (.map es2 ck2) := by rw [h6]; exact heap_new _ _ _ rfl
  refine ⟨w6.heap.size, rfl, ⟨hb', w4.heap.size, w5.heap.size, A, ?_⟩, HBW.out⟩
  exact ⟨by rw [hW]; exact heap_new _ _ _ rfl, ((H4.out.1.weak (fun b hb1 hf => ⟨(show u.heap.size ≤ b from Nat.le_trans s0 hf), by omega, by omega, by omega⟩)).grow b45).grow (on2 b56 b6W) , HX.out.1, HX.out.2.1, HSM.out _ _ (((on2 b56 b6W).block _ (by omega)).trans m5), HNM.out _ _ ((b6W.block _ (by omega)).trans m6), (show u.heap.size ≤ w6.heap.size by omega), (show u.heap.size ≤ w4.heap.size by omega), (show u.heap.size ≤ w5.heap.size by omega), by omega, HX.out.2.2.1, HX.out.2.2.2⟩
end Go.Proofs.YtbmejaailhjgfaaGreat
namespace Go.Proofs.YtbmejaailhjgfaaGreat
open Go.RowKit
set_option linter.unusedSimpArgs false

/-- What has come since a later world is no part of the row. -/
theorem Row.apart {α : Type} [Inhabited α] {R : Rep α} {k : Nat} {A : Where} {w0 u u' : World} {e : TypeId} {v : Value} {L : List α} (h : Row R k A w0 u e v L) (hs : u.heap.size ≤ u'.heap.size) : ∀ b, Fresh u' b → Fresh w0 b ∧ v.ownBlock ≠ some b := by
  obtain ⟨xs, h1, _⟩ := h
  intro b hb
  have hb' : u'.heap.size ≤ b := hb
  have := h1.1.size
  refine ⟨show w0.heap.size ≤ b by omega, fun e => ?_⟩
  have := (h1.2.lt b e).2
  omega
theorem take_at {α : Type} [Inhabited α] {L : List α} {k : Nat} (hk : k < L.length) : L.take k ++ [L.getD k default] = L.take (k + 1) := (take_succ hk).symm
theorem bytes_le {n k bytes : Nat} (h : n * bytes ≤ 140737488351232) (hk : k < n) : (k + 1) * bytes ≤ 140737488355328 := by
  have : (k + 1) * bytes ≤ n * bytes := Nat.mul_le_mul_right _ hk
  omega

end Go.Proofs.YtbmejaailhjgfaaGreat
namespace Go.Proofs.YtbmejaailhjgfaaGreat
open Go.RowKit
set_option linter.unusedSimpArgs false

theorem retB {a b : Bool} (h : a = b) : Ending.returned (.bool a) = .returned (.bool b) := by rw [h]
theorem same_len {α : Type} [DecidableEq α] {L M : List α} (h : L.length ≠ M.length) : decide (L = M) = false := by
  rw [decide_eq_false_iff_not]; intro e; exact h (by rw [e])
section
variable {α : Type} [Inhabited α] [DecidableEq α] {L M : List α}
theorem same_no {k : Nat} (h : L.getD k default ≠ M.getD k default) : decide (L = M) = false := by
  rw [decide_eq_false_iff_not]; intro e; exact h (by rw [e])
theorem same_yes (hl : L.length = M.length) (h : ∀ j, j < L.length → L.getD j default = M.getD j default) : decide (L = M) = true := by
  rw [decide_eq_true_iff]
  apply List.ext_getElem hl
  intro i h1 h2
  have := h i h1
  rwa [getE _ _ h1, getE _ _ h2] at this
end
theorem bne_of (a b : Int) : (a != b) = !(a == b) := rfl
theorem lab_eq (x y : Lab) : (sEq x.1 y.1 && sEq x.2 y.2) = decide (x = y) := by
  rw [Bool.eq_iff_iff, Bool.and_eq_true, sEq_iff, sEq_iff, decide_eq_true_iff, Prod.ext_iff]
theorem ask_eq (x y : Ask) : decide (x = y) = (sEq x.1 y.1 && ((x.2.1 == y.2.1) && decide (x.2.2 = y.2.2))) := by
  rw [Bool.eq_iff_iff, Bool.and_eq_true, Bool.and_eq_true, sEq_iff, decide_eq_true_iff, decide_eq_true_iff, beq_iff_eq, Prod.ext_iff, Prod.ext_iff]
theorem term_eq (x y : TermD) : decide (x = y) = (sEq x.2 y.2 && decide (x.1 = y.1)) := by
  rw [Bool.eq_iff_iff, Bool.and_eq_true, sEq_iff, decide_eq_true_iff, decide_eq_true_iff, Prod.ext_iff, And.comm]

set_option maxHeartbeats 4000000 in
theorem SameTexts_calls (a : Option Addr) (n cap : Nat) (A : Where) (L : List (ByteArray)) (b : Option Addr) (m capb : Nat) (A' : Where) (M : List (ByteArray)) (w : World) (hA : Hid (SlAt RStr 1 16 A w a n cap L)) (hB : Hid (SlAt RStr 1 16 A' w b m capb M)) : Calls Tryz.prog 23 #[.slice a n cap, .slice b m capb] w fun e w' => e = .returned (.bool (decide (L = M))) ∧ ∃ q, w' = w.drewN q := by
  have hn : Hid (L.length = n) := hA.out.1
  have hm : Hid (M.length = m) := hB.out.1
  have hlen := hA.out.len (by decide)
  by_cases hnm : n = m
  case neg =>
    have HF : Hid (decide (L = M) = false) := same_len (by rw [hn.out, hm.out]; exact hnm)
    have hne : ((n : Int) != (m : Int)) = true := by rw [bne_iff_ne]; omega
    go_enter Tryz.func23, Tryz.ntmps23
    go_wp2
    go_ret
    exact ⟨retB HF.out.symm, 0, rfl⟩
  subst hnm
  have hne : ((n : Int) != (n : Int)) = false := by simp
  go_enter Tryz.func23, Tryz.ntmps23
  go_wp2
  go_loopw [5] (fun i wr => ∃ k : Nat, k ≤ n ∧ i = .int .i64 k ∧ Hid (∃ q, wr = w.drewN q) ∧ Hid (∀ j, j < k → L.getD j default = M.getD j default)) (fun i _ => n - (intOf i).toNat)
  case atStart => exact ⟨0, Nat.zero_le _, rfl, ⟨0, rfl⟩, fun j hj => absurd hj (Nat.not_lt_zero _)⟩
  case round =>
    obtain ⟨k, hk, rfl, hwr, hall⟩ := hrel
    have hbel : Below w.heap.size w wr := by obtain ⟨q, rfl⟩ := hwr.out; exact below_drewN (Below.refl _ _) _
    have hback : Hid (∀ q, ∃ q', wr.drewN q = w.drewN q') := by obtain ⟨q0, rfl⟩ := hwr.out; exact fun q => ⟨_, World.drewN_drewN _ _ _⟩
    by_cases hlt : k < n
    · have hltz : (k : Int) < (n : Int) := by omega
      obtain ⟨B, off, rfl, hBl, _, cs, hra, hva⟩ := (hA.out.on RStr.firm hbel).get hlt
      obtain ⟨B', off', rfl, hBl', _, cs', hrb, hvb⟩ := (hB.out.on RStr.firm hbel).get hlt
      obtain ⟨rfl, sa⟩ := hra
      obtain ⟨rfl, sb⟩ := hrb
      have d0 := hva 0 _ rfl
      have g0 := hvb 0 _ rfl
      rw [Nat.add_zero] at d0 g0
      rw [Nat.mul_one] at d0 g0
      have HG : Hid (decide (L.getD k default = M.getD k default) = true → ∀ j, j < k + 1 → L.getD j default = M.getD j default) := fun h j hj => by
        rcases Nat.lt_succ_iff_lt_or_eq.1 hj with h' | rfl
        · exact hall.out j h'
        · exact of_decide_eq_true h
      have HF : Hid (decide (L.getD k default = M.getD k default) = false → decide (L = M) = false) := fun h => same_no (of_decide_eq_false h)
      clear hall hva hvb
      have HE : (!((L.getD k default).toList == (M.getD k default).toList)) = !decide (L.getD k default = M.getD k default) := by rw [show ((L.getD k default).toList == (M.getD k default).toList) = decide (L.getD k default = M.getD k default) by rw [Bool.eq_iff_iff, decide_eq_true_iff]; exact sEq_iff _ _]
      generalize L.getD k default = x at d0 sa HE HG HF
      generalize M.getD k default = y at g0 sb HE HG HF
      cases hd : decide (x = y)
      · have HF2 : Hid (decide (L = M) = false) := HF.out hd
        rw [hd] at HE
        clear HG HF hd
        go_wp2_with fail
        go_quiet (fail)
        go_wp2_with fail
        go_ret
        exact ⟨retB HF2.out.symm, hback.out _⟩
      · have HG2 : Hid (∀ j, j < k + 1 → L.getD j default = M.getD j default) := HG.out hd
        rw [hd] at HE
        clear HG HF hd
        go_wp2_with fail
        go_quiet (fail)
        go_wp2_with fail
        go_roundw
        case rel => exact ⟨k + 1, by omega, by go_num, hback.out _, HG2⟩
        case measure => simp [intOf]; omega
    · have HT : Hid (decide (L = M) = true) := same_yes (by rw [hn.out, hm.out]) (fun j hj => hall.out j (by rw [hn.out] at hj; omega))
      clear hall
      go_wp2
      go_ret
      exact ⟨retB HT.out.symm, hwr.out⟩

end Go.Proofs.YtbmejaailhjgfaaGreat
namespace Go.Proofs.YtbmejaailhjgfaaGreat
open Go.RowKit
set_option linter.unusedSimpArgs false
set_option maxRecDepth 100000

def hasB {α : Type} (eq : α → α → Bool) (V : List α) (s : α) : Bool := V.any fun v => eq v s
theorem hasB_succ {α : Type} [Inhabited α] (eq : α → α → Bool) (L : List α) (s : α) {k : Nat} (hk : k < L.length) : hasB eq (L.take (k + 1)) s = (hasB eq (L.take k) s || eq (L.getD k default) s) := by
  rw [← take_at hk]; simp [hasB]
theorem hasB_found {α : Type} [Inhabited α] (eq : α → α → Bool) (L : List α) (s : α) {k : Nat} (hk : k < L.length) (h : eq (L.getD k default) s = true) : hasB eq L s = true := by
  simp only [hasB, List.any_eq_true]
  exact ⟨L.getD k default, by rw [getE _ _ hk]; exact List.getElem_mem hk, h⟩
def iEq (a b : Int) : Bool := a == b

end Go.Proofs.YtbmejaailhjgfaaGreat
namespace Go.Proofs.YtbmejaailhjgfaaGreat
open Go.RowKit
set_option linter.unusedSimpArgs false

def insB {α : Type} (lt eq : α → α → Bool) : List α → α → List α
  | [], s => [s]
  | x :: xs, s => if lt x s = true then x :: insB lt eq xs s else if eq x s = true then x :: xs else s :: x :: xs
def sortB {α : Type} (lt eq : α → α → Bool) (L : List α) : List α := L.foldl (insB lt eq) []
def iLt (a b : Int) : Bool := decide (a < b)
theorem insB_len {α : Type} (lt eq : α → α → Bool) (s : α) : ∀ L : List α, (insB lt eq L s).length ≤ L.length + 1
  | [] => by simp [insB]
  | x :: xs => by
    have := insB_len lt eq s xs
    unfold insB
    split
    · simp; omega
    · split <;> simp
section
variable {α : Type} [Inhabited α] (lt eq : α → α → Bool)
theorem insB_at (s : α) : ∀ (L : List α) (k : Nat), k ≤ L.length → (∀ j, j < k → lt (L.getD j default) s = true) → (k < L.length → lt (L.getD k default) s = false) →
    insB lt eq L s = if k < L.length ∧ eq (L.getD k default) s = true then L else L.take k ++ ([s] ++ L.drop k)
  | [], k, hk, _, _ => by
    obtain rfl : k = 0 := by simpa using hk
    simp [insB]
  | x :: xs, 0, _, _, h2 => by
    have h := h2 (by simp)
    simp only [List.getD_cons_zero] at h
    simp [insB, h]
  | x :: xs, k + 1, hk, h1, h2 => by
    have h := h1 0 (by omega)
    simp only [List.getD_cons_zero] at h
    have ih := insB_at s xs k (by simpa using hk) (fun j hj => by simpa using h1 (j + 1) (by omega)) (fun hl => by simpa using h2 (by simpa using hl))
    have e : (x :: xs).getD (k + 1) default = xs.getD k default := by simp
    have l : k + 1 < (x :: xs).length ↔ k < xs.length := by simp
    rw [e]
    simp only [insB, h, if_true, ih]
    by_cases c : k < xs.length ∧ eq (xs.getD k default) s = true
    · rw [if_pos c, if_pos ⟨l.2 c.1, c.2⟩]
    · rw [if_neg c, if_neg (fun h => c ⟨l.1 h.1, h.2⟩)]; simp
theorem sortB_succ (L : List α) {k : Nat} (hk : k < L.length) : sortB lt eq (L.take (k + 1)) = insB lt eq (sortB lt eq (L.take k)) (L.getD k default) := by
  rw [← take_at hk]; simp [sortB]
theorem sortB_len : ∀ (L : List α), (sortB lt eq L).length ≤ L.length := by
  intro L
  suffices H : ∀ k, k ≤ L.length → (sortB lt eq (L.take k)).length ≤ k by
    have := H L.length (Nat.le_refl _)
    rwa [List.take_of_length_le (Nat.le_refl _)] at this
  intro k
  induction k with
  | zero => intro _; simp [sortB]
  | succ k ih =>
    intro hk
    rw [sortB_succ lt eq L (by omega)]
    have := insB_len lt eq (L.getD k default) (sortB lt eq (L.take k))
    have := ih (by omega)
    omega
end
/-- The first k, and what lies behind them. -/
theorem SlAt.take {α : Type} [Inhabited α] {R : Rep α} {k bytes : Nat} {A : Where} {w : World} {a : Option Addr} {n cap : Nat} {L : List α} (h : SlAt R k bytes A w a n cap L) {t : Nat} (ht : t ≤ n) : SlAt R k bytes A w a t cap (L.take t) := by
  obtain ⟨h1, h2, h3, h4, h5⟩ := h
  refine ⟨by rw [List.length_take]; omega, by omega, h3, Nat.le_trans (Nat.mul_le_mul_right bytes ht) h4, fun h0 => ?_⟩
  obtain ⟨B, off, e, hB, hA, hc⟩ := h5 (by omega)
  refine ⟨B, off, e, hB, hA, fun i hi => ?_⟩
  obtain ⟨cs, h6, h7⟩ := hc i (by omega)
  have : (L.take t).getD i default = L.getD i default := by
    rw [getE _ _ (show i < (L.take t).length by rw [List.length_take]; omega), getE _ _ (show i < L.length by omega), List.getElem_take]
  rw [this]
  exact ⟨cs, h6, h7⟩
theorem SlAt.drop {α : Type} [Inhabited α] {R : Rep α} {k bytes : Nat} {A : Where} {w : World} {B off n cap : Nat} {L : List α} (h : SlAt R k bytes A w (some ⟨B, off, none⟩) n cap L) {t : Nat} (ht : t ≤ n) : SlAt R k bytes A w (some ⟨B, off + t * k, none⟩) (n - t) (cap - t) (L.drop t) := by
  obtain ⟨h1, h2, h3, h4, h5⟩ := h
  refine ⟨by rw [List.length_drop]; omega, by omega, (fun h => by cases h), Nat.le_trans (Nat.mul_le_mul_right bytes (Nat.sub_le _ _)) h4, fun h0 => ?_⟩
  obtain ⟨B', off', e, hB, hA, hc⟩ := h5 (by omega)
  injection e with e
  injection e with e1 e2
  subst e1 e2
  refine ⟨B, _, rfl, hB, hA, fun i hi => ?_⟩
  obtain ⟨cs, h6, h7⟩ := hc (t + i) (by omega)
  have : (L.drop t).getD i default = L.getD (t + i) default := by
    rw [getE _ _ (show i < (L.drop t).length by rw [List.length_drop]; omega), getE _ _ (show t + i < L.length by omega), List.getElem_drop]
  rw [this]
  refine ⟨cs, h6, fun j v hj => ?_⟩
  have := h7 j v hj
  rwa [Nat.add_mul, ← Nat.add_assoc] at this
end Go.Proofs.YtbmejaailhjgfaaGreat
namespace Go.Proofs.YtbmejaailhjgfaaGreat
open Go.RowKit
set_option linter.unusedSimpArgs false

theorem mem_insB {α : Type} {lt eq : α → α → Bool} (he : ∀ a b, eq a b = true → a = b) (s x : α) : ∀ L : List α, x ∈ insB lt eq L s ↔ x ∈ L ∨ x = s
  | [] => by simp [insB]
  | y :: L => by
    have ih := mem_insB (lt := lt) he s x L
    unfold insB
    split
    · simp only [List.mem_cons, ih]
      constructor
      · rintro (h | h | h)
        · exact .inl (.inl h)
        · exact .inl (.inr h)
        · exact .inr h
      · rintro ((h | h) | h)
        · exact .inl h
        · exact .inr (.inl h)
        · exact .inr (.inr h)
    · split
      · rename_i h1 h2
        have := he _ _ h2
        subst this
        simp only [List.mem_cons]
        constructor
        · intro h; exact .inl h
        · rintro (h | h)
          · exact h
          · exact .inl h
      · simp only [List.mem_cons]
        constructor
        · rintro (h | h | h)
          · exact .inr h
          · exact .inl (.inl h)
          · exact .inl (.inr h)
        · rintro ((h | h) | h)
          · exact .inr (.inl h)
          · exact .inr (.inr h)
          · exact .inl h
theorem mem_foldB {α : Type} {lt eq : α → α → Bool} (he : ∀ a b, eq a b = true → a = b) (x : α) : ∀ (L M : List α), x ∈ L.foldl (insB lt eq) M ↔ x ∈ M ∨ x ∈ L
  | [], M => by simp
  | y :: L, M => by
    rw [List.foldl_cons, mem_foldB he x L (insB lt eq M y), mem_insB he]
    simp only [List.mem_cons]
    constructor
    · rintro ((h | h) | h)
      · exact .inl h
      · exact .inr (.inl h)
      · exact .inr (.inr h)
    · rintro (h | h | h)
      · exact .inl (.inl h)
      · exact .inl (.inr h)
      · exact .inr h
theorem mem_sortB {α : Type} {lt eq : α → α → Bool} (he : ∀ a b, eq a b = true → a = b) (x : α) (L : List α) : x ∈ sortB lt eq L ↔ x ∈ L := by
  unfold sortB; rw [mem_foldB he]; simp
section
variable {α : Type} {lt eq : α → α → Bool}
structure OrdB (lt eq : α → α → Bool) : Prop where
  eqi : ∀ a b, eq a b = true ↔ a = b
  irr : ∀ a, lt a a = false
  tr : ∀ a b c, lt a b = true → lt b c = true → lt a c = true
  tot : ∀ a b, a ≠ b → lt a b = true ∨ lt b a = true
def UpB (lt : α → α → Bool) (L : List α) : Prop := L.Pairwise (fun a b => lt a b = true)
theorem UpB.ins (h : OrdB lt eq) (s : α) : ∀ L : List α, UpB lt L → UpB lt (insB lt eq L s)
  | [], _ => by simp [insB, UpB]
  | x :: xs, hL => by
    obtain ⟨h1, h2⟩ := List.pairwise_cons.1 hL
    unfold insB
    split
    · rename_i h3
      refine List.pairwise_cons.2 ⟨fun y hy => ?_, UpB.ins h s xs h2⟩
      rcases (mem_insB (fun a b e => (h.eqi a b).1 e) s y xs).1 hy with h4 | h4
      · exact h1 y h4
      · rw [h4]; exact h3
    · split
      · exact hL
      · rename_i h3 h4
        have hne : x ≠ s := fun e => h4 ((h.eqi x s).2 e)
        have hlt : lt s x = true := (h.tot x s hne).resolve_left h3
        refine List.pairwise_cons.2 ⟨fun y hy => ?_, hL⟩
        rcases List.mem_cons.1 hy with h5 | h5
        · rw [h5]; exact hlt
        · exact h.tr s x y hlt (h1 y h5)
theorem UpB.sort (h : OrdB lt eq) (L : List α) : UpB lt (sortB lt eq L) := by
  unfold sortB
  suffices H : ∀ (L M : List α), UpB lt M → UpB lt (L.foldl (insB lt eq) M) from H L [] List.Pairwise.nil
  intro L
  induction L with
  | nil => intro M hM; exact hM
  | cons x L ih => intro M hM; exact ih _ (UpB.ins h x M hM)
theorem UpB.one (h : OrdB lt eq) : ∀ L M : List α, UpB lt L → UpB lt M → (∀ x, x ∈ L ↔ x ∈ M) → L = M
  | [], [], _, _, _ => rfl
  | [], y :: ys, _, _, hm => absurd ((hm y).2 List.mem_cons_self) (by simp)
  | x :: xs, [], _, _, hm => absurd ((hm x).1 List.mem_cons_self) (by simp)
  | x :: xs, y :: ys, hL, hM, hm => by
    obtain ⟨a1, a2⟩ := List.pairwise_cons.1 hL
    obtain ⟨b1, b2⟩ := List.pairwise_cons.1 hM
    have e : x = y := by
      rcases List.mem_cons.1 ((hm x).1 List.mem_cons_self) with h1 | h1
      · exact h1
      · rcases List.mem_cons.1 ((hm y).2 List.mem_cons_self) with h2 | h2
        · exact h2.symm
        · have := h.tr x y x (a1 y h2) (b1 x h1)
          rw [h.irr] at this
          cases this
    subst e
    have ne : ∀ z, lt x z = true → z ≠ x := fun z hz e => by rw [e, h.irr] at hz; cases hz
    rw [UpB.one h xs ys a2 b2 (fun z => ⟨fun hz => ?_, fun hz => ?_⟩)]
    · exact (List.mem_cons.1 ((hm z).1 (List.mem_cons_of_mem _ hz))).resolve_left (ne z (a1 z hz))
    · exact (List.mem_cons.1 ((hm z).2 (List.mem_cons_of_mem _ hz))).resolve_left (ne z (b1 z hz))
theorem sort_eq (h : OrdB lt eq) {L M : List α} (hm : ∀ x, x ∈ L ↔ x ∈ M) : sortB lt eq L = sortB lt eq M :=
  UpB.one h _ _ (UpB.sort h L) (UpB.sort h M) (fun x => by rw [mem_sortB (fun a b e => (h.eqi a b).1 e), mem_sortB (fun a b e => (h.eqi a b).1 e)]; exact hm x)
end
theorem toList_inj {a b : ByteArray} (h : a.toList = b.toList) : a = b := (sEq_iff a b).1 (by simp [sEq, h])
theorem ordS : OrdB sLt sEq := ⟨sEq_iff, fun a => bl_irr _, fun a b c h1 h2 => bl_trans _ _ _ h1 h2, fun a b h => by
  have := bl_tot a.toList b.toList (fun e => h (toList_inj e))
  unfold sLt
  cases h1 : Op.bytesLess a.toList b.toList
  · right; rw [this, h1]; rfl
  · left; rfl⟩
end Go.Proofs.YtbmejaailhjgfaaGreat
namespace Go.Proofs.YtbmejaailhjgfaaGreat
open Go.RowKit
set_option linter.unusedSimpArgs false
set_option maxRecDepth 100000

theorem infoTxY : (Tryz.prog.info? 9).map (fun i => (i.zero, i.size, i.bytes)) = some (some (.string ⟨#[]⟩), 1, 16) := by kernel_rfl
def lssY (L : List ByteArray) (s : ByteArray) : List ByteArray := L.filter (fun x => !sEq x s)
theorem lss_take {L : List ByteArray} {s : ByteArray} {j : Nat} (h : j < L.length) : lssY (L.take (j + 1)) s = lssY (L.take j) s ++ (if sEq (L.getD j default) s = true then [] else [L.getD j default]) := by
  unfold lssY
  rw [List.take_succ_eq_append_getElem h, List.filter_append, List.getD_eq_getElem?_getD, List.getElem?_eq_getElem h]
  congr 1
  simp only [List.filter_cons, List.filter_nil, Option.getD_some]
  cases sEq L[j] s <;> rfl
theorem lss_len (L : List ByteArray) (s : ByteArray) (k : Nat) : (lssY (L.take k) s).length ≤ k := Nat.le_trans (List.length_filter_le _ _) (by rw [List.length_take]; omega)
def LssOut (w : World) (L : List ByteArray) (e : Ending) (w' : World) : Prop := ∃ v, e = .returned v ∧ Row RStr 1 (fun _ => False) w w' 9 v L
end Go.Proofs.YtbmejaailhjgfaaGreat
