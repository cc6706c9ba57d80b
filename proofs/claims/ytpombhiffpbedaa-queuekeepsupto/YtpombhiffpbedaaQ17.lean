/- The queue: All. Condition: the queue lies as is said of it, and is not too long. Entries that are shifted, one behind the other. Plain facts. No condition. The queue: Move. Condition: the queue lies as is said of it, and is not too long. The queue: Tick. Condition: the queue lies as is said of it, and is not too long. -/
import Derived.Test.YtpombhiffpbedaaQ16
namespace Go.Proofs.Ytpombhiffpbedaa
open Go.RowKit Go.Maps
set_option linter.unusedSimpArgs false
set_option maxRecDepth 100000

/-- Those of a place, in their order. -/
def AllR (S : List EnD) (pl : Int) (l : List WtD) : Prop := l.Perm (gatP pl (fun _ => true) S) ∧ (pl ≠ 1 → l.Pairwise (fun x y => lessY y x = false)) ∧ (pl = 1 → l.Pairwise (fun x y => ahead (itY y) (itY x) = false))
def AllO (u : World) (S : List EnD) (pl : Int) (e : Ending) (w' : World) : Prop := ∃ v l, e = .returned v ∧ Row RWt 5 (fun _ => False) u w' 28 v l ∧ AllR S pl l
theorem yallf_asks (u : World) : Asks u 33 #[] (fun _ => true) := by
  refine ⟨enters_of Try.func33 (by kernel_rfl) rfl, fun x z hz => ?_⟩
  show Calls Try.prog 33 #[.agg (wtC x).toArray] z _
  go_enter Try.func33, Try.ntmps33
  go_wp2
  go_ret
  exact ⟨rfl, by go_grown⟩
theorem all_ready {F : Where} {u : World} {p hb sb nb : Nat} {A : List It} {S : List EnD} {n : Int} {Ws : List WiD} (h : QF F u p hb sb nb A S n Ws) : AllR S 1 ((stabF A).map (fun it => enY S it.1)) := by
  have hnd := h.spots.nd
  have hen : ∀ e ∈ S, enY S e.1.1 = e.1 := fun e he => by unfold enY; rw [fndG_of (key := enN) hnd he]; rfl
  have hp : (stabF A).Perm (rdyY S) := (stabF_perm A).trans h.pm
  refine ⟨?_, fun e => absurd rfl e, fun _ => ?_⟩
  · refine (hp.map _).trans ?_
    unfold rdyY gatP
    rw [List.map_map]
    have e1 : (S.filter (fun e => decide (e.2 = 1))).map ((fun it => enY S it.1) ∘ fun e => itY e.1) = (S.filter (fun e => decide (e.2 = 1) && (fun _ => true) e.1)).map Prod.fst := by
      simp only [Bool.and_true]
      refine List.map_congr_left (fun e he => ?_)
      exact hen e (List.mem_filter.1 he).1
    rw [e1]
  · have hit : ∀ it ∈ stabF A, itY (enY S it.1) = it := fun it hi => by
      obtain ⟨e, he, e1⟩ := List.mem_map.1 (hp.mem_iff.1 hi)
      have he := (List.mem_filter.1 he).1
      rw [← e1]
      show itY (enY S e.1.1) = itY e.1
      rw [hen e he]
    rw [List.pairwise_map, List.pairwise_iff_getElem]
    intro i j hi hj hij
    rw [hit _ (List.getElem_mem hj), hit _ (List.getElem_mem hi)]
    have := stabF_srt A i j (Nat.zero_le _) (Nat.le_of_lt hij) (by rw [← stabF_length]; exact hj)
    unfold nl at this
    rw [at_get hi, at_get hj] at this
    exact this
set_option maxHeartbeats 16000000 in
theorem yall_calls {F : Where} {u : World} {p : Nat} {S : List EnD} {n : Int} {Ws : List WiD} (h : QA F u p S n Ws) (hl : S.length < 1000000000) (pl : Int) :
    Calls Try.prog 17 #[.pointer (some ⟨p, 0, none⟩), .int .i64 pl] u (AllO u S pl) := by
  have hG := ygather_calls h hl pl 33 #[] (fun _ => true) (yallf_asks u)
  obtain ⟨hb, sb, nb, A, h⟩ := h
  have hM := ymade_calls h.c0 ⟨_, rfl⟩
  by_cases hp1 : pl = 1
  · subst hp1
    have hAl : A.length < 1000000000 := by
      have e1 := h.pm.length_eq
      have e2 : (rdyY S).length ≤ S.length := by unfold rdyY; rw [List.length_map]; exact List.length_filter_le _ _
      omega
    have hA := All_calls h.heap hAl
    have HAR : Hid (AllR S 1 ((stabF A).map (fun it => enY S it.1))) := all_ready h
    have HSM : Hid ((stabF A).length = A.length) := stabF_length A
    obtain ⟨M, hMd⟩ : ∃ M, M = stabF A := ⟨_, rfl⟩
    rw [← hMd] at HAR HSM hA
    obtain ⟨m, hm⟩ : ∃ m, m = A.length := ⟨_, rfl⟩
    rw [← hm] at HSM hA hAl
    have c0 := h.c0
    have HQ : Hid (QF F u p hb sb nb A S n Ws) := h
    have HAl : Hid (m < 1000000000) := hAl
    have hml : m < 1000000000000000 := by omega
    clear h hG hMd hm
    go_enter Try.func17, Try.ntmps17
    go_upto_region 6 with (go_at_call 25; refine hM.mono ?_; rintro e w' ⟨rfl, hw'⟩; obtain rfl := hw'.symm)
    go_wp2_with fail
    refine hA.mono ?_
    rintro e w1 ⟨a', c', rfl, hrow, hb1, _⟩
    have HR : Hid (RowAt encI 3 okI w1 a' M) := hrow
    have HB1 : Hid (Below u.heap.size u w1) := hb1
    have HR0 : Hid (Row RWt 5 (fun _ => False) w1 w1 28 (.slice none 0 0) ((M.take 0).map (fun it => enY S it.1))) := Row.nil _ _ _
    clear hA hM hrow hb1 c0
    go_wp2_with fail
    --M1
    go_loopw [5, 22] (fun v iv wr => ∃ k : Nat, k ≤ m ∧ iv = .int .i64 k ∧ Hid (Row RWt 5 (fun _ => False) w1 wr 28 v ((M.take k).map (fun it => enY S it.1)))) (fun _ iv _ => m - (intOf iv).toNat)
    case atStart => exact ⟨0, Nat.zero_le _, rfl, HR0⟩
    case round =>
      obtain ⟨k, hk, rfl, hrow⟩ := hrel
      clear HR0
      by_cases hlt : k < m
      · have hltz : (k : Int) < (m : Int) := by omega
        have hkM : k < M.length := by rw [HSM.out]; exact hlt
        obtain ⟨B, off, rfl, hB, hcs, hok⟩ := (HR.out.on hrow.out.below).get hkM
        have hst : (M.take (k + 1)).map (fun it => enY S it.1) = (M.take k).map (fun it => enY S it.1) ++ [enY S (M.getD k default).1] := by
          rw [List.take_succ_eq_append_getElem hkM, List.map_append, List.getD_eq_getElem?_getD, List.getElem?_eq_getElem hkM]
          rfl
        obtain ⟨it, hit⟩ : ∃ it, it = M.getD k default := ⟨_, rfl⟩
        rw [← hit] at hcs hok hst
        have d0 := hcs 0 _ rfl
        have d1 := hcs 1 _ rfl
        have d2 := hcs 2 _ rfl
        rw [Nat.add_zero] at d0
        obtain ⟨V, hV⟩ : ∃ Z, Z = wr.alloc (.cells #[.string it.1, .int .i64 it.2.1, .int .i64 it.2.2] 62) := ⟨_, rfl⟩
        have bV : Below wr.heap.size wr V := by rw [hV]; exact (Below.refl _ _).alloc (Nat.le_refl _) _
        have qV : BoxL V wr.heap.size [.string it.1, .int .i64 it.2.1, .int .i64 it.2.2] := by rw [hV]; exact BoxL.new wr 62 _
        have HV : Hid (wr.alloc (.cells #[.string it.1, .int .i64 it.2.1, .int .i64 it.2.2] 62) = V) := hV.symm
        have hbu : Below u.heap.size u V := on2 HB1.out (on2 hrow.out.below bV)
        obtain ⟨xp, hlk⟩ := en_look S it.1
        have hoks : okS (enY S it.1).1 := by
          unfold enY
          cases e : fndG enN S it.1 with
          | none => show (0 : Nat) ≤ 140737488355328; omega
          | some y => exact (HQ.out.ok y (fndG_some e).1).1
        have HOK : Hid (okS (enY S it.1).1) := hoks
        obtain ⟨x, hx⟩ : ∃ x, x = enY S it.1 := ⟨_, rfl⟩
        rw [← hx] at hlk hst HOK
        have HSt : Hid ((M.take (k + 1)).map (fun it => enY S it.1) = (M.take k).map (fun it => enY S it.1) ++ [x]) := hst
        have HLn : Hid (((M.take k).map (fun it => enY S it.1)).length ≤ k) := by rw [Hid, List.length_map, List.length_take]; omega
        obtain ⟨N, hN⟩ : ∃ N, N = (M.take k).map (fun it => enY S it.1) := ⟨_, rfl⟩
        rw [← hN] at hrow HSt HLn
        have hrV : Row RWt 5 (fun _ => False) w1 V 28 u5 N := hrow.out.on RWt.firm bV
        have hlow : ∀ b, u5.ownBlock = some b → w1.heap.size ≤ b ∧ b < wr.heap.size := fun b hb => hrow.out.lt hb
        have hpl : p < w1.heap.size ∧ sb < w1.heap.size := ⟨Nat.lt_of_lt_of_le HQ.out.lt HB1.out.size, Nat.lt_of_lt_of_le HQ.out.spots.lt HB1.out.size⟩
        have HC : Hid (∀ z, Kept (fun b => u5.ownBlock ≠ some b) V z → z.cell? ⟨p, 1, none⟩ = some (.map (some sb)) ∧ z.cell? ⟨wr.heap.size, 0, none⟩ = some (.string it.1) ∧ (Instr.lookup 55 (.map (some sb)) (.string it.1) false).run Try.prog z = .ok (spC (x, xp)) z) := fun z hz => by
          have n1 : u5.ownBlock ≠ some p := fun e => by have := (hlow p e).1; omega
          have n2 : u5.ownBlock ≠ some sb := fun e => by have := (hlow sb e).1; omega
          have n3 : u5.ownBlock ≠ some wr.heap.size := fun e => by have := (hlow _ e).2; omega
          have hqV := HQ.out.on hbu
          refine ⟨?_, ((qV.kept hz n3).2 0 _ rfl).1, ?_⟩
          · exact (hz.cell (p := ⟨p, 1, none⟩) n1 hqV.lt).trans hqV.c1
          · have := (hqV.spots.same (hz.2 sb n2 hqV.spots.lt)).look 55 70 Try.underlying55 (zeroSp z) hok
            rw [hlk] at this
            exact this
        have HRV : Hid (Row RWt 5 (fun _ => False) w1 V 28 u5 N) := hrV
        have hfd := fldE
        obtain ⟨x0, x1, x2, x3, x4⟩ := x
        simp only [spC] at HC
        clear hcs hst hlk hoks hN hrow hrV hlow hpl hV bV qV hbu hkM hit hx hok HAR
        go_upto_region 9 with fail
        rw [HV.out]
        clear d0 d1 d2 HV
        --M2
        have hb0 : Below V.heap.size V V.drew := (Below.refl _ _).drew
        refine t0 (fun z => Kept (fun b => u5.ownBlock ≠ some b) V z) (Kept.below hb0) (fun hHeld => ?_)
        have Hd : Hid (Row RWt 5 (fun _ => False) w1 V.drew 28 u5 N) := HRV.out.on RWt.firm hb0
        generalize hwd : V.drew = wd at hHeld Hd ⊢
        clear hwd hb0
        try go_frame
        refine' tk 0 ?_ ?_; rotate_left
        · intro z hz; obtain ⟨f0, f1, f2⟩ := HC.out z hz; clear hz; go_simp; try with_reducible rfl
        try go_frame
        refine' tk 1 ?_ ?_; rotate_left
        · intro z hz; obtain ⟨f0, f1, f2⟩ := HC.out z hz; clear hz; go_simp; try with_reducible rfl
        try go_frame
        refine' tk 2 ?_ ?_; rotate_left
        · intro z hz; obtain ⟨f0, f1, f2⟩ := HC.out z hz; clear hz; go_simp; try with_reducible rfl
        try go_frame
        refine' tk 3 ?_ ?_; rotate_left
        · intro z hz; obtain ⟨f0, f1, f2⟩ := HC.out z hz; clear hz; go_simp; try with_reducible rfl
        try go_frame
        refine' tk 4 ?_ ?_; rotate_left
        · intro z hz; obtain ⟨f0, f1, f2⟩ := HC.out z hz; clear hz; go_simp; try with_reducible rfl
        try go_frame
        refine' tk 5 ?_ ?_; rotate_left
        · intro z hz; obtain ⟨f0, f1, f2⟩ := HC.out z hz; clear hz; go_simp; try with_reducible rfl
        try go_frame
        refine' tk 6 ?_ ?_; rotate_left
        · intro z hz; obtain ⟨f0, f1, f2⟩ := HC.out z hz; clear hz; go_simp; try with_reducible rfl
        try go_frame
        refine' tk 7 ?_ ?_; rotate_left
        · intro z hz; obtain ⟨f0, f1, f2⟩ := HC.out z hz; clear hz; go_simp; try with_reducible rfl
        try go_frame
        refine' tk 8 ?_ ?_; rotate_left
        · intro z hz; obtain ⟨f0, f1, f2⟩ := HC.out z hz; clear hz; go_simp; try with_reducible rfl
        try go_frame
        refine tr 9 (fun K hK => ?_)
        go_simp
        obtain ⟨W3, hW3⟩ : ∃ Z, Z = wd.alloc (.cells #[.string x0, .int .i64 x1, .int .i64 x2, .int .i64 x3, .int .i64 x4] 28) := ⟨_, rfl⟩
        have b3 : Below wd.heap.size wd W3 := by rw [hW3]; exact (Below.refl _ _).alloc (Nat.le_refl _) _
        have q3 : BoxL W3 wd.heap.size (wtC (x0, x1, x2, x3, x4)) := by rw [hW3]; exact BoxL.new wd 28 _
        rw [← hW3]
        clear hW3
        refine hK.out _ _ (hHeld.trans (Kept.below b3)) (fun hHeld2 => ?_)
        clear hK K hHeld; have hHeld := hHeld2; clear hHeld2
        try go_frame
        refine tr 10 (fun K hK => ?_)
        refine want_yesY (by rfl) (row_appendP_wp RWt.firm (A := fun _ => False) (w0 := w1) _ _ 41 28 rfl _ 48 infoWt Try.underlying41 rfl (by decide) (by decide) u5 N rfl (Hd.out.on RWt.firm b3) (some ⟨wd.heap.size, 0, none⟩) 1 1 [(x0, x1, x2, x3, x4)] rfl (src_boxG RWt.firm q3 ⟨rfl, HOK.out⟩) (by rw [List.length_singleton]; have h1 := HLn.out; have h2 := HAl.out; omega) ?_)
        intro v4 w4 hrow4 hg4 hw4
        refine hK.out _ _ (hHeld.trans (Kept.grown hg4 (fun k e hk => hk e))) (fun hHeld2 => ?_)
        clear hK K hHeld; have hHeld := hHeld2; clear hHeld2
        try go_frame
        refine' tk 11 ?_ ?_; rotate_left
        · intro z hz; clear hz; go_simp; try with_reducible rfl
        try go_frame
        refine tz ?_
        have HN : Hid (Row RWt 5 (fun _ => False) w1 w4 28 v4 ((M.take (k + 1)).map (fun it => enY S it.1))) := by rw [Hid, HSt.out]; exact hrow4
        clear hHeld hrow4 hg4 hw4 b3 q3 Hd HRV HC HSt HLn HOK
        go_wp2_with fail
        --M3
        go_roundw
        case rel => exact ⟨k + 1, by omega, by go_num, HN⟩
        case measure => simp [intOf]; omega
      · have hkm : k = m := by omega
        have HF : Hid (Row RWt 5 (fun _ => False) u wr 28 u5 (M.map (fun it => enY S it.1))) := by
          have h1 := hrow.out
          rw [List.take_of_length_le (by rw [HSM.out]; omega)] at h1
          exact h1.from RWt.firm HB1.out (fun _ h => h)
        clear hrow hkm
        go_wp2_with fail
        go_ret
        exact ⟨_, _, rfl, HF.out, HAR.out⟩
  · have HPl : Hid (pl ≠ 1) := hp1
    clear h
    go_enter Try.func17, Try.ntmps17
    go_wp2_with (first | (go_at_call 25; refine hM.mono ?_; rintro e w' ⟨rfl, hw'⟩; obtain rfl := hw'.symm) | fail)
    refine hG.mono ?_
    rintro e w2 ⟨v, l, rfl, hr, hp, hs⟩
    have HF : Hid (Row RWt 5 (fun _ => False) u w2 28 v l ∧ AllR S pl l) := ⟨hr, hp, fun _ => hs, fun e => absurd e HPl.out⟩
    clear hG hr hp hs
    go_wp2_with fail
    go_ret
    exact ⟨v, l, rfl, HF.out.1, HF.out.2⟩
end Go.Proofs.Ytpombhiffpbedaa
namespace Go.Proofs.Ytpombhiffpbedaa
open Go.RowKit Go.Maps
set_option linter.unusedSimpArgs false
set_option maxRecDepth 100000

/-- Those that are named in N stand elsewhere. -/
def shfS (S : List EnD) (tgt : WtD → Int) (N : List WtD) : List EnD := S.map (fun e => if N.any (fun x => sEq x.1 e.1.1) = true then (e.1, tgt e.1) else e)
theorem shf_nil (S : List EnD) (tgt : WtD → Int) : shfS S tgt [] = S := by unfold shfS; simp
theorem shf_len (S : List EnD) (tgt : WtD → Int) (N : List WtD) : (shfS S tgt N).length = S.length := by unfold shfS; simp
theorem othG_perm {α : Type} {key : α → ByteArray} {S : List α} (hn : (S.map key).Nodup) {x : α} (hx : x ∈ S) : S.Perm (othG key (key x) S ++ [x]) := by
  induction S with
  | nil => cases hx
  | cons y S ih =>
    rw [List.map_cons, List.nodup_cons] at hn
    unfold othG
    rw [List.filter_cons]
    rcases List.mem_cons.1 hx with e | hx2
    · subst e
      have h1 : sEq (key x) (key x) = true := (sEq_iff _ _).2 rfl
      rw [if_neg (by rw [h1]; decide)]
      have h2 : S.filter (fun z => !sEq (key z) (key x)) = S := by
        rw [List.filter_eq_self]
        intro z hz
        cases e : sEq (key z) (key x) with
        | false => rfl
        | true => exact absurd (List.mem_map.2 ⟨z, hz, (sEq_iff _ _).1 e⟩) hn.1
      rw [h2]
      exact List.perm_append_comm (l₁ := [x])
    · have hne : sEq (key y) (key x) = false := by
        cases e : sEq (key y) (key x) with
        | false => rfl
        | true => exact absurd (List.mem_map.2 ⟨x, hx2, ((sEq_iff _ _).1 e).symm⟩) hn.1
      rw [if_pos (by rw [hne]; rfl)]
      exact List.Perm.cons y (ih hn.2 hx2)
theorem shf_step {S : List EnD} {tgt : WtD → Int} {N : List WtD} {e : EnD} (hn : (S.map enN).Nodup) (he : e ∈ S) (_hN : N.any (fun x => sEq x.1 e.1.1) = false) : (shfS S tgt (N ++ [e.1])).Perm (othG enN e.1.1 (shfS S tgt N) ++ [(e.1, tgt e.1)]) := by
  have h1 : (shfS S tgt (N ++ [e.1])).Perm (shfS (othG enN e.1.1 S ++ [e]) tgt (N ++ [e.1])) := (othG_perm hn he).map _
  refine h1.trans ?_
  have h2 : shfS (othG enN e.1.1 S ++ [e]) tgt (N ++ [e.1]) = othG enN e.1.1 (shfS S tgt N) ++ [(e.1, tgt e.1)] := by
    unfold shfS
    rw [List.map_append, List.map_singleton]
    have h3 : ((N ++ [e.1]).any fun x => sEq x.1 e.1.1) = true := by
      rw [List.any_append]; simp [(sEq_iff _ _).2]
    rw [if_pos h3]
    congr 1
    unfold othG
    rw [List.filter_map]
    have h4 : (fun y : EnD => !sEq (enN y) e.1.1) ∘ (fun y : EnD => if N.any (fun x => sEq x.1 y.1.1) = true then (y.1, tgt y.1) else y) = fun y : EnD => !sEq (enN y) e.1.1 := by
      funext y
      simp only [Function.comp]
      split <;> rfl
    rw [h4]
    refine List.map_congr_left (fun y hy => ?_)
    have hy2 := (mem_othG (key := enN) (s := e.1.1) (S := S)).1 hy
    have h5 : sEq e.1.1 y.1.1 = false := by
      cases e2 : sEq e.1.1 y.1.1 with
      | false => rfl
      | true => exact absurd ((sEq_iff _ _).1 e2).symm hy2.2
    rw [List.any_append, List.any_cons, List.any_nil, h5, Bool.or_false, Bool.or_false]
  rw [h2]
theorem shf_all {S : List EnD} {tgt : WtD → Int} {N : List WtD} {pl : Int} {fit : WtD → Bool} (hn : (S.map enN).Nodup) (hN : N.Perm (gatP pl fit S)) : shfS S tgt N = S.map (fun e => if (decide (e.2 = pl) && fit e.1) = true then (e.1, tgt e.1) else e) := by
  unfold shfS
  refine List.map_congr_left (fun e he => ?_)
  have h1 : N.any (fun x => sEq x.1 e.1.1) = (decide (e.2 = pl) && fit e.1) := by
    rw [Bool.eq_iff_iff, List.any_eq_true]
    constructor
    · rintro ⟨x, hx, h2⟩
      obtain ⟨y, hy, rfl⟩ := List.mem_map.1 (hN.mem_iff.1 hx)
      obtain ⟨hy, hp⟩ := List.mem_filter.1 hy
      have : y = e := nd_one (key := enN) hn hy he ((sEq_iff _ _).1 h2)
      rw [← this]; exact hp
    · intro h2
      exact ⟨e.1, hN.mem_iff.2 (List.mem_map.2 ⟨e, List.mem_filter.2 ⟨he, h2⟩, rfl⟩), (sEq_iff _ _).2 rfl⟩
  rw [h1]
/-- What is gathered: each one is an entry, and none has the name of one ahead of it. -/
theorem gat_at {S : List EnD} {N : List WtD} {pl : Int} {fit : WtD → Bool} (hn : (S.map enN).Nodup) (hN : N.Perm (gatP pl fit S)) {k : Nat} (hk : k < N.length) : ∃ e ∈ S, e.1 = N.getD k default ∧ e.2 = pl ∧ (N.take k).any (fun x => sEq x.1 e.1.1) = false := by
  have hg : N.getD k default = N[k] := by rw [List.getD_eq_getElem?_getD, List.getElem?_eq_getElem hk]; rfl
  obtain ⟨e, he, h1⟩ := List.mem_map.1 (hN.mem_iff.1 (List.getElem_mem hk))
  obtain ⟨he, hp⟩ := List.mem_filter.1 he
  simp only [Bool.and_eq_true, decide_eq_true_eq] at hp
  refine ⟨e, he, by rw [hg, h1], hp.1, ?_⟩
  have hnd : (N.map Prod.fst).Nodup := by
    rw [(hN.map Prod.fst).nodup_iff]
    unfold gatP
    rw [List.map_map]
    exact hn.sublist (List.filter_sublist.map _)
  rw [List.any_eq_false]
  intro x hx hs
  have hs := (sEq_iff _ _).1 hs
  have h2 : N.map Prod.fst = (N.take k).map Prod.fst ++ (N[k].1 :: (N.drop (k + 1)).map Prod.fst) := by
    rw [← List.map_cons, ← List.map_append, ← List.drop_eq_getElem_cons hk, List.take_append_drop]
  rw [h2, List.nodup_append] at hnd
  refine hnd.2.2 x.1 (List.mem_map.2 ⟨x, hx, rfl⟩) N[k].1 (List.mem_cons_self ..) ?_
  rw [hs, h1]
/-- Behind Move; behind Tick. -/
def mvE (now : Int) (e : EnD) : EnD := if e.2 = 3 then (e.1, if e.1.2.2.2.2 ≤ now then 1 else 2) else e
def tkE (now : Int) (e : EnD) : EnD := if e.2 = 2 ∧ e.1.2.2.2.2 ≤ now then (e.1, 1) else e
def mvL (S : List EnD) (now : Int) : List EnD := if whenY now = true then S.map (mvE now) else S
def tkL (S : List EnD) (now : Int) : List EnD := if whenY now = true then S.map (tkE now) else S
abbrev yesF : WtD → Bool := fun _ => true
def dueF (now : Int) : WtD → Bool := fun x => decide (x.2.2.2.2 ≤ now)
def mvN (S : List EnD) (now : Int) : Int := if whenY now = true then ((gatP 3 yesF S).length : Int) else 0
def tkN (S : List EnD) (now : Int) : Int := if whenY now = true then ((gatP 2 (dueF now) S).length : Int) else 0
def nowE (now : Int) : Int := if whenY now = true then 0 else 2
def mvT (now : Int) (x : WtD) : Int := if x.2.2.2.2 ≤ now then 1 else 2
theorem mv_all {S : List EnD} {N : List WtD} {now : Int} (hn : (S.map enN).Nodup) (hN : N.Perm (gatP 3 yesF S)) : shfS S (mvT now) N = S.map (mvE now) := by
  rw [shf_all hn hN]
  refine List.map_congr_left (fun e _ => ?_)
  unfold mvE mvT
  simp
theorem tk_all {S : List EnD} {N : List WtD} {now : Int} (hn : (S.map enN).Nodup) (hN : N.Perm (gatP 2 (dueF now) S)) : shfS S (fun _ => 1) N = S.map (tkE now) := by
  rw [shf_all hn hN]
  refine List.map_congr_left (fun e _ => ?_)
  unfold tkE dueF
  simp
end Go.Proofs.Ytpombhiffpbedaa
namespace Go.Proofs.Ytpombhiffpbedaa
open Go.RowKit Go.Maps
set_option linter.unusedSimpArgs false
set_option maxRecDepth 100000

theorem ymovf_asks (u : World) : Asks u 30 #[] yesF := by
  refine ⟨enters_of Try.func30 (by kernel_rfl) rfl, fun x z hz => ?_⟩
  show Calls Try.prog 30 #[.agg (wtC x).toArray] z _
  go_enter Try.func30, Try.ntmps30
  go_wp2
  go_ret
  exact ⟨rfl, by go_grown⟩
set_option maxHeartbeats 16000000 in
theorem ymove_calls {F : Where} {u : World} {p : Nat} {S : List EnD} {n : Int} {Ws : List WiD} (h : QA F u p S n Ws) (hF : ∀ b, u.heap.size ≤ b → F b) (now : Int) (hl : S.length < 1000000000) :
    Calls Try.prog 14 #[.pointer (some ⟨p, 0, none⟩), .int .i64 now] u fun e w' => e = .returned (.tuple #[.int .i64 (mvN S now), .int .i64 (nowE now)]) ∧ QA F w' p (mvL S now) n Ws ∧ Turns F u w' := by
  have HF : Hid (∀ b, u.heap.size ≤ b → F b) := hF
  have HT1 : Hid (Turns F u u) := Turns.refl _ _
  have HQ : Hid (QA F u p S n Ws) := h
  have hG := ygather_calls h hl 3 30 #[] yesF (ymovf_asks u)
  have HS : Hid (S.length < 1000000000) := hl
  obtain ⟨hb, sb, nb, A, h⟩ := h
  have hN := yagNow_calls h.c0 now
  clear h hF hl 
  cases hw : whenY now with
  | false =>
    have HR : Hid (mvN S now = 0 ∧ nowE now = 2 ∧ mvL S now = S) := ⟨by unfold mvN; rw [if_neg (by rw [hw]; decide)], by unfold nowE; rw [if_neg (by rw [hw]; decide)], by unfold mvL; rw [if_neg (by rw [hw]; decide)]⟩
    rw [hw] at hN
    clear hw hG
    go_enter Try.func14, Try.ntmps14
    go_wp2_with fail
    refine hN.mono ?_
    rintro e w2 ⟨rfl, hw2⟩
    obtain rfl := hw2.symm
    clear hN
    go_wp2_with fail
    go_ret2
    exact ⟨by rw [HR.out.1, HR.out.2.1]; rfl, by rw [HR.out.2.2]; exact HQ.out, HT1.out⟩
  | true =>
    have HRL : Hid (mvL S now = S.map (mvE now)) := by rw [Hid]; unfold mvL; rw [if_pos hw]
    have HRN : Hid (mvN S now = ((gatP 3 yesF S).length : Int) ∧ nowE now = 0) := ⟨by unfold mvN; rw [if_pos hw], by unfold nowE; rw [if_pos hw]⟩
    rw [hw] at hN
    clear hw
    go_enter Try.func14, Try.ntmps14
    go_wp2_with fail
    refine hN.mono ?_
    rintro e w2 ⟨rfl, hw2⟩
    obtain rfl := hw2.symm
    clear hN
    go_wp2_with fail
    refine hG.mono ?_
    rintro e w2 ⟨v, l, rfl, hrow, hperm, hsrt⟩
    obtain ⟨va, vn, vc, rfl⟩ := hrow.headG
    have hvn : l.length = vn := by
      obtain ⟨xs, ⟨_, _, ⟨e1, h0⟩ | ⟨g', cap', cur, e1, _⟩⟩, _⟩ := hrow
      · simp only [Value.slice.injEq] at e1; omega
      · simp only [Value.slice.injEq] at e1; omega
    subst hvn
    have HB2 : Hid (Below u.heap.size u w2) := hrow.below
    have HGe : Hid (∀ k, k < l.length → ∃ e ∈ S, e.1 = l.getD k default ∧ e.2 = 3 ∧ (l.take k).any (fun x => sEq x.1 e.1.1) = false) := fun k hk => gat_at HQ.out.nd hperm hk
    have HEnd : Hid (shfS S (mvT now) l = S.map (mvE now) ∧ l.length = (gatP 3 yesF S).length) := ⟨mv_all HQ.out.nd hperm, hperm.length_eq⟩
    have HG : Hid (∀ k, k < l.length → ∃ g c, Value.slice va l.length vc = .slice (some ⟨g, 0, none⟩) l.length c ∧ u.heap.size ≤ g ∧ g < w2.heap.size ∧ okS (l.getD k default).1 ∧ ∀ z : World, z.heap[g]? = w2.heap[g]? → z.rangeAt g (k * 5) (wtC (l.getD k default))) := fun k hk => by
      obtain ⟨g, c, cs, e, hg, hr, hc⟩ := hrow.getG RWt.firm hk
      obtain ⟨rfl, h2⟩ : cs = wtC _ ∧ _ := hr
      refine ⟨g, c, e, (hrow.lt (b := g) (by rw [e]; rfl)).1, hg, h2, fun z hz j v hj => ?_⟩
      have h3 := hc j v hj
      simp only [World.cell?, hz] at h3 ⊢
      exact h3
    have HVl : Hid (∀ b, (Value.slice va l.length vc).ownBlock = some b → u.heap.size ≤ b ∧ b < w2.heap.size) := fun b hb => hrow.lt hb
    have HI0 : Hid (QA (fun b => F b ∧ (Value.slice va l.length vc).ownBlock ≠ some b) w2 p (shfS S (mvT now) (l.take 0)) n Ws ∧ Turns F u w2 ∧ ∀ b, (Value.slice va l.length vc).ownBlock = some b → w2.heap[b]? = w2.heap[b]?) := by
      refine ⟨?_, HT1.out.trans (Turns.below hrow.below), fun b _ => rfl⟩
      rw [List.take_zero, shf_nil]
      exact (HQ.out.weak (fun b hb hf => ⟨hf, fun e => by have := (hrow.lt e).1; omega⟩)).on hrow.below
    obtain ⟨m, hm⟩ : ∃ m, m = l.length := ⟨_, rfl⟩
    have HLm : Hid (m < 1000000000) := by have h1 := HEnd.out.2; have h2 := gat_len 3 yesF S; have h3 := HS.out; rw [Hid]; omega
    have hml : m < 1000000000000000 := by have := HLm.out; omega
    have HQn : Hid ((S.map enN).Nodup ∧ (∀ e ∈ S, okE e)) := ⟨HQ.out.nd, HQ.out.ok⟩
    rw [← hm] at HG HVl HI0 HGe ⊢
    have Hm : Hid (m = l.length) := hm
    clear hG hrow hperm hsrt hm 
    go_wp2_with fail
    --M1
    go_loopw [20] (fun i wr => ∃ k : Nat, k ≤ m ∧ i = .int .i64 k ∧ Hid (QA (fun b => F b ∧ (Value.slice va m vc).ownBlock ≠ some b) wr p (shfS S (mvT now) (l.take k)) n Ws ∧ Turns F u wr ∧ (∀ b, (Value.slice va m vc).ownBlock = some b → wr.heap[b]? = w2.heap[b]?) ∧ w2.heap.size ≤ wr.heap.size)) (fun i _ => m - (intOf i).toNat)
    case atStart => exact ⟨0, Nat.zero_le _, rfl, HI0.out.1, HI0.out.2.1, fun _ _ => rfl, Nat.le_refl _⟩
    case round =>
      obtain ⟨k, hk, rfl, HI⟩ := hrel
      by_cases hlt : k < m
      · have hltz : (k : Int) < (m : Int) := by omega
        obtain ⟨g, c, ev, hge, hg, hok, hr⟩ := HG.out k hlt
        obtain ⟨e, heS, he1, he2, heN⟩ := HGe.out k hlt
        obtain ⟨rfl, rfl⟩ : va = some ⟨g, 0, none⟩ ∧ vc = c := by simp only [Value.slice.injEq] at ev; exact ⟨ev.1, ev.2.2⟩
        have hrz := hr wr (HI.out.2.2.1 g rfl)
        have hst := shf_step (tgt := (mvT now)) HQn.out.1 heS heN
        have HTk : Hid (l.take (k + 1) = l.take k ++ [e.1]) := by rw [Hid, List.take_succ_eq_append_getElem (by rw [← Hm.out]; exact hlt), he1, List.getD_eq_getElem?_getD, List.getElem?_eq_getElem (by rw [← Hm.out]; exact hlt)]; rfl
        have HSt : Hid ((shfS S (mvT now) (l.take (k + 1))).Perm (othG enN e.1.1 (shfS S (mvT now) (l.take k)) ++ [(e.1, (mvT now) e.1)])) := by rw [Hid, HTk.out]; exact hst
        have hoke := HQn.out.2 e heS
        rw [← he1] at hrz
        obtain ⟨W3, hW3⟩ : ∃ Z, Z = wr.alloc (.cells (wtC e.1).toArray 28) := ⟨_, rfl⟩
        have b3 : Below wr.heap.size wr W3 := by rw [hW3]; exact (Below.refl _ _).alloc (Nat.le_refl _) _
        have q3 : BoxL W3 wr.heap.size (wtC e.1) := by rw [hW3]; exact BoxL.new wr 28 _
        have hC := fun (pl' : Int) (hpl : okE (e.1, pl')) => yshift_calls (HI.out.1.on b3) (fun b hb => ⟨HF.out b (Nat.le_trans HI.out.2.1.size (Nat.le_trans b3.size hb)), fun e => by have e2 : g = b := (by injection e); have h1 := HI.out.2.2.2; have h2 := b3.size; omega⟩) e.1 pl' hpl (by rw [shf_len]; exact HS.out)
        have HX3 : Hid (BoxL W3 wr.heap.size (wtC e.1) ∧ Below wr.heap.size wr W3) := ⟨q3, b3⟩
        have HW3 : Hid (wr.alloc (.cells (wtC e.1).toArray 28) = W3) := hW3.symm
        have HNx : Hid (∀ w4, QA (fun b => F b ∧ (Value.slice (some ⟨g, 0, none⟩) m vc).ownBlock ≠ some b) w4 p (othG enN e.1.1 (shfS S (mvT now) (l.take k)) ++ [(e.1, (mvT now) e.1)]) n Ws → Turns (fun b => F b ∧ (Value.slice (some ⟨g, 0, none⟩) m vc).ownBlock ≠ some b) W3 w4 → QA (fun b => F b ∧ (Value.slice (some ⟨g, 0, none⟩) m vc).ownBlock ≠ some b) w4 p (shfS S (mvT now) (l.take (k + 1))) n Ws ∧ Turns F u w4 ∧ (∀ b, (Value.slice (some ⟨g, 0, none⟩) m vc).ownBlock = some b → w4.heap[b]? = w2.heap[b]?) ∧ w2.heap.size ≤ w4.heap.size) := fun w4 hq ht => by
          refine ⟨hq.perm HSt.out, HI.out.2.1.trans ((Turns.below b3).trans (ht.weak (fun b _ hf => hf.1))), fun b hb => ?_, Nat.le_trans HI.out.2.2.2 (Nat.le_trans b3.size ht.size)⟩
          have hb2 := hb
          injection hb with hb
          subst hb
          have h1 := HI.out.2.2.2
          exact (ht.block g (by have := b3.size; omega) (fun hf => hf.2 hb2)).trans ((b3.block g (by omega)).trans (HI.out.2.2.1 g hb2))
        clear hst hr ev hok hW3 b3 q3 heN he1 he2 HSt HTk HI0
        obtain ⟨⟨x0, x1, x2, x3, x4⟩, xp⟩ := e
        have d0 := hrz 0 _ rfl
        have d1 := hrz 1 _ rfl
        have d2 := hrz 2 _ rfl
        have d3 := hrz 3 _ rfl
        have d4 := hrz 4 _ rfl
        rw [Nat.add_zero] at d0
        have HX : Hid (wr.rangeAt g (k * 5) (wtC (x0, x1, x2, x3, x4))) := hrz
        clear hrz
        go_upto_region 8 with (first | (refine wpList_load_mid rfl 28 _ rfl g (k * 5) rfl (wtC (x0, x1, x2, x3, x4)) _ HX.out Try.underlying28 rfl (by kernel_rfl) ?_) | fail)
        --M2
        rw [HW3.out]
        clear d0 d1 d2 d3 d4 HX HW3
        have HX4 : Hid (W3.rangeAt wr.heap.size 0 (wtC (x0, x1, x2, x3, x4))) := HX3.out.1.range
        have c4 : W3.cell? ⟨wr.heap.size, 4, none⟩ = some (.int .i64 x4) := (HX3.out.1.2 4 _ rfl).1
        by_cases hx4 : x4 ≤ now
        · have hC2 := hC 1 ⟨hoke.1, hoke.2.1, .inl rfl⟩
          clear hC
          have HNx2 : Hid (∀ w4, QA (fun b => F b ∧ (Value.slice (some ⟨g, 0, none⟩) m vc).ownBlock ≠ some b) w4 p (othG enN x0 (shfS S (mvT now) (l.take k)) ++ [((x0, x1, x2, x3, x4), 1)]) n Ws → Turns (fun b => F b ∧ (Value.slice (some ⟨g, 0, none⟩) m vc).ownBlock ≠ some b) W3 w4 → QA (fun b => F b ∧ (Value.slice (some ⟨g, 0, none⟩) m vc).ownBlock ≠ some b) w4 p (shfS S (mvT now) (l.take (k + 1))) n Ws ∧ Turns F u w4 ∧ (∀ b, (Value.slice (some ⟨g, 0, none⟩) m vc).ownBlock = some b → w4.heap[b]? = w2.heap[b]?) ∧ w2.heap.size ≤ w4.heap.size) := by have h1 := HNx.out; rw [show mvT now (x0, x1, x2, x3, x4) = 1 from if_pos hx4] at h1; exact h1
          clear HNx HX3
          go_wp2_with (first | (refine wpList_load_mid rfl 28 _ rfl wr.heap.size 0 rfl (wtC (x0, x1, x2, x3, x4)) _ HX4.out Try.underlying28 rfl (by kernel_rfl) ?_) | fail)
          refine hC2.mono ?_
          rintro e w4 ⟨rfl, h4, t4⟩
          have HN4 := HNx2.out w4 h4 t4
          have HN5 : Hid (_ ∧ _) := HN4
          clear HN4 hC2 h4 t4 HNx2
          go_wp2_with fail
          go_roundw
          case rel => exact ⟨k + 1, by omega, by go_num, HN5.out⟩
          case measure => simp [intOf]; omega
        · have hC2 := hC 2 ⟨hoke.1, hoke.2.1, .inr (.inl rfl)⟩
          clear hC
          have HNx2 : Hid (∀ w4, QA (fun b => F b ∧ (Value.slice (some ⟨g, 0, none⟩) m vc).ownBlock ≠ some b) w4 p (othG enN x0 (shfS S (mvT now) (l.take k)) ++ [((x0, x1, x2, x3, x4), 2)]) n Ws → Turns (fun b => F b ∧ (Value.slice (some ⟨g, 0, none⟩) m vc).ownBlock ≠ some b) W3 w4 → QA (fun b => F b ∧ (Value.slice (some ⟨g, 0, none⟩) m vc).ownBlock ≠ some b) w4 p (shfS S (mvT now) (l.take (k + 1))) n Ws ∧ Turns F u w4 ∧ (∀ b, (Value.slice (some ⟨g, 0, none⟩) m vc).ownBlock = some b → w4.heap[b]? = w2.heap[b]?) ∧ w2.heap.size ≤ w4.heap.size) := by have h1 := HNx.out; rw [show mvT now (x0, x1, x2, x3, x4) = 2 from if_neg hx4] at h1; exact h1
          clear HNx HX3
          go_wp2_with (first | (refine wpList_load_mid rfl 28 _ rfl wr.heap.size 0 rfl (wtC (x0, x1, x2, x3, x4)) _ HX4.out Try.underlying28 rfl (by kernel_rfl) ?_) | fail)
          refine hC2.mono ?_
          rintro e w4 ⟨rfl, h4, t4⟩
          have HN4 := HNx2.out w4 h4 t4
          have HN5 : Hid (_ ∧ _) := HN4
          clear HN4 hC2 h4 t4 HNx2
          go_wp2_with fail
          go_roundw
          case rel => exact ⟨k + 1, by omega, by go_num, HN5.out⟩
          case measure => simp [intOf]; omega
      · have hkm : k = m := by omega
        have HFn : Hid (QA F wr p (S.map (mvE now)) n Ws ∧ Turns F u wr) := by
          have h1 := HI.out.1
          rw [hkm, Hm.out, List.take_length, HEnd.out.1] at h1
          exact ⟨h1.weak (fun b _ hf => hf.1), HI.out.2.1⟩
        have HNm : Hid (mvN S now = (m : Int)) := by rw [Hid, HRN.out.1, ← HEnd.out.2, ← Hm.out]
        clear HI hkm HI0
        go_wp2_with fail
        --M3
        go_ret2
        exact ⟨by rw [HNm.out, HRN.out.2]; rfl, by rw [HRL.out]; exact HFn.out.1, HFn.out.2⟩
end Go.Proofs.Ytpombhiffpbedaa
namespace Go.Proofs.Ytpombhiffpbedaa
open Go.RowKit Go.Maps
set_option linter.unusedSimpArgs false
set_option maxRecDepth 100000

theorem ytikf_asks (u : World) (b : Nat) (now : Int) (hb : u.cell? ⟨b, 0, none⟩ = some (.int .i64 now)) (hl : b < u.heap.size) : Asks u 32 #[.pointer (some ⟨b, 0, none⟩)] (dueF now) := by
  refine ⟨enters_of Try.func32 (by kernel_rfl) rfl, fun x z hz => ?_⟩
  show Calls Try.prog 32 #[.agg (wtC x).toArray, .pointer (some ⟨b, 0, none⟩)] z _
  obtain ⟨W1, hW1⟩ : ∃ Z, Z = z.alloc (.cells (wtC x).toArray 28) := ⟨_, rfl⟩
  have b1 : Below z.heap.size z W1 := by rw [hW1]; exact (Below.refl _ _).alloc (Nat.le_refl _) _
  have c4 : W1.cell? ⟨z.heap.size, 4, none⟩ = some (.int .i64 x.2.2.2.2) := by rw [hW1]; exact ((BoxL.new z 28 (wtC x)).2 4 _ rfl).1
  have cb : W1.cell? ⟨b, 0, none⟩ = some (.int .i64 now) := ((on2 hz b1).cell (p := ⟨b, 0, none⟩) hl).trans hb
  have HW1 : Hid (z.alloc (.cells (wtC x).toArray 28) = W1) := hW1.symm
  have HB : Hid (Below z.heap.size z W1) := b1
  have HD : Hid (dueF now x = decide (x.2.2.2.2 ≤ now)) := rfl
  clear hW1 b1
  generalize dueF now x = d at HD
  go_enter Try.func32, Try.ntmps32
  go_upto_region 1 with fail
  rw [HW1.out]
  clear HW1
  go_wp2
  go_ret
  exact ⟨by rw [HD.out]; rfl, HB.out⟩
set_option maxHeartbeats 16000000 in
theorem ytick_calls {F : Where} {u : World} {p : Nat} {S : List EnD} {n : Int} {Ws : List WiD} (h : QA F u p S n Ws) (hF : ∀ b, u.heap.size ≤ b → F b) (now : Int) (hl : S.length < 1000000000) :
    Calls Try.prog 15 #[.pointer (some ⟨p, 0, none⟩), .int .i64 now] u fun e w' => e = .returned (.tuple #[.int .i64 (tkN S now), .int .i64 (nowE now)]) ∧ QA F w' p (tkL S now) n Ws ∧ Turns F u w' := by
  have HF : Hid (∀ b, u.heap.size ≤ b → F b) := hF
  obtain ⟨W1, hW1⟩ : ∃ Z, Z = u.alloc (.cells #[.int .i64 now] 3) := ⟨_, rfl⟩
  have b1 : Below u.heap.size u W1 := by rw [hW1]; exact (Below.refl _ _).alloc (Nat.le_refl _) _
  have q1 : u.heap.size < W1.heap.size ∧ W1.cell? ⟨u.heap.size, 0, none⟩ = some (.int .i64 now) := by rw [hW1]; exact ⟨(BoxL.new u 3 [.int .i64 now]).1, ((BoxL.new u 3 [.int .i64 now]).2 0 _ rfl).1⟩
  have HW1 : Hid (u.alloc (.cells #[.int .i64 now] 3) = W1) := hW1.symm
  have h := h.on b1
  have HT1 : Hid (Turns F u W1) := Turns.below b1
  have c9 := q1.2
  have HQ : Hid (QA F W1 p S n Ws) := h
  have hG := ygather_calls h hl 2 32 #[.pointer (some ⟨u.heap.size, 0, none⟩)] (dueF now) (ytikf_asks W1 u.heap.size now q1.2 q1.1)
  have HS : Hid (S.length < 1000000000) := hl
  obtain ⟨hb, sb, nb, A, h⟩ := h
  have hN := yagNow_calls h.c0 now
  clear h hF hl hW1 b1 q1
  cases hw : whenY now with
  | false =>
    have HR : Hid (tkN S now = 0 ∧ nowE now = 2 ∧ tkL S now = S) := ⟨by unfold tkN; rw [if_neg (by rw [hw]; decide)], by unfold nowE; rw [if_neg (by rw [hw]; decide)], by unfold tkL; rw [if_neg (by rw [hw]; decide)]⟩
    rw [hw] at hN
    clear hw hG
    go_enter Try.func15, Try.ntmps15
    go_upto_region 1 with fail
    rw [HW1.out]
    go_wp2_with fail
    refine hN.mono ?_
    rintro e w2 ⟨rfl, hw2⟩
    obtain rfl := hw2.symm
    clear hN
    go_wp2_with fail
    go_ret2
    exact ⟨by rw [HR.out.1, HR.out.2.1]; rfl, by rw [HR.out.2.2]; exact HQ.out, HT1.out⟩
  | true =>
    have HRL : Hid (tkL S now = S.map (tkE now)) := by rw [Hid]; unfold tkL; rw [if_pos hw]
    have HRN : Hid (tkN S now = ((gatP 2 (dueF now) S).length : Int) ∧ nowE now = 0) := ⟨by unfold tkN; rw [if_pos hw], by unfold nowE; rw [if_pos hw]⟩
    rw [hw] at hN
    clear hw
    go_enter Try.func15, Try.ntmps15
    go_upto_region 1 with fail
    rw [HW1.out]
    go_wp2_with fail
    refine hN.mono ?_
    rintro e w2 ⟨rfl, hw2⟩
    obtain rfl := hw2.symm
    clear hN
    go_wp2_with fail
    refine hG.mono ?_
    rintro e w2 ⟨v, l, rfl, hrow, hperm, hsrt⟩
    obtain ⟨va, vn, vc, rfl⟩ := hrow.headG
    have hvn : l.length = vn := by
      obtain ⟨xs, ⟨_, _, ⟨e1, h0⟩ | ⟨g', cap', cur, e1, _⟩⟩, _⟩ := hrow
      · simp only [Value.slice.injEq] at e1; omega
      · simp only [Value.slice.injEq] at e1; omega
    subst hvn
    have HB2 : Hid (Below W1.heap.size W1 w2) := hrow.below
    have HGe : Hid (∀ k, k < l.length → ∃ e ∈ S, e.1 = l.getD k default ∧ e.2 = 2 ∧ (l.take k).any (fun x => sEq x.1 e.1.1) = false) := fun k hk => gat_at HQ.out.nd hperm hk
    have HEnd : Hid (shfS S (fun _ => 1) l = S.map (tkE now) ∧ l.length = (gatP 2 (dueF now) S).length) := ⟨tk_all HQ.out.nd hperm, hperm.length_eq⟩
    have HG : Hid (∀ k, k < l.length → ∃ g c, Value.slice va l.length vc = .slice (some ⟨g, 0, none⟩) l.length c ∧ W1.heap.size ≤ g ∧ g < w2.heap.size ∧ okS (l.getD k default).1 ∧ ∀ z : World, z.heap[g]? = w2.heap[g]? → z.rangeAt g (k * 5) (wtC (l.getD k default))) := fun k hk => by
      obtain ⟨g, c, cs, e, hg, hr, hc⟩ := hrow.getG RWt.firm hk
      obtain ⟨rfl, h2⟩ : cs = wtC _ ∧ _ := hr
      refine ⟨g, c, e, (hrow.lt (b := g) (by rw [e]; rfl)).1, hg, h2, fun z hz j v hj => ?_⟩
      have h3 := hc j v hj
      simp only [World.cell?, hz] at h3 ⊢
      exact h3
    have HVl : Hid (∀ b, (Value.slice va l.length vc).ownBlock = some b → W1.heap.size ≤ b ∧ b < w2.heap.size) := fun b hb => hrow.lt hb
    have HI0 : Hid (QA (fun b => F b ∧ (Value.slice va l.length vc).ownBlock ≠ some b) w2 p (shfS S (fun _ => 1) (l.take 0)) n Ws ∧ Turns F u w2 ∧ ∀ b, (Value.slice va l.length vc).ownBlock = some b → w2.heap[b]? = w2.heap[b]?) := by
      refine ⟨?_, HT1.out.trans (Turns.below hrow.below), fun b _ => rfl⟩
      rw [List.take_zero, shf_nil]
      exact (HQ.out.weak (fun b hb hf => ⟨hf, fun e => by have := (hrow.lt e).1; omega⟩)).on hrow.below
    obtain ⟨m, hm⟩ : ∃ m, m = l.length := ⟨_, rfl⟩
    have HLm : Hid (m < 1000000000) := by have h1 := HEnd.out.2; have h2 := gat_len 2 (dueF now) S; have h3 := HS.out; rw [Hid]; omega
    have hml : m < 1000000000000000 := by have := HLm.out; omega
    have HQn : Hid ((S.map enN).Nodup ∧ (∀ e ∈ S, okE e)) := ⟨HQ.out.nd, HQ.out.ok⟩
    rw [← hm] at HG HVl HI0 HGe ⊢
    have Hm : Hid (m = l.length) := hm
    clear hG hrow hperm hsrt hm c9
    go_wp2_with fail
    --M1
    go_loopw [21] (fun i wr => ∃ k : Nat, k ≤ m ∧ i = .int .i64 k ∧ Hid (QA (fun b => F b ∧ (Value.slice va m vc).ownBlock ≠ some b) wr p (shfS S (fun _ => 1) (l.take k)) n Ws ∧ Turns F u wr ∧ (∀ b, (Value.slice va m vc).ownBlock = some b → wr.heap[b]? = w2.heap[b]?) ∧ w2.heap.size ≤ wr.heap.size)) (fun i _ => m - (intOf i).toNat)
    case atStart => exact ⟨0, Nat.zero_le _, rfl, HI0.out.1, HI0.out.2.1, fun _ _ => rfl, Nat.le_refl _⟩
    case round =>
      obtain ⟨k, hk, rfl, HI⟩ := hrel
      by_cases hlt : k < m
      · have hltz : (k : Int) < (m : Int) := by omega
        obtain ⟨g, c, ev, hge, hg, hok, hr⟩ := HG.out k hlt
        obtain ⟨e, heS, he1, he2, heN⟩ := HGe.out k hlt
        obtain ⟨rfl, rfl⟩ : va = some ⟨g, 0, none⟩ ∧ vc = c := by simp only [Value.slice.injEq] at ev; exact ⟨ev.1, ev.2.2⟩
        have hrz := hr wr (HI.out.2.2.1 g rfl)
        have hst := shf_step (tgt := (fun _ => 1)) HQn.out.1 heS heN
        have HTk : Hid (l.take (k + 1) = l.take k ++ [e.1]) := by rw [Hid, List.take_succ_eq_append_getElem (by rw [← Hm.out]; exact hlt), he1, List.getD_eq_getElem?_getD, List.getElem?_eq_getElem (by rw [← Hm.out]; exact hlt)]; rfl
        have HSt : Hid ((shfS S (fun _ => 1) (l.take (k + 1))).Perm (othG enN e.1.1 (shfS S (fun _ => 1) (l.take k)) ++ [(e.1, (fun _ => 1) e.1)])) := by rw [Hid, HTk.out]; exact hst
        have hoke := HQn.out.2 e heS
        rw [← he1] at hrz
        obtain ⟨W3, hW3⟩ : ∃ Z, Z = wr.alloc (.cells (wtC e.1).toArray 28) := ⟨_, rfl⟩
        have b3 : Below wr.heap.size wr W3 := by rw [hW3]; exact (Below.refl _ _).alloc (Nat.le_refl _) _
        have q3 : BoxL W3 wr.heap.size (wtC e.1) := by rw [hW3]; exact BoxL.new wr 28 _
        have hC := fun (pl' : Int) (hpl : okE (e.1, pl')) => yshift_calls (HI.out.1.on b3) (fun b hb => ⟨HF.out b (Nat.le_trans HI.out.2.1.size (Nat.le_trans b3.size hb)), fun e => by have e2 : g = b := (by injection e); have h1 := HI.out.2.2.2; have h2 := b3.size; omega⟩) e.1 pl' hpl (by rw [shf_len]; exact HS.out)
        have HX3 : Hid (BoxL W3 wr.heap.size (wtC e.1) ∧ Below wr.heap.size wr W3) := ⟨q3, b3⟩
        have HW3 : Hid (wr.alloc (.cells (wtC e.1).toArray 28) = W3) := hW3.symm
        have HNx : Hid (∀ w4, QA (fun b => F b ∧ (Value.slice (some ⟨g, 0, none⟩) m vc).ownBlock ≠ some b) w4 p (othG enN e.1.1 (shfS S (fun _ => 1) (l.take k)) ++ [(e.1, (fun _ => 1) e.1)]) n Ws → Turns (fun b => F b ∧ (Value.slice (some ⟨g, 0, none⟩) m vc).ownBlock ≠ some b) W3 w4 → QA (fun b => F b ∧ (Value.slice (some ⟨g, 0, none⟩) m vc).ownBlock ≠ some b) w4 p (shfS S (fun _ => 1) (l.take (k + 1))) n Ws ∧ Turns F u w4 ∧ (∀ b, (Value.slice (some ⟨g, 0, none⟩) m vc).ownBlock = some b → w4.heap[b]? = w2.heap[b]?) ∧ w2.heap.size ≤ w4.heap.size) := fun w4 hq ht => by
          refine ⟨hq.perm HSt.out, HI.out.2.1.trans ((Turns.below b3).trans (ht.weak (fun b _ hf => hf.1))), fun b hb => ?_, Nat.le_trans HI.out.2.2.2 (Nat.le_trans b3.size ht.size)⟩
          have hb2 := hb
          injection hb with hb
          subst hb
          have h1 := HI.out.2.2.2
          exact (ht.block g (by have := b3.size; omega) (fun hf => hf.2 hb2)).trans ((b3.block g (by omega)).trans (HI.out.2.2.1 g hb2))
        clear hst hr ev hok hW3 b3 q3 heN he1 he2 HSt HTk HI0
        obtain ⟨⟨x0, x1, x2, x3, x4⟩, xp⟩ := e
        have d0 := hrz 0 _ rfl
        have d1 := hrz 1 _ rfl
        have d2 := hrz 2 _ rfl
        have d3 := hrz 3 _ rfl
        have d4 := hrz 4 _ rfl
        rw [Nat.add_zero] at d0
        have HX : Hid (wr.rangeAt g (k * 5) (wtC (x0, x1, x2, x3, x4))) := hrz
        clear hrz
        go_upto_region 8 with (first | (refine wpList_load_mid rfl 28 _ rfl g (k * 5) rfl (wtC (x0, x1, x2, x3, x4)) _ HX.out Try.underlying28 rfl (by kernel_rfl) ?_) | fail)
        --M2
        rw [HW3.out]
        clear d0 d1 d2 d3 d4 HX HW3
        have HX4 : Hid (W3.rangeAt wr.heap.size 0 (wtC (x0, x1, x2, x3, x4))) := HX3.out.1.range
        have hC2 := hC 1 ⟨hoke.1, hoke.2.1, .inl rfl⟩
        clear hC
        have HNx2 : Hid (∀ w4, QA (fun b => F b ∧ (Value.slice (some ⟨g, 0, none⟩) m vc).ownBlock ≠ some b) w4 p (othG enN x0 (shfS S (fun _ => 1) (l.take k)) ++ [((x0, x1, x2, x3, x4), 1)]) n Ws → Turns (fun b => F b ∧ (Value.slice (some ⟨g, 0, none⟩) m vc).ownBlock ≠ some b) W3 w4 → QA (fun b => F b ∧ (Value.slice (some ⟨g, 0, none⟩) m vc).ownBlock ≠ some b) w4 p (shfS S (fun _ => 1) (l.take (k + 1))) n Ws ∧ Turns F u w4 ∧ (∀ b, (Value.slice (some ⟨g, 0, none⟩) m vc).ownBlock = some b → w4.heap[b]? = w2.heap[b]?) ∧ w2.heap.size ≤ w4.heap.size) := by have h1 := HNx.out; exact h1
        clear HNx HX3
        go_wp2_with (first | (refine wpList_load_mid rfl 28 _ rfl wr.heap.size 0 rfl (wtC (x0, x1, x2, x3, x4)) _ HX4.out Try.underlying28 rfl (by kernel_rfl) ?_) | fail)
        refine hC2.mono ?_
        rintro e w4 ⟨rfl, h4, t4⟩
        have HN4 := HNx2.out w4 h4 t4
        have HN5 : Hid (_ ∧ _) := HN4
        clear HN4 hC2 h4 t4 HNx2
        go_wp2_with fail
        go_roundw
        case rel => exact ⟨k + 1, by omega, by go_num, HN5.out⟩
        case measure => simp [intOf]; omega
      · have hkm : k = m := by omega
        have HFn : Hid (QA F wr p (S.map (tkE now)) n Ws ∧ Turns F u wr) := by
          have h1 := HI.out.1
          rw [hkm, Hm.out, List.take_length, HEnd.out.1] at h1
          exact ⟨h1.weak (fun b _ hf => hf.1), HI.out.2.1⟩
        have HNm : Hid (tkN S now = (m : Int)) := by rw [Hid, HRN.out.1, ← HEnd.out.2, ← Hm.out]
        clear HI hkm HI0
        go_wp2_with fail
        --M3
        go_ret2
        exact ⟨by rw [HNm.out, HRN.out.2]; rfl, by rw [HRL.out]; exact HFn.out.1, HFn.out.2⟩
end Go.Proofs.Ytpombhiffpbedaa
