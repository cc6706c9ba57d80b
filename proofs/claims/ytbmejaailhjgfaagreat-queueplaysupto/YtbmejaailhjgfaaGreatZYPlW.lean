/- QueuePlays' walk. Condition: the acts lie as is said of them, and are not too many. -/
import Derived.Test.YtbmejaailhjgfaaGreatW01
namespace Go.Proofs.YtbmejaailhjgfaaGreat
open Go.RowKit Go.Maps
set_option linter.unusedSimpArgs false
set_option maxRecDepth 100000

set_option maxHeartbeats 64000000 in
theorem plays14_walk (x0 : Option Addr) (y0 z0 : Nat) (L0 : List ActQ) (nd : ByteArray) (tries : Int) (w : World) (h0 : SlAt RActQ 12 112 (fun _ => True) w x0 y0 z0 L0) (hnd : okS nd) (htr : -9223372036854775808 ≤ tries ∧ tries ≤ 9223372036854775807) (hl : L0.length ≤ 1048576) :
    Calls Tryz.prog 3 #[.slice x0 y0 z0, .string nd, .int .i64 tries] w fun e w' => e = .returned (.bool true) ∧ Below w.heap.size w w' := by
  have hN := ynew_calls w
  have H0 : Hid (SlAt RActQ 12 112 (fun _ => True) w x0 y0 z0 L0) := h0
  have hy0 : y0 ≤ 1048576 := by have := h0.1; omega
  have Hm : Hid (y0 ≤ 1048576) := hy0
  have Hnd : Hid (okS nd) := hnd
  have Htr : Hid (-9223372036854775808 ≤ tries ∧ tries ≤ 9223372036854775807) := htr
  clear h0 hl hnd htr
  go_enter Tryz.func3, Tryz.ntmps3
  go_wp2_with fail
  refine hN.mono ?_
  rintro e w2 ⟨p, rfl, h2, b2⟩
  obtain ⟨y, hy⟩ : ∃ y, y = w2.heap.size := ⟨_, rfl⟩
  obtain ⟨W3, hW3⟩ : ∃ Z, Z = w2.alloc (.cells #[.slice none 0 0, .int .i64 0, .slice none 0 0] 29) := ⟨_, rfl⟩
  have b3 : Below w2.heap.size w2 W3 := by rw [hW3]; exact (Below.refl _ _).alloc (Nat.le_refl _) _
  have q3 : BoxL W3 y [.slice none 0 0, .int .i64 0, .slice none 0 0] := by rw [hW3, hy]; exact BoxL.new w2 _ _
  have s3 : W3.heap.size = y + 1 := by rw [hW3, hy]; simp
  obtain ⟨B, hB⟩ : ∃ B, B = W3.heap.size := ⟨_, rfl⟩
  obtain ⟨W4, hW4⟩ : ∃ Z, Z = W3.alloc (.cells #[.string ⟨#[]⟩, .int .i64 0, .int .i64 0, .int .i64 0, .int .i64 0] 31) := ⟨_, rfl⟩
  have b4 : Below W3.heap.size W3 W4 := by rw [hW4]; exact (Below.refl _ _).alloc (Nat.le_refl _) _
  have q4 : BoxL W4 B (wtC zWtY) := by rw [hW4, hB]; exact BoxL.new W3 _ _
  have b24 := on2 b3 b4
  have HI0 : Hid (PlR w y B 0 (.pointer (some ⟨p, 0, none⟩)) 0 W4) := by
    have r4 : RqE w W4 y (.slice none 0 0) (.slice none 0 0) [] 0 [] := RqE.zero w W4 y (on2 b2 b24) (by rw [hy]; exact b2.size) (q3.on b4)
    have hs := b2.size
    refine ⟨p, _, _, zWtY, [], 0, [], rfl, ((h2.weak (fun x hx hf => ⟨hf, fun e => ?_, by omega⟩)).on b24), r4, q4, fun e => ?_, by omega, (by show (ByteArray.mk #[]).size ≤ 140737488355328; decide), (by unfold okTr zWtY; decide), fun _ h => absurd h List.not_mem_nil, by omega, by omega, Nat.le_refl _, Nat.le_refl _, by omega, by omega⟩
    · rcases e with e | e | e
      · omega
      · cases e
      · cases e
    · rcases e with e | e | e
      · omega
      · cases e
      · cases e
  have HW3 : Hid (w2.alloc (.cells #[.slice none 0 0, .int .i64 0, .slice none 0 0] 29) = W3) := hW3.symm
  have HW4 : Hid (W3.alloc (.cells #[.string ⟨#[]⟩, .int .i64 0, .int .i64 0, .int .i64 0, .int .i64 0] 31) = W4) := hW4.symm
  have HB : Hid (W3.heap.size = B) := hB.symm
  have Hy : Hid (w2.heap.size = y) := hy.symm
  clear hN h2 b2 hy hW3 b3 q3 s3 hB hW4 b4 q4 b24
  go_upto_region 4 with fail
  rw [HW3.out, Hy.out]
  clear Hy HW3
  go_upto_region 6 with fail
  rw [HW4.out, HB.out]
  clear HB HW4
  --M0
  go_wp2_with fail
  --M1
  go_loopw [7, 9, 11] (fun v tv iv wr => ∃ (k : Nat) (t : Int), k ≤ y0 ∧ iv = .int .i64 k ∧ tv = .int .i64 t ∧ Hid (PlR w y B k v t wr)) (fun _ _ iv _ => y0 - (intOf iv).toNat)
  case atStart => exact ⟨0, 0, Nat.zero_le _, rfl, rfl, HI0⟩
  case round =>
    clear HI0
    obtain ⟨k, t, hk, rfl, rfl, HI⟩ := hrel
    by_cases hlt : k < y0
    · have hltz : (k : Int) < (y0 : Int) := by omega
      go_upto_block 1 with fail
      refine pround Hm H0 hlt HI (fun D off C c act t2 a' w' hx h => ?_)
      subst hx
      obtain ⟨p5, f2, hN, rfl⟩ := h
      have HN : Hid (PlR w y B (k + 1) (.pointer (some ⟨p5, 0, none⟩)) t2 w') := hN
      clear hN HI
      go_wp2_with fail
      go_roundw
      case rel => exact ⟨k + 1, t2, by omega, by go_num, rfl, HN⟩
      case measure => simp [intOf]; omega
    · as_aux_lemma =>
        have hkz : ¬ ((k : Int) < (y0 : Int)) := by omega
        obtain ⟨p5, a5, b5, lst5, L5, n5, Ws5, rfl, hq, hr, hl, hnB, hlB, hl1, hl2, hts, hn0, hn1, hLl, hWl, ht0, ht1⟩ := HI.out
        have HQ : Hid (QA (fun x => w.heap.size ≤ x ∧ ¬ QS y a5 b5 x ∧ x ≠ B) wr p5 L5 n5 Ws5) := hq
        have HR : Hid (RqE w wr y a5 b5 L5 n5 Ws5) := hr
        have HB : Hid (L5.length ≤ 1048576 ∧ Ws5.length ≤ 1048576) := by have := Hm.out; exact ⟨by omega, by omega⟩
        have HBl : Hid (Below w.heap.size w wr) := hr.below
        clear HI hq hr hl hnB hlB hl1 hl2 hts hn0 hn1 hLl hWl ht0 ht1
        obtain ⟨M, hM⟩ : ∃ M, M = sortB sLt sEq (nomP nd Ws5) := ⟨_, rfl⟩
        have HM : Hid (M = sortB sLt sEq (nomP nd Ws5) ∧ M.length ≤ 1048576) := ⟨hM, by rw [hM]; exact Nat.le_trans (noms_len _ _) HB.out.2⟩
        have hA := ynom_calls HQ.out (by have := HB.out; omega) nd
        rw [← hM] at hA
        clear hM
        go_wp2_with fail
        refine hA.mono ?_
        rintro e z5 ⟨v5, rfl, hr⟩
        clear hA HQ
        have HR5 : Hid (RqE w z5 y a5 b5 L5 n5 Ws5) := HR.out.on hr.below
        have HB5 : Hid (Below w.heap.size w z5) := on2 HBl.out hr.below
        obtain ⟨ta, tc, rfl, st⟩ := (hr.wAG RStr.firm (A' := Fresh wr) (fun _ h => h.elim)).slF (bytes := 16) RStr.firm (by have := HM.out.2; omega)
        have HS5 : Hid (SlAt RStr 1 16 (Fresh wr) z5 ta M.length tc M) := st
        clear hr st HR HBl
        have hB := rNominated_calls w y a5 b5 L5 n5 Ws5 nd z5 HR5.out (by have := HB.out; omega)
        rw [← who_nom, ← HM.out.1] at hB
        go_wp2_with fail
        refine hB.mono ?_
        rintro e z6 ⟨qa, qc, rfl, sq, qb⟩
        clear hB
        have HB6 : Hid (Below w.heap.size w z6) := on2 HB5.out qb
        have hC := SameTexts_calls ta M.length tc _ M qa M.length qc _ M z6 (HS5.out.on RStr.firm qb) sq
        rw [decide_eq_true (rfl : M = M)] at hC
        clear sq qb HS5 HR5 HB5 HM
        go_wp2_with fail
        refine hC.mono ?_
        rintro e z7 ⟨rfl, q7, hz7⟩
        have HB7 : Hid (Below w.heap.size w z7) := by rw [hz7]; exact on2 HB6.out (below_drewN (Below.refl _ _) _)
        clear hC hz7 HB6
        have hD := ydelay_calls tries Htr.out.2 z7
        go_wp2_with fail
        refine hD.mono ?_
        rintro e z8 ⟨rfl, hz8⟩
        obtain rfl := hz8.symm
        clear hD
        have hE := rDelay_calls tries z7
        rw [← add_dl] at hE
        go_wp2_with fail
        refine hE.mono ?_
        rintro e z9 ⟨rfl, hz9⟩
        obtain rfl := hz9.symm
        clear hE
        have hW := works14_calls z7
        go_wp2_with fail
        refine hW.mono ?_
        rintro e z4 ⟨rfl, b4⟩
        have HB4 : Hid (Below w.heap.size w z4) := on2 HB7.out b4
        clear hW b4 HB7
        go_wp2_with fail
        go_ret
        exact ⟨rfl, HB4.out⟩
end Go.Proofs.YtbmejaailhjgfaaGreat
