/- QueueKeeps' walk. Condition: the acts lie as is said of them, and are not too many. -/
import Derived.Test.YtpombhiffpbedaaW02
import Derived.Test.YtpombhiffpbedaaW01
import Derived.Test.YtpombhiffpbedaaW03
namespace Go.Proofs.Ytpombhiffpbedaa
open Go.RowKit Go.Maps
set_option linter.unusedSimpArgs false
set_option maxRecDepth 100000

set_option maxHeartbeats 64000000 in
theorem keeps14_walk (x0 : Option Addr) (y0 z0 : Nat) (L0 : List ActQ) (w : World) (h0 : SlAt RActQ 12 112 (fun _ => True) w x0 y0 z0 L0) (hl : L0.length ≤ 1048576) :
    Calls Try.prog 3 #[.slice x0 y0 z0] w fun e w' => e = .returned (.bool true) ∧ Below w.heap.size w w' := by
  have hW := works14_calls w
  have H0 : Hid (SlAt RActQ 12 112 (fun _ => True) w x0 y0 z0 L0) := h0
  have hy0 : y0 ≤ 1048576 := by have := h0.1; omega
  have Hm : Hid (y0 ≤ 1048576) := hy0
  clear h0 hl
  go_enter Try.func3, Try.ntmps3
  go_wp2_with fail
  refine hW.mono ?_
  rintro e w1 ⟨rfl, b1⟩
  have hN := ynew_calls w1
  have HB1 : Hid (Below w.heap.size w w1) := b1
  clear hW b1
  go_wp2_with fail
  refine hN.mono ?_
  rintro e w2 ⟨p, rfl, h2, b2⟩
  have b3 : Below w2.heap.size w2 (w2.alloc (.cells #[] 9)) := (Below.refl _ _).alloc (Nat.le_refl _) _
  have HI0 : Hid (KpR w p 0 (.slice (some ⟨w2.heap.size, 0, none⟩) 0 0) (w2.alloc (.cells #[] 9))) := ⟨[], 0, [], [], ((h2.weak (G := FK w (.slice (some ⟨w2.heap.size, 0, none⟩) 0 0)) (fun b hb (hf : w1.heap.size ≤ b) => ⟨Nat.le_trans HB1.out.size hf, fun e => by have e2 : w2.heap.size = b := (by injection e); omega⟩))).on b3, Row.start _ w w2 _ (on2 HB1.out b2), List.Perm.refl _, fun _ h => absurd h List.not_mem_nil, by omega, by omega, Nat.le_refl _⟩
  clear hN h2 b2 b3
  go_wp2_with fail
  --M1
  go_loopw [4, 5] (fun v iv wr => ∃ k : Nat, k ≤ y0 ∧ iv = .int .i64 k ∧ Hid (KpR w p k v wr)) (fun _ iv _ => y0 - (intOf iv).toNat)
  case atStart => exact ⟨0, Nat.zero_le _, rfl, HI0⟩
  case round =>
    clear HI0
    obtain ⟨k, hk, rfl, HI⟩ := hrel
    by_cases hlt : k < y0
    · have hltz : (k : Int) < (y0 : Int) := by omega
      obtain ⟨S, n, Ws, N, hq, hrow, hpm, hts, hn0, hn1, hSl⟩ := HI.out
      obtain ⟨B, off, rfl, hB, _, xs, hr, hv⟩ := H0.out.get hlt
      obtain ⟨rfl, hok⟩ := hr.all
      obtain ⟨B6, hB6⟩ : ∃ B6, B6 = wr.heap.size := ⟨_, rfl⟩
      have hvz : wr.rangeAt B (off + k * 12) (actC (L0.getD k default)) := fun j v hj => (hrow.below.cell (p := ⟨B, off + k * 12 + j, none⟩) hB).trans (hv j v hj)
      obtain ⟨⟨a0, a1, a2, a3, a4, ⟨s0, s1, s2, s3, s4⟩, a6, a7⟩, ha⟩ : ∃ a, a = L0.getD k default := ⟨_, rfl⟩
      rw [← ha] at hvz hok
      obtain ⟨W4, hW4⟩ : ∃ Z, Z = wr.alloc (.cells #[.int .i64 a0, .int .i64 a1, .int .i64 a2, .string a3, .string a4, .string s0, .int .i64 s1, .int .i64 s2, .int .i64 s3, .int .i64 s4, .bool a6, .bool a7] 30) := ⟨_, rfl⟩
      have b4 : Below wr.heap.size wr W4 := by rw [hW4]; exact (Below.refl _ _).alloc (Nat.le_refl _) _
      have q4 : BoxL W4 wr.heap.size (actC (a0, a1, a2, a3, a4, (s0, s1, s2, s3, s4), a6, a7)) := by rw [hW4]; exact BoxL.new wr 30 _
      rw [← hB6] at q4
      have HJ : Hid (KpJ w W4 p u4 B6 (a0, a1, a2, a3, a4, (s0, s1, s2, s3, s4), a6, a7) S n Ws N) := ⟨(hq.weak (fun b hb hf => ⟨hf, by omega⟩)).on b4, hrow.on RStr.firm b4, q4, by rw [hB6]; exact hrow.below.size⟩
      have HP : Hid (N.Perm (S.map enN)) := hpm
      have HNl : Hid (N.length ≤ k) := by have h1 := hpm.length_eq; rw [List.length_map] at h1; rw [Hid]; omega
      have Hts : Hid (okTs S) := hts
      have HOk : Hid (∀ e ∈ S, okE e) := hq.ok
      have Hn : Hid (0 ≤ n ∧ n ≤ (k : Int)) := ⟨hn0, hn1⟩
      have HSl : Hid (S.length ≤ k ∧ k < y0) := ⟨hSl, hlt⟩
      have Hok : Hid (okAct (a0, a1, a2, a3, a4, (s0, s1, s2, s3, s4), a6, a7)) := hok
      have HW4 : Hid (wr.alloc (.cells #[.int .i64 a0, .int .i64 a1, .int .i64 a2, .string a3, .string a4, .string s0, .int .i64 s1, .int .i64 s2, .int .i64 s3, .int .i64 s4, .bool a6, .bool a7] 30) = W4) := hW4.symm
      have HXA : Hid (wr.rangeAt B (off + k * 12) (actC (a0, a1, a2, a3, a4, (s0, s1, s2, s3, s4), a6, a7))) := hvz
      have HB6 : Hid (wr.heap.size = B6) := hB6.symm
      have d0 : W4.cell? ⟨B6, 0, none⟩ = some (.int .i64 a0) := (q4.2 0 _ rfl).1
      obtain ⟨c, hc⟩ : ∃ c, c = amongP a0 6 := ⟨_, rfl⟩
      have hc6 : c < 6 := by rw [hc]; exact among_lt a0 (by decide)
      have HAm : Hid (∀ z : World, Calls Try.prog 9 #[.int .i64 a0, .int .i64 6] z fun e z' => e = .returned (.int .i64 (c : Int)) ∧ z' = z) := fun z => by rw [hc]; exact Among_is a0 6 (by decide) (by decide) z
      clear HI hq hrow hpm hts hn0 hn1 hSl hr hv hB hok hvz ha hW4 b4 q4 hB6 hc
      go_upto_region 11 with (first | (refine wpList_load_mid rfl 30 _ rfl B (off + k * 12) rfl (actC (a0, a1, a2, a3, a4, (s0, s1, s2, s3, s4), a6, a7)) _ HXA.out Try.underlying30 rfl (by kernel_rfl) ?_) | fail)
      rw [HW4.out, HB6.out]
      clear HXA HW4 HB6
      --M2
      go_upto_block 2 with (go_at_call 9; refine (HAm.out _).mono ?_; rintro e w9 ⟨rfl, hw9⟩; obtain rfl := hw9.symm)
      --M3
      go_cut [4] (fun v wc => Hid (KpR w p (k + 1) v wc))
      case first =>
        clear d0 HAm
        have hc' : c = 0 ∨ c = 1 ∨ c = 2 ∨ c = 3 ∨ c = 4 ∨ c = 5 := by omega
        clear hc6
        rcases hc' with rfl | rfl | rfl | rfl | rfl | rfl
        · have hC := yadd_calls HJ.out.q (HJ.out.hF (Nat.le_refl _)) a3 Hok.out.1 a1 (by have := HSl.out; have := Hm.out; omega) ⟨Hn.out.1, by have := Hn.out.2; have := Hm.out; omega⟩
          have d3 : W4.cell? ⟨B6, 3, none⟩ = some (.string a3) := (HJ.out.box.2 3 _ rfl).1
          have d1 : W4.cell? ⟨B6, 1, none⟩ = some (.int .i64 a1) := (HJ.out.box.2 1 _ rfl).1
          obtain ⟨ag, hag⟩ : ∃ ag, ag = agY S a3 := ⟨_, rfl⟩
          rw [← hag] at hC
          clear hag
          go_wp2_with fail
          refine hC.mono ?_
          rintro e w5 ⟨rfl, h5, k5⟩
          clear hC d3 d1
          have HJ5 : Hid (KpJ w w5 p u4 B6 (a0, a1, a2, a3, a4, (s0, s1, s2, s3, s4), a6, a7) (addL S ag ((a3, a1, n, 0, 0), 1)) (addN n ag) Ws N) := HJ.out.call h5 k5
          clear h5 k5 HJ
          by_cases hz : ag = 0
          · subst hz
            have HJ : Hid (KpJ w w5 p u4 B6 (a0, a1, a2, a3, a4, (s0, s1, s2, s3, s4), a6, a7) (S ++ [((a3, a1, n, 0, 0), 1)]) (n + 1) Ws N) := by have := HJ5.out; rw [addL_0, show addN n 0 = n + 1 from if_pos rfl] at this; exact this
            clear HJ5
            obtain ⟨Ws2, hWs2⟩ : ∃ W, W = Ws := ⟨_, rfl⟩
            rw [← hWs2] at HJ
            clear hWs2
            have d3 : w5.cell? ⟨B6, 3, none⟩ = some (.string a3) := (HJ.out.box.2 3 _ rfl).1
            have q3 : BoxL (w5.alloc (.cells #[.string a3] 9)) w5.heap.size [.string a3] := BoxL.new w5 9 _
            have b3 : Below w5.heap.size w5 (w5.alloc (.cells #[.string a3] 9)) := (Below.refl _ _).alloc (Nat.le_refl _) _
            have HR3 : Hid (Row RStr 1 (fun _ => False) w (w5.alloc (.cells #[.string a3] 9)) 9 u4 N) := (HJ.out.row).on RStr.firm b3
            have HJ3 : Hid (KpJ w (w5.alloc (.cells #[.string a3] 9)) p u4 B6 (a0, a1, a2, a3, a4, (s0, s1, s2, s3, s4), a6, a7) (S ++ [((a3, a1, n, 0, 0), 1)]) (n + 1) Ws2 N) := HJ.out.on b3
            have HSr : Hid (Src RStr 1 (fun b => False ∧ Value.ownBlock u4 ≠ some b) (w5.alloc (.cells #[.string a3] 9)) (some ⟨w5.heap.size, 0, none⟩) 1 [a3]) := src_boxG RStr.firm q3 ⟨rfl, Hok.out.1⟩
            have HLb : Hid ((N.length + [a3].length) * 16 ≤ 140737488355328) := by have h1 := HNl.out; have h2 := Hm.out; rw [Hid, List.length_singleton]; omega
            clear b3 q3
            go_wp2_with (at_builtin; go_must (refine row_appendP RStr.firm (A := (fun _ => False)) (w0 := w) rfl _ _ 26 9 rfl _ 16 infoTxY Try.underlying26 rfl (by decide) (by decide) u4 N rfl HR3.out (some ⟨w5.heap.size, 0, none⟩) 1 1 [a3] rfl HSr.out HLb.out ?_); intro v8 w8 hrow8 hg8 hw8)
            have HEnd : Hid (KpR w p (k + 1) v8 w8) := HJ3.out.app hrow8 hg8 hw8 (by rw [names_snoc]; exact HP.out.append_right _) (Hts.out.snoc ⟨by simp only; omega, by simp only; omega⟩) (by have := Hn.out; omega) (by have := Hn.out; omega) (by rw [List.length_append, List.length_singleton]; have := HSl.out; omega)
            clear hrow8 hg8 hw8 HR3 HSr HLb HJ3 HJ
            go_meet
            exact HEnd
          · have HEnd : Hid (KpR w p (k + 1) u4 w5) := by have h1 := HJ5.out; rw [addL_no _ _ hz, show addN n ag = n from if_neg hz] at h1; exact h1.done HP.out Hts.out (by have := Hn.out; omega) (by have := Hn.out; omega) (by have := HSl.out; omega)
            clear HJ5
            go_wp2_with fail
            go_meet
            exact HEnd
        · have hC := yadd_calls HJ.out.q (HJ.out.hF (Nat.le_refl _)) a3 Hok.out.1 a1 (by have := HSl.out; have := Hm.out; omega) ⟨Hn.out.1, by have := Hn.out.2; have := Hm.out; omega⟩
          have d3 : W4.cell? ⟨B6, 3, none⟩ = some (.string a3) := (HJ.out.box.2 3 _ rfl).1
          have d1 : W4.cell? ⟨B6, 1, none⟩ = some (.int .i64 a1) := (HJ.out.box.2 1 _ rfl).1
          obtain ⟨ag, hag⟩ : ∃ ag, ag = agY S a3 := ⟨_, rfl⟩
          rw [← hag] at hC
          clear hag
          go_wp2_with fail
          refine hC.mono ?_
          rintro e w5 ⟨rfl, h5, k5⟩
          clear hC d3 d1
          have HJ5 : Hid (KpJ w w5 p u4 B6 (a0, a1, a2, a3, a4, (s0, s1, s2, s3, s4), a6, a7) (addL S ag ((a3, a1, n, 0, 0), 1)) (addN n ag) Ws N) := HJ.out.call h5 k5
          clear h5 k5 HJ
          by_cases hz : ag = 0
          · subst hz
            have HJ : Hid (KpJ w w5 p u4 B6 (a0, a1, a2, a3, a4, (s0, s1, s2, s3, s4), a6, a7) (S ++ [((a3, a1, n, 0, 0), 1)]) (n + 1) Ws N) := by have := HJ5.out; rw [addL_0, show addN n 0 = n + 1 from if_pos rfl] at this; exact this
            clear HJ5
            obtain ⟨Ws2, hWs2⟩ : ∃ W, W = Ws := ⟨_, rfl⟩
            rw [← hWs2] at HJ
            clear hWs2
            have d3 : w5.cell? ⟨B6, 3, none⟩ = some (.string a3) := (HJ.out.box.2 3 _ rfl).1
            have q3 : BoxL (w5.alloc (.cells #[.string a3] 9)) w5.heap.size [.string a3] := BoxL.new w5 9 _
            have b3 : Below w5.heap.size w5 (w5.alloc (.cells #[.string a3] 9)) := (Below.refl _ _).alloc (Nat.le_refl _) _
            have HR3 : Hid (Row RStr 1 (fun _ => False) w (w5.alloc (.cells #[.string a3] 9)) 9 u4 N) := (HJ.out.row).on RStr.firm b3
            have HJ3 : Hid (KpJ w (w5.alloc (.cells #[.string a3] 9)) p u4 B6 (a0, a1, a2, a3, a4, (s0, s1, s2, s3, s4), a6, a7) (S ++ [((a3, a1, n, 0, 0), 1)]) (n + 1) Ws2 N) := HJ.out.on b3
            have HSr : Hid (Src RStr 1 (fun b => False ∧ Value.ownBlock u4 ≠ some b) (w5.alloc (.cells #[.string a3] 9)) (some ⟨w5.heap.size, 0, none⟩) 1 [a3]) := src_boxG RStr.firm q3 ⟨rfl, Hok.out.1⟩
            have HLb : Hid ((N.length + [a3].length) * 16 ≤ 140737488355328) := by have h1 := HNl.out; have h2 := Hm.out; rw [Hid, List.length_singleton]; omega
            clear b3 q3
            go_wp2_with (at_builtin; go_must (refine row_appendP RStr.firm (A := (fun _ => False)) (w0 := w) rfl _ _ 26 9 rfl _ 16 infoTxY Try.underlying26 rfl (by decide) (by decide) u4 N rfl HR3.out (some ⟨w5.heap.size, 0, none⟩) 1 1 [a3] rfl HSr.out HLb.out ?_); intro v8 w8 hrow8 hg8 hw8)
            have HEnd : Hid (KpR w p (k + 1) v8 w8) := HJ3.out.app hrow8 hg8 hw8 (by rw [names_snoc]; exact HP.out.append_right _) (Hts.out.snoc ⟨by simp only; omega, by simp only; omega⟩) (by have := Hn.out; omega) (by have := Hn.out; omega) (by rw [List.length_append, List.length_singleton]; have := HSl.out; omega)
            clear hrow8 hg8 hw8 HR3 HSr HLb HJ3 HJ
            go_meet
            exact HEnd
          · have HEnd : Hid (KpR w p (k + 1) u4 w5) := by have h1 := HJ5.out; rw [addL_no _ _ hz, show addN n ag = n from if_neg hz] at h1; exact h1.done HP.out Hts.out (by have := Hn.out; omega) (by have := Hn.out; omega) (by have := HSl.out; omega)
            clear HJ5
            go_wp2_with fail
            go_meet
            exact HEnd
        · have hC := ypop_calls HJ.out.q (HJ.out.hF (Nat.le_refl _)) (by have := HSl.out; have := Hm.out; omega) (fun e he => (Hts.out e he).1)
          go_wp2_with fail
          refine hC.mono ?_
          rintro e w5 ⟨x, er, S2, rfl, hpo, h5, k5⟩
          clear hC
          have HJ5 : Hid (KpJ w w5 p u4 B6 (a0, a1, a2, a3, a4, (s0, s1, s2, s3, s4), a6, a7) S2 n Ws N) := HJ.out.call h5 k5
          clear h5 k5 HJ
          obtain ⟨x0, x1, x2, x3, x4⟩ := x
          obtain ⟨W6, hW6⟩ : ∃ Z, Z = w5.alloc (.cells #[.string x0, .int .i64 x1, .int .i64 x2, .int .i64 x3, .int .i64 x4] 28) := ⟨_, rfl⟩
          have b6 : Below w5.heap.size w5 W6 := by rw [hW6]; exact (Below.refl _ _).alloc (Nat.le_refl _) _
          have c6 : W6.cell? ⟨w5.heap.size, 0, none⟩ = some (.string x0) := by rw [hW6]; exact ((BoxL.new w5 28 [.string x0, .int .i64 x1, .int .i64 x2, .int .i64 x3, .int .i64 x4]).2 0 _ rfl).1
          have HJ : Hid (KpJ w W6 p u4 B6 (a0, a1, a2, a3, a4, (s0, s1, s2, s3, s4), a6, a7) S2 n Ws N) := HJ5.out.on b6
          have HW6 : Hid (w5.alloc (.cells #[.string x0, .int .i64 x1, .int .i64 x2, .int .i64 x3, .int .i64 x4] 28) = W6) := hW6.symm
          clear hW6 b6 HJ5
          go_upto_region 18 with fail
          rw [HW6.out]
          clear HW6
          rcases hpo with ⟨_, _, rfl, rfl⟩ | ⟨e, he, hq1, hq2, hx, rfl, rfl⟩
          · have HEnd : Hid (KpR w p (k + 1) u4 W6) := HJ.out.done HP.out Hts.out (by have := Hn.out; omega) (by have := Hn.out; omega) (by have := HSl.out; omega)
            clear HJ
            go_wp2_with fail
            go_meet
            exact HEnd
          · have hx0 : x0 = e.1.1 := by have h1 := congrArg Prod.fst hx; simp only at h1; rw [h1]; unfold moreY; split <;> rfl
            have HX0 : Hid (okS x0 ∧ x0 = e.1.1) := ⟨by rw [hx0]; exact (HOk.out e he).1, hx0⟩
            have HSo : Hid (othG enN e.1.1 S = othG enN x0 S) := by rw [hx0]; rfl
            obtain ⟨S3, hS3⟩ : ∃ S3, S3 = othG enN e.1.1 S := ⟨_, rfl⟩
            rw [← hS3] at HJ HSo
            clear hx hx0 hS3 hq1 hq2 he
            obtain ⟨va, vc, hv4, sv⟩ := ((HJ.out.row).wAG RStr.firm (A' := Fresh w) (fun _ h => h.elim)).slF (bytes := 16) RStr.firm (by have h1 := HNl.out; have h2 := Hm.out; omega)
            have hL := less_calls va N.length vc _ N x0 W6 sv (by have h1 := HNl.out; have h2 := Hm.out; omega)
            rw [← hv4] at hL
            clear hv4 sv
            go_wp2_with fail
            refine hL.mono ?_
            rintro e w8 ⟨v8, rfl, hr8⟩
            have HEnd : Hid (KpR w p (k + 1) v8 w8) := HJ.out.anew hr8 (by rw [HSo.out, names_oth]; exact lss_perm HP.out x0) (by rw [HSo.out]; exact Hts.out.oth x0) (by have := Hn.out; omega) (by have := Hn.out; omega) (by rw [HSo.out]; have := HSl.out; have := len_oth S x0; omega)
            clear hL hr8 HJ
            go_wp2_with fail
            go_meet
            exact HEnd
        · obtain ⟨t, ht⟩ : ∃ t : Int, t = (amongP a2 9 : Int) := ⟨_, rfl⟩
          have hA := fun z => Among_is a2 9 (by decide) (by decide) z
          rw [← ht] at hA
          have HA : Hid (∀ z : World, Calls Try.prog 9 #[.int .i64 a2, .int .i64 9] z fun e u' => e = .returned (.int .i64 t) ∧ u' = z) := hA
          clear hA ht
          have HC : Hid (∀ z, Kept (fun b => b = B6) W4 z → (z.cell? ⟨B6, 2, none⟩ = some (.int .i64 a2) ∧ z.cell? ⟨B6, 10, none⟩ = some (.bool a6)) ∧ z.rangeAt B6 5 (wtC (s0, s1, s2, s3, s4))) := fun z hz => by
            have q := HJ.out.box.kept hz rfl
            refine ⟨⟨(q.2 2 _ rfl).1, (q.2 10 _ rfl).1⟩, fun j v hj => ?_⟩
            have hj5 : j < 5 := (List.getElem?_eq_some_iff.1 hj).1
            have h9 : (actC (a0, a1, a2, a3, a4, (s0, s1, s2, s3, s4), a6, a7))[5 + j]? = some v := by
              rcases (show j = 0 ∨ j = 1 ∨ j = 2 ∨ j = 3 ∨ j = 4 by omega) with rfl | rfl | rfl | rfl | rfl <;> exact hj
            exact (q.2 (5 + j) v h9).1
          go_upto_region 21 with fail
          have hb0 : Below W4.heap.size W4 W4.drew := (Below.refl _ _).drew
          refine t0 (fun z => Kept (fun b => b = B6) W4 z) (Kept.below hb0) (fun hHeld => ?_)
          have Hd : Hid (KpJ w W4.drew p u4 B6 (a0, a1, a2, a3, a4, (s0, s1, s2, s3, s4), a6, a7) S n Ws N) := HJ.out.on hb0
          generalize hwd : W4.drew = wd at hHeld Hd ⊢
          clear hwd hb0
          try go_frame
          refine' tk 0 ?_ ?_; rotate_left
          · intro z hz; obtain ⟨⟨f2, f10⟩, f5⟩ := HC.out z hz; clear hz; go_simp; try with_reducible rfl
          try go_frame
          refine' tk 1 ?_ ?_; rotate_left
          · intro z hz; obtain ⟨⟨f2, f10⟩, f5⟩ := HC.out z hz; clear hz; go_simp; try with_reducible rfl
          try go_frame
          refine tq 2 (.agg (wtC (s0, s1, s2, s3, s4)).toArray) (yieldsIf_load_mid (by rfl) 28 _ rfl B6 5 (by go_simp) (wtC (s0, s1, s2, s3, s4)) _ (fun z hz => (HC.out z hz).2) Try.underlying28 rfl (by kernel_rfl)) ?_ (hi := rfl)
          try go_frame
          refine' tk 3 ?_ ?_; rotate_left
          · intro z hz; obtain ⟨⟨f2, f10⟩, f5⟩ := HC.out z hz; clear hz; go_simp; try with_reducible rfl
          try go_frame
          refine' tk 4 ?_ ?_; rotate_left
          · intro z hz; obtain ⟨⟨f2, f10⟩, f5⟩ := HC.out z hz; clear hz; go_simp; try with_reducible rfl
          try go_frame
          refine' tk 6 ?_ ?_; rotate_left
          · intro z hz; obtain ⟨⟨f2, f10⟩, f5⟩ := HC.out z hz; clear hz; go_simp; try with_reducible rfl
          try go_frame
          refine' tk 7 ?_ ?_; rotate_left
          · intro z hz; obtain ⟨⟨f2, f10⟩, f5⟩ := HC.out z hz; clear hz; go_simp; try with_reducible rfl
          try go_frame
          refine tr 5 (fun K hK => ?_)
          have hA := HA.out wd
          go_simp
          refine hA.mono ?_
          rintro e z5 ⟨rfl, hz5⟩
          obtain rfl := hz5.symm
          clear hA
          go_wp2_with fail
          refine hK.out _ _ hHeld (fun hHeld2 => ?_)
          clear hK K hHeld; have hHeld := hHeld2; clear hHeld2
          try go_frame
          obtain ⟨bk, hbk⟩ : ∃ bk, bk = bkY S s0 t := ⟨_, rfl⟩
          have hB := yback_calls Hd.out.q (Hd.out.hF (Nat.le_refl _)) (s0, s1, s2, s3, s4) Hok.out.2.2.1 Hok.out.2.2.2.2 t a6 (by have := HSl.out; have := Hm.out; omega)
          rw [← hbk] at hB
          clear hbk
          refine tr 8 (fun K hK => ?_)
          go_simp
          refine hB.mono ?_
          rintro e w5 ⟨rfl, h5, k5⟩
          clear hB
          have HJ5 : Hid (KpJ w w5 p u4 B6 (a0, a1, a2, a3, a4, (s0, s1, s2, s3, s4), a6, a7) (addL S bk (backE (s0, s1, s2, s3, s4) t a6)) n Ws N) := Hd.out.call h5 k5
          have k5b : Kept (fun b => b = B6) W4 w5 := hHeld.trans ⟨k5.size, fun b hb hl => k5.block b hl (fun hf => hf.2 hb)⟩
          clear h5 k5 Hd HJ HC
          go_wp2_with fail
          refine hK.out _ _ k5b (fun hHeld2 => ?_)
          clear hK K hHeld; have hHeld := hHeld2; clear hHeld2
          try go_frame
          refine' tk 9 ?_ ?_; rotate_left
          · intro z hz; clear hz; go_simp; try with_reducible rfl
          try go_frame
          refine tz ?_
          clear hHeld k5b
          by_cases hz : bk = 0
          · subst hz
            have HJ : Hid (KpJ w w5 p u4 B6 (a0, a1, a2, a3, a4, (s0, s1, s2, s3, s4), a6, a7) (S ++ [backE (s0, s1, s2, s3, s4) t a6]) n Ws N) := by have := HJ5.out; rw [addL_0] at this; exact this
            clear HJ5
            obtain ⟨Ws2, hWs2⟩ : ∃ W, W = Ws := ⟨_, rfl⟩
            rw [← hWs2] at HJ
            clear hWs2
            have d5 : w5.cell? ⟨B6, 5, none⟩ = some (.string s0) := (HJ.out.box.2 5 _ rfl).1
            have q3 : BoxL (w5.alloc (.cells #[.string s0] 9)) w5.heap.size [.string s0] := BoxL.new w5 9 _
            have b3 : Below w5.heap.size w5 (w5.alloc (.cells #[.string s0] 9)) := (Below.refl _ _).alloc (Nat.le_refl _) _
            have HR3 : Hid (Row RStr 1 (fun _ => False) w (w5.alloc (.cells #[.string s0] 9)) 9 u4 N) := (HJ.out.row).on RStr.firm b3
            have HJ3 : Hid (KpJ w (w5.alloc (.cells #[.string s0] 9)) p u4 B6 (a0, a1, a2, a3, a4, (s0, s1, s2, s3, s4), a6, a7) (S ++ [backE (s0, s1, s2, s3, s4) t a6]) n Ws2 N) := HJ.out.on b3
            have HSr : Hid (Src RStr 1 (fun b => False ∧ Value.ownBlock u4 ≠ some b) (w5.alloc (.cells #[.string s0] 9)) (some ⟨w5.heap.size, 0, none⟩) 1 [s0]) := src_boxG RStr.firm q3 ⟨rfl, Hok.out.2.2.1⟩
            have HLb : Hid ((N.length + [s0].length) * 16 ≤ 140737488355328) := by have h1 := HNl.out; have h2 := Hm.out; rw [Hid, List.length_singleton]; omega
            clear b3 q3
            go_wp2_with (at_builtin; go_must (refine row_appendP RStr.firm (A := (fun _ => False)) (w0 := w) rfl _ _ 26 9 rfl _ 16 infoTxY Try.underlying26 rfl (by decide) (by decide) u4 N rfl HR3.out (some ⟨w5.heap.size, 0, none⟩) 1 1 [s0] rfl HSr.out HLb.out ?_); intro v8 w8 hrow8 hg8 hw8)
            have HEnd : Hid (KpR w p (k + 1) v8 w8) := HJ3.out.app hrow8 hg8 hw8 (by rw [names_snoc]; exact HP.out.append_right _) (Hts.out.snoc Hok.out.2.2.2) (by have := Hn.out; omega) (by have := Hn.out; omega) (by rw [List.length_append, List.length_singleton]; have := HSl.out; omega)
            clear hrow8 hg8 hw8 HR3 HSr HLb HJ3 HJ
            go_meet
            exact HEnd
          · have HEnd : Hid (KpR w p (k + 1) u4 w5) := by have h1 := HJ5.out; rw [addL_no _ _ hz] at h1; exact h1.done HP.out Hts.out (by have := Hn.out; omega) (by have := Hn.out; omega) (by have := HSl.out; omega)
            clear HJ5
            go_wp2_with fail
            go_meet
            exact HEnd
        · obtain ⟨t, ht⟩ : ∃ t : Int, t = (amongP a2 20 : Int) := ⟨_, rfl⟩
          have hA := fun z => Among_is a2 20 (by decide) (by decide) z
          rw [← ht] at hA
          have HA : Hid (∀ z : World, Calls Try.prog 9 #[.int .i64 a2, .int .i64 20] z fun e u' => e = .returned (.int .i64 t) ∧ u' = z) := hA
          clear hA ht
          have d2 : W4.cell? ⟨B6, 2, none⟩ = some (.int .i64 a2) := (HJ.out.box.2 2 _ rfl).1
          have hA := HA.out W4
          go_wp2_with fail
          refine hA.mono ?_
          rintro e w5 ⟨rfl, hw5⟩
          obtain rfl := hw5.symm
          clear hA
          have hC := ymove_calls HJ.out.q (HJ.out.hF (Nat.le_refl _)) t (by have := HSl.out; have := Hm.out; omega)
          generalize mvN S t = mn at hC
          generalize nowE t = me at hC
          go_wp2_with fail
          refine hC.mono ?_
          rintro e w6 ⟨rfl, h6, k6⟩
          clear hC d2
          have HJ6 : Hid (KpJ w w6 p u4 B6 (a0, a1, a2, a3, a4, (s0, s1, s2, s3, s4), a6, a7) (mvL S t) n Ws N) := HJ.out.call h6 k6
          clear h6 k6 HJ
          have d2 : w6.cell? ⟨B6, 2, none⟩ = some (.int .i64 a2) := (HJ6.out.box.2 2 _ rfl).1
          have hA := HA.out w6
          go_wp2_with fail
          refine hA.mono ?_
          rintro e w7 ⟨rfl, hw7⟩
          obtain rfl := hw7.symm
          clear hA HA
          have hC := ytick_calls HJ6.out.q (HJ6.out.hF (Nat.le_refl _)) t (by rw [len_mv]; have := HSl.out; have := Hm.out; omega)
          generalize tkN (mvL S t) t = tn at hC
          generalize nowE t = te at hC
          go_wp2_with fail
          refine hC.mono ?_
          rintro e w8 ⟨rfl, h8, k8⟩
          clear hC d2
          have HEnd : Hid (KpR w p (k + 1) u4 w8) := (HJ6.out.call h8 k8).done (by rw [names_tk, names_mv]; exact HP.out) ((Hts.out.mv t).tk t) (by have := Hn.out; omega) (by have := Hn.out; omega) (by rw [len_tk, len_mv]; have := HSl.out; omega)
          clear HJ6 h8 k8
          go_wp2_with fail
          go_meet
          exact HEnd
        · have hC := ydrop_calls HJ.out.q (HJ.out.hF (Nat.le_refl _)) a3 Hok.out.1 (by have := HSl.out; have := Hm.out; omega)
          have d3 : W4.cell? ⟨B6, 3, none⟩ = some (.string a3) := (HJ.out.box.2 3 _ rfl).1
          have HD : Hid (drE S a3 = 0 ∨ othG enN a3 S = S) := by rw [Hid]; unfold drE; cases h : fndG enN S a3 with | none => exact .inr (othG_none h) | some x => exact .inl rfl
          obtain ⟨dr, hdr⟩ : ∃ dr, dr = drE S a3 := ⟨_, rfl⟩
          obtain ⟨Ws2, hWs2⟩ : ∃ W, W = drW S a3 Ws := ⟨_, rfl⟩
          obtain ⟨S3, hS3⟩ : ∃ S3, S3 = othG enN a3 S := ⟨_, rfl⟩
          rw [← hdr, ← hWs2, ← hS3] at hC
          rw [← hdr, ← hS3] at HD
          have HS3 : Hid (S3 = othG enN a3 S) := hS3
          clear hdr hWs2 hS3
          go_wp2_with fail
          refine hC.mono ?_
          rintro e w5 ⟨rfl, h5, k5⟩
          clear hC d3
          have HJ5 : Hid (KpJ w w5 p u4 B6 (a0, a1, a2, a3, a4, (s0, s1, s2, s3, s4), a6, a7) S3 n Ws2 N) := HJ.out.call h5 k5
          clear h5 k5 HJ
          by_cases hz : dr = 0
          · subst hz
            have HJ : Hid (KpJ w w5 p u4 B6 (a0, a1, a2, a3, a4, (s0, s1, s2, s3, s4), a6, a7) S3 n Ws2 N) := HJ5.out
            have d3 : w5.cell? ⟨B6, 3, none⟩ = some (.string a3) := (HJ.out.box.2 3 _ rfl).1
            obtain ⟨va, vc, hv4, sv⟩ := ((HJ.out.row).wAG RStr.firm (A' := Fresh w) (fun _ h => h.elim)).slF (bytes := 16) RStr.firm (by have h1 := HNl.out; have h2 := Hm.out; omega)
            have hL := less_calls va N.length vc _ N a3 w5 sv (by have h1 := HNl.out; have h2 := Hm.out; omega)
            rw [← hv4] at hL
            clear hv4 sv
            go_wp2_with fail
            refine hL.mono ?_
            rintro e w8 ⟨v8, rfl, hr8⟩
            have HEnd : Hid (KpR w p (k + 1) v8 w8) := HJ.out.anew hr8 (by rw [HS3.out, names_oth]; exact lss_perm HP.out a3) (by rw [HS3.out]; exact Hts.out.oth a3) (by have := Hn.out; omega) (by have := Hn.out; omega) (by rw [HS3.out]; have := HSl.out; have := len_oth S a3; omega)
            clear hL hr8 HJ
            go_wp2_with fail
            go_meet
            exact HEnd
          · have HE : Hid (S3 = S) := HD.out.resolve_left hz
            have HEnd : Hid (KpR w p (k + 1) u4 w5) := HJ5.out.done (by rw [HE.out]; exact HP.out) (by rw [HE.out]; exact Hts.out) (by have := Hn.out; omega) (by have := Hn.out; omega) (by rw [HE.out]; have := HSl.out; omega)
            clear HJ5
            go_wp2_with fail
            go_meet
            exact HEnd
      case rest =>
        have HR := hcut.out
        clear hcut hc6 d0 HAm HJ HP HNl Hts HOk Hn HSl Hok
        obtain ⟨S, n, Ws, N, hq, hrow, hpm, hts, hn0, hn1, hSl⟩ := HR
        have HR : Hid (KpR w p (k + 1) u4 wc) := ⟨S, n, Ws, N, hq, hrow, hpm, hts, hn0, hn1, hSl⟩
        have HQ : Hid (QA (FK w u4) wc p S n Ws) := hq
        have HRow : Hid (Row RStr 1 (fun _ => False) w wc 9 u4 N) := hrow
        have HPm : Hid (N.Perm (S.map enN)) := hpm
        have HSl : Hid (S.length ≤ 1048577) := by have h1 := Hm.out; rw [Hid]; omega
        have HA0 : Hid (Row RStr 1 (fun _ => False) wc (wc.alloc (.cells #[] 9)) 9 (.slice (some ⟨wc.heap.size, 0, none⟩) 0 0) [] ∧ ([] : List ByteArray).Perm (uptoP S ((1 : Nat) : Int))) := ⟨Row.start _ wc wc _ (Below.refl _ _), by rw [show ((1 : Nat) : Int) = 1 from rfl, upto_one hq.ok]⟩
        clear hq hrow hpm hts hn0 hn1 hSl
        go_wp2_with fail
        --M5
        go_loopw [9, 10] (fun v iv z => ∃ P : Nat, 1 ≤ P ∧ P ≤ 4 ∧ iv = .int .i64 P ∧ ∃ M, Hid (Row RStr 1 (fun _ => False) wc z 9 v M ∧ M.Perm (uptoP S (P : Int)))) (fun _ iv _ => 4 - (intOf iv).toNat)
        case atStart => exact ⟨1, Nat.le_refl _, by omega, rfl, [], HA0⟩
        case round =>
          clear HA0
          obtain ⟨P, hP1, hP4, rfl, M, HM⟩ := hrel
          have HMl : Hid (M.length ≤ 1048577) := by have h1 := HM.out.2.length_eq; have h2 : (uptoP S (P : Int)).length ≤ S.length := by unfold uptoP; rw [List.length_map]; exact List.length_filter_le _ _
                                                    have h3 := HSl.out; rw [Hid]; omega
          by_cases hP3 : P ≤ 3
          · have hPz : (P : Int) ≤ 3 := by omega
            have hC := yall_calls (HQ.out.on HM.out.1.below) (by have := HSl.out; omega) (P : Int)
            go_wp2_with fail
            refine hC.mono ?_
            rintro e z2 ⟨lv, l, rfl, hlr, hla⟩
            clear hC
            obtain ⟨la, ln, lc, rfl⟩ := hlr.headG
            have hln : l.length = ln := by
              obtain ⟨xs, ⟨_, _, ⟨e1, h0⟩ | ⟨g', cap', cur, e1, _⟩⟩, _⟩ := hlr
              · simp only [Value.slice.injEq] at e1; omega
              · simp only [Value.slice.injEq] at e1; omega
            subst hln
            have hll : l.length ≤ 1048577 := by have h1 := hla.1.length_eq; have h2 := gat_len (P : Int) (fun _ => true) S; have h3 := HSl.out; omega
            have HG : Hid (∀ j, j < l.length → ∃ g c, Value.slice la l.length lc = .slice (some ⟨g, 0, none⟩) l.length c ∧ g < z2.heap.size ∧ okS (l.getD j default).1 ∧ ∀ z : World, z.heap[g]? = z2.heap[g]? → z.rangeAt g (j * 5) (wtC (l.getD j default))) := fun j hj => by
              obtain ⟨g, c, cs, e, hg, hr, hc⟩ := hlr.getG RWt.firm hj
              obtain ⟨rfl, h2⟩ : cs = wtC _ ∧ _ := hr
              refine ⟨g, c, e, hg, h2, fun z hz i v hi => ?_⟩
              have h3 := hc i v hi
              simp only [World.cell?, hz] at h3 ⊢
              exact h3
            have hM2 := HM.out.1.on RStr.firm hlr.below
            have HMe : Hid ((M ++ l.map Prod.fst).Perm (uptoP S ((P + 1 : Nat) : Int))) := by have h1 := upto_step S (P : Int) hla.1 HM.out.2; rw [Hid]; exact h1
            obtain ⟨m, hm⟩ : ∃ m, m = l.length := ⟨_, rfl⟩
            have hlo : ∀ b, (Value.slice la l.length lc).ownBlock = some b → wr.heap.size ≤ b ∧ b < z2.heap.size := fun b hb => hlr.lt hb
            rw [← hm] at HG hlo ⊢
            have HJ0 : Hid (Row RStr 1 (fun _ => False) wc z2 9 u9 (M ++ (l.take 0).map Prod.fst) ∧ (∀ b, (Value.slice la m lc).ownBlock = some b → u9.ownBlock ≠ some b) ∧ z2.heap.size ≤ z2.heap.size) := ⟨by simpa using hM2, fun b hb e => by have h1 := (hlo b hb).1; have h2 := (HM.out.1.lt e).2; omega, Nat.le_refl _⟩
            have Hmm : Hid (m = l.length ∧ m ≤ 1048577) := ⟨hm, by omega⟩
            have HLo : Hid (∀ b, (Value.slice la m lc).ownBlock = some b → b < z2.heap.size) := fun b hb => (hlo b hb).2
            have hml : m < 1000000000000000 := by omega
            have HPP : Hid (P ≤ 3) := hP3
            clear hlr hla hll hM2 hm hlo HM hPz hP3
            go_wp2_with fail
            --M6
            go_loopw [9, 12] (fun v iv z => ∃ j : Nat, j ≤ m ∧ iv = .int .i64 j ∧ Hid (Row RStr 1 (fun _ => False) wc z 9 v (M ++ (l.take j).map Prod.fst) ∧ (∀ b, (Value.slice la m lc).ownBlock = some b → v.ownBlock ≠ some b ∧ z.heap[b]? = z2.heap[b]?) ∧ z2.heap.size ≤ z.heap.size)) (fun _ iv _ => m - (intOf iv).toNat)
            case atStart => exact ⟨0, Nat.zero_le _, rfl, HJ0.out.1, fun b hb => ⟨HJ0.out.2.1 b hb, rfl⟩, Nat.le_refl _⟩
            case round =>
              clear HJ0
              obtain ⟨j, hj, rfl, HJ⟩ := hrel
              by_cases hjm : j < m
              · have hjz : (j : Int) < (m : Int) := by omega
                obtain ⟨g, c, ev, hg, hok, hr⟩ := HG.out j hjm
                obtain ⟨rfl, rfl⟩ : la = some ⟨g, 0, none⟩ ∧ lc = c := by simp only [Value.slice.injEq] at ev; exact ⟨ev.1, ev.2.2⟩
                have hjl : j < l.length := by rw [← Hmm.out.1]; exact hjm
                have d0 := hr wr (HJ.out.2.1 g rfl).2 0 _ rfl
                rw [Nat.add_zero] at d0
                have HT : Hid (M ++ (l.take (j + 1)).map Prod.fst = M ++ (l.take j).map Prod.fst ++ [(l.getD j default).1]) := by
                  rw [Hid, List.take_succ_eq_append_getElem hjl, List.map_append, List.append_assoc, List.getD_eq_getElem?_getD, List.getElem?_eq_getElem hjl]
                  rfl
                have HLb0 : Hid ((M ++ (l.take j).map Prod.fst).length ≤ 2097154) := by rw [Hid, List.length_append, List.length_map, List.length_take]; have h1 := HMl.out; have h2 := Hmm.out.2; omega
                generalize (l.getD j default).1 = x at d0 HT hok
                obtain ⟨N2, hN2⟩ : ∃ N2, N2 = M ++ (l.take j).map Prod.fst := ⟨_, rfl⟩
                rw [← hN2] at HT HLb0 HJ
                have b3 : Below wr.heap.size wr (wr.alloc (.cells #[.string x] 9)) := (Below.refl _ _).alloc (Nat.le_refl _) _
                have q3 : BoxL (wr.alloc (.cells #[.string x] 9)) wr.heap.size [.string x] := BoxL.new wr 9 _
                have HR3 : Hid (Row RStr 1 (fun _ => False) wc (wr.alloc (.cells #[.string x] 9)) 9 u9 N2) := HJ.out.1.on RStr.firm b3
                have HSr : Hid (Src RStr 1 (fun b => False ∧ Value.ownBlock u9 ≠ some b) (wr.alloc (.cells #[.string x] 9)) (some ⟨wr.heap.size, 0, none⟩) 1 [x]) := src_boxG RStr.firm q3 ⟨rfl, hok⟩
                have HLb : Hid ((N2.length + [x].length) * 16 ≤ 140737488355328) := by have h1 := HLb0.out; rw [Hid, List.length_singleton]; omega
                have HB3 : Hid (Below wr.heap.size wr (wr.alloc (.cells #[.string x] 9))) := b3
                clear hN2 b3 q3 hr ev hok hjl
                go_wp2_with (at_builtin; go_must (refine row_appendP RStr.firm (A := (fun _ => False)) (w0 := wc) rfl _ _ 26 9 rfl _ 16 infoTxY Try.underlying26 rfl (by decide) (by decide) u9 N2 rfl HR3.out (some ⟨wr.heap.size, 0, none⟩) 1 1 [x] rfl HSr.out HLb.out ?_); intro v8 w8 hrow8 hg8 hw8)
                have HN : Hid (Row RStr 1 (fun _ => False) wc w8 9 v8 (M ++ (l.take (j + 1)).map Prod.fst) ∧ (∀ b, (Value.slice (some ⟨g, 0, none⟩) m lc).ownBlock = some b → v8.ownBlock ≠ some b ∧ w8.heap[b]? = z2.heap[b]?) ∧ z2.heap.size ≤ w8.heap.size) := by
                  refine ⟨by rw [HT.out]; exact hrow8, fun b hb => ?_, Nat.le_trans HJ.out.2.2 (Nat.le_trans HB3.out.size hg8.size)⟩
                  have h1 := HJ.out.2.1 b hb
                  have h2 : b < wr.heap.size := Nat.lt_of_lt_of_le (HLo.out b hb) HJ.out.2.2
                  refine ⟨fun e => ?_, (hg8.block b (Nat.lt_of_lt_of_le h2 HB3.out.size) (fun e => h1.1 e.symm)).trans ((HB3.out.block b h2).trans h1.2)⟩
                  rcases hw8 with h5 | h5
                  · rw [h5] at e; exact h1.1 e
                  · rw [h5] at e; injection e with e; have := HB3.out.size; omega
                clear hrow8 hg8 hw8 HR3 HSr HLb HB3 HJ HT HLb0 d0
                go_roundw
                case rel => exact ⟨j + 1, by omega, by go_num, HN⟩
                case measure => simp [intOf]; omega
              · have HNx : Hid (Row RStr 1 (fun _ => False) wc wr 9 u9 (M ++ l.map Prod.fst)) := by have h1 := HJ.out.1; rw [List.take_of_length_le (by rw [← Hmm.out.1]; omega)] at h1; exact h1
                have hjz : ¬ ((j : Int) < (m : Int)) := by omega
                clear HJ
                go_wp2_with fail
                --M7
                go_roundw
                case rel => exact ⟨P + 1, by omega, by have := HPP.out; omega, by go_num, _, HNx.out, HMe.out⟩
                case measure => simp [intOf]; have := HPP.out; omega
          · have hP : P = 4 := by omega
            subst hP
            have hrow9 := HM.out.1
            have hpm9 : M.Perm (S.map enN) := by have h1 := HM.out.2; rw [show ((4 : Nat) : Int) = 4 from rfl, upto_four HQ.out.ok] at h1; exact h1
            have hlen : M.length = N.length := by have h1 := hpm9.length_eq; have h2 := HPm.out.length_eq; omega
            obtain ⟨ia, ic, hi4, si⟩ := ((HRow.out.on RStr.firm hrow9.below).wAG RStr.firm (A' := Fresh w) (fun _ h => h.elim)).slF (bytes := 16) RStr.firm (by have := HMl.out; omega)
            obtain ⟨ta, tc, rfl, st⟩ := (hrow9.wAG RStr.firm (A' := Fresh wc) (fun _ h => h.elim)).slF (bytes := 16) RStr.firm (by have := HMl.out; omega)
            have HRk : Hid (KpR w p (k + 1) u4 wr) := by
              obtain ⟨S', n', Ws', N', hq, hrow, r⟩ := HR.out
              exact ⟨S', n', Ws', N', hq.on hrow9.below, hrow.on RStr.firm hrow9.below, r⟩
            have hC1 := Sorted_calls ta M.length tc _ M wr st
            have HSi : Hid (SlAt RStr 1 16 (Fresh w) wr ia N.length ic N) := si
            have Hlen : Hid (M.length = N.length ∧ sortB sLt sEq M = sortB sLt sEq N) := ⟨hlen, sorted_perm14 (hpm9.trans HPm.out.symm)⟩
            obtain ⟨m1, hm1⟩ : ∃ m1, m1 = N.length := ⟨_, rfl⟩
            have hml : m1 < 1000000000000000 := by have := HMl.out; omega
            rw [hlen, ← hm1] at hC1 ⊢
            rw [← hm1] at HSi hi4
            subst hi4
            have Hm1 : Hid (m1 = N.length) := hm1
            clear hrow9 hpm9 hlen si st hm1 HM hP4 hP1 HR HRow HQ
            go_wp2_with fail
            --M8
            refine hC1.mono ?_
            rintro e z3 ⟨sa, sc, rfl, ss, sb⟩
            have hC2 := Sorted_calls ia m1 ic _ N z3 (HSi.out.on RStr.firm sb)
            have HS3 : Hid (SlAt RStr 1 16 (Fresh wr) z3 sa (sortB sLt sEq M).length sc (sortB sLt sEq M) ∧ Below wr.heap.size wr z3) := ⟨ss, sb⟩
            clear hC1 ss sb
            go_wp2_with fail
            refine hC2.mono ?_
            rintro e z4 ⟨qa, qc, rfl, qs, qb⟩
            have hC3 := SameTexts_calls sa _ sc _ _ qa _ qc _ _ z4 (HS3.out.1.on RStr.firm qb) qs
            rw [decide_eq_true Hlen.out.2] at hC3
            have HB4 : Hid (Below wr.heap.size wr z4) := on2 HS3.out.2 qb
            clear hC2 qs qb HS3
            go_wp2_with fail
            refine hC3.mono ?_
            rintro e z5 ⟨rfl, q5, hz5⟩
            have HEnd : Hid (KpR w p (k + 1) (.slice ia m1 ic) z5) := by
              obtain ⟨S', n', Ws', N', hq, hrow, r⟩ := HRk.out
              have hb : Below wr.heap.size wr z5 := by rw [hz5]; exact on2 HB4.out (below_drewN (Below.refl _ _) _)
              exact ⟨S', n', Ws', N', hq.on hb, hrow.on RStr.firm hb, r⟩
            clear hC3 hz5 HB4 HRk
            go_wp2_with fail
            go_roundw
            case rel => exact ⟨k + 1, by omega, by go_num, HEnd⟩
            case measure => simp [intOf]; omega
    · have hkz : ¬ ((k : Int) < (y0 : Int)) := by omega
      obtain ⟨S, n, Ws, N, _, hrow, _⟩ := HI.out
      have HB : Hid (Below w.heap.size w wr) := hrow.below
      clear HI hrow
      go_wp2_with fail
      go_ret
      exact ⟨rfl, HB.out⟩
end Go.Proofs.Ytpombhiffpbedaa
