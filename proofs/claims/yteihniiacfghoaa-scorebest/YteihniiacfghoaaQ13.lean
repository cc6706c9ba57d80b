/- Shy and Match, over lists as they lie in structs. Condition: the lists lie as is said of them. Calm, by the document. Condition: what is handed in lies as is said of it. Liked, by the document. Condition: what is handed in lies as is said of it. shied and liking, by the program. Condition: what is handed in lies as is said of it. -/
import Derived.Test.YteihniiacfghoaaQ08
import Derived.Test.YteihniiacfghoaaQ12
namespace Go.Proofs.Yteihniiacfghoaa
open Go.RowKit
set_option linter.unusedSimpArgs false

theorem Shy_sl (a : Option Addr) (n cap : Nat) (A : Where) (L : List Tnt) (b : Option Addr) (m capb : Nat) (A' : Where) (R : List Bear) (w : World) (hL : Hid (SlAt RTaint 3 40 A w a n cap L)) (hR : Hid (SlAt RBear 4 48 A' w b m capb R)) : Calls Try.prog 51 #[.slice a n cap, .slice b m capb] w fun e w' => e = .returned (.int .i64 (shyN L R : Nat)) ∧ Below w.heap.size w w' := by
  have h := Shy_calls a cap L b capb R w (tnts_of hL.out) (bears_of hR.out)
  rw [hL.out.1, hR.out.1] at h
  exact h
theorem rShy_sl (a : Option Addr) (n cap : Nat) (A : Where) (L : List Tnt) (b : Option Addr) (m capb : Nat) (A' : Where) (R : List Bear) (w : World) (hL : Hid (SlAt RTaint 3 40 A w a n cap L)) (hR : Hid (SlAt RBear 4 48 A' w b m capb R)) : Calls Try.prog 38 #[.slice a n cap, .slice b m capb] w fun e w' => e = .returned (.int .i64 (shyN L R : Nat)) ∧ Below w.heap.size w w' := by
  have h := rShy_calls a cap L b capb R w (tnts_of hL.out) (bears_of hR.out)
  rw [hL.out.1, hR.out.1] at h
  exact h
end Go.Proofs.Yteihniiacfghoaa
namespace Go.Proofs.Yteihniiacfghoaa
open Go.RowKit Go.Maps
set_option linter.unusedSimpArgs false
set_option maxRecDepth 100000

set_option maxHeartbeats 2000000 in
theorem rCalm_calls (ps : List Value) (A A' : Where) (p : PodD) (a : Option Addr) (n cap : Nat) (L : List InfoD) (w : World) (hp : Hid (RPod A w ps p)) (hL : Hid (SlAt RInfo 15 208 A' w a n cap L)) : Calls Try.prog 16 #[.agg ps.toArray, .slice a n cap] w fun e w' => ∃ v, e = .returned v ∧ Row RInt 1 (fun _ => False) w w' 3 v (calmP p L) := by
  have hn : Hid (L.length = n) := hL.out.1
  have HLn : Hid (n * 208 ≤ 140737488351232) := hL.out.2.2.2.1
  have hml : n < 1000000000000000 := by have := HLn.out; omega
  obtain ⟨W1, hW1⟩ : ∃ Z, Z = w.alloc (.cells ps.toArray 33) := ⟨_, rfl⟩
  have b1 : Below w.heap.size w W1 := by rw [hW1]; exact (Below.refl _ _).alloc (Nat.le_refl _) _
  have q1 : BoxL W1 w.heap.size ps := by rw [hW1]; exact BoxL.new w 33 _
  have hL1 : Hid (SlAt RInfo 15 208 A' W1 a n cap L) := hL.out.on RInfo.firm b1
  have hp1 : RPod A W1 ps p := RPod.firm.kept hp.out (Kept.below b1)
  obtain ⟨g2, g6, g7, g8, g9, g10, g11, g12, g13, eps, _, _, s6, _⟩ := hp1.out
  obtain ⟨ba, bn, bc⟩ := g6
  have HBe : Hid (SlAt RBear 4 48 A W1 ba bn bc (pBears p)) := s6
  have HP6 : Hid (∀ z, Below W1.heap.size W1 z → z.cell? ⟨w.heap.size, 6, none⟩ = some (.slice ba bn bc)) := fun z hz => ((q1.on hz).2 6 _ (by rw [eps]; rfl)).1
  have HB1 : Hid (Below w.heap.size w W1) := b1
  have HR0 : Hid (Row RInt 1 (fun _ => False) W1 (W1.alloc (.cells #[] 3)) 3 (.slice (some ⟨W1.heap.size, 0, none⟩) 0 0) ((L.take 0).map (shyI p))) := Row.start _ W1 W1 _ (Below.refl _ _)
  obtain ⟨P, hP⟩ : ∃ P, P = w.heap.size := ⟨_, rfl⟩
  rw [← hP] at HP6
  have hW1' : w.alloc (.cells ps.toArray 33) = W1 := hW1.symm
  have HP : Hid (w.heap.size = P) := hP.symm
  clear hp1 eps s6 q1 b1 hW1 hP hp
  go_enter Try.func16, Try.ntmps16
  go_upto_region 1 with fail
  rw [HP.out]
  clear hW1'
  go_wp2_with fail
  --M1
  go_loopw [5, 6] (fun v i wr => ∃ k : Nat, k ≤ n ∧ i = .int .i64 k ∧ Hid (Row RInt 1 (fun _ => False) W1 wr 3 v ((L.take k).map (shyI p)))) (fun _ i _ => n - (intOf i).toNat)
  case atStart => exact ⟨0, Nat.zero_le _, rfl, HR0⟩
  case round =>
    clear HR0
    obtain ⟨k, hk, rfl, hrun⟩ := hrel
    by_cases hlt : k < n
    · have hltz : (k : Int) < (n : Int) := by omega
      obtain ⟨D, off, rfl, hD, _, cs, hra, hva⟩ := hL1.out.get hlt
      obtain ⟨x, hx⟩ : ∃ x, x = L.getD k default := ⟨_, rfl⟩
      rw [← hx] at hra
      obtain ⟨h1, ⟨ta, tn, tc⟩, h9, h13, h14, rfl, _, _, st, _⟩ := hra.out
      have HTa : Hid (SlAt RTaint 3 40 A' W1 ta tn tc x.1.2.2.1) := st
      have HC : Hid (∀ z, Below W1.heap.size W1 z → z.cell? ⟨D, off + k * 15 + 2, none⟩ = some (.slice ta tn tc)) := fun z hz => (hz.cell (p := ⟨D, off + k * 15 + 2, none⟩) hD).trans (hva 2 _ rfl)
      have HS : Hid ((L.take (k + 1)).map (shyI p) = (L.take k).map (shyI p) ++ [shyI p x]) := by rw [Hid, ← take_at (by rw [hn.out]; exact hlt), List.map_append, ← hx]; rfl
      obtain ⟨N, hN⟩ : ∃ N, N = (L.take k).map (shyI p) := ⟨_, rfl⟩
      have HNl : Hid (N.length ≤ k) := by rw [hN, List.length_map, List.length_take]; exact Nat.min_le_left _ _
      rw [← hN] at HS hrun
      have HR : Hid (∀ z, Below W1.heap.size W1 z → Below wr.heap.size wr z → Row RInt 1 (fun _ => False) W1 z 3 u5 N) := fun z _ hz => hrun.out.on RInt.firm hz
      have HbW : Hid (Below W1.heap.size W1 wr) := hrun.out.below
      obtain ⟨sh, hsh⟩ : ∃ s, s = shyI p x := ⟨_, rfl⟩
      have HCall : Hid (∀ z, Below W1.heap.size W1 z → Calls Try.prog 38 #[.slice ta tn tc, .slice ba bn bc] z fun e z' => e = .returned (.int .i64 sh) ∧ Below z.heap.size z z') := fun z hz => by rw [hsh]; exact rShy_sl ta tn tc A' x.1.2.2.1 ba bn bc A (pBears p) z (HTa.out.on RTaint.firm hz) (HBe.out.on RBear.firm hz)
      rw [← hsh] at HS
      clear hx hN hva hra st hsh hrun
      go_upto_region 5 with fail
      --M2
      have hb0 : Below W1.heap.size W1 wr.drew := HbW.out.drew
      have hbw : Below wr.heap.size wr wr.drew := (Below.refl _ _).drew
      refine t0 (fun z => Below W1.heap.size W1 z) hb0 (fun hHeld => ?_)
      generalize wr.drew = wd at hHeld hbw ⊢
      clear hb0
      try go_frame
      refine' tk 0 ?_ ?_; rotate_left
      · intro z hz; clear hz; go_simp; try with_reducible rfl
      try go_frame
      refine' tk 1 ?_ ?_; rotate_left
      · intro z hz; clear hz; go_simp; try with_reducible rfl
      try go_frame
      refine' tk 2 ?_ ?_; rotate_left
      · intro z hz; clear hz; go_simp; try with_reducible rfl
      try go_frame
      refine' tk 3 ?_ ?_; rotate_left
      · intro z hz; clear hz; go_simp; try with_reducible rfl
      try go_frame
      refine' tk 4 ?_ ?_; rotate_left
      · intro z hz; clear hz; go_simp; try with_reducible rfl
      try go_frame
      refine' tk 5 ?_ ?_; rotate_left
      · intro z hz; clear hz; go_simp; try with_reducible rfl
      try go_frame
      refine' tk 6 ?_ ?_; rotate_left
      · intro z hz; have f := HC.out z hz; clear hz; go_simp; try with_reducible rfl
      try go_frame
      refine' tk 7 ?_ ?_; rotate_left
      · intro z hz; clear hz; go_simp; try with_reducible rfl
      try go_frame
      refine' tk 8 ?_ ?_; rotate_left
      · intro z hz; have f := HP6.out z hz; clear hz; go_simp; try with_reducible rfl
      try go_frame
      have hA := HCall.out wd hHeld
      clear HCall
      refine tr 9 (fun K hK => ?_)
      go_simp
      refine hA.mono ?_
      rintro e w5 ⟨rfl, b5⟩
      clear hA
      have hbw5 : Below wr.heap.size wr w5 := on2 hbw b5
      have hb5 : Below W1.heap.size W1 w5 := on2 hHeld b5
      clear hbw b5
      have hbw := hbw5
      clear hbw5
      go_wp2_with fail
      refine hK.out _ _ hb5 (fun hHeld2 => ?_)
      clear hb5
      clear hK K hHeld; have hHeld := hHeld2; clear hHeld2
      try go_frame
      refine tr 10 (fun K hK => ?_)
      go_simp
      obtain ⟨w9, hw9⟩ : ∃ Z, Z = w5.alloc (.cells #[.int .i64 sh] 3) := ⟨_, rfl⟩
      have b9 : Below w5.heap.size w5 w9 := by rw [hw9]; exact (Below.refl _ _).alloc (Nat.le_refl _) _
      have q9 : BoxL w9 w5.heap.size [.int .i64 sh] := by rw [hw9]; exact BoxL.new w5 3 _
      rw [← hw9]
      clear hw9
      have hb9 : Below W1.heap.size W1 w9 := on2 hHeld b9
      refine hK.out _ _ hb9 (fun hHeld2 => ?_)
      clear hK K hHeld; have hHeld := hHeld2; clear hHeld2
      try go_frame
      refine tr 11 (fun K hK => ?_)
      refine want_yesS (by rfl) (row_appendP_wp RInt.firm (A := fun _ => False) (w0 := W1) _ _ 28 3 rfl _ 8 infoIntS Try.underlying28 rfl (by decide) (by decide) u5 N rfl (HR.out w9 hHeld (on2 hbw b9)) (some ⟨w5.heap.size, 0, none⟩) 1 1 [sh] rfl (src_boxG RInt.firm q9 rfl) (by have h1 := HNl.out; have h2 := HLn.out; rw [List.length_singleton]; omega) ?_)
      intro v8 w8 hr8 hg8 ho8
      have hb8 : Below W1.heap.size W1 w8 := hr8.below
      refine hK.out _ _ hb8 (fun hHeld2 => ?_)
      clear hK K hHeld; have hHeld := hHeld2; clear hHeld2
      try go_frame
      refine' tk 12 ?_ ?_; rotate_left
      · intro z hz; clear hz; go_simp; try with_reducible rfl
      try go_frame
      refine tz ?_
      rw [← HS.out] at hr8
      have HE : Hid (Row RInt 1 (fun _ => False) W1 w8 3 v8 ((L.take (k + 1)).map (shyI p))) := hr8
      clear hr8 hg8 ho8 hHeld HR HS
      go_wp2_with fail
      go_roundw
      case rel => exact ⟨k + 1, by omega, by go_num, HE⟩
      case measure => simp [intOf]; omega
    · have hltz : ¬ (k : Int) < (n : Int) := by omega
      have HR : Hid (Row RInt 1 (fun _ => False) W1 wr 3 u5 (L.map (shyI p))) := by have h1 := hrun.out; rw [List.take_of_length_le (by rw [hn.out]; omega)] at h1; exact h1
      obtain ⟨M, hM⟩ : ∃ M, M = L.map (shyI p) := ⟨_, rfl⟩
      have HM : Hid (normP M true = calmP p L ∧ M.length = n) := ⟨by rw [hM]; rfl, by rw [hM, List.length_map, hn.out]⟩
      rw [← hM] at HR
      obtain ⟨la, lc, rfl, ls⟩ := (HR.out.wAG RInt.firm (A' := Fresh W1) (fun _ h => h.elim)).slF (bytes := 8) RInt.firm (by have h2 := HLn.out; have h3 := HM.out.2; omega)
      have hA := rNormal_calls la M.length lc (Fresh W1) M true wr ls
      rw [HM.out.1] at hA
      have HB : Hid (Below w.heap.size w wr) := on2 HB1.out HR.out.below
      clear ls HR hrun hM HM
      --M3
      go_wp2_with fail
      refine hA.mono ?_
      rintro e w7 ⟨v7, rfl, hr7⟩
      have HE : Hid (Row RInt 1 (fun _ => False) w w7 3 v7 (calmP p L)) := hr7.from RInt.firm HB.out (fun _ h => h)
      clear hA hr7 HB
      go_wp2_with fail
      go_ret
      exact ⟨_, rfl, HE.out⟩
end Go.Proofs.Yteihniiacfghoaa
namespace Go.Proofs.Yteihniiacfghoaa
open Go.RowKit Go.Maps
set_option linter.unusedSimpArgs false
set_option maxRecDepth 100000

theorem like_snoc (L : List Lab) (P : List PreferD) {k : Nat} (hk : k < P.length) : likeS L (P.take (k + 1)) = IntKind.i64.wrap (likeS L (P.take k) + like1 L (P.getD k default)) := by
  rw [← take_at hk]; unfold likeS; rw [List.foldl_append]; rfl
theorem like1_in (L : List Lab) (x : PreferD) : 0 ≤ like1 L x ∧ like1 L x ≤ 1073741824 := by
  unfold like1; split
  · exact ⟨clipZ_ge (by decide) _, clipZ_le (by decide) _⟩
  · omega
theorem likeS_in (L : List Lab) (P : List PreferD) : ∀ k, k ≤ P.length → -9223372036854775808 ≤ likeS L (P.take k) ∧ likeS L (P.take k) ≤ 9223372036854775807
  | 0, _ => by rw [List.take_zero]; exact ⟨(by decide : (-9223372036854775808 : Int) ≤ 0), (by decide : (0 : Int) ≤ 9223372036854775807)⟩
  | k + 1, h => by
    rw [like_snoc L P (by omega)]
    exact Go.wrap_within .i64 _
set_option maxHeartbeats 4000000 in
theorem rLiked_calls (ps : List Value) (A A' : Where) (p : PodD) (a : Option Addr) (n cap : Nat) (L : List InfoD) (w : World) (hp : Hid (RPod A w ps p)) (hL : Hid (SlAt RInfo 15 208 A' w a n cap L)) : Calls Try.prog 18 #[.agg ps.toArray, .slice a n cap] w fun e w' => ∃ v, e = .returned v ∧ Row RInt 1 (fun _ => False) w w' 3 v (likedP p L) := by
  have hn : Hid (L.length = n) := hL.out.1
  have HLn : Hid (n * 208 ≤ 140737488351232) := hL.out.2.2.2.1
  have hml : n < 1000000000000000 := by have := HLn.out; omega
  obtain ⟨W1, hW1⟩ : ∃ Z, Z = w.alloc (.cells ps.toArray 33) := ⟨_, rfl⟩
  have b1 : Below w.heap.size w W1 := by rw [hW1]; exact (Below.refl _ _).alloc (Nat.le_refl _) _
  have q1 : BoxL W1 w.heap.size ps := by rw [hW1]; exact BoxL.new w 33 _
  have hL1 : Hid (SlAt RInfo 15 208 A' W1 a n cap L) := hL.out.on RInfo.firm b1
  have hp1 : RPod A W1 ps p := RPod.firm.kept hp.out (Kept.below b1)
  obtain ⟨g2, g6, g7, g8, g9, g10, g11, g12, g13, eps, _, _, _, _, s8, _⟩ := hp1.out
  obtain ⟨ba, bn, bc⟩ := g8
  obtain ⟨PF, hPF⟩ : ∃ PF, PF = pPrefs p := ⟨_, rfl⟩
  have HBe : Hid (SlAt RPrefer 2 32 A W1 ba bn bc PF) := by rw [hPF]; exact s8
  have HP8 : Hid (∀ z, Below W1.heap.size W1 z → z.cell? ⟨w.heap.size, 8, none⟩ = some (.slice ba bn bc)) := fun z hz => ((q1.on hz).2 8 _ (by rw [eps]; rfl)).1
  have HB1 : Hid (Below w.heap.size w W1) := b1
  have hbn : PF.length = bn := HBe.out.1
  have Hbn : Hid (PF.length = bn ∧ bn * 32 ≤ 140737488351232) := ⟨hbn, HBe.out.2.2.2.1⟩
  have hbl : bn < 1000000000000000 := by have := Hbn.out; omega
  have HLI : Hid (∀ x : InfoD, likeI p x = likeS x.1.2.1 PF) := fun x => by rw [hPF]; rfl
  have HR0 : Hid (Row RInt 1 (fun _ => False) W1 (W1.alloc (.cells #[] 3)) 3 (.slice (some ⟨W1.heap.size, 0, none⟩) 0 0) ((L.take 0).map (likeI p))) := Row.start _ W1 W1 _ (Below.refl _ _)
  obtain ⟨P, hP⟩ : ∃ P, P = w.heap.size := ⟨_, rfl⟩
  rw [← hP] at HP8
  have hW1' : w.alloc (.cells ps.toArray 33) = W1 := hW1.symm
  have HP : Hid (w.heap.size = P) := hP.symm
  clear hp1 eps s8 q1 b1 hW1 hP hp hPF hbn
  go_enter Try.func18, Try.ntmps18
  go_upto_region 1 with fail
  rw [HP.out]
  clear hW1'
  go_wp2_with fail
  --M1
  go_loopw [5, 6] (fun v i wr => ∃ k : Nat, k ≤ n ∧ i = .int .i64 k ∧ Hid (Row RInt 1 (fun _ => False) W1 wr 3 v ((L.take k).map (likeI p)))) (fun _ i _ => n - (intOf i).toNat)
  case atStart => exact ⟨0, Nat.zero_le _, rfl, HR0⟩
  case round =>
    clear HR0
    obtain ⟨k, hk, rfl, hrun⟩ := hrel
    by_cases hlt : k < n
    · have hltz : (k : Int) < (n : Int) := by omega
      obtain ⟨D, off, rfl, hD, _, cs, hra, hva⟩ := hL1.out.get hlt
      obtain ⟨x, hx⟩ : ∃ x, x = L.getD k default := ⟨_, rfl⟩
      rw [← hx] at hra
      obtain ⟨⟨ta, tn, tc⟩, h2, h9, h13, h14, rfl, _, st, _⟩ := hra.out
      obtain ⟨LB, hLB⟩ : ∃ LB, LB = x.1.2.1 := ⟨_, rfl⟩
      have HTa : Hid (SlAt RLabel 2 32 A' W1 ta tn tc LB) := by rw [hLB]; exact st
      have HC : Hid (∀ z, Below W1.heap.size W1 z → z.cell? ⟨D, off + k * 15 + 1, none⟩ = some (.slice ta tn tc)) := fun z hz => (hz.cell (p := ⟨D, off + k * 15 + 1, none⟩) hD).trans (hva 1 _ rfl)
      obtain ⟨N, hN⟩ : ∃ N, N = (L.take k).map (likeI p) := ⟨_, rfl⟩
      have HS : Hid ((L.take (k + 1)).map (likeI p) = N ++ [likeS LB PF]) := by rw [Hid, hN, hLB, ← HLI.out, ← take_at (by rw [hn.out]; exact hlt), List.map_append, ← hx]; rfl
      have HNl : Hid (N.length ≤ k) := by rw [hN, List.length_map, List.length_take]; exact Nat.min_le_left _ _
      rw [← hN] at hrun
      have HR : Hid (∀ z, Below wr.heap.size wr z → Row RInt 1 (fun _ => False) W1 z 3 u5 N) := fun z hz => hrun.out.on RInt.firm hz
      have HbW : Hid (Below W1.heap.size W1 wr) := hrun.out.below
      have HJ0 : Hid (Below wr.heap.size wr wr) := Below.refl _ _
      obtain ⟨wo, hwo⟩ : ∃ wo, wo = wr := ⟨_, rfl⟩
      rw [← hwo] at HR HbW HJ0 ⊢
      have HJ1 : Hid (Below wo.heap.size wo wo) := Below.refl _ _
      clear HJ0 hx hN hva hra st hrun hLB hwo
      go_wp2_with fail
      --M2
      go_loopw [7, 8] (fun s i z => ∃ j : Nat, j ≤ bn ∧ i = .int .i64 j ∧ s = .int .i64 (likeS LB (PF.take j)) ∧ Hid (Below wo.heap.size wo z)) (fun _ i _ => bn - (intOf i).toNat)
      case atStart => exact ⟨0, Nat.zero_le _, rfl, rfl, HJ1⟩
      case round =>
        clear HJ1
        obtain ⟨j, hj, rfl, rfl, HJ⟩ := hrel
        have e8 : wr.cell? ⟨P, 8, none⟩ = some (.slice ba bn bc) := HP8.out wr (on2 HbW.out HJ.out)
        by_cases hjl : j < bn
        · have hjz : (j : Int) < (bn : Int) := by omega
          obtain ⟨E, of2, rfl, hE, _, ds, hrb, hvb⟩ := HBe.out.get hjl
          obtain ⟨y, hy⟩ : ∃ y, y = PF.getD j default := ⟨_, rfl⟩
          rw [← hy] at hrb
          have HT : Hid (likeS LB (PF.take (j + 1)) = IntKind.i64.wrap (likeS LB (PF.take j) + like1 LB y)) := by rw [Hid, like_snoc LB PF (by rw [Hbn.out.1]; exact hjl), ← hy]
          have HIn := likeS_in LB PF j (by rw [Hbn.out.1]; exact hj)
          obtain ⟨c0, d0, rfl, ⟨ra, rn, rc, rfl, hrq⟩, hd0⟩ := hrb
          obtain rfl : d0 = [.int .i64 y.2] := hd0
          have HRq : Hid (SlAt RReq 3 48 A W1 ra rn rc y.1) := hrq
          have HD : Hid (∀ z, Below W1.heap.size W1 z → z.cell? ⟨E, of2 + j * 2, none⟩ = some (.slice ra rn rc) ∧ z.cell? ⟨E, of2 + j * 2 + 1, none⟩ = some (.int .i64 y.2)) := fun z hz => ⟨(hz.cell (p := ⟨E, of2 + j * 2, none⟩) hE).trans (by have := hvb 0 _ rfl; rwa [Nat.add_zero] at this), (hz.cell (p := ⟨E, of2 + j * 2 + 1, none⟩) hE).trans (hvb 1 _ rfl)⟩
          have HCall : Hid (∀ z, Below W1.heap.size W1 z → Calls Try.prog 40 #[.slice ta tn tc, .slice ra rn rc] z fun e z' => e = .returned (.bool (matchL LB y.1)) ∧ Below z.heap.size z z') := fun z hz => rMatch_sl ta tn tc A' LB ra rn rc A y.1 z (HTa.out.on RLabel.firm hz) (HRq.out.on RReq.firm hz)
          obtain ⟨b, hb⟩ : ∃ b, b = matchL LB y.1 := ⟨_, rfl⟩
          rw [← hb] at HCall
          have HL1 : Hid (like1 LB y = if b = true then clipZ 1073741824 y.2 else 0) := by rw [Hid, hb]; rfl
          obtain ⟨S, hS⟩ : ∃ S, S = likeS LB (PF.take j) := ⟨_, rfl⟩
          rw [← hS] at HIn HT
          rw [← hS]
          have HSb : Hid (-9223372036854775808 ≤ S ∧ S ≤ 9223372036854775807) := HIn
          clear hy hvb hrq hb hS HIn
          have hq0 : Below wo.heap.size wo wr := HJ.out
          go_upto_region 9 with fail
          clear e8
          --M3
          have hb0 : Below wo.heap.size wo wr.drew := hq0.drew
          refine t0 (fun z => Below wo.heap.size wo z) hb0 (fun hHeld => ?_)
          generalize wr.drew = wd at hHeld ⊢
          clear hb0 hq0 HJ
          try go_frame
          refine' tk 0 ?_ ?_; rotate_left
          · intro z hz; clear hz; go_simp; try with_reducible rfl
          try go_frame
          refine' tk 1 ?_ ?_; rotate_left
          · intro z hz; clear hz; go_simp; try with_reducible rfl
          try go_frame
          refine' tk 2 ?_ ?_; rotate_left
          · intro z hz; clear hz; go_simp; try with_reducible rfl
          try go_frame
          refine' tk 3 ?_ ?_; rotate_left
          · intro z hz; clear hz; go_simp; try with_reducible rfl
          try go_frame
          refine' tk 4 ?_ ?_; rotate_left
          · intro z hz; clear hz; go_simp; try with_reducible rfl
          try go_frame
          refine' tk 5 ?_ ?_; rotate_left
          · intro z hz; have f := HC.out z (on2 HbW.out hz); clear hz; go_simp; try with_reducible rfl
          try go_frame
          refine' tk 6 ?_ ?_; rotate_left
          · intro z hz; clear hz; go_simp; try with_reducible rfl
          try go_frame
          refine' tk 7 ?_ ?_; rotate_left
          · intro z hz; have f := HP8.out z (on2 HbW.out hz); clear hz; go_simp; try with_reducible rfl
          try go_frame
          refine' tk 8 ?_ ?_; rotate_left
          · intro z hz; clear hz; go_simp; try with_reducible rfl
          try go_frame
          refine' tk 9 ?_ ?_; rotate_left
          · intro z hz; clear hz; go_simp; try with_reducible rfl
          try go_frame
          refine' tk 10 ?_ ?_; rotate_left
          · intro z hz; clear hz; go_simp; try with_reducible rfl
          try go_frame
          refine' tk 11 ?_ ?_; rotate_left
          · intro z hz; have f := (HD.out z (on2 HbW.out hz)).1; clear hz; go_simp; try with_reducible rfl
          try go_frame
          have hA := HCall.out wd (on2 HbW.out hHeld)
          clear HCall
          refine tr 12 (fun K hK => ?_)
          go_simp
          refine hA.mono ?_
          rintro e w5 ⟨rfl, b5⟩
          clear hA
          have hb5 : Below wo.heap.size wo w5 := on2 hHeld b5
          clear b5
          go_wp2_with fail
          refine hK.out _ _ hb5 (fun hHeld2 => ?_)
          clear hb5
          clear hK K hHeld; have hHeld := hHeld2; clear hHeld2
          try go_frame
          refine tz ?_
          have HE : Hid (Below wo.heap.size wo w5) := hHeld
          have e8 := HP8.out w5 (on2 HbW.out hHeld)
          have e1 := (HD.out w5 (on2 HbW.out hHeld)).2
          clear hHeld HD
          cases b
          · have HF : Hid (S = likeS LB (PF.take (j + 1))) := by rw [Hid, HT.out, HL1.out, if_neg (by decide), Int.add_zero, IntWalk.i64_in _ HSb.out]
            clear HT HL1
            go_wp2_with fail
            go_roundw
            case rel => exact ⟨j + 1, by omega, by go_num, by rw [HF.out], HE⟩
            case measure => simp [intOf]; omega
          · obtain ⟨y1, y2⟩ := y
            obtain ⟨q, hq⟩ : ∃ q, q = (if 1073741824 < y2 then 1073741824 else y2) := ⟨_, rfl⟩
            obtain ⟨c, hc⟩ : ∃ c, c = clipZ 1073741824 y2 := ⟨_, rfl⟩
            have hmx : (if (0 : Int) < q then q else 0) = c := by
              rw [hc, hq]; unfold clipZ
              repeat (first | split | omega)
            have hmn : (if 1073741824 < y2 then 1073741824 else y2) = q := hq.symm
            have HMM : Hid (max 0 (min y2 1073741824) = c) := by rw [Hid, hc]; unfold clipZ; repeat (first | split | omega)
            have hc0 : 0 ≤ c ∧ c ≤ 1073741824 := by rw [hc]; exact ⟨clipZ_ge (by decide) _, clipZ_le (by decide) _⟩
            have HF : Hid (IntKind.i64.wrap (S + c) = likeS LB (PF.take (j + 1))) := by rw [Hid, HT.out, HL1.out, if_pos rfl, hc]
            clear HT HL1 hq hc
            go_wp2_with fail
            go_roundw
            case rel => exact ⟨j + 1, by omega, by go_num, by rw [HMM.out]; exact congrArg (Value.int .i64) ((IntWalk.i64_left _).symm.trans HF.out), HE⟩
            case measure => simp [intOf]; omega
        · have hjz : ¬ (j : Int) < (bn : Int) := by omega
          obtain ⟨z, hz⟩ : ∃ z, z = likeS LB PF := ⟨_, rfl⟩
          have HZ : Hid (likeS LB (PF.take j) = z) := by rw [Hid, hz, List.take_of_length_le (by rw [Hbn.out.1]; omega)]
          rw [← hz] at HS
          rw [HZ.out]
          have hRw := HR.out wr HJ.out
          have b3 : Below wr.heap.size wr (wr.alloc (.cells #[.int .i64 z] 3)) := (Below.refl _ _).alloc (Nat.le_refl _) _
          have q3 : BoxL (wr.alloc (.cells #[.int .i64 z] 3)) wr.heap.size [.int .i64 z] := BoxL.new wr 3 _
          have HR3 : Hid (Row RInt 1 (fun _ => False) W1 (wr.alloc (.cells #[.int .i64 z] 3)) 3 u5 N) := hRw.on RInt.firm b3
          have HSr : Hid (Src RInt 1 (fun b => False ∧ Value.ownBlock u5 ≠ some b) (wr.alloc (.cells #[.int .i64 z] 3)) (some ⟨wr.heap.size, 0, none⟩) 1 [z]) := src_boxG RInt.firm q3 rfl
          have HLb : Hid ((N.length + [z].length) * 8 ≤ 140737488355328) := by have h1 := HNl.out; have h2 := HLn.out; rw [Hid, List.length_singleton]; omega
          clear b3 q3 hRw hz HR HJ
          go_wp2_with (first | (at_builtin; refine row_appendP RInt.firm (A := (fun _ => False)) (w0 := W1) rfl _ _ 28 3 rfl _ 8 infoIntS Try.underlying28 rfl (by decide) (by decide) u5 N rfl HR3.out (some ⟨wr.heap.size, 0, none⟩) 1 1 [_] rfl HSr.out HLb.out ?_; intro v8 w8 hrow8 hg8 hw8) | fail)
          have HN8 := HS.out
          rw [← HN8] at hrow8
          have HE : Hid (Row RInt 1 (fun _ => False) W1 w8 3 v8 ((L.take (k + 1)).map (likeI p))) := hrow8
          clear hrow8 hg8 hw8 HR3 HSr HLb HN8 HS
          go_roundw
          case rel => exact ⟨k + 1, by omega, by go_num, HE⟩
          case measure => simp [intOf]; omega
    · have hltz : ¬ (k : Int) < (n : Int) := by omega
      have HR : Hid (Row RInt 1 (fun _ => False) W1 wr 3 u5 (L.map (likeI p))) := by have h1 := hrun.out; rw [List.take_of_length_le (by rw [hn.out]; omega)] at h1; exact h1
      obtain ⟨M, hM⟩ : ∃ M, M = L.map (likeI p) := ⟨_, rfl⟩
      have HM : Hid (normP M false = likedP p L ∧ M.length = n) := ⟨by rw [hM]; rfl, by rw [hM, List.length_map, hn.out]⟩
      rw [← hM] at HR
      obtain ⟨la, lc, rfl, ls⟩ := (HR.out.wAG RInt.firm (A' := Fresh W1) (fun _ h => h.elim)).slF (bytes := 8) RInt.firm (by have h2 := HLn.out; have h3 := HM.out.2; omega)
      have hA := rNormal_calls la M.length lc (Fresh W1) M false wr ls
      rw [HM.out.1] at hA
      have HB : Hid (Below w.heap.size w wr) := on2 HB1.out HR.out.below
      clear ls HR hrun hM HM
      go_wp2_with fail
      refine hA.mono ?_
      rintro e w7 ⟨v7, rfl, hr7⟩
      have HE : Hid (Row RInt 1 (fun _ => False) w w7 3 v7 (likedP p L)) := hr7.from RInt.firm HB.out (fun _ h => h)
      clear hA hr7 HB
      go_wp2_with fail
      go_ret
      exact ⟨_, rfl, HE.out⟩
end Go.Proofs.Yteihniiacfghoaa
namespace Go.Proofs.Yteihniiacfghoaa
open Go.RowKit Go.Maps
set_option linter.unusedSimpArgs false
set_option maxRecDepth 100000

set_option maxHeartbeats 2000000 in
theorem shied_calls (ps is : List Value) (A A' : Where) (p : PodD) (i : InfoD) (w : World) (hp : Hid (RPod A w ps p)) (hi : Hid (RInfo A' w is i)) : Calls Try.prog 37 #[.agg ps.toArray, .agg is.toArray] w fun e w' => e = .returned (.int .i64 (shyI p i)) ∧ Below w.heap.size w w' := by
  obtain ⟨W2, hW2⟩ : ∃ W2, W2 = (w.alloc (.cells ps.toArray 33)).alloc (.cells is.toArray 41) := ⟨_, rfl⟩
  have hB : PiB w W2 ps is := by rw [hW2]; exact PiB.new w ps is _ _
  have HB : Hid (Below w.heap.size w W2) := hB.b
  have hp1 : RPod A W2 ps p := RPod.firm.kept hp.out (Kept.below hB.b)
  have hi1 : RInfo A' W2 is i := RInfo.firm.kept hi.out (Kept.below hB.b)
  obtain ⟨g2, ⟨ba, bn, bc⟩, g7, g8, g9, g10, g11, g12, g13, eps, _, _, s6, _⟩ := hp1.out
  obtain ⟨h1, ⟨ta, tn, tc⟩, h9, h13, h14, eis, _, _, st, _⟩ := hi1.out
  have c6 : W2.cell? ⟨w.heap.size, 6, none⟩ = some (.slice ba bn bc) := (hB.x.2 6 _ (by rw [eps]; rfl)).1
  have c2 : W2.cell? ⟨w.heap.size + 1, 2, none⟩ = some (.slice ta tn tc) := (hB.y.2 2 _ (by rw [eis]; rfl)).1
  have hA : Calls Try.prog 51 #[.slice ta tn tc, .slice ba bn bc] W2 fun e z' => e = .returned (.int .i64 (shyI p i)) ∧ Below W2.heap.size W2 z' := Shy_sl ta tn tc A' i.1.2.2.1 ba bn bc A (pBears p) W2 st s6
  obtain ⟨sh, hsh⟩ : ∃ s, s = shyI p i := ⟨_, rfl⟩
  rw [← hsh] at hA ⊢
  obtain ⟨P, hP⟩ : ∃ P, P = w.heap.size := ⟨_, rfl⟩
  obtain ⟨I, hI⟩ : ∃ I, I = w.heap.size + 1 := ⟨_, rfl⟩
  rw [← hP] at c6
  rw [← hI] at c2
  have hW2' : (w.alloc (.cells ps.toArray 33)).alloc (.cells is.toArray 41) = W2 := hW2.symm
  have HPI : Hid (w.heap.size = P ∧ w.heap.size + 1 = I) := ⟨hP.symm, hI.symm⟩
  clear hB hp hi hp1 hi1 eps eis s6 st hP hI hW2 hsh
  go_enter Try.func37, Try.ntmps37
  go_upto_region 1 with fail
  rw [HPI.out.2, HPI.out.1]
  clear hW2'
  --M1
  go_wp2_with fail
  refine hA.mono ?_
  rintro e w5 ⟨rfl, b5⟩
  have HE : Hid (Below w.heap.size w w5) := on2 HB.out b5
  clear hA b5
  go_wp2_with fail
  go_ret
  exact ⟨rfl, HE.out⟩
set_option maxHeartbeats 4000000 in
theorem liking_calls (ps is : List Value) (A A' : Where) (p : PodD) (i : InfoD) (w : World) (hp : Hid (RPod A w ps p)) (hi : Hid (RInfo A' w is i)) : Calls Try.prog 39 #[.agg ps.toArray, .agg is.toArray] w fun e w' => e = .returned (.int .i64 (likeI p i)) ∧ Below w.heap.size w w' := by
  obtain ⟨W2, hW2⟩ : ∃ W2, W2 = (w.alloc (.cells ps.toArray 33)).alloc (.cells is.toArray 41) := ⟨_, rfl⟩
  have hB : PiB w W2 ps is := by rw [hW2]; exact PiB.new w ps is _ _
  have HB : Hid (Below w.heap.size w W2) := hB.b
  have hp1 : RPod A W2 ps p := RPod.firm.kept hp.out (Kept.below hB.b)
  have hi1 : RInfo A' W2 is i := RInfo.firm.kept hi.out (Kept.below hB.b)
  obtain ⟨g2, g6, g7, ⟨ba, bn, bc⟩, g9, g10, g11, g12, g13, eps, _, _, _, _, s8, _⟩ := hp1.out
  obtain ⟨⟨ta, tn, tc⟩, h2, h9, h13, h14, eis, _, st, _⟩ := hi1.out
  obtain ⟨PF, hPF⟩ : ∃ PF, PF = pPrefs p := ⟨_, rfl⟩
  obtain ⟨LB, hLB⟩ : ∃ LB, LB = i.1.2.1 := ⟨_, rfl⟩
  have HBe : Hid (SlAt RPrefer 2 32 A W2 ba bn bc PF) := by rw [hPF]; exact s8
  have HTa : Hid (SlAt RLabel 2 32 A' W2 ta tn tc LB) := by rw [hLB]; exact st
  have c8 : W2.cell? ⟨w.heap.size, 8, none⟩ = some (.slice ba bn bc) := (hB.x.2 8 _ (by rw [eps]; rfl)).1
  have HC1 : Hid (∀ z, Below W2.heap.size W2 z → z.cell? ⟨w.heap.size + 1, 1, none⟩ = some (.slice ta tn tc)) := fun z hz => ((hB.y.on hz).2 1 _ (by rw [eis]; rfl)).1
  have hbn : PF.length = bn := HBe.out.1
  have Hbn : Hid (PF.length = bn ∧ bn * 32 ≤ 140737488351232) := ⟨hbn, HBe.out.2.2.2.1⟩
  have hbl : bn < 1000000000000000 := by have := Hbn.out; omega
  have HLI : Hid (likeI p i = likeS LB PF) := by rw [hPF, hLB]; rfl
  have HJ0 : Hid (Below W2.heap.size W2 W2) := Below.refl _ _
  obtain ⟨P, hP⟩ : ∃ P, P = w.heap.size := ⟨_, rfl⟩
  obtain ⟨I, hI⟩ : ∃ I, I = w.heap.size + 1 := ⟨_, rfl⟩
  rw [← hP] at c8
  rw [← hI] at HC1
  have hW2' : (w.alloc (.cells ps.toArray 33)).alloc (.cells is.toArray 41) = W2 := hW2.symm
  have HPI : Hid (w.heap.size = P ∧ w.heap.size + 1 = I) := ⟨hP.symm, hI.symm⟩
  clear hB hp hi hp1 hi1 eps eis s8 st hP hI hW2 hPF hLB hbn
  go_enter Try.func39, Try.ntmps39
  go_upto_region 1 with fail
  rw [HPI.out.2, HPI.out.1]
  clear hW2'
  go_wp2_with fail
  --M1
  clear c8
  go_loopw [5, 11] (fun s i z => ∃ j : Nat, j ≤ bn ∧ i = .int .i64 j ∧ s = .int .i64 (likeS LB (PF.take j)) ∧ Hid (Below W2.heap.size W2 z)) (fun _ i _ => bn - (intOf i).toNat)
  case atStart => exact ⟨0, Nat.zero_le _, rfl, rfl, HJ0⟩
  case round =>
    clear HJ0
    obtain ⟨j, hj, rfl, rfl, HJ⟩ := hrel
    by_cases hjl : j < bn
    · have hjz : (j : Int) < (bn : Int) := by omega
      obtain ⟨E, of2, rfl, hE, _, ds, hrb, hvb⟩ := (HBe.out.on RPrefer.firm HJ.out).get hjl
      obtain ⟨y, hy⟩ : ∃ y, y = PF.getD j default := ⟨_, rfl⟩
      rw [← hy] at hrb
      have HT : Hid (likeS LB (PF.take (j + 1)) = IntKind.i64.wrap (likeS LB (PF.take j) + like1 LB y)) := by rw [Hid, like_snoc LB PF (by rw [Hbn.out.1]; exact hjl), ← hy]
      have HIn := likeS_in LB PF j (by rw [Hbn.out.1]; exact hj)
      obtain ⟨c0, d0, rfl, ⟨ra, rn, rc, rfl, hrq⟩, hd0⟩ := hrb
      obtain rfl : d0 = [.int .i64 y.2] := hd0
      obtain ⟨y1, y2⟩ := y
      have f0 := hvb 0 _ rfl
      have f1 := hvb 1 _ rfl
      rw [Nat.add_zero] at f0
      dsimp only at f1
      obtain ⟨W3, hW3⟩ : ∃ Z, Z = wr.alloc (.cells #[.slice ra rn rc, .int .i64 y2] 66) := ⟨_, rfl⟩
      have b3 : Below wr.heap.size wr W3 := by rw [hW3]; exact (Below.refl _ _).alloc (Nat.le_refl _) _
      have q3 : BoxL W3 wr.heap.size [.slice ra rn rc, .int .i64 y2] := by rw [hW3]; exact BoxL.new wr 66 _
      have HW3 : Hid (wr.alloc (.cells #[.slice ra rn rc, .int .i64 y2] 66) = W3) := hW3.symm
      have hw3 : Below W2.heap.size W2 W3 := on2 HJ.out b3
      have HRq : Hid (SlAt RReq 3 48 A W3 ra rn rc y1) := hrq.on RReq.firm b3
      have c1 : W3.cell? ⟨I, 1, none⟩ = some (.slice ta tn tc) := HC1.out W3 hw3
      have hA : Calls Try.prog 53 #[.slice ta tn tc, .slice ra rn rc] W3 fun e z' => e = .returned (.bool (matchL LB y1)) ∧ Below W3.heap.size W3 z' := Match_sl ta tn tc A' LB ra rn rc A y1 W3 (HTa.out.on RLabel.firm hw3) HRq
      obtain ⟨b, hb⟩ : ∃ b, b = matchL LB y1 := ⟨_, rfl⟩
      rw [← hb] at hA
      have HL1 : Hid (like1 LB (y1, y2) = if b = true then clipZ 1073741824 y2 else 0) := by rw [Hid, hb]; rfl
      obtain ⟨S, hS⟩ : ∃ S, S = likeS LB (PF.take j) := ⟨_, rfl⟩
      rw [← hS] at HIn HT
      rw [← hS]
      have HSb : Hid (-9223372036854775808 ≤ S ∧ S ≤ 9223372036854775807) := HIn
      have HQ3 : Hid (BoxL W3 wr.heap.size [.slice ra rn rc, .int .i64 y2]) := q3
      have HJ3 : Hid (Below W2.heap.size W2 W3) := hw3
      have e0 := (q3.2 0 _ rfl).1
      obtain ⟨B, hB⟩ : ∃ B, B = wr.heap.size := ⟨_, rfl⟩
      have HBB : Hid (wr.heap.size = B) := hB.symm
      rw [← hB] at HQ3 e0
      clear hy hvb hrq hb hS HIn hW3 b3 q3 hw3 HRq HJ hB
      go_upto_region 5 with fail
      --M2
      rw [HW3.out, HBB.out]
      clear f0 f1
      go_wp2_with fail
      refine hA.mono ?_
      rintro e w5 ⟨rfl, b5⟩
      have hx1 : w5.cell? ⟨B, 1, none⟩ = some (.int .i64 y2) := ((HQ3.out.on b5).2 1 _ rfl).1
      have HE : Hid (Below W2.heap.size W2 w5) := on2 HJ3.out b5
      clear hA b5 c1 e0 HW3 HBB HQ3 HJ3
      --M3
      cases b
      · have HF : Hid (S = likeS LB (PF.take (j + 1))) := by rw [Hid, HT.out, HL1.out, if_neg (by decide), Int.add_zero, IntWalk.i64_in _ HSb.out]
        clear HT HL1
        go_wp2_with fail
        go_roundw
        case rel => exact ⟨j + 1, by omega, by go_num, by rw [HF.out], HE⟩
        case measure => simp [intOf]; omega
      · obtain ⟨c, hc⟩ : ∃ c, c = clipZ 1073741824 y2 := ⟨_, rfl⟩
        have hC := between_calls y2 1073741824 (by decide) w5
        have HF : Hid (IntKind.i64.wrap (S + c) = likeS LB (PF.take (j + 1))) := by rw [Hid, HT.out, HL1.out, if_pos rfl, hc]
        rw [← hc] at hC
        clear HT HL1 hc
        go_wp2_with fail
        refine hC.mono ?_
        rintro e w6 ⟨rfl, hw⟩
        obtain rfl := hw.symm
        clear hC hw
        --M4
        go_wp2_with fail
        go_roundw
        case rel => exact ⟨j + 1, by omega, by go_num, by rw [← HF.out]; exact congrArg (Value.int .i64) (by rw [IntKind.wrap_i64]; unfold wrap64; omega), HE⟩
        case measure => simp [intOf]; omega
    · have hjz : ¬ (j : Int) < (bn : Int) := by omega
      have HF : Hid (likeS LB (PF.take j) = likeI p i) := by rw [Hid, HLI.out, List.take_of_length_le (by rw [Hbn.out.1]; omega)]
      have HE : Hid (Below w.heap.size w wr) := on2 HB.out HJ.out
      clear HJ
      go_wp2_with fail
      rw [HF.out]
      go_ret
      exact ⟨rfl, HE.out⟩
end Go.Proofs.Yteihniiacfghoaa
