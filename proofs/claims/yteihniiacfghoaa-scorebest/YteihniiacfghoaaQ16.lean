/- Total, by the document. Condition: what is handed in lies as is said of it. -/
import Derived.Test.YteihniiacfghoaaQ13
import Derived.Test.YteihniiacfghoaaQ15
namespace Go.Proofs.Yteihniiacfghoaa
open Go.RowKit Go.Maps
set_option linter.unusedSimpArgs false
set_option maxRecDepth 100000

theorem calm_len (p : PodD) (L : List InfoD) : (calmP p L).length = L.length := by unfold calmP; rw [norm_len, List.length_map]
theorem liked_len (p : PodD) (L : List InfoD) : (likedP p L).length = L.length := by unfold likedP; rw [norm_len, List.length_map]
def tpart (a b c d : Int) (w : W4) : Nat → Int
  | 0 => 0
  | 1 => a * cw w.1
  | 2 => a * cw w.1 + b * cw w.2.1
  | 3 => a * cw w.1 + b * cw w.2.1 + c * cw w.2.2.1
  | _ => total1 a b c d w
theorem mul_in2 {a : Int} (ha : 0 ≤ a ∧ a ≤ 100) (x : Int) : 0 ≤ a * cw x ∧ a * cw x ≤ 10000 := by
  have h1 := mul_in ha x rfl; have h2 := cw_le x; omega
theorem tpart_in {a b c d : Int} (ha : 0 ≤ a ∧ a ≤ 100) (hb : 0 ≤ b ∧ b ≤ 100) (hc : 0 ≤ c ∧ c ≤ 100) (w : W4) {j : Nat} (hj : j < 4) : 0 ≤ tpart a b c d w j ∧ tpart a b c d w j ≤ 30000 := by
  have h1 := mul_in2 ha w.1; have h2 := mul_in2 hb w.2.1; have h3 := mul_in2 hc w.2.2.1
  rcases (show j = 0 ∨ j = 1 ∨ j = 2 ∨ j = 3 by omega) with rfl | rfl | rfl | rfl <;> simp only [tpart] <;> omega
set_option maxHeartbeats 4000000 in
theorem rTotal_calls (ps : List Value) (A A' : Where) (p : PodD) (a : Option Addr) (n cap : Nat) (L : List InfoD) (w0 w1 w2 w3 : Int) (w : World) (hp : Hid (RPod A w ps p)) (hL : Hid (SlAt RInfo 15 208 A' w a n cap L)) : Calls Try.prog 23 #[.agg ps.toArray, .slice a n cap, .agg #[.int .i64 w0, .int .i64 w1, .int .i64 w2, .int .i64 w3]] w fun e w' => ∃ v, e = .returned v ∧ Row RInt 1 (fun _ => False) w w' 3 v (totalP p L (w0, w1, w2, w3)) := by
  have hn : Hid (L.length = n) := hL.out.1
  have HLn : Hid (n * 208 ≤ 140737488351232) := hL.out.2.2.2.1
  have hml : n < 1000000000000000 := by have := HLn.out; omega
  obtain ⟨W2, hW2⟩ : ∃ W2, W2 = (w.alloc (.cells ps.toArray 33)).alloc (.cells #[.int .i64 w0, .int .i64 w1, .int .i64 w2, .int .i64 w3] 47) := ⟨_, rfl⟩
  have hB : PiB w W2 ps [.int .i64 w0, .int .i64 w1, .int .i64 w2, .int .i64 w3] := by rw [hW2]; exact PiB.new w ps [.int .i64 w0, .int .i64 w1, .int .i64 w2, .int .i64 w3] _ _
  have HPl : Hid (ps.length = 16) := RPod.firm.len hp.out
  have HB : Hid (PiB w W2 ps [.int .i64 w0, .int .i64 w1, .int .i64 w2, .int .i64 w3]) := hB
  have HB0 : Hid (Below w.heap.size w W2) := hB.b
  have hL2 : Hid (SlAt RInfo 15 208 A' W2 a n cap L) := hL.out.on RInfo.firm hB.b
  have hp2 : Hid (RPod A W2 ps p) := RPod.firm.kept hp.out (Kept.below hB.b)
  have HCa : Hid (∀ z, Below W2.heap.size W2 z → Calls Try.prog 16 #[.agg ps.toArray, .slice a n cap] z fun e w' => ∃ v, e = .returned v ∧ Row RInt 1 (fun _ => False) z w' 3 v (calmP p L)) := fun z hz => rCalm_calls ps A A' p a n cap L z (RPod.firm.kept hp2.out (Kept.below hz)) (hL2.out.on RInfo.firm hz)
  have HLi : Hid (∀ z, Below W2.heap.size W2 z → Calls Try.prog 18 #[.agg ps.toArray, .slice a n cap] z fun e w' => ∃ v, e = .returned v ∧ Row RInt 1 (fun _ => False) z w' 3 v (likedP p L)) := fun z hz => rLiked_calls ps A A' p a n cap L z (RPod.firm.kept hp2.out (Kept.below hz)) (hL2.out.on RInfo.firm hz)
  have HPx : Hid (∀ z, Below W2.heap.size W2 z → z.rangeAt w.heap.size 0 ps) := fun z hz => (hB.on hz).x.range
  obtain ⟨P, hP⟩ : ∃ P, P = w.heap.size := ⟨_, rfl⟩
  obtain ⟨I, hI⟩ : ∃ I, I = w.heap.size + 1 := ⟨_, rfl⟩
  rw [← hP] at HPx
  have hW2' : (w.alloc (.cells ps.toArray 33)).alloc (.cells #[.int .i64 w0, .int .i64 w1, .int .i64 w2, .int .i64 w3] 47) = W2 := hW2.symm
  have HPI : Hid (w.heap.size = P ∧ w.heap.size + 1 = I) := ⟨hP.symm, hI.symm⟩
  clear hB hp hP hI hW2
  go_enter Try.func23, Try.ntmps23
  go_upto_region 1 with fail
  rw [HPI.out.2, HPI.out.1]
  clear hW2'
  --M1
  have hb0 : Below W2.heap.size W2 W2.drew := (Below.refl _ _).drew
  refine t0 (fun z => Below W2.heap.size W2 z) hb0 (fun hHeld => ?_)
  generalize W2.drew = wd at hHeld ⊢
  clear hb0
  try go_frame
  refine tq 0 (.agg ps.toArray) (yieldsIf_load_mid (by rfl) 33 _ rfl P 0 (by go_simp) ps _ (fun z hz => HPx.out z hz) Try.underlying33 rfl (by rw [HPl.out]; kernel_rfl)) ?_ (hi := rfl)
  try go_frame
  refine' tk 1 ?_ ?_; rotate_left
  · intro z hz; clear hz; go_simp; try with_reducible rfl
  try go_frame
  refine tq 3 (.agg ps.toArray) (yieldsIf_load_mid (by rfl) 33 _ rfl P 0 (by go_simp) ps _ (fun z hz => HPx.out z hz) Try.underlying33 rfl (by rw [HPl.out]; kernel_rfl)) ?_ (hi := rfl)
  try go_frame
  refine' tk 4 ?_ ?_; rotate_left
  · intro z hz; clear hz; go_simp; try with_reducible rfl
  try go_frame
  have hA := HCa.out wd hHeld
  refine tr 2 (fun K hK => ?_)
  go_simp
  refine hA.mono ?_
  rintro e w4 ⟨v1, rfl, hrv1⟩
  clear hA
  have hb9 : Below W2.heap.size W2 w4 := on2 hHeld hrv1.below
  go_wp2_with fail
  refine hK.out _ _ hb9 (fun hHeld2 => ?_)
  clear hb9
  clear hK K hHeld; have hHeld := hHeld2; clear hHeld2
  try go_frame
  have hA := HLi.out w4 hHeld
  refine tr 5 (fun K hK => ?_)
  go_simp
  refine hA.mono ?_
  rintro e w5 ⟨v2, rfl, hrv2⟩
  clear hA
  have hb9 : Below W2.heap.size W2 w5 := on2 hHeld hrv2.below
  go_wp2_with fail
  refine hK.out _ _ hb9 (fun hHeld2 => ?_)
  clear hb9
  clear hK K hHeld; have hHeld := hHeld2; clear hHeld2
  try go_frame
  refine tr 6 (fun K hK => ?_)
  go_simp
  refine hK.out _ _ hHeld (fun hHeld2 => ?_)
  clear hK K hHeld; have hHeld := hHeld2; clear hHeld2
  try go_frame
  refine tr 7 (fun K hK => ?_)
  go_simp
  refine hK.out _ _ hHeld (fun hHeld2 => ?_)
  clear hK K hHeld; have hHeld := hHeld2; clear hHeld2
  try go_frame
  refine tz ?_
  obtain ⟨ca, cc, rfl, sc⟩ := (hrv1.wAG RInt.firm (A' := Fresh wd) (fun _ h => h.elim)).slF (bytes := 8) RInt.firm (by rw [calm_len, hn.out]; have := HLn.out; omega)
  obtain ⟨ka, kc, rfl, sk⟩ := (hrv2.wAG RInt.firm (A' := Fresh w4) (fun _ h => h.elim)).slF (bytes := 8) RInt.firm (by rw [liked_len, hn.out]; have := HLn.out; omega)
  have HSc : Hid (SlAt RInt 1 8 (Fresh wd) w5 ca n cc (calmP p L)) := by have h := sc.on RInt.firm hrv2.below; rw [calm_len, hn.out] at h; exact h
  have HSk : Hid (SlAt RInt 1 8 (Fresh w4) w5 ka n kc (likedP p L)) := by have h := sk; rw [liked_len, hn.out] at h; exact h
  rw [calm_len, liked_len, hn.out]
  have HB5 : Hid (Below W2.heap.size W2 w5) := hHeld
  clear sc sk hrv1 hrv2 hHeld
  --M2
  have HR0 : Hid (Row RInt 1 (fun _ => False) w5 (w5.alloc (.cells #[] 3)) 3 (.slice (some ⟨w5.heap.size, 0, none⟩) 0 0) ((List.range 0).map (totalAt p L (w0, w1, w2, w3)))) := Row.start _ w5 w5 _ (Below.refl _ _)
  clear HCa HLi
  go_wp2_with fail
  go_loopw [9, 10] (fun v i wr => ∃ k : Nat, k ≤ n ∧ i = .int .i64 k ∧ Hid (Row RInt 1 (fun _ => False) w5 wr 3 v ((List.range k).map (totalAt p L (w0, w1, w2, w3))))) (fun _ i _ => n - (intOf i).toNat)
  case atStart => exact ⟨0, Nat.zero_le _, rfl, HR0⟩
  case round =>
    clear HR0
    obtain ⟨k, hk, rfl, hrun⟩ := hrel
    by_cases hlt : k < n
    · have hltz : (k : Int) < (n : Int) := by omega
      obtain ⟨D, off, rfl, hD, _, cs, hra, hva⟩ := hL2.out.get hlt
      obtain ⟨Dc, oc, rfl, hDc, _, cs1, hrc, hvc⟩ := HSc.out.get hlt
      obtain rfl : cs1 = [.int .i64 ((calmP p L).getD k default)] := hrc
      obtain ⟨Dk, ok, rfl, hDk, _, cs2, hrk, hvk⟩ := HSk.out.get hlt
      obtain rfl : cs2 = [.int .i64 ((likedP p L).getD k default)] := hrk
      have hvc0 := hvc 0 _ rfl
      have hvk0 := hvk 0 _ rfl
      rw [Nat.add_zero, Nat.mul_one] at hvc0 hvk0
      obtain ⟨x, hx⟩ : ∃ x, x = L.getD k default := ⟨_, rfl⟩
      rw [← hx] at hra
      have HLc : Hid (cs.length = 15) := RInfo.firm.len hra
      obtain ⟨ck, hck⟩ : ∃ c, c = (calmP p L).getD k default := ⟨_, rfl⟩
      obtain ⟨lk, hlk⟩ : ∃ c, c = (likedP p L).getD k default := ⟨_, rfl⟩
      obtain ⟨le, hle⟩ : ∃ c, c = leastP p x := ⟨_, rfl⟩
      obtain ⟨ev, hev⟩ : ∃ c, c = evenP p x := ⟨_, rfl⟩
      rw [← hck] at hvc0
      rw [← hlk] at hvk0
      have HTA : Hid (totalAt p L (w0, w1, w2, w3) k = total1 le ev ck lk (w0, w1, w2, w3)) := by rw [Hid, totalAt, ← hx, ← hle, ← hev, ← hck, ← hlk]
      have HIn : Hid ((0 ≤ le ∧ le ≤ 100) ∧ (0 ≤ ev ∧ ev ≤ 100) ∧ (0 ≤ ck ∧ ck ≤ 100) ∧ (0 ≤ lk ∧ lk ≤ 100)) := by rw [hle, hev, hck, hlk]; exact ⟨⟨least_ge _ _, least_le _ _⟩, ⟨even_ge _ _, even_le _ _⟩, getD_in (norm_in _ _) k, getD_in (norm_in _ _) k⟩
      have HbW : Hid (Below w5.heap.size w5 wr) := hrun.out.below
      have HZ2 : Hid (∀ z, Below wr.heap.size wr z → Below W2.heap.size W2 z) := fun z hz => on2 HB5.out (on2 HbW.out hz)
      have HLe : Hid (∀ z, Below W2.heap.size W2 z → Calls Try.prog 11 #[.agg ps.toArray, .agg cs.toArray] z fun e w' => e = .returned (.int .i64 le) ∧ Below z.heap.size z w') := fun z hz => by rw [hle]; exact rLeast_calls ps cs A A' p x z (RPod.firm.kept hp2.out (Kept.below hz)) (RInfo.firm.kept hra (Kept.below hz))
      have HEv : Hid (∀ z, Below W2.heap.size W2 z → Calls Try.prog 13 #[.agg ps.toArray, .agg cs.toArray] z fun e w' => e = .returned (.int .i64 ev) ∧ Below z.heap.size z w') := fun z hz => by rw [hev]; exact rEven_calls ps cs A A' p x z (RPod.firm.kept hp2.out (Kept.below hz)) (RInfo.firm.kept hra (Kept.below hz))
      have HIx : Hid (∀ z, Below W2.heap.size W2 z → z.rangeAt D (off + k * 15) cs) := fun z hz j v hj => (hz.cell (p := ⟨D, off + k * 15 + j, none⟩) hD).trans (hva j v hj)
      have HCx : Hid (∀ z, Below wr.heap.size wr z → z.cell? ⟨Dc, oc + k, none⟩ = some (.int .i64 ck) ∧ z.cell? ⟨Dk, ok + k, none⟩ = some (.int .i64 lk)) := fun z hz => ⟨((on2 HbW.out hz).cell (p := ⟨Dc, oc + k, none⟩) hDc).trans hvc0, ((on2 HbW.out hz).cell (p := ⟨Dk, ok + k, none⟩) hDk).trans hvk0⟩
      have HR : Hid (∀ z, Below wr.heap.size wr z → Row RInt 1 (fun _ => False) w5 z 3 u9 ((List.range k).map (totalAt p L (w0, w1, w2, w3)))) := fun z hz => hrun.out.on RInt.firm hz
      clear hva hvc hvk hvc0 hvk0 hra hrun hx hck hlk hle hev
      go_upto_region 6 with fail
      --M3
      go_cut [11] (fun x wc => ∃ X, x = .pointer (some ⟨X, 0, none⟩) ∧ Hid (Below wr.heap.size wr wc ∧ BoxL wc X [.int .i64 le, .int .i64 ev, .int .i64 ck, .int .i64 lk]))
      case first =>
        have hb0 : Below wr.heap.size wr wr.drew := (Below.refl _ _).drew
        refine t0 (fun z => Below wr.heap.size wr z) hb0 (fun hHeld => ?_)
        generalize wr.drew = wd2 at hHeld ⊢
        clear hb0
        try go_frame
        refine tq 0 (.agg ps.toArray) (yieldsIf_load_mid (by rfl) 33 _ rfl P 0 (by go_simp) ps _ (fun z hz => HPx.out z (HZ2.out z hz)) Try.underlying33 rfl (by rw [HPl.out]; kernel_rfl)) ?_ (hi := rfl)
        try go_frame
        refine' tk 1 ?_ ?_; rotate_left
        · intro z hz; clear hz; go_simp; try with_reducible rfl
        try go_frame
        refine' tk 2 ?_ ?_; rotate_left
        · intro z hz; clear hz; go_simp; try with_reducible rfl
        try go_frame
        refine' tk 3 ?_ ?_; rotate_left
        · intro z hz; clear hz; go_simp; try with_reducible rfl
        try go_frame
        refine tq 4 (.agg cs.toArray) (yieldsIf_load_mid (by rfl) 41 _ rfl D (off + k * 15) (by go_simp) cs _ (fun z hz => HIx.out z (HZ2.out z hz)) Try.underlying41 rfl (by rw [HLc.out]; kernel_rfl)) ?_ (hi := rfl)
        try go_frame
        refine tq 6 (.agg ps.toArray) (yieldsIf_load_mid (by rfl) 33 _ rfl P 0 (by go_simp) ps _ (fun z hz => HPx.out z (HZ2.out z hz)) Try.underlying33 rfl (by rw [HPl.out]; kernel_rfl)) ?_ (hi := rfl)
        try go_frame
        refine' tk 7 ?_ ?_; rotate_left
        · intro z hz; clear hz; go_simp; try with_reducible rfl
        try go_frame
        refine' tk 8 ?_ ?_; rotate_left
        · intro z hz; clear hz; go_simp; try with_reducible rfl
        try go_frame
        refine' tk 9 ?_ ?_; rotate_left
        · intro z hz; clear hz; go_simp; try with_reducible rfl
        try go_frame
        refine tq 10 (.agg cs.toArray) (yieldsIf_load_mid (by rfl) 41 _ rfl D (off + k * 15) (by go_simp) cs _ (fun z hz => HIx.out z (HZ2.out z hz)) Try.underlying41 rfl (by rw [HLc.out]; kernel_rfl)) ?_ (hi := rfl)
        try go_frame
        refine' tk 12 ?_ ?_; rotate_left
        · intro z hz; clear hz; go_simp; try with_reducible rfl
        try go_frame
        refine' tk 13 ?_ ?_; rotate_left
        · intro z hz; clear hz; go_simp; try with_reducible rfl
        try go_frame
        refine' tk 14 ?_ ?_; rotate_left
        · intro z hz; clear hz; go_simp; try with_reducible rfl
        try go_frame
        refine' tk 15 ?_ ?_; rotate_left
        · intro z hz; have f := (HCx.out z hz).1; clear hz; go_simp; try with_reducible rfl
        try go_frame
        refine' tk 16 ?_ ?_; rotate_left
        · intro z hz; clear hz; go_simp; try with_reducible rfl
        try go_frame
        refine' tk 17 ?_ ?_; rotate_left
        · intro z hz; clear hz; go_simp; try with_reducible rfl
        try go_frame
        refine' tk 18 ?_ ?_; rotate_left
        · intro z hz; clear hz; go_simp; try with_reducible rfl
        try go_frame
        refine' tk 19 ?_ ?_; rotate_left
        · intro z hz; have f := (HCx.out z hz).2; clear hz; go_simp; try with_reducible rfl
        try go_frame
        --M4
        refine tb 5 21 (fun K hK => ?_) (fun K hK => ?_)
        · go_simp
          refine (HLe.out wd2 (HZ2.out wd2 hHeld)).mono ?_
          rintro e w7 ⟨rfl, bw7⟩
          have hb9 : Below wr.heap.size wr w7 := on2 hHeld bw7
          clear bw7
          go_wp2_with fail
          refine hK.out _ _ hb9 (fun hHeld2 => ?_)
          clear hb9
          clear hK K hHeld; have hHeld := hHeld2; clear hHeld2
          try go_frame
          refine tb 11 21 (fun K hK => ?_) (fun K hK => ?_)
          · go_simp
            refine (HEv.out w7 (HZ2.out w7 hHeld)).mono ?_
            rintro e w8 ⟨rfl, bw8⟩
            have hb9 : Below wr.heap.size wr w8 := on2 hHeld bw8
            clear bw8
            go_wp2_with fail
            refine hK.out _ _ hb9 (fun hHeld2 => ?_)
            clear hb9
            clear hK K hHeld; have hHeld := hHeld2; clear hHeld2
            try go_frame
            refine' tk 20 ?_ ?_; rotate_left
            · intro z hz; clear hz; go_simp; try with_reducible rfl
            try go_frame
            refine tr 21 (fun K hK => ?_)
            go_simp
            obtain ⟨X, hX⟩ : ∃ X, X = w8.heap.size := ⟨_, rfl⟩
            obtain ⟨w9, hw9⟩ : ∃ Z, Z = w8.alloc (.cells #[.int .i64 0, .int .i64 0, .int .i64 0, .int .i64 0] 47) := ⟨_, rfl⟩
            have bw9 : Below w8.heap.size w8 w9 := by rw [hw9]; exact (Below.refl _ _).alloc (Nat.le_refl _) _
            have HX : Hid (BoxL w9 X [.int .i64 0, .int .i64 0, .int .i64 0, .int .i64 0]) := by rw [hw9, hX]; exact BoxL.new w8 47 _
            have HXl : Hid (wr.heap.size ≤ X) := by rw [hX]; exact hHeld.size
            rw [← hw9, ← hX]
            have hb9 : Below wr.heap.size wr w9 := on2 hHeld bw9
            clear hw9 hX bw9
            refine hK.out _ _ hb9 (fun hHeld2 => ?_)
            clear hb9
            clear hK K hHeld; have hHeld := hHeld2; clear hHeld2
            try go_frame
            refine ts 22 (fun K hK => ?_)
            obtain ⟨W9, hW9⟩ : ∃ Z, Z = w9.setCells X 0 [.int .i64 le, .int .i64 ev, .int .i64 ck, .int .i64 lk] := ⟨_, rfl⟩
            have hb9 : Below wr.heap.size wr W9 := by rw [hW9]; exact below_setCells hHeld HXl.out
            have HX9 : Hid (BoxL W9 X [.int .i64 le, .int .i64 ev, .int .i64 ck, .int .i64 lk]) := by rw [hW9]; exact box_overS HX.out rfl
            have HTh : Hid (w9.there X 0 4) := HX.out.there
            refine want_yesS (by rfl) (wp_store_mid 47 _ _ rfl X 0 [.int .i64 le, .int .i64 ev, .int .i64 ck, .int .i64 lk].toArray rfl rfl HTh.out (by kernel_rfl) (by simp [Value.oneCell']) ?_)
            refine at_wS hW9 ?_
            clear hW9 HTh HX HXl
            refine hK.out _ _ hb9 (fun hHeld2 => ?_)
            clear hb9
            clear hK K hHeld; have hHeld := hHeld2; clear hHeld2
            try go_frame
            refine tz ?_
            have HE : Hid (Below wr.heap.size wr W9) := hHeld
            clear hHeld
            go_wp2_with fail
            go_meet
            exact ⟨X, rfl, HE.out, HX9.out⟩
          · go_simp
            obtain ⟨X, hX⟩ : ∃ X, X = w7.heap.size := ⟨_, rfl⟩
            obtain ⟨w8, hw8⟩ : ∃ Z, Z = w7.alloc (.cells #[.int .i64 0, .int .i64 0, .int .i64 0, .int .i64 0] 47) := ⟨_, rfl⟩
            have bw8 : Below w7.heap.size w7 w8 := by rw [hw8]; exact (Below.refl _ _).alloc (Nat.le_refl _) _
            have HX : Hid (BoxL w8 X [.int .i64 0, .int .i64 0, .int .i64 0, .int .i64 0]) := by rw [hw8, hX]; exact BoxL.new w7 47 _
            have HXl : Hid (wr.heap.size ≤ X) := by rw [hX]; exact hHeld.size
            rw [← hw8, ← hX]
            have hb9 : Below wr.heap.size wr w8 := on2 hHeld bw8
            clear hw8 hX bw8
            refine hK.out _ _ hb9 (fun hHeld2 => ?_)
            clear hb9
            clear hK K hHeld; have hHeld := hHeld2; clear hHeld2
            try go_frame
            refine tr 11 (fun K hK => ?_)
            go_simp
            refine (HEv.out w8 (HZ2.out w8 hHeld)).mono ?_
            rintro e w9 ⟨rfl, bw9⟩
            have hb9 : Below wr.heap.size wr w9 := on2 hHeld bw9
            have HX2 : Hid (BoxL w9 X [.int .i64 0, .int .i64 0, .int .i64 0, .int .i64 0]) := HX.out.on bw9
            clear HX
            have HX := HX2
            clear HX2
            clear bw9
            go_wp2_with fail
            refine hK.out _ _ hb9 (fun hHeld2 => ?_)
            clear hb9
            clear hK K hHeld; have hHeld := hHeld2; clear hHeld2
            try go_frame
            refine' tk 20 ?_ ?_; rotate_left
            · intro z hz; clear hz; go_simp; try with_reducible rfl
            try go_frame
            refine ts 22 (fun K hK => ?_)
            obtain ⟨W9, hW9⟩ : ∃ Z, Z = w9.setCells X 0 [.int .i64 le, .int .i64 ev, .int .i64 ck, .int .i64 lk] := ⟨_, rfl⟩
            have hb9 : Below wr.heap.size wr W9 := by rw [hW9]; exact below_setCells hHeld HXl.out
            have HX9 : Hid (BoxL W9 X [.int .i64 le, .int .i64 ev, .int .i64 ck, .int .i64 lk]) := by rw [hW9]; exact box_overS HX.out rfl
            have HTh : Hid (w9.there X 0 4) := HX.out.there
            refine want_yesS (by rfl) (wp_store_mid 47 _ _ rfl X 0 [.int .i64 le, .int .i64 ev, .int .i64 ck, .int .i64 lk].toArray rfl rfl HTh.out (by kernel_rfl) (by simp [Value.oneCell']) ?_)
            refine at_wS hW9 ?_
            clear hW9 HTh HX HXl
            refine hK.out _ _ hb9 (fun hHeld2 => ?_)
            clear hb9
            clear hK K hHeld; have hHeld := hHeld2; clear hHeld2
            try go_frame
            refine tz ?_
            have HE : Hid (Below wr.heap.size wr W9) := hHeld
            clear hHeld
            go_wp2_with fail
            go_meet
            exact ⟨X, rfl, HE.out, HX9.out⟩
        · go_simp
          obtain ⟨X, hX⟩ : ∃ X, X = wd2.heap.size := ⟨_, rfl⟩
          obtain ⟨w7, hw7⟩ : ∃ Z, Z = wd2.alloc (.cells #[.int .i64 0, .int .i64 0, .int .i64 0, .int .i64 0] 47) := ⟨_, rfl⟩
          have bw7 : Below wd2.heap.size wd2 w7 := by rw [hw7]; exact (Below.refl _ _).alloc (Nat.le_refl _) _
          have HX : Hid (BoxL w7 X [.int .i64 0, .int .i64 0, .int .i64 0, .int .i64 0]) := by rw [hw7, hX]; exact BoxL.new wd2 47 _
          have HXl : Hid (wr.heap.size ≤ X) := by rw [hX]; exact hHeld.size
          rw [← hw7, ← hX]
          have hb9 : Below wr.heap.size wr w7 := on2 hHeld bw7
          clear hw7 hX bw7
          refine hK.out _ _ hb9 (fun hHeld2 => ?_)
          clear hb9
          clear hK K hHeld; have hHeld := hHeld2; clear hHeld2
          try go_frame
          refine tr 5 (fun K hK => ?_)
          go_simp
          refine (HLe.out w7 (HZ2.out w7 hHeld)).mono ?_
          rintro e w8 ⟨rfl, bw8⟩
          have hb9 : Below wr.heap.size wr w8 := on2 hHeld bw8
          have HX2 : Hid (BoxL w8 X [.int .i64 0, .int .i64 0, .int .i64 0, .int .i64 0]) := HX.out.on bw8
          clear HX
          have HX := HX2
          clear HX2
          clear bw8
          go_wp2_with fail
          refine hK.out _ _ hb9 (fun hHeld2 => ?_)
          clear hb9
          clear hK K hHeld; have hHeld := hHeld2; clear hHeld2
          try go_frame
          refine tr 11 (fun K hK => ?_)
          go_simp
          refine (HEv.out w8 (HZ2.out w8 hHeld)).mono ?_
          rintro e w9 ⟨rfl, bw9⟩
          have hb9 : Below wr.heap.size wr w9 := on2 hHeld bw9
          have HX2 : Hid (BoxL w9 X [.int .i64 0, .int .i64 0, .int .i64 0, .int .i64 0]) := HX.out.on bw9
          clear HX
          have HX := HX2
          clear HX2
          clear bw9
          go_wp2_with fail
          refine hK.out _ _ hb9 (fun hHeld2 => ?_)
          clear hb9
          clear hK K hHeld; have hHeld := hHeld2; clear hHeld2
          try go_frame
          refine' tk 20 ?_ ?_; rotate_left
          · intro z hz; clear hz; go_simp; try with_reducible rfl
          try go_frame
          refine ts 22 (fun K hK => ?_)
          obtain ⟨W9, hW9⟩ : ∃ Z, Z = w9.setCells X 0 [.int .i64 le, .int .i64 ev, .int .i64 ck, .int .i64 lk] := ⟨_, rfl⟩
          have hb9 : Below wr.heap.size wr W9 := by rw [hW9]; exact below_setCells hHeld HXl.out
          have HX9 : Hid (BoxL W9 X [.int .i64 le, .int .i64 ev, .int .i64 ck, .int .i64 lk]) := by rw [hW9]; exact box_overS HX.out rfl
          have HTh : Hid (w9.there X 0 4) := HX.out.there
          refine want_yesS (by rfl) (wp_store_mid 47 _ _ rfl X 0 [.int .i64 le, .int .i64 ev, .int .i64 ck, .int .i64 lk].toArray rfl rfl HTh.out (by kernel_rfl) (by simp [Value.oneCell']) ?_)
          refine at_wS hW9 ?_
          clear hW9 HTh HX HXl
          refine hK.out _ _ hb9 (fun hHeld2 => ?_)
          clear hb9
          clear hK K hHeld; have hHeld := hHeld2; clear hHeld2
          try go_frame
          refine tz ?_
          have HE : Hid (Below wr.heap.size wr W9) := hHeld
          clear hHeld
          go_wp2_with fail
          go_meet
          exact ⟨X, rfl, HE.out, HX9.out⟩
      case rest =>
        --M5
        obtain ⟨X, rfl, hk4⟩ := hcut
        have HBc : Hid (Below wr.heap.size wr wc) := hk4.out.1
        have HXc : Hid (BoxL wc X [.int .i64 le, .int .i64 ev, .int .i64 ck, .int .i64 lk]) := hk4.out.2
        have HWc : Hid (BoxL wc I [.int .i64 w0, .int .i64 w1, .int .i64 w2, .int .i64 w3]) := by rw [← HPI.out.2]; exact HB.out.y.on (HZ2.out wc HBc.out)
        have HJ0 : Hid (Below wc.heap.size wc wc) := Below.refl _ _
        obtain ⟨wo, hwo⟩ : ∃ wo, wo = wr := ⟨_, rfl⟩
        rw [← hwo] at HBc HR
        clear hk4 HLe HEv HIx HCx HZ2 HbW hwo
        go_wp2_with fail
        go_loopw [12, 13] (fun s i z => ∃ j : Nat, j ≤ 4 ∧ i = .int .i64 j ∧ s = .int .i64 (tpart le ev ck lk (w0, w1, w2, w3) j) ∧ Hid (Below wc.heap.size wc z)) (fun _ i _ => 4 - (intOf i).toNat)
        case atStart => exact ⟨0, by omega, rfl, rfl, HJ0⟩
        case round =>
          clear HJ0
          obtain ⟨j, hj, rfl, rfl, HJ⟩ := hrel
          by_cases hj4 : j < 4
          · have hjz : (j : Int) < 4 := by omega
            have HSp := tpart_in (d := lk) HIn.out.1 HIn.out.2.1 HIn.out.2.2.1 (w0, w1, w2, w3) hj4
            obtain ⟨m, wj, hm, hw, hmi, HT⟩ : ∃ m wj, wr.cell? ⟨X, j, none⟩ = some (.int .i64 m) ∧ wr.cell? ⟨I, j, none⟩ = some (.int .i64 wj) ∧ (0 ≤ m ∧ m ≤ 100) ∧ tpart le ev ck lk (w0, w1, w2, w3) (j + 1) = tpart le ev ck lk (w0, w1, w2, w3) j + m * cw wj := by
              rcases (show j = 0 ∨ j = 1 ∨ j = 2 ∨ j = 3 by omega) with rfl | rfl | rfl | rfl
              · exact ⟨le, w0, ((HXc.out.on HJ.out).2 0 _ rfl).1, ((HWc.out.on HJ.out).2 0 _ rfl).1, HIn.out.1, by simp only [tpart]; omega⟩
              · exact ⟨ev, w1, ((HXc.out.on HJ.out).2 1 _ rfl).1, ((HWc.out.on HJ.out).2 1 _ rfl).1, HIn.out.2.1, by simp only [tpart]⟩
              · exact ⟨ck, w2, ((HXc.out.on HJ.out).2 2 _ rfl).1, ((HWc.out.on HJ.out).2 2 _ rfl).1, HIn.out.2.2.1, by simp only [tpart]⟩
              · exact ⟨lk, w3, ((HXc.out.on HJ.out).2 3 _ rfl).1, ((HWc.out.on HJ.out).2 3 _ rfl).1, HIn.out.2.2.2, by simp only [tpart, total1]⟩
            obtain ⟨q, hq⟩ : ∃ q, q = (if 100 < wj then 100 else wj) := ⟨_, rfl⟩
            obtain ⟨c, hc⟩ : ∃ c, c = cw wj := ⟨_, rfl⟩
            have hmx : (if (0 : Int) < q then q else 0) = c := by
              rw [hc, hq]; unfold cw clipZ
              repeat (first | split | omega)
            have hmn : (if 100 < wj then 100 else wj) = q := hq.symm
            have HMM : Hid (max 0 (min wj 100) = c) := by rw [Hid, hc]; unfold cw clipZ; repeat (first | split | omega)
            have hmc : 0 ≤ m * c ∧ m * c ≤ 10000 := by rw [hc]; exact mul_in2 hmi wj
            rw [← hc] at HT
            obtain ⟨S, hS⟩ : ∃ S, S = tpart le ev ck lk (w0, w1, w2, w3) j := ⟨_, rfl⟩
            rw [← hS] at HSp HT
            rw [← hS]
            have HT : Hid (tpart le ev ck lk (w0, w1, w2, w3) (j + 1) = S + m * c) := HT
            have HN : Hid (∀ q, Below wc.heap.size wc (wr.drewN q)) := fun q => below_drewN HJ.out _
            have HWr : Hid (wrap64 (S + wrap64 (m * c)) = S + m * c) := by
              rw [Hid]
              generalize m * c = e at hmc
              unfold wrap64
              omega
            clear hq hc hS HJ
            go_upto_region 11 with fail
            --M6
            go_quiet (fail)
            go_wp2_with fail
            --M7
            go_roundw
            case rel => exact ⟨j + 1, by omega, by go_num, by rw [HT.out, HMM.out, HWr.out], HN.out _⟩
            case measure => simp [intOf]; omega
          · have hjz : ¬ (j : Int) < 4 := by omega
            obtain rfl : j = 4 := by omega
            obtain ⟨z, hz⟩ : ∃ z, z = total1 le ev ck lk (w0, w1, w2, w3) := ⟨_, rfl⟩
            have hz4 : tpart le ev ck lk (w0, w1, w2, w3) 4 = z := hz.symm
            rw [hz4]
            obtain ⟨N, hN⟩ : ∃ N, N = (List.range k).map (totalAt p L (w0, w1, w2, w3)) := ⟨_, rfl⟩
            have HS : Hid ((List.range (k + 1)).map (totalAt p L (w0, w1, w2, w3)) = N ++ [z]) := by rw [Hid, List.range_succ, List.map_append, hN, hz, ← HTA.out]; rfl
            have HNl : Hid (N.length ≤ k) := by rw [hN, List.length_map, List.length_range]; exact Nat.le_refl _
            have hRw := HR.out wr (on2 HBc.out HJ.out)
            rw [← hN] at hRw
            have b3 : Below wr.heap.size wr (wr.alloc (.cells #[.int .i64 z] 3)) := (Below.refl _ _).alloc (Nat.le_refl _) _
            have q3 : BoxL (wr.alloc (.cells #[.int .i64 z] 3)) wr.heap.size [.int .i64 z] := BoxL.new wr 3 _
            have HR3 : Hid (Row RInt 1 (fun _ => False) w5 (wr.alloc (.cells #[.int .i64 z] 3)) 3 u9 N) := hRw.on RInt.firm b3
            have HSr : Hid (Src RInt 1 (fun b => False ∧ Value.ownBlock u9 ≠ some b) (wr.alloc (.cells #[.int .i64 z] 3)) (some ⟨wr.heap.size, 0, none⟩) 1 [z]) := src_boxG RInt.firm q3 rfl
            have HLb : Hid ((N.length + [z].length) * 8 ≤ 140737488355328) := by have h1 := HNl.out; have h2 := HLn.out; rw [Hid, List.length_singleton]; omega
            clear b3 q3 hRw hz hz4 hN HR HJ HTA HIn
            go_wp2_with (first | (at_builtin; refine row_appendP RInt.firm (A := (fun _ => False)) (w0 := w5) rfl _ _ 28 3 rfl _ 8 infoIntS Try.underlying28 rfl (by decide) (by decide) u9 N rfl HR3.out (some ⟨wr.heap.size, 0, none⟩) 1 1 [_] rfl HSr.out HLb.out ?_; intro v8 w8 hrow8 hg8 hw8) | fail)
            have HN8 := HS.out
            rw [← HN8] at hrow8
            have HE : Hid (Row RInt 1 (fun _ => False) w5 w8 3 v8 ((List.range (k + 1)).map (totalAt p L (w0, w1, w2, w3)))) := hrow8
            clear hrow8 hg8 hw8 HR3 HSr HLb HN8 HS
            go_roundw
            case rel => exact ⟨k + 1, by omega, by go_num, HE⟩
            case measure => simp [intOf]; omega
    · have hltz : ¬ (k : Int) < (n : Int) := by omega
      have HE : Hid (Row RInt 1 (fun _ => False) w wr 3 u9 (totalP p L (w0, w1, w2, w3))) := by
        have h1 := hrun.out
        rw [show k = L.length by rw [hn.out]; omega] at h1
        exact h1.from RInt.firm (on2 HB0.out HB5.out) (fun _ h => h)
      clear hrun
      go_wp2_with fail
      go_ret
      exact ⟨_, rfl, HE.out⟩
end Go.Proofs.Yteihniiacfghoaa
