/- Total, by the program. Condition: what is handed in lies as is said of it. Best, by the program. Condition: what is handed in lies as is said of it. Pick, by the program. Condition: what is handed in lies as is said of it. -/
import Derived.Test.YteihniiacfghoabQ12
import Derived.Test.YteihniiacfghoabQ07
namespace Go.Proofs.Yteihniiacfghoab
open Go.RowKit Go.Maps
set_option linter.unusedSimpArgs false
set_option maxRecDepth 100000

/-- The numbers of measure j. -/
def msP (p : PodD) (L : List InfoD) : Nat → List Int
  | 0 => L.map (leastP p)
  | 1 => L.map (evenP p)
  | 2 => calmP p L
  | _ => likedP p L
def wtP (w : W4) : Nat → Int
  | 0 => w.1
  | 1 => w.2.1
  | 2 => w.2.2.1
  | _ => w.2.2.2
def tpAt (p : PodD) (L : List InfoD) (w : W4) (j k : Nat) : Int := tpart (leastP p (L.getD k default)) (evenP p (L.getD k default)) ((calmP p L).getD k default) ((likedP p L).getD k default) w j
theorem ms_len (p : PodD) (L : List InfoD) (j : Nat) : (msP p L j).length = L.length := by
  unfold msP; split
  · exact List.length_map ..
  · exact List.length_map ..
  · exact calm_len p L
  · exact liked_len p L
theorem lt4 {j : Nat} (hj : j < 4) : j = 0 ∨ j = 1 ∨ j = 2 ∨ j = 3 := by omega
theorem ms_in (p : PodD) (L : List InfoD) {j k : Nat} (hj : j < 4) (hk : k < L.length) : 0 ≤ (msP p L j).getD k default ∧ (msP p L j).getD k default ≤ 100 := by
  rcases lt4 hj with rfl | rfl | rfl | rfl
  · show 0 ≤ (L.map (leastP p)).getD k default ∧ (L.map (leastP p)).getD k default ≤ 100
    rw [getD_mapS _ _ hk]; exact ⟨least_ge _ _, least_le _ _⟩
  · show 0 ≤ (L.map (evenP p)).getD k default ∧ (L.map (evenP p)).getD k default ≤ 100
    rw [getD_mapS _ _ hk]; exact ⟨even_ge _ _, even_le _ _⟩
  · exact getD_in (norm_in _ _) k
  · exact getD_in (norm_in _ _) k
theorem tpAt_step (p : PodD) (L : List InfoD) (w : W4) {j k : Nat} (hj : j < 4) (hk : k < L.length) : tpAt p L w (j + 1) k = tpAt p L w j k + (msP p L j).getD k default * cw (wtP w j) := by
  rcases lt4 hj with rfl | rfl | rfl | rfl
  · show tpart _ _ _ _ w 1 = tpart _ _ _ _ w 0 + (L.map (leastP p)).getD k default * cw w.1
    rw [getD_mapS _ _ hk]; simp only [tpart]; omega
  · show tpart _ _ _ _ w 2 = tpart _ _ _ _ w 1 + (L.map (evenP p)).getD k default * cw w.2.1
    rw [getD_mapS _ _ hk]; simp only [tpart]
  · rfl
  · rfl
theorem tpAt_in (p : PodD) (L : List InfoD) (w : W4) {j k : Nat} (hj : j < 4) : 0 ≤ tpAt p L w j k ∧ tpAt p L w j k ≤ 30000 :=
  tpart_in ⟨least_ge _ _, least_le _ _⟩ ⟨even_ge _ _, even_le _ _⟩ (getD_in (norm_in _ _) k) w hj
theorem tpAt_all (p : PodD) (L : List InfoD) (w : W4) : (List.range L.length).map (tpAt p L w 4) = totalP p L w := rfl
theorem range_getD {n k : Nat} (hk : k < n) : (List.range n).getD k default = k := by
  rw [List.getD_eq_getElem?_getD, List.getElem?_range hk]; rfl
/-- Measure j's function: what it answers in each world above. -/
def MeasF (ps : List Value) (a : Option Addr) (n cap : Nat) (W : World) (F : Value) (ms : List Int) : Prop :=
  ∃ g cb, F = .func (.func g) #[] cb ∧ (∀ args w, (callFunc g args).run Try.prog w = .ok (.enter g args) w) ∧ ∀ z, Below W.heap.size W z → Calls Try.prog g (#[.agg ps.toArray, .slice a n cap] ++ cb) z fun e w' => ∃ v, e = .returned v ∧ Row RInt 1 (fun _ => False) z w' 3 v ms
theorem meas_all (ps : List Value) (A A' : Where) (p : PodD) (a : Option Addr) (n cap : Nat) (L : List InfoD) (W : World) (b1 b2 : Nat) (hp : Hid (RPod A W ps p)) (hL : Hid (SlAt RInfo 15 208 A' W a n cap L)) (h1 : BoxL W b1 [.func (.func 11) #[] #[]]) (h2 : BoxL W b2 [.func (.func 12) #[] #[]]) {j : Nat} (hj : j < 4) :
    ∃ F, (meaC b1 b2)[j]? = some F ∧ MeasF ps a n cap W F (msP p L j) := by
  have hpz : ∀ z, Below W.heap.size W z → RPod A z ps p := fun z hz => RPod.firm.kept hp.out (Kept.below hz)
  have hLz : ∀ z, Below W.heap.size W z → SlAt RInfo 15 208 A' z a n cap L := fun z hz => hL.out.on RInfo.firm hz
  rcases lt4 hj with rfl | rfl | rfl | rfl
  · exact ⟨_, rfl, _, _, rfl, enters_of Try.func26 (by kernel_rfl) rfl, fun z hz => eachRun_calls 11 leastP one_least b1 ps A A' p a n cap L z (h1.on hz) (hpz z hz) (hLz z hz)⟩
  · exact ⟨_, rfl, _, _, rfl, enters_of Try.func26 (by kernel_rfl) rfl, fun z hz => eachRun_calls 12 evenP one_even b2 ps A A' p a n cap L z (h2.on hz) (hpz z hz) (hLz z hz)⟩
  · exact ⟨_, rfl, _, _, rfl, enters_of Try.func9 (by kernel_rfl) rfl, fun z hz => Calm_calls ps A A' p a n cap L z (hpz z hz) (hLz z hz)⟩
  · exact ⟨_, rfl, _, _, rfl, enters_of Try.func10 (by kernel_rfl) rfl, fun z hz => Liked_calls ps A A' p a n cap L z (hpz z hz) (hLz z hz)⟩
set_option maxHeartbeats 4000000 in
theorem Total_calls (ps : List Value) (A A' : Where) (p : PodD) (a : Option Addr) (n cap : Nat) (L : List InfoD) (w0 w1 w2 w3 : Int) (w : World) (hp : Hid (RPod A w ps p)) (hL : Hid (SlAt RInfo 15 208 A' w a n cap L)) : Calls Try.prog 6 #[.agg ps.toArray, .slice a n cap, .agg #[.int .i64 w0, .int .i64 w1, .int .i64 w2, .int .i64 w3]] w fun e w' => ∃ v, e = .returned v ∧ Row RInt 1 (fun _ => False) w w' 3 v (totalP p L (w0, w1, w2, w3)) := by
  have hn : Hid (L.length = n) := hL.out.1
  have HLn : Hid (n * 208 ≤ 140737488351232) := hL.out.2.2.2.1
  have hml : n < 1000000000000000 := by have := HLn.out; omega
  have hmk : n ≤ maxLen := by unfold maxLen; omega
  have hmb : 8 * n ≤ 281474976710656 := by have := HLn.out; omega
  obtain ⟨ii, hi1, hi2, hi3, hi4⟩ := infoIntE
  have hiP : (Try.prog.info? 33).map (·.size) = some ps.length := by rw [RPod.firm.len hp.out]; exact sizePodS
  obtain ⟨W2, hW2⟩ : ∃ W2, W2 = (w.alloc (.cells ps.toArray 33)).alloc (.cells #[.int .i64 w0, .int .i64 w1, .int .i64 w2, .int .i64 w3] 35) := ⟨_, rfl⟩
  have hB : PiB w W2 ps [.int .i64 w0, .int .i64 w1, .int .i64 w2, .int .i64 w3] := by rw [hW2]; exact PiB.new w ps [.int .i64 w0, .int .i64 w1, .int .i64 w2, .int .i64 w3] _ _
  have HB : Hid (PiB w W2 ps [.int .i64 w0, .int .i64 w1, .int .i64 w2, .int .i64 w3]) := hB
  have hW2' : (w.alloc (.cells ps.toArray 33)).alloc (.cells #[.int .i64 w0, .int .i64 w1, .int .i64 w2, .int .i64 w3] 35) = W2 := hW2.symm
  have hL2 : Hid (SlAt RInfo 15 208 A' W2 a n cap L) := hL.out.on RInfo.firm hB.b
  have hp2 : Hid (RPod A W2 ps p) := RPod.firm.kept hp.out (Kept.below hB.b)
  have HM := measures_calls W2
  obtain ⟨P, hP⟩ : ∃ P, P = w.heap.size := ⟨_, rfl⟩
  obtain ⟨I, hI⟩ : ∃ I, I = w.heap.size + 1 := ⟨_, rfl⟩
  have HPI : Hid (w.heap.size = P ∧ w.heap.size + 1 = I) := ⟨hP.symm, hI.symm⟩
  clear hB hp hL hP hI hW2
  go_enter Try.func6, Try.ntmps6
  go_upto_region 1 with fail
  rw [HPI.out.2, HPI.out.1]
  clear hW2'
  --M1
  go_wp2_with fail
  refine HM.mono ?_
  rintro e w3' ⟨b1, b2, rfl, q1, q2, b3⟩
  clear HM
  obtain ⟨W4, hW4⟩ : ∃ Z, Z = (w3'.alloc (.cells #[.nilFunc, .nilFunc, .nilFunc, .nilFunc] 56)).setCells w3'.heap.size 0 [.func (.func 26) #[] #[.pointer (some ⟨b1, 0, none⟩)], .func (.func 26) #[] #[.pointer (some ⟨b2, 0, none⟩)], .func (.func 9) #[] #[], .func (.func 10) #[] #[]] := ⟨_, rfl⟩
  have b4 : Below w3'.heap.size w3' W4 := by rw [hW4]; exact below_setCells ((Below.refl _ _).alloc (Nat.le_refl _) _) (Nat.le_refl _)
  have HQM : Hid (BoxL W4 w3'.heap.size (meaC b1 b2)) := by rw [hW4]; exact box_overS (BoxL.new w3' 56 [.nilFunc, .nilFunc, .nilFunc, .nilFunc]) rfl
  have HTh : Hid ((w3'.alloc (.cells #[.nilFunc, .nilFunc, .nilFunc, .nilFunc] 56)).there w3'.heap.size 0 (#[.func (.func 26) #[] #[.pointer (some ⟨b1, 0, none⟩)], .func (.func 26) #[] #[.pointer (some ⟨b2, 0, none⟩)], .func (.func 9) #[] #[], .func (.func 10) #[] #[]] : Array Value).size) := (BoxL.new w3' 56 [.nilFunc, .nilFunc, .nilFunc, .nilFunc]).there
  have HOc : Hid ((#[.func (.func 26) #[] #[.pointer (some ⟨b1, 0, none⟩)], .func (.func 26) #[] #[.pointer (some ⟨b2, 0, none⟩)], .func (.func 9) #[] #[], .func (.func 10) #[] #[]] : Array Value).all (·.oneCell') = true) := by rw [Hid]; simp [Value.oneCell']
  have hsz : (Try.prog.info? 56).map (·.size) = some (#[.func (.func 26) #[] #[.pointer (some ⟨b1, 0, none⟩)], .func (.func 26) #[] #[.pointer (some ⟨b2, 0, none⟩)], .func (.func 9) #[] #[], .func (.func 10) #[] #[]] : Array Value).size := sizeMeaS
  have HW4 : Hid (W4 = (w3'.alloc (.cells #[.nilFunc, .nilFunc, .nilFunc, .nilFunc] 56)).setCells w3'.heap.size 0 (#[.func (.func 26) #[] #[.pointer (some ⟨b1, 0, none⟩)], .func (.func 26) #[] #[.pointer (some ⟨b2, 0, none⟩)], .func (.func 9) #[] #[], .func (.func 10) #[] #[]] : Array Value).toList) := by rw [Hid, hW4]
  have HB4 : Hid (PiB w W4 ps [.int .i64 w0, .int .i64 w1, .int .i64 w2, .int .i64 w3]) := HB.out.on (on2 b3 b4)
  have HMe : Hid (∀ j, j < 4 → ∃ F, (meaC b1 b2)[j]? = some F ∧ MeasF ps a n cap W4 F (msP p L j)) := fun j hj => meas_all ps A A' p a n cap L W4 b1 b2 (RPod.firm.kept hp2.out (Kept.below (on2 b3 b4))) (hL2.out.on RInfo.firm (on2 b3 b4)) (q1.on b4) (q2.on b4) hj
  obtain ⟨M, hM⟩ : ∃ M, M = w3'.heap.size := ⟨_, rfl⟩
  have HMM : Hid (w3'.heap.size = M) := hM.symm
  rw [← hM] at HQM
  clear hW4 b4 b3 q1 q2 hM hp2 hL2 HB
  go_upto_region 2 with (first | (refine wpList_store_mid rfl 56 _ _ rfl w3'.heap.size 0 #[.func (.func 26) #[] #[.pointer (some ⟨b1, 0, none⟩)], .func (.func 26) #[] #[.pointer (some ⟨b2, 0, none⟩)], .func (.func 9) #[] #[], .func (.func 10) #[] #[]] rfl rfl HTh.out hsz HOc.out ?_; refine wpl_atG HW4.out ?_) | fail)
  rw [HMM.out]
  clear HW4 HMM HTh HOc hsz
  --M2
  go_upto_region 3 with (first | (refine wpList_make_full W4 rfl _ _ 28 rfl W4.heap.size 3 ii (.int .i64 0) 1 Try.underlying28 hi1 hi2 hi3 .i64 .i64 _ _ n rfl rfl rfl rfl (by rw [hi4]; exact hmb) hmk (Nat.le_refl _) ?_; intro w5 hr1 hg1) | fail)
  have HR0 : Hid (Row RInt 1 (fun _ => False) W4 w5 3 (.slice (some ⟨W4.heap.size, 0, none⟩) n n) ((List.range n).map (tpAt p L (w0, w1, w2, w3) 0))) := by
    have h := row_made hr1 (Below.refl _ _) hg1
    have e : (List.range n).map (tpAt p L (w0, w1, w2, w3) 0) = List.replicate n 0 := by
      have e2 : tpAt p L (w0, w1, w2, w3) 0 = fun _ => 0 := rfl
      rw [e2, List.map_const', List.length_range]
    rw [Hid, e]; exact h
  have hb5 : Below W4.heap.size W4 w5 := HR0.out.below
  have HC := (HB4.out.on hb5).y.2
  have x0 := (HC 0 _ rfl).1
  have x1 := (HC 1 _ rfl).1
  have x2 := (HC 2 _ rfl).1
  have x3 := (HC 3 _ rfl).1
  rw [HPI.out.2] at x0 x1 x2 x3
  obtain ⟨g, hg⟩ : ∃ g, g = W4.heap.size := ⟨_, rfl⟩
  rw [← hg] at HR0
  rw [← hg]
  have HG : Hid (W4.heap.size = g) := hg.symm
  clear hr1 hg1 hg hi1 hi2 hi3 hi4 hmk hmb HC hb5
  go_wp2_with fail
  --M3
  clear x0 x1 x2 x3
  go_loopw [18] (fun i wr => ∃ j : Nat, j ≤ 4 ∧ i = .int .i64 j ∧ Hid (Row RInt 1 (fun _ => False) W4 wr 3 (.slice (some ⟨g, 0, none⟩) n n) ((List.range n).map (tpAt p L (w0, w1, w2, w3) j)))) (fun i _ => 4 - (intOf i).toNat)
  case atStart => exact ⟨0, Nat.zero_le _, rfl, HR0⟩
  case round =>
    clear HR0
    obtain ⟨j, hj, rfl, hrun⟩ := hrel
    by_cases hjl : j < 4
    · have hjz : (j : Int) < 4 := by omega
      obtain ⟨F, hF, gf, cb, rfl, eg, hCf⟩ := HMe.out j hjl
      obtain ⟨x, hx⟩ : ∃ x, x = wtP (w0, w1, w2, w3) j := ⟨_, rfl⟩
      have hix : ∀ w, (Instr.index 35 (.agg #[.int .i64 w0, .int .i64 w1, .int .i64 w2, .int .i64 w3]) (.int .i64 (j : Int))).run Try.prog w = .ok (.int .i64 x) w := by intro w; rw [hx]; rcases lt4 hjl with rfl | rfl | rfl | rfl <;> kernel_rfl
      obtain ⟨c, hc⟩ : ∃ c, c = clipZ 100 x := ⟨_, rfl⟩
      have hC := between_calls x 100 (by decide) wr
      rw [← hc] at hC
      have HCx : Hid (cw (wtP (w0, w1, w2, w3) j) = c) := by rw [Hid, hc, hx]; rfl
      have hc01 : 0 ≤ c ∧ c ≤ 100 := by rw [hc]; exact ⟨clipZ_ge (by decide) _, clipZ_le (by decide) _⟩
      have hbw : Below W4.heap.size W4 wr := hrun.out.below
      have HPx : Hid (∀ z, Below wr.heap.size wr z → z.rangeAt P 0 ps) := fun z hz => by have h := (HB4.out.on (on2 hbw hz)).x.range; rw [HPI.out.1] at h; exact h
      have HMx : Hid (∀ z, Below wr.heap.size wr z → z.cell? ⟨M, j, none⟩ = some (.func (.func gf) #[] cb)) := fun z hz => ((HQM.out.on (on2 hbw hz)).2 j _ hF).1
      have HCf : Hid (∀ z, Below wr.heap.size wr z → Calls Try.prog gf (#[.agg ps.toArray, .slice a n cap] ++ cb) z fun e w' => ∃ v, e = .returned v ∧ Row RInt 1 (fun _ => False) z w' 3 v (msP p L j)) := fun z hz => hCf z (on2 hbw hz)
      clear hCf hc hx hF
      --M4
      go_wp2_with fail
      --M5
      refine hC.mono ?_
      rintro e w' ⟨rfl, hw⟩
      obtain rfl := hw.symm
      clear hC hw hix
      go_upto_region 7 with fail
      --M6
      have hb0 : Below wr.heap.size wr wr.drew := (Below.refl _ _).drew
      refine t0 (fun z => Below wr.heap.size wr z) hb0 (fun hHeld => ?_)
      generalize wr.drew = wd at hHeld ⊢
      clear hb0
      try go_frame
      refine' tk 0 ?_ ?_; rotate_left
      · intro z hz; clear hz; go_simp; try with_reducible rfl
      try go_frame
      refine' tk 1 ?_ ?_; rotate_left
      · intro z hz; clear hz; go_simp; try with_reducible rfl
      try go_frame
      refine' tk 2 ?_ ?_; rotate_left
      · intro z hz; have f := HMx.out z hz; clear hz; go_simp; try with_reducible rfl
      try go_frame
      refine tq 3 (.agg ps.toArray) (yieldsIf_load_mid (by rfl) 33 _ rfl P 0 (by go_simp) ps _ (fun z hz => HPx.out z hz) Try.underlying33 rfl hiP) ?_ (hi := rfl)
      try go_frame
      refine' tk 4 ?_ ?_; rotate_left
      · intro z hz; clear hz; go_simp; try with_reducible rfl
      try go_frame
      refine' tk 7 ?_ ?_; rotate_left
      · intro z hz; clear hz; go_simp; try with_reducible rfl
      try go_frame
      have hA := HCf.out wd hHeld
      refine tr 5 (fun K hK => ?_)
      go_simp
      --M7
      (first | refine hA.mono ?_ | (go_at_fn gf; refine hA.mono ?_))
      rintro e w7 ⟨v7, rfl, hr7⟩
      clear hA
      have hb9 : Below wr.heap.size wr w7 := on2 hHeld hr7.below
      have HWd : Hid (Below wr.heap.size wr wd) := hHeld
      go_wp2_with fail
      refine hK.out _ _ hb9 (fun hHeld2 => ?_)
      clear hb9
      clear hK K hHeld; have hHeld := hHeld2; clear hHeld2
      try go_frame
      obtain ⟨N, hN⟩ : ∃ N, N = msP p L j := ⟨_, rfl⟩
      rw [← hN] at hr7
      have HN : Hid (N = msP p L j ∧ N.length = n) := ⟨hN, by rw [hN, ms_len, hn.out]⟩
      obtain ⟨la, lc, rfl, ls⟩ := (hr7.wAG RInt.firm (A' := Fresh wd) (fun _ h => h.elim)).slF (bytes := 8) RInt.firm (by have h2 := HLn.out; have h3 := HN.out.2; omega)
      rw [HN.out.2] at ls ⊢
      have HLs : Hid (SlAt RInt 1 8 (Fresh wd) w7 la n lc N) := ls
      clear ls hN
      refine' tk 6 ?_ ?_; rotate_left
      · intro z hz; clear hz; go_simp; try with_reducible rfl
      try go_frame
      refine tz ?_
      have HRw : Hid (Row RInt 1 (fun _ => False) W4 w7 3 (.slice (some ⟨g, 0, none⟩) n n) (turnL (tpAt p L (w0, w1, w2, w3) (j + 1)) (tpAt p L (w0, w1, w2, w3) j) (List.range n) 0)) := by rw [Hid, turn_zero]; exact hrun.out.on RInt.firm hHeld
      have HGd : Hid (g < wd.heap.size) := by have h1 := hrun.out.lt (b := g) rfl; have h2 := HWd.out.size; exact Nat.lt_of_lt_of_le h1.2 h2
      clear hHeld hr7 hrun HCf HMx HPx hbw HWd eg
      go_wp2_with fail
      --M8
      go_loopw [31] (fun i z => ∃ k : Nat, k ≤ n ∧ i = .int .i64 k ∧ Hid (Row RInt 1 (fun _ => False) W4 z 3 (.slice (some ⟨g, 0, none⟩) n n) (turnL (tpAt p L (w0, w1, w2, w3) (j + 1)) (tpAt p L (w0, w1, w2, w3) j) (List.range n) k) ∧ Kept (Fresh wd) w7 z)) (fun i _ => n - (intOf i).toNat)
      case atStart => exact ⟨0, Nat.zero_le _, rfl, HRw.out, Kept.refl _ _⟩
      case round =>
        clear HRw
        obtain ⟨k, hk, rfl, hrun⟩ := hrel
        by_cases hlt : k < n
        · have hltz : (k : Int) < (n : Int) := by omega
          have hkl : k < L.length := by rw [hn.out]; exact hlt
          have hkr : k < (List.range n).length := by rw [List.length_range]; exact hlt
          obtain ⟨D, off, rfl, hD, _, cs, hra, hva⟩ := (HLs.out.kept RInt.firm hrun.out.2).get hlt
          obtain rfl : cs = [.int .i64 (N.getD k default)] := hra
          have d0 := hva 0 _ rfl
          rw [Nat.add_zero, Nat.mul_one] at d0
          have htl : (turnL (tpAt p L (w0, w1, w2, w3) (j + 1)) (tpAt p L (w0, w1, w2, w3) j) (List.range n) k).length = n := by rw [turn_len, List.length_range]
          obtain ⟨c1, c2⟩ := rowI_get hrun.out.1 htl hlt
          rw [turn_get _ _ _ hkr, range_getD hlt] at c1
          have hst := tpAt_step p L (w0, w1, w2, w3) hjl hkl
          rw [HCx.out, ← HN.out.1] at hst
          have hin1 := tpAt_in p L (w0, w1, w2, w3) (k := k) hjl
          have hin2 := ms_in p L hjl hkl
          rw [← HN.out.1] at hin2
          obtain ⟨y, hy⟩ : ∃ y, y = N.getD k default := ⟨_, rfl⟩
          obtain ⟨t, ht⟩ : ∃ t, t = tpAt p L (w0, w1, w2, w3) j k := ⟨_, rfl⟩
          obtain ⟨q, hq⟩ : ∃ q, q = y * c := ⟨_, rfl⟩
          rw [← hy] at d0 hin2 hst
          rw [← ht] at c1 hin1 hst
          rw [← hq] at hst
          have hyc : y * c = q := hq.symm
          have hq0 : 0 ≤ q ∧ q ≤ 10000 := by
            rw [hq]
            have h1 := Int.mul_nonneg hin2.1 hc01.1
            have h2 := Int.mul_le_mul hin2.2 hc01.2 hc01.1 (by decide : (0 : Int) ≤ 100)
            exact ⟨h1, h2⟩
          have hset := rowI_set (t + q) hrun.out.1 htl hlt
          have hts : (turnL (tpAt p L (w0, w1, w2, w3) (j + 1)) (tpAt p L (w0, w1, w2, w3) j) (List.range n) k).set k (t + q) = turnL (tpAt p L (w0, w1, w2, w3) (j + 1)) (tpAt p L (w0, w1, w2, w3) j) (List.range n) (k + 1) := by
            rw [← turn_set _ _ _ hkr, range_getD hlt, hst]
          rw [hts] at hset
          have HE : Hid (Row RInt 1 (fun _ => False) W4 (wr.setCell ⟨g, k, none⟩ (.int .i64 (t + q))) 3 (.slice (some ⟨g, 0, none⟩) n n) (turnL (tpAt p L (w0, w1, w2, w3) (j + 1)) (tpAt p L (w0, w1, w2, w3) j) (List.range n) (k + 1)) ∧ Kept (Fresh wd) w7 (wr.setCell ⟨g, k, none⟩ (.int .i64 (t + q)))) := ⟨hset, hrun.out.2.trans (Kept.set (fun h => by have h1 := HGd.out; exact Nat.lt_irrefl _ (Nat.lt_of_lt_of_le h1 h)) _)⟩
          clear hset hts hst hy ht hq hva htl hrun hkr hkl
          --M9
          go_wp2_with fail
          go_roundw
          case rel => exact ⟨k + 1, by omega, by go_num, HE⟩
          case measure => simp [intOf]; omega
        · have hltz : ¬ (k : Int) < (n : Int) := by omega
          have hkn : k = n := by omega
          have HE : Hid (Row RInt 1 (fun _ => False) W4 wr 3 (.slice (some ⟨g, 0, none⟩) n n) ((List.range n).map (tpAt p L (w0, w1, w2, w3) (j + 1)))) := by
            have h := hrun.out.1
            have e := turn_all (tpAt p L (w0, w1, w2, w3) (j + 1)) (tpAt p L (w0, w1, w2, w3) j) (List.range n)
            rw [List.length_range] at e
            rw [hkn, e] at h
            exact h
          clear hrun hkn
          --M10
          go_wp2_with fail
          go_roundw
          case rel => exact ⟨j + 1, by omega, by go_num, HE⟩
          case measure => simp [intOf]; omega
    · have hjz : ¬ (j : Int) < 4 := by omega
      have hj4 : j = 4 := by omega
      have HE : Hid (Row RInt 1 (fun _ => False) w wr 3 (.slice (some ⟨g, 0, none⟩) n n) (totalP p L (w0, w1, w2, w3))) := by
        have h := hrun.out
        rw [hj4, ← hn.out, tpAt_all, hn.out] at h
        exact h.fromG HB4.out.b
      clear hrun hj4
      go_wp2_with fail
      go_ret
      exact ⟨_, rfl, HE.out⟩
end Go.Proofs.Yteihniiacfghoab
namespace Go.Proofs.Yteihniiacfghoab
open Go.RowKit Go.Maps
set_option linter.unusedSimpArgs false
set_option maxRecDepth 100000

/-- A row cut down to nothing, its room kept. -/
theorem Row.clearS {α : Type} [Inhabited α] {R : Rep α} {k : Nat} {A : Where} {w0 u : World} {e : TypeId} {g n cap : Nat} {L : List α} (h : Row R k A w0 u e (.slice (some ⟨g, 0, none⟩) n cap) L) : Row R k A w0 u e (.slice (some ⟨g, 0, none⟩) 0 cap) ([] : List α) := by
  obtain ⟨xs, ⟨hb, hl, ⟨e1, _⟩ | ⟨g', cap', cur, e1, hBg, hg, hcp, hcm, hsz, htk⟩⟩, hch⟩ := h
  · cases e1
  simp only [Value.slice.injEq, Option.some.injEq, Addr.mk.injEq, and_true, true_and] at e1
  obtain ⟨rfl, _, rfl⟩ := e1
  exact ⟨[], ⟨hb, by simp, .inr ⟨g, cap, cur, rfl, hBg, hg, Nat.zero_le _, hcm, hsz, by simp⟩⟩, Chunks.nil _ _⟩
set_option maxHeartbeats 4000000 in
theorem Best_calls (a : Option Addr) (n cap : Nat) (A : Where) (s : List Int) (b : Option Addr) (m capb : Nat) (B : Where) (may : List Bool) (w : World) (hS : Hid (SlAt RInt 1 8 A w a n cap s)) (hM : Hid (SlAt RBool 1 1 B w b m capb may)) : Calls Try.prog 25 #[.slice a n cap, .slice b m capb] w fun e w' => ∃ v, e = .returned v ∧ Row RInt 1 (fun _ => False) w w' 3 v ((bestP s may).map (fun i : Nat => (i : Int))) := by
  have hn : Hid (s.length = n) := hS.out.1
  have hm : Hid (may.length = m) := hM.out.1
  have HLn : Hid (n * 8 ≤ 140737488351232) := hS.out.2.2.2.1
  have hnl : n < 1000000000000000 := by have := HLn.out; omega
  have hml : m < 1000000000000000 := by have := hM.out.2.2.2.1; omega
  have HR0 : Hid (Row RInt 1 (fun _ => False) w w 3 (.slice none 0 0) ((bestTo s may 0).map (fun i : Nat => (i : Int)))) := Row.nil _ w _
  obtain ⟨K, hK⟩ : ∃ K, K = min n m := ⟨_, rfl⟩
  have hKn : K ≤ n := by omega
  have hKm : K ≤ m := by omega
  have hmi : (if (m : Int) < (n : Int) then (m : Int) else (n : Int)) = (K : Int) := by split <;> omega
  have hmi2 : (if (n : Int) < (m : Int) then (n : Int) else (m : Int)) = (K : Int) := by split <;> omega
  have hmi4 : (if m < n then (m : Int) else (n : Int)) = (K : Int) := by split <;> omega
  have hmi5 : (if n < m then (n : Int) else (m : Int)) = (K : Int) := by split <;> omega
  have hmi3 : min (n : Int) (m : Int) = (K : Int) := by omega
  have HK : Hid (min s.length may.length = K) := by rw [hn.out, hm.out, hK]; rfl
  clear hK
  go_enter Try.func25, Try.ntmps25
  go_wp2_with fail
  --M0
  clear hmi hmi2 hmi3 hmi4 hmi5
  go_loopw [5, 12] (fun v i wr => ∃ k : Nat, k ≤ K ∧ i = .int .i64 k ∧ Hid (Row RInt 1 (fun _ => False) w wr 3 v ((bestTo s may k).map (fun i : Nat => (i : Int))))) (fun _ i _ => K - (intOf i).toNat)
  case atStart => exact ⟨0, Nat.zero_le _, rfl, HR0⟩
  case round =>
    clear HR0
    obtain ⟨k, hkK, rfl, hrun⟩ := hrel
    by_cases hltK : k < K
    · have hltKz : (k : Int) < (K : Int) := by omega
      have hlt : k < n := by omega
      have hlm : k < m := by omega
      have hltz : (k : Int) < (n : Int) := by omega
      have hlmz : (k : Int) < (m : Int) := by omega
      obtain ⟨D, off, rfl, hD, _, cs, hra, hva⟩ := (hS.out.on RInt.firm hrun.out.below).get hlt
      obtain rfl : cs = [.int .i64 (s.getD k default)] := hra
      have d0 := hva 0 _ rfl
      rw [Nat.add_zero, Nat.mul_one] at d0
      obtain ⟨E, of2, rfl, hE, _, ds, hrb, hvb⟩ := (hM.out.on RBool.firm hrun.out.below).get hlm
      obtain rfl : ds = [.bool (may.getD k default)] := hrb
      have e0 := hvb 0 _ rfl
      rw [Nat.add_zero, Nat.mul_one] at e0
      obtain ⟨x, hx⟩ : ∃ x, x = s.getD k default := ⟨_, rfl⟩
      obtain ⟨y, hy⟩ : ∃ y, y = may.getD k default := ⟨_, rfl⟩
      obtain ⟨O, hO⟩ : ∃ O, O = bestTo s may k := ⟨_, rfl⟩
      have HNx : Hid (bestTo s may (k + 1) = bestStep s may O k) := by rw [hO]; rfl
      have HOl : Hid (O.length ≤ k) := by rw [hO]; exact best_len s may k
      have HOm : Hid (∀ i ∈ O, i < k) := by rw [hO]; exact best_lt s may k
      have HY : Hid (may.getD k default = y) := hy.symm
      have HX : Hid (s.getD k default = x) := hx.symm
      rw [← hx] at d0
      rw [← hy] at e0
      rw [← hO] at hrun
      clear hva hvb hO hx hy
      cases y
      · have HE : Hid (Row RInt 1 (fun _ => False) w wr 3 u5 ((bestTo s may (k + 1)).map (fun i : Nat => (i : Int)))) := by rw [HNx.out, bestStep, HY.out, if_neg (by decide)]; exact hrun.out
        clear HNx HY HX d0 hrun
        go_wp2_with fail
        go_roundw
        case rel => exact ⟨k + 1, by omega, by go_num, HE⟩
        case measure => simp [intOf]; omega
      · --M1
        cases O with
        | nil =>
          obtain ⟨la, ln, lc, hu⟩ := hrun.out.headG
          have hln : ln = 0 := by
            obtain ⟨xs, ⟨_, _, ⟨e1, h0⟩ | ⟨g', cap', cur, e1, _⟩⟩, _⟩ := hrun.out
            · rw [hu] at e1; simp only [Value.slice.injEq] at e1; simpa using e1.2.1
            · rw [hu] at e1; simp only [Value.slice.injEq] at e1; simpa using e1.2.1
          subst hln
          subst hu
          have HB2 : Hid (((bestTo s may (k + 1)).map (fun i : Nat => (i : Int))) = (([] : List Nat).map (fun i : Nat => (i : Int))) ++ [(k : Int)]) := by rw [HNx.out, bestStep, HY.out, if_pos rfl, if_pos (.inl rfl)]; rfl
          have HLb : Hid (((([] : List Nat).map (fun i : Nat => (i : Int))).length + [(k : Int)].length) * 8 ≤ 140737488355328) := by show (0 + 1) * 8 ≤ 140737488355328; decide
          have HB : Hid (∀ z, Below wr.heap.size wr z → Row RInt 1 (fun _ => False) w z 3 (.slice la 0 lc) (([] : List Nat).map (fun i : Nat => (i : Int)))) := fun z hz => hrun.out.on RInt.firm hz
          clear HNx HY HX HOl HOm hrun
          go_upto_region 6 with fail
          go_quiet (fail)
          go_upto_region 8 with fail
          go_quiet (fail)
          generalize hZ : World.drewN _ _ = Z
          have HRw : Hid (Row RInt 1 (fun _ => False) w Z 3 (.slice la 0 lc) (([] : List Nat).map (fun i : Nat => (i : Int)))) := HB.out Z (by rw [← hZ]; exact below_drewN (below_drewN (Below.refl _ _) _) _)
          clear hZ HB
          --M2
          have b3 : Below Z.heap.size Z (Z.alloc (.cells #[.int .i64 (k : Int)] 3)) := (Below.refl _ _).alloc (Nat.le_refl _) _
          have q3 : BoxL (Z.alloc (.cells #[.int .i64 (k : Int)] 3)) Z.heap.size [.int .i64 (k : Int)] := BoxL.new Z 3 _
          have HR3 : Hid (Row RInt 1 (fun _ => False) w (Z.alloc (.cells #[.int .i64 (k : Int)] 3)) 3 (.slice la 0 lc) (([] : List Nat).map (fun i : Nat => (i : Int)))) := HRw.out.on RInt.firm b3
          have HSr : Hid (Src RInt 1 (fun b => False ∧ Value.ownBlock (.slice la 0 lc) ≠ some b) (Z.alloc (.cells #[.int .i64 (k : Int)] 3)) (some ⟨Z.heap.size, 0, none⟩) 1 [(k : Int)]) := src_boxG RInt.firm q3 rfl
          clear b3 q3 HRw
          go_wp2_with (first | (at_builtin; refine row_appendP RInt.firm (A := (fun _ => False)) (w0 := w) rfl _ _ 28 3 rfl _ 8 infoIntS Try.underlying28 rfl (by decide) (by decide) (.slice la 0 lc) (([] : List Nat).map (fun i : Nat => (i : Int))) rfl HR3.out (some ⟨Z.heap.size, 0, none⟩) 1 1 [_] rfl HSr.out HLb.out ?_; intro v8 w8 hrow8 hg8 hw8) | fail)
          have HE : Hid (Row RInt 1 (fun _ => False) w w8 3 v8 ((bestTo s may (k + 1)).map (fun i : Nat => (i : Int)))) := by rw [HB2.out]; exact hrow8
          clear hrow8 hg8 hw8 HR3 HSr HLb HB2
          go_roundw
          case rel => exact ⟨k + 1, by omega, by go_num, HE⟩
          case measure => simp [intOf]; omega
        | cons o0 O1 =>
          obtain ⟨g, c, cs2, hu, hg, hr2, hc2⟩ := hrun.out.getG RInt.firm (i := 0) (by simp)
          obtain rfl : cs2 = [.int .i64 (o0 : Int)] := hr2
          have f0 := hc2 0 _ rfl
          rw [Nat.zero_mul, Nat.add_zero] at f0
          have ho0 : o0 < k := HOm.out o0 List.mem_cons_self
          obtain ⟨_, _, hDD, _, _, cs3, hra3, hva3⟩ := (hS.out.on RInt.firm hrun.out.below).get (Nat.lt_trans ho0 hlt)
          obtain ⟨rfl, rfl⟩ : D = _ ∧ off = _ := by simpa using hDD
          obtain rfl : cs3 = [.int .i64 (s.getD o0 default)] := hra3
          have g0 := hva3 0 _ rfl
          rw [Nat.add_zero, Nat.mul_one] at g0
          obtain ⟨x0, hx0⟩ : ∃ x, x = s.getD o0 default := ⟨_, rfl⟩
          rw [← hx0] at g0
          have HX0 : Hid (s.getD o0 default = x0) := hx0.symm
          obtain ⟨ln, hln⟩ : ∃ ln, ln = ((o0 :: O1).map (fun i : Nat => (i : Int))).length := ⟨_, rfl⟩
          have hlp : 0 < ln := by rw [hln]; simp
          have hll : ln < 1000000000000000 := by have := HOl.out; rw [hln, List.length_map]; omega
          have HLb : Hid ((((o0 :: O1).map (fun i : Nat => (i : Int))).length + [(k : Int)].length) * 8 ≤ 140737488355328) := by have h1 := HOl.out; have h2 := HLn.out; rw [Hid, List.length_map, List.length_singleton]; omega
          have hlz : (0 : Int) < (ln : Int) := by omega
          have hlz2 : ((ln : Int) == 0) = false := by simpa using (by omega : ¬ (ln : Int) = 0)
          have hoz : (o0 : Int) < (n : Int) := by omega
          have hon : o0 < n := by omega
          rw [← hln] at hu
          subst hu
          have HB : Hid (∀ z, Below wr.heap.size wr z → Row RInt 1 (fun _ => False) w z 3 (.slice (some ⟨g, 0, none⟩) ln c) ((o0 :: O1).map (fun i : Nat => (i : Int)))) := fun z hz => hrun.out.on RInt.firm hz
          have HBw : Hid (Below w.heap.size w wr) := hrun.out.below
          clear hc2 hva3 hDD hx0 hln HOl HOm
          --M3
          rcases Int.lt_trichotomy x0 x with h | h | h
          · have HB2 : Hid (((bestTo s may (k + 1)).map (fun i : Nat => (i : Int))) = (([] : List Nat).map (fun i : Nat => (i : Int))) ++ [(k : Int)]) := by rw [HNx.out, bestStep, HY.out, if_pos rfl, if_pos (.inr (by rw [HX.out]; show s.getD o0 default < x; rw [HX0.out]; exact h))]; rfl
            clear HLb
            have HLb : Hid (((([] : List Nat).map (fun i : Nat => (i : Int))).length + [(k : Int)].length) * 8 ≤ 140737488355328) := by show (0 + 1) * 8 ≤ 140737488355328; decide
            have HRc : Hid (Row RInt 1 (fun _ => False) w wr 3 (.slice (some ⟨g, 0, none⟩) 0 c) (([] : List Nat).map (fun i : Nat => (i : Int)))) := (HB.out wr (Below.refl _ _)).clearS
            clear HNx HY HX HX0 hrun HB
            go_upto_region 6 with fail
            go_quiet (fail)
            --M5
            go_upto_region 8 with fail
            go_quiet (fail)
            generalize hZ : World.drewN _ _ = Z
            have HRw : Hid (Row RInt 1 (fun _ => False) w Z 3 (.slice (some ⟨g, 0, none⟩) 0 c) (([] : List Nat).map (fun i : Nat => (i : Int)))) := by rw [← hZ]; exact HRc.out.on RInt.firm (below_drewN (below_drewN (Below.refl _ _) _) _)
            clear hZ HRc
            --M4
            have b3 : Below Z.heap.size Z (Z.alloc (.cells #[.int .i64 (k : Int)] 3)) := (Below.refl _ _).alloc (Nat.le_refl _) _
            have q3 : BoxL (Z.alloc (.cells #[.int .i64 (k : Int)] 3)) Z.heap.size [.int .i64 (k : Int)] := BoxL.new Z 3 _
            have HR3 : Hid (Row RInt 1 (fun _ => False) w (Z.alloc (.cells #[.int .i64 (k : Int)] 3)) 3 (.slice (some ⟨g, 0, none⟩) 0 c) (([] : List Nat).map (fun i : Nat => (i : Int)))) := HRw.out.on RInt.firm b3
            have HSr : Hid (Src RInt 1 (fun b => False ∧ Value.ownBlock (.slice (some ⟨g, 0, none⟩) 0 c) ≠ some b) (Z.alloc (.cells #[.int .i64 (k : Int)] 3)) (some ⟨Z.heap.size, 0, none⟩) 1 [(k : Int)]) := src_boxG RInt.firm q3 rfl
            clear b3 q3 HRw
            go_wp2_with (first | (at_builtin; refine row_appendP RInt.firm (A := (fun _ => False)) (w0 := w) rfl _ _ 28 3 rfl _ 8 infoIntS Try.underlying28 rfl (by decide) (by decide) (.slice (some ⟨g, 0, none⟩) 0 c) (([] : List Nat).map (fun i : Nat => (i : Int))) rfl HR3.out (some ⟨Z.heap.size, 0, none⟩) 1 1 [_] rfl HSr.out HLb.out ?_; intro v8 w8 hrow8 hg8 hw8) | fail)
            have HE : Hid (Row RInt 1 (fun _ => False) w w8 3 v8 ((bestTo s may (k + 1)).map (fun i : Nat => (i : Int)))) := by rw [HB2.out]; exact hrow8
            clear hrow8 hg8 hw8 HR3 HSr HLb HB2
            go_roundw
            case rel => exact ⟨k + 1, by omega, by go_num, HE⟩
            case measure => simp [intOf]; omega
          · have HB2 : Hid (((bestTo s may (k + 1)).map (fun i : Nat => (i : Int))) = ((o0 :: O1).map (fun i : Nat => (i : Int))) ++ [(k : Int)]) := by rw [HNx.out, bestStep, HY.out, if_pos rfl, if_neg (fun e => e.elim (fun e => by cases e) (fun e => by rw [HX.out] at e; have e : s.getD o0 default < x := e; rw [HX0.out] at e; omega)), if_pos (by rw [HX.out]; show x = s.getD o0 default; rw [HX0.out]; exact h.symm), List.map_append]; rfl
            subst h
            clear HNx HY HX HX0 hrun
            go_upto_region 6 with fail
            go_quiet (fail)
            go_upto_region 8 with fail
            go_quiet (fail)
            generalize hZ : World.drewN _ _ = Z
            have HRw : Hid (Row RInt 1 (fun _ => False) w Z 3 (.slice (some ⟨g, 0, none⟩) ln c) ((o0 :: O1).map (fun i : Nat => (i : Int)))) := HB.out Z (by rw [← hZ]; exact below_drewN (below_drewN (Below.refl _ _) _) _)
            clear hZ HB
            have b3 : Below Z.heap.size Z (Z.alloc (.cells #[.int .i64 (k : Int)] 3)) := (Below.refl _ _).alloc (Nat.le_refl _) _
            have q3 : BoxL (Z.alloc (.cells #[.int .i64 (k : Int)] 3)) Z.heap.size [.int .i64 (k : Int)] := BoxL.new Z 3 _
            have HR3 : Hid (Row RInt 1 (fun _ => False) w (Z.alloc (.cells #[.int .i64 (k : Int)] 3)) 3 (.slice (some ⟨g, 0, none⟩) ln c) ((o0 :: O1).map (fun i : Nat => (i : Int)))) := HRw.out.on RInt.firm b3
            have HSr : Hid (Src RInt 1 (fun b => False ∧ Value.ownBlock (.slice (some ⟨g, 0, none⟩) ln c) ≠ some b) (Z.alloc (.cells #[.int .i64 (k : Int)] 3)) (some ⟨Z.heap.size, 0, none⟩) 1 [(k : Int)]) := src_boxG RInt.firm q3 rfl
            clear b3 q3 HRw
            go_wp2_with (first | (at_builtin; refine row_appendP RInt.firm (A := (fun _ => False)) (w0 := w) rfl _ _ 28 3 rfl _ 8 infoIntS Try.underlying28 rfl (by decide) (by decide) (.slice (some ⟨g, 0, none⟩) ln c) ((o0 :: O1).map (fun i : Nat => (i : Int))) rfl HR3.out (some ⟨Z.heap.size, 0, none⟩) 1 1 [_] rfl HSr.out HLb.out ?_; intro v8 w8 hrow8 hg8 hw8) | fail)
            have HE : Hid (Row RInt 1 (fun _ => False) w w8 3 v8 ((bestTo s may (k + 1)).map (fun i : Nat => (i : Int)))) := by rw [HB2.out]; exact hrow8
            clear hrow8 hg8 hw8 HR3 HSr HLb HB2
            go_roundw
            case rel => exact ⟨k + 1, by omega, by go_num, HE⟩
            case measure => simp [intOf]; omega
          · have hnx : ¬ x0 < x := by omega
            have hne : (x == x0) = false := by simpa using (by omega : ¬ x = x0)
            have HE0 : Hid (((bestTo s may (k + 1)).map (fun i : Nat => (i : Int))) = ((o0 :: O1).map (fun i : Nat => (i : Int)))) := by rw [HNx.out, bestStep, HY.out, if_pos rfl, if_neg (fun e => e.elim (fun e => by cases e) (fun e => by rw [HX.out] at e; have e : s.getD o0 default < x := e; rw [HX0.out] at e; omega)), if_neg (by rw [HX.out]; show ¬ x = s.getD o0 default; rw [HX0.out]; omega)]; exact rfl
            clear HNx HY HX HX0 hrun
            go_upto_region 6 with fail
            go_quiet (fail)
            go_upto_region 8 with fail
            go_quiet (fail)
            generalize hZ : World.drewN _ _ = Z
            have HE : Hid (Row RInt 1 (fun _ => False) w Z 3 (.slice (some ⟨g, 0, none⟩) ln c) ((bestTo s may (k + 1)).map (fun i : Nat => (i : Int)))) := by rw [HE0.out]; exact HB.out Z (by rw [← hZ]; exact below_drewN (below_drewN (Below.refl _ _) _) _)
            clear hZ HB HE0
            go_wp2_with fail
            go_roundw
            case rel => exact ⟨k + 1, by omega, by go_num, HE⟩
            case measure => simp [intOf]; omega
    · have hltKz : ¬ (k : Int) < (K : Int) := by omega
      have HE : Hid (Row RInt 1 (fun _ => False) w wr 3 u5 ((bestP s may).map (fun i : Nat => (i : Int)))) := by have h1 := hrun.out; unfold bestP; rw [HK.out, show K = k by omega]; exact h1
      clear hrun
      go_wp2_with fail
      go_ret
      exact ⟨_, rfl, HE.out⟩
end Go.Proofs.Yteihniiacfghoab
namespace Go.Proofs.Yteihniiacfghoab
open Go.RowKit
set_option linter.unusedSimpArgs false
set_option maxRecDepth 100000

set_option maxHeartbeats 2000000 in
theorem Pick_calls (a : Option Addr) (n cap : Nat) (A : Where) (s : List Int) (b : Option Addr) (m capb : Nat) (B : Where) (may : List Bool) (d : Int) (w : World) (hS : Hid (SlAt RInt 1 8 A w a n cap s)) (hM : Hid (SlAt RBool 1 1 B w b m capb may)) : Calls Try.prog 14 #[.slice a n cap, .slice b m capb, .int .i64 d] w fun e w' => e = .returned (.int .i64 (pickP s may d)) ∧ Below w.heap.size w w' := by
  have hB := Best_calls a n cap A s b m capb B may w hS hM
  have HLn : Hid (n * 8 ≤ 140737488351232) := hS.out.2.2.2.1
  have hn : Hid (s.length = n) := hS.out.1
  obtain ⟨O, hO⟩ : ∃ O, O = bestP s may := ⟨_, rfl⟩
  have HOl : Hid (O.length ≤ n) := by rw [hO, ← hn.out]; exact Nat.le_trans (best_len s may _) (Nat.min_le_left _ _)
  have HP : Hid (pickP s may d = if O = [] then -1 else ((O.getD (unsI d % (O.length : Int)).toNat default : Nat) : Int)) := by rw [Hid, pickP, hO]
  rw [← hO] at hB
  clear hO hS hM
  go_enter Try.func14, Try.ntmps14
  go_wp2_with fail
  refine hB.mono ?_
  rintro e w2 ⟨v, rfl, hr⟩
  obtain ⟨la, lc, rfl, sl⟩ := (hr.wAG RInt.firm (A' := Fresh w) (fun _ h => h.elim)).slF (bytes := 8) RInt.firm (by have h1 := HOl.out; have h2 := HLn.out; rw [List.length_map]; omega)
  obtain ⟨q, hq⟩ : ∃ q, q = O.length := ⟨_, rfl⟩
  have hql : (O.map (fun i : Nat => (i : Int))).length = q := by rw [List.length_map, hq]
  rw [hql] at sl ⊢
  have hq1 : q < 1000000000000000 := by have h1 := HOl.out; have h2 := HLn.out; omega
  have HBw : Hid (Below w.heap.size w w2) := hr.below
  have HS : Hid (SlAt RInt 1 8 (Fresh w) w2 la q lc (O.map (fun i : Nat => (i : Int)))) := sl
  clear hB hr sl
  by_cases h0 : q = 0
  · have hO0 : O = [] := List.length_eq_zero_iff.1 (by omega)
    rw [if_pos hO0] at HP
    have hq0 : ((q : Int) == 0) = true := by simpa using h0
    clear hql hO0
    go_wp2_with fail
    rw [HP.out]
    go_ret
    exact ⟨rfl, HBw.out⟩
  · have hq0 : ((q : Int) == 0) = false := by simpa using h0
    have hqz : (q : Int) ≠ 0 := by omega
    rw [if_neg (fun e => h0 (by rw [hq, e]; rfl)), ← hq] at HP
    obtain ⟨u, hu⟩ : ∃ u, u = unsI d := ⟨_, rfl⟩
    rw [← hu] at HP
    have hu01 : 0 ≤ u ∧ u < 18446744073709551616 := by rw [hu]; unfold unsI; omega
    obtain ⟨j, hj⟩ : ∃ j : Nat, j = (u % (q : Int)).toNat := ⟨_, rfl⟩
    have hjz : u % (q : Int) = (j : Int) := by rw [hj]; exact (Int.toNat_of_nonneg (Int.emod_nonneg _ hqz)).symm
    have hjq : j < q := by have := Int.emod_lt_of_pos u (show (0 : Int) < (q : Int) by omega); omega
    rw [← hj] at HP
    obtain ⟨D, off, rfl, hD, _, cs, hra, hva⟩ := HS.out.get hjq
    obtain rfl : cs = [.int .i64 ((O.map (fun i : Nat => (i : Int))).getD j default)] := hra
    have d0 := hva 0 _ rfl
    have hx : (O.map (fun i : Nat => (i : Int))).getD j default = ((O.getD j default : Nat) : Int) := by rw [List.getD_eq_getElem?_getD, List.getD_eq_getElem?_getD, List.getElem?_map]; rw [List.getElem?_eq_getElem (by omega : j < O.length)]; rfl
    obtain ⟨r, hr⟩ : ∃ r : Int, r = ((O.getD j default : Nat) : Int) := ⟨_, rfl⟩
    rw [Nat.add_zero, Nat.mul_one, hx, ← hr] at d0
    rw [← hr] at HP
    have hjq2 : (j : Int) < (q : Int) := by omega
    have hall : (IntKind.u64.wrap d).tmod (q : Int) = (j : Int) := by
      have h1 : IntKind.u64.wrap d = u := by rw [hu, unsI, IntKind.wrap_u64]
      rw [h1, Int.tmod_eq_emod_of_nonneg hu01.1, hjz]
    clear hr hx hva hj hql hq
    --M1
    go_wp2_with fail
    --M2
    rw [HP.out]
    go_ret
    exact ⟨rfl, HBw.out⟩
end Go.Proofs.Yteihniiacfghoab
