/- measures. No condition. Best, by the document. Condition: what is handed in lies as is said of it. -/
import Derived.Test.YteihniiacfghoaaQ14
import Derived.Test.YteihniiacfghoaaQ05
import Derived.BigQuiet
namespace Go.Proofs.Yteihniiacfghoaa
open Go.RowKit Go.Maps
set_option linter.unusedSimpArgs false
set_option maxRecDepth 100000

theorem sizeMeaS : (Try.prog.info? 68).map (·.size) = some 4 := by kernel_rfl
/-- The four measures, over the boxes of each's functions. -/
def meaC (b1 b2 : Nat) : List Value := [.func (.func 50) #[] #[.pointer (some ⟨b1, 0, none⟩)], .func (.func 50) #[] #[.pointer (some ⟨b2, 0, none⟩)], .func (.func 15) #[] #[], .func (.func 17) #[] #[]]
set_option maxHeartbeats 4000000 in
theorem measures_calls (w : World) : Calls Try.prog 43 #[] w fun e w' => ∃ b1 b2, e = .returned (.agg #[.func (.func 50) #[] #[.pointer (some ⟨b1, 0, none⟩)], .func (.func 50) #[] #[.pointer (some ⟨b2, 0, none⟩)], .func (.func 15) #[] #[], .func (.func 17) #[] #[]]) ∧ BoxL w' b1 [.func (.func 10) #[] #[]] ∧ BoxL w' b2 [.func (.func 12) #[] #[]] ∧ Below w.heap.size w w' := by
  obtain ⟨W1, hW1⟩ : ∃ Z, Z = w.alloc (.cells #[.nilFunc, .nilFunc, .nilFunc, .nilFunc] 68) := ⟨_, rfl⟩
  have HB1 : Hid (Below w.heap.size w W1) := by rw [hW1]; exact (Below.refl _ _).alloc (Nat.le_refl _) _
  have HX : Hid (BoxL W1 w.heap.size [.nilFunc, .nilFunc, .nilFunc, .nilFunc]) := by rw [hW1]; exact BoxL.new w 68 _
  have HW1 : Hid (w.alloc (.cells #[.nilFunc, .nilFunc, .nilFunc, .nilFunc] 68) = W1) := hW1.symm
  obtain ⟨D, hD⟩ : ∃ D, D = w.heap.size := ⟨_, rfl⟩
  have HD : Hid (w.heap.size = D) := hD.symm
  rw [← hD] at HX
  clear hW1 hD
  go_enter Try.func43, Try.ntmps43
  go_upto_region 1 with fail
  rw [HW1.out, HD.out]
  clear HW1
  --M1
  go_wp2_with fail
  refine (each_calls (.func (.func 10) #[] #[]) rfl W1).mono ?_
  rintro e w3 ⟨rfl, q1, b3⟩
  have HQ1 : Hid (BoxL w3 W1.heap.size [.func (.func 10) #[] #[]]) := q1
  have HB3 : Hid (Below W1.heap.size W1 w3) := b3
  have HDl : Hid (D < W1.heap.size) := HX.out.1
  obtain ⟨b1, hb1⟩ : ∃ b, b = W1.heap.size := ⟨_, rfl⟩
  rw [← hb1] at HQ1 HDl ⊢
  clear q1 b3 hb1
  --M2
  go_wp2_with fail
  refine (each_calls (.func (.func 12) #[] #[]) rfl w3).mono ?_
  rintro e w4 ⟨rfl, q2, b4⟩
  have HQ2 : Hid (BoxL w4 w3.heap.size [.func (.func 12) #[] #[]]) := q2
  have HQ1' : Hid (BoxL w4 b1 [.func (.func 10) #[] #[]]) := HQ1.out.on b4
  have HX4 : Hid (BoxL w4 D [.nilFunc, .nilFunc, .nilFunc, .nilFunc]) := HX.out.on (on2 HB3.out b4)
  have HB4 : Hid (Below w.heap.size w w4) := on2 HB1.out (on2 HB3.out b4)
  have HDl2 : Hid (D < w3.heap.size) := Nat.lt_of_lt_of_le HX.out.1 HB3.out.size
  obtain ⟨b2, hb2⟩ : ∃ b, b = w3.heap.size := ⟨_, rfl⟩
  rw [← hb2] at HQ2 HDl2 ⊢
  clear q2 b4 hb2 HQ1 HB3 HB1 HX
  obtain ⟨V, hV⟩ : ∃ V, V = w4.setCells D 0 [.func (.func 50) #[] #[.pointer (some ⟨b1, 0, none⟩)], .func (.func 50) #[] #[.pointer (some ⟨b2, 0, none⟩)], .func (.func 15) #[] #[], .func (.func 17) #[] #[]] := ⟨_, rfl⟩
  have HTh : Hid (w4.there D 0 (#[.func (.func 50) #[] #[.pointer (some ⟨b1, 0, none⟩)], .func (.func 50) #[] #[.pointer (some ⟨b2, 0, none⟩)], .func (.func 15) #[] #[], .func (.func 17) #[] #[]] : Array Value).size) := HX4.out.there
  have HWV : Hid (V = w4.setCells D 0 (#[.func (.func 50) #[] #[.pointer (some ⟨b1, 0, none⟩)], .func (.func 50) #[] #[.pointer (some ⟨b2, 0, none⟩)], .func (.func 15) #[] #[], .func (.func 17) #[] #[]] : Array Value).toList) := by rw [Hid, hV]
  have HOc : Hid ((#[.func (.func 50) #[] #[.pointer (some ⟨b1, 0, none⟩)], .func (.func 50) #[] #[.pointer (some ⟨b2, 0, none⟩)], .func (.func 15) #[] #[], .func (.func 17) #[] #[]] : Array Value).all (·.oneCell') = true) := by rw [Hid]; simp [Value.oneCell']
  have hsz : (Try.prog.info? 68).map (·.size) = some (#[.func (.func 50) #[] #[.pointer (some ⟨b1, 0, none⟩)], .func (.func 50) #[] #[.pointer (some ⟨b2, 0, none⟩)], .func (.func 15) #[] #[], .func (.func 17) #[] #[]] : Array Value).size := sizeMeaS
  have kV : Kept (fun b => b ≠ D) w4 V := by rw [hV]; exact kept_setCells (fun h => h rfl)
  have bV : Below w.heap.size w V := by rw [hV]; exact below_setCells HB4.out (Nat.le_of_eq HD.out)
  have qV : BoxL V D [.func (.func 50) #[] #[.pointer (some ⟨b1, 0, none⟩)], .func (.func 50) #[] #[.pointer (some ⟨b2, 0, none⟩)], .func (.func 15) #[] #[], .func (.func 17) #[] #[]] := by rw [hV]; exact box_overS HX4.out rfl
  have HOut : Hid (BoxL V b1 [.func (.func 10) #[] #[]] ∧ BoxL V b2 [.func (.func 12) #[] #[]] ∧ Below w.heap.size w V) := ⟨HQ1'.out.kept kV (fun e => by have := HDl.out; omega), HQ2.out.kept kV (fun e => by have := HDl2.out; omega), bV⟩
  have t0' := (qV.2 0 _ rfl).1
  have t1' := (qV.2 1 _ rfl).1
  have t2' := (qV.2 2 _ rfl).1
  have t3' := (qV.2 3 _ rfl).1
  clear kV bV qV hV HX4 HQ1' HQ2 HB4 HDl HDl2
  --M3
  go_wp2_with (first | (refine wpList_store_mid rfl 68 _ _ rfl D 0 #[.func (.func 50) #[] #[.pointer (some ⟨b1, 0, none⟩)], .func (.func 50) #[] #[.pointer (some ⟨b2, 0, none⟩)], .func (.func 15) #[] #[], .func (.func 17) #[] #[]] rfl rfl HTh.out hsz HOc.out ?_; refine wpl_atG HWV.out ?_) | fail)
  --M4
  refine bodyPost_ret (v := .agg #[.func (.func 50) #[] #[.pointer (some ⟨b1, 0, none⟩)], .func (.func 50) #[] #[.pointer (some ⟨b2, 0, none⟩)], .func (.func 15) #[] #[], .func (.func 17) #[] #[]]) (by simp [results, Try.results43, go_sem, t0', t1', t2', t3', Result.andThen]) rfl ?_
  exact ⟨b1, b2, rfl, HOut.out⟩
end Go.Proofs.Yteihniiacfghoaa
namespace Go.Proofs.Yteihniiacfghoaa
open Go.RowKit Go.Maps
set_option linter.unusedSimpArgs false
set_option maxRecDepth 100000

theorem best_lt (s : List Int) (may : List Bool) : ∀ k i, i ∈ bestTo s may k → i < k
  | 0, _, h => by cases h
  | k + 1, i, h => by
    unfold bestTo bestStep at h
    split at h
    · split at h
      · rw [List.mem_singleton.1 h]; omega
      · split at h
        · rcases List.mem_append.1 h with h | h
          · have := best_lt s may k i h; omega
          · rw [List.mem_singleton.1 h]; omega
        · have := best_lt s may k i h; omega
    · have := best_lt s may k i h; omega
theorem best_len (s : List Int) (may : List Bool) : ∀ k, (bestTo s may k).length ≤ k
  | 0 => Nat.le_refl _
  | k + 1 => by
    have ih := best_len s may k
    unfold bestTo bestStep
    split
    · split
      · simp
      · split
        · rw [List.length_append, List.length_singleton]; omega
        · omega
    · omega
set_option maxHeartbeats 4000000 in
theorem rBest_calls (a : Option Addr) (n cap : Nat) (A : Where) (s : List Int) (b : Option Addr) (m capb : Nat) (B : Where) (may : List Bool) (w : World) (hS : Hid (SlAt RInt 1 8 A w a n cap s)) (hM : Hid (SlAt RBool 1 1 B w b m capb may)) : Calls Try.prog 25 #[.slice a n cap, .slice b m capb] w fun e w' => ∃ v, e = .returned v ∧ Row RInt 1 (fun _ => False) w w' 3 v ((bestP s may).map (fun i : Nat => (i : Int))) := by
  have hn : Hid (s.length = n) := hS.out.1
  have hm : Hid (may.length = m) := hM.out.1
  have HLn : Hid (n * 8 ≤ 140737488351232) := hS.out.2.2.2.1
  have hnl : n < 1000000000000000 := by have := HLn.out; omega
  have hml : m < 1000000000000000 := by have := hM.out.2.2.2.1; omega
  have HR0 : Hid (Row RInt 1 (fun _ => False) w (w.alloc (.cells #[] 3)) 3 (.slice (some ⟨w.heap.size, 0, none⟩) 0 0) ((bestTo s may 0).map (fun i : Nat => (i : Int)))) := Row.start _ w w _ (Below.refl _ _)
  go_enter Try.func25, Try.ntmps25
  go_wp2_with fail
  go_loopw [5, 6] (fun v i wr => ∃ k : Nat, k ≤ n ∧ k ≤ m ∧ i = .int .i64 k ∧ Hid (Row RInt 1 (fun _ => False) w wr 3 v ((bestTo s may k).map (fun i : Nat => (i : Int))))) (fun _ i _ => n - (intOf i).toNat)
  case atStart => exact ⟨0, Nat.zero_le _, Nat.zero_le _, rfl, HR0⟩
  case round =>
    clear HR0
    obtain ⟨k, hkn, hkm, rfl, hrun⟩ := hrel
    by_cases hlt : k < n
    · have hltz : (k : Int) < (n : Int) := by omega
      by_cases hlm : k < m
      · have hlmz : (k : Int) < (m : Int) := by omega
        obtain ⟨D, off, rfl, hD, _, cs, hra, hva⟩ := (hS.out.on RInt.firm hrun.out.below).get hlt
        obtain rfl : cs = [.int .i64 (s.getD k default)] := hra
        have d0 := hva 0 _ rfl
        rw [Nat.add_zero, Nat.mul_one] at d0
        obtain ⟨E, of2, rfl, hE, _, ds, hrb, hvb⟩ := (hM.out.on RBool.firm hrun.out.below).get hlm
        obtain rfl : ds = [.bool (may.getD k default)] := hrb
        have e0 := hvb 0 _ rfl
        rw [Nat.add_zero, Nat.mul_one] at e0
        obtain ⟨x, hx⟩ : ∃ x, x = s.getD k default := ⟨_, rfl⟩
        obtain ⟨y, hy⟩ : ∃ y, y = may.getD k default := ⟨_, rfl⟩
        obtain ⟨O, hO⟩ : ∃ O, O = bestTo s may k := ⟨_, rfl⟩
        have HNx : Hid (bestTo s may (k + 1) = bestStep s may O k) := by rw [hO]; rfl
        have HOl : Hid (O.length ≤ k) := by rw [hO]; exact best_len s may k
        have HOm : Hid (∀ i ∈ O, i < k) := by rw [hO]; exact best_lt s may k
        have HY : Hid (may.getD k default = y) := hy.symm
        have HX : Hid (s.getD k default = x) := hx.symm
        rw [← hx] at d0
        rw [← hy] at e0
        rw [← hO] at hrun
        clear hva hvb hO hx hy
        cases y
        · have HE : Hid (Row RInt 1 (fun _ => False) w wr 3 u5 ((bestTo s may (k + 1)).map (fun i : Nat => (i : Int)))) := by rw [HNx.out, bestStep, HY.out, if_neg (by decide)]; exact hrun.out
          clear HNx HY HX d0 hrun
          go_wp2_with fail
          go_roundw
          case rel => exact ⟨k + 1, by omega, by omega, by go_num, HE⟩
          case measure => simp [intOf]; omega
        · --M1
          cases O with
          | nil =>
            obtain ⟨la, ln, lc, hu⟩ := hrun.out.headG
            have hln : ln = 0 := by
              obtain ⟨xs, ⟨_, _, ⟨e1, h0⟩ | ⟨g', cap', cur, e1, _⟩⟩, _⟩ := hrun.out
              · rw [hu] at e1; simp only [Value.slice.injEq] at e1; simpa using e1.2.1
              · rw [hu] at e1; simp only [Value.slice.injEq] at e1; simpa using e1.2.1
            subst hln
            subst hu
            have HB2 : Hid (((bestTo s may (k + 1)).map (fun i : Nat => (i : Int))) = (([] : List Nat).map (fun i : Nat => (i : Int))) ++ [(k : Int)]) := by rw [HNx.out, bestStep, HY.out, if_pos rfl, if_pos (.inl rfl)]; rfl
            have HLb : Hid (((([] : List Nat).map (fun i : Nat => (i : Int))).length + [(k : Int)].length) * 8 ≤ 140737488355328) := by show (0 + 1) * 8 ≤ 140737488355328; decide
            have HB : Hid (∀ z, Below wr.heap.size wr z → Row RInt 1 (fun _ => False) w z 3 (.slice la 0 lc) (([] : List Nat).map (fun i : Nat => (i : Int)))) := fun z hz => hrun.out.on RInt.firm hz
            clear HNx HY HX HOl HOm hrun
            go_upto_region 6 with fail
            go_quiet (fail)
            go_upto_region 8 with fail
            go_quiet (fail)
            generalize hZ : World.drewN _ _ = Z
            have HRw : Hid (Row RInt 1 (fun _ => False) w Z 3 (.slice la 0 lc) (([] : List Nat).map (fun i : Nat => (i : Int)))) := HB.out Z (by rw [← hZ]; exact below_drewN (below_drewN (Below.refl _ _) _) _)
            clear hZ HB
            --M2
            have b3 : Below Z.heap.size Z (Z.alloc (.cells #[.int .i64 (k : Int)] 3)) := (Below.refl _ _).alloc (Nat.le_refl _) _
            have q3 : BoxL (Z.alloc (.cells #[.int .i64 (k : Int)] 3)) Z.heap.size [.int .i64 (k : Int)] := BoxL.new Z 3 _
            have HR3 : Hid (Row RInt 1 (fun _ => False) w (Z.alloc (.cells #[.int .i64 (k : Int)] 3)) 3 (.slice la 0 lc) (([] : List Nat).map (fun i : Nat => (i : Int)))) := HRw.out.on RInt.firm b3
            have HSr : Hid (Src RInt 1 (fun b => False ∧ Value.ownBlock (.slice la 0 lc) ≠ some b) (Z.alloc (.cells #[.int .i64 (k : Int)] 3)) (some ⟨Z.heap.size, 0, none⟩) 1 [(k : Int)]) := src_boxG RInt.firm q3 rfl
            clear b3 q3 HRw
            go_wp2_with (first | (at_builtin; refine row_appendP RInt.firm (A := (fun _ => False)) (w0 := w) rfl _ _ 28 3 rfl _ 8 infoIntS Try.underlying28 rfl (by decide) (by decide) (.slice la 0 lc) (([] : List Nat).map (fun i : Nat => (i : Int))) rfl HR3.out (some ⟨Z.heap.size, 0, none⟩) 1 1 [_] rfl HSr.out HLb.out ?_; intro v8 w8 hrow8 hg8 hw8) | fail)
            have HE : Hid (Row RInt 1 (fun _ => False) w w8 3 v8 ((bestTo s may (k + 1)).map (fun i : Nat => (i : Int)))) := by rw [HB2.out]; exact hrow8
            clear hrow8 hg8 hw8 HR3 HSr HLb HB2
            go_roundw
            case rel => exact ⟨k + 1, by omega, by omega, by go_num, HE⟩
            case measure => simp [intOf]; omega
          | cons o0 O1 =>
            obtain ⟨g, c, cs2, hu, hg, hr2, hc2⟩ := hrun.out.getG RInt.firm (i := 0) (by simp)
            obtain rfl : cs2 = [.int .i64 (o0 : Int)] := hr2
            have f0 := hc2 0 _ rfl
            rw [Nat.zero_mul, Nat.add_zero] at f0
            have ho0 : o0 < k := HOm.out o0 List.mem_cons_self
            obtain ⟨_, _, hDD, _, _, cs3, hra3, hva3⟩ := (hS.out.on RInt.firm hrun.out.below).get (Nat.lt_trans ho0 hlt)
            obtain ⟨rfl, rfl⟩ : D = _ ∧ off = _ := by simpa using hDD
            obtain rfl : cs3 = [.int .i64 (s.getD o0 default)] := hra3
            have g0 := hva3 0 _ rfl
            rw [Nat.add_zero, Nat.mul_one] at g0
            obtain ⟨x0, hx0⟩ : ∃ x, x = s.getD o0 default := ⟨_, rfl⟩
            rw [← hx0] at g0
            have HX0 : Hid (s.getD o0 default = x0) := hx0.symm
            obtain ⟨ln, hln⟩ : ∃ ln, ln = ((o0 :: O1).map (fun i : Nat => (i : Int))).length := ⟨_, rfl⟩
            have hlp : 0 < ln := by rw [hln]; simp
            have hll : ln < 1000000000000000 := by have := HOl.out; rw [hln, List.length_map]; omega
            have HLb : Hid ((((o0 :: O1).map (fun i : Nat => (i : Int))).length + [(k : Int)].length) * 8 ≤ 140737488355328) := by have h1 := HOl.out; have h2 := HLn.out; rw [Hid, List.length_map, List.length_singleton]; omega
            have hlz : (0 : Int) < (ln : Int) := by omega
            have hlz2 : ((ln : Int) == 0) = false := by simpa using (by omega : ¬ (ln : Int) = 0)
            have hoz : (o0 : Int) < (n : Int) := by omega
            have hon : o0 < n := by omega
            rw [← hln] at hu
            subst hu
            have HB : Hid (∀ z, Below wr.heap.size wr z → Row RInt 1 (fun _ => False) w z 3 (.slice (some ⟨g, 0, none⟩) ln c) ((o0 :: O1).map (fun i : Nat => (i : Int)))) := fun z hz => hrun.out.on RInt.firm hz
            have HBw : Hid (Below w.heap.size w wr) := hrun.out.below
            clear hc2 hva3 hDD hx0 hln HOl HOm
            --M3
            rcases Int.lt_trichotomy x0 x with h | h | h
            · have HB2 : Hid (((bestTo s may (k + 1)).map (fun i : Nat => (i : Int))) = (([] : List Nat).map (fun i : Nat => (i : Int))) ++ [(k : Int)]) := by rw [HNx.out, bestStep, HY.out, if_pos rfl, if_pos (.inr (by rw [HX.out]; show s.getD o0 default < x; rw [HX0.out]; exact h))]; rfl
              clear HLb
              have HLb : Hid (((([] : List Nat).map (fun i : Nat => (i : Int))).length + [(k : Int)].length) * 8 ≤ 140737488355328) := by show (0 + 1) * 8 ≤ 140737488355328; decide
              clear HNx HY HX HX0 hrun HB
              go_upto_region 6 with fail
              go_quiet (fail)
              generalize hZ : World.drewN _ _ = Z0
              have HZ0 : Hid (Below w.heap.size w Z0) := by rw [← hZ]; exact below_drewN HBw.out _
              clear hZ
              go_upto_region 8 with fail
              go_quiet (fail)
              generalize hZ : World.drewN _ _ = Z
              have HRw : Hid (Row RInt 1 (fun _ => False) w Z 3 (.slice (some ⟨Z0.heap.size, 0, none⟩) 0 0) (([] : List Nat).map (fun i : Nat => (i : Int)))) := by rw [← hZ]; exact (Row.start _ w Z0 _ HZ0.out).on RInt.firm (below_drewN (Below.refl _ _) _)
              clear hZ
              --M4
              have b3 : Below Z.heap.size Z (Z.alloc (.cells #[.int .i64 (k : Int)] 3)) := (Below.refl _ _).alloc (Nat.le_refl _) _
              have q3 : BoxL (Z.alloc (.cells #[.int .i64 (k : Int)] 3)) Z.heap.size [.int .i64 (k : Int)] := BoxL.new Z 3 _
              have HR3 : Hid (Row RInt 1 (fun _ => False) w (Z.alloc (.cells #[.int .i64 (k : Int)] 3)) 3 (.slice (some ⟨Z0.heap.size, 0, none⟩) 0 0) (([] : List Nat).map (fun i : Nat => (i : Int)))) := HRw.out.on RInt.firm b3
              have HSr : Hid (Src RInt 1 (fun b => False ∧ Value.ownBlock (.slice (some ⟨Z0.heap.size, 0, none⟩) 0 0) ≠ some b) (Z.alloc (.cells #[.int .i64 (k : Int)] 3)) (some ⟨Z.heap.size, 0, none⟩) 1 [(k : Int)]) := src_boxG RInt.firm q3 rfl
              clear b3 q3 HRw
              go_wp2_with (first | (at_builtin; refine row_appendP RInt.firm (A := (fun _ => False)) (w0 := w) rfl _ _ 28 3 rfl _ 8 infoIntS Try.underlying28 rfl (by decide) (by decide) (.slice (some ⟨Z0.heap.size, 0, none⟩) 0 0) (([] : List Nat).map (fun i : Nat => (i : Int))) rfl HR3.out (some ⟨Z.heap.size, 0, none⟩) 1 1 [_] rfl HSr.out HLb.out ?_; intro v8 w8 hrow8 hg8 hw8) | fail)
              have HE : Hid (Row RInt 1 (fun _ => False) w w8 3 v8 ((bestTo s may (k + 1)).map (fun i : Nat => (i : Int)))) := by rw [HB2.out]; exact hrow8
              clear hrow8 hg8 hw8 HR3 HSr HLb HB2
              go_roundw
              case rel => exact ⟨k + 1, by omega, by omega, by go_num, HE⟩
              case measure => simp [intOf]; omega
            · have HB2 : Hid (((bestTo s may (k + 1)).map (fun i : Nat => (i : Int))) = ((o0 :: O1).map (fun i : Nat => (i : Int))) ++ [(k : Int)]) := by rw [HNx.out, bestStep, HY.out, if_pos rfl, if_neg (fun e => e.elim (fun e => by cases e) (fun e => by rw [HX.out] at e; have e : s.getD o0 default < x := e; rw [HX0.out] at e; omega)), if_pos (by rw [HX.out]; show x = s.getD o0 default; rw [HX0.out]; exact h.symm), List.map_append]; rfl
              subst h
              clear HNx HY HX HX0 hrun
              go_upto_region 6 with fail
              go_quiet (fail)
              go_upto_region 8 with fail
              go_quiet (fail)
              generalize hZ : World.drewN _ _ = Z
              have HRw : Hid (Row RInt 1 (fun _ => False) w Z 3 (.slice (some ⟨g, 0, none⟩) ln c) ((o0 :: O1).map (fun i : Nat => (i : Int)))) := HB.out Z (by rw [← hZ]; exact below_drewN (below_drewN (Below.refl _ _) _) _)
              clear hZ HB
              have b3 : Below Z.heap.size Z (Z.alloc (.cells #[.int .i64 (k : Int)] 3)) := (Below.refl _ _).alloc (Nat.le_refl _) _
              have q3 : BoxL (Z.alloc (.cells #[.int .i64 (k : Int)] 3)) Z.heap.size [.int .i64 (k : Int)] := BoxL.new Z 3 _
              have HR3 : Hid (Row RInt 1 (fun _ => False) w (Z.alloc (.cells #[.int .i64 (k : Int)] 3)) 3 (.slice (some ⟨g, 0, none⟩) ln c) ((o0 :: O1).map (fun i : Nat => (i : Int)))) := HRw.out.on RInt.firm b3
              have HSr : Hid (Src RInt 1 (fun b => False ∧ Value.ownBlock (.slice (some ⟨g, 0, none⟩) ln c) ≠ some b) (Z.alloc (.cells #[.int .i64 (k : Int)] 3)) (some ⟨Z.heap.size, 0, none⟩) 1 [(k : Int)]) := src_boxG RInt.firm q3 rfl
              clear b3 q3 HRw
              go_wp2_with (first | (at_builtin; refine row_appendP RInt.firm (A := (fun _ => False)) (w0 := w) rfl _ _ 28 3 rfl _ 8 infoIntS Try.underlying28 rfl (by decide) (by decide) (.slice (some ⟨g, 0, none⟩) ln c) ((o0 :: O1).map (fun i : Nat => (i : Int))) rfl HR3.out (some ⟨Z.heap.size, 0, none⟩) 1 1 [_] rfl HSr.out HLb.out ?_; intro v8 w8 hrow8 hg8 hw8) | fail)
              have HE : Hid (Row RInt 1 (fun _ => False) w w8 3 v8 ((bestTo s may (k + 1)).map (fun i : Nat => (i : Int)))) := by rw [HB2.out]; exact hrow8
              clear hrow8 hg8 hw8 HR3 HSr HLb HB2
              go_roundw
              case rel => exact ⟨k + 1, by omega, by omega, by go_num, HE⟩
              case measure => simp [intOf]; omega
            · have hnx : ¬ x0 < x := by omega
              have hne : (x == x0) = false := by simpa using (by omega : ¬ x = x0)
              have HE0 : Hid (((bestTo s may (k + 1)).map (fun i : Nat => (i : Int))) = ((o0 :: O1).map (fun i : Nat => (i : Int)))) := by rw [HNx.out, bestStep, HY.out, if_pos rfl, if_neg (fun e => e.elim (fun e => by cases e) (fun e => by rw [HX.out] at e; have e : s.getD o0 default < x := e; rw [HX0.out] at e; omega)), if_neg (by rw [HX.out]; show ¬ x = s.getD o0 default; rw [HX0.out]; omega)]; exact rfl
              clear HNx HY HX HX0 hrun
              go_upto_region 6 with fail
              go_quiet (fail)
              go_upto_region 8 with fail
              go_quiet (fail)
              generalize hZ : World.drewN _ _ = Z
              have HE : Hid (Row RInt 1 (fun _ => False) w Z 3 (.slice (some ⟨g, 0, none⟩) ln c) ((bestTo s may (k + 1)).map (fun i : Nat => (i : Int)))) := by rw [HE0.out]; exact HB.out Z (by rw [← hZ]; exact below_drewN (below_drewN (Below.refl _ _) _) _)
              clear hZ HB HE0
              go_wp2_with fail
              go_roundw
              case rel => exact ⟨k + 1, by omega, by omega, by go_num, HE⟩
              case measure => simp [intOf]; omega
      · have hlmz : ¬ (k : Int) < (m : Int) := by omega
        have HE : Hid (Row RInt 1 (fun _ => False) w wr 3 u5 ((bestP s may).map (fun i : Nat => (i : Int)))) := by have h1 := hrun.out; unfold bestP; rw [hn.out, hm.out, Nat.min_eq_right (by omega), show m = k by omega]; exact h1
        clear hrun
        go_wp2_with fail
        go_ret
        exact ⟨_, rfl, HE.out⟩
    · have hltz : ¬ (k : Int) < (n : Int) := by omega
      have HE : Hid (Row RInt 1 (fun _ => False) w wr 3 u5 ((bestP s may).map (fun i : Nat => (i : Int)))) := by have h1 := hrun.out; unfold bestP; rw [hn.out, hm.out, Nat.min_eq_left (by omega), show n = k by omega]; exact h1
      clear hrun
      go_wp2_with fail
      go_ret
      exact ⟨_, rfl, HE.out⟩
end Go.Proofs.Yteihniiacfghoaa
