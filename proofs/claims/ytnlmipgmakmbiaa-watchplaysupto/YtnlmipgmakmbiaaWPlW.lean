/- The law WatchPlays, walked. Condition: the program's calls are as the structure says; the kinds are not too many. -/
import Derived.Test.YtnlmipgmakmbiaaWPl0
import Derived.Deep.CutBlock
namespace Go.Proofs.Ytnlmipgmakmbiaa
open Go.RowKit
set_option linter.unusedSimpArgs false
set_option maxRecDepth 100000

/-- Some watcher of the program stands as the document's does. -/
def PlI (W : WatchOK) (w : World) (LB : Where) (p2 ga ca gb cb : Nat) (la : Option Addr) (ln lc : Nat) (Lg : List Ch) (v : Value) (u : World) : Prop := ∃ p S At Off, v = .pointer (some ⟨p, 0, none⟩) ∧ PlS W w LB p2 ga ca gb cb la ln lc Lg p S At Off u
set_option maxHeartbeats 32000000 in
theorem plays_walk (W : WatchOK) (v0 : Int) (a : Option Addr) (n cap : Nat) (L : List Int) (b : Option Addr) (m capb : Nat) (M : List ActD) (w : World) (hL : Hid (SlAt RInt 1 8 (fun _ => True) w a n cap L)) (hM : Hid (SlAt RAct 3 24 (fun _ => True) w b m capb M)) (hb : n * 640 ≤ 140737488351232) : Calls Try.prog 3 #[.int .i64 v0, .slice a n cap, .slice b m capb] w fun e w' => e = .returned (.bool true) ∧ Below w.heap.size w w' := by
  have hC := W.new v0 w
  have hlm := hM.out.len (by decide)
  have hnl : Hid (L.length = n) := hL.out.1
  go_enter Try.func3, Try.ntmps3
  go_wp2_with fail
  refine hC.mono ?_
  rintro e u1 ⟨p, S, rfl, hp, hS, b1⟩
  clear hC
  have hC := rNew_calls v0 u1
  have H1 : Hid (W.PW u1 p S (List.replicate 7 (max 0 v0)) (List.replicate 7 false) ∧ (∀ b, S b → w.heap.size ≤ b) ∧ Below w.heap.size w u1) := ⟨hp, hS, b1⟩
  clear hp hS b1
  go_wp2_with fail
  refine hC.mono ?_
  rintro e u2 ⟨p2, rfl, hR⟩
  clear hC
  obtain ⟨ga, ca, gb, cb, h7⟩ := hR.seven (by simp) (by simp)
  have b2 : Below u1.heap.size u1 u2 := h7.e.below
  have hC := logged_calls a n cap _ L u2 (hL.out.on RInt.firm (on2 H1.out.2.2 b2)) hb
  obtain ⟨Lg, hLg⟩ : ∃ l, l = logP (L.map kndP) 0 := ⟨_, rfl⟩
  have HLg : Hid (Rise Lg ∧ Lg.length = n) := ⟨by rw [hLg]; exact log_rise _ _, by rw [hLg, log_len, List.length_map]; exact hnl.out⟩
  rw [← hLg] at hC
  have H2 : Hid (Rw7 u1 u2 p2 ga ca gb cb (List.replicate 7 (max 0 v0)) (List.replicate 7 false)) := h7
  clear hLg h7 b2 hR
  go_wp2_with fail
  refine hC.mono ?_
  intro e u3 h3
  obtain ⟨la, ln, lc, rfl, sl, b3⟩ := h3.sl (by rw [HLg.out.2]; exact hb)
  clear hC h3
  obtain ⟨LB, hLB⟩ : ∃ LB : Where, LB = fun b => u2.heap.size ≤ b ∧ b < u3.heap.size := ⟨_, rfl⟩
  have HI : Hid (PlI W w LB p2 ga ca gb cb la ln lc Lg (.pointer (some ⟨p, 0, none⟩)) u3) := by
    obtain ⟨hp, hS, b1⟩ := H1.out
    have b2 : Below u1.heap.size u1 u2 := H2.out.e.below
    have z1 := H2.out.e.lo
    have z2 := H2.out.e.box.1
    have z3 := H2.out.e.ra.lt (b := ga) rfl
    have z4 := H2.out.e.rb.lt (b := gb) rfl
    refine ⟨p, S, _, _, rfl, W.kept hp (Kept.below (on2 b2 b3)), (H2.out.from b1).on b3, sl.weak RCh.firm (fun b h1 h2 => by rw [hLB]; exact ⟨h2, h1⟩), on2 (on2 b1 b2) b3, hS, fun b hx => ?_, fun b hx => ?_, fun b hx => by rw [hLB] at hx; exact hx.2⟩
    · have h1 := W.lt hp b hx
      have h2 := b2.size
      exact ⟨by omega, by omega, by omega, fun h3 => by rw [hLB] at h3; have h4 := h3.1; omega⟩
    · rw [hLB] at hx
      have h4 := hx.1
      exact ⟨by omega, by omega, by omega⟩
  clear hLB sl b3 H1 H2
  go_wp2_with fail
  --M1
  go_loopw [7, 10] (fun v i wr => ∃ j : Nat, j ≤ m ∧ i = .int .i64 j ∧ Hid (PlI W w LB p2 ga ca gb cb la ln lc Lg v wr)) (fun _ i _ => m - (intOf i).toNat)
  case atStart => exact ⟨0, Nat.zero_le _, rfl, HI⟩
  case round =>
    obtain ⟨j, hj, rfl, hrun⟩ := hrel
    obtain ⟨p, S, At, Off, rfl, hP⟩ := hrun.out
    clear hrun HI
    by_cases hge : m ≤ j
    · obtain rfl : j = m := by omega
      have hltz : ¬ ((j : Int) < (j : Int)) := by omega
      have hC := W.seen 0 hP.pw
      have HP : Hid (PlS W w LB p2 ga ca gb cb la ln lc Lg p S At Off wr) := hP
      have e0 : (if knB 0 = true then At.getD (0 : Int).toNat default else 0) = 0 := by rw [if_neg (by decide)]
      have e1 : (if knB 0 = true then (0 : Int) else 2) = 2 := by decide
      rw [e0, e1] at hC
      clear hP e0 e1
      go_wp2_with fail
      refine hC.mono ?_
      rintro e z1 ⟨rfl, d1⟩
      clear hC
      have H1 : Hid (PlS W w LB p2 ga ca gb cb la ln lc Lg p S At Off z1) := HP.out.on d1
      have hC := W.behind 7 H1.out.pw H1.out.sl HLg.out.1
      have e0 : (if knB 7 = true then ((restW 7 (At.getD (7 : Int).toNat default) Lg).length : Int) else 0) = 0 := by rw [if_neg (by decide)]
      have e1 : (if knB 7 = true then (0 : Int) else 2) = 2 := by decide
      rw [e0, e1] at hC
      clear d1 HP e0 e1
      go_wp2_with fail
      refine hC.mono ?_
      rintro e z2 ⟨rfl, d2⟩
      clear hC
      have Hz : Hid (Below w.heap.size w z2) := on2 H1.out.bw d2
      have hC := works13_calls W z2
      clear d2 H1
      go_wp2_with fail
      refine hC.mono ?_
      rintro e z3 ⟨rfl, d3⟩
      have Hz3 : Hid (Below w.heap.size w z3) := on2 Hz.out d3
      clear hC d3 Hz
      go_wp2_with fail
      --M1e
      go_ret
      exact ⟨rfl, Hz3.out⟩
    · have hlt : j < m := by omega
      have hltz : (j : Int) < (m : Int) := by omega
      obtain ⟨B, off, rfl, hB, hBw, cs, hr, hv⟩ := ((hM.out.weak RAct.firm (A' := fun b => b < w.heap.size) (fun b h _ => h)).on RAct.firm hP.bw).get hlt
      obtain rfl := hr.cells
      have d0 := hv 0 _ rfl
      have d1 := hv 1 _ rfl
      have d2 := hv 2 _ rfl
      rw [Nat.add_zero] at d0
      generalize M.getD j default = x at d0 d1 d2
      obtain ⟨x0, x1, x2⟩ := x
      simp only at d0 d1 d2
      have HP : Hid (PlS W w LB p2 ga ca gb cb la ln lc Lg p S At Off wr) := hP
      obtain ⟨c, hc⟩ : ∃ c, c = amongP x0 6 := ⟨_, rfl⟩
      have hc6 : c < 6 := by rw [hc]; exact among_lt x0 (by decide)
      have HAm : Hid (∀ z : World, Calls Try.prog 12 #[.int .i64 x0, .int .i64 6] z fun e z' => e = .returned (.int .i64 (c : Int)) ∧ z' = z) := fun z => by rw [hc]; exact Among_is x0 6 (by decide) (by decide) z
      clear hP hv hc hB hBw
      go_upto_block 2 with (go_at_call 12; refine (HAm.out _).mono ?_; rintro e w9 ⟨rfl, rfl⟩)
      --M2
      go_cut [7, 12] (fun v ok wc => ok = .bool true ∧ Hid (PlI W w LB p2 ga ca gb cb la ln lc Lg v wc))
      case first =>
        obtain ⟨W4, hW4⟩ : ∃ Z, Z = wr.alloc (.cells #[.int .i64 x0, .int .i64 x1, .int .i64 x2] 31) := ⟨_, rfl⟩
        have b4 : Below wr.heap.size wr W4 := by rw [hW4]; exact (Below.refl _ _).alloc (Nat.le_refl _) _
        have q4 : BoxL W4 wr.heap.size [.int .i64 x0, .int .i64 x1, .int .i64 x2] := by rw [hW4]; exact BoxL.new wr _ _
        have H4 : Hid (PlS W w LB p2 ga ca gb cb la ln lc Lg p S At Off W4) := HP.out.on b4
        have HQ : Hid (∀ z, Kept (fun b => b = wr.heap.size) W4 z → z.cell? ⟨wr.heap.size, 1, none⟩ = some (.int .i64 x1) ∧ z.cell? ⟨wr.heap.size, 2, none⟩ = some (.int .i64 x2)) := fun z hz => ⟨((q4.kept hz rfl).2 1 _ rfl).1, ((q4.kept hz rfl).2 2 _ rfl).1⟩
        have HNS : Hid (¬ S wr.heap.size ∧ ga < wr.heap.size ∧ gb < wr.heap.size ∧ wr.heap.size ≤ W4.heap.size) := ⟨fun h => by have h1 := W.lt HP.out.pw _ h; omega, (HP.out.rw.e.ra.lt (b := ga) rfl).2, (HP.out.rw.e.rb.lt (b := gb) rfl).2, b4.size⟩
        rw [← hW4]
        clear hW4 b4 q4 HP HAm d0 d1 d2 hL hM
        --M3
        rcases (show c = 0 ∨ c = 1 ∨ c = 2 ∨ c = 3 ∨ c = 4 ∨ c = 5 by omega) with rfl | rfl | rfl | rfl | rfl | rfl
        · as_aux_lemma =>
            have hC := W.next x1 x2 H4.out.pw H4.out.sl HLg.out.1 (fun b h1 h2 => (H4.out.ap b h2).2.2.2 h1)
            obtain ⟨f1, f2⟩ := HQ.out W4 (Kept.refl _ _)
            go_wp2_with fail
            refine hC.mono ?_
            rintro e u4 ⟨a4, n4, c4, rfl, s4, hp4, r4⟩
            clear hC f1 f2
            obtain ⟨hw5, sl5, bw5⟩ := H4.out.mid r4
            have hC := rNext_calls w p2 ga ca gb cb At Off x1 x2 la ln lc LB Lg u4 hw5 sl5
            obtain ⟨f1, f2⟩ := HQ.out u4 (r4.kept.weak (fun b hb hs => by rw [hb] at hs; exact HNS.out.1 hs))
            have H5 : Hid (SlAt RCh 42 640 (Fresh W4) u4 a4 n4 c4 (nextP At Off x1 x2 Lg).1 ∧ W.PW u4 p S (nextP At Off x1 x2 Lg).2.2 Off ∧ Runs S W4 u4) := ⟨s4, hp4, r4⟩
            clear s4 hp4 r4 hw5 sl5 bw5
            go_wp2_with fail
            refine hC.mono ?_
            rintro e u5 ⟨a5, n5, c5, rfl, s5, hw5, k5⟩
            clear hC f1 f2
            have hf : ∀ b, Fresh W4 b → Oth13 ga gb b := fun b (hb : W4.heap.size ≤ b) => by have h1 := HNS.out.2; exact ⟨by omega, by omega⟩
            have hC := same_calls a4 n4 c4 _ _ a5 n5 c5 _ _ u5 (H5.out.1.kept RCh.firm (k5.weak hf)) s5
            have H6 : Hid (PlS W w LB p2 ga ca gb cb la ln lc Lg p S (nextP At Off x1 x2 Lg).2.2 Off u5) := H4.out.both H5.out.2.1 H5.out.2.2 hw5 k5
            rw [decide_eq_true rfl] at hC
            generalize (nextP At Off x1 x2 Lg).2.1 = code
            clear s5 hw5 k5 hf H5
            go_wp2_with fail
            refine hC.mono ?_
            rintro e u6 ⟨rfl, q6, h6⟩
            have H7 : Hid (PlS W w LB p2 ga ca gb cb la ln lc Lg p S (nextP At Off x1 x2 Lg).2.2 Off u6) := by rw [h6]; exact H6.out.on (below_drewN (Below.refl _ _) _)
            clear hC H6 h6
            go_wp2_with fail
            go_meet
            exact ⟨rfl, p, S, _, _, rfl, H7.out⟩
        · as_aux_lemma =>
            have hC := W.next x1 x2 H4.out.pw H4.out.sl HLg.out.1 (fun b h1 h2 => (H4.out.ap b h2).2.2.2 h1)
            obtain ⟨f1, f2⟩ := HQ.out W4 (Kept.refl _ _)
            go_wp2_with fail
            refine hC.mono ?_
            rintro e u4 ⟨a4, n4, c4, rfl, s4, hp4, r4⟩
            clear hC f1 f2
            obtain ⟨hw5, sl5, bw5⟩ := H4.out.mid r4
            have hC := rNext_calls w p2 ga ca gb cb At Off x1 x2 la ln lc LB Lg u4 hw5 sl5
            obtain ⟨f1, f2⟩ := HQ.out u4 (r4.kept.weak (fun b hb hs => by rw [hb] at hs; exact HNS.out.1 hs))
            have H5 : Hid (SlAt RCh 42 640 (Fresh W4) u4 a4 n4 c4 (nextP At Off x1 x2 Lg).1 ∧ W.PW u4 p S (nextP At Off x1 x2 Lg).2.2 Off ∧ Runs S W4 u4) := ⟨s4, hp4, r4⟩
            clear s4 hp4 r4 hw5 sl5 bw5
            go_wp2_with fail
            refine hC.mono ?_
            rintro e u5 ⟨a5, n5, c5, rfl, s5, hw5, k5⟩
            clear hC f1 f2
            have hf : ∀ b, Fresh W4 b → Oth13 ga gb b := fun b (hb : W4.heap.size ≤ b) => by have h1 := HNS.out.2; exact ⟨by omega, by omega⟩
            have hC := same_calls a4 n4 c4 _ _ a5 n5 c5 _ _ u5 (H5.out.1.kept RCh.firm (k5.weak hf)) s5
            have H6 : Hid (PlS W w LB p2 ga ca gb cb la ln lc Lg p S (nextP At Off x1 x2 Lg).2.2 Off u5) := H4.out.both H5.out.2.1 H5.out.2.2 hw5 k5
            rw [decide_eq_true rfl] at hC
            generalize (nextP At Off x1 x2 Lg).2.1 = code
            clear s5 hw5 k5 hf H5
            go_wp2_with fail
            refine hC.mono ?_
            rintro e u6 ⟨rfl, q6, h6⟩
            have H7 : Hid (PlS W w LB p2 ga ca gb cb la ln lc Lg p S (nextP At Off x1 x2 Lg).2.2 Off u6) := by rw [h6]; exact H6.out.on (below_drewN (Below.refl _ _) _)
            clear hC H6 h6
            go_wp2_with fail
            go_meet
            exact ⟨rfl, p, S, _, _, rfl, H7.out⟩
        · as_aux_lemma =>
            have hC := W.next x1 x2 H4.out.pw H4.out.sl HLg.out.1 (fun b h1 h2 => (H4.out.ap b h2).2.2.2 h1)
            obtain ⟨f1, f2⟩ := HQ.out W4 (Kept.refl _ _)
            go_wp2_with fail
            refine hC.mono ?_
            rintro e u4 ⟨a4, n4, c4, rfl, s4, hp4, r4⟩
            clear hC f1 f2
            obtain ⟨hw5, sl5, bw5⟩ := H4.out.mid r4
            have hC := rNext_calls w p2 ga ca gb cb At Off x1 x2 la ln lc LB Lg u4 hw5 sl5
            obtain ⟨f1, f2⟩ := HQ.out u4 (r4.kept.weak (fun b hb hs => by rw [hb] at hs; exact HNS.out.1 hs))
            have H5 : Hid (SlAt RCh 42 640 (Fresh W4) u4 a4 n4 c4 (nextP At Off x1 x2 Lg).1 ∧ W.PW u4 p S (nextP At Off x1 x2 Lg).2.2 Off ∧ Runs S W4 u4) := ⟨s4, hp4, r4⟩
            clear s4 hp4 r4 hw5 sl5 bw5
            go_wp2_with fail
            refine hC.mono ?_
            rintro e u5 ⟨a5, n5, c5, rfl, s5, hw5, k5⟩
            clear hC f1 f2
            have hf : ∀ b, Fresh W4 b → Oth13 ga gb b := fun b (hb : W4.heap.size ≤ b) => by have h1 := HNS.out.2; exact ⟨by omega, by omega⟩
            have hC := same_calls a4 n4 c4 _ _ a5 n5 c5 _ _ u5 (H5.out.1.kept RCh.firm (k5.weak hf)) s5
            have H6 : Hid (PlS W w LB p2 ga ca gb cb la ln lc Lg p S (nextP At Off x1 x2 Lg).2.2 Off u5) := H4.out.both H5.out.2.1 H5.out.2.2 hw5 k5
            rw [decide_eq_true rfl] at hC
            generalize (nextP At Off x1 x2 Lg).2.1 = code
            clear s5 hw5 k5 hf H5
            go_wp2_with fail
            refine hC.mono ?_
            rintro e u6 ⟨rfl, q6, h6⟩
            have H7 : Hid (PlS W w LB p2 ga ca gb cb la ln lc Lg p S (nextP At Off x1 x2 Lg).2.2 Off u6) := by rw [h6]; exact H6.out.on (below_drewN (Below.refl _ _) _)
            clear hC H6 h6
            go_wp2_with fail
            go_meet
            exact ⟨rfl, p, S, _, _, rfl, H7.out⟩
        · as_aux_lemma =>
            go_upto_region 19 with fail
            have hb0 : Below W4.heap.size W4 W4.drew := (Below.refl _ _).drew
            have g0 : PlS W w LB p2 ga ca gb cb la ln lc Lg p S At Off W4.drew := H4.out.on hb0
            have k0 : Kept (fun b => b = wr.heap.size) W4 W4.drew := Kept.below hb0
            refine t0 (fun z => Kept (fun b => b = wr.heap.size) W4 z) k0 (fun hHeld => ?_)
            generalize hwd : W4.drew = wd at hHeld g0 k0 ⊢
            clear hwd hb0
            try go_frame
            refine' tk 0 ?_ ?_; rotate_left
            · intro z hz; obtain ⟨f1, f2⟩ := HQ.out z hz; clear hz; go_simp; try with_reducible rfl
            try go_frame
            refine' tk 1 ?_ ?_; rotate_left
            · intro z hz; obtain ⟨f1, f2⟩ := HQ.out z hz; clear hz; go_simp; try with_reducible rfl
            try go_frame
            refine' tk 2 ?_ ?_; rotate_left
            · intro z hz; obtain ⟨f1, f2⟩ := HQ.out z hz; clear hz; go_simp; try with_reducible rfl
            try go_frame
            refine' tk 4 ?_ ?_; rotate_left
            · intro z hz; obtain ⟨f1, f2⟩ := HQ.out z hz; clear hz; go_simp; try with_reducible rfl
            try go_frame
            refine' tk 5 ?_ ?_; rotate_left
            · intro z hz; obtain ⟨f1, f2⟩ := HQ.out z hz; clear hz; go_simp; try with_reducible rfl
            try go_frame
            refine' tk 6 ?_ ?_; rotate_left
            · intro z hz; obtain ⟨f1, f2⟩ := HQ.out z hz; clear hz; go_simp; try with_reducible rfl
            try go_frame
            refine tr 3 (fun K hK => ?_)
            have hC := W.cut x1 g0.pw
            go_simp
            refine hC.mono ?_
            rintro e u4 ⟨rfl, hp4, r4⟩
            clear hC
            have k4 : Kept (fun b => b = wr.heap.size) W4 u4 := k0.trans (r4.kept.weak (fun b hb hs => by rw [hb] at hs; exact HNS.out.1 hs))
            go_wp2_with fail
            refine hK.out _ _ k4 (fun hHeld2 => ?_)
            clear hK K hHeld; have hHeld := hHeld2; clear hHeld2
            try go_frame
            refine tr 7 (fun K hK => ?_)
            obtain ⟨hw5, sl5, bw5⟩ := g0.mid r4
            have hC := rCut_calls w p2 ga ca gb cb At Off x1 u4 hw5
            go_simp
            refine hC.mono ?_
            rintro e u5 ⟨rfl, hw6, k5⟩
            clear hC
            have k6 : Kept (fun b => b = wr.heap.size) W4 u5 := k4.trans (k5.weak (fun b hb => by have h1 := HNS.out.2; rw [hb]; exact ⟨by omega, by omega⟩))
            have H7 : Hid (PlS W w LB p2 ga ca gb cb la ln lc Lg p S At (cutP Off x1).2 u5) := g0.both hp4 r4 hw6 k5
            clear hw5 sl5 bw5 hw6 k5 hp4 r4 g0
            go_wp2_with fail
            refine hK.out _ _ k6 (fun hHeld2 => ?_)
            clear hK K hHeld; have hHeld := hHeld2; clear hHeld2
            try go_frame
            refine' tk 8 ?_ ?_; rotate_left
            · intro z hz; clear hz; go_simp; try with_reducible rfl
            try go_frame
            refine' tk 9 ?_ ?_; rotate_left
            · intro z hz; clear hz; go_simp; try with_reducible rfl
            try go_frame
            refine tz ?_
            clear hHeld k4 k6 k0
            go_wp2_with fail
            go_meet
            exact ⟨by simp, p, S, _, _, rfl, H7.out⟩
        · as_aux_lemma =>
            go_upto_region 21 with fail
            have hb0 : Below W4.heap.size W4 W4.drew := (Below.refl _ _).drew
            have g0 : PlS W w LB p2 ga ca gb cb la ln lc Lg p S At Off W4.drew := H4.out.on hb0
            have k0 : Kept (fun b => b = wr.heap.size) W4 W4.drew := Kept.below hb0
            refine t0 (fun z => Kept (fun b => b = wr.heap.size) W4 z) k0 (fun hHeld => ?_)
            generalize hwd : W4.drew = wd at hHeld g0 k0 ⊢
            clear hwd hb0
            try go_frame
            refine' tk 0 ?_ ?_; rotate_left
            · intro z hz; obtain ⟨f1, f2⟩ := HQ.out z hz; clear hz; go_simp; try with_reducible rfl
            try go_frame
            refine' tk 1 ?_ ?_; rotate_left
            · intro z hz; obtain ⟨f1, f2⟩ := HQ.out z hz; clear hz; go_simp; try with_reducible rfl
            try go_frame
            refine' tk 2 ?_ ?_; rotate_left
            · intro z hz; obtain ⟨f1, f2⟩ := HQ.out z hz; clear hz; go_simp; try with_reducible rfl
            try go_frame
            refine' tk 3 ?_ ?_; rotate_left
            · intro z hz; obtain ⟨f1, f2⟩ := HQ.out z hz; clear hz; go_simp; try with_reducible rfl
            try go_frame
            refine' tk 4 ?_ ?_; rotate_left
            · intro z hz; obtain ⟨f1, f2⟩ := HQ.out z hz; clear hz; go_simp; try with_reducible rfl
            try go_frame
            refine' tk 6 ?_ ?_; rotate_left
            · intro z hz; obtain ⟨f1, f2⟩ := HQ.out z hz; clear hz; go_simp; try with_reducible rfl
            try go_frame
            refine' tk 7 ?_ ?_; rotate_left
            · intro z hz; obtain ⟨f1, f2⟩ := HQ.out z hz; clear hz; go_simp; try with_reducible rfl
            try go_frame
            refine' tk 8 ?_ ?_; rotate_left
            · intro z hz; obtain ⟨f1, f2⟩ := HQ.out z hz; clear hz; go_simp; try with_reducible rfl
            try go_frame
            refine' tk 9 ?_ ?_; rotate_left
            · intro z hz; obtain ⟨f1, f2⟩ := HQ.out z hz; clear hz; go_simp; try with_reducible rfl
            try go_frame
            refine' tk 10 ?_ ?_; rotate_left
            · intro z hz; obtain ⟨f1, f2⟩ := HQ.out z hz; clear hz; go_simp; try with_reducible rfl
            try go_frame
            refine tr 5 (fun K hK => ?_)
            have hC := W.list x1 x2 g0.pw
            go_simp
            refine hC.mono ?_
            rintro e u4 ⟨rfl, hp4, r4⟩
            clear hC
            have k4 : Kept (fun b => b = wr.heap.size) W4 u4 := k0.trans (r4.kept.weak (fun b hb hs => by rw [hb] at hs; exact HNS.out.1 hs))
            go_wp2_with fail
            refine hK.out _ _ k4 (fun hHeld2 => ?_)
            clear hK K hHeld; have hHeld := hHeld2; clear hHeld2
            try go_frame
            refine tr 11 (fun K hK => ?_)
            obtain ⟨hw5, sl5, bw5⟩ := g0.mid r4
            have hC := rList_calls w p2 ga ca gb cb At Off x1 x2 u4 hw5
            go_simp
            refine hC.mono ?_
            rintro e u5 ⟨rfl, hw6, k5⟩
            clear hC
            have k6 : Kept (fun b => b = wr.heap.size) W4 u5 := k4.trans (k5.weak (fun b hb => by have h1 := HNS.out.2; rw [hb]; exact ⟨by omega, by omega⟩))
            have H7 : Hid (PlS W w LB p2 ga ca gb cb la ln lc Lg p S (listP At Off x1 x2).2.1 (listP At Off x1 x2).2.2 u5) := g0.both hp4 r4 hw6 k5
            clear hw5 sl5 bw5 hw6 k5 hp4 r4 g0
            go_wp2_with fail
            refine hK.out _ _ k6 (fun hHeld2 => ?_)
            clear hK K hHeld; have hHeld := hHeld2; clear hHeld2
            try go_frame
            refine' tk 12 ?_ ?_; rotate_left
            · intro z hz; clear hz; go_simp; try with_reducible rfl
            try go_frame
            refine' tk 13 ?_ ?_; rotate_left
            · intro z hz; clear hz; go_simp; try with_reducible rfl
            try go_frame
            refine tz ?_
            clear hHeld k4 k6 k0
            go_wp2_with fail
            go_meet
            exact ⟨by simp, p, S, _, _, rfl, H7.out⟩
        · as_aux_lemma =>
            have hC := W.clone H4.out.pw
            go_wp2_with fail
            refine hC.mono ?_
            rintro e u4 ⟨p', S', rfl, hp4, hS4, b4⟩
            clear hC
            have g4 := H4.out.on b4
            have hC := W.cut x1 g4.pw
            obtain ⟨f1, f2⟩ := HQ.out u4 (Kept.below b4)
            have H5 : Hid (W.PW u4 p' S' At Off ∧ (∀ b, S' b → W4.heap.size ≤ b) ∧ Below W4.heap.size W4 u4) := ⟨hp4, hS4, b4⟩
            clear hp4 hS4 b4 g4
            go_wp2_with fail
            refine hC.mono ?_
            rintro e u5 ⟨rfl, hp5, r5⟩
            clear hC f1 f2
            have hC := W.list 1 0 hp5
            have H6 : Hid (Runs S u4 u5) := r5
            clear hp5 r5
            go_wp2_with fail
            refine hC.mono ?_
            rintro e u6 ⟨rfl, hp6, r6⟩
            clear hC
            have r7 : Runs S u4 u6 := ⟨r6.os.trans H6.out.os, r6.tape.trans H6.out.tape, r6.output.trans H6.out.output, H6.out.kept.trans r6.kept⟩
            have H7 : Hid (PlS W w LB p2 ga ca gb cb la ln lc Lg p' S' At Off u6) := H4.out.clone H5.out.1 H5.out.2.1 H5.out.2.2 r7
            clear hp6 r6 r7 H5 H6
            go_wp2_with fail
            go_meet
            exact ⟨rfl, p', S', _, _, rfl, H7.out⟩
      case rest =>
        obtain ⟨rfl, hPI⟩ := hcut
        obtain ⟨p, S, At, Off, rfl, hP⟩ := hPI.out
        have HP : Hid (PlS W w LB p2 ga ca gb cb la ln lc Lg p S At Off wc) := hP
        clear hP hPI
        go_wp2_with fail
        --M5
        go_loopw [18] (fun i wr => ∃ k : Nat, 1 ≤ k ∧ k ≤ 7 ∧ i = .int .i64 k ∧ Hid (PlS W w LB p2 ga ca gb cb la ln lc Lg p S At Off wr)) (fun i _ => 7 - (intOf i).toNat)
        case atStart => exact ⟨1, by omega, by omega, rfl, HP⟩
        case round =>
          obtain ⟨k, hk1, hk7, rfl, hK⟩ := hrel
          clear HP
          by_cases hge : k = 7
          · subst hge
            --M6
            go_wp2_with fail
            --M7
            go_roundw
            case rel => exact ⟨j + 1, by omega, by go_num, p, S, At, Off, rfl, hK.out⟩
            case measure => simp [intOf]; omega
          · have hk6 : k ≤ 6 := by omega
            have hk6z : (k : Int) ≤ 6 := by omega
            have hkn : knB (k : Int) = true := kn_iff.2 ⟨by omega, by omega⟩
            have hkl : k < 7 := by omega
            have hklz : (k : Int) < 7 := by omega
            obtain ⟨vk, hvk⟩ : ∃ v, v = At.getD k default := ⟨_, rfl⟩
            have Hvk : Hid (vk = At.getD k default) := hvk
            have hC := W.seen (k : Int) hK.out.pw
            rw [hkn] at hC
            simp only [if_true, Int.toNat_natCast] at hC
            rw [← hvk] at hC
            clear hvk
            go_wp2_with fail
            refine hC.mono ?_
            rintro e z1 ⟨rfl, d1⟩
            clear hC
            have H1 : Hid (PlS W w LB p2 ga ca gb cb la ln lc Lg p S At Off z1) := hK.out.on d1
            have hC := W.behind (k : Int) H1.out.pw H1.out.sl HLg.out.1
            rw [hkn] at hC
            simp only [if_true, Int.toNat_natCast] at hC
            obtain ⟨rl, hrl⟩ : ∃ rl, rl = (restW (k : Int) vk Lg).length := ⟨_, rfl⟩
            have Hrl : Hid (rl = (restW (k : Int) vk Lg).length) := hrl
            rw [← Hvk.out, ← hrl] at hC
            clear hK d1 hrl
            go_wp2_with fail
            refine hC.mono ?_
            rintro e z2 ⟨rfl, d2⟩
            clear hC
            have H2 : Hid (PlS W w LB p2 ga ca gb cb la ln lc Lg p S At Off z2) := H1.out.on d2
            obtain ⟨c0, c1⟩ := H2.out.rw.cells
            obtain ⟨r0, _⟩ := H2.out.rw.readA hkl
            rw [← Hvk.out] at r0
            have hC := rRest_calls (k : Int) vk la ln lc LB Lg z2 H2.out.sl
            have Hbb : Hid ((restW (k : Int) vk Lg).length * 640 ≤ 140737488351232) := by
              have h1 := rest_len (k : Int) vk Lg
              have h2 := HLg.out.2
              rw [Hid]; omega
            clear d2 H1
            --M8
            go_wp2_with fail
            --M9
            refine hC.mono ?_
            intro e z3 h3
            obtain ⟨la3, ln3, lc3, rfl, sl3, b3⟩ := h3.sl Hbb.out
            obtain rfl : ln3 = rl := by rw [Hrl.out]; exact sl3.1.symm
            have H3 : Hid (PlS W w LB p2 ga ca gb cb la ln lc Lg p S At Off z3) := H2.out.on b3
            clear hC h3 sl3 b3 c0 c1 r0 H2
            go_wp2_with fail
            --M10
            go_roundw
            case rel => exact ⟨k + 1, by omega, by omega, by go_num, H3.out⟩
            case measure => simp [intOf]; omega
end Go.Proofs.Ytnlmipgmakmbiaa
