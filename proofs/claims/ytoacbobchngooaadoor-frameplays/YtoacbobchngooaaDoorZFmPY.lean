/- FramePlays, walked over a frame that keeps what is said. Condition: what is handed in lies as is said of it. -/
import Derived.Test.YtoacbobchngooaaDoorW02
import Derived.Test.YtoacbobchngooaaDoorQ06
import Derived.Test.YtoacbobchngooaaDoorQ05
import Derived.Test.YtoacbobchngooaaDoorQ08
namespace Go.Proofs.YtoacbobchngooaaDoor
open Go.RowKit Go.Maps
set_option linter.unusedSimpArgs false
set_option maxRecDepth 100000

set_option maxHeartbeats 8000000 in
theorem plays_walk17 (V : FrameOK2) (a : Option Addr) (n cap : Nat) (l : List PlugD) (pa : Option Addr) (pn pcap : Nat) (ps : List Int) (w : World) (hL : SlAt RPlug 7 80 (fun _ => True) w a n cap l) (hP : SlAt RInt 1 8 (fun _ => True) w pa pn pcap ps) : Calls Tryd.prog 3 #[.slice a n cap, .slice pa pn pcap] w fun e w' => e = .returned (.bool true) ∧ Below w.heap.size w w' := by
  have hn : Hid (l.length = n) := hL.1
  have HLn : Hid (n * 80 ≤ 140737488351232) := hL.2.2.2.1
  have hml : n < 1000000000000000 := by have := HLn.out; omega
  have hmp : pn < 1000000000000000 := by have := hP.2.2.2.1; omega
  have HL0 : Hid (∀ z, Below w.heap.size w z → SlAt RPlug 7 80 (fun _ => True) z a n cap l) := fun z hz => hL.on RPlug.firm hz
  have HP0 : Hid (∀ z, Below w.heap.size w z → SlAt RInt 1 8 (fun _ => True) z pa pn pcap ps) := fun z hz => hP.on RInt.firm hz
  have hA := pluginsM_calls a n cap (fun _ => True) l w hL
  clear hL hP
  go_enter Tryd.func3, Tryd.ntmps3
  go_wp2_with fail
  refine hA.mono ?_
  rintro e w1 ⟨v1, rfl, hr1⟩
  have hr1p : Row RPlug 7 (Fresh w) w w1 33 v1 l := hr1.mapR RPlugM.plain
  obtain ⟨oa, oc, rfl, os⟩ := hr1p.slF (bytes := 80) RPlug.firm (by rw [hn.out]; exact HLn.out)
  have HB1 : Hid (Below w.heap.size w w1) := hr1.below
  have HSp : Hid (0 < n → ∃ D, oa = some ⟨D, 0, none⟩ ∧ SpO (fun b => w.heap.size ≤ b ∧ b < w1.heap.size) w1 D n) := fun h0 => by
    obtain ⟨D, c, e, h⟩ := SpO.of hr1 (by rw [hn.out]; exact h0)
    injection e with e1 _ _
    exact ⟨D, e1, by rw [hn.out] at h; exact h⟩
  rw [hn.out] at os ⊢
  have hB := V.new oa n oc (Fresh w) l w1 os
  clear hA hr1 hr1p os
  go_wp2_with fail
  --M1
  refine hB.mono ?_
  rintro e w2 hN
  have HB2 : Hid (Below w1.heap.size w1 w2) := hN.1
  have hR := rnew_calls a n cap (fun _ => True) l w2 (HL0.out w2 (on2 HB1.out hN.1))
  clear hB
  rcases hN.2 with ⟨hv, p, S, rfl, hpf, hSS⟩ | ⟨hv, rfl⟩
  case inr =>
    clear hN
    go_wp2_with fail
    refine hR.mono ?_
    rintro e w3 ⟨b3, ⟨hv2, _⟩ | ⟨_, rfl⟩⟩
    · rw [hv] at hv2; cases hv2
    have HE : Hid (Below w.heap.size w w3) := on2 (on2 HB1.out HB2.out) b3
    clear b3 hR
    go_wp2_with fail
    go_ret
    exact ⟨rfl, HE.out⟩
  have HV : Hid (newB l = true) := hv
  have HPF : Hid (V.PF S (fun x => w1.heap.size ≤ x ∧ ¬ S x) w2 p (newP l) ∧ ∀ x, S x → w1.heap.size ≤ x ∧ x < w2.heap.size) := ⟨hpf, hSS⟩
  clear hN hv hpf hSS
  go_wp2_with fail
  refine hR.mono ?_
  rintro e w3 ⟨b3, ⟨_, q, la, lc, b, Q, rfl, hrf, hQ⟩ | ⟨hv2, _⟩⟩
  case inr => have := HV.out; rw [hv2] at this; cases this
  rw [hn.out] at hrf
  have h64 : n ≤ 64 := by have := new64 HV.out; rw [hn.out] at this; exact this
  have HRF : Hid (RfE w2 w3 q la n lc b (.slice none 0 0) Q (newP l)) := hrf
  have HQ : Hid (∀ x, Q x → w2.heap.size ≤ x) := hQ
  have HB3 : Hid (Below w2.heap.size w2 w3) := b3
  have HS3 : Hid (0 < n → ∃ D, oa = some ⟨D, 0, none⟩ ∧ SpO (fun b => w.heap.size ≤ b ∧ b < w1.heap.size) w3 D n) := fun h0 => by
    obtain ⟨D, e, h⟩ := HSp.out h0
    have h1 := h.kept (Kept.below HB2.out)
    exact ⟨D, e, h1.kept (Kept.below b3)⟩
  clear hR hrf hQ b3 HSp
  go_wp2_with fail
  obtain ⟨QS, hQS⟩ : ∃ T : Where, Hid (T = fun x => Q x ∨ S x) := ⟨_, rfl⟩
  --M2
  go_loopw [10] (fun i z => ∃ k : Nat, k ≤ n ∧ i = .int .i64 k ∧ Hid ((0 < n → ∃ D, oa = some ⟨D, 0, none⟩ ∧ SpO (fun b => w.heap.size ≤ b ∧ b < w1.heap.size) z D n) ∧ Turns (fun b => w.heap.size ≤ b ∧ b < w1.heap.size) w3 z)) (fun i _ => n - (intOf i).toNat)
  case atStart => exact ⟨0, Nat.zero_le _, rfl, HS3.out, Turns.refl _ _⟩
  case round =>
    clear HS3
    obtain ⟨k, hk, rfl, hrun⟩ := hrel
    by_cases hlt : k < n
    case pos =>
      have hltz : (k : Int) < (n : Int) := by omega
      obtain ⟨D, rfl, hsp⟩ := hrun.out.1 (by omega)
      have HT : Hid (Turns (fun b => w.heap.size ≤ b ∧ b < w1.heap.size) w3 wr) := hrun.out.2
      obtain ⟨⟨y1, d1⟩, ⟨y3, d3⟩, _⟩ := hsp.2 k hlt
      have n1 := hsp.1.2.2 (k * 7 + 1)
      have n3 := hsp.1.2.2 (k * 7 + 3)
      obtain ⟨W4, hW4⟩ : ∃ Z, Z = wr.setCell ⟨D, k * 7 + 1, none⟩ (.int .i64 2) := ⟨_, rfl⟩
      have hsp4 : SpO (fun b => w.heap.size ≤ b ∧ b < w1.heap.size) W4 D n := by rw [hW4]; exact hsp.set (.inr (fun i e => by injection e with _ e _; omega)) _
      obtain ⟨_, ⟨z3, c3⟩, _⟩ := hsp4.2 k hlt
      have m3 := hsp4.1.2.2 (k * 7 + 3)
      obtain ⟨W5, hW5⟩ : ∃ Z, Z = W4.setCell ⟨D, k * 7 + 3, none⟩ (.int .i64 2) := ⟨_, rfl⟩
      have hsp5 : SpO (fun b => w.heap.size ≤ b ∧ b < w1.heap.size) W5 D n := by rw [hW5]; exact hsp4.set (.inr (fun i e => by injection e with _ e _; omega)) _
      have HT5 : Hid (Turns (fun b => w.heap.size ≤ b ∧ b < w1.heap.size) w3 W5) := by
        rw [hW5, hW4]; exact (HT.out.trans (Turns.set (p := ⟨D, k * 7 + 1, none⟩) hsp.1.2.1 _)).trans (Turns.set (p := ⟨D, k * 7 + 3, none⟩) hsp.1.2.1 _)
      have HS5 : Hid (SpO (fun b => w.heap.size ≤ b ∧ b < w1.heap.size) W5 D n) := hsp5
      have HW4 : Hid (wr.setCell ⟨D, k * 7 + 1, none⟩ (.int .i64 2) = W4) := hW4.symm
      have HW5 : Hid (W4.setCell ⟨D, k * 7 + 3, none⟩ (.int .i64 2) = W5) := hW5.symm
      clear hW4 hW5 hsp hsp4 hsp5 hrun HT
      go_upto_region 12 with fail
      --M3
      rw [HW4.out, HW5.out]
      clear HW4 HW5 d1 d3 n1 n3 c3 m3
      obtain ⟨_, _, ga, gn, gc, e6, hgn, _⟩ := HS5.out.2 k hlt
      have HI : Hid (SpO (fun b => w.heap.size ≤ b ∧ b < w1.heap.size) W5 D n ∧ Turns (fun b => w.heap.size ≤ b ∧ b < w1.heap.size) w3 W5 ∧ W5.cell? ⟨D, k * 7 + 6, none⟩ = some (.slice ga gn gc)) := ⟨HS5.out, HT5.out, e6⟩
      clear HS5 HT5 e6
      go_wp2_with fail
      go_loopw [11] (fun i z => ∃ j : Nat, j ≤ gn ∧ i = .int .i64 j ∧ Hid (SpO (fun b => w.heap.size ≤ b ∧ b < w1.heap.size) z D n ∧ Turns (fun b => w.heap.size ≤ b ∧ b < w1.heap.size) w3 z ∧ z.cell? ⟨D, k * 7 + 6, none⟩ = some (.slice ga gn gc))) (fun i _ => gn - (intOf i).toNat)
      case atStart => exact ⟨0, Nat.zero_le _, rfl, HI.out⟩
      case round =>
        clear HI
        rename World => V1
        obtain ⟨j, hj, rfl, hr2⟩ := hrel
        obtain ⟨hs, ht, d6⟩ := hr2.out
        by_cases hjl : j < gn
        case pos =>
          have hjz : (j : Int) < (gn : Int) := by omega
          obtain ⟨_, _, ga', gn', gc', e6, _, hG⟩ := hs.2 k hlt
          rw [d6] at e6
          injection e6 with e6
          injection e6 with x1 x2 x3
          subst x1; subst x2; subst x3
          obtain ⟨G, go, rfl, q1, q2, q3, q4, q5⟩ := hG (by omega)
          obtain ⟨y, s0⟩ := q5 j hjl
          have f0 := q4 (go + j)
          have HE : Hid (SpO (fun b => w.heap.size ≤ b ∧ b < w1.heap.size) (V1.setCell ⟨G, go + j, none⟩ (.int .i64 (-7))) D n ∧ Turns (fun b => w.heap.size ≤ b ∧ b < w1.heap.size) w3 (V1.setCell ⟨G, go + j, none⟩ (.int .i64 (-7))) ∧ (V1.setCell ⟨G, go + j, none⟩ (.int .i64 (-7))).cell? ⟨D, k * 7 + 6, none⟩ = some (.slice (some ⟨G, go, none⟩) gn gc)) := ⟨hs.set (.inl q2) _, ht.trans (Turns.set (p := ⟨G, go + j, none⟩) q1 _), (cell_ne (p := ⟨G, go + j, none⟩) q2).trans d6⟩
          clear hs ht hr2 hG q1 q2 q3 q4 q5
          go_wp2_with fail
          --M4
          go_roundw
          case rel => exact ⟨j + 1, by omega, by go_num, HE.out⟩
          case measure => simp [intOf]; omega
        have hjz : ¬ (j : Int) < (gn : Int) := by omega
        have HE : Hid ((0 < n → ∃ D', (some ⟨D, 0, none⟩ : Option Addr) = some ⟨D', 0, none⟩ ∧ SpO (fun b => w.heap.size ≤ b ∧ b < w1.heap.size) V1 D' n) ∧ Turns (fun b => w.heap.size ≤ b ∧ b < w1.heap.size) w3 V1) := ⟨fun _ => ⟨D, rfl, hs⟩, ht⟩
        clear hs ht hr2
        go_wp2_with fail
        --M5
        go_roundw
        case rel => exact ⟨k + 1, by omega, by go_num, HE.out⟩
        case measure => simp [intOf]; omega
    have hltz : ¬ (k : Int) < (n : Int) := by omega
    have HS : Hid (PlS V S w q la n lc b QS l 0 wr p) := ⟨_, newP l, by rw [hQS.out]; exact FJ.start HB1.out HB2.out HPF.out.1 HPF.out.2 HRF.out HB3.out HQ.out (fun _ h => h) hrun.out.2, rfl, by show (l.map fun _ => false).length = n; rw [List.length_map, hn.out], by show ([] : List ByteArray).length ≤ 200 * 0; rw [List.length_nil]; omega⟩
    clear hrun HPF HRF HB3 HQ HB2 HB1
    go_wp2_with fail
    --M6
    go_loopw [6, 12] (fun v i z => ∃ (k p : Nat), k ≤ pn ∧ k ≤ 60 ∧ v = .pointer (some ⟨p, 0, none⟩) ∧ i = .int .i64 k ∧ Hid (PlS V S w q la n lc b QS l k z p)) (fun _ i _ => pn - (intOf i).toNat)
    case atStart => exact ⟨0, p, Nat.zero_le _, Nat.zero_le _, rfl, rfl, HS⟩
    case round =>
      clear HS
      rename World => V2
      obtain ⟨k, p1, hk, hk6, rfl, rfl, hS⟩ := hrel
      by_cases hlt : k < pn
      case neg =>
        have hltz : ¬ (k : Int) < (pn : Int) := by omega
        have hld : decide ((k : Int) < (pn : Int)) = false := decide_eq_false hltz
        obtain ⟨c, f, hJ, hf1, hf2, hf3⟩ := hS.out
        have HJ : Hid (FJ V S w V2 p1 q la n lc b c QS f f) := hJ
        have HV1 : Hid (newB f.1 = true) := by rw [hf1]; exact HV.out
        have HLs : Hid ((scoresP f.1).length * 8 ≤ 140737488351232) := by
          have e : (scoresP f.1).length = (plS (f.1.getD 0 default)).length := by unfold scoresP; rw [List.length_map, List.length_range]
          rw [Hid, e]
          by_cases h0 : 0 < n
          · obtain ⟨D, off, sa, sn, sc, _, _, _, _, hs⟩ := hJ.rf.plug h0
            have h1 := hs.2.2.2.1; rw [← hs.1] at h1; exact h1
          · have e2 : f.1 = [] := List.length_eq_zero_iff.1 (by rw [hf1, hn.out]; omega)
            rw [e2]; decide
        have hA := V.scores hJ.pf
        clear hJ hS hf1 hf2 hf3
        go_wp2_with fail
        --E1a
        refine hA.mono ?_
        rintro e w5 ⟨v5, rfl, hr5⟩
        obtain ⟨sa, sc, rfl, ss⟩ := hr5.slO RInt.firm (bytes := 8) HLs.out
        have hJ5 := HJ.out.on hr5.below
        have hB := rscores_calls hJ5.rf HV1.out
        obtain ⟨ml, hml2⟩ : ∃ ml, ml = (scoresP f.1).length := ⟨_, rfl⟩
        have HMl : Hid ((scoresP f.1).length = ml) := hml2.symm
        rw [← hml2] at ss ⊢
        have HS5 : Hid (∀ z, Below w5.heap.size w5 z → SlAt RInt 1 8 (fun _ => True) z sa ml sc (scoresP f.1)) := fun z hz => (ss.weak RInt.firm (fun _ _ _ => trivial)).on RInt.firm hz
        have HB5 : Hid (Below w.heap.size w w5) := hJ5.below
        clear hA hr5 ss hJ5 HJ hml2
        go_wp2_with fail
        refine hB.mono ?_
        rintro e w6 ⟨v6, rfl, hr6⟩
        obtain ⟨ta, tc, rfl, ts⟩ := hr6.slO RInt.firm (bytes := 8) HLs.out
        rw [HMl.out] at ts ⊢
        have hC := SameInts_calls sa ml sc _ _ ta ml tc _ _ w6 (HS5.out w6 hr6.below) ts
        rw [decide_eq_true rfl] at hC
        have HB6 : Hid (Below w.heap.size w w6) := on2 HB5.out hr6.below
        clear hB hr6 ts HS5 HB5
        go_wp2_with fail
        refine hC.mono ?_
        rintro e w7 ⟨rfl, qd, rfl⟩
        have HB7 : Hid (Below w.heap.size w (w6.drewN qd)) := below_drewN HB6.out qd
        generalize w6.drewN qd = w7 at HB7 ⊢
        clear hC HB6
        go_wp2_with fail
        --E2a
        refine (works17_calls V.plain w7).mono ?_
        rintro e w10 ⟨rfl, b10⟩
        have HE : Hid (Below w.heap.size w w10) := on2 HB7.out b10
        clear b10 HB7
        go_wp2_with fail
        go_ret
        exact ⟨rfl, HE.out⟩
      have hltz : (k : Int) < (pn : Int) := by omega
      by_cases h60 : k < 60
      case neg =>
        have h60z : ¬ (k : Int) < 60 := by omega
        have h60d : decide ((k : Int) < 60) = false := decide_eq_false h60z
        obtain ⟨c, f, hJ, hf1, hf2, hf3⟩ := hS.out
        have HJ : Hid (FJ V S w V2 p1 q la n lc b c QS f f) := hJ
        have HV1 : Hid (newB f.1 = true) := by rw [hf1]; exact HV.out
        have HLs : Hid ((scoresP f.1).length * 8 ≤ 140737488351232) := by
          have e : (scoresP f.1).length = (plS (f.1.getD 0 default)).length := by unfold scoresP; rw [List.length_map, List.length_range]
          rw [Hid, e]
          by_cases h0 : 0 < n
          · obtain ⟨D, off, sa, sn, sc, _, _, _, _, hs⟩ := hJ.rf.plug h0
            have h1 := hs.2.2.2.1; rw [← hs.1] at h1; exact h1
          · have e2 : f.1 = [] := List.length_eq_zero_iff.1 (by rw [hf1, hn.out]; omega)
            rw [e2]; decide
        have hA := V.scores hJ.pf
        clear hJ hS hf1 hf2 hf3
        go_wp2_with fail
        --E1b
        refine hA.mono ?_
        rintro e w5 ⟨v5, rfl, hr5⟩
        obtain ⟨sa, sc, rfl, ss⟩ := hr5.slO RInt.firm (bytes := 8) HLs.out
        have hJ5 := HJ.out.on hr5.below
        have hB := rscores_calls hJ5.rf HV1.out
        obtain ⟨ml, hml2⟩ : ∃ ml, ml = (scoresP f.1).length := ⟨_, rfl⟩
        have HMl : Hid ((scoresP f.1).length = ml) := hml2.symm
        rw [← hml2] at ss ⊢
        have HS5 : Hid (∀ z, Below w5.heap.size w5 z → SlAt RInt 1 8 (fun _ => True) z sa ml sc (scoresP f.1)) := fun z hz => (ss.weak RInt.firm (fun _ _ _ => trivial)).on RInt.firm hz
        have HB5 : Hid (Below w.heap.size w w5) := hJ5.below
        clear hA hr5 ss hJ5 HJ hml2
        go_wp2_with fail
        refine hB.mono ?_
        rintro e w6 ⟨v6, rfl, hr6⟩
        obtain ⟨ta, tc, rfl, ts⟩ := hr6.slO RInt.firm (bytes := 8) HLs.out
        rw [HMl.out] at ts ⊢
        have hC := SameInts_calls sa ml sc _ _ ta ml tc _ _ w6 (HS5.out w6 hr6.below) ts
        rw [decide_eq_true rfl] at hC
        have HB6 : Hid (Below w.heap.size w w6) := on2 HB5.out hr6.below
        clear hB hr6 ts HS5 HB5
        go_wp2_with fail
        refine hC.mono ?_
        rintro e w7 ⟨rfl, qd, rfl⟩
        have HB7 : Hid (Below w.heap.size w (w6.drewN qd)) := below_drewN HB6.out qd
        generalize w6.drewN qd = w7 at HB7 ⊢
        clear hC HB6
        go_wp2_with fail
        --E2b
        refine (works17_calls V.plain w7).mono ?_
        rintro e w10 ⟨rfl, b10⟩
        have HE : Hid (Below w.heap.size w w10) := on2 HB7.out b10
        clear b10 HB7
        go_wp2_with fail
        go_ret
        exact ⟨rfl, HE.out⟩
      have h60z : (k : Int) < 60 := by omega
      --M7
      obtain ⟨c, f, hJ, hf1, hf2, hf3⟩ := hS.out
      obtain ⟨PB, po, rfl, hPB, hPT, cs, hr, hv⟩ := (HP0.out w (Below.refl _ _)).get hlt
      obtain rfl : cs = [.int .i64 (ps.getD k default)] := hr
      have s0 := hv 0 _ rfl
      rw [Nat.mul_one, Nat.add_zero] at s0
      have HPt : Hid (∀ z, Below w.heap.size w z → z.cell? ⟨PB, po + k, none⟩ = some (.int .i64 (ps.getD k default))) := fun z hz => (hz.cell (p := ⟨PB, po + k, none⟩) hPB).trans s0
      clear s0 hv
      generalize ps.getD k default = pt at HPt
      have d0 := HPt.out V2 hJ.below
      have HJ : Hid (FJ V S w V2 p1 q la n lc b c QS f f) := hJ
      have hfl : f.1.length = n := by rw [hf1]; exact hn.out
      by_cases h7 : pt = 7
      case pos =>
        subst h7
        have hA := V.reset hJ.pf hJ.hF
        have HF0 : Hid (f.1 = l ∧ f.2.1.length = n) := ⟨hf1, hf2⟩
        clear hJ hS hf1 hf2 hf3 hfl HPt
        go_wp2_with fail
        --A1
        refine hA.mono ?_
        rintro e w4 ⟨rfl, hp4, ht4⟩
        have hJ4 := HJ.out.prog ht4 hp4
        have hB := rreset_calls hJ4.rf HF0.out.2 h64
        have HJ4 : Hid (FJ V S w w4 p1 q la n lc b c QS (resetP f) f) := hJ4
        clear hA hJ4 hp4 ht4 HJ d0
        go_wp2_with fail
        refine hB.mono ?_
        rintro e w5 ⟨rfl, ho⟩
        obtain ⟨c5, hJ⟩ := HJ4.out.doc ho
        have hf1 : (resetP f).1 = l := HF0.out.1
        have hf2 : (resetP f).2.1.length = n := by show (f.2.1.map fun _ => false).length = n; rw [List.length_map]; exact HF0.out.2
        have hf3 : (resetP f).2.2.length ≤ 200 * (k + 1) := Nat.zero_le _
        generalize resetP f = f5 at hJ hf1 hf2 hf3
        clear hB ho HJ4 HF0
        have HJt : Hid (FJ V S w w5 p1 q la n lc b c5 QS f5 f5) := hJ
        have HF : Hid (f5.1 = l ∧ f5.2.1.length = n ∧ f5.2.2.length ≤ 200 * (k + 1)) := ⟨hf1, hf2, hf3⟩
        have hA := V.calls hJ.pf (by omega)
        obtain ⟨m, hm⟩ : ∃ m, m = f5.2.2.length := ⟨_, rfl⟩
        have hmb : m ≤ 100000 := by rw [hm]; omega
        have HM : Hid (f5.2.2.length = m) := hm.symm
        clear hJ hf1 hf2 hf3 hm
        go_wp2_with fail
        --T1a
        refine hA.mono ?_
        rintro e w8 ⟨v8, rfl, hr8⟩
        obtain ⟨ca, cc, rfl, cs8⟩ := hr8.slO RTxt.firm (bytes := 16) (by rw [HM.out]; omega)
        rw [HM.out] at cs8 hr8 ⊢
        have hJ8 := HJt.out.on hr8.below
        obtain ⟨ya, yn, yc, hyc⟩ := hJ8.rf.rc.headG
        obtain ⟨ya', yc', e1, ys8⟩ := hJ8.rf.rc.slO RTxt.firm (bytes := 16) (by rw [HM.out]; omega)
        rw [HM.out] at e1 ys8
        have hqc := hJ8.rf.cells.1.2.2
        rw [e1] at hqc
        have hB := SameTextsU_calls ca m cc _ _ ya' m yc' _ _ w8 cs8 ys8
        rw [decide_eq_true rfl] at hB
        have HR8 : Hid (Row RTxt 1 (fun _ => False) w5 w8 9 (.slice ca m cc) f5.2.2) := hr8
        clear hA hr8 cs8 hJ8 hyc e1 ys8
        go_wp2_with fail
        refine hB.mono ?_
        rintro e w9 ⟨rfl, qd, rfl⟩
        have hr9 := HR8.out.on RTxt.firm (below_drewN (Below.refl _ _) qd)
        generalize w8.drewN qd = w9 at hr9 ⊢
        have HR9 : Hid (Row RTxt 1 (fun _ => False) w5 w9 9 (.slice ca m cc) f5.2.2) := hr9
        clear hB hr9 HR8 hqc
        go_wp2_with fail
        --T2a
        go_loopw [19] (fun i z => ∃ j : Nat, j ≤ m ∧ i = .int .i64 j ∧ Hid (∃ C : List ByteArray, C.length = m ∧ Row RTxt 1 (fun _ => False) w5 z 9 (.slice ca m cc) C)) (fun i _ => m - (intOf i).toNat)
        case atStart => exact ⟨0, Nat.zero_le _, rfl, f5.2.2, HM.out, HR9.out⟩
        case round =>
          clear HR9
          rename World => V3
          obtain ⟨j, hj, rfl, hr3⟩ := hrel
          obtain ⟨C, hC, hrow⟩ := hr3.out
          by_cases hjl : j < m
          case pos =>
            have hjz : (j : Int) < (m : Int) := by omega
            have hjC : j < C.length := by rw [hC]; exact hjl
            obtain ⟨g, c3, ss, hbe, hg, hrs, hcs⟩ := hrow.getG RTxt.firm (i := j) hjC
            injection hbe with h1 h2 h3
            subst h1; subst h3
            obtain ⟨rfl, hzz⟩ := hrs
            have s0 := hcs 0 _ rfl
            rw [Nat.mul_one, Nat.add_zero] at s0
            have n0 := hrow.meltsG (o := j)
            have hrow2 : Row RTxt 1 (fun _ => False) w5 V3 9 (.slice (some ⟨g, 0, none⟩) C.length cc) C := by rw [hC]; exact hrow
            have hset := hrow2.setG RTxt.firm (i := j) (j := 0) (val := .string ⟨#[115, 112, 111, 105, 108, 116]⟩) (x := ⟨#[115, 112, 111, 105, 108, 116]⟩) hjC (by decide) (fun B cs hr => by obtain ⟨rfl, _⟩ := hr; exact ⟨rfl, by decide⟩)
            rw [Nat.mul_one, Nat.add_zero, hC] at hset
            have HE : Hid (∃ C' : List ByteArray, C'.length = m ∧ Row RTxt 1 (fun _ => False) w5 (V3.setCell ⟨g, j, none⟩ (.string ⟨#[115, 112, 111, 105, 108, 116]⟩)) 9 (.slice (some ⟨g, 0, none⟩) m cc) C') := ⟨C.set j ⟨#[115, 112, 111, 105, 108, 116]⟩, by rw [List.length_set, hC], hset⟩
            generalize C.getD j default = sj at s0
            clear hset hrow2 hrow hr3 hcs h2 hzz hC hjC
            go_wp2_with fail
            go_roundw
            case rel => exact ⟨j + 1, by omega, by go_num, HE⟩
            case measure => simp [intOf]; omega
          have hjz : ¬ (j : Int) < (m : Int) := by omega
          have HE : Hid (PlS V S w q la n lc b QS l (k + 1) V3 p1) := ⟨_, _, HJt.out.on hrow.below, HF.out.1, HF.out.2.1, HF.out.2.2⟩
          clear hrow hr3 hC HJt HF HM
          go_wp2_with fail
          --T3a
          go_roundw
          case rel => exact ⟨k + 1, p1, by omega, by omega, rfl, by go_num, HE⟩
          case measure => simp [intOf]; omega
      by_cases h8 : pt = 8
      case pos =>
        subst h8
        have hA := V.clone hJ.pf (by omega)
        have HF0 : Hid (f.1 = l ∧ f.2.1.length = n ∧ f.2.2.length ≤ 200 * (k + 1)) := ⟨hf1, hf2, by omega⟩
        have hfb : f.2.2.length ≤ 12000 := by omega
        clear hJ hS hf1 hf2 hf3 HPt
        go_wp2_with fail
        --A2
        refine hA.mono ?_
        rintro e w4 ⟨p4, rfl, hp4, b4⟩
        have hold := HJ.out.old b4
        have hB := V.run hold.1 hold.2 (by omega) 1
        have HPC : Hid (V.PF S (Fresh V2) w4 p4 f) := hp4
        have HB4 : Hid (Below V2.heap.size V2 w4) := b4
        have HFO : Hid (∀ x, w4.heap.size ≤ x → FO w V2 w4 q b c QS x) := hold.2
        clear hA hp4 b4 hold d0
        go_wp2_with fail
        refine hB.mono ?_
        rintro e w5 ⟨rfl, hp5, ht5⟩
        have hg := runP_grow f 1
        have hC := V.run hp5 (fun x hx => HFO.out x (Nat.le_trans ht5.size hx)) (by have h := hg.2.2; omega) 3
        have HT5 : Hid (Turns (FO w V2 w4 q b c QS) w4 w5) := ht5
        clear hB hp5 ht5 hg
        go_wp2_with fail
        refine hC.mono ?_
        rintro e w6 ⟨rfl, hp6, ht6⟩
        have hJ := HJ.out.clone HB4.out HPC.out (HT5.out.trans ht6)
        have hf1 := HF0.out.1
        have hf2 := HF0.out.2.1
        have hf3 := HF0.out.2.2
        clear hC hp6 ht6 HT5 HPC HB4 HFO HJ HF0 hfb hfl
        have HJt : Hid (FJ V S w w6 p4 q la n lc b c QS f f) := hJ
        have HF : Hid (f.1 = l ∧ f.2.1.length = n ∧ f.2.2.length ≤ 200 * (k + 1)) := ⟨hf1, hf2, hf3⟩
        have hA := V.calls hJ.pf (by omega)
        obtain ⟨m, hm⟩ : ∃ m, m = f.2.2.length := ⟨_, rfl⟩
        have hmb : m ≤ 100000 := by rw [hm]; omega
        have HM : Hid (f.2.2.length = m) := hm.symm
        clear hJ hf1 hf2 hf3 hm
        go_wp2_with fail
        --T1b
        refine hA.mono ?_
        rintro e w8 ⟨v8, rfl, hr8⟩
        obtain ⟨ca, cc, rfl, cs8⟩ := hr8.slO RTxt.firm (bytes := 16) (by rw [HM.out]; omega)
        rw [HM.out] at cs8 hr8 ⊢
        have hJ8 := HJt.out.on hr8.below
        obtain ⟨ya, yn, yc, hyc⟩ := hJ8.rf.rc.headG
        obtain ⟨ya', yc', e1, ys8⟩ := hJ8.rf.rc.slO RTxt.firm (bytes := 16) (by rw [HM.out]; omega)
        rw [HM.out] at e1 ys8
        have hqc := hJ8.rf.cells.1.2.2
        rw [e1] at hqc
        have hB := SameTextsU_calls ca m cc _ _ ya' m yc' _ _ w8 cs8 ys8
        rw [decide_eq_true rfl] at hB
        have HR8 : Hid (Row RTxt 1 (fun _ => False) w6 w8 9 (.slice ca m cc) f.2.2) := hr8
        clear hA hr8 cs8 hJ8 hyc e1 ys8
        go_wp2_with fail
        refine hB.mono ?_
        rintro e w9 ⟨rfl, qd, rfl⟩
        have hr9 := HR8.out.on RTxt.firm (below_drewN (Below.refl _ _) qd)
        generalize w8.drewN qd = w9 at hr9 ⊢
        have HR9 : Hid (Row RTxt 1 (fun _ => False) w6 w9 9 (.slice ca m cc) f.2.2) := hr9
        clear hB hr9 HR8 hqc
        go_wp2_with fail
        --T2b
        go_loopw [19] (fun i z => ∃ j : Nat, j ≤ m ∧ i = .int .i64 j ∧ Hid (∃ C : List ByteArray, C.length = m ∧ Row RTxt 1 (fun _ => False) w6 z 9 (.slice ca m cc) C)) (fun i _ => m - (intOf i).toNat)
        case atStart => exact ⟨0, Nat.zero_le _, rfl, f.2.2, HM.out, HR9.out⟩
        case round =>
          clear HR9
          rename World => V3
          obtain ⟨j, hj, rfl, hr3⟩ := hrel
          obtain ⟨C, hC, hrow⟩ := hr3.out
          by_cases hjl : j < m
          case pos =>
            have hjz : (j : Int) < (m : Int) := by omega
            have hjC : j < C.length := by rw [hC]; exact hjl
            obtain ⟨g, c3, ss, hbe, hg, hrs, hcs⟩ := hrow.getG RTxt.firm (i := j) hjC
            injection hbe with h1 h2 h3
            subst h1; subst h3
            obtain ⟨rfl, hzz⟩ := hrs
            have s0 := hcs 0 _ rfl
            rw [Nat.mul_one, Nat.add_zero] at s0
            have n0 := hrow.meltsG (o := j)
            have hrow2 : Row RTxt 1 (fun _ => False) w6 V3 9 (.slice (some ⟨g, 0, none⟩) C.length cc) C := by rw [hC]; exact hrow
            have hset := hrow2.setG RTxt.firm (i := j) (j := 0) (val := .string ⟨#[115, 112, 111, 105, 108, 116]⟩) (x := ⟨#[115, 112, 111, 105, 108, 116]⟩) hjC (by decide) (fun B cs hr => by obtain ⟨rfl, _⟩ := hr; exact ⟨rfl, by decide⟩)
            rw [Nat.mul_one, Nat.add_zero, hC] at hset
            have HE : Hid (∃ C' : List ByteArray, C'.length = m ∧ Row RTxt 1 (fun _ => False) w6 (V3.setCell ⟨g, j, none⟩ (.string ⟨#[115, 112, 111, 105, 108, 116]⟩)) 9 (.slice (some ⟨g, 0, none⟩) m cc) C') := ⟨C.set j ⟨#[115, 112, 111, 105, 108, 116]⟩, by rw [List.length_set, hC], hset⟩
            generalize C.getD j default = sj at s0
            clear hset hrow2 hrow hr3 hcs h2 hzz hC hjC
            go_wp2_with fail
            go_roundw
            case rel => exact ⟨j + 1, by omega, by go_num, HE⟩
            case measure => simp [intOf]; omega
          have hjz : ¬ (j : Int) < (m : Int) := by omega
          have HE : Hid (PlS V S w q la n lc b QS l (k + 1) V3 p4) := ⟨_, _, HJt.out.on hrow.below, HF.out.1, HF.out.2.1, HF.out.2.2⟩
          clear hrow hr3 hC HJt HF HM
          go_wp2_with fail
          --T3b
          go_roundw
          case rel => exact ⟨k + 1, p4, by omega, by omega, rfl, by go_num, HE⟩
          case measure => simp [intOf]; omega
      --M8
      have h7b : (pt == 7) = false := by simpa using h7
      have h8b : (pt == 8) = false := by simpa using h8
      have hg := runP_grow f pt
      have hA := V.run hJ.pf hJ.hF (by omega) pt
      have HFg : Hid ((runP f pt).1.1 = l ∧ (runP f pt).1.2.1.length = n ∧ (runP f pt).1.2.2.length ≤ 200 * (k + 1)) := ⟨hg.1.trans hf1, hg.2.1.trans hf2, by have h := hg.2.2; omega⟩
      have hfb : f.2.2.length ≤ 12000 := by omega
      have HK2 : Hid (f.2.1.length = n) := hf2
      clear hJ hS hf1 hf2 hf3 hg
      go_wp2_with fail
      --A3
      refine hA.mono ?_
      rintro e w4 ⟨rfl, hp4, ht4⟩
      have hJ4 := HJ.out.prog ht4 hp4
      have hB := rrun_calls hJ4.rf HK2.out h64 (by omega) pt
      have g0 := HPt.out w4 hJ4.below
      have HJ4 : Hid (FJ V S w w4 p1 q la n lc b c QS (runP f pt).1 f) := hJ4
      obtain ⟨r2, hr2⟩ : ∃ r, r = (runP f pt).2 := ⟨_, rfl⟩
      obtain ⟨s2, hs2⟩ : ∃ r, r = runE pt := ⟨_, rfl⟩
      rw [← hr2, ← hs2] at hB ⊢
      clear hr2 hs2 hA hJ4 hp4 ht4 HJ d0 HPt
      go_wp2_with fail
      refine hB.mono ?_
      rintro e w5 ⟨rfl, ho⟩
      obtain ⟨c5, hJ⟩ := HJ4.out.doc ho
      have hf1 := HFg.out.1
      have hf2 := HFg.out.2.1
      have hf3 := HFg.out.2.2
      have er : (r2 != r2) = false := by simp
      have es : (s2 != s2) = false := by simp
      generalize (runP f pt).1 = f5 at hJ hf1 hf2 hf3
      clear hB ho HJ4 HFg HK2 hfb hfl g0
      have HJt : Hid (FJ V S w w5 p1 q la n lc b c5 QS f5 f5) := hJ
      have HF : Hid (f5.1 = l ∧ f5.2.1.length = n ∧ f5.2.2.length ≤ 200 * (k + 1)) := ⟨hf1, hf2, hf3⟩
      have hA := V.calls hJ.pf (by omega)
      obtain ⟨m, hm⟩ : ∃ m, m = f5.2.2.length := ⟨_, rfl⟩
      have hmb : m ≤ 100000 := by rw [hm]; omega
      have HM : Hid (f5.2.2.length = m) := hm.symm
      clear hJ hf1 hf2 hf3 hm
      go_wp2_with fail
      --T1c
      refine hA.mono ?_
      rintro e w8 ⟨v8, rfl, hr8⟩
      obtain ⟨ca, cc, rfl, cs8⟩ := hr8.slO RTxt.firm (bytes := 16) (by rw [HM.out]; omega)
      rw [HM.out] at cs8 hr8 ⊢
      have hJ8 := HJt.out.on hr8.below
      obtain ⟨ya, yn, yc, hyc⟩ := hJ8.rf.rc.headG
      obtain ⟨ya', yc', e1, ys8⟩ := hJ8.rf.rc.slO RTxt.firm (bytes := 16) (by rw [HM.out]; omega)
      rw [HM.out] at e1 ys8
      have hqc := hJ8.rf.cells.1.2.2
      rw [e1] at hqc
      have hB := SameTextsU_calls ca m cc _ _ ya' m yc' _ _ w8 cs8 ys8
      rw [decide_eq_true rfl] at hB
      have HR8 : Hid (Row RTxt 1 (fun _ => False) w5 w8 9 (.slice ca m cc) f5.2.2) := hr8
      clear hA hr8 cs8 hJ8 hyc e1 ys8
      go_wp2_with fail
      refine hB.mono ?_
      rintro e w9 ⟨rfl, qd, rfl⟩
      have hr9 := HR8.out.on RTxt.firm (below_drewN (Below.refl _ _) qd)
      generalize w8.drewN qd = w9 at hr9 ⊢
      have HR9 : Hid (Row RTxt 1 (fun _ => False) w5 w9 9 (.slice ca m cc) f5.2.2) := hr9
      clear hB hr9 HR8 hqc
      go_wp2_with fail
      --T2c
      go_loopw [19] (fun i z => ∃ j : Nat, j ≤ m ∧ i = .int .i64 j ∧ Hid (∃ C : List ByteArray, C.length = m ∧ Row RTxt 1 (fun _ => False) w5 z 9 (.slice ca m cc) C)) (fun i _ => m - (intOf i).toNat)
      case atStart => exact ⟨0, Nat.zero_le _, rfl, f5.2.2, HM.out, HR9.out⟩
      case round =>
        clear HR9
        rename World => V3
        obtain ⟨j, hj, rfl, hr3⟩ := hrel
        obtain ⟨C, hC, hrow⟩ := hr3.out
        by_cases hjl : j < m
        case pos =>
          have hjz : (j : Int) < (m : Int) := by omega
          have hjC : j < C.length := by rw [hC]; exact hjl
          obtain ⟨g, c3, ss, hbe, hg, hrs, hcs⟩ := hrow.getG RTxt.firm (i := j) hjC
          injection hbe with h1 h2 h3
          subst h1; subst h3
          obtain ⟨rfl, hzz⟩ := hrs
          have s0 := hcs 0 _ rfl
          rw [Nat.mul_one, Nat.add_zero] at s0
          have n0 := hrow.meltsG (o := j)
          have hrow2 : Row RTxt 1 (fun _ => False) w5 V3 9 (.slice (some ⟨g, 0, none⟩) C.length cc) C := by rw [hC]; exact hrow
          have hset := hrow2.setG RTxt.firm (i := j) (j := 0) (val := .string ⟨#[115, 112, 111, 105, 108, 116]⟩) (x := ⟨#[115, 112, 111, 105, 108, 116]⟩) hjC (by decide) (fun B cs hr => by obtain ⟨rfl, _⟩ := hr; exact ⟨rfl, by decide⟩)
          rw [Nat.mul_one, Nat.add_zero, hC] at hset
          have HE : Hid (∃ C' : List ByteArray, C'.length = m ∧ Row RTxt 1 (fun _ => False) w5 (V3.setCell ⟨g, j, none⟩ (.string ⟨#[115, 112, 111, 105, 108, 116]⟩)) 9 (.slice (some ⟨g, 0, none⟩) m cc) C') := ⟨C.set j ⟨#[115, 112, 111, 105, 108, 116]⟩, by rw [List.length_set, hC], hset⟩
          generalize C.getD j default = sj at s0
          clear hset hrow2 hrow hr3 hcs h2 hzz hC hjC
          go_wp2_with fail
          go_roundw
          case rel => exact ⟨j + 1, by omega, by go_num, HE⟩
          case measure => simp [intOf]; omega
        have hjz : ¬ (j : Int) < (m : Int) := by omega
        have HE : Hid (PlS V S w q la n lc b QS l (k + 1) V3 p1) := ⟨_, _, HJt.out.on hrow.below, HF.out.1, HF.out.2.1, HF.out.2.2⟩
        clear hrow hr3 hC HJt HF HM
        go_wp2_with fail
        --T3c
        go_roundw
        case rel => exact ⟨k + 1, p1, by omega, by omega, rfl, by go_num, HE⟩
        case measure => simp [intOf]; omega
end Go.Proofs.YtoacbobchngooaaDoor
