/- The law WatchApart, walked. Condition: the program's calls are as the structure says; the kinds are not too many. -/
import Derived.Test.YtnlmipgmakmbiaaWLsW
namespace Go.Proofs.Ytnlmipgmakmbiaa
open Go.RowKit
set_option linter.unusedSimpArgs false
set_option maxRecDepth 100000

/-- A call of the law: what, of which kind, how many. -/
abbrev ActD := Int × Int × Int
def RAct : Rep ActD := RPair RInt (RPair RInt RInt)
theorem RAct.firm : Firm RAct 3 := Firm.pair RInt.firm (Firm.pair RInt.firm RInt.firm)
theorem RAct.cells {A : Where} {w : World} {cs : List Value} {x : ActD} (h : RAct A w cs x) : cs = [.int .i64 x.1, .int .i64 x.2.1, .int .i64 x.2.2] := by
  obtain ⟨l0, r0, rfl, e0, l1, r1, rfl, e1, e2⟩ := h
  obtain rfl : l0 = _ := e0
  obtain rfl : l1 = _ := e1
  obtain rfl : r1 = _ := e2
  rfl
theorem set_oth13 {α : Type} [Inhabited α] {l : List α} {i j : Nat} {x : α} (h : i ≠ j) : (l.set i x).getD j default = l.getD j default := by
  rw [List.getD_eq_getElem?_getD, List.getElem?_set, if_neg h, ← List.getD_eq_getElem?_getD]
theorem nextP_oth {At : List Int} {Off : List Bool} {kd n : Int} {L : List Ch} {i : Nat} (h : kd.toNat ≠ i) : (nextP At Off kd n L).2.2.getD i default = At.getD i default := by
  unfold nextP
  split
  · split
    · rfl
    · simp only
      split
      · exact set_oth13 h
      · rfl
  · rfl
theorem cutP_oth {Off : List Bool} {kd : Int} {i : Nat} (h : kd.toNat ≠ i) : (cutP Off kd).2.getD i default = Off.getD i default := by
  unfold cutP
  split
  · split
    · rfl
    · exact set_oth13 h
  · rfl
theorem listP_oth {At : List Int} {Off : List Bool} {kd v : Int} {i : Nat} (h : kd.toNat ≠ i) : (listP At Off kd v).2.1.getD i default = At.getD i default ∧ (listP At Off kd v).2.2.getD i default = Off.getD i default := by
  unfold listP
  split
  · exact ⟨set_oth13 h, set_oth13 h⟩
  · exact ⟨rfl, rfl⟩
/-- Two watchers that stand alike for a kind. -/
def ApI (W : WatchOK) (w u3 : World) (p p2 : Nat) (S S2 : Where) (i : Nat) (la : Option Addr) (ln lc : Nat) (Lg : List Ch) (u : World) : Prop :=
  ∃ At Off At2 Off2, W.PW u p S At Off ∧ W.PW u p2 S2 At2 Off2 ∧ SlAt RCh 42 640 (fun b => b < u3.heap.size) u la ln lc Lg ∧ Below w.heap.size w u ∧ At.getD i default = At2.getD i default ∧ Off.getD i default = false ∧ Off2.getD i default = false
set_option maxHeartbeats 16000000 in
theorem apart_walk (W : WatchOK) (a : Option Addr) (n cap : Nat) (L : List Int) (ka0 kb0 : Int) (b : Option Addr) (m capb : Nat) (M : List ActD) (w : World) (hL : Hid (SlAt RInt 1 8 (fun _ => True) w a n cap L)) (hM : Hid (SlAt RAct 3 24 (fun _ => True) w b m capb M)) (hb : n * 640 ≤ 140737488351232) : Calls Try.prog 5 #[.slice a n cap, .int .i64 ka0, .int .i64 kb0, .slice b m capb] w fun e w' => e = .returned (.bool true) ∧ Below w.heap.size w w' := by
  have hC := works13_calls W w
  have hmn : Hid (M.length = m) := hM.out.1
  have hlm := hM.out.len (by decide)
  have hnl : Hid (L.length = n) := hL.out.1
  go_enter Try.func5, Try.ntmps5
  go_wp2_with fail
  refine hC.mono ?_
  rintro e u1 ⟨rfl, b1⟩
  clear hC
  have hC := logged_calls a n cap _ L u1 (hL.out.on RInt.firm b1) hb
  obtain ⟨Lg, hLg⟩ : ∃ l, l = logP (L.map kndP) 0 := ⟨_, rfl⟩
  have HLg : Hid (Rise Lg ∧ Lg.length = n) := ⟨by rw [hLg]; exact log_rise _ _, by rw [hLg, log_len, List.length_map]; exact hnl.out⟩
  rw [← hLg] at hC
  clear hLg
  go_wp2_with fail
  refine hC.mono ?_
  intro e u2 h2
  obtain ⟨la, ln, lc, rfl, sl, b2⟩ := h2.sl (by rw [HLg.out.2]; exact hb)
  clear hC h2
  have hC := Among_is ka0 6 (by decide) (by decide) u2
  have hkl := among_lt ka0 (m := 6) (by decide)
  have hkl2 := among_lt kb0 (m := 6) (by decide)
  have hkz : IntKind.i64.wrap (1 + (amongP ka0 6 : Int)) = kndP ka0 := by unfold kndP; generalize amongP ka0 6 = y at hkl; simp [IntKind.wrap, IntKind.bits, IntKind.signed]; omega
  have hkz2 : IntKind.i64.wrap (1 + (amongP kb0 6 : Int)) = kndP kb0 := by unfold kndP; generalize amongP kb0 6 = y at hkl2; simp [IntKind.wrap, IntKind.bits, IntKind.signed]; omega
  have Hkn := knd_ok ka0
  have Hkn2 := knd_ok kb0
  generalize kndP ka0 = k at hkz Hkn
  generalize kndP kb0 = k' at hkz2 Hkn2
  go_wp2_with fail
  refine hC.mono ?_
  rintro e u3 ⟨rfl, rfl⟩
  clear hC
  have hC := Among_is kb0 6 (by decide) (by decide) u3
  go_wp2_with fail
  refine hC.mono ?_
  rintro e u3 ⟨rfl, rfl⟩
  clear hC
  by_cases hkk : k = k'
  · subst hkk
    have HE : Hid (Below w.heap.size w u3) := on2 b1 b2
    clear sl
    go_wp2_with fail
    go_ret
    exact ⟨rfl, HE.out⟩
  have hkk2 : (k == k') = false := by rw [beq_eq_false_iff_ne]; exact hkk
  obtain ⟨k1, k2⟩ := kn_iff.1 Hkn
  obtain ⟨k3, k4⟩ := kn_iff.1 Hkn2
  have hne : k'.toNat ≠ k.toNat := by omega
  have hC := W.new 0 u3
  --M1
  go_wp2_with fail
  refine hC.mono ?_
  rintro e u4 ⟨p, S, rfl, hp, hS, b4⟩
  clear hC
  have hC := W.new 0 u4
  have H4 : Hid (W.PW u4 p S (List.replicate 7 (max 0 0)) (List.replicate 7 false) ∧ (∀ b, S b → u3.heap.size ≤ b) ∧ Below u3.heap.size u3 u4 ∧ SlAt RCh 42 640 (fun b => b < u3.heap.size) u3 la ln lc Lg ∧ Below w.heap.size w u3) := ⟨hp, hS, b4, sl.weak RCh.firm (fun b h _ => h), on2 b1 b2⟩
  clear hp hS b4 sl b1 b2
  go_wp2_with fail
  refine hC.mono ?_
  rintro e u5 ⟨p2, S2, rfl, hp2, hS2, b5⟩
  clear hC
  obtain ⟨hp, hS, b4, sl, bw⟩ := H4.out
  have HS : Hid ((∀ b, S b → u3.heap.size ≤ b) ∧ (∀ b, S2 b → u3.heap.size ≤ b) ∧ (∀ b, S b → ¬ S2 b) ∧ w.heap.size ≤ u3.heap.size) := ⟨hS, fun b h => Nat.le_trans b4.size (hS2 b h), fun b h1 h2 => by have h3 := W.lt hp b h1; have h4 := hS2 b h2; omega, bw.size⟩
  have HI : Hid (ApI W w u3 p p2 S S2 k.toNat la ln lc Lg u5) := ⟨_, _, _, _, W.kept hp (Kept.below b5), hp2, (sl.on RCh.firm b4).on RCh.firm b5, on2 (on2 bw b4) b5, rfl, rep_off, rep_off⟩
  clear hp hp2 hS hS2 b4 b5 sl bw H4
  go_wp2_with fail
  --M2
  go_loopw [12, 13, 14, 15, 16, 17, 81, 82, 88, 93] (fun i _ _ _ _ _ _ _ _ _ wr => ∃ j : Nat, j ≤ m ∧ i = .int .i64 j ∧ Hid (ApI W w u3 p p2 S S2 k.toNat la ln lc Lg wr)) (fun i _ _ _ _ _ _ _ _ _ _ => m - (intOf i).toNat)
  case atStart => exact ⟨0, Nat.zero_le _, rfl, HI⟩
  case round =>
    obtain ⟨j, hj, rfl, hrun⟩ := hrel
    obtain ⟨At, Off, At2, Off2, hp, hp2, sl, bw, ha, ho, ho2⟩ := hrun.out
    clear hrun HI
    by_cases hlt : j < m
    · --M3
      have hltz : (j : Int) < (m : Int) := by omega
      obtain ⟨B, off, rfl, hB, hBw, cs, hr, hv⟩ := ((hM.out.weak RAct.firm (A' := fun b => b < w.heap.size) (fun b h _ => h)).on RAct.firm bw).get hlt
      obtain rfl := hr.cells
      have d0 := hv 0 _ rfl
      have d2 := hv 2 _ rfl
      rw [Nat.add_zero] at d0
      generalize M.getD j default = x at d0 d2
      obtain ⟨x0, x1, x2⟩ := x
      simp only at d0 d2
      have HBw : Hid (B < w.heap.size) := hBw
      have Hc : Hid (∀ z, Below w.heap.size w z → (z.cell? ⟨B, off + j * 3, none⟩ = some (.int .i64 x0) ∧ z.cell? ⟨B, off + j * 3 + 2, none⟩ = some (.int .i64 x2)) = (w.cell? ⟨B, off + j * 3, none⟩ = some (.int .i64 x0) ∧ w.cell? ⟨B, off + j * 3 + 2, none⟩ = some (.int .i64 x2))) := fun z hz => by
        rw [World.cell?_of_block (w := w) (a := ⟨B, off + j * 3, none⟩) (hz.block B hBw), World.cell?_of_block (w := w) (a := ⟨B, off + j * 3 + 2, none⟩) (hz.block B hBw)]
      have Hd : Hid (∀ z, Below w.heap.size w z → z.cell? ⟨B, off + j * 3, none⟩ = some (.int .i64 x0) ∧ z.cell? ⟨B, off + j * 3 + 2, none⟩ = some (.int .i64 x2)) := fun z hz => by
        rw [Hc.out z hz, ← Hc.out wr bw]
        exact ⟨d0, d2⟩
      obtain ⟨q, hq⟩ : ∃ q, q = amongP x2 5 := ⟨_, rfl⟩
      have hC := Among_is x2 5 (by decide) (by decide) wr
      rw [← hq] at hC
      clear hq hv hB hBw Hc d0
      obtain ⟨n1, n2, n3, n4⟩ := nextP_ok (At := At) (Off := Off) q Lg Hkn (W.len hp).1 ho
      obtain ⟨m1, m2, m3, m4⟩ := nextP_ok (At := At2) (Off := Off2) q Lg Hkn (W.len hp2).1 ho2
      rw [← ha] at m1 m3
      rw [← n1] at m1 m3
      rw [← n1] at n3
      rw [← n3] at m3
      obtain ⟨⟨l, r, Bt⟩, hN⟩ : ∃ y, y = nextP At Off k q Lg := ⟨_, rfl⟩
      obtain ⟨⟨l2, r2, Bt2⟩, hN2⟩ : ∃ y, y = nextP At2 Off2 k q Lg := ⟨_, rfl⟩
      rw [← hN] at n2 m1 m3 n4
      rw [← hN2] at m1 m2 m3 m4
      simp only at n2 m1 m2 m3 m4 n4
      subst m1
      have HN : Hid (nextP At Off k q Lg = (l2, 0, Bt)) := by rw [Hid, ← hN, n2]
      have HN2 : Hid (nextP At2 Off2 k q Lg = (l2, 0, Bt2)) := by rw [Hid, ← hN2, m2]
      have HL : Hid (Bt.getD k.toNat default = Bt2.getD k.toNat default) := m3.symm
      have H0 : Hid (W.PW wr p S At Off ∧ W.PW wr p2 S2 At2 Off2 ∧ SlAt RCh 42 640 (fun b => b < u3.heap.size) wr la ln lc Lg ∧ Below w.heap.size w wr) := ⟨hp, hp2, sl, bw⟩
      have hA : ∀ b, b < u3.heap.size → ¬ S b := fun b h1 h2 => by have h3 := HS.out.1 b h2; omega
      have hA2 : ∀ b, b < u3.heap.size → ¬ S2 b := fun b h1 h2 => by have h3 := HS.out.2.1 b h2; omega
      have hSw : ∀ b, S b → w.heap.size ≤ b := fun b h => Nat.le_trans HS.out.2.2.2 (HS.out.1 b h)
      have hSw2 : ∀ b, S2 b → w.heap.size ≤ b := fun b h => Nat.le_trans HS.out.2.2.2 (HS.out.2.1 b h)
      clear hN hN2 n1 n2 n3 n4 m2 m3 m4 ha hp hp2 sl bw
      go_wp2_with fail
      refine hC.mono ?_
      rintro e u6 ⟨rfl, rfl⟩
      clear hC d2
      have hC := W.next k q H0.out.1 H0.out.2.2.1 HLg.out.1 hA
      rw [HN.out] at hC
      simp only at hC
      go_wp2_with fail
      refine hC.mono ?_
      rintro e u7 ⟨a7, n7, c7, rfl, t7, hp7, r7⟩
      clear hC
      obtain ⟨_, hp2, sl, bw⟩ := H0.out
      have hp27 := W.kept hp2 (r7.kept.weak (fun b h1 h2 => HS.out.2.2.1 b h2 h1))
      have s7 := r7.sl sl hA
      have w7 := r7.below hSw bw
      have hC := W.next k q hp27 s7 HLg.out.1 hA2
      rw [HN2.out] at hC
      simp only at hC
      have H7 : Hid (W.PW u7 p S Bt Off ∧ SlAt RCh 42 640 (fun b => b < u3.heap.size) u7 la ln lc Lg ∧ Below w.heap.size w u7 ∧ SlAt RCh 42 640 (Fresh u6) u7 a7 n7 c7 l2 ∧ (∀ b, S2 b → b < u6.heap.size)) := ⟨hp7, s7, w7, t7, W.lt hp2⟩
      clear hp2 sl bw hp27 s7 w7 r7 t7 hp7
      --M4
      go_wp2_with fail
      refine hC.mono ?_
      rintro e u8 ⟨a8, n8, c8, rfl, t8, hp8, r8⟩
      clear hC
      obtain ⟨hp, sl, bw, t7, hlt2⟩ := H7.out
      have hpp := W.kept hp (r8.kept.weak (fun b h1 h2 => HS.out.2.2.1 b h1 h2))
      have s8 := r8.sl sl hA2
      have w8 := r8.below hSw2 bw
      have t78 : SlAt RCh 42 640 (Fresh u6) u8 a7 n7 c7 l2 := r8.sl t7 (fun b h1 h2 => by have h3 := hlt2 b h2; have h4 : u6.heap.size ≤ b := h1; omega)
      have hC := same_calls a7 n7 c7 _ l2 a8 n8 c8 _ l2 u8 t78 t8
      rw [decide_eq_true (rfl : l2 = l2)] at hC
      have H8 : Hid (∀ z, Below u8.heap.size u8 z → W.PW z p S Bt Off ∧ W.PW z p2 S2 Bt2 Off2 ∧ SlAt RCh 42 640 (fun b => b < u3.heap.size) z la ln lc Lg ∧ Below w.heap.size w z) := fun z hz => ⟨W.kept hpp (Kept.below hz), W.kept hp8 (Kept.below hz), s8.on RCh.firm hz, on2 w8 hz⟩
      clear hp sl bw t7 hlt2 hpp s8 w8 t78 t8 hp8 r8 H7
      go_wp2_with fail
      refine hC.mono ?_
      rintro e u9 ⟨rfl, n9, rfl⟩
      clear hC
      have b9 : Below u8.heap.size u8 (u8.drewN n9) := ⟨rfl, rfl, rfl, Nat.le_refl _, fun _ _ => rfl⟩
      have h9 := H8.out _ b9
      clear H8
      generalize u8.drewN n9 = u9 at h9
      obtain ⟨d0, d2⟩ := Hd.out u9 h9.2.2.2
      have hC := Among_is x0 3 (by decide) (by decide) u9
      have hc3 := among_lt x0 (m := 3) (by decide)
      generalize amongP x0 3 = c at hC hc3
      have H9 : Hid (W.PW u9 p S Bt Off ∧ W.PW u9 p2 S2 Bt2 Off2 ∧ SlAt RCh 42 640 (fun b => b < u3.heap.size) u9 la ln lc Lg ∧ Below w.heap.size w u9) := h9
      clear h9 b9
      --M5
      go_wp2_with fail
      refine hC.mono ?_
      rintro e u9 ⟨rfl, rfl⟩
      clear hC
      obtain ⟨hp, hp2, sl, bw⟩ := H9.out
      rcases (show c = 0 ∨ c = 1 ∨ c = 2 by omega) with rfl | rfl | rfl
      · have hC := W.next k' 2 hp sl HLg.out.1 hA
        --M6
        have HX : Hid ((nextP Bt Off k' 2 Lg).2.2.getD k.toNat default = Bt2.getD k.toNat default) := by rw [Hid, nextP_oth hne]; exact HL.out
        generalize nextP Bt Off k' 2 Lg = y at hC HX
        obtain ⟨y1, y2, y3⟩ := y
        simp only at hC HX
        clear hp hp2 sl bw
        go_wp2_with fail
        refine hC.mono ?_
        rintro e u10 ⟨a10, n10, c10, rfl, _, hp10, r10⟩
        clear hC
        obtain ⟨_, hp2, sl, bw⟩ := H9.out
        have HN10 : Hid (ApI W w u3 p p2 S S2 k.toNat la ln lc Lg u10) := ⟨_, _, _, _, hp10, W.kept hp2 (r10.kept.weak (fun b h1 h2 => HS.out.2.2.1 b h2 h1)), r10.sl sl hA, r10.below hSw bw, HX.out, ho, ho2⟩
        clear hp10 r10 hp2 sl bw
        go_wp2_with fail
        go_roundw
        case rel => exact ⟨j + 1, by omega, by go_num, HN10⟩
        case measure => simp [intOf]; omega
      · have hC := W.cut k' hp
        have HX : Hid ((cutP Off k').2.getD k.toNat default = false) := by rw [Hid, cutP_oth hne]; exact ho
        generalize cutP Off k' = y at hC HX
        obtain ⟨y1, y2⟩ := y
        simp only at hC HX
        clear hp hp2 sl bw
        go_wp2_with fail
        refine hC.mono ?_
        rintro e u10 ⟨rfl, hp10, r10⟩
        clear hC
        obtain ⟨_, hp2, sl, bw⟩ := H9.out
        have HN10 : Hid (ApI W w u3 p p2 S S2 k.toNat la ln lc Lg u10) := ⟨_, _, _, _, hp10, W.kept hp2 (r10.kept.weak (fun b h1 h2 => HS.out.2.2.1 b h2 h1)), r10.sl sl hA, r10.below hSw bw, HL.out, HX.out, ho2⟩
        clear hp10 r10 hp2 sl bw
        go_wp2_with fail
        go_roundw
        case rel => exact ⟨j + 1, by omega, by go_num, HN10⟩
        case measure => simp [intOf]; omega
      · have hC := W.list k' x2 hp
        have HX : Hid ((listP Bt Off k' x2).2.1.getD k.toNat default = Bt2.getD k.toNat default ∧ (listP Bt Off k' x2).2.2.getD k.toNat default = false) := by obtain ⟨z1, z2⟩ := listP_oth (At := Bt) (Off := Off) (v := x2) hne; exact ⟨z1.trans HL.out, z2.trans ho⟩
        generalize listP Bt Off k' x2 = y at hC HX
        obtain ⟨y1, y2, y3⟩ := y
        simp only at hC HX
        clear hp hp2 sl bw
        go_wp2_with fail
        refine hC.mono ?_
        rintro e u10 ⟨rfl, hp10, r10⟩
        clear hC
        obtain ⟨_, hp2, sl, bw⟩ := H9.out
        have HN10 : Hid (ApI W w u3 p p2 S S2 k.toNat la ln lc Lg u10) := ⟨_, _, _, _, hp10, W.kept hp2 (r10.kept.weak (fun b h1 h2 => HS.out.2.2.1 b h2 h1)), r10.sl sl hA, r10.below hSw bw, HX.out.1, HX.out.2, ho2⟩
        clear hp10 r10 hp2 sl bw
        go_wp2_with fail
        go_roundw
        case rel => exact ⟨j + 1, by omega, by go_num, HN10⟩
        case measure => simp [intOf]; omega
    · have HE : Hid (Below w.heap.size w wr) := bw
      have hltz : ¬ ((j : Int) < (m : Int)) := by omega
      clear hp hp2 sl bw
      go_wp2_with fail
      go_ret
      exact ⟨rfl, HE.out⟩
end Go.Proofs.Ytnlmipgmakmbiaa
