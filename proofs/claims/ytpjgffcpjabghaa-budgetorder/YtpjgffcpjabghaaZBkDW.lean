/- BudgetOrder, walked over a budget that keeps what is said. Condition: what is handed in lies as is said of it. -/
import Derived.Test.YtpjgffcpjabghaaW01
import Derived.BigQuiet
import Derived.Deep.CutBlock
namespace Go.Proofs.Ytpjgffcpjabghaa
open Go.RowKit Go.Maps
set_option linter.unusedSimpArgs false
set_option maxRecDepth 100000

theorem order_len (P : List PodD) (N : List ByteArray) : (orderP P N).length ≤ N.length := by
  have h : ∀ (N out : List ByteArray), (N.foldl (orderStep P) out).length ≤ out.length + N.length := fun N => by
    induction N with
    | nil => intro out; exact Nat.le_add_right _ _
    | cons v r ih =>
      intro out
      rw [List.foldl_cons, List.length_cons]
      have h1 := ih (orderStep P out v)
      have h2 : (orderStep P out v).length ≤ out.length + 1 := by
        unfold orderStep insQ
        split
        · have h3 := placeB_le P (podB P v) out out.length
          rw [List.length_append, List.length_cons, List.length_take, List.length_drop]; omega
        · omega
      omega
  have := h N []
  rw [List.length_nil, Nat.zero_add] at this; exact this
theorem sizePod18 : (Try.prog.info? 54).map (·.size) = some 16 := by kernel_rfl
theorem ahead_arms (q p : PodD) : (p.2.1 < q.2.1 ∧ aheadB q p = true) ∨ (¬ p.2.1 < q.2.1 ∧ (q.2.1 == p.2.1) = false ∧ aheadB q p = false) ∨ (¬ p.2.1 < q.2.1 ∧ (q.2.1 == p.2.1) = true ∧ aheadB q p = sLt q.1 p.1) := by
  unfold aheadB
  by_cases h : p.2.1 < q.2.1
  · exact .inl ⟨h, by rw [decide_eq_true h]; rfl⟩
  · rw [decide_eq_false h]
    cases e : (q.2.1 == p.2.1)
    · exact .inr (.inl ⟨h, rfl, rfl⟩)
    · exact .inr (.inr ⟨h, rfl, rfl⟩)
/-- A pod of the state, stored in a box of its own. -/
theorem pod_box {wr : World} {ps : List Value} {A : Where} {p : PodD} (hr : RPod A wr ps p) : ∃ Z X, Z = wr.alloc (.cells #[.string ⟨#[]⟩, .int .i64 0, .slice none 0 0, .int .i64 0, .int .i64 0, .int .i64 0, .slice none 0 0, .slice none 0 0, .slice none 0 0, .slice none 0 0, .slice none 0 0, .slice none 0 0, .slice none 0 0, .slice none 0 0, .string ⟨#[]⟩, .string ⟨#[]⟩] 54) ∧ X = Z.setCells wr.heap.size 0 ps.toArray.toList ∧ Below wr.heap.size wr X ∧ BoxL X wr.heap.size ps ∧ Z.there wr.heap.size 0 ps.toArray.size ∧ ps.toArray.all (·.oneCell') = true ∧ (Try.prog.info? 54).map (·.size) = some ps.length ∧ (Try.prog.info? 54).map (·.size) = some ps.toArray.size := by
  have hl : ps.length = 16 := RPod.firm.len hr
  have q0 : BoxL (wr.alloc (.cells #[.string ⟨#[]⟩, .int .i64 0, .slice none 0 0, .int .i64 0, .int .i64 0, .int .i64 0, .slice none 0 0, .slice none 0 0, .slice none 0 0, .slice none 0 0, .slice none 0 0, .slice none 0 0, .slice none 0 0, .slice none 0 0, .string ⟨#[]⟩, .string ⟨#[]⟩] 54)) wr.heap.size [.string ⟨#[]⟩, .int .i64 0, .slice none 0 0, .int .i64 0, .int .i64 0, .int .i64 0, .slice none 0 0, .slice none 0 0, .slice none 0 0, .slice none 0 0, .slice none 0 0, .slice none 0 0, .slice none 0 0, .slice none 0 0, .string ⟨#[]⟩, .string ⟨#[]⟩] := BoxL.new wr 54 _
  have c0 : Below wr.heap.size wr (wr.alloc (.cells #[.string ⟨#[]⟩, .int .i64 0, .slice none 0 0, .int .i64 0, .int .i64 0, .int .i64 0, .slice none 0 0, .slice none 0 0, .slice none 0 0, .slice none 0 0, .slice none 0 0, .slice none 0 0, .slice none 0 0, .slice none 0 0, .string ⟨#[]⟩, .string ⟨#[]⟩] 54)) := (Below.refl _ _).alloc (Nat.le_refl _) _
  refine ⟨_, _, rfl, rfl, below_setCells c0 (Nat.le_refl _), box_over18 q0 (by rw [hl]; rfl), ?_, all_oneCell_toArray (RPod.firm.one hr), by rw [hl]; exact sizePod18, by rw [show ps.toArray.size = 16 by simp [hl]]; exact sizePod18⟩
  have h := q0.there; rw [show ps.toArray.size = 16 by simp [hl]]; exact h
set_option maxHeartbeats 16000000 in
theorem order_walk18 (V : BudgetOK) (cs : List Value) (s : StateD) (x1 : Option Addr) (y1 z1 : Nat) (L1 : List ByteArray) (W : World) (hs : RState (fun _ => True) W cs s) (h1 : SlAt RStr 1 16 (fun _ => True) W x1 y1 z1 L1) :
    Calls Try.prog 6 #[.agg cs.toArray, .slice x1 y1 z1] W fun e w' => e = .returned (.bool true) ∧ Below W.heap.size W w' := by
  obtain ⟨X, hX⟩ : ∃ Z, Z = W.alloc (.cells cs.toArray 29) := ⟨_, rfl⟩
  have bX : Below W.heap.size W X := by rw [hX]; exact (Below.refl _ _).alloc (Nat.le_refl _) _
  have qX : BoxL X W.heap.size cs := by rw [hX]; exact BoxL.new W 29 _
  obtain ⟨D, hD⟩ : ∃ D, D = W.heap.size := ⟨_, rfl⟩
  rw [← hD] at qX
  have HD : Hid (W.heap.size = D) := hD.symm
  have HXe : Hid (W.alloc (.cells cs.toArray 29) = X) := hX.symm
  have HBX : Hid (Below W.heap.size W X) := bX
  have HSz : Hid ((Try.prog.info? 29).map (·.size) = some cs.length) := by rw [Hid, RState.firm.len hs]; exact sizeState18
  have HS : Hid (∀ z, Below X.heap.size X z → RState (fun _ => True) z cs s) := fun z hz => RState.firm.kept hs (Kept.below (on2 bX hz))
  have HR : Hid (∀ z, Below X.heap.size X z → z.rangeAt D 0 cs) := fun z hz => (qX.on hz).range
  have H1 : Hid (∀ z, Below X.heap.size X z → SlAt RStr 1 16 (fun _ => True) z x1 y1 z1 L1) := fun z hz => h1.on RStr.firm (on2 bX hz)
  obtain ⟨g0, g1, g2, g3, g4, g5, ecs, sp, _⟩ := hs.out
  obtain ⟨la, ln, lc⟩ := g0
  dsimp only at ecs sp
  obtain ⟨P, hP⟩ : ∃ P, P = s.1 := ⟨_, rfl⟩
  rw [← hP] at sp
  have HP : Hid (∀ z, Below X.heap.size X z → SlAt RPod 16 296 (fun _ => True) z la ln lc P ∧ z.cell? ⟨D, 0, none⟩ = some (.slice la ln lc)) := fun z hz => ⟨sp.on RPod.firm (on2 bX hz), ((qX.on hz).2 0 _ (by rw [ecs]; rfl)).1⟩
  have HPs : Hid (s.1 = P) := hP.symm
  have hPl : P.length = ln := sp.1
  have HPl : Hid (P.length = ln) := hPl
  have hln : ln < 1000000000000000 := by have : ln * 296 ≤ 140737488351232 := sp.2.2.2.1; omega
  have hly : L1.length * 16 ≤ 140737488351232 := by have h := h1.2.2.2.1; rw [← h1.1] at h; exact h
  have HlY : Hid (L1.length = y1) := h1.1
  clear hX bX qX hD hs h1 ecs sp hP hPl
  go_enter Try.func6, Try.ntmps6
  go_upto_region 1 with fail
  rw [HXe.out, HD.out]
  clear HXe HD
  go_wp2_with fail
  refine (works18_calls V X).mono ?_
  rintro e w1 ⟨rfl, b1⟩
  have HB1 : Hid (Below X.heap.size X w1) := b1
  have HQ : Hid (w1.rangeAt D 0 cs) := HR.out w1 b1
  have hA := once_calls cs _ s w1 (HS.out w1 b1)
  rw [HPs.out] at hA
  clear b1
  rcases (Bool.eq_false_or_eq_true (onceB P)).symm with ho | ho
  · rw [ho] at hA
    clear ho
    go_wp2_with (first | (refine wpList_load_mid rfl 29 _ rfl D 0 rfl cs _ HQ.out Try.underlying29 rfl HSz.out ?_) | fail)
    refine hA.mono ?_
    rintro e w2 ⟨rfl, b2⟩
    have HE : Hid (Below W.heap.size W w2) := on2 HBX.out (on2 HB1.out b2)
    clear hA b2
    go_wp2_with fail
    go_ret
    exact ⟨rfl, HE.out⟩
  have HND : Hid ((P.map Prod.fst).Nodup) := once_nodup ho
  rw [ho] at hA
  clear ho
  go_wp2_with (first | (refine wpList_load_mid rfl 29 _ rfl D 0 rfl cs _ HQ.out Try.underlying29 rfl HSz.out ?_) | fail)
  refine hA.mono ?_
  rintro e w2 ⟨rfl, b2⟩
  have H2b : Hid (Below X.heap.size X w2) := on2 HB1.out b2
  have HQ2 : Hid (w2.rangeAt D 0 cs) := HR.out w2 H2b.out
  clear hA b2 HQ HB1
  have hA := V.order cs _ s x1 y1 z1 _ L1 w2 (HS.out w2 H2b.out) (H1.out w2 H2b.out)
  rw [HPs.out] at hA
  go_wp2_with (first | (refine wpList_load_mid rfl 29 _ rfl D 0 rfl cs _ HQ2.out Try.underlying29 rfl HSz.out ?_) | fail)
  refine hA.mono ?_
  rintro e w3 ⟨v3, rfl, hr3⟩
  have H3b : Hid (Below X.heap.size X w3) := on2 H2b.out hr3.below
  obtain ⟨l, hl⟩ : ∃ l, l = orderP P L1 := ⟨_, rfl⟩
  have hll := order_len P L1
  rw [← hl] at hr3 hll
  have HL : Hid (orderP P L1 = l) := hl.symm
  obtain ⟨a3, c3, rfl, hs3⟩ := row_str hr3 (by omega)
  have HS3 : Hid (∀ z, Below w3.heap.size w3 z → SlAt RStr 1 16 (fun _ => True) z a3 l.length c3 l) := hs3
  obtain ⟨m, hm⟩ : ∃ m, m = l.length := ⟨_, rfl⟩
  have HM : Hid (l.length = m) := hm.symm
  have hmb : m < 1000000000000000 := by omega
  rw [← hm] at HS3 ⊢
  clear hA hr3 hs3 hl hll hm HQ2 hly
  go_wp2_with fail
  --M1
  go_loop [6] (fun i => ∃ k : Nat, k ≤ m ∧ i = .int .i64 k) (fun i => m - (intOf i).toNat)
  case atStart => exact ⟨0, Nat.zero_le _, rfl⟩
  case round =>
    obtain ⟨k, hk, rfl⟩ := hrel
    by_cases hlt : k < m
    case pos =>
      have hltz : (k : Int) < (m : Int) := by omega
      have hhas := orderP_has P L1 (i := k) (by rw [HL.out, HM.out]; exact hlt)
      rw [HL.out] at hhas
      obtain ⟨F, fo, rfl, hF, _, fs, hfr, hfv⟩ := (HS3.out w3 (Below.refl _ _)).get hlt
      obtain ⟨rfl, hxs⟩ : fs = [.string (l.getD k default)] ∧ _ := hfr
      have s0 := hfv 0 _ rfl
      rw [Nat.add_zero, Nat.mul_one] at s0
      generalize l.getD k default = x at s0 hhas
      have hA := Has_calls x1 y1 z1 _ L1 x w3 (H1.out w3 H3b.out)
      rw [hhas] at hA
      clear hfv hhas hxs
      go_wp2_with fail
      refine hA.mono ?_
      rintro e w8 ⟨rfl, rfl⟩
      clear hA
      go_wp2_with fail
      go_round
      case rel => exact ⟨k + 1, by omega, by go_num⟩
      case measure => simp [intOf]; omega
    have hltz : ¬ (k : Int) < (m : Int) := by omega
    clear hlt
    go_wp2_with fail
    --M2
    go_loopw [7, 8] (fun c i z => ∃ k : Nat, k ≤ ln ∧ i = .int .i64 k ∧ c = .int .i64 (((P.take k).filter fun p => hasB sEq L1 p.1).length : Nat) ∧ Hid (Below w3.heap.size w3 z)) (fun _ i _ => ln - (intOf i).toNat)
    case atStart => exact ⟨0, Nat.zero_le _, rfl, rfl, Below.refl _ _⟩
    case round =>
      obtain ⟨k2, hk2, rfl, rfl, hrun⟩ := hrel
      have hz := on2 H3b.out hrun.out
      have q0 := (HP.out wr hz).2
      by_cases hlt2 : k2 < ln
      case neg =>
        have hltz2 : ¬ (k2 : Int) < (ln : Int) := by omega
        have hcnt : ((P.take k2).filter fun p => hasB sEq L1 p.1).length = m := by
          rw [List.take_of_length_le (by rw [HPl.out]; omega), orderP_len HND.out L1, HL.out, HM.out]
        rw [hcnt]
        have HE : Hid (Below W.heap.size W wr) := on2 HBX.out hz
        clear hcnt hrun hz
        go_wp2_with fail
        go_ret
        exact ⟨by simp, HE.out⟩
      have hltz2 : (k2 : Int) < (ln : Int) := by omega
      have hkl2 : k2 < P.length := by rw [HPl.out]; exact hlt2
      have hcs := filter_snoc (fun p : PodD => hasB sEq L1 p.1) hkl2
      have hpm : P.getD k2 default ∈ P := by rw [List.getD_eq_getElem?_getD, List.getElem?_eq_getElem hkl2]; exact List.getElem_mem hkl2
      have hcl : ((P.take k2).filter fun p => hasB sEq L1 p.1).length ≤ ln := Nat.le_trans (List.length_filter_le _ _) (by rw [List.length_take]; omega)
      obtain ⟨E, eo, rfl, hE, _, ps, hpr, hpv⟩ := (HP.out wr hz).1.get hlt2
      obtain ⟨p, hp⟩ : ∃ p, p = P.getD k2 default := ⟨_, rfl⟩
      rw [← hp] at hpr hpm hcs
      obtain ⟨Z, X3, hZ, hX3, bX3, qX3, hT, hO, hSz1, hSz2⟩ := pod_box hpr
      obtain ⟨_, _, _, _, _, _, _, _, _, eps, hpz, _⟩ := hpr.out
      obtain ⟨B, hB⟩ : ∃ B, B = wr.heap.size := ⟨_, rfl⟩
      have HBB : Hid (wr.heap.size = B) := hB.symm
      have HPv : Hid (wr.rangeAt E (eo + k2 * 16) ps) := hpv
      have HT : Hid (Z.there wr.heap.size 0 ps.toArray.size) := hT
      have HO : Hid (ps.toArray.all (·.oneCell') = true) := hO
      have HS1 : Hid ((Try.prog.info? 54).map (·.size) = some ps.length ∧ (Try.prog.info? 54).map (·.size) = some ps.toArray.size) := ⟨hSz1, hSz2⟩
      have HZ : Hid (wr.alloc (.cells #[.string ⟨#[]⟩, .int .i64 0, .slice none 0 0, .int .i64 0, .int .i64 0, .int .i64 0, .slice none 0 0, .slice none 0 0, .slice none 0 0, .slice none 0 0, .slice none 0 0, .slice none 0 0, .slice none 0 0, .slice none 0 0, .string ⟨#[]⟩, .string ⟨#[]⟩] 54) = Z) := hZ.symm
      have HX3 : Hid (X3 = Z.setCells wr.heap.size 0 ps.toArray.toList) := hX3
      rw [← hB] at qX3
      have HE3 : Hid (∀ z, Below X3.heap.size X3 z → z.cell? ⟨B, 0, none⟩ = some (.string p.1) ∧ z.cell? ⟨B, 1, none⟩ = some (.int .i64 p.2.1)) := fun z hzz => ⟨((qX3.on hzz).2 0 _ (by rw [eps]; rfl)).1, ((qX3.on hzz).2 1 _ (by rw [eps]; rfl)).1⟩
      have H3X : Hid (Below w3.heap.size w3 X3) := on2 hrun.out bX3
      have HPM : Hid (p ∈ P) := hpm
      have hA := Has_calls x1 y1 z1 _ L1 p.1 X3 (H1.out X3 (on2 H3b.out H3X.out))
      have e0 := (HE3.out X3 (Below.refl _ _)).1
      obtain ⟨cn, hcn⟩ : ∃ c, c = ((P.take k2).filter fun p => hasB sEq L1 p.1).length := ⟨_, rfl⟩
      rw [← hcn] at hcs hcl ⊢
      have HCS : Hid (((P.take (k2 + 1)).filter fun p => hasB sEq L1 p.1).length = cn + if hasB sEq L1 p.1 = true then 1 else 0) := hcs
      clear hcs hp hpr hT hO hSz1 hSz2 hZ hX3 bX3 qX3 eps hpz hB hpv hpm hcn hrun hz
      go_upto_region 16 with (first | (refine wpList_load_mid rfl 54 _ rfl E (eo + k2 * 16) rfl ps _ HPv.out Try.underlying54 rfl HS1.out.1 ?_) | (rw [HZ.out]; refine wpList_store_mid rfl 54 _ _ rfl wr.heap.size 0 ps.toArray rfl rfl HT.out HS1.out.2 HO.out ?_; refine wpl_atG HX3.out ?_; rw [HBB.out]) | fail)
      clear HPv HT HO HS1 HZ HX3 HBB q0
      --M3
      rcases (Bool.eq_false_or_eq_true (hasB sEq L1 p.1)).symm with hn | hn
      · rw [hn] at hA
        have HC2 : Hid (((P.take (k2 + 1)).filter fun p => hasB sEq L1 p.1).length = cn) := by rw [Hid, HCS.out, hn, if_neg (by decide)]; rfl
        clear hn HCS
        go_wp2_with fail
        refine hA.mono ?_
        rintro e w8 ⟨rfl, rfl⟩
        clear hA
        go_wp2_with fail
        go_roundw
        case rel => exact ⟨k2 + 1, by omega, by go_num, by rw [HC2.out], H3X⟩
        case measure => simp [intOf]; omega
      have HC2 : Hid (((P.take (k2 + 1)).filter fun p => hasB sEq L1 p.1).length = cn + 1) := by rw [Hid, HCS.out, hn, if_pos rfl]
      have HPN : Hid (hasB sEq L1 p.1 = true) := hn
      rw [hn] at hA
      clear hn HCS
      go_wp2_with fail
      refine hA.mono ?_
      rintro e w8 ⟨rfl, hw8⟩
      obtain rfl := hw8.symm
      clear hA e0
      --M4
      go_upto_block 4 with fail
      go_cut [10] (fun v wx => ∃ t : Nat, t ≤ m ∧ v = .int .i64 t ∧ Hid (Below X3.heap.size X3 wx) ∧ Hid (∀ j, j < t → sEq (l.getD j default) p.1 = false) ∧ Hid (t = m ∨ sEq (l.getD t default) p.1 = true))
      case first =>
        go_wp2_with fail
        go_loopw [10] (fun v wx => ∃ t : Nat, t ≤ m ∧ v = .int .i64 t ∧ Hid (Below X3.heap.size X3 wx) ∧ Hid (∀ j, j < t → sEq (l.getD j default) p.1 = false)) (fun v _ => m - (intOf v).toNat)
        case atStart => exact ⟨0, Nat.zero_le _, rfl, Below.refl _ _, fun j hj => absurd hj (Nat.not_lt_zero _)⟩
        case round =>
          rename World => V3
          obtain ⟨t, ht, rfl, hbe, hlow⟩ := hrel
          have e0 := (HE3.out V3 hbe.out).1
          by_cases hin : t < m
          · have hinz : (t : Int) < (m : Int) := by omega
            have hdec : decide ((t : Int) < (m : Int)) = true := decide_eq_true hinz
            obtain ⟨F, fo, rfl, hF, _, fs, hfr, hfv⟩ := (HS3.out V3 (on2 H3X.out hbe.out)).get hin
            obtain ⟨rfl, hxs⟩ : fs = [.string (l.getD t default)] ∧ _ := hfr
            have s0 := hfv 0 _ rfl
            rw [Nat.add_zero, Nat.mul_one] at s0
            obtain ⟨y, hy⟩ : ∃ y, y = l.getD t default := ⟨_, rfl⟩
            rw [← hy] at s0
            have HY : Hid (y = l.getD t default) := hy
            obtain ⟨pn, hpn⟩ : ∃ y, y = p.1 := ⟨_, rfl⟩
            have HPn : Hid (pn = p.1) := hpn
            rw [← hpn] at e0
            clear hfv hy hxs hpn
            cases hc : sEq y pn
            · have hc2 : (y.toList == pn.toList) = false := hc
              have hc3 : (y.toList != pn.toList) = true := by simpa [bne] using hc2
              have HG3 : Hid (∀ j, j < t + 1 → sEq (l.getD j default) p.1 = false) := fun j hj => by
                rcases Nat.lt_succ_iff_lt_or_eq.1 hj with h1 | rfl
                · exact hlow.out j h1
                · rw [← HY.out, ← HPn.out]; exact hc
              clear hc
              go_upto_region 19 with fail
              go_quiet (fail)
              generalize hZ : World.drewN _ _ = Z9
              have HZ9 : Hid (Below X3.heap.size X3 Z9) := by rw [← hZ]; exact below_drewN hbe.out _
              clear hZ e0 s0
              go_wp2_with fail
              go_roundw
              case rel => exact ⟨t + 1, by omega, by go_num, HZ9, HG3⟩
              case measure => simp [intOf]; omega
            · have hc2 : (y.toList == pn.toList) = true := hc
              have hc3 : (y.toList != pn.toList) = false := by simpa [bne] using hc2
              have HF3 : Hid (t = m ∨ sEq (l.getD t default) p.1 = true) := .inr (by rw [← HY.out, ← HPn.out]; exact hc)
              clear hc
              go_upto_region 19 with fail
              go_quiet (fail)
              generalize hZ : World.drewN _ _ = Z9
              have HZ9 : Hid (Below X3.heap.size X3 Z9) := by rw [← hZ]; exact below_drewN hbe.out _
              clear hZ e0 s0
              go_wp2_with fail
              go_meet
              exact ⟨t, ht, rfl, HZ9, hlow, HF3⟩
          · have hinz : ¬ ((t : Int) < (m : Int)) := by omega
            have hdec : decide ((t : Int) < (m : Int)) = false := decide_eq_false hinz
            have HF3 : Hid (t = m ∨ sEq (l.getD t default) p.1 = true) := .inl (by omega)
            go_upto_region 19 with fail
            go_quiet (fail)
            generalize hZ : World.drewN _ _ = Z9
            have HZ9 : Hid (Below X3.heap.size X3 Z9) := by rw [← hZ]; exact below_drewN hbe.out _
            clear hZ e0
            go_wp2_with fail
            go_meet
            exact ⟨t, ht, rfl, HZ9, hlow, HF3⟩
      case rest =>
      obtain ⟨t, ht, rfl, HBt, HLow, HAt⟩ := hcut
      have HBt : Hid (Below X3.heap.size X3 wc) := HBt
      have hmin : min (t : Int) (m : Int) = (t : Int) := by omega
      --M5
      go_wp2_with fail
      go_loopw [11] (fun v z => ∃ k3 : Nat, k3 ≤ ln ∧ v = .int .i64 k3 ∧ Hid (Below X3.heap.size X3 z)) (fun v _ => ln - (intOf v).toNat)
      case atStart => exact ⟨0, Nat.zero_le _, rfl, HBt⟩
      case round =>
        clear HBt
        rename World => V4
        obtain ⟨k3, hk3, rfl, hr4⟩ := hrel
        have hz4 := on2 H3b.out (on2 H3X.out hr4.out)
        have q0 := (HP.out V4 hz4).2
        by_cases hlt3 : k3 < ln
        case neg =>
          have hltz3 : ¬ (k3 : Int) < (ln : Int) := by omega
          have HE : Hid (Below w3.heap.size w3 V4) := on2 H3X.out hr4.out
          clear hr4 hz4
          go_wp2_with fail
          go_roundw
          case rel => exact ⟨k2 + 1, by omega, by go_num, by rw [HC2.out]; go_num, HE⟩
          case measure => simp [intOf]; omega
        have hltz3 : (k3 : Int) < (ln : Int) := by omega
        have hkl3 : k3 < P.length := by rw [HPl.out]; exact hlt3
        have hqm : P.getD k3 default ∈ P := by rw [List.getD_eq_getElem?_getD, List.getElem?_eq_getElem hkl3]; exact List.getElem_mem hkl3
        obtain ⟨E2, eo2, hEe, hE2, _, qs, hqr, hqv⟩ := (HP.out V4 hz4).1.get hlt3
        injection hEe with hEe
        injection hEe with he1 he2
        subst he1; subst he2
        obtain ⟨q, hq⟩ : ∃ q, q = P.getD k3 default := ⟨_, rfl⟩
        rw [← hq] at hqr hqm
        obtain ⟨Z, X4, hZ, hX4, bX4, qX4, hT, hO, hSz1, hSz2⟩ := pod_box hqr
        obtain ⟨_, _, _, _, _, _, _, _, _, eqs, hqz, _⟩ := hqr.out
        obtain ⟨C, hC⟩ : ∃ B, B = V4.heap.size := ⟨_, rfl⟩
        have HCC : Hid (V4.heap.size = C) := hC.symm
        have HQv : Hid (V4.rangeAt E (eo + k3 * 16) qs) := hqv
        have HT : Hid (Z.there V4.heap.size 0 qs.toArray.size) := hT
        have HO : Hid (qs.toArray.all (·.oneCell') = true) := hO
        have HS1 : Hid ((Try.prog.info? 54).map (·.size) = some qs.length ∧ (Try.prog.info? 54).map (·.size) = some qs.toArray.size) := ⟨hSz1, hSz2⟩
        have HZ : Hid (V4.alloc (.cells #[.string ⟨#[]⟩, .int .i64 0, .slice none 0 0, .int .i64 0, .int .i64 0, .int .i64 0, .slice none 0 0, .slice none 0 0, .slice none 0 0, .slice none 0 0, .slice none 0 0, .slice none 0 0, .slice none 0 0, .slice none 0 0, .string ⟨#[]⟩, .string ⟨#[]⟩] 54) = Z) := hZ.symm
        have HX4 : Hid (X4 = Z.setCells V4.heap.size 0 qs.toArray.toList) := hX4
        rw [← hC] at qX4
        have HB4 : Hid (Below X3.heap.size X3 X4) := on2 hr4.out bX4
        have HE4 : Hid (X4.cell? ⟨C, 0, none⟩ = some (.string q.1) ∧ X4.cell? ⟨C, 1, none⟩ = some (.int .i64 q.2.1)) := ⟨(qX4.2 0 _ (by rw [eqs]; rfl)).1, (qX4.2 1 _ (by rw [eqs]; rfl)).1⟩
        have HG : Hid (aheadB q p = true → hasB sEq L1 q.1 = true → hasB sEq (l.take t) q.1 = true) := fun ha hq1 => by
          have h := orderP_ahead HND.out L1 HPM.out hqm HPN.out hq1 ha (t := t) (by rw [HL.out, HM.out]; exact ht) (by rw [HL.out]; exact HLow.out) (by rw [HL.out, HM.out]; exact HAt.out)
          rw [HL.out] at h; exact h
        clear hq hqr hT hO hSz1 hSz2 hZ hX4 bX4 qX4 eqs hqz hC hqv hqm hr4 hz4
        go_upto_region 25 with (first | (refine wpList_load_mid rfl 54 _ rfl E (eo + k3 * 16) rfl qs _ HQv.out Try.underlying54 rfl HS1.out.1 ?_) | (rw [HZ.out]; refine wpList_store_mid rfl 54 _ _ rfl V4.heap.size 0 qs.toArray rfl rfl HT.out HS1.out.2 HO.out ?_; refine wpl_atG HX4.out ?_; rw [HCC.out]) | fail)
        clear HQv HT HO HS1 HZ HX4 HCC q0
        try go_frame
        --M6
        go_cut [13] (fun v wx => v = .bool (aheadB q p) ∧ wx = X4)
        case first =>
          obtain ⟨f0, f1⟩ := HE4.out
          obtain ⟨g0, g1⟩ := HE3.out X4 HB4.out
          obtain ⟨pn, hpn⟩ : ∃ y, y = p.1 := ⟨_, rfl⟩
          obtain ⟨qn, hqn⟩ : ∃ y, y = q.1 := ⟨_, rfl⟩
          obtain ⟨pp, hpp⟩ : ∃ y, y = p.2.1 := ⟨_, rfl⟩
          obtain ⟨qp, hqp⟩ : ∃ y, y = q.2.1 := ⟨_, rfl⟩
          have harm : (pp < qp ∧ Hid (aheadB q p = true)) ∨ (¬ pp < qp ∧ (qp == pp) = false ∧ Hid (aheadB q p = false)) ∨ (¬ pp < qp ∧ (qp == pp) = true ∧ Hid (aheadB q p = sLt qn pn)) := by rw [hpn, hqn, hpp, hqp]; exact ahead_arms q p
          rw [← hpn] at g0
          rw [← hqn] at f0
          rw [← hpp] at g1
          rw [← hqp] at f1
          clear hpn hqn hpp hqp
          rcases harm with ⟨h1, ha⟩ | ⟨h1, h2, ha⟩ | ⟨h1, h2, ha⟩
          · go_wp2_with fail
            go_meet
            exact ⟨by rw [ha.out], rfl⟩
          · go_wp2_with fail
            go_meet
            exact ⟨by rw [ha.out], rfl⟩
          · go_wp2_with fail
            go_meet
            exact ⟨by rw [ha.out]; rfl, rfl⟩
        case rest =>
        obtain ⟨rfl, hwc⟩ := hcut
        obtain rfl := hwc.symm
        --M7
        have HQn : Hid (X4.cell? ⟨C, 0, none⟩ = some (.string q.1)) := HE4.out.1
        have HA1 : Hid (∀ z, Below X4.heap.size X4 z → Calls Try.prog 11 #[.slice x1 y1 z1, .string q.1] z fun e w' => e = .returned (.bool (hasB sEq L1 q.1)) ∧ w' = z) := fun z hz => Has_calls x1 y1 z1 _ L1 q.1 _ (H1.out _ (on2 (on2 H3b.out (on2 H3X.out HB4.out)) hz))
        have HA2 : Hid (∀ z, Below X4.heap.size X4 z → Calls Try.prog 11 #[.slice a3 t c3, .string q.1] z fun e w' => e = .returned (.bool (hasB sEq (l.take t) q.1)) ∧ w' = z) := fun z hz => Has_calls a3 t c3 _ (l.take t) q.1 _ (sl_takeG (HS3.out _ (on2 (on2 H3X.out HB4.out) hz)) ht)
        have hc3 : t ≤ c3 := Nat.le_trans ht (HS3.out w3 (Below.refl _ _)).2.1
        have hc3z : (t : Int) ≤ (c3 : Int) := by omega
        have ht0 : (0 : Int) ≤ (t : Int) := by omega
        have s0 := HQn.out
        have HCq : Hid (∀ z, Below X4.heap.size X4 z → z.cell? ⟨C, 0, none⟩ = some (.string q.1)) := fun z hz => (hz.cell (p := ⟨C, 0, none⟩) (World.block_lt_of_cell? _ _ HQn.out)).trans HQn.out
        have HGo : Hid (aheadB q p = true → hasB sEq L1 q.1 = true → hasB sEq (l.take t) q.1 = true) := HG.out
        generalize aheadB q p = ah at HGo ⊢
        generalize hasB sEq L1 q.1 = b1 at HA1 HGo
        generalize hasB sEq (l.take t) q.1 = b2 at HA2 HGo
        generalize q.1 = qn at s0 HA1 HA2 HCq
        clear HG HE4 HQn
        go_upto_region 26 with fail
        go_cut [118] (fun v wx => v = .bool false ∧ Hid (Below X3.heap.size X3 wx))
        case first =>
          cases ah
          · --Q0
            go_big_quiet (fail)
            --Q1
            generalize hZ : World.drewN _ _ = Z9
            have HZ9 : Hid (Below X3.heap.size X3 Z9) := by rw [← hZ]; exact below_drewN HB4.out _
            clear hZ
            go_wp2_with fail
            go_meet
            exact ⟨rfl, HZ9⟩
          --Q2
          cases b1
          · go_big_quiet (first | (go_at_call 11; exact Calls.quiet_of_same (HA1.out _ (below_drewN (Below.refl _ _) _))))
            generalize hZ : World.drewN _ _ = Z9
            have HZ9 : Hid (Below X3.heap.size X3 Z9) := by rw [← hZ]; exact below_drewN HB4.out _
            clear hZ
            go_wp2_with fail
            go_meet
            exact ⟨rfl, HZ9⟩
          --Q3
          obtain rfl := HGo.out rfl rfl
          have hb0 : Below X4.heap.size X4 X4.drew := (Below.refl _ _).drew
          refine t0 (fun z => Below X4.heap.size X4 z) hb0 (fun hHeld => ?_)
          generalize hwd : X4.drew = wd at hHeld ⊢
          clear hwd hb0
          try go_frame
          refine' tk 0 ?_ ?_; rotate_left
          · intro z hz; clear hz; go_simp; try with_reducible rfl
          try go_frame
          refine' tk 1 ?_ ?_; rotate_left
          · intro z hz; clear hz; go_simp; try with_reducible rfl
          try go_frame
          refine' tk 2 ?_ ?_; rotate_left
          · intro z hz; clear hz; go_simp; try with_reducible rfl
          try go_frame
          refine' tk 3 ?_ ?_; rotate_left
          · intro z hz; clear hz; go_simp; try with_reducible rfl
          try go_frame
          refine' tk 4 ?_ ?_; rotate_left
          · intro z hz; have f9 := HCq.out z hz; clear hz; go_simp; try with_reducible rfl
          try go_frame
          have hA := HA1.out wd hHeld
          refine tr 5 (fun K hK => ?_)
          go_simp
          refine hA.mono ?_
          rintro e w5 ⟨rfl, hw5⟩
          obtain rfl := hw5.symm
          go_wp2_with fail
          refine hK.out _ _ hHeld (fun hHeld2 => ?_)
          clear hK K hHeld hA; have hHeld := hHeld2; clear hHeld2
          try go_frame
          refine' tk 6 ?_ ?_; rotate_left
          · intro z hz; clear hz; go_simp; try with_reducible rfl
          try go_frame
          refine' tk 7 ?_ ?_; rotate_left
          · intro z hz; clear hz; go_simp; try with_reducible rfl
          try go_frame
          refine' tk 8 ?_ ?_; rotate_left
          · intro z hz; clear hz; go_simp; try with_reducible rfl
          try go_frame
          refine' tk 9 ?_ ?_; rotate_left
          · intro z hz; clear hz; go_simp; try with_reducible rfl
          try go_frame
          refine' tk 10 ?_ ?_; rotate_left
          · intro z hz; clear hz; go_simp; try with_reducible rfl
          try go_frame
          refine' tk 11 ?_ ?_; rotate_left
          · intro z hz; clear hz; go_simp; try with_reducible rfl
          try go_frame
          refine' tk 12 ?_ ?_; rotate_left
          · intro z hz; clear hz; go_simp; try with_reducible rfl
          try go_frame
          refine' tk 13 ?_ ?_; rotate_left
          · intro z hz; clear hz; go_simp; try with_reducible rfl
          try go_frame
          refine' tk 14 ?_ ?_; rotate_left
          · intro z hz; clear hz; go_simp; try with_reducible rfl
          try go_frame
          refine' tk 15 ?_ ?_; rotate_left
          · intro z hz; have f9 := HCq.out z hz; clear hz; go_simp; try with_reducible rfl
          try go_frame
          have hA := HA2.out wd hHeld
          refine tr 16 (fun K hK => ?_)
          go_simp
          refine hA.mono ?_
          rintro e w5 ⟨rfl, hw5⟩
          obtain rfl := hw5.symm
          go_wp2_with fail
          refine hK.out _ _ hHeld (fun hHeld2 => ?_)
          clear hK K hHeld hA; have hHeld := hHeld2; clear hHeld2
          try go_frame
          refine' tk 17 ?_ ?_; rotate_left
          · intro z hz; clear hz; go_simp; try with_reducible rfl
          try go_frame
          refine' tk 18 ?_ ?_; rotate_left
          · intro z hz; clear hz; go_simp; try with_reducible rfl
          try go_frame
          refine tz ?_
          have HZ9 : Hid (Below X3.heap.size X3 wd) := on2 HB4.out hHeld
          clear hHeld
          --Q4
          go_wp2_with fail
          go_meet
          exact ⟨rfl, HZ9⟩
        case rest =>
        obtain ⟨rfl, HW9⟩ := hcut
        clear HA1 HA2 HGo s0 HB4
        --M8
        go_wp2_with fail
        go_roundw
        case rel => exact ⟨k3 + 1, by omega, by go_num, HW9⟩
        case measure => simp [intOf]; omega
end Go.Proofs.Ytpjgffcpjabghaa
