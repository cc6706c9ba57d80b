/- BudgetOne, walked over a budget that keeps what is said. Condition: what is handed in lies as is said of it. -/
import Derived.Test.YtpjgffcpjabghaaW01
namespace Go.Proofs.Ytpjgffcpjabghaa
open Go.RowKit Go.Maps
set_option linter.unusedSimpArgs false
set_option maxRecDepth 100000

theorem hits_app (ab : List ByteArray) : ∀ (A B hit : List ByteArray), hitsL ab (A ++ B) hit = hitsL ab B (hitsL ab A hit)
  | [], B, hit => by rw [List.nil_append]; rfl
  | v :: r, B, hit => by
    rw [List.cons_append]
    show hitsL ab (r ++ B) _ = hitsL ab B (hitsL ab r _)
    exact hits_app ab r B _
theorem hits_snoc (ab V : List ByteArray) {k : Nat} (hk : k < V.length) : hitsL ab (V.take (k + 1)) [] = if hasB sEq ab (V.getD k default) = true ∧ hasB sEq (hitsL ab (V.take k) []) (V.getD k default) = false then hitsL ab (V.take k) [] ++ [V.getD k default] else hitsL ab (V.take k) [] := by
  rw [take_snoc18 hk, hits_app]; rfl
theorem hits_len (ab : List ByteArray) : ∀ (V hit : List ByteArray), (hitsL ab V hit).length ≤ hit.length + V.length
  | [], hit => by unfold hitsL; exact Nat.le_add_right _ _
  | v :: r, hit => by
    unfold hitsL
    have h := hits_len ab r (if hasB sEq ab v = true ∧ hasB sEq hit v = false then hit ++ [v] else hit)
    have h2 : (if hasB sEq ab v = true ∧ hasB sEq hit v = false then hit ++ [v] else hit).length ≤ hit.length + 1 := by
      split
      · rw [List.length_append, List.length_singleton]; exact Nat.le_refl _
      · omega
    rw [List.length_cons]; omega
theorem allows_nat (P : List PodD) (b : BudgetD) : ∃ a : Nat, allowsP P b = (a : Int) := by
  refine ⟨(allowsP P b).toNat, (Int.toNat_of_nonneg ?_).symm⟩
  unfold allowsP
  split
  · omega
  · exact Int.le_max_left _ _
def dropA18 (a : Option Addr) (cap t : Nat) : Option Addr := match a with | none => none | some ad => if cap = t then some ad else some (ad.add (t * 1))
theorem sl_dropA18 {A : Where} {u : World} {a : Option Addr} {n cap t : Nat} {L : List ByteArray} (h : SlAt RStr 1 16 A u a n cap L) (ht : t ≤ n) : SlAt RStr 1 16 A u (dropA18 a cap t) (n - t) (cap - t) (L.drop t) := by
  have hl := h.1
  by_cases hn : n - t = 0
  · have hd : L.drop t = [] := List.drop_eq_nil_of_le (by omega)
    rw [hn, hd]
    refine SlAt.nil _ _ _ _ (fun e => ?_)
    cases a with
    | none => have := h.2.2.1 rfl; omega
    | some ad => simp only [dropA18] at e; split at e <;> cases e
  · obtain ⟨B, off, rfl, _⟩ := h.2.2.2.2 (by omega)
    have hc : ¬ cap = t := by have := h.2.1; omega
    have e : dropA18 (some ⟨B, off, none⟩) cap t = some ⟨B, off + t * 1, none⟩ := by simp only [dropA18, hc, if_false]; rw [add_lit]
    rw [e]
    obtain ⟨h1, h2, h3, h4, h5⟩ := h
    refine ⟨by rw [List.length_drop]; omega, by omega, (fun h => by cases h), Nat.le_trans (Nat.mul_le_mul_right 16 (Nat.sub_le _ _)) h4, fun h0 => ?_⟩
    obtain ⟨B', off', e, hB, hA, hc⟩ := h5 (by omega)
    injection e with e
    injection e with e1 e2
    subst e1 e2
    refine ⟨B, _, rfl, hB, hA, fun i hi => ?_⟩
    obtain ⟨cs, h6, h7⟩ := hc (t + i) (by omega)
    have : (L.drop t).getD i default = L.getD (t + i) default := by
      rw [getE _ _ (show i < (L.drop t).length by rw [List.length_drop]; omega), getE _ _ (show t + i < L.length by omega), List.getElem_drop]
    rw [this]
    refine ⟨cs, h6, fun j v hj => ?_⟩
    have := h7 j v hj
    rwa [Nat.add_mul, ← Nat.add_assoc] at this
theorem row_own {w0 u : World} {v : Value} {L : List ByteArray} (h : Row RStr 1 (fun _ => False) w0 u 9 v L) (hb : L.length * 16 ≤ 140737488351232) : ∃ a c, v = .slice a L.length c ∧ SlAt RStr 1 16 (fun y => w0.heap.size ≤ y ∧ y < u.heap.size) u a L.length c L := by
  obtain ⟨a, c, e, hs⟩ := h.slO18 RStr.firm hb
  exact ⟨a, c, e, hs.weak RStr.firm (fun y _ hy => hy.elim (fun h => h.elim) (fun e => h.lt e))⟩
theorem fs_take {L : List BudgetD} {m : Nat} (h : m ≤ 1) : fsG (L.take m) = L.take m := fs_id (by
  have hl : ((L.take m).map Prod.fst).length ≤ 1 := by rw [List.length_map, List.length_take]; omega
  match (L.take m).map Prod.fst, hl with
  | [], _ => exact List.nodup_nil
  | [x], _ => simp
  | _ :: _ :: _, h => exact absurd h (by simp))
theorem broken_nil (P : List PodD) (V : List ByteArray) : brokenP P [] V = [] := broken_none P V _ _
theorem bud_take {B : List BudgetD} (h : 0 < B.length) : B.take 1 = [B.getD 0 default] := by
  cases B with
  | nil => exact absurd h (Nat.lt_irrefl _)
  | cons b r => rfl
set_option maxHeartbeats 8000000 in
theorem one_walk18 (V : BudgetOK) (cs : List Value) (s : StateD) (x1 : Option Addr) (y1 z1 : Nat) (L1 : List ByteArray) (W : World) (hs : RState (fun _ => True) W cs s) (h1 : SlAt RStr 1 16 (fun _ => True) W x1 y1 z1 L1) (hf : ∀ b ∈ s.2.2.2.2.2, FitQ b.2.2) :
    Calls Try.prog 3 #[.agg cs.toArray, .slice x1 y1 z1] W fun e w' => e = .returned (.bool true) ∧ Below W.heap.size W w' := by
  have HFit : Hid (∀ b ∈ s.2.2.2.2.2, FitQ b.2.2) := hf
  clear hf
  obtain ⟨X, hX⟩ : ∃ Z, Z = W.alloc (.cells cs.toArray 29) := ⟨_, rfl⟩
  have bX : Below W.heap.size W X := by rw [hX]; exact (Below.refl _ _).alloc (Nat.le_refl _) _
  have qX : BoxL X W.heap.size cs := by rw [hX]; exact BoxL.new W 29 _
  obtain ⟨D, hD⟩ : ∃ D, D = W.heap.size := ⟨_, rfl⟩
  rw [← hD] at qX
  have HD : Hid (W.heap.size = D) := hD.symm
  have HXe : Hid (W.alloc (.cells cs.toArray 29) = X) := hX.symm
  obtain ⟨g0, g1, g2, g3, g4, g5, ecs, p0, p1, p2, p3, p4, p5⟩ := hs.out
  obtain ⟨ba, bn, bc⟩ := g5
  dsimp only at ecs p5
  obtain ⟨m, hm⟩ : ∃ m, m = min 1 bn := ⟨_, rfl⟩
  have hmn : m ≤ bn := by rw [hm]; exact Nat.min_le_right _ _
  have hm1 : m ≤ 1 := by rw [hm]; exact Nat.min_le_left _ _
  have hmin : min (1 : Int) (bn : Int) = (m : Int) := by rw [hm]; omega
  have hbc := p5.2.1
  have hm0 : (0 : Int) ≤ (m : Int) := by omega
  have hmc : (m : Int) ≤ (bc : Int) := by omega
  obtain ⟨cs2, hcs2⟩ : ∃ c : List Value, c = [.slice g0.1 g0.2.1 g0.2.2, .slice g1.1 g1.2.1 g1.2.2, .slice g2.1 g2.2.1 g2.2.2, .slice g3.1 g3.2.1 g3.2.2, .slice g4.1 g4.2.1 g4.2.2, .slice ba m bc] := ⟨_, rfl⟩
  obtain ⟨s2, hs2⟩ : ∃ t : StateD, t = (s.1, s.2.1, s.2.2.1, s.2.2.2.1, s.2.2.2.2.1, s.2.2.2.2.2.take m) := ⟨_, rfl⟩
  have hRS2 : ∀ z, Kept (fun b => b < W.heap.size) W z → RState (fun b => b < W.heap.size) z cs2 s2 := fun z hz => by
    have k : ∀ {α : Type} [Inhabited α] {R : Rep α} {k bytes : Nat} {a : Option Addr} {n c : Nat} {L : List α}, Firm R k → SlAt R k bytes (fun _ => True) W a n c L → SlAt R k bytes (fun b => b < W.heap.size) z a n c L := fun hR h => (h.weak hR (fun b hb _ => hb)).kept hR hz
    rw [hcs2, hs2]
    exact RState.mk (x := (s.1, s.2.1, s.2.2.1, s.2.2.2.1, s.2.2.2.2.1, s.2.2.2.2.2.take m)) (h5 := (ba, m, bc)) (k RPod.firm p0) (k RNode.firm p1) (k RVolume.firm p2) (k RClaim.firm p3) (k RClass.firm p4) (k RBudget.firm (sl_takeG p5 hmn))
  have hl2 : cs2.length = 6 := by rw [hcs2]; rfl
  have HSz : Hid ((Try.prog.info? 29).map (·.size) = some cs2.length) := by rw [Hid, hl2]; exact sizeState18
  have HS1 : Hid (s2.1 = s.1 ∧ s2.2.2.2.2.2 = s.2.2.2.2.2.take m) := by rw [hs2]; exact ⟨rfl, rfl⟩
  have HF2 : Hid (∀ b ∈ s2.2.2.2.2.2, FitQ b.2.2) := fun b hb => HFit.out b (List.mem_of_mem_take (HS1.out.2 ▸ hb))
  clear HFit
  have hbl : s.2.2.2.2.2.length = bn := p5.1
  have H1 : Hid (∀ z, Kept (fun b => b < W.heap.size) W z → SlAt RStr 1 16 (fun _ => True) z x1 y1 z1 L1) := fun z hz => ((h1.weak RStr.firm (A' := fun b => b < W.heap.size) (fun b hb _ => hb)).kept RStr.firm hz).weak RStr.firm (fun _ _ _ => trivial)
  have HBX : Hid (Below W.heap.size W X ∧ BoxL X D [.slice g0.1 g0.2.1 g0.2.2, .slice g1.1 g1.2.1 g1.2.2, .slice g2.1 g2.2.1 g2.2.2, .slice g3.1 g3.2.1 g3.2.2, .slice g4.1 g4.2.1 g4.2.2, .slice ba bn bc]) := ⟨bX, by rw [← ecs]; exact qX⟩
  have HRS2 : Hid (∀ z, Kept (fun b => b < W.heap.size) W z → RState (fun b => b < W.heap.size) z cs2 s2) := hRS2
  have HCS : Hid (cs2 = [.slice g0.1 g0.2.1 g0.2.2, .slice g1.1 g1.2.1 g1.2.2, .slice g2.1 g2.2.1 g2.2.2, .slice g3.1 g3.2.1 g3.2.2, .slice g4.1 g4.2.1 g4.2.2, .slice ba m bc]) := hcs2
  have Hl1 : Hid (L1.length = y1 ∧ y1 * 16 ≤ 140737488351232) := ⟨h1.1, h1.2.2.2.1⟩
  have hy1 : y1 < 1000000000000000 := by have := Hl1.out.2; omega
  clear hX bX qX hD hs h1 ecs p0 p1 p2 p3 p4 p5 hcs2 hs2 hRS2 hl2 hm
  go_enter Try.func3, Try.ntmps3
  go_upto_region 1 with fail
  rw [HXe.out, HD.out]
  clear HXe
  go_wp2_with fail
  refine (works18_calls V X).mono ?_
  rintro e w1 ⟨rfl, b1⟩
  have qb := HBX.out.2.on b1
  have d5 := (qb.2 5 _ rfl).1
  have n5 := (qb.2 5 _ rfl).2
  obtain ⟨X2, hX2⟩ : ∃ Z, Z = w1.setCell ⟨D, 5, none⟩ (.slice ba m bc) := ⟨_, rfl⟩
  have HW1 : Hid (Below W.heap.size W w1) := on2 HBX.out.1 b1
  have HBX2 : Hid (Below W.heap.size W X2) := by rw [Hid, hX2]; exact HW1.out.setCell (p := ⟨D, 5, none⟩) (by show W.heap.size ≤ D; exact Nat.le_of_eq HD.out) _
  have q2 : BoxL X2 D cs2 := by rw [hX2, HCS.out]; exact qb.set 5 (.slice ba m bc) (by simp)
  have HX2 : Hid (w1.setCell ⟨D, 5, none⟩ (.slice ba m bc) = X2) := hX2.symm
  have HK : Hid (∀ z, Below X2.heap.size X2 z → Kept (fun b => b < W.heap.size) W z) := fun z hz => ⟨Nat.le_trans HBX2.out.size hz.size, fun b _ hb => (hz.block b (Nat.lt_of_lt_of_le hb HBX2.out.size)).trans (HBX2.out.block b hb)⟩
  have HS : Hid (∀ z, Below X2.heap.size X2 z → RState (fun b => b < W.heap.size) z cs2 s2) := fun z hz => HRS2.out z (HK.out z hz)
  have HR : Hid (∀ z, Below X2.heap.size X2 z → z.rangeAt D 0 cs2) := fun z hz => (q2.on hz).range
  have HQ : Hid (X2.rangeAt D 0 cs2) := q2.range
  have H5 : Hid (∀ z, Below X2.heap.size X2 z → z.cell? ⟨D, 5, none⟩ = some (.slice ba m bc)) := fun z hz => ((q2.on hz).2 5 _ (by rw [HCS.out]; rfl)).1
  clear b1 hX2 q2 qb
  --M1
  go_upto_region 4 with fail
  rw [HX2.out]
  clear HX2 d5 n5 hmin
  have hA := once_calls cs2 _ s2 X2 (HS.out X2 (Below.refl _ _))
  rw [HS1.out.1] at hA
  rcases (Bool.eq_false_or_eq_true (onceB s.1)).symm with ho | ho
  · rw [ho] at hA
    clear ho
    go_wp2_with (first | (refine wpList_load_mid rfl 29 _ rfl D 0 rfl cs2 _ HQ.out Try.underlying29 rfl HSz.out ?_) | fail)
    refine hA.mono ?_
    rintro e w2 ⟨rfl, b2⟩
    have HE : Hid (Below W.heap.size W w2) := on2 HBX2.out b2
    clear hA b2
    go_wp2_with fail
    go_ret
    exact ⟨rfl, HE.out⟩
  have HND : Hid ((s.1.map Prod.fst).Nodup) := once_nodup ho
  have HFs : Hid (fsG s.1 = s.1) := fs_id HND.out
  rw [ho] at hA
  clear ho
  go_wp2_with (first | (refine wpList_load_mid rfl 29 _ rfl D 0 rfl cs2 _ HQ.out Try.underlying29 rfl HSz.out ?_) | fail)
  refine hA.mono ?_
  rintro e w2 ⟨rfl, b2⟩
  have H2b : Hid (Below X2.heap.size X2 w2) := b2
  clear hA b2
  --M2
  have HQ2 : Hid (w2.rangeAt D 0 cs2) := HR.out w2 H2b.out
  have hA := V.broken cs2 _ s2 x1 y1 z1 _ L1 w2 (HS.out w2 H2b.out) (H1.out w2 (HK.out w2 H2b.out)) HF2.out
  rw [HS1.out.1, HS1.out.2, HFs.out, fs_take (show m ≤ 1 by omega)] at hA
  go_wp2_with (first | (refine wpList_load_mid rfl 29 _ rfl D 0 rfl cs2 _ HQ2.out Try.underlying29 rfl HSz.out ?_) | fail)
  refine hA.mono ?_
  rintro e w3 ⟨v3, rfl, hr3⟩
  have H3b : Hid (Below X2.heap.size X2 w3) := on2 H2b.out hr3.below
  have hbl3 := brokenP_len s.1 (s.2.2.2.2.2.take m) L1
  have d5 := H5.out w3 H3b.out
  obtain ⟨a3, c3, rfl, hs3⟩ := row_str hr3 (by have := Hl1.out; omega)
  clear hA hr3 HQ HQ2
  --M3
  rcases (show m = 0 ∨ m = 1 by omega) with rfl | rfl
  · have hb0 : brokenP s.1 (s.2.2.2.2.2.take 0) L1 = [] := by rw [List.take_zero]; exact broken_nil _ _
    rw [hb0]
    have HE : Hid (Below W.heap.size W w3) := on2 HBX2.out H3b.out
    clear hs3 hb0 hbl3 HS HR H5 H1 HK HRS2
    go_wp2_with fail
    go_ret
    exact ⟨rfl, HE.out⟩
  --M4
  have hbn : 0 < s.2.2.2.2.2.length := by omega
  obtain ⟨b, hbE⟩ : ∃ b, b = s.2.2.2.2.2.getD 0 default := ⟨_, rfl⟩
  have hB1 : s.2.2.2.2.2.take 1 = [b] := by rw [hbE]; exact bud_take hbn
  rw [hB1] at hbl3 hs3 ⊢
  have HS5 : Hid (s2.2.2.2.2.2 = [b]) := by rw [Hid, HS1.out.2, hB1]
  have HFb : Hid (FitQ b.2.2) := HF2.out b (by rw [HS5.out]; exact List.mem_singleton.2 rfl)
  obtain ⟨P, hP⟩ : ∃ P, P = s.1 := ⟨_, rfl⟩
  rw [← hP] at hbl3 hs3 HND HFs ⊢
  have HPs : Hid (s2.1 = P) := by rw [Hid, HS1.out.1, hP]
  have hbud : ∃ E off, ba = some ⟨E, off, none⟩ ∧ E < W.heap.size ∧ ∃ bs, (∀ z, Kept (fun b => b < W.heap.size) W z → RBudget (fun b => b < W.heap.size) z bs b) ∧ ∀ z, Kept (fun b => b < W.heap.size) W z → z.rangeAt E off bs := by
    have h := HRS2.out W (Kept.refl _ _)
    rw [HCS.out] at h
    obtain ⟨q0, q1, q2, q3, q4, q5, eqs, _, _, _, _, _, r5⟩ := h.out
    simp only [List.cons.injEq, Value.slice.injEq, and_true] at eqs
    obtain ⟨_, _, _, _, _, e1, e2, e3⟩ := eqs
    rw [← e1, ← e2, ← e3] at r5
    rw [HS5.out] at r5
    obtain ⟨E, off, e, hE, hAE, bs, hr, hv⟩ := r5.get (i := 0) (by decide)
    refine ⟨E, off, e, hE, bs, fun z hz => RBudget.firm.kept hr hz, fun z hz j v hj => ?_⟩
    have h9 := hv j v hj
    rw [Nat.zero_mul, Nat.add_zero] at h9
    exact (hz.cell (p := ⟨E, off + j, none⟩) hAE hE).trans h9
  obtain ⟨E, off, rfl, _, bs, hbs, hbv⟩ := hbud
  have HSb : Hid ((Try.prog.info? 37).map (·.size) = some bs.length) := by rw [Hid, RBudget.firm.len (hbs W (Kept.refl _ _))]; kernel_rfl
  have HBs : Hid (∀ z, Below X2.heap.size X2 z → RBudget (fun b => b < W.heap.size) z bs b) := fun z hz => hbs z (HK.out z hz)
  have HBv : Hid (∀ z, Below X2.heap.size X2 z → z.rangeAt E off bs) := fun z hz => hbv z (HK.out z hz)
  obtain ⟨ab, hab⟩ : ∃ ab, ab = aboutP P b := ⟨_, rfl⟩
  have HAb : Hid (aboutP P b = ab) := hab.symm
  obtain ⟨BL, hBL⟩ : ∃ M, M = brokenP P [b] L1 := ⟨_, rfl⟩
  rw [← hBL] at hbl3 hs3 ⊢
  have HBL : Hid (brokenP P [b] L1 = BL) := hBL.symm
  have HS3 : Hid (∀ z, Below w3.heap.size w3 z → SlAt RStr 1 16 (fun _ => True) z a3 BL.length c3 BL) := hs3
  have habl : ab.length * 16 ≤ 140737488351232 := by
    have h := (HS.out X2 (Below.refl _ _)).out
    obtain ⟨q0, q1, q2, q3, q4, q5, _, r0, _⟩ := h
    have h1 := r0.1
    have h2 := r0.2.2.2.1
    rw [HPs.out] at h1
    have h3 : ab.length ≤ P.length := by rw [hab]; unfold aboutP; rw [List.length_map]; exact List.length_filter_le _ _
    omega
  clear hs3 hbE hB1 hbn hP hbs hbv hab hBL HRS2 HCS HS5 hbl
  obtain ⟨l3, hl3⟩ : ∃ l, l = BL.length := ⟨_, rfl⟩
  rw [← hl3] at HS3 hbl3 ⊢
  clear hl3
  go_upto_region 9 with fail
  clear d5
  --M5
  go_cut [6, 7] (fun p q wx => ∃ (a6 : Option Addr) (c6 : Nat), p = .slice a6 ab.length c6 ∧ Hid (SlAt RStr 1 16 (fun y => y < wx.heap.size ∧ q.ownBlock ≠ some y) wx a6 ab.length c6 ab ∧ Row RStr 1 (fun _ => False) w3 wx 9 q (hitsL ab (L1.take 0) []) ∧ Below w3.heap.size w3 wx))
  case first =>
    have hb0 : Below w3.heap.size w3 w3.drew := (Below.refl _ _).drew
    refine t0 (fun z => Below X2.heap.size X2 z) (on2 H3b.out hb0) (fun hHeld => ?_)
    have Hd : Hid (Below w3.heap.size w3 w3.drew) := hb0
    generalize hwd : w3.drew = wd at hHeld Hd ⊢
    clear hwd hb0
    try go_frame
    refine tq 0 (.agg cs2.toArray) (yieldsIf_load_mid (by rfl) 29 _ rfl D 0 rfl cs2 _ (fun z hz => HR.out z hz) Try.underlying29 rfl HSz.out) ?_ (hi := rfl)
    try go_frame
    refine' tk 1 ?_ ?_; rotate_left
    · intro z hz; clear hz; go_simp; try with_reducible rfl
    try go_frame
    refine' tk 2 ?_ ?_; rotate_left
    · intro z hz; have f5 := H5.out z hz; clear hz; go_simp; try with_reducible rfl
    try go_frame
    refine' tk 3 ?_ ?_; rotate_left
    · intro z hz; clear hz; go_simp; try with_reducible rfl
    try go_frame
    refine tq 4 (.agg bs.toArray) (yieldsIf_load_mid (by rfl) 37 _ rfl E off rfl bs _ (fun z hz => HBv.out z hz) Try.underlying37 rfl HSb.out) ?_ (hi := rfl)
    try go_frame
    --M6
    refine tb 5 6 (fun K hK => ?_) (fun K hK => ?_)
    · have hA := V.about cs2 bs _ _ s2 b wd (HS.out wd hHeld) (HBs.out wd hHeld)
      rw [HPs.out, HFs.out, HAb.out] at hA
      go_simp
      refine hA.mono ?_
      rintro e w4 ⟨v4, rfl, hr4⟩
      have b4 := hr4.below
      obtain ⟨a4, c4, rfl, hs4⟩ := row_own hr4 habl
      have HS4 : Hid (SlAt RStr 1 16 (fun y => wd.heap.size ≤ y ∧ y < w4.heap.size) w4 a4 ab.length c4 ab) := hs4
      have Hd4 : Hid (Below w3.heap.size w3 w4) := on2 Hd.out b4
      clear hA hr4 hs4 b4
      go_wp2_with fail
      refine hK.out _ _ (on2 H3b.out Hd4.out) (fun hHeld2 => ?_)
      clear hK K hHeld; have hHeld := hHeld2; clear hHeld2
      try go_frame
      refine' tk 7 ?_ ?_; rotate_left
      · intro z hz; clear hz; go_simp; try with_reducible rfl
      try go_frame
      refine tr 6 (fun K hK => ?_)
      go_simp
      have HR0 : Hid (Row RStr 1 (fun _ => False) w3 (w4.alloc (.cells #[] 9)) 9 (.slice (some ⟨w4.heap.size, 0, none⟩) 0 0) (hitsL ab (L1.take 0) [])) := Row.start _ w3 w4 _ Hd4.out
      obtain ⟨W5, hW5⟩ : ∃ Z, Z = w4.alloc (.cells #[] 9) := ⟨_, rfl⟩
      have b5 : Below w4.heap.size w4 W5 := by rw [hW5]; exact (Below.refl _ _).alloc (Nat.le_refl _) _
      rw [← hW5] at HR0 ⊢
      clear hW5
      have Hd5 : Hid (Below w3.heap.size w3 W5) := on2 Hd4.out b5
      refine hK.out _ _ (on2 H3b.out Hd5.out) (fun hHeld2 => ?_)
      clear hK K hHeld; have hHeld := hHeld2; clear hHeld2
      try go_frame
      refine' tk 8 ?_ ?_; rotate_left
      · intro z hz; clear hz; go_simp; try with_reducible rfl
      try go_frame
      refine tz ?_
      clear hHeld
      go_wp2_with fail
      go_meet
      exact ⟨_, _, rfl, (HS4.out.on RStr.firm b5).weak RStr.firm (fun y hy h => ⟨hy, fun e => by have e := Option.some.inj e; have h9 : w4.heap.size = y := e; omega⟩), HR0.out, Hd5.out⟩
    · go_simp
      have HR0 : Hid (Row RStr 1 (fun _ => False) w3 (wd.alloc (.cells #[] 9)) 9 (.slice (some ⟨wd.heap.size, 0, none⟩) 0 0) (hitsL ab (L1.take 0) [])) := Row.start _ w3 wd _ Hd.out
      obtain ⟨W5, hW5⟩ : ∃ Z, Z = wd.alloc (.cells #[] 9) := ⟨_, rfl⟩
      have b5 : Below wd.heap.size wd W5 := by rw [hW5]; exact (Below.refl _ _).alloc (Nat.le_refl _) _
      have h5s : wd.heap.size < W5.heap.size := by rw [hW5]; simp
      rw [← hW5] at HR0 ⊢
      clear hW5
      have Hd5 : Hid (Below w3.heap.size w3 W5) := on2 Hd.out b5
      refine hK.out _ _ (on2 H3b.out Hd5.out) (fun hHeld2 => ?_)
      clear hK K hHeld; have hHeld := hHeld2; clear hHeld2
      try go_frame
      refine tr 5 (fun K hK => ?_)
      have hA := V.about cs2 bs _ _ s2 b W5 (HS.out W5 hHeld) (HBs.out W5 hHeld)
      rw [HPs.out, HFs.out, HAb.out] at hA
      go_simp
      refine hA.mono ?_
      rintro e w4 ⟨v4, rfl, hr4⟩
      have b4 := hr4.below
      obtain ⟨a4, c4, rfl, hs4⟩ := row_own hr4 habl
      have HS4 : Hid (SlAt RStr 1 16 (fun y => W5.heap.size ≤ y ∧ y < w4.heap.size) w4 a4 ab.length c4 ab ∧ wd.heap.size < W5.heap.size) := ⟨hs4, h5s⟩
      have Hd4 : Hid (Below w3.heap.size w3 w4) := on2 Hd5.out b4
      have HR4 : Hid (Row RStr 1 (fun _ => False) w3 w4 9 (.slice (some ⟨wd.heap.size, 0, none⟩) 0 0) (hitsL ab (L1.take 0) [])) := HR0.out.on RStr.firm b4
      clear hA hr4 hs4 b4
      go_wp2_with fail
      refine hK.out _ _ (on2 H3b.out Hd4.out) (fun hHeld2 => ?_)
      clear hK K hHeld; have hHeld := hHeld2; clear hHeld2
      try go_frame
      refine' tk 7 ?_ ?_; rotate_left
      · intro z hz; clear hz; go_simp; try with_reducible rfl
      try go_frame
      refine' tk 8 ?_ ?_; rotate_left
      · intro z hz; clear hz; go_simp; try with_reducible rfl
      try go_frame
      refine tz ?_
      clear hHeld
      go_wp2_with fail
      go_meet
      exact ⟨_, _, rfl, HS4.out.1.weak RStr.firm (fun y hy h => ⟨hy, fun e => by have e := Option.some.inj e; have h9 : wd.heap.size = y := e; have h8 := HS4.out.2; omega⟩), HR4.out, Hd4.out⟩
  case rest =>
  obtain ⟨a6, c6, rfl, hcut⟩ := hcut
  obtain ⟨q7, hq7⟩ : ∃ q, q = u7 := ⟨_, rfl⟩
  subst hq7
  have HC6 : Hid (∀ z, Kept (fun y => y < wc.heap.size ∧ q7.ownBlock ≠ some y) wc z → SlAt RStr 1 16 (fun _ => True) z a6 ab.length c6 ab) := fun z hz => (hcut.out.1.kept RStr.firm hz).weak RStr.firm (fun _ _ _ => trivial)
  have HR0 : Hid (Row RStr 1 (fun _ => False) w3 wc 9 q7 (hitsL ab (L1.take 0) [])) := hcut.out.2.1
  have HBc : Hid (Below w3.heap.size w3 wc) := hcut.out.2.2
  clear hcut
  obtain ⟨n6, hn6⟩ : ∃ n, n = ab.length := ⟨_, rfl⟩
  rw [← hn6] at HC6 habl ⊢
  clear hn6
  have HL1 : Hid (∀ z, Below w3.heap.size w3 z → SlAt RStr 1 16 (fun _ => True) z x1 y1 z1 L1) := fun z hz => H1.out z (HK.out z (on2 H3b.out hz))
  go_wp2_with fail
  --M7
  go_loopw [7, 8] (fun v i z => ∃ k : Nat, k ≤ y1 ∧ i = .int .i64 k ∧ Hid (Row RStr 1 (fun _ => False) w3 z 9 v (hitsL ab (L1.take k) []) ∧ Kept (fun y => y < wc.heap.size ∧ q7.ownBlock ≠ some y) wc z ∧ (v.ownBlock = q7.ownBlock ∨ ∀ y, v.ownBlock = some y → wc.heap.size ≤ y))) (fun _ i _ => y1 - (intOf i).toNat)
  case atStart => exact ⟨0, Nat.zero_le _, rfl, HR0.out, Kept.refl _ _, .inl rfl⟩
  case round =>
    clear HR0
    obtain ⟨k, hk, rfl, hrun⟩ := hrel
    have hhl : (hitsL ab (L1.take k) []).length ≤ k := by have h := hits_len ab (L1.take k) []; rw [List.length_nil, List.length_take] at h; omega
    by_cases hlt : k < y1
    case pos =>
      have hltz : (k : Int) < (y1 : Int) := by omega
      have hkl : k < L1.length := by rw [Hl1.out.1]; exact hlt
      obtain ⟨F, fo, rfl, hF, _, fs, hfr, hfv⟩ := (HL1.out wr hrun.out.1.below).get hlt
      obtain ⟨rfl, hxs⟩ : fs = [.string (L1.getD k default)] ∧ _ := hfr
      have s0 := hfv 0 _ rfl
      rw [Nat.add_zero, Nat.mul_one] at s0
      have HSn := hits_snoc ab L1 hkl
      obtain ⟨x, hx⟩ : ∃ x, x = L1.getD k default := ⟨_, rfl⟩
      rw [← hx] at s0 hxs HSn
      obtain ⟨hit, hhit⟩ : ∃ h, h = hitsL ab (L1.take k) [] := ⟨_, rfl⟩
      rw [← hhit] at HSn hhl
      have hr := hrun.out.1
      rw [← hhit] at hr
      obtain ⟨a7, c7, rfl, hs7⟩ := row_str hr (by have := Hl1.out; omega)
      have hA := Has_calls a6 n6 c6 _ ab x wr (HC6.out wr hrun.out.2.1)
      have hB := Has_calls a7 hit.length c7 _ hit x wr (hs7 wr (Below.refl _ _))
      have HRw : Hid (Row RStr 1 (fun _ => False) w3 wr 9 (.slice a7 hit.length c7) hit ∧ Kept (fun y => y < wc.heap.size ∧ q7.ownBlock ≠ some y) wc wr ∧ ((Value.slice a7 hit.length c7).ownBlock = q7.ownBlock ∨ ∀ y, (Value.slice a7 hit.length c7).ownBlock = some y → wc.heap.size ≤ y)) := ⟨hr, hrun.out.2⟩
      have HSN : Hid (hitsL ab (L1.take (k + 1)) [] = if hasB sEq ab x = true ∧ hasB sEq hit x = false then hit ++ [x] else hit) := HSn
      clear hfv hx hhit hr hs7 hrun HSn
      rcases (Bool.eq_false_or_eq_true (hasB sEq ab x)).symm with h1 | h1
      · rw [h1] at hA
        have HE : Hid (Row RStr 1 (fun _ => False) w3 wr 9 (.slice a7 hit.length c7) (hitsL ab (L1.take (k + 1)) []) ∧ Kept (fun y => y < wc.heap.size ∧ q7.ownBlock ≠ some y) wc wr ∧ ((Value.slice a7 hit.length c7).ownBlock = q7.ownBlock ∨ ∀ y, (Value.slice a7 hit.length c7).ownBlock = some y → wc.heap.size ≤ y)) := by
          refine ⟨?_, HRw.out.2⟩
          rw [HSN.out, if_neg (by rw [h1]; exact fun h => Bool.noConfusion h.1)]; exact HRw.out.1
        obtain ⟨n7, hn7⟩ : ∃ n, n = hit.length := ⟨_, rfl⟩
        rw [← hn7] at HE ⊢
        clear h1 HSN HRw hB hn7 hhl
        go_wp2_with fail
        refine hA.mono ?_
        rintro e w8 ⟨rfl, rfl⟩
        clear hA
        go_wp2_with fail
        go_roundw
        case rel => exact ⟨k + 1, by omega, by go_num, HE⟩
        case measure => simp [intOf]; omega
      rw [h1] at hA
      rcases (Bool.eq_false_or_eq_true (hasB sEq hit x)) with h2 | h2
      · rw [h2] at hB
        have HE : Hid (Row RStr 1 (fun _ => False) w3 wr 9 (.slice a7 hit.length c7) (hitsL ab (L1.take (k + 1)) []) ∧ Kept (fun y => y < wc.heap.size ∧ q7.ownBlock ≠ some y) wc wr ∧ ((Value.slice a7 hit.length c7).ownBlock = q7.ownBlock ∨ ∀ y, (Value.slice a7 hit.length c7).ownBlock = some y → wc.heap.size ≤ y)) := by
          refine ⟨?_, HRw.out.2⟩
          rw [HSN.out, if_neg (by rw [h2]; exact fun h => Bool.noConfusion h.2)]; exact HRw.out.1
        obtain ⟨n7, hn7⟩ : ∃ n, n = hit.length := ⟨_, rfl⟩
        rw [← hn7] at HE hB ⊢
        clear h1 h2 HSN HRw hn7 hhl
        go_wp2_with fail
        refine hA.mono ?_
        rintro e w8 ⟨rfl, rfl⟩
        clear hA
        go_wp2_with fail
        refine hB.mono ?_
        rintro e w9 ⟨rfl, rfl⟩
        clear hB
        go_wp2_with fail
        go_roundw
        case rel => exact ⟨k + 1, by omega, by go_num, HE⟩
        case measure => simp [intOf]; omega
      rw [h2] at hB
      have HSN2 : Hid (hitsL ab (L1.take (k + 1)) [] = hit ++ [x]) := by rw [Hid, HSN.out, if_pos ⟨h1, h2⟩]
      clear h1 h2 HSN
      have HLb : Hid ((hit.length + [x].length) * 16 ≤ 140737488355328) := by rw [Hid, List.length_singleton]; have := Hl1.out; omega
      obtain ⟨n7, hn7⟩ : ∃ n, n = hit.length := ⟨_, rfl⟩
      rw [← hn7] at HRw hB ⊢
      clear hhl hn7
      go_wp2_with fail
      refine hA.mono ?_
      rintro e w8 ⟨rfl, rfl⟩
      clear hA
      go_wp2_with fail
      refine hB.mono ?_
      rintro e w9 ⟨rfl, rfl⟩
      clear hB
      obtain ⟨W3, hW3⟩ : ∃ Z, Z = w9.alloc (.cells #[.string x] 9) := ⟨_, rfl⟩
      have b3 : Below w9.heap.size w9 W3 := by rw [hW3]; exact (Below.refl _ _).alloc (Nat.le_refl _) _
      have q3 : BoxL W3 w9.heap.size [.string x] := by rw [hW3]; exact BoxL.new w9 9 _
      have HW3 : Hid (W3 = w9.alloc (.cells #[.string x] 9)) := hW3
      have HR3 : Hid (Row RStr 1 (fun _ => False) w3 W3 9 (.slice a7 n7 c7) hit ∧ Kept (fun y => y < wc.heap.size ∧ q7.ownBlock ≠ some y) wc W3 ∧ ((Value.slice a7 n7 c7).ownBlock = q7.ownBlock ∨ ∀ y, (Value.slice a7 n7 c7).ownBlock = some y → wc.heap.size ≤ y)) := ⟨HRw.out.1.on RStr.firm b3, HRw.out.2.1.trans (Kept.below b3), HRw.out.2.2⟩
      have HSr : Hid (Src RStr 1 (fun b => False ∧ (Value.slice a7 n7 c7).ownBlock ≠ some b) W3 (some ⟨w9.heap.size, 0, none⟩) 1 [x]) := src_boxG RStr.firm q3 ⟨rfl, hxs⟩
      clear hW3 b3 q3 HRw
      go_wp2_with (at_builtin; refine wpl_atG HW3.out ?_; refine row_appendP RStr.firm (A := fun _ => False) (w0 := w3) rfl _ _ 30 9 rfl _ 16 infoStr18 Try.underlying30 rfl (by decide) (by decide) (.slice a7 n7 c7) hit rfl HR3.out.1 (some ⟨w9.heap.size, 0, none⟩) 1 1 [x] rfl HSr.out HLb.out ?_; intro v5 w5 hrow5 hg5 hw5)
      have HE : Hid (Row RStr 1 (fun _ => False) w3 w5 9 v5 (hitsL ab (L1.take (k + 1)) []) ∧ Kept (fun y => y < wc.heap.size ∧ q7.ownBlock ≠ some y) wc w5 ∧ (v5.ownBlock = q7.ownBlock ∨ ∀ y, v5.ownBlock = some y → wc.heap.size ≤ y)) := by
        have hws : wc.heap.size ≤ W3.heap.size := HR3.out.2.1.1
        refine ⟨by rw [HSN2.out]; exact hrow5, HR3.out.2.1.trans (Kept.grown hg5 (fun y e hy => ?_)), ?_⟩
        · rcases HR3.out.2.2 with h | h
          · rw [h] at e; exact hy.2 e
          · have := h y e; have := hy.1; omega
        · rcases hw5 with h | h
          · rw [h]; exact HR3.out.2.2
          · exact .inr (fun y e => by rw [h] at e; have := Option.some.inj e; omega)
      clear hrow5 hg5 hw5 HR3 HSr HLb HW3 HSN2
      go_roundw
      case rel => exact ⟨k + 1, by omega, by go_num, HE⟩
      case measure => simp [intOf]; omega
    --M8
    have hltz : ¬ (k : Int) < (y1 : Int) := by omega
    have hky : L1.take k = L1 := List.take_of_length_le (by rw [Hl1.out.1]; omega)
    rw [hky] at hrun hhl
    obtain ⟨a, ha⟩ := allows_nat P b
    have hone := brokenP_one HND.out b L1 ha
    rw [HBL.out, HAb.out] at hone
    obtain ⟨hit, hhit⟩ : ∃ h, h = hitsL ab L1 [] := ⟨_, rfl⟩
    rw [← hhit] at hone hrun hhl
    obtain ⟨a7, c7, rfl, hs7⟩ := row_str hrun.out.1 (by have := Hl1.out; omega)
    have hcap7 := (hs7 wr (Below.refl _ _)).2.1
    have hnil7 := (hs7 wr (Below.refl _ _)).2.2.1
    have HBw : Hid (Below w3.heap.size w3 wr) := hrun.out.1.below
    obtain ⟨t, ht⟩ : ∃ t, t = min hit.length a := ⟨_, rfl⟩
    rw [← ht] at hone
    have htl : t ≤ hit.length := by rw [ht]; exact Nat.min_le_left _ _
    have HDr : Hid (∀ z, Below wr.heap.size wr z → SlAt RStr 1 16 (fun _ => True) z (dropA18 a7 c7 t) (hit.length - t) (c7 - t) (hit.drop t)) := fun z hz => sl_dropA18 (hs7 z hz) htl
    have hmin2 : min (hit.length : Int) (a : Int) = (t : Int) := by rw [ht]; omega
    have HOne : Hid (BL = hit.drop t) := hone
    have HAl : Hid (allowsP P b = (a : Int)) := ha
    obtain ⟨n7, hn7⟩ : ∃ n, n = hit.length := ⟨_, rfl⟩
    rw [← hn7] at hcap7 hhl htl HDr hmin2 ⊢
    have hcap : Hid ((a7 = none → c7 = 0) ∧ n7 ≤ c7) := ⟨hnil7, hcap7⟩
    clear hrun hky hone hs7 hcap7 hnil7 ht ha hn7 hhit
    go_upto_region 15 with fail
    have hb0 : Below wr.heap.size wr wr.drew := (Below.refl _ _).drew
    refine t0 (fun z => Below X2.heap.size X2 z) (on2 (on2 H3b.out HBw.out) hb0) (fun hHeld => ?_)
    have Hd : Hid (Below wr.heap.size wr wr.drew) := hb0
    generalize hwd : wr.drew = wd at hHeld Hd ⊢
    clear hwd hb0
    try go_frame
    refine' tk 0 ?_ ?_; rotate_left
    · intro z hz; clear hz; go_simp; try with_reducible rfl
    try go_frame
    refine' tk 1 ?_ ?_; rotate_left
    · intro z hz; clear hz; go_simp; try with_reducible rfl
    try go_frame
    refine' tk 2 ?_ ?_; rotate_left
    · intro z hz; clear hz; go_simp; try with_reducible rfl
    try go_frame
    refine' tk 3 ?_ ?_; rotate_left
    · intro z hz; clear hz; go_simp; try with_reducible rfl
    try go_frame
    refine tq 4 (.agg cs2.toArray) (yieldsIf_load_mid (by rfl) 29 _ rfl D 0 rfl cs2 _ (fun z hz => HR.out z hz) Try.underlying29 rfl HSz.out) ?_ (hi := rfl)
    try go_frame
    refine' tk 5 ?_ ?_; rotate_left
    · intro z hz; clear hz; go_simp; try with_reducible rfl
    try go_frame
    refine' tk 6 ?_ ?_; rotate_left
    · intro z hz; have f5 := H5.out z hz; clear hz; go_simp; try with_reducible rfl
    try go_frame
    refine' tk 7 ?_ ?_; rotate_left
    · intro z hz; clear hz; go_simp; try with_reducible rfl
    try go_frame
    refine tq 8 (.agg bs.toArray) (yieldsIf_load_mid (by rfl) 37 _ rfl E off rfl bs _ (fun z hz => HBv.out z hz) Try.underlying37 rfl HSb.out) ?_ (hi := rfl)
    try go_frame
    --M9
    have hA := V.allows cs2 bs _ _ s2 b wd (HS.out wd hHeld) (HBs.out wd hHeld) HFb.out
    rw [HPs.out, HFs.out, HAl.out] at hA
    refine tr 9 (fun K hK => ?_)
    go_simp
    refine hA.mono ?_
    rintro e w4 ⟨rfl, b4⟩
    have Hd4 : Hid (Below wr.heap.size wr w4) := on2 Hd.out b4
    clear hA
    go_wp2_with fail
    refine hK.out _ _ (on2 (on2 H3b.out HBw.out) Hd4.out) (fun hHeld2 => ?_)
    clear hK K hHeld; have hHeld := hHeld2; clear hHeld2
    try go_frame
    refine' tk 10 ?_ ?_; rotate_left
    · intro z hz; clear hz; go_simp; try with_reducible rfl
    try go_frame
    --M10
    refine' tq 11 (.slice (dropA18 a7 c7 t) (n7 - t) (c7 - t)) ?_ ?_
    · refine .inl ⟨rfl, fun u _ => ?_⟩
      obtain ⟨hc1, hc2⟩ := hcap.out
      have z1 : (0 : Int) ≤ (t : Int) := by omega
      have z2 : (t : Int) ≤ (n7 : Int) := by omega
      have z3 : (n7 : Int) ≤ (c7 : Int) := by omega
      have z4 : (t : Int) ≤ (c7 : Int) := by omega
      have z5 : (c7 : Int) - (t : Int) = ((c7 - t : Nat) : Int) := by omega
      rcases a7 with _ | ad
      · obtain rfl := hc1 rfl
        obtain rfl : n7 = 0 := by omega
        obtain rfl : t = 0 := by omega
        simp only [dropA18]
        go_simp
        try with_reducible rfl
      · by_cases hct : c7 = t
        · simp only [dropA18, hct, if_true]
          go_simp
          try with_reducible rfl
        · simp only [dropA18, hct, if_false]
          go_simp
          try with_reducible rfl
    try go_frame
    --M11
    have hA := SameTexts_calls _ _ _ _ _ _ _ _ _ _ w4 (HS3.out w4 (on2 HBw.out Hd4.out)) (HDr.out w4 Hd4.out)
    rw [decide_eq_true HOne.out] at hA
    refine tr 12 (fun K hK => ?_)
    go_simp
    refine hA.mono ?_
    rintro e w5 ⟨rfl, qd, rfl⟩
    have b5 : Below w4.heap.size w4 (w4.drewN qd) := below_drewN (Below.refl _ _) _
    generalize hg5 : w4.drewN qd = w5 at b5 ⊢
    have Hd5 : Hid (Below wr.heap.size wr w5) := on2 Hd4.out b5
    clear hA hg5
    go_wp2_with fail
    refine hK.out _ _ (on2 (on2 H3b.out HBw.out) Hd5.out) (fun hHeld2 => ?_)
    clear hK K hHeld; have hHeld := hHeld2; clear hHeld2
    try go_frame
    refine' tk 13 ?_ ?_; rotate_left
    · intro z hz; clear hz; go_simp; try with_reducible rfl
    try go_frame
    refine tz ?_
    have HE : Hid (Below W.heap.size W w5) := on2 HBX2.out hHeld
    clear hHeld
    go_wp2_with fail
    go_ret
    exact ⟨rfl, HE.out⟩
end Go.Proofs.Ytpjgffcpjabghaa
