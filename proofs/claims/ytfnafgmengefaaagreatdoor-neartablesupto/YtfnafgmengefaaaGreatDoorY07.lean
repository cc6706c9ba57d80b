/- The document's Check of layer 8. Condition: the arguments lie as is said of them. -/
import Derived.Test.YtfnafgmengefaaaGreatDoorY06
import Derived.Test.YtfnafgmengefaaaGreatDoorQ13
namespace Go.Proofs.YtfnafgmengefaaaGreatDoor
open Go.RowKit
set_option linter.unusedSimpArgs false
set_option maxRecDepth 100000

theorem load_w9 {ops : Array Oper} {rest : List Oper} {op : Oper} {a : Act} {w : World} {Q : Exit → Act → World → Prop} (hgd : Region.wanted op (yielded ops a.tmps) = true) (ty : TypeId) (x : Operand) (ho : op.op = .load ty x)
    (b o : Nat) (hx : a.eval x = .pointer (some ⟨b, o, none⟩)) (cs : List Value) (d : TypeDesc) (hc : w.rangeAt b o cs)
    (hu : Tryz.prog.underlying ty = some d) (hd : d.isRow = true) (hi : (Tryz.prog.info? ty).map (·.size) = some cs.length)
    (h : wpList Tryz.prog ops Q rest (a.put op.dst (.agg cs.toArray)) w) : wpList Tryz.prog ops Q (op :: rest) a w :=
  BigFrame.wpList_want hgd (fun _ hK => wp_load_mid ty x ho b o hx cs d hc hu hd hi (hK _ _ h))
theorem sizeTe : (Tryz.prog.info? 80).map (·.size) = some 2 := by kernel_rfl
theorem RPod.reads8 {A : Where} {w : World} {cs : List Value} {p : PodD} (h : RPod A w cs p) : ∃ h2 h10 h11 : Hd, cs[0]? = some (.string p.1) ∧ cs[2]? = some (.slice h2.1 h2.2.1 h2.2.2) ∧ cs[10]? = some (.slice h10.1 h10.2.1 h10.2.2) ∧ cs[11]? = some (.slice h11.1 h11.2.1 h11.2.2) ∧ SlAt RLabel 2 32 A w h2.1 h2.2.1 h2.2.2 (pLabs p) ∧ SlAt RTerm 2 40 A w h10.1 h10.2.1 h10.2.2 (pNear p) ∧ SlAt RTerm 2 40 A w h11.1 h11.2.1 h11.2.2 (pApart p) := by
  obtain ⟨h2, h6, h7, h8, h9, h10, h11, h12, h13, rfl, _, s2, _, _, _, _, s10, s11, _⟩ := h.out
  exact ⟨h2, h10, h11, rfl, rfl, rfl, rfl, s2, s10, s11⟩
/-- What lies behind the calls: the pod's box, its lists, the labels, the others. -/
def CkAt (w : World) (cs : List Value) (p : PodD) (h2 h10 h11 : Hd) (a : Option Addr) (n cap : Nat) (L : List Lab) (av : Option Addr) (q cv : Nat) (Q : List PlacedD) (u : World) : Prop :=
  BoxL u w.heap.size cs ∧ SlAt RLabel 2 32 (fun _ => True) u h2.1 h2.2.1 h2.2.2 (pLabs p) ∧ SlAt RTerm 2 40 (fun _ => True) u h10.1 h10.2.1 h10.2.2 (pNear p) ∧ SlAt RTerm 2 40 (fun _ => True) u h11.1 h11.2.1 h11.2.2 (pApart p) ∧ SlAt RLabel 2 32 (fun _ => True) u a n cap L ∧ SlAt RPlaced 17 320 (fun _ => True) u av q cv Q ∧ Below w.heap.size w u
theorem CkAt.on {w : World} {cs : List Value} {p : PodD} {h2 h10 h11 : Hd} {a : Option Addr} {n cap : Nat} {L : List Lab} {av : Option Addr} {q cv : Nat} {Q : List PlacedD} {u u' : World} (h : CkAt w cs p h2 h10 h11 a n cap L av q cv Q u) (hb : Below u.heap.size u u') : CkAt w cs p h2 h10 h11 a n cap L av q cv Q u' :=
  ⟨h.1.on hb, h.2.1.on RLabel.firm hb, h.2.2.1.on RTerm.firm hb, h.2.2.2.1.on RTerm.firm hb, h.2.2.2.2.1.on RLabel.firm hb, h.2.2.2.2.2.1.on RPlaced.firm hb, on2 h.2.2.2.2.2.2 hb⟩
def CkS (P Z : Nat) (f z g : Hd) (B o : Nat) (r : Hd) (key : ByteArray) (u : World) : Prop :=
  u.cell? ⟨P, 2, none⟩ = some (.slice f.1 f.2.1 f.2.2) ∧ u.cell? ⟨Z, 11, none⟩ = some (.slice z.1 z.2.1 z.2.2) ∧ u.cell? ⟨Z, 16, none⟩ = some (.slice g.1 g.2.1 g.2.2) ∧ u.cell? ⟨B, o, none⟩ = some (.slice r.1 r.2.1 r.2.2) ∧ u.cell? ⟨B, o + 1, none⟩ = some (.string key)
set_option maxHeartbeats 8000000 in
theorem rCheck8_calls (cs : List Value) (p : PodD) (a : Option Addr) (n cap : Nat) (L : List Lab) (b : Option Addr) (m capb : Nat) (Pl : List PlacedD) (w : World) (hp : Hid (RPod (fun _ => True) w cs p)) (hL : Hid (SlAt RLabel 2 32 (fun _ => True) w a n cap L)) (hP : Hid (SlAt RPlaced 17 320 (fun _ => True) w b m capb Pl)) :
    Calls Tryz.prog 9 #[.agg cs.toArray, .slice a n cap, .slice b m capb] w fun e w' => e = .returned (.int .i64 (refN p L Pl)) ∧ Below w.heap.size w w' := by
  obtain ⟨⟨f1, f2, f3⟩, ⟨x1, x2, x3⟩, ⟨y1, y2, y3⟩, e0, e2, e10, e11, s2, s10, s11⟩ := hp.out.reads8
  simp only at e2 e10 e11 s2 s10 s11
  have hbb : Hid (m * 320 ≤ 140737488351232) := hP.out.2.2.2.1
  have hmn : Hid (Pl.length = m) := hP.out.1
  obtain ⟨W1, hW1⟩ : ∃ W, W = w.alloc (.cells cs.toArray 33) := ⟨_, rfl⟩
  have B1 : Below w.heap.size w W1 := by rw [hW1]; go_grown
  have qx : BoxL W1 w.heap.size cs := by rw [hW1]; exact BoxL.new w 33 cs
  have c0 := (qx.2 0 _ e0).1
  have HO := Others_calls b m capb _ p.1 Pl W1 (hP.out.on RPlaced.firm B1)
  have HK1 : Hid (∀ u, Below W1.heap.size W1 u → ∀ av q cv Q, SlAt RPlaced 17 320 (fun _ => True) u av q cv Q → CkAt w cs p (f1, f2, f3) (x1, x2, x3) (y1, y2, y3) a n cap L av q cv Q u) := fun u hb av q cv Q hs => ⟨qx.on hb, (s2.on RLabel.firm B1).on RLabel.firm hb, (s10.on RTerm.firm B1).on RTerm.firm hb, (s11.on RTerm.firm B1).on RTerm.firm hb, (hL.out.on RLabel.firm B1).on RLabel.firm hb, hs, on2 B1 hb⟩
  have HF : Hid (refN p L Pl = whyR8 (pLabs p) (pNear p) (pApart p) L (othersN p.1 Pl)) := rfl
  have HE : Hid (cs[2]? = some (.slice f1 f2 f3) ∧ cs[10]? = some (.slice x1 x2 x3) ∧ cs[11]? = some (.slice y1 y2 y3)) := ⟨e2, e10, e11⟩
  generalize refN p L Pl = ans at HF
  clear hp hL hP s2 s10 s11 qx B1 e0 e2 e10 e11
  go_enter Tryz.func9, Tryz.ntmps9
  go_upto_region 1 with fail
  rw [← hW1]
  clear hW1
  go_wp2_with fail
  refine HO.mono ?_
  clear HO c0
  rintro e w3 ⟨v, rfl, hrow⟩
  have hq1 : (othersN p.1 Pl).length * 320 ≤ 140737488351232 := by have h1 := others_le8 p.1 Pl; rw [hmn.out] at h1; exact Nat.le_trans (Nat.mul_le_mul_right 320 h1) hbb.out
  obtain ⟨av, cv, rfl, sQ⟩ := hrow.slO8 (bytes := 320) RPlaced.firm hq1
  have HC : Hid (CkAt w cs p (f1, f2, f3) (x1, x2, x3) (y1, y2, y3) a n cap L av (othersN p.1 Pl).length cv (othersN p.1 Pl) w3) := HK1.out w3 hrow.below _ _ _ _ (sQ.weak RPlaced.firm (fun _ _ _ => trivial))
  clear hrow sQ HK1 hq1 hbb hmn
  generalize othersN p.1 Pl = Q at HC HF
  have hl10 := HC.out.2.2.1.len (by decide)
  have hn10 : Hid ((pNear p).length = x2) := HC.out.2.2.1.1
  have hl11 := HC.out.2.2.2.1.len (by decide)
  have hn11 : Hid ((pApart p).length = y2) := HC.out.2.2.2.1.1
  have hnL : Hid (L.length = n) := HC.out.2.2.2.2.1.1
  have hlQ := HC.out.2.2.2.2.2.1.len (by decide)
  go_upto_region 3 with fail
  go_loopw [8] (fun i wr => ∃ k : Nat, k ≤ x2 ∧ i = .int .i64 k ∧ Hid (Below w3.heap.size w3 wr ∧ ((pNear p).take k).any (rLackT (pLabs p) L Q) = false)) (fun i _ => x2 - (intOf i).toNat)
  case atStart => exact ⟨0, Nat.zero_le _, rfl, Below.refl _ _, rfl⟩
  case round =>
    obtain ⟨k, hk, rfl, hst⟩ := hrel
    have hCr := HC.out.on hst.out.1
    have d10 := (hCr.1.2 10 _ HE.out.2.1).1
    by_cases hlt : k < x2
    · have hltz : (k : Int) < (x2 : Int) := by omega
      have hkl : k < (pNear p).length := by rw [hn10.out]; exact hlt
      obtain ⟨B, off, rfl, hB, _, ts, hr, hv⟩ := hCr.2.2.1.get hlt
      obtain ⟨⟨r1, r2, r3⟩, rfl, sR, zR⟩ := hr.out
      simp only at sR
      have t0c := hv 0 _ rfl
      have t1c := hv 1 _ rfl
      rw [Nat.add_zero] at t0c
      have HA : Hid (rLackT (pLabs p) L Q ((pNear p).getD k default) = true → ans = 9) := fun h => by rw [HF.out]; unfold whyR8; rw [if_pos (any_at hkl h)]
      have HN : Hid (rLackT (pLabs p) L Q ((pNear p).getD k default) = false → ((pNear p).take (k + 1)).any (rLackT (pLabs p) L Q) = false) := fun h => any_take hkl hst.out.2 h
      generalize (pNear p).getD k default = t at *
      obtain ⟨W5, hW5⟩ : ∃ W, W = (wr.alloc (.cells #[.slice none 0 0, .string ⟨#[]⟩] 80)).setCells wr.heap.size 0 [.slice r1 r2 r3, .string t.2] := ⟨_, rfl⟩
      have HTh : Hid ((wr.alloc (.cells #[.slice none 0 0, .string ⟨#[]⟩] 80)).there wr.heap.size 0 2) := (BoxL.new wr 80 [.slice none 0 0, .string ⟨#[]⟩]).there
      have B5 : Below wr.heap.size wr W5 := by rw [hW5]; exact below_setCells ((Below.refl _ _).alloc (Nat.le_refl _) _) (Nat.le_refl _)
      have q5 : BoxL W5 wr.heap.size [.slice r1 r2 r3, .string t.2] := by rw [hW5]; exact box_over8 (zs := [.slice none 0 0, .string ⟨#[]⟩]) (BoxL.new wr 80 _) rfl
      have HW5 : Hid (W5 = (wr.alloc (.cells #[.slice none 0 0, .string ⟨#[]⟩] 80)).setCells wr.heap.size 0 (([.slice r1 r2 r3, .string t.2] : List Value).toArray).toList) := hW5
      have hi2 : (Tryz.prog.info? 80).map (·.size) = some ([.slice r1 r2 r3, .string t.2] : List Value).length := sizeTe
      have tk1 := (q5.2 1 _ rfl).1
      have C5 := hCr.on B5
      have hG := rGet_calls a cap L t.2 W5 (labs_of C5.2.2.2.2.1)
      rw [hnL.out] at hG
      have HM : Hid (∀ u, Below W5.heap.size W5 u → BoxL u wr.heap.size [.slice r1 r2 r3, .string t.2] ∧ CkAt w cs p (f1, f2, f3) (some ⟨B, off, none⟩, x2, x3) (y1, y2, y3) a n cap L av Q.length cv Q u ∧ SlAt RReq 3 48 (fun _ => True) u r1 r2 r3 t.1 ∧ Below w3.heap.size w3 u) := fun u hb => ⟨q5.on hb, C5.on hb, (sR.on RReq.firm B5).on RReq.firm hb, on2 (on2 hst.out.1 B5) hb⟩
      have HLk : Hid (rLackT (pLabs p) L Q t = (!(getL L t.2).2 || (!thereT t L Q && (anyT t Q || !matchL (pLabs p) t.1)))) := rfl
      clear hst hr hv sR B5 q5 C5 hW5
      go_wp2_with (first | (refine wpList_store_mid rfl 80 _ _ rfl wr.heap.size 0 (([.slice r1 r2 r3, .string t.2] : List Value).toArray) rfl rfl HTh.out hi2 (by simp [Value.oneCell']) ?_; refine wpl_w8 HW5.out ?_) | fail)
      refine hG.mono ?_
      rintro e w6 ⟨rfl, rfl⟩
      clear hG HTh HW5 d10 t0c t1c tk1
      cases hg : (getL L t.2).2
      case false =>
        have ha : ans = 9 := HA.out (by rw [HLk.out, hg]; rfl)
        have HBw : Hid (Below w.heap.size w w6) := (HM.out w6 (Below.refl _ _)).2.1.2.2.2.2.2.2
        clear HA HN HM HLk HF
        subst ha
        go_wp2_with fail
        go_ret
        exact ⟨rfl, HBw.out⟩
      case true =>
        obtain ⟨hq6, hc6, hs6, hb6⟩ := HM.out w6 (Below.refl _ _)
        have HTh := there_calls t (r1, r2, r3) a n cap L av Q.length cv Q _ _ _ w6 hs6 hc6.2.2.2.2.1 hc6.2.2.2.2.2.1
        have HQ6 : Hid (BoxL w6 wr.heap.size [.slice r1 r2 r3, .string t.2]) := hq6
        clear hq6 hc6 hs6 hb6
        go_wp2_with (first | (refine wpList_load_mid rfl 80 _ rfl wr.heap.size 0 rfl [.slice r1 r2 r3, .string t.2] _ HQ6.out.range Tryz.underlying80 rfl hi2 ?_) | fail)
        refine HTh.mono ?_
        rintro e w7 ⟨rfl, hb7⟩
        clear HTh
        have HM7 : Hid (∀ u, Below w7.heap.size w7 u → BoxL u wr.heap.size [.slice r1 r2 r3, .string t.2] ∧ CkAt w cs p (f1, f2, f3) (some ⟨B, off, none⟩, x2, x3) (y1, y2, y3) a n cap L av Q.length cv Q u ∧ SlAt RReq 3 48 (fun _ => True) u r1 r2 r3 t.1 ∧ Below w3.heap.size w3 u) := fun u hb => HM.out u (on2 hb7 hb)
        clear HM hb7 HQ6
        cases ht : thereT t L Q
        case true =>
          have hlk : rLackT (pLabs p) L Q t = false := by rw [HLk.out, hg, ht]; rfl
          have hB9 := (HM7.out w7 (Below.refl _ _)).2.2.2
          clear HM7 HLk HA HF
          have HB9 : Hid (Below w3.heap.size w3 w7) := hB9
          go_wp2_with fail
          go_roundw
          case rel => exact ⟨k + 1, by omega, by go_num, HB9.out, HN.out hlk⟩
          case measure => simp [intOf]; omega
        case false =>
          obtain ⟨hq7, hc7, hs7, hb7⟩ := HM7.out w7 (Below.refl _ _)
          have HAn := any_calls t (r1, r2, r3) av Q.length cv Q _ _ w7 hs7 hc7.2.2.2.2.2.1
          have HQ7 : Hid (BoxL w7 wr.heap.size [.slice r1 r2 r3, .string t.2]) := hq7
          clear hq7 hc7 hs7 hb7
          go_wp2_with (first | (refine load_w9 (by rfl) 80 _ rfl wr.heap.size 0 rfl [.slice r1 r2 r3, .string t.2] _ HQ7.out.range Tryz.underlying80 rfl hi2 ?_) | fail)
          refine HAn.mono ?_
          rintro e w8 ⟨rfl, hb8⟩
          clear HAn HQ7
          obtain ⟨hq8, hc8, hs8, hB9⟩ := HM7.out w8 hb8
          have hBw := hc8.2.2.2.2.2.2
          cases hy : anyT t Q
          case true =>
            have hlk : rLackT (pLabs p) L Q t = true := by rw [HLk.out, hg, ht, hy]; rfl
            clear hq8 hc8 hs8 hb8 hB9
            have ha : ans = 9 := HA.out hlk
            have HBw : Hid (Below w.heap.size w w8) := hBw
            clear HA HN HM7 HLk HF
            subst ha
            go_wp2_with fail
            go_ret
            exact ⟨rfl, HBw.out⟩
          case false =>
            have g2 := (hc8.1.2 2 _ HE.out.1).1
            have g0 := (hq8.2 0 _ rfl).1
            have HMt := rMatch_sl f1 f2 f3 _ (pLabs p) r1 r2 r3 _ t.1 w8 hc8.2.1 hs8
            clear hq8 hc8 hs8 hB9 hBw
            go_wp2_with fail
            refine HMt.mono ?_
            rintro e w9 ⟨rfl, hb9⟩
            clear HMt g2 g0
            obtain ⟨_, hc9, _, hB9⟩ := HM7.out w9 (on2 hb8 hb9)
            have hBw := hc9.2.2.2.2.2.2
            clear hc9 hb8 hb9
            cases hm : matchL (pLabs p) t.1
            case true =>
              have hlk : rLackT (pLabs p) L Q t = false := by rw [HLk.out, hg, ht, hy, hm]; rfl
              clear HM7 HLk HA HF hBw
              have HB9 : Hid (Below w3.heap.size w3 w9) := hB9
              go_wp2_with fail
              go_roundw
              case rel => exact ⟨k + 1, by omega, by go_num, HB9.out, HN.out hlk⟩
              case measure => simp [intOf]; omega
            case false =>
              have hlk : rLackT (pLabs p) L Q t = true := by rw [HLk.out, hg, ht, hy, hm]; rfl
              clear hB9
              have ha : ans = 9 := HA.out hlk
              have HBw : Hid (Below w.heap.size w w9) := hBw
              clear HA HN HM7 HLk HF
              subst ha
              go_wp2_with fail
              go_ret
              exact ⟨rfl, HBw.out⟩
    · have hk' : (pNear p).take k = pNear p := List.take_of_length_le (by rw [hn10.out]; omega)
      have HN1 : Hid ((pNear p).any (rLackT (pLabs p) L Q) = false) := by have h1 := hst.out.2; rwa [hk'] at h1
      have HB4 : Hid (Below w3.heap.size w3 wr) := hst.out.1
      clear hst hk'
      obtain ⟨v4, rfl⟩ : ∃ v, v = wr := ⟨_, rfl⟩
      go_upto_region 12 with fail
      clear d10 hCr
      go_loopw [12] (fun i wr => ∃ k : Nat, k ≤ y2 ∧ i = .int .i64 k ∧ Hid (Below w3.heap.size w3 wr ∧ ((pApart p).take k).any (fun t => thereT t L Q) = false)) (fun i _ => y2 - (intOf i).toNat)
      case atStart => exact ⟨0, Nat.zero_le _, rfl, HB4.out, rfl⟩
      case round =>
        obtain ⟨k2, hk2, rfl, hst⟩ := hrel
        have hCr := HC.out.on hst.out.1
        have d11 := (hCr.1.2 11 _ HE.out.2.2).1
        by_cases hlt2 : k2 < y2
        · have hltz : (k2 : Int) < (y2 : Int) := by omega
          have hkl : k2 < (pApart p).length := by rw [hn11.out]; exact hlt2
          obtain ⟨B, off, rfl, hB, _, ts, hr, hv⟩ := hCr.2.2.2.1.get hlt2
          obtain ⟨⟨r1, r2, r3⟩, rfl, sR, zR⟩ := hr.out
          simp only at sR
          have t0c := hv 0 _ rfl
          have t1c := hv 1 _ rfl
          rw [Nat.add_zero] at t0c
          have HA : Hid (thereT ((pApart p).getD k2 default) L Q = true → ans = 10) := fun h => by rw [HF.out]; unfold whyR8; rw [if_neg (by rw [HN1.out]; decide), if_pos (any_at (f := fun t => thereT t L Q) hkl h)]
          have HN : Hid (thereT ((pApart p).getD k2 default) L Q = false → ((pApart p).take (k2 + 1)).any (fun t => thereT t L Q) = false) := fun h => any_take hkl hst.out.2 h
          generalize (pApart p).getD k2 default = t at *
          have HTh := there_calls t (r1, r2, r3) a n cap L av Q.length cv Q _ _ _ wr sR hCr.2.2.2.2.1 hCr.2.2.2.2.2.1
          have HBs : Hid (Below w3.heap.size w3 wr ∧ Below w.heap.size w wr) := ⟨hst.out.1, hCr.2.2.2.2.2.2⟩
          clear hst hr hv sR hCr
          go_wp2_with fail
          refine HTh.mono ?_
          rintro e w7 ⟨rfl, hb7⟩
          clear HTh d11 t0c t1c
          have HB9 : Hid (Below w3.heap.size w3 w7) := on2 HBs.out.1 hb7
          have HBw : Hid (Below w.heap.size w w7) := on2 HBs.out.2 hb7
          clear HBs hb7
          cases ht : thereT t L Q
          case true =>
            have ha : ans = 10 := HA.out ht
            clear HA HN HF
            subst ha
            go_wp2_with fail
            go_ret
            exact ⟨rfl, HBw.out⟩
          case false =>
            go_wp2_with fail
            go_roundw
            case rel => exact ⟨k2 + 1, by omega, by go_num, HB9.out, HN.out ht⟩
            case measure => simp [intOf]; omega
        · have hk' : (pApart p).take k2 = pApart p := List.take_of_length_le (by rw [hn11.out]; omega)
          have HN2 : Hid ((pApart p).any (fun t => thereT t L Q) = false) := by have h1 := hst.out.2; rwa [hk'] at h1
          have HB5 : Hid (Below w3.heap.size w3 wr) := hst.out.1
          clear hst hk'
          obtain ⟨v5, rfl⟩ : ∃ v, v = wr := ⟨_, rfl⟩
          go_upto_region 17 with fail
          clear d11 hCr
          have HF3 : Hid (ans = if Q.any (rOthX (pLabs p) L) = true then 11 else 0) := by rw [Hid, HF.out]; unfold whyR8; rw [if_neg (by rw [HN1.out]; decide), if_neg (by rw [HN2.out]; decide)]
          clear HF HN1 HN2 HB4
          go_loopw [13] (fun i wr => ∃ k : Nat, k ≤ Q.length ∧ i = .int .i64 k ∧ Hid (Below w3.heap.size w3 wr ∧ (Q.take k).any (rOthX (pLabs p) L) = false)) (fun i _ => Q.length - (intOf i).toNat)
          case atStart => exact ⟨0, Nat.zero_le _, rfl, HB5.out, rfl⟩
          case round =>
            obtain ⟨k3, hk3, rfl, hst⟩ := hrel
            by_cases hlt3 : k3 < Q.length
            · have hltz : (k3 : Int) < (Q.length : Int) := by omega
              have hCr := HC.out.on hst.out.1
              obtain ⟨B, off, rfl, hB, _, xs, hr, hv⟩ := hCr.2.2.2.2.2.1.get hlt3
              have HA0 : Hid (rOthX (pLabs p) L (Q.getD k3 default) = true → ans = 11) := fun h => by rw [HF3.out, if_pos (any_at hlt3 h)]
              have HN0 : Hid (rOthX (pLabs p) L (Q.getD k3 default) = false → (Q.take (k3 + 1)).any (rOthX (pLabs p) L) = false) := fun h => any_take hlt3 hst.out.2 h
              generalize Q.getD k3 default = x at *
              obtain ⟨_, ⟨z1, z2, z3⟩, ⟨g1, g2, g3⟩, _, _, ez, eg, _, sz, sg⟩ := hr.reads
              simp only at ez eg sz sg
              have HV : Hid (wr.rangeAt B (off + k3 * 17) xs) := hv
              have hi17 : (Tryz.prog.info? 41).map (·.size) = some xs.length := by rw [RPlaced.firm.len hr]; exact sizePl
              have HO : Hid (xs.toArray.all (·.oneCell') = true) := all_oneCell_toArray (RPlaced.firm.one hr)
              obtain ⟨W5, hW5⟩ : ∃ W, W = (wr.alloc (.cells #[.string ⟨#[]⟩, .int .i64 0, .slice none 0 0, .int .i64 0, .int .i64 0, .int .i64 0, .slice none 0 0, .slice none 0 0, .slice none 0 0, .slice none 0 0, .slice none 0 0, .slice none 0 0, .slice none 0 0, .slice none 0 0, .string ⟨#[]⟩, .string ⟨#[]⟩, .slice none 0 0] 41)).setCells wr.heap.size 0 xs := ⟨_, rfl⟩
              have HTh : Hid ((wr.alloc (.cells #[.string ⟨#[]⟩, .int .i64 0, .slice none 0 0, .int .i64 0, .int .i64 0, .int .i64 0, .slice none 0 0, .slice none 0 0, .slice none 0 0, .slice none 0 0, .slice none 0 0, .slice none 0 0, .slice none 0 0, .slice none 0 0, .string ⟨#[]⟩, .string ⟨#[]⟩, .slice none 0 0] 41)).there wr.heap.size 0 xs.toArray.size) := by have h1 := (BoxL.new wr 41 [.string ⟨#[]⟩, .int .i64 0, .slice none 0 0, .int .i64 0, .int .i64 0, .int .i64 0, .slice none 0 0, .slice none 0 0, .slice none 0 0, .slice none 0 0, .slice none 0 0, .slice none 0 0, .slice none 0 0, .slice none 0 0, .string ⟨#[]⟩, .string ⟨#[]⟩, .slice none 0 0]).there; have h2 : xs.toArray.size = 17 := (by rw [List.size_toArray]; exact RPlaced.firm.len hr); rw [Hid, h2]; exact h1
              have B5 : Below wr.heap.size wr W5 := by rw [hW5]; exact below_setCells ((Below.refl _ _).alloc (Nat.le_refl _) _) (Nat.le_refl _)
              have q5 : BoxL W5 wr.heap.size xs := by rw [hW5]; exact box_over8 (zs := [.string ⟨#[]⟩, .int .i64 0, .slice none 0 0, .int .i64 0, .int .i64 0, .int .i64 0, .slice none 0 0, .slice none 0 0, .slice none 0 0, .slice none 0 0, .slice none 0 0, .slice none 0 0, .slice none 0 0, .slice none 0 0, .string ⟨#[]⟩, .string ⟨#[]⟩, .slice none 0 0]) (BoxL.new wr 41 _) (by rw [RPlaced.firm.len hr]; rfl)
              have HW5 : Hid (W5 = (wr.alloc (.cells #[.string ⟨#[]⟩, .int .i64 0, .slice none 0 0, .int .i64 0, .int .i64 0, .int .i64 0, .slice none 0 0, .slice none 0 0, .slice none 0 0, .slice none 0 0, .slice none 0 0, .slice none 0 0, .slice none 0 0, .slice none 0 0, .string ⟨#[]⟩, .string ⟨#[]⟩, .slice none 0 0] 41)).setCells wr.heap.size 0 xs.toArray.toList) := by rw [Hid, hW5]
              have HM : Hid (∀ u, Below W5.heap.size W5 u → BoxL u wr.heap.size xs ∧ CkAt w cs p (f1, f2, f3) (x1, x2, x3) (y1, y2, y3) a n cap L (some ⟨B, off, none⟩) Q.length cv Q u ∧ SlAt RTerm 2 40 (fun _ => True) u z1 z2 z3 (pApart x.1) ∧ SlAt RLabel 2 32 (fun _ => True) u g1 g2 g3 x.2 ∧ Below w3.heap.size w3 u) := fun u hb => ⟨q5.on hb, (hCr.on B5).on hb, (sz.on RTerm.firm B5).on RTerm.firm hb, (sg.on RLabel.firm B5).on RLabel.firm hb, on2 (on2 hst.out.1 B5) hb⟩
              have HE3 : Hid (xs[11]? = some (.slice z1 z2 z3) ∧ xs[16]? = some (.slice g1 g2 g3)) := ⟨ez, eg⟩
              have hlz := sz.len (by decide)
              have hnz : Hid ((pApart x.1).length = z2) := sz.1
              have hng : Hid (x.2.length = g2) := sg.1
              have HX0 : Hid (rOthX (pLabs p) L x = (pApart x.1).any (fun t : TermD => matchL (pLabs p) t.1 && sameL x.2 L t.2)) := rfl
              clear hst hr hv hCr q5 B5 hW5 sz sg ez eg HF3
              obtain ⟨v6, rfl⟩ : ∃ v, v = wr := ⟨_, rfl⟩
              go_upto_region 21 with (first | (refine wpList_load_mid rfl 41 _ rfl B (off + k3 * 17) rfl xs _ HV.out Tryz.underlying41 rfl hi17 ?_) | (refine wpList_store_mid rfl 41 _ _ rfl v6.heap.size 0 xs.toArray rfl rfl HTh.out (by simpa using hi17) HO.out ?_; refine wpl_w8 HW5.out ?_) | fail)
              clear HV HTh HO HW5
              go_loopw [15] (fun i wr => ∃ k : Nat, k ≤ z2 ∧ i = .int .i64 k ∧ Hid (Below W5.heap.size W5 wr ∧ ((pApart x.1).take k).any (fun t : TermD => matchL (pLabs p) t.1 && sameL x.2 L t.2) = false)) (fun i _ => z2 - (intOf i).toNat)
              case atStart => exact ⟨0, Nat.zero_le _, rfl, Below.refl _ _, rfl⟩
              case round =>
                obtain ⟨k4, hk4, rfl, hst⟩ := hrel
                obtain ⟨m1, m2, m3, m4, m5⟩ := HM.out wr hst.out.1
                have dz := (m1.2 11 _ HE3.out.1).1
                by_cases hlt4 : k4 < z2
                · have hltz4 : (k4 : Int) < (z2 : Int) := by omega
                  have hkl : k4 < (pApart x.1).length := by rw [hnz.out]; exact hlt4
                  obtain ⟨B2, off2, rfl, hB2, _, ts, hr, hv⟩ := m3.get hlt4
                  obtain ⟨⟨r1, r2, r3⟩, rfl, sR, zR⟩ := hr.out
                  simp only at sR
                  have HA : Hid ((fun t : TermD => matchL (pLabs p) t.1 && sameL x.2 L t.2) ((pApart x.1).getD k4 default) = true → ans = 11) := fun h => HA0.out (by rw [HX0.out]; exact any_at (f := (fun t : TermD => matchL (pLabs p) t.1 && sameL x.2 L t.2)) hkl h)
                  have HN : Hid ((fun t : TermD => matchL (pLabs p) t.1 && sameL x.2 L t.2) ((pApart x.1).getD k4 default) = false → ((pApart x.1).take (k4 + 1)).any (fun t : TermD => matchL (pLabs p) t.1 && sameL x.2 L t.2) = false) := fun h => any_take hkl hst.out.2 h
                  have t0c := hv 0 _ rfl
                  have t1c := hv 1 _ rfl
                  rw [Nat.add_zero] at t0c
                  generalize (pApart x.1).getD k4 default = t at *
                  have HS : Hid (∀ u, Below wr.heap.size wr u → (CkS w.heap.size v6.heap.size (f1, f2, f3) (some ⟨B2, off2, none⟩, z2, z3) (g1, g2, g3) B2 (off2 + k4 * 2) (r1, r2, r3) t.2) u) := fun u hb => ⟨((m2.1.on hb).2 2 _ HE.out.1).1, ((m1.on hb).2 11 _ HE3.out.1).1, ((m1.on hb).2 16 _ HE3.out.2).1, (hb.cell (p := ⟨B2, off2 + k4 * 2, none⟩) hB2).trans t0c, (hb.cell (p := ⟨B2, off2 + k4 * 2 + 1, none⟩) hB2).trans t1c⟩
                  have HMt := rMatch_sl f1 f2 f3 _ (pLabs p) r1 r2 r3 _ t.1 wr.drew (m2.2.1.on RLabel.firm (Below.refl _ _).drew) (sR.on RReq.firm (Below.refl _ _).drew)
                  have HSm : Hid (∀ u, Below wr.heap.size wr u → Calls Tryz.prog 33 #[.slice g1 g2 g3, .slice a n cap, .string t.2] u fun e w' => e = .returned (.bool (sameL x.2 L t.2)) ∧ w' = u) := fun u hb => by
                    have h1 := rSame_calls g1 g3 x.2 a cap L t.2 u (labs_of (m4.on RLabel.firm hb)) (labs_of (m2.2.2.2.2.1.on RLabel.firm hb))
                    rwa [hng.out, hnL.out] at h1
                  have HB : Hid (Below W5.heap.size W5 wr) := hst.out.1
                  clear hst hr hv t0c t1c sR m1 m2 m3 m4 m5
                  replace HA : Hid ((matchL (pLabs p) t.1 && sameL x.2 L t.2) = true → ans = 11) := HA
                  replace HN : Hid ((matchL (pLabs p) t.1 && sameL x.2 L t.2) = false → ((pApart x.1).take (k4 + 1)).any (fun t : TermD => matchL (pLabs p) t.1 && sameL x.2 L t.2) = false) := HN
                  generalize matchL (pLabs p) t.1 = b1 at HMt HA HN
                  generalize sameL x.2 L t.2 = b2 at HSm HA HN
                  go_upto_region 23 with fail
                  clear dz
                  refine t0 (CkS w.heap.size v6.heap.size (f1, f2, f3) (some ⟨B2, off2, none⟩, z2, z3) (g1, g2, g3) B2 (off2 + k4 * 2) (r1, r2, r3) t.2) (HS.out _ (Below.refl _ _).drew) (fun hHeld => ?_)
                  refine' tk 0 ?_ ?_; rotate_left
                  · intro u ⟨_, _, _, _, _⟩; go_simp; try with_reducible rfl
                  try go_frame
                  refine' tk 1 ?_ ?_; rotate_left
                  · intro u ⟨_, _, _, _, _⟩; go_simp; try with_reducible rfl
                  try go_frame
                  refine' tk 2 ?_ ?_; rotate_left
                  · intro u ⟨_, _, _, _, _⟩; go_simp; try with_reducible rfl
                  try go_frame
                  refine' tk 3 ?_ ?_; rotate_left
                  · intro u ⟨_, _, _, _, _⟩; go_simp; try with_reducible rfl
                  try go_frame
                  refine' tk 4 ?_ ?_; rotate_left
                  · intro u ⟨_, _, _, _, _⟩; go_simp; try with_reducible rfl
                  try go_frame
                  refine' tk 5 ?_ ?_; rotate_left
                  · intro u ⟨_, _, _, _, _⟩; go_simp; try with_reducible rfl
                  try go_frame
                  refine' tk 6 ?_ ?_; rotate_left
                  · intro u ⟨_, _, _, _, _⟩; go_simp; try with_reducible rfl
                  try go_frame
                  refine' tk 7 ?_ ?_; rotate_left
                  · intro u ⟨_, _, _, _, _⟩; go_simp; try with_reducible rfl
                  try go_frame
                  refine' tk 8 ?_ ?_; rotate_left
                  · intro u ⟨_, _, _, _, _⟩; go_simp; try with_reducible rfl
                  try go_frame
                  refine tr 9 (fun K hK => ?_)
                  go_simp
                  refine HMt.mono ?_
                  rintro e u1 ⟨rfl, hb1⟩
                  have hb1' : Below wr.heap.size wr u1 := (Below.refl _ _).drew.trans hb1
                  go_wp2_with fail
                  refine hK.out _ _ (HS.out _ hb1') (fun hHeld2 => ?_)
                  clear hK K hHeld; have hHeld := hHeld2; clear hHeld2
                  try go_frame
                  have HB1 : Hid (Below W5.heap.size W5 u1) := on2 HB.out hb1'
                  have HS1 := HSm.out u1 hb1'
                  have HT1 : Hid ((CkS w.heap.size v6.heap.size (f1, f2, f3) (some ⟨B2, off2, none⟩, z2, z3) (g1, g2, g3) B2 (off2 + k4 * 2) (r1, r2, r3) t.2) u1) := HS.out u1 hb1'
                  clear HMt HSm HS hb1 hb1'
                  cases b1
                  case true =>
                    refine' tk 10 ?_ ?_; rotate_left
                    · intro u ⟨_, _, _, _, _⟩; go_simp; try with_reducible rfl
                    try go_frame
                    refine' tk 11 ?_ ?_; rotate_left
                    · intro u ⟨_, _, _, _, _⟩; go_simp; try with_reducible rfl
                    try go_frame
                    refine' tk 12 ?_ ?_; rotate_left
                    · intro u ⟨_, _, _, _, _⟩; go_simp; try with_reducible rfl
                    try go_frame
                    refine' tk 13 ?_ ?_; rotate_left
                    · intro u ⟨_, _, _, _, _⟩; go_simp; try with_reducible rfl
                    try go_frame
                    refine' tk 14 ?_ ?_; rotate_left
                    · intro u ⟨_, _, _, _, _⟩; go_simp; try with_reducible rfl
                    try go_frame
                    refine' tk 15 ?_ ?_; rotate_left
                    · intro u ⟨_, _, _, _, _⟩; go_simp; try with_reducible rfl
                    try go_frame
                    refine' tk 16 ?_ ?_; rotate_left
                    · intro u ⟨_, _, _, _, _⟩; go_simp; try with_reducible rfl
                    try go_frame
                    refine' tk 17 ?_ ?_; rotate_left
                    · intro u ⟨_, _, _, _, _⟩; go_simp; try with_reducible rfl
                    try go_frame
                    refine' tk 18 ?_ ?_; rotate_left
                    · intro u ⟨_, _, _, _, _⟩; go_simp; try with_reducible rfl
                    try go_frame
                    refine' tk 19 ?_ ?_; rotate_left
                    · intro u ⟨_, _, _, _, _⟩; go_simp; try with_reducible rfl
                    try go_frame
                    refine' tk 20 ?_ ?_; rotate_left
                    · intro u ⟨_, _, _, _, _⟩; go_simp; try with_reducible rfl
                    try go_frame
                    refine tr 21 (fun K hK => ?_)
                    go_simp
                    refine HS1.mono ?_
                    rintro e u2 ⟨rfl, rfl⟩
                    go_wp2_with fail
                    refine hK.out _ _ HT1.out (fun hHeld2 => ?_)
                    clear hK K hHeld; have hHeld := hHeld2; clear hHeld2
                    try go_frame
                    refine' tk 22 ?_ ?_; rotate_left
                    · intro u ⟨_, _, _, _, _⟩; go_simp; try with_reducible rfl
                    try go_frame
                    refine tz ?_
                    clear HT1 HS1 hHeld
                    cases b2
                    case true =>
                      have ha : ans = 11 := HA.out (by trivial)
                      have HBw : Hid (Below w.heap.size w u2) := (HM.out u2 HB1.out).2.1.2.2.2.2.2.2
                      clear HA HN HA0 HN0 HM
                      subst ha
                      go_wp2_with fail
                      go_ret
                      exact ⟨rfl, HBw.out⟩
                    case false =>
                      go_wp2_with fail
                      go_roundw
                      case rel => exact ⟨k4 + 1, by omega, by go_num, HB1.out, HN.out (by trivial)⟩
                      case measure => simp [intOf]; omega
                  case false =>
                    refine' tk 10 ?_ ?_; rotate_left
                    · intro u ⟨_, _, _, _, _⟩; go_simp; try with_reducible rfl
                    try go_frame
                    refine tn 11 ?_
                    try go_frame
                    refine tn 12 ?_
                    try go_frame
                    refine tn 13 ?_
                    try go_frame
                    refine tn 14 ?_
                    try go_frame
                    refine tn 15 ?_
                    try go_frame
                    refine tn 16 ?_
                    try go_frame
                    refine tn 17 ?_
                    try go_frame
                    refine tn 18 ?_
                    try go_frame
                    refine tn 19 ?_
                    try go_frame
                    refine tn 20 ?_
                    try go_frame
                    refine tn 21 ?_
                    try go_frame
                    refine' tk 22 ?_ ?_; rotate_left
                    · intro u ⟨_, _, _, _, _⟩; go_simp; try with_reducible rfl
                    try go_frame
                    refine tz ?_
                    clear HT1 HS1 hHeld
                    go_wp2_with fail
                    go_roundw
                    case rel => exact ⟨k4 + 1, by omega, by go_num, HB1.out, HN.out (by trivial)⟩
                    case measure => simp [intOf]; omega
                · have hk' : (pApart x.1).take k4 = pApart x.1 := List.take_of_length_le (by rw [hnz.out]; omega)
                  have hno : rOthX (pLabs p) L x = false := by rw [HX0.out]; have h1 := hst.out.2; rwa [hk'] at h1
                  have HB9 : Hid (Below w3.heap.size w3 wr) := m5
                  have HN9 := HN0.out hno
                  clear hst m1 m2 m3 m4 m5 HA0 HN0 HM
                  go_wp2_with fail
                  go_roundw
                  case rel => exact ⟨k3 + 1, by omega, by go_num, HB9.out, HN9⟩
                  case measure => simp [intOf]; omega
            · have hk' : Q.take k3 = Q := List.take_of_length_le (by omega)
              have ha : ans = 0 := by have h1 := hst.out.2; rw [hk'] at h1; rw [HF3.out, if_neg (by rw [h1]; decide)]
              have HBw : Hid (Below w.heap.size w wr) := (HC.out.on hst.out.1).2.2.2.2.2.2
              clear HF3 hst
              subst ha
              go_wp2_with fail
              go_ret
              exact ⟨rfl, HBw.out⟩
end Go.Proofs.YtfnafgmengefaaaGreatDoor
