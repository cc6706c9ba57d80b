/- The program's spread: Skew and Check. Condition: the arguments lie as is said of them. The law's zone of layer 9; two things one behind the other. Condition: the text is no longer than Go lets it. -/
import Derived.Test.YtillkgflppabfaaDoorQ11
import Derived.Test.YtillkgflppabfaaDoorQ12
namespace Go.Proofs.YtillkgflppabfaaDoor
open Go.RowKit Go.Maps
set_option linter.unusedSimpArgs false
set_option maxRecDepth 100000

theorem hi_le9 (c : ByteArray → Nat) (M : Nat) (hM : ∀ d, c d ≤ M) (D : List ByteArray) : hiP c D ≤ M := by
  by_cases h : D = []
  · subst h; exact Nat.zero_le _
  · obtain ⟨_, d, _, e⟩ := hi_spec c h
    rw [e]; exact hM d
theorem cen_left {w : World} {s : SpreadD} {r1 : Option Addr} {r2 r3 m1 m2 : Nat} {N : List NodeD} {Q Q' : List PlacedD} (h : CenAt w s r1 r2 r3 m1 m2 N Q) (e : Q = Q') : CenAt w s r1 r2 r3 m1 m2 N Q' := e ▸ h
set_option maxHeartbeats 8000000 in
theorem pSkew_calls (cs : List Value) (A A' A'' : Where) (s : SpreadD) (a : Option Addr) (n cap : Nat) (N : List NodeD) (b : Option Addr) (m capb : Nat) (Pl : List PlacedD) (w : World) (hs : Hid (RSpread A w cs s)) (hN : Hid (SlAt RNode 9 112 A'' w a n cap N)) {bp : Nat} (hP : Hid (SlAt RPlaced 17 bp A' w b m capb Pl)) (hbp : 0 < bp := by decide) :
    Calls Tryd.prog 9 #[.agg cs.toArray, .slice a n cap, .slice b m capb] w fun e w' => e = .returned (.int .i64 (skewP s N Pl)) ∧ Below w.heap.size w w' := by
  obtain ⟨⟨r1, r2, r3⟩, rfl, _, sr⟩ := hs.out.out
  simp only at sr
  obtain ⟨W1, hW1⟩ : ∃ W, W = w.alloc (.cells #[.string s.1, .int .i64 s.2.1, .int .i64 s.2.2.1, .slice r1 r2 r3] 35) := ⟨_, rfl⟩
  have B1 : Below w.heap.size w W1 := by rw [hW1]; go_grown
  have qx : BoxL W1 w.heap.size [.string s.1, .int .i64 s.2.1, .int .i64 s.2.2.1, .slice r1 r2 r3] := by rw [hW1]; exact BoxL.new w 35 _
  have c0 := (qx.2 0 _ rfl).1
  have c1 := (qx.2 1 _ rfl).1
  have c2 := (qx.2 2 _ rfl).1
  have c3 := (qx.2 3 _ rfl).1
  have hC := censusOf_calls s r1 r2 r3 a n cap N b m capb bp Pl hbp 11 #[] (fun _ => false) (enters_of Tryd.func11 (by kernel_rfl) rfl) W1 ((sr.weak RReq.firm (fun _ _ _ => trivial)).on RReq.firm B1) ((hN.out.weak RNode.firm (fun _ _ _ => trivial)).on RNode.firm B1) ((hP.out.weak RPlaced.firm (fun _ _ _ => trivial)).on RPlaced.firm B1) (nobody_calls W1)
  rw [left_none] at hC
  have HB : Hid (Below w.heap.size w W1) := B1
  have HCle : Hid (∀ v, cntP s v Pl ≤ 140737488351232) := fun v => by have h1 := cnt_le s v Pl; have h2 := hP.out.1; have h3 := hP.out.2.2.2.1; have h4 := Nat.le_mul_of_pos_right m hbp; omega
  have HK : Hid (skewP s N Pl = (hiP (fun v => cntP s v Pl) (domsP s.1 N) : Int) - (loP (fun v => cntP s v Pl) (domsP s.1 N) : Int)) := rfl
  clear hs hN hP sr qx B1
  generalize skewP s N Pl = ans at HK
  go_enter Tryd.func9, Tryd.ntmps9
  go_upto_region 1 with fail
  rw [← hW1]
  clear hW1
  go_wp2_with fail
  refine hC.mono ?_
  rintro e w2 ⟨m1, m2, rfl, hcen, hb2⟩
  have hCt := counts_calls s r1 r2 r3 m1 m2 N Pl w2 hcen
  have hbl : (cntsL s N Pl).length * 8 ≤ 140737488351232 := by have := hcen.l; unfold cntsL; rw [List.length_map]; omega
  have HB2 : Hid (Below w.heap.size w w2) := on2 HB.out hb2
  clear hC HB hb2 hcen c0 c1 c2 c3
  go_wp2_with fail
  refine hCt.mono ?_
  rintro e w3 ⟨v, rfl, hr⟩
  obtain ⟨a3, cap3, rfl, sv⟩ := hr.slT (bytes := 8) RInt.firm hbl
  have HB3 : Hid (Below w.heap.size w w3) := on2 HB2.out hr.below
  have HMx : Hid (0 < (cntsL s N Pl).length → Calls Tryd.prog 17 #[.slice a3 (cntsL s N Pl).length cap3] w3 fun e w' => e = .returned (.int .i64 (Lib.maxOf (cntsL s N Pl))) ∧ w' = w3) := fun hp => Max_sl sv hp
  have HMn : Hid (0 < (cntsL s N Pl).length → Calls Tryd.prog 18 #[.slice a3 (cntsL s N Pl).length cap3] w3 fun e w' => e = .returned (.int .i64 (Lib.minOf (cntsL s N Pl))) ∧ w' = w3) := fun hp => Min_sl sv hp
  have hlen : (cntsL s N Pl).length ≤ 9223372036854775807 := by omega
  have H0 : Hid ((cntsL s N Pl).length = 0 → ans = 0) := fun hz => by
    unfold cntsL at hz
    rw [List.length_map] at hz
    rw [HK.out, List.length_eq_zero_iff.1 hz]
    rfl
  have HP : Hid (0 < (cntsL s N Pl).length → ans = Lib.maxOf (cntsL s N Pl) - Lib.minOf (cntsL s N Pl) ∧ 0 ≤ Lib.maxOf (cntsL s N Pl) ∧ Lib.maxOf (cntsL s N Pl) ≤ 140737488351232 ∧ 0 ≤ Lib.minOf (cntsL s N Pl) ∧ Lib.minOf (cntsL s N Pl) ≤ 140737488351232) := fun hp => by
    unfold cntsL at hp ⊢
    rw [List.length_map] at hp
    rw [maxOf9 (fun v => cntP s v Pl) hp, minOf9 (fun v => cntP s v Pl) hp]
    have h1 := hi_le9 (fun v => cntP s v Pl) 140737488351232 HCle.out (domsP s.1 N)
    have h2 := lo_le9 (fun v => cntP s v Pl) 140737488351232 HCle.out (domsP s.1 N)
    exact ⟨HK.out, by omega, by omega, by omega, by omega⟩
  clear hCt hr sv hbl HB2 HCle HK
  generalize Lib.maxOf (cntsL s N Pl) = mx at HMx HP
  generalize Lib.minOf (cntsL s N Pl) = mn at HMn HP
  generalize (cntsL s N Pl).length = l at *
  by_cases hz : l = 0
  · subst hz
    have hans := H0.out rfl
    clear H0 HP HMx HMn
    subst hans
    go_wp2_with fail
    go_ret
    exact ⟨rfl, HB3.out⟩
  · have hzb : ((l : Int) == 0) = false := by simp [hz]
    obtain ⟨hans, hp1, hp2, hp3, hp4⟩ := HP.out (by omega)
    have hx := HMx.out (by omega)
    have hn := HMn.out (by omega)
    have HA : Hid (ans = mx - mn) := hans
    clear H0 HP HMx HMn hans
    go_wp2_with fail
    refine hx.mono ?_
    rintro e w4 ⟨rfl, rfl⟩
    go_wp2_with fail
    refine hn.mono ?_
    rintro e w5 ⟨rfl, rfl⟩
    go_wp2_with fail
    go_ret
    exact ⟨by rw [HA.out]; rfl, HB3.out⟩
def PcS (D P : Nat) (s : SpreadD) (r1 : Option Addr) (r2 r3 : Nat) (cs : List Value) (u : World) : Prop :=
  (u.cell? ⟨D, 0, none⟩ = some (.string s.1) ∧ u.cell? ⟨D, 1, none⟩ = some (.int .i64 s.2.1) ∧ u.cell? ⟨D, 2, none⟩ = some (.int .i64 s.2.2.1) ∧ u.cell? ⟨D, 3, none⟩ = some (.slice r1 r2 r3)) ∧ Hid (u.rangeAt P 0 cs)
theorem PcS.of {D P : Nat} {s : SpreadD} {r1 : Option Addr} {r2 r3 : Nat} {cs : List Value} {u : World} (h : BoxL u D [.string s.1, .int .i64 s.2.1, .int .i64 s.2.2.1, .slice r1 r2 r3]) (k : BoxL u P cs) : PcS D P s r1 r2 r3 cs u :=
  ⟨⟨(h.2 0 _ rfl).1, (h.2 1 _ rfl).1, (h.2 2 _ rfl).1, (h.2 3 _ rfl).1⟩, k.range⟩
set_option maxHeartbeats 16000000 in
theorem pChk_calls (cs : List Value) (p : PodD) (la : Option Addr) (ln lc : Nat) (Lb : List Lab) (a : Option Addr) (n cap : Nat) (N : List NodeD) (b : Option Addr) (m capb : Nat) (Pl : List PlacedD) (w : World) (hp : Hid (RPod (fun _ => True) w cs p)) (hL : Hid (SlAt RLabel 2 32 (fun _ => True) w la ln lc Lb)) (hN : Hid (SlAt RNode 9 112 (fun _ => True) w a n cap N)) (hP : Hid (SlAt RPlaced 17 320 (fun _ => True) w b m capb Pl)) :
    Calls Tryd.prog 7 #[.agg cs.toArray, .slice la ln lc, .slice a n cap, .slice b m capb] w fun e w' => e = .returned (.int .i64 (spreadP 12 p Lb N Pl)) ∧ Below w.heap.size w w' := by
  have hi16 : (Tryd.prog.info? 33).map (·.size) = some cs.length := by rw [RPod.firm.len hp.out]; exact sizePo9
  obtain ⟨⟨h1, h2, h3⟩, e12, ssp⟩ : ∃ h : Hd, cs[12]? = some (.slice h.1 h.2.1 h.2.2) ∧ SlAt RSpread 4 56 (fun _ => True) w h.1 h.2.1 h.2.2 (pSpreads p) := by
    obtain ⟨h2, h12, _, _, e, _, s12⟩ := hp.out.reads9
    exact ⟨h12, e, s12⟩
  simp only at e12 ssp
  obtain ⟨W1, hW1⟩ : ∃ W, W = w.alloc (.cells cs.toArray 33) := ⟨_, rfl⟩
  have B1 : Below w.heap.size w W1 := by rw [hW1]; go_grown
  have qp : BoxL W1 w.heap.size cs := by rw [hW1]; exact BoxL.new w 33 _
  have c12 := (qp.2 12 _ e12).1
  have hq2 : Hid ((pSpreads p).length = h2) := ssp.1
  have hlen := ssp.len (by decide)
  have HU : Hid (∀ u, Below W1.heap.size W1 u → BoxL u w.heap.size cs ∧ RPod (fun _ => True) u cs p ∧ SlAt RSpread 4 56 (fun _ => True) u h1 h2 h3 (pSpreads p) ∧ SlAt RLabel 2 32 (fun _ => True) u la ln lc Lb ∧ SlAt RNode 9 112 (fun _ => True) u a n cap N ∧ SlAt RPlaced 17 320 (fun _ => True) u b m capb Pl ∧ Below w.heap.size w u) := fun u hb => ⟨qp.on hb, RPod.firm.kept hp.out (Kept.below (on2 B1 hb)), ssp.on RSpread.firm (on2 B1 hb), hL.out.on RLabel.firm (on2 B1 hb), hN.out.on RNode.firm (on2 B1 hb), hP.out.on RPlaced.firm (on2 B1 hb), on2 B1 hb⟩
  have HAns : Hid (spreadP 12 p Lb N Pl = if (pSpreads p).any (badS (pLabs p) Lb N (othersN p.1 Pl)) = true then 12 else 0) := rfl
  clear hp hL hN hP ssp qp B1 e12
  generalize spreadP 12 p Lb N Pl = ans at HAns
  go_enter Tryd.func7, Tryd.ntmps7
  go_upto_region 1 with fail
  rw [← hW1]
  clear hW1
  go_wp2_with fail
  go_loopw [16] (fun i wr => ∃ k : Nat, k ≤ h2 ∧ i = .int .i64 k ∧ Hid (((pSpreads p).take k).any (badS (pLabs p) Lb N (othersN p.1 Pl)) = false ∧ Below W1.heap.size W1 wr)) (fun i _ => h2 - (intOf i).toNat)
  case atStart => exact ⟨0, Nat.zero_le _, rfl, rfl, Below.refl _ _⟩
  case round =>
    obtain ⟨k, hk, rfl, hst⟩ := hrel
    by_cases hlt : k < h2
    · have hltz : (k : Int) < (h2 : Int) := by omega
      have hkl : k < (pSpreads p).length := by rw [hq2.out]; exact hlt
      obtain ⟨q0, q1, q2, q3, q4, q5, q6⟩ := HU.out wr hst.out.2
      obtain ⟨B, off, rfl, hB, _, xs, hr, hv⟩ := q2.get hlt
      have HNo : Hid (badS (pLabs p) Lb N (othersN p.1 Pl) ((pSpreads p).getD k default) = false → ((pSpreads p).take (k + 1)).any (badS (pLabs p) Lb N (othersN p.1 Pl)) = false) := fun h => any_take9 _ hkl hst.out.1 h
      have HYes : Hid (badS (pLabs p) Lb N (othersN p.1 Pl) ((pSpreads p).getD k default) = true → (pSpreads p).any (badS (pLabs p) Lb N (othersN p.1 Pl)) = true) := fun h => any_at9 _ hkl h
      generalize (pSpreads p).getD k default = s at hr HNo HYes
      obtain ⟨⟨r1, r2, r3⟩, rfl, _, sr⟩ := hr.out
      simp only at sr
      have d0 := hv 0 _ rfl
      have d1 := hv 1 _ rfl
      have d2 := hv 2 _ rfl
      have d3 := hv 3 _ rfl
      rw [Nat.add_zero] at d0
      obtain ⟨V0, hV0⟩ : ∃ V, V = wr.alloc (.cells #[.string ⟨#[]⟩, .int .i64 0, .int .i64 0, .slice none 0 0] 35) := ⟨_, rfl⟩
      have qv0 : BoxL V0 wr.heap.size [.string ⟨#[]⟩, .int .i64 0, .int .i64 0, .slice none 0 0] := by rw [hV0]; exact BoxL.new wr 35 _
      obtain ⟨V, hV⟩ : ∃ V, V = V0.setCells wr.heap.size 0 [.string s.1, .int .i64 s.2.1, .int .i64 s.2.2.1, .slice r1 r2 r3] := ⟨_, rfl⟩
      have bV : Below wr.heap.size wr V := by rw [hV, hV0]; exact below_setCells ((Below.refl _ _).alloc (Nat.le_refl _) _) (Nat.le_refl _)
      have qV : BoxL V wr.heap.size [.string s.1, .int .i64 s.2.1, .int .i64 s.2.2.1, .slice r1 r2 r3] := by rw [hV]; exact box_over8 qv0 rfl
      have HTh : Hid (V0.there wr.heap.size 0 (#[.string s.1, .int .i64 s.2.1, .int .i64 s.2.2.1, .slice r1 r2 r3] : Array Value).size) := qv0.there
      have HWV : Hid (V = V0.setCells wr.heap.size 0 (#[.string s.1, .int .i64 s.2.1, .int .i64 s.2.2.1, .slice r1 r2 r3] : Array Value).toList) := by rw [Hid, hV]
      have HV0 : Hid (V0 = wr.alloc (.cells #[.string ⟨#[]⟩, .int .i64 0, .int .i64 0, .slice none 0 0] 35)) := hV0
      have hsz4 : (Tryd.prog.info? 35).map (·.size) = some (#[.string s.1, .int .i64 s.2.1, .int .i64 s.2.2.1, .slice r1 r2 r3] : Array Value).size := sizeSp
      have HOc : Hid ((#[.string s.1, .int .i64 s.2.1, .int .i64 s.2.2.1, .slice r1 r2 r3] : Array Value).all (·.oneCell') = true) := by rw [Hid]; simp [Value.oneCell']
      have HS : Hid (∀ u, Below V.heap.size V u → PcS wr.heap.size w.heap.size s r1 r2 r3 cs u) := fun u hb => PcS.of (qV.on hb) ((q0.on bV).on hb)
      have hd : Below wr.heap.size wr V.drew := bV.drew
      have hO := own_calls w.heap.size cs p V.drew (q0.on hd) (RPod.firm.kept q1 (Kept.below hd))
      have hC := censusOf_calls s r1 r2 r3 a n cap N b m capb 320 Pl (by decide) 14 #[.pointer (some ⟨w.heap.size, 0, none⟩)] (fun x => sEq x.1 p.1) (enters_of Tryd.func14 (by kernel_rfl) rfl) V.drew (sr.on RReq.firm hd) (q4.on RNode.firm hd) (q5.on RPlaced.firm hd) hO
      rw [left_own] at hC
      have HAd : Hid (∀ u m1 m2, Below V.heap.size V u → CenAt u s r1 r2 r3 m1 m2 N (othersN p.1 Pl) → Calls Tryd.prog 15 #[.agg #[.string s.1, .int .i64 s.2.1, .int .i64 s.2.2.1, .slice r1 r2 r3, .map (some m1), .map (some m2)], .agg cs.toArray, .slice la ln lc] u fun e w' => e = .returned (.bool (!badS (pLabs p) Lb N (othersN p.1 Pl) s)) ∧ Below u.heap.size u w') := fun u m1 m2 hb hc => admits_calls s r1 r2 r3 m1 m2 N (othersN p.1 Pl) cs p la ln lc Lb u hc (RPod.firm.kept q1 (Kept.below (on2 bV hb))) (q3.on RLabel.firm (on2 bV hb))
      have HBV : Hid (Below W1.heap.size W1 V ∧ Below w.heap.size w V) := ⟨on2 hst.out.2 bV, on2 q6 bV⟩
      clear hst hr hv q0 q1 q2 q3 q4 q5 q6 sr qv0 qV bV hV hV0 hO hd
      generalize badS (pLabs p) Lb N (othersN p.1 Pl) s = bad at HNo HYes HAd
      go_upto_region 5 with (first | (refine wpl_w8 HV0.out ?_; refine wpList_store_mid rfl 35 _ _ rfl wr.heap.size 0 #[.string s.1, .int .i64 s.2.1, .int .i64 s.2.2.1, .slice r1 r2 r3] rfl rfl HTh.out hsz4 HOc.out ?_; refine wpl_w8 HWV.out ?_) | fail)
      clear HTh HWV HV0 HOc hsz4 d0 d1 d2 d3
      refine t0 (PcS wr.heap.size w.heap.size s r1 r2 r3 cs) (HS.out _ (Below.refl _ _).drew) (fun hHeld => ?_)
      try go_frame
      refine' tk 0 ?_ ?_; rotate_left
      · rintro u ⟨⟨_, _, _, _⟩, _⟩; go_simp; try with_reducible rfl
      try go_frame
      refine' tk 1 ?_ ?_; rotate_left
      · rintro u ⟨⟨_, _, _, _⟩, _⟩; go_simp; try with_reducible rfl
      try go_frame
      refine' tk 2 ?_ ?_; rotate_left
      · rintro u ⟨⟨_, _, _, _⟩, _⟩; go_simp; try with_reducible rfl
      try go_frame
      refine' tk 3 ?_ ?_; rotate_left
      · rintro u ⟨⟨_, _, _, _⟩, _⟩; go_simp; try with_reducible rfl
      try go_frame
      refine tq 5 (.agg cs.toArray) (yieldsIf_load_mid (by rfl) 33 _ rfl w.heap.size 0 rfl cs _ (fun u hu => hu.2.out) Tryd.underlying33 rfl hi16) ?_ (hi := rfl)
      try go_frame
      refine' tk 6 ?_ ?_; rotate_left
      · rintro u ⟨⟨_, _, _, _⟩, _⟩; go_simp; try with_reducible rfl
      try go_frame
      refine tr 4 (fun K hK => ?_)
      go_simp
      refine hC.mono ?_
      rintro e u1 ⟨m1, m2, rfl, hcen, hu1⟩
      have hd1 : Below V.heap.size V u1 := on2 (Below.refl _ _).drew hu1
      have hAd := HAd.out u1 m1 m2 hd1 hcen
      have HD1 : Hid (Below V.heap.size V u1) := hd1
      clear hcen hu1 hC HAd hd1
      go_wp2_with fail
      refine hK.out _ _ (HS.out _ HD1.out) (fun hHeld2 => ?_)
      clear hK K hHeld; have hHeld := hHeld2; clear hHeld2
      try go_frame
      refine tr 7 (fun K hK => ?_)
      go_simp
      refine hAd.mono ?_
      rintro e u2 ⟨rfl, hu2⟩
      have HD2 : Hid (Below V.heap.size V u2) := on2 HD1.out hu2
      clear hu2 hAd HD1
      go_wp2_with fail
      refine hK.out _ _ (HS.out _ HD2.out) (fun hHeld2 => ?_)
      clear hK K hHeld; have hHeld := hHeld2; clear hHeld2
      try go_frame
      refine' tk 8 ?_ ?_; rotate_left
      · rintro u ⟨⟨_, _, _, _⟩, _⟩; go_simp; try with_reducible rfl
      try go_frame
      refine tz ?_
      clear hHeld HS
      cases bad
      · have HN3 : Hid (((pSpreads p).take (k + 1)).any (badS (pLabs p) Lb N (othersN p.1 Pl)) = false ∧ Below W1.heap.size W1 u2) := ⟨HNo.out rfl, on2 HBV.out.1 HD2.out⟩
        clear HNo HYes HD2
        go_wp2_with fail
        go_roundw
        case rel => exact ⟨k + 1, by omega, by go_num, HN3⟩
        case measure => simp [intOf]; omega
      · have HF : Hid (ans = 12 ∧ Below w.heap.size w u2) := ⟨by rw [HAns.out, if_pos (HYes.out rfl)], on2 HBV.out.2 HD2.out⟩
        clear HNo HYes HD2
        go_wp2_with fail
        go_ret
        exact ⟨by rw [HF.out.1]; rfl, HF.out.2⟩
    · have htk : (pSpreads p).take k = pSpreads p := List.take_of_length_le (by rw [hq2.out]; omega)
      have hal := hst.out.1
      rw [htk] at hal
      have HF : Hid (ans = 0 ∧ Below w.heap.size w wr) := ⟨by rw [HAns.out, hal]; rfl, (HU.out wr hst.out.2).2.2.2.2.2.2⟩
      clear hst htk hal
      go_wp2_with fail
      go_ret
      exact ⟨by rw [HF.out.1]; rfl, HF.out.2⟩
end Go.Proofs.YtillkgflppabfaaDoor
namespace Go.Proofs.YtillkgflppabfaaDoor
open Go.RowKit
set_option linter.unusedSimpArgs false
set_option maxRecDepth 100000

theorem sl_one9 {α : Type} [Inhabited α] {R : Rep α} {k bytes : Nat} {A : Where} {u : World} {B : Nat} {cs : List Value} {x : α} (hb : BoxL u B cs) (hr : R A u cs x) (hA : A B) (hby : bytes ≤ 140737488351232) : SlAt R k bytes A u (some ⟨B, 0, none⟩) 1 1 [x] := by
  refine ⟨rfl, Nat.le_refl _, (fun e => by cases e), by omega, fun _ => ⟨B, 0, rfl, hb.1, hA, fun i hi => ?_⟩⟩
  obtain rfl : i = 0 := by omega
  exact ⟨cs, hr, fun j v hj => by have := (hb.2 j v hj).1; simpa using this⟩
theorem sl_two9 {α : Type} [Inhabited α] {R : Rep α} {k bytes : Nat} {A : Where} {u : World} {B : Nat} {cs ds : List Value} {x y : α} (hb : BoxL u B (cs ++ ds)) (h1 : R A u cs x) (h2 : R A u ds y) (hl : cs.length = k) (hA : A B) (hby : 2 * bytes ≤ 140737488351232) : SlAt R k bytes A u (some ⟨B, 0, none⟩) 2 2 [x, y] := by
  refine ⟨rfl, Nat.le_refl _, (fun e => by cases e), hby, fun _ => ⟨B, 0, rfl, hb.1, hA, fun i hi => ?_⟩⟩
  have hi2 : i = 0 ∨ i = 1 := by omega
  rcases hi2 with rfl | rfl
  · refine ⟨cs, h1, fun j v hj => ?_⟩
    have h3 := (hb.2 j v (by rw [List.getElem?_append_left (List.getElem?_eq_some_iff.1 hj).1]; exact hj)).1
    simpa using h3
  · refine ⟨ds, h2, fun j v hj => ?_⟩
    have h3 := (hb.2 (k + j) v (by rw [← hl, List.getElem?_append_right (by omega), Nat.add_sub_cancel_left]; exact hj)).1
    simpa using h3
def zoneB : ByteArray := ⟨#[122, 111, 110, 101]⟩
def zoneD (v : ByteArray) : NodeD := (v, [(⟨#[122, 111, 110, 101]⟩, v)], [], false, (0, 0, 0), 0, 0)
set_option maxHeartbeats 4000000 in
theorem zone9_calls (v : ByteArray) (hv : v.size ≤ 140737488355328) (w : World) : Calls Tryd.prog 8 #[.string v] w fun e w' => ∃ D, e = .returned (.agg #[.string v, .slice (some ⟨D, 0, none⟩) 1 1, .slice none 0 0, .bool false, .int .i64 0, .int .i64 0, .int .i64 0, .int .i64 0, .int .i64 0]) ∧ RNode (fun _ => True) w' [.string v, .slice (some ⟨D, 0, none⟩) 1 1, .slice none 0 0, .bool false, .int .i64 0, .int .i64 0, .int .i64 0, .int .i64 0, .int .i64 0] (zoneD v) ∧ Below w.heap.size w w' := by
  obtain ⟨U, hU⟩ : ∃ U, U = (w.alloc (.cells #[.string v, .slice (some ⟨w.heap.size + 1, 0, none⟩) 1 1, .slice none 0 0, .bool false, .int .i64 0, .int .i64 0, .int .i64 0, .int .i64 0, .int .i64 0] 46)).alloc (.cells #[.string ⟨#[122, 111, 110, 101]⟩, .string v] 59) := ⟨_, rfl⟩
  have hb : Below w.heap.size w U := by rw [hU]; go_grown
  have q0 : BoxL U w.heap.size [.string v, .slice (some ⟨w.heap.size + 1, 0, none⟩) 1 1, .slice none 0 0, .bool false, .int .i64 0, .int .i64 0, .int .i64 0, .int .i64 0, .int .i64 0] := by rw [hU]; exact (BoxL.new w 46 _).on ((Below.refl _ _).alloc (Nat.le_refl _) _)
  have q1 : BoxL U (w.heap.size + 1) [.string ⟨#[122, 111, 110, 101]⟩, .string v] := by rw [hU]; have h1 := BoxL.new (w.alloc (.cells #[.string v, .slice (some ⟨w.heap.size + 1, 0, none⟩) 1 1, .slice none 0 0, .bool false, .int .i64 0, .int .i64 0, .int .i64 0, .int .i64 0, .int .i64 0] 46)) 59 [.string ⟨#[122, 111, 110, 101]⟩, .string v]; simpa using h1
  have hT : RNode (fun _ => True) U [.string v, .slice (some ⟨w.heap.size + 1, 0, none⟩) 1 1, .slice none 0 0, .bool false, .int .i64 0, .int .i64 0, .int .i64 0, .int .i64 0, .int .i64 0] (zoneD v) := RNode.mk (x := zoneD v) (h1 := (some ⟨w.heap.size + 1, 0, none⟩, 1, 1)) (h2 := (none, 0, 0)) hv (sl_one9 q1 (RLabel.mk (x := (⟨#[122, 111, 110, 101]⟩, v)) (show (4 : Nat) ≤ 140737488355328 by decide) hv) trivial (by decide)) (SlAt.nil _ _ _ _ (fun _ => rfl))
  have HT : Hid (RNode (fun _ => True) U [.string v, .slice (some ⟨w.heap.size + 1, 0, none⟩) 1 1, .slice none 0 0, .bool false, .int .i64 0, .int .i64 0, .int .i64 0, .int .i64 0, .int .i64 0] (zoneD v) ∧ Below w.heap.size w U) := ⟨hT, hb⟩
  have z0 := (q0.2 0 _ rfl).1; have z1 := (q0.2 1 _ rfl).1; have z2 := (q0.2 2 _ rfl).1; have z3 := (q0.2 3 _ rfl).1; have z4 := (q0.2 4 _ rfl).1; have z5 := (q0.2 5 _ rfl).1; have z6 := (q0.2 6 _ rfl).1; have z7 := (q0.2 7 _ rfl).1; have z8 := (q0.2 8 _ rfl).1
  have HU : Hid (U = (w.alloc (.cells #[.string v, .slice (some ⟨w.heap.size + 1, 0, none⟩) 1 1, .slice none 0 0, .bool false, .int .i64 0, .int .i64 0, .int .i64 0, .int .i64 0, .int .i64 0] 46)).alloc (.cells #[.string ⟨#[122, 111, 110, 101]⟩, .string v] 59)) := hU
  clear hT hU q0 q1 hb
  go_enter Tryd.func8, Tryd.ntmps8
  go_wp2_with fail
  rw [← HU.out]
  refine bodyPost_ret (v := .agg #[.string v, .slice (some ⟨w.heap.size + 1, 0, none⟩) 1 1, .slice none 0 0, .bool false, .int .i64 0, .int .i64 0, .int .i64 0, .int .i64 0, .int .i64 0]) (by simp [results, Tryd.results8, go_sem, z0, z1, z2, z3, z4, z5, z6, z7, z8, Result.andThen]) rfl ⟨_, rfl, HT.out⟩
end Go.Proofs.YtillkgflppabfaaDoor
