/- The law's many: copies of what is placed. Condition: the slice lies as is said of it. base.SameReqs, sameTerms tell whether two slices hold the same; they change nothing but the count of draws. Condition: the slices hold what is said of them. base.SameVolume, SameBudget tell whether two structs hold the same, and change nothing that was there. Condition: the arguments lie as is said of them. -/
import Derived.Test.YtillkgflppabfaaGreatDoorQ17
import Derived.Test.YtillkgflppabfaaGreatDoorQ05
namespace Go.Proofs.YtillkgflppabfaaGreatDoor
open Go.RowKit
set_option linter.unusedSimpArgs false
set_option maxRecDepth 100000

theorem RPlaced.parts9 {A : Where} {w : World} {xs : List Value} {x : PlacedD} (h : RPlaced A w xs x) : ∃ (ps : List Value) (g : Hd), xs = ps ++ [.slice g.1 g.2.1 g.2.2] ∧ RPod A w ps x.1 ∧ ps.length = 16 ∧ SlAt RLabel 2 32 A w g.1 g.2.1 g.2.2 x.2 := by
  obtain ⟨ps, qs, rfl, h1, h2⟩ := h
  obtain ⟨a, n, c, rfl, h3⟩ := h2
  exact ⟨ps, (a, n, c), rfl, h1, RPod.firm.len h1, h3⟩
theorem range_fst9 {u : World} {B o : Nat} {ps : List Value} {v : Value} (h : u.rangeAt B o (ps ++ [v])) : u.rangeAt B o ps := fun j y hj => h j y (by rw [List.getElem?_append_left (List.getElem?_eq_some_iff.1 hj).1]; exact hj)
theorem range_lst9 {u : World} {B o : Nat} {ps : List Value} {v : Value} (hl : ps.length = 16) (h : u.rangeAt B o (ps ++ [v])) : u.cell? ⟨B, o + 16, none⟩ = some v := h 16 v (by rw [List.getElem?_append_right (by omega), hl]; rfl)
theorem range_on10 {u u' : World} {B o M : Nat} {c : List Value} (hB : B < M) (hb : Below M u u') (h : u.rangeAt B o c) : u'.rangeAt B o c := fun j v hj => (hb.cell (p := ⟨B, o + j, none⟩) hB).trans (h j v hj)
theorem RPod.lit9 {A : Where} {w : World} {cs : List Value} {x : PodD} (h : RPod A w cs x) : ∃ v0 v1 v2 v3 v4 v5 v6 v7 v8 v9 v10 v11 v12 v13 v14 v15 : Value, cs = [v0, v1, v2, v3, v4, v5, v6, v7, v8, v9, v10, v11, v12, v13, v14, v15] := by
  obtain ⟨_, _, _, _, _, _, _, _, _, rfl, _⟩ := h.out
  exact ⟨_, _, _, _, _, _, _, _, _, _, _, _, _, _, _, _, rfl⟩
set_option maxHeartbeats 8000000 in
theorem many9_calls (a : Option Addr) (n cap : Nat) (A : Where) (L : List PlacedD) (w : World) (hL : Hid (SlAt RPlaced 17 320 A w a n cap L)) : Calls Tryz.prog 5 #[.slice a n cap] w fun e w' => ∃ v, e = .returned v ∧ Row RPlaced 17 (Fresh w) w w' 52 v L := by
  have hlen := hL.out.len (by decide)
  have hn : Hid (L.length = n) := hL.out.1
  have hbb : Hid (n * 320 ≤ 140737488351232) := hL.out.2.2.2.1
  have HR0 : Hid (Row RPlaced 17 (Fresh w) w (w.alloc (.cells #[] 52)) 52 (.slice (some ⟨w.heap.size, 0, none⟩) 0 0) (L.take 0)) := Row.start _ w w _ (Below.refl _ _)
  go_enter Tryz.func5, Tryz.ntmps5
  go_wp2_with fail
  go_loopw [3, 4] (fun s i wr => ∃ k : Nat, k ≤ n ∧ i = .int .i64 k ∧ Hid (Row RPlaced 17 (Fresh w) w wr 52 s (L.take k))) (fun _ i _ => n - (intOf i).toNat)
  case atStart => exact ⟨0, Nat.zero_le _, rfl, HR0⟩
  case round =>
    obtain ⟨k, hk, rfl, hrow⟩ := hrel
    by_cases hlt : k < n
    · have hltz : (k : Int) < (n : Int) := by omega
      have hkl : k < L.length := by rw [hn.out]; exact hlt
      have hbw : Below w.heap.size w wr := hrow.out.below
      obtain ⟨B, off, rfl, hB, _, xs, hr, hv⟩ := hL.out.get hlt
      obtain ⟨ps, ⟨g1, g2, g3⟩, rfl, rp, hlp, sg⟩ := hr.parts9
      simp only at sg
      have HT : Hid (L.take k ++ [L.getD k default] = L.take (k + 1)) := take_at9 hkl
      have HLb : Hid (((L.take k).length + [L.getD k default].length) * 320 ≤ 140737488355328) := by
        have := bytes_le hbb.out hlt
        rw [Hid, List.length_take, hn.out, List.length_singleton, Nat.min_eq_left (by omega)]
        exact this
      generalize L.getD k default = x at HT HLb rp sg
      have hip : (Tryz.prog.info? 49).map (·.size) = some ps.length := by rw [hlp]; exact sizePo
      have HS : Hid (∀ u, Below w.heap.size w u → u.rangeAt B (off + k * 17) ps ∧ u.cell? ⟨B, off + k * 17 + 16, none⟩ = some (.slice g1 g2 g3)) := fun u hb => ⟨range_on10 hB hb (range_fst9 hv), (hb.cell (p := ⟨B, _, none⟩) hB).trans (range_lst9 hlp hv)⟩
      have HP : Hid (∀ u, Below w.heap.size w u → RPod A u ps x.1 ∧ SlAt RLabel 2 32 A u g1 g2 g3 x.2) := fun u hb => ⟨RPod.firm.kept rp (Kept.below hb), sg.on RLabel.firm hb⟩
      clear hr hv rp sg
      go_upto_region 5 with fail
      have d0 : Below w.heap.size w wr.drew := hbw.drew
      refine t0 (Below w.heap.size w) d0 (fun hHeld => ?_)
      refine' tk 0 ?_ ?_; rotate_left
      · intro u hu; clear hu; go_simp; try with_reducible rfl
      try go_frame
      refine' tk 1 ?_ ?_; rotate_left
      · intro u hu; clear hu; go_simp; try with_reducible rfl
      try go_frame
      refine' tk 2 ?_ ?_; rotate_left
      · intro u hu; clear hu; go_simp; try with_reducible rfl
      try go_frame
      refine' tk 3 ?_ ?_; rotate_left
      · intro u hu; clear hu; go_simp; try with_reducible rfl
      try go_frame
      refine' tk 4 ?_ ?_; rotate_left
      · intro u hu; clear hu; go_simp; try with_reducible rfl
      try go_frame
      refine' tk 7 ?_ ?_; rotate_left
      · intro u hu; clear hu; go_simp; try with_reducible rfl
      try go_frame
      refine' tk 8 ?_ ?_; rotate_left
      · intro u hu; clear hu; go_simp; try with_reducible rfl
      try go_frame
      refine' tk 9 ?_ ?_; rotate_left
      · intro u hu; clear hu; go_simp; try with_reducible rfl
      try go_frame
      refine' tk 10 ?_ ?_; rotate_left
      · intro u hu; clear hu; go_simp; try with_reducible rfl
      try go_frame
      refine' tq 5 (.agg ps.toArray) ?_ ?_
      · exact yieldsIf_load_mid rfl 49 _ rfl B (off + k * 17) rfl ps _ (fun u hu => (HS.out u hu).1) Tryz.underlying49 rfl hip
      try go_frame
      refine' tk 11 ?_ ?_; rotate_left
      · intro u hu; have c16 := (HS.out u hu).2; clear hu; go_simp; try with_reducible rfl
      try go_frame
      refine tr 6 (fun K hK => ?_)
      go_simp
      refine (Pod_copy ps A x.1 _ (HP.out _ d0).1).mono ?_
      rintro e u1 ⟨ps', rfl, rp', b1⟩
      have d1 : Below w.heap.size w u1 := on2 d0 b1
      obtain ⟨v0, v1, v2, v3, v4, v5, v6, v7, v8, v9, v10, v11, v12, v13, v14, v15, rfl⟩ := rp'.lit9
      go_wp2_with fail
      refine hK.out _ _ d1 (fun hHeld2 => ?_)
      clear hK K hHeld; have hHeld := hHeld2; clear hHeld2
      try go_frame
      refine tr 12 (fun K hK => ?_)
      go_simp
      refine (Labels_copy g1 g2 g3 A x.2 _ (HP.out _ d1).2).mono ?_
      rintro e u2 ⟨a', cap', rfl, sl', b2⟩
      have d2 : Below w.heap.size w u2 := on2 d1 b2
      go_wp2_with fail
      refine hK.out _ _ d2 (fun hHeld2 => ?_)
      clear hK K hHeld; have hHeld := hHeld2; clear hHeld2
      try go_frame
      have hwr0 : wr.heap.size ≤ wr.drew.heap.size := Nat.le_refl _
      have HXr : RPlaced (fun b => wr.heap.size ≤ b) u2 [v0, v1, v2, v3, v4, v5, v6, v7, v8, v9, v10, v11, v12, v13, v14, v15, .slice a' g2 cap'] x := ⟨[v0, v1, v2, v3, v4, v5, v6, v7, v8, v9, v10, v11, v12, v13, v14, v15], [.slice a' g2 cap'], rfl, RPod.firm.weak (RPod.firm.kept rp' (Kept.below b2)) (fun b _ hb => hb), a', g2, cap', rfl, sl'.weak RLabel.firm (fun b _ hb => by have h1 := b1.size; have h2 : u1.heap.size ≤ b := hb; have h3 : wr.drew.heap.size = wr.heap.size := rfl; omega)⟩
      have hrow2 : Row RPlaced 17 (Fresh w) w u2 52 u3 (L.take k) := (((hrow.out.on RPlaced.firm (Below.refl _ _).drew).on RPlaced.firm b1).on RPlaced.firm b2)
      obtain ⟨y2, hy2⟩ : ∃ y, y = u2.alloc (.cells #[v0, v1, v2, v3, v4, v5, v6, v7, v8, v9, v10, v11, v12, v13, v14, v15, .slice a' g2 cap'] 52) := ⟨_, rfl⟩
      have b3 : Below u2.heap.size u2 y2 := by rw [hy2]; exact (Below.refl _ _).alloc (Nat.le_refl _) _
      have q3 : BoxL y2 u2.heap.size [v0, v1, v2, v3, v4, v5, v6, v7, v8, v9, v10, v11, v12, v13, v14, v15, .slice a' g2 cap'] := by rw [hy2]; exact BoxL.new u2 52 [v0, v1, v2, v3, v4, v5, v6, v7, v8, v9, v10, v11, v12, v13, v14, v15, .slice a' g2 cap']
      have d3 : Below w.heap.size w y2 := on2 d2 b3
      have hrow3 := hrow2.on RPlaced.firm b3
      have hlt3 : ∀ b, u3.ownBlock = some b → b < wr.heap.size := fun b e => (hrow.out.lt e).2
      have HEx : RPlaced (fun b => Fresh w b ∧ Value.ownBlock u3 ≠ some b) y2 [v0, v1, v2, v3, v4, v5, v6, v7, v8, v9, v10, v11, v12, v13, v14, v15, .slice a' g2 cap'] x := RPlaced.firm.weak (RPlaced.firm.kept HXr (Kept.below b3)) (fun b _ hb => ⟨Nat.le_trans hbw.size (show wr.heap.size ≤ b from hb), fun e => by have h1 := hlt3 b e; have h2 : wr.heap.size ≤ b := hb; omega⟩)
      have HCh : Chunks RPlaced 17 (fun b => Fresh w b ∧ Value.ownBlock u3 ≠ some b) y2 [v0, v1, v2, v3, v4, v5, v6, v7, v8, v9, v10, v11, v12, v13, v14, v15, .slice a' g2 cap'] [x] := chunk_one RPlaced.firm HEx
      have HXc : ∀ j y, ([v0, v1, v2, v3, v4, v5, v6, v7, v8, v9, v10, v11, v12, v13, v14, v15, .slice a' g2 cap'] : List Value)[j]? = some y → y2.cell? ((⟨u2.heap.size, 0, none⟩ : Addr).add j) = some y := fun j y hj => by have h1 := (q3.2 j y hj).1; rw [add_lit]; simpa using h1
      have H1 : ∀ y ∈ ([v0, v1, v2, v3, v4, v5, v6, v7, v8, v9, v10, v11, v12, v13, v14, v15, .slice a' g2 cap'] : List Value), y.oneCell' = true := RPlaced.firm.one HEx
      refine' tk 13 ?_ ?_; rotate_left
      · intro u hu; clear hu; go_simp; try with_reducible rfl
      try go_frame
      refine tr 14 (fun K hK => ?_)
      go_simp
      rw [← hy2]
      refine hK.out _ _ d3 (fun hHeld2 => ?_)
      clear hK K hHeld; have hHeld := hHeld2; clear hHeld2
      try go_frame
      refine tr 15 (fun K hK => ?_)
      refine row_append_wp RPlaced.firm (A := Fresh w) (w0 := w) _ _ 26 52 rfl _ 320 infoPl Tryz.underlying26 rfl (by decide) (by decide) u3 (L.take k) rfl hrow3 ⟨u2.heap.size, 0, none⟩ 1 1 [v0, v1, v2, v3, v4, v5, v6, v7, v8, v9, v10, v11, v12, v13, v14, v15, .slice a' g2 cap'] [x] rfl rfl HCh HXc H1 HLb.out ?_
      intro z4 y4 r4 gr4
      refine hK.out _ _ r4.below (fun hHeld2 => ?_)
      clear hK K hHeld; have hHeld := hHeld2; clear hHeld2
      try go_frame
      have HN : Hid (Row RPlaced 17 (Fresh w) w y4 52 z4 (L.take (k + 1))) := by rw [Hid, ← HT.out]; exact r4
      clear hrow2 hrow3 HEx HCh HXc H1 HXr hy2 b3 q3 d3 b2 b1 sl' rp' gr4 hrow
      refine' tk 16 ?_ ?_; rotate_left
      · intro u hu; clear hu; go_simp; try with_reducible rfl
      try go_frame
      refine tz ?_
      clear hHeld r4
      go_wp2_with fail
      go_roundw
      case rel => exact ⟨k + 1, by omega, by go_num, HN⟩
      case measure => simp [intOf]; omega
    · have hk' : L.take k = L := List.take_of_length_le (by rw [hn.out]; omega)
      rw [hk'] at hrow
      have h9 : Hid (Row RPlaced 17 (Fresh w) w wr 52 u3 L) := hrow
      clear hrow
      go_wp2_with fail
      go_ret
      exact ⟨_, rfl, h9.out⟩
end Go.Proofs.YtillkgflppabfaaGreatDoor
namespace Go.Proofs.YtillkgflppabfaaGreatDoor
open Go.RowKit
set_option linter.unusedSimpArgs false

set_option maxHeartbeats 4000000 in
theorem SameReqs_calls (a : Option Addr) (n cap : Nat) (A : Where) (L : List (Ask)) (b : Option Addr) (m capb : Nat) (A' : Where) (M : List (Ask)) (w : World) (hA : Hid (SlAt RReq 3 48 A w a n cap L)) (hB : Hid (SlAt RReq 3 48 A' w b m capb M)) : Calls Tryz.prog 43 #[.slice a n cap, .slice b m capb] w fun e w' => e = .returned (.bool (decide (L = M))) ∧ ∃ q, w' = w.drewN q := by
  have hn : Hid (L.length = n) := hA.out.1
  have hm : Hid (M.length = m) := hB.out.1
  have hlen := hA.out.len (by decide)
  by_cases hnm : n = m
  case neg =>
    have HF : Hid (decide (L = M) = false) := same_len (by rw [hn.out, hm.out]; exact hnm)
    have hne : ((n : Int) != (m : Int)) = true := by rw [bne_iff_ne]; omega
    go_enter Tryz.func43, Tryz.ntmps43
    go_wp2
    go_ret
    exact ⟨retB HF.out.symm, 0, rfl⟩
  subst hnm
  have hne : ((n : Int) != (n : Int)) = false := by simp
  go_enter Tryz.func43, Tryz.ntmps43
  go_wp2
  go_loopw [5] (fun i wr => ∃ k : Nat, k ≤ n ∧ i = .int .i64 k ∧ Hid (∃ q, wr = w.drewN q) ∧ Hid (∀ j, j < k → L.getD j default = M.getD j default)) (fun i _ => n - (intOf i).toNat)
  case atStart => exact ⟨0, Nat.zero_le _, rfl, ⟨0, rfl⟩, fun j hj => absurd hj (Nat.not_lt_zero _)⟩
  case round =>
    obtain ⟨k, hk, rfl, hwr, hall⟩ := hrel
    have hbel : Below w.heap.size w wr := by obtain ⟨q, rfl⟩ := hwr.out; exact below_drewN (Below.refl _ _) _
    have hback : Hid (∀ q, ∃ q', wr.drewN q = w.drewN q') := by obtain ⟨q0, rfl⟩ := hwr.out; exact fun q => ⟨_, World.drewN_drewN _ _ _⟩
    by_cases hlt : k < n
    · have hltz : (k : Int) < (n : Int) := by omega
      obtain ⟨B, off, rfl, hBl, _, cs, hra, hva⟩ := (hA.out.on RReq.firm hbel).get hlt
      obtain ⟨B', off', rfl, hBl', _, cs', hrb, hvb⟩ := (hB.out.on RReq.firm hbel).get hlt
      obtain ⟨ha, rfl, _, hTa⟩ := hra.out
      obtain ⟨hb, rfl, _, hTb⟩ := hrb.out
      have d0 := hva 0 _ rfl
      have g0 := hvb 0 _ rfl
      have d1 := hva 1 _ rfl
      have g1 := hvb 1 _ rfl
      have d2 := hva 2 _ rfl
      have g2 := hvb 2 _ rfl
      rw [Nat.add_zero] at d0 g0
      have HG : Hid (decide (L.getD k default = M.getD k default) = true → ∀ j, j < k + 1 → L.getD j default = M.getD j default) := fun h j hj => by
        rcases Nat.lt_succ_iff_lt_or_eq.1 hj with h' | rfl
        · exact hall.out j h'
        · exact of_decide_eq_true h
      have HF : Hid (decide (L.getD k default = M.getD k default) = false → decide (L = M) = false) := fun h => same_no (of_decide_eq_false h)
      clear hall hva hvb
      have HM0 : Hid (∀ m, Calls Tryz.prog 46 #[.slice ha.1 ha.2.1 ha.2.2, .slice hb.1 hb.2.1 hb.2.2] (wr.drewN m) fun e w' => e = .returned (.bool (decide ((L.getD k default).2.2 = (M.getD k default).2.2))) ∧ ∃ q, w' = (wr.drewN m).drewN q) := fun m => SameTexts_calls _ _ _ A _ _ _ _ A' _ _ (hTa.on RStr.firm (below_drewN (Below.refl _ _) _)) (hTb.on RStr.firm (below_drewN (Below.refl _ _) _))
      clear hTa hTb
      have HE := ask_eq (L.getD k default) (M.getD k default)
      generalize L.getD k default = x at d0 d1 d2 HE HG HF HM0
      generalize M.getD k default = y at g0 g1 g2 HE HG HF HM0
      obtain ⟨r, hr⟩ : ∃ r, decide (x.2.2 = y.2.2) = r := ⟨_, rfl⟩
      rw [hr] at HE
      have HM : Hid (∀ m, Calls Tryz.prog 46 #[.slice ha.1 ha.2.1 ha.2.2, .slice hb.1 hb.2.1 hb.2.2] (wr.drewN m) fun e w' => e = .returned (.bool r) ∧ ∃ q, w' = (wr.drewN m).drewN q) := by rw [← hr]; exact HM0
      clear HM0 hr
      obtain ⟨p, hp⟩ : ∃ p : Bool, (sEq x.1 y.1) = p := ⟨_, rfl⟩
      rw [hp] at HE
      have kp : (!(x.1.toList == y.1.toList)) = !p := by rw [← hp]; rfl
      clear hp
      obtain ⟨q, hq⟩ : ∃ q : Bool, (x.2.1 == y.2.1) = q := ⟨_, rfl⟩
      rw [hq] at HE
      have kq : (x.2.1 != y.2.1) = !q := by rw [← hq]; rfl
      clear hq
      cases p
      · have HX : Hid (decide (x = y) = false) := HE.trans rfl
        have HF2 : Hid (decide (L = M) = false) := HF.out HX.out
        clear HG HF HX HE
        simp only [Bool.not_true, Bool.not_false] at kp kq
        go_wp2_with fail
        go_quiet ((go_at_call 46; exact Calls.quiet_of (HM.out _)))
        go_wp2_with fail
        go_ret
        exact ⟨retB HF2.out.symm, hback.out _⟩
      · skip
        cases q
        · have HX : Hid (decide (x = y) = false) := HE.trans rfl
          have HF2 : Hid (decide (L = M) = false) := HF.out HX.out
          clear HG HF HX HE
          simp only [Bool.not_true, Bool.not_false] at kp kq
          go_wp2_with fail
          go_quiet ((go_at_call 46; exact Calls.quiet_of (HM.out _)))
          go_wp2_with fail
          go_ret
          exact ⟨retB HF2.out.symm, hback.out _⟩
        · skip
          cases r
          · have HX : Hid (decide (x = y) = false) := HE.trans rfl
            have HF2 : Hid (decide (L = M) = false) := HF.out HX.out
            clear HG HF HX HE
            simp only [Bool.not_true, Bool.not_false] at kp kq
            go_wp2_with fail
            go_quiet ((go_at_call 46; exact Calls.quiet_of (HM.out _)))
            go_wp2_with fail
            go_ret
            exact ⟨retB HF2.out.symm, hback.out _⟩
          · have HX : Hid (decide (x = y) = true) := HE.trans rfl
            have HG2 : Hid (∀ j, j < k + 1 → L.getD j default = M.getD j default) := HG.out HX.out
            clear HG HF HX HE
            simp only [Bool.not_true, Bool.not_false] at kp kq
            go_wp2_with fail
            go_quiet ((go_at_call 46; exact Calls.quiet_of (HM.out _)))
            go_wp2_with fail
            go_roundw
            case rel => exact ⟨k + 1, by omega, by go_num, hback.out _, HG2⟩
            case measure => simp [intOf]; omega
    · have HT : Hid (decide (L = M) = true) := same_yes (by rw [hn.out, hm.out]) (fun j hj => hall.out j (by rw [hn.out] at hj; omega))
      clear hall
      go_wp2
      go_ret
      exact ⟨retB HT.out.symm, hwr.out⟩

set_option maxHeartbeats 4000000 in
theorem sameTerms_calls (a : Option Addr) (n cap : Nat) (A : Where) (L : List (TermD)) (b : Option Addr) (m capb : Nat) (A' : Where) (M : List (TermD)) (w : World) (hA : Hid (SlAt RTerm 2 40 A w a n cap L)) (hB : Hid (SlAt RTerm 2 40 A' w b m capb M)) : Calls Tryz.prog 45 #[.slice a n cap, .slice b m capb] w fun e w' => e = .returned (.bool (decide (L = M))) ∧ ∃ q, w' = w.drewN q := by
  have hn : Hid (L.length = n) := hA.out.1
  have hm : Hid (M.length = m) := hB.out.1
  have hlen := hA.out.len (by decide)
  by_cases hnm : n = m
  case neg =>
    have HF : Hid (decide (L = M) = false) := same_len (by rw [hn.out, hm.out]; exact hnm)
    have hne : ((n : Int) != (m : Int)) = true := by rw [bne_iff_ne]; omega
    go_enter Tryz.func45, Tryz.ntmps45
    go_wp2
    go_ret
    exact ⟨retB HF.out.symm, 0, rfl⟩
  subst hnm
  have hne : ((n : Int) != (n : Int)) = false := by simp
  go_enter Tryz.func45, Tryz.ntmps45
  go_wp2
  go_loopw [5] (fun i wr => ∃ k : Nat, k ≤ n ∧ i = .int .i64 k ∧ Hid (∃ q, wr = w.drewN q) ∧ Hid (∀ j, j < k → L.getD j default = M.getD j default)) (fun i _ => n - (intOf i).toNat)
  case atStart => exact ⟨0, Nat.zero_le _, rfl, ⟨0, rfl⟩, fun j hj => absurd hj (Nat.not_lt_zero _)⟩
  case round =>
    obtain ⟨k, hk, rfl, hwr, hall⟩ := hrel
    have hbel : Below w.heap.size w wr := by obtain ⟨q, rfl⟩ := hwr.out; exact below_drewN (Below.refl _ _) _
    have hback : Hid (∀ q, ∃ q', wr.drewN q = w.drewN q') := by obtain ⟨q0, rfl⟩ := hwr.out; exact fun q => ⟨_, World.drewN_drewN _ _ _⟩
    by_cases hlt : k < n
    · have hltz : (k : Int) < (n : Int) := by omega
      obtain ⟨B, off, rfl, hBl, _, cs, hra, hva⟩ := (hA.out.on RTerm.firm hbel).get hlt
      obtain ⟨B', off', rfl, hBl', _, cs', hrb, hvb⟩ := (hB.out.on RTerm.firm hbel).get hlt
      obtain ⟨ha, rfl, hTa, _⟩ := hra.out
      obtain ⟨hb, rfl, hTb, _⟩ := hrb.out
      have d0 := hva 0 _ rfl
      have g0 := hvb 0 _ rfl
      have d1 := hva 1 _ rfl
      have g1 := hvb 1 _ rfl
      rw [Nat.add_zero] at d0 g0
      have HG : Hid (decide (L.getD k default = M.getD k default) = true → ∀ j, j < k + 1 → L.getD j default = M.getD j default) := fun h j hj => by
        rcases Nat.lt_succ_iff_lt_or_eq.1 hj with h' | rfl
        · exact hall.out j h'
        · exact of_decide_eq_true h
      have HF : Hid (decide (L.getD k default = M.getD k default) = false → decide (L = M) = false) := fun h => same_no (of_decide_eq_false h)
      clear hall hva hvb
      have HM0 : Hid (∀ m, Calls Tryz.prog 43 #[.slice ha.1 ha.2.1 ha.2.2, .slice hb.1 hb.2.1 hb.2.2] (wr.drewN m) fun e w' => e = .returned (.bool (decide ((L.getD k default).1 = (M.getD k default).1))) ∧ ∃ q, w' = (wr.drewN m).drewN q) := fun m => SameReqs_calls _ _ _ A _ _ _ _ A' _ _ (hTa.on RReq.firm (below_drewN (Below.refl _ _) _)) (hTb.on RReq.firm (below_drewN (Below.refl _ _) _))
      clear hTa hTb
      have HE := term_eq (L.getD k default) (M.getD k default)
      generalize L.getD k default = x at d0 d1 HE HG HF HM0
      generalize M.getD k default = y at g0 g1 HE HG HF HM0
      obtain ⟨r, hr⟩ : ∃ r, decide (x.1 = y.1) = r := ⟨_, rfl⟩
      rw [hr] at HE
      have HM : Hid (∀ m, Calls Tryz.prog 43 #[.slice ha.1 ha.2.1 ha.2.2, .slice hb.1 hb.2.1 hb.2.2] (wr.drewN m) fun e w' => e = .returned (.bool r) ∧ ∃ q, w' = (wr.drewN m).drewN q) := by rw [← hr]; exact HM0
      clear HM0 hr
      obtain ⟨p, hp⟩ : ∃ p : Bool, (sEq x.2 y.2) = p := ⟨_, rfl⟩
      rw [hp] at HE
      have kp : (!(x.2.toList == y.2.toList)) = !p := by rw [← hp]; rfl
      clear hp
      cases p
      · have HX : Hid (decide (x = y) = false) := HE.trans rfl
        have HF2 : Hid (decide (L = M) = false) := HF.out HX.out
        clear HG HF HX HE
        simp only [Bool.not_true, Bool.not_false] at kp
        go_wp2_with fail
        go_quiet ((go_at_call 43; exact Calls.quiet_of (HM.out _)))
        go_wp2_with fail
        go_ret
        exact ⟨retB HF2.out.symm, hback.out _⟩
      · skip
        cases r
        · have HX : Hid (decide (x = y) = false) := HE.trans rfl
          have HF2 : Hid (decide (L = M) = false) := HF.out HX.out
          clear HG HF HX HE
          simp only [Bool.not_true, Bool.not_false] at kp
          go_wp2_with fail
          go_quiet ((go_at_call 43; exact Calls.quiet_of (HM.out _)))
          go_wp2_with fail
          go_ret
          exact ⟨retB HF2.out.symm, hback.out _⟩
        · have HX : Hid (decide (x = y) = true) := HE.trans rfl
          have HG2 : Hid (∀ j, j < k + 1 → L.getD j default = M.getD j default) := HG.out HX.out
          clear HG HF HX HE
          simp only [Bool.not_true, Bool.not_false] at kp
          go_wp2_with fail
          go_quiet ((go_at_call 43; exact Calls.quiet_of (HM.out _)))
          go_wp2_with fail
          go_roundw
          case rel => exact ⟨k + 1, by omega, by go_num, hback.out _, HG2⟩
          case measure => simp [intOf]; omega
    · have HT : Hid (decide (L = M) = true) := same_yes (by rw [hn.out, hm.out]) (fun j hj => hall.out j (by rw [hn.out] at hj; omega))
      clear hall
      go_wp2
      go_ret
      exact ⟨retB HT.out.symm, hwr.out⟩
end Go.Proofs.YtillkgflppabfaaGreatDoor
namespace Go.Proofs.YtillkgflppabfaaGreatDoor
open Go.RowKit
set_option linter.unusedSimpArgs false

/-- A call's end tells whether the two are one. -/
def TellsEq {α : Type} (e : Ending) (x y : α) : Prop := ∃ r, e = .returned (.bool r) ∧ (r = true ↔ x = y)
theorem tells {α : Type} {x y : α} {r : Bool} (h : r = true ↔ x = y) : TellsEq (.returned (.bool r)) x y := ⟨r, rfl, h⟩

end Go.Proofs.YtillkgflppabfaaGreatDoor
