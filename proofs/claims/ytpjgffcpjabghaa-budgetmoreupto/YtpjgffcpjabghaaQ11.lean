/- base.Sorted and the document's ints: rising, each once. Condition: the slice lies as is said of it. -/
import Derived.Test.YtpjgffcpjabghaaQ10
import Derived.Test.YtpjgffcpjabghaaQ05
import Derived.Test.YtpjgffcpjabghaaQ09
import Derived.Deep.CutBlock
namespace Go.Proofs.Ytpjgffcpjabghaa
open Go.RowKit
set_option linter.unusedSimpArgs false
set_option maxRecDepth 100000

set_option maxHeartbeats 4000000 in
theorem Sorted_calls (a : Option Addr) (n cap : Nat) (A : Where) (L : List ByteArray) (w : World) (hL : Hid (SlAt RStr 1 16 A w a n cap L)) : Calls Try.prog 18 #[.slice a n cap] w fun e w' => ∃ a' cap', e = .returned (.slice a' (sortB sLt sEq L).length cap') ∧ SlAt RStr 1 16 (Fresh w) w' a' (sortB sLt sEq L).length cap' (sortB sLt sEq L) ∧ Below w.heap.size w w' := by
  have hlen := hL.out.len (by decide)
  have hn : Hid (L.length = n) := hL.out.1
  have hbb : Hid (n * 16 ≤ 140737488351232) := hL.out.2.2.2.1
  have HR0 : Hid (Row RStr 1 (Fresh w) w (w.alloc (.cells #[] 9)) 9 (.slice (some ⟨w.heap.size, 0, none⟩) 0 0) (sortB sLt sEq (L.take 0))) := Row.start _ w w _ (Below.refl _ _)
  go_enter Try.func18, Try.ntmps18
  go_wp2_with fail
  go_loopw [3, 4] (fun s i wr => ∃ (k g m c : Nat), k ≤ n ∧ i = .int .i64 k ∧ s = .slice (some ⟨g, 0, none⟩) m c ∧ Hid (Row RStr 1 (Fresh w) w wr 9 s (sortB sLt sEq (L.take k)))) (fun _ i _ => n - (intOf i).toNat)
  case atStart => exact ⟨0, _, _, _, Nat.zero_le _, rfl, rfl, HR0⟩
  case round =>
    obtain ⟨k, g, m, c, hk, rfl, rfl, hrow⟩ := hrel
    have hML : (sortB sLt sEq (L.take k)).length ≤ k := Nat.le_trans (sortB_len _ _ _) (by rw [List.length_take]; omega)
    by_cases hlt : k < n
    · have hltz : (k : Int) < (n : Int) := by omega
      have hkl : k < L.length := by rw [hn.out]; exact hlt
      have hbw : Below w.heap.size w wr := hrow.out.below
      obtain ⟨D, off, rfl, hD, _, cs, hr, hv⟩ := hL.out.get hlt
      obtain ⟨rfl, hxs⟩ := hr
      have d0 := (hbw.cell hD).trans (hv 0 _ rfl)
      simp only [Nat.mul_one, Nat.add_zero] at d0
      have HT : Hid (sortB sLt sEq (L.take (k + 1)) = insB sLt sEq (sortB sLt sEq (L.take k)) (L.getD k default)) := sortB_succ _ _ _ hkl
      clear hv
      generalize L.getD k default = x at d0 HT hxs
      generalize sortB sLt sEq (L.take k) = M at hrow HT hML
      obtain ⟨_, _, e1, hS⟩ := hrow.out.slF (bytes := 16) RStr.firm (Nat.le_trans (Nat.mul_le_mul_right 16 (by omega)) hbb.out)
      injection e1 with e1 e2 e3
      subst e2
      subst e1
      subst e3
      have HS : Hid (SlAt RStr 1 16 (Fresh w) wr (some ⟨g, 0, none⟩) M.length c M) := hS
      have hcap := hS.2.1
      clear hS
      go_upto_block 2 with fail
      go_cut [5] (fun j wx => ∃ t : Nat, t ≤ M.length ∧ j = .int .i64 t ∧ Hid (Below wr.heap.size wr wx) ∧ Hid (∀ j, j < t → sLt (M.getD j default) x = true) ∧ Hid (t < M.length → sLt (M.getD t default) x = false))
      case first =>
        go_wp2_with fail
        go_loopw [5] (fun j wx => ∃ t : Nat, t ≤ M.length ∧ j = .int .i64 t ∧ Hid (Below wr.heap.size wr wx) ∧ Hid (∀ j, j < t → sLt (M.getD j default) x = true)) (fun j _ => M.length - (intOf j).toNat)
        case atStart => exact ⟨0, Nat.zero_le _, rfl, Below.refl _ _, fun j hj => absurd hj (Nat.not_lt_zero _)⟩
        case round =>
          obtain ⟨t, ht, rfl, hbe, hlow⟩ := hrel
          by_cases hin : t < M.length
          · have hinz : (t : Int) < (M.length : Int) := by omega
            have hdec : decide ((t : Int) < (M.length : Int)) = true := decide_eq_true hinz
            obtain ⟨B2, off2, e2, hB2, _, cs2, hr2, hv2⟩ := (HS.out.on RStr.firm hbe.out).get hin
            injection e2 with e2
            injection e2 with e2 e3
            subst e2
            subst e3
            obtain ⟨rfl, _⟩ := hr2
            have d1 := hv2 0 _ rfl
            simp only [Nat.mul_one, Nat.add_zero, Nat.zero_add] at d1
            have d2 := (hbe.out.cell (Nat.lt_of_lt_of_le hD hbw.size)).trans d0
            obtain ⟨y, hy⟩ : ∃ y, y = M.getD t default := ⟨_, rfl⟩
            rw [← hy] at d1
            have HY : Hid (y = M.getD t default) := hy
            clear hv2 hy
            cases hc : sLt y x
            · have hc2 : (Op.bytesLess y.toList x.toList) = false := hc
              have HF3 : Hid (t < M.length → sLt (M.getD t default) x = false) := fun _ => by rw [← HY.out]; exact hc
              clear hc
              go_wp2_with fail
              go_quiet (fail)
              go_wp2_with fail
              go_meet
              exact ⟨t, ht, rfl, on2 hbe.out (below_drewN (Below.refl _ _) _), hlow, HF3⟩
            · have hc2 : (Op.bytesLess y.toList x.toList) = true := hc
              have HG3 : Hid (∀ j, j < t + 1 → sLt (M.getD j default) x = true) := fun j hj => by
                rcases Nat.lt_succ_iff_lt_or_eq.1 hj with h1 | rfl
                · exact hlow.out j h1
                · rw [← HY.out]; exact hc
              clear hc
              go_wp2_with fail
              go_quiet (fail)
              go_wp2_with fail
              go_roundw
              case rel => exact ⟨t + 1, by omega, by go_num, on2 hbe.out (below_drewN (Below.refl _ _) _), HG3⟩
              case measure => simp [intOf]; omega
          · have hinz : ¬ ((t : Int) < (M.length : Int)) := by omega
            have hdec : decide ((t : Int) < (M.length : Int)) = false := decide_eq_false hinz
            go_wp2_with fail
            go_quiet (fail)
            go_wp2_with fail
            go_meet
            exact ⟨t, ht, rfl, on2 hbe.out (below_drewN (Below.refl _ _) _), hlow, fun h => absurd h hin⟩
      case rest =>
        obtain ⟨t, ht, rfl, hbe, hlow, hstop⟩ := hcut
        rename World => wa
        have HIN : Hid (insB sLt sEq M x = if t < M.length ∧ sEq (M.getD t default) x = true then M else M.take t ++ ([x] ++ M.drop t)) := insB_at _ _ _ _ _ ht hlow.out hstop.out
        have dc := (hbe.out.cell (Nat.lt_of_lt_of_le hD hbw.size)).trans d0
        have HSc : Hid (SlAt RStr 1 16 (Fresh w) wa (some ⟨g, 0, none⟩) M.length c M) := HS.out.on RStr.firm hbe.out
        have HRc : Hid (Row RStr 1 (Fresh w) w wa 9 (.slice (some ⟨g, 0, none⟩) M.length c) M) := hrow.out.on RStr.firm hbe.out
        have hbc : Hid (Below w.heap.size w wa) := on2 hbw hbe.out
        have hDc : D < wa.heap.size := Nat.lt_of_lt_of_le hD hbc.out.size
        clear hlow hstop HS hrow d0 hbe hbw
        go_upto_region 8 with fail
        go_cut [44] (fun b wx => ∃ r, b = .bool r ∧ Hid (Below wa.heap.size wa wx) ∧ Hid (r = decide (t < M.length ∧ sEq (M.getD t default) x = true)))
        case first =>
          by_cases hin : t < M.length
          · have hinz : (t : Int) < (M.length : Int) := by omega
            have hdec : decide ((t : Int) < (M.length : Int)) = true := decide_eq_true hinz
            obtain ⟨B2, off2, e2, hB2, _, cs2, hr2, hv2⟩ := HSc.out.get hin
            injection e2 with e2
            injection e2 with e2 e3
            subst e2
            subst e3
            obtain ⟨rfl, _⟩ := hr2
            have d1 := hv2 0 _ rfl
            simp only [Nat.mul_one, Nat.add_zero, Nat.zero_add] at d1
            obtain ⟨y, hy⟩ : ∃ y, y = M.getD t default := ⟨_, rfl⟩
            rw [← hy] at d1
            have HD : Hid (∀ r, sEq y x = r → decide (t < M.length ∧ sEq (M.getD t default) x = true) = r) := fun r h => by rw [← hy, h]; cases r <;> simp [hin]
            clear hv2 hy
            cases hc : sEq y x
            · have hc2 : (y.toList == x.toList) = false := hc
              have HD2 := HD.out _ hc
              clear HD hc
              go_wp2_with fail
              go_quiet (fail)
              go_wp2_with fail
              go_meet
              exact ⟨_, rfl, below_drewN (Below.refl _ _) _, by rw [Hid, HD2]⟩
            · have hc2 : (y.toList == x.toList) = true := hc
              have HD2 := HD.out _ hc
              clear HD hc
              go_wp2_with fail
              go_quiet (fail)
              go_wp2_with fail
              go_meet
              exact ⟨_, rfl, below_drewN (Below.refl _ _) _, by rw [Hid, HD2]⟩
          · have hinz : ¬ ((t : Int) < (M.length : Int)) := by omega
            have hdec : decide ((t : Int) < (M.length : Int)) = false := decide_eq_false hinz
            go_wp2_with fail
            go_quiet (fail)
            go_wp2_with fail
            go_meet
            exact ⟨_, rfl, below_drewN (Below.refl _ _) _, by simp [Hid, hin]⟩
        case rest =>
          obtain ⟨r, rfl, hbd, hr⟩ := hcut
          have HS : Hid (SlAt RStr 1 16 (Fresh w) wc (some ⟨g, 0, none⟩) M.length c M) := HSc.out.on RStr.firm hbd.out
          have hrow : Hid (Row RStr 1 (Fresh w) w wc 9 (.slice (some ⟨g, 0, none⟩) M.length c) M) := HRc.out.on RStr.firm hbd.out
          have hbw : Below w.heap.size w wc := on2 hbc.out hbd.out
          have hDw : D < wc.heap.size := Nat.lt_of_lt_of_le hDc hbd.out.size
          have d0 := (hbd.out.cell hDc).trans dc
          clear HSc HRc dc hbc hbd
          cases r
          ·
            have HE : Hid (insB sLt sEq M x = M.take t ++ ([x] ++ M.drop t)) := by
              have h1 : ¬ (t < M.length ∧ sEq (M.getD t default) x = true) := by
                have h2 := hr.out
                exact of_decide_eq_false (by exact h2.symm)
              rw [Hid, HIN.out, if_neg h1]
            clear HIN hr
            have HSt : Hid (SlAt RStr 1 16 (Fresh w) wc (some ⟨g, 0, none⟩) t c (M.take t)) := HS.out.take ht
            have HSd : Hid (SlAt RStr 1 16 (Fresh w) wc (if c = t then some ⟨g, 0, none⟩ else some ⟨g, t, none⟩) (M.length - t) (c - t) (M.drop t)) := by
              unfold Hid
              have h1 := HS.out.drop ht
              split
              · have h2 : M.drop t = [] := by rw [List.drop_eq_nil_iff]; omega
                rw [h2, show M.length - t = 0 by omega]; exact SlAt.nil _ _ _ _ (fun h => by cases h)
              · simpa using h1
            have htc : t ≤ c := by omega
            have HS0 : Hid (∀ {u : World}, Below wc.heap.size wc u → u.cell? ⟨D, off + k, none⟩ = some (.string x)) := fun hb => (hb.cell hDw).trans d0
            have htz : (t : Int) ≤ (M.length : Int) := by omega
            have hcz : (M.length : Int) ≤ (c : Int) := by omega
            have hbt : Hid ((M.length + 1) * 16 ≤ 140737488351232) := Nat.le_trans (Nat.mul_le_mul_right 16 (by omega)) hbb.out
            go_wp2_with fail
            refine wp_region_noPanic ?_
            refine wp_region_held_drew (S := fun u => u.cell? ⟨D, off + k, none⟩ = some (.string x)) (by kernel_rfl) (HS0.out (Below.refl _ _).drew) (fun hHeld => ?_)
            refine' tk 1 ?_ ?_; rotate_left
            · intro u _; go_simp; try with_reducible rfl
            try go_frame
            refine' tk 2 ?_ ?_; rotate_left
            · intro u _; go_simp; try with_reducible rfl
            try go_frame
            refine' tk 3 ?_ ?_; rotate_left
            · intro u _; go_simp; try with_reducible rfl
            try go_frame
            refine' tk 5 ?_ ?_; rotate_left
            · intro u _; go_simp; try with_reducible rfl
            try go_frame
            refine' tk 6 ?_ ?_; rotate_left
            · intro u _; go_simp; try with_reducible rfl
            try go_frame
            refine' tk 7 ?_ ?_; rotate_left
            · intro u _; go_simp; try with_reducible rfl
            try go_frame
            refine' tk 8 ?_ ?_; rotate_left
            · intro u _; go_simp; try with_reducible rfl
            try go_frame
            refine' tk 11 ?_ ?_; rotate_left
            · intro u _; go_simp; try with_reducible rfl
            try go_frame
            refine' tk 12 ?_ ?_; rotate_left
            · intro u _; go_simp; try with_reducible rfl
            try go_frame
            refine' tk 13 ?_ ?_; rotate_left
            · intro u _; go_simp; try with_reducible rfl
            try go_frame
            refine tb 0 9 (fun K hK => ?_) (fun K hK => ?_)
            ·
              go_simp
              obtain ⟨U1, hU1⟩ : ∃ U1, U1 = (wc.alloc (.cells #[] 9)).drew := ⟨_, rfl⟩
              have bU1 : Below wc.heap.size wc U1 := by rw [hU1]; exact ((Below.refl wc.heap.size wc).alloc (Nat.le_refl _) _).drew
              have HRa : Row RStr 1 (Fresh wc) wc U1 9 (.slice (some ⟨wc.heap.size, 0, none⟩) 0 0) [] := by rw [hU1]; exact (Row.start _ wc wc _ (Below.refl wc.heap.size wc)).on RStr.firm (Below.refl _ _).drew
              have hszr : wc.heap.size < U1.heap.size := by rw [hU1]; simp
              refine hK.out _ _ (HS0.out (hU1 ▸ bU1)) (fun hHeld2 => ?_)
              clear hK K hHeld; have hHeld := hHeld2; clear hHeld2
              try go_frame
              rw [← hU1] at hHeld ⊢
              clear hU1
              refine tb 4 9 (fun K hK => ?_) (fun K hK => ?_)
              ·
                refine row_appendS_wp RStr.firm (A := Fresh wc) (w0 := wc) _ _ 30 9 rfl _ 16 infostr Try.underlying30 rfl (by decide) (by decide) _ [] rfl HRa (some ⟨g, 0, none⟩) t c (M.take t) rfl (((HSt.out.on RStr.firm bU1).src RStr.firm).flat RStr.flat) (by have h1 := hbt.out; simp; omega) ?_
                intro v4 U2 hr4 hg4
                rw [List.nil_append] at hr4
                have bU2 := hr4.below
                refine hK.out _ _ (HS0.out bU2) (fun hHeld2 => ?_)
                clear hK K hHeld; have hHeld := hHeld2; clear hHeld2
                try go_frame
                refine tr 9 (fun K hK => ?_)
                go_simp
                obtain ⟨U3, hU3⟩ : ∃ U3, U3 = U2.alloc (.cells #[.string x] 9) := ⟨_, rfl⟩
                have bU3 : Below wc.heap.size wc U3 := by rw [hU3]; exact Below.alloc bU2 bU2.size _
                have HXa : SlAt RStr 1 16 (fun b => b = U2.heap.size) U3 (some ⟨U2.heap.size, 0, none⟩) 1 1 [x] := by
                  rw [hU3]
                  refine ⟨rfl, Nat.le_refl _, (fun h => by cases h), by decide, fun _ => ⟨U2.heap.size, 0, rfl, by simp, rfl, fun i hi => ?_⟩⟩
                  obtain rfl : i = 0 := by omega
                  refine ⟨[.string x], ⟨rfl, hxs⟩, fun j v hj => ?_⟩
                  have := one_cells U2 [.string x] 9 j v hj
                  simpa [Addr.add_mid] using this
                have HRd := hr4.on RStr.firm (u' := U3) (by rw [hU3]; exact (Below.refl _ _).alloc (Nat.le_refl _) _)
                refine hK.out _ _ (HS0.out (hU3 ▸ bU3)) (fun hHeld2 => ?_)
                clear hK K hHeld; have hHeld := hHeld2; clear hHeld2
                try go_frame
                rw [← hU3] at hHeld ⊢
                clear hU3
                refine tr 10 (fun K hK => ?_)
                refine row_appendS_wp RStr.firm (A := Fresh wc) (w0 := wc) _ _ 30 9 rfl _ 16 infostr Try.underlying30 rfl (by decide) (by decide) _ (M.take t) rfl HRd (some ⟨U2.heap.size, 0, none⟩) 1 1 [x] rfl ((HXa.src RStr.firm).flat RStr.flat) (by have h1 := hbt.out; simp; omega) ?_
                intro v10 U9 hr10 hg10
                have bU9 := hr10.below
                refine hK.out _ _ (HS0.out bU9) (fun hHeld2 => ?_)
                clear hK K hHeld; have hHeld := hHeld2; clear hHeld2
                try go_frame
                refine tr 14 (fun K hK => ?_)
                refine row_appendS_wp RStr.firm (A := Fresh wc) (w0 := wc) _ _ 30 9 rfl _ 16 infostr Try.underlying30 rfl (by decide) (by decide) _ (M.take t ++ [x]) rfl hr10 (if c = t then some ⟨g, 0, none⟩ else some ⟨g, t, none⟩) (M.length - t) (c - t) (M.drop t) rfl (((HSd.out.on RStr.firm bU9).src RStr.firm).flat RStr.flat) (by have h1 := hbt.out; simp; omega) ?_
                intro v14 U10 hr14 hg14
                have bU10 := hr14.below
                refine hK.out _ _ (HS0.out bU10) (fun hHeld2 => ?_)
                clear hK K hHeld; have hHeld := hHeld2; clear hHeld2
                try go_frame
                have hrow2 : Row RStr 1 (Fresh w) w U10 9 v14 (sortB sLt sEq (L.take (k + 1))) := by
                  have h14 := hr14
                  rw [List.append_assoc] at h14
                  rw [HT.out, HE.out]
                  exact h14.from RStr.firm hbw (fun b hb => Nat.le_trans hbw.size hb)
                obtain ⟨g2, m2, c2, e14⟩ : ∃ g2 m2 c2, v14 = .slice (some ⟨g2, 0, none⟩) m2 c2 := by
                  obtain ⟨xs, ⟨_, ho⟩, _⟩ := hr14
                  rcases own_cells ho with ⟨_, h0⟩ | ⟨g2, c2, e, _⟩
                  · simp at h0
                  · exact ⟨g2, _, c2, e⟩
                subst e14
                have hrow3 : Hid (Row RStr 1 (Fresh w) w U10 9 (.slice (some ⟨g2, 0, none⟩) m2 c2) (sortB sLt sEq (L.take (k + 1)))) := hrow2
                clear hrow2 hr14 hr10 hr4 hg10 hg14
                refine' tk 15 ?_ ?_; rotate_left
                · intro u _; go_simp; try with_reducible rfl
                try go_frame
                refine wpAnyH_done (by kernel_rfl) ?_ _
                refine NoPanic.normal ?_
                go_wp2_with fail
                go_roundw
                case rel => exact ⟨k + 1, g2, m2, c2, by omega, by go_num, rfl, hrow3⟩
                case measure => simp [intOf]; omega
              ·
                go_simp
                obtain ⟨U2, hU2⟩ : ∃ U2, U2 = U1.alloc (.cells #[.string x] 9) := ⟨_, rfl⟩
                have bU2 : Below wc.heap.size wc U2 := by rw [hU2]; exact Below.alloc bU1 bU1.size _
                have HXa : SlAt RStr 1 16 (fun b => b = U1.heap.size) U2 (some ⟨U1.heap.size, 0, none⟩) 1 1 [x] := by
                  rw [hU2]
                  refine ⟨rfl, Nat.le_refl _, (fun h => by cases h), by decide, fun _ => ⟨U1.heap.size, 0, rfl, by simp, rfl, fun i hi => ?_⟩⟩
                  obtain rfl : i = 0 := by omega
                  refine ⟨[.string x], ⟨rfl, hxs⟩, fun j v hj => ?_⟩
                  have := one_cells U1 [.string x] 9 j v hj
                  simpa [Addr.add_mid] using this
                have hgb : wc.heap.size ≠ U1.heap.size := by omega
                have HRb := HRa.on RStr.firm (u' := U2) (by rw [hU2]; exact (Below.refl _ _).alloc (Nat.le_refl _) _)
                refine hK.out _ _ (HS0.out (hU2 ▸ bU2)) (fun hHeld2 => ?_)
                clear hK K hHeld; have hHeld := hHeld2; clear hHeld2
                try go_frame
                rw [← hU2] at hHeld ⊢
                clear hU2
                refine tr 4 (fun K hK => ?_)
                refine row_appendS_wp RStr.firm (A := Fresh wc) (w0 := wc) _ _ 30 9 rfl _ 16 infostr Try.underlying30 rfl (by decide) (by decide) _ [] rfl HRb (some ⟨g, 0, none⟩) t c (M.take t) rfl (((HSt.out.on RStr.firm bU2).src RStr.firm).flat RStr.flat) (by have h1 := hbt.out; simp; omega) ?_
                intro v4 U3 hr4 hg4
                rw [List.nil_append] at hr4
                have bU3 := hr4.below
                have HXc := HXa.kept RStr.firm (Kept.grown hg4 (fun k h e => by subst e; injection h with h; exact hgb h))
                refine hK.out _ _ (HS0.out bU3) (fun hHeld2 => ?_)
                clear hK K hHeld; have hHeld := hHeld2; clear hHeld2
                try go_frame
                refine tr 10 (fun K hK => ?_)
                refine row_appendS_wp RStr.firm (A := Fresh wc) (w0 := wc) _ _ 30 9 rfl _ 16 infostr Try.underlying30 rfl (by decide) (by decide) _ (M.take t) rfl hr4 (some ⟨U1.heap.size, 0, none⟩) 1 1 [x] rfl ((HXc.src RStr.firm).flat RStr.flat) (by have h1 := hbt.out; simp; omega) ?_
                intro v10 U9 hr10 hg10
                have bU9 := hr10.below
                refine hK.out _ _ (HS0.out bU9) (fun hHeld2 => ?_)
                clear hK K hHeld; have hHeld := hHeld2; clear hHeld2
                try go_frame
                refine tr 14 (fun K hK => ?_)
                refine row_appendS_wp RStr.firm (A := Fresh wc) (w0 := wc) _ _ 30 9 rfl _ 16 infostr Try.underlying30 rfl (by decide) (by decide) _ (M.take t ++ [x]) rfl hr10 (if c = t then some ⟨g, 0, none⟩ else some ⟨g, t, none⟩) (M.length - t) (c - t) (M.drop t) rfl (((HSd.out.on RStr.firm bU9).src RStr.firm).flat RStr.flat) (by have h1 := hbt.out; simp; omega) ?_
                intro v14 U10 hr14 hg14
                have bU10 := hr14.below
                refine hK.out _ _ (HS0.out bU10) (fun hHeld2 => ?_)
                clear hK K hHeld; have hHeld := hHeld2; clear hHeld2
                try go_frame
                have hrow2 : Row RStr 1 (Fresh w) w U10 9 v14 (sortB sLt sEq (L.take (k + 1))) := by
                  have h14 := hr14
                  rw [List.append_assoc] at h14
                  rw [HT.out, HE.out]
                  exact h14.from RStr.firm hbw (fun b hb => Nat.le_trans hbw.size hb)
                obtain ⟨g2, m2, c2, e14⟩ : ∃ g2 m2 c2, v14 = .slice (some ⟨g2, 0, none⟩) m2 c2 := by
                  obtain ⟨xs, ⟨_, ho⟩, _⟩ := hr14
                  rcases own_cells ho with ⟨_, h0⟩ | ⟨g2, c2, e, _⟩
                  · simp at h0
                  · exact ⟨g2, _, c2, e⟩
                subst e14
                have hrow3 : Hid (Row RStr 1 (Fresh w) w U10 9 (.slice (some ⟨g2, 0, none⟩) m2 c2) (sortB sLt sEq (L.take (k + 1)))) := hrow2
                clear hrow2 hr14 hr10 hr4 hg10 hg14
                refine' tk 15 ?_ ?_; rotate_left
                · intro u _; go_simp; try with_reducible rfl
                try go_frame
                refine wpAnyH_done (by kernel_rfl) ?_ _
                refine NoPanic.normal ?_
                go_wp2_with fail
                go_roundw
                case rel => exact ⟨k + 1, g2, m2, c2, by omega, by go_num, rfl, hrow3⟩
                case measure => simp [intOf]; omega
            ·
              go_simp
              obtain ⟨U1, hU1⟩ : ∃ U1, U1 = (wc.alloc (.cells #[.string x] 9)).drew := ⟨_, rfl⟩
              have bU1 : Below wc.heap.size wc U1 := by rw [hU1]; exact ((Below.refl wc.heap.size wc).alloc (Nat.le_refl _) _).drew
              have HXa : SlAt RStr 1 16 (fun b => b = wc.heap.size) U1 (some ⟨wc.heap.size, 0, none⟩) 1 1 [x] := by
                rw [hU1]
                refine ⟨rfl, Nat.le_refl _, (fun h => by cases h), by decide, fun _ => ⟨wc.heap.size, 0, rfl, by simp, rfl, fun i hi => ?_⟩⟩
                obtain rfl : i = 0 := by omega
                refine ⟨[.string x], ⟨rfl, hxs⟩, fun j v hj => ?_⟩
                have := one_cells wc [.string x] 9 j v hj
                simpa [Addr.add_mid] using this
              have hsz9 : wc.heap.size < U1.heap.size := by rw [hU1]; simp
              refine hK.out _ _ (HS0.out (hU1 ▸ bU1)) (fun hHeld2 => ?_)
              clear hK K hHeld; have hHeld := hHeld2; clear hHeld2
              try go_frame
              rw [← hU1] at hHeld ⊢
              clear hU1
              refine tr 0 (fun K hK => ?_)
              go_simp
              obtain ⟨U2, hU2⟩ : ∃ U2, U2 = U1.alloc (.cells #[] 9) := ⟨_, rfl⟩
              have bU2 : Below wc.heap.size wc U2 := by rw [hU2]; exact Below.alloc bU1 bU1.size _
              have HRa : Row RStr 1 (Fresh wc) wc U2 9 (.slice (some ⟨U1.heap.size, 0, none⟩) 0 0) [] := by rw [hU2]; exact Row.start _ wc U1 _ bU1
              have HXb : SlAt RStr 1 16 (fun b => b = wc.heap.size) U2 (some ⟨wc.heap.size, 0, none⟩) 1 1 [x] := by rw [hU2]; exact HXa.kept RStr.firm (Kept.alloc _ _ _)
              have hgb : U1.heap.size ≠ wc.heap.size := by omega
              refine hK.out _ _ (HS0.out (hU2 ▸ bU2)) (fun hHeld2 => ?_)
              clear hK K hHeld; have hHeld := hHeld2; clear hHeld2
              try go_frame
              rw [← hU2] at hHeld ⊢
              clear hU2
              refine tr 4 (fun K hK => ?_)
              refine row_appendS_wp RStr.firm (A := Fresh wc) (w0 := wc) _ _ 30 9 rfl _ 16 infostr Try.underlying30 rfl (by decide) (by decide) _ [] rfl HRa (some ⟨g, 0, none⟩) t c (M.take t) rfl (((HSt.out.on RStr.firm bU2).src RStr.firm).flat RStr.flat) (by have h1 := hbt.out; simp; omega) ?_
              intro v4 U3 hr4 hg4
              rw [List.nil_append] at hr4
              have bU3 := hr4.below
              have HXc := HXb.kept RStr.firm (Kept.grown hg4 (fun k h e => by subst e; injection h with h; exact hgb h))
              refine hK.out _ _ (HS0.out bU3) (fun hHeld2 => ?_)
              clear hK K hHeld; have hHeld := hHeld2; clear hHeld2
              try go_frame
              refine tr 10 (fun K hK => ?_)
              refine row_appendS_wp RStr.firm (A := Fresh wc) (w0 := wc) _ _ 30 9 rfl _ 16 infostr Try.underlying30 rfl (by decide) (by decide) _ (M.take t) rfl hr4 (some ⟨wc.heap.size, 0, none⟩) 1 1 [x] rfl ((HXc.src RStr.firm).flat RStr.flat) (by have h1 := hbt.out; simp; omega) ?_
              intro v10 U9 hr10 hg10
              have bU9 := hr10.below
              refine hK.out _ _ (HS0.out bU9) (fun hHeld2 => ?_)
              clear hK K hHeld; have hHeld := hHeld2; clear hHeld2
              try go_frame
              refine tr 14 (fun K hK => ?_)
              refine row_appendS_wp RStr.firm (A := Fresh wc) (w0 := wc) _ _ 30 9 rfl _ 16 infostr Try.underlying30 rfl (by decide) (by decide) _ (M.take t ++ [x]) rfl hr10 (if c = t then some ⟨g, 0, none⟩ else some ⟨g, t, none⟩) (M.length - t) (c - t) (M.drop t) rfl (((HSd.out.on RStr.firm bU9).src RStr.firm).flat RStr.flat) (by have h1 := hbt.out; simp; omega) ?_
              intro v14 U10 hr14 hg14
              have bU10 := hr14.below
              refine hK.out _ _ (HS0.out bU10) (fun hHeld2 => ?_)
              clear hK K hHeld; have hHeld := hHeld2; clear hHeld2
              try go_frame
              have hrow2 : Row RStr 1 (Fresh w) w U10 9 v14 (sortB sLt sEq (L.take (k + 1))) := by
                have h14 := hr14
                rw [List.append_assoc] at h14
                rw [HT.out, HE.out]
                exact h14.from RStr.firm hbw (fun b hb => Nat.le_trans hbw.size hb)
              obtain ⟨g2, m2, c2, e14⟩ : ∃ g2 m2 c2, v14 = .slice (some ⟨g2, 0, none⟩) m2 c2 := by
                obtain ⟨xs, ⟨_, ho⟩, _⟩ := hr14
                rcases own_cells ho with ⟨_, h0⟩ | ⟨g2, c2, e, _⟩
                · simp at h0
                · exact ⟨g2, _, c2, e⟩
              subst e14
              have hrow3 : Hid (Row RStr 1 (Fresh w) w U10 9 (.slice (some ⟨g2, 0, none⟩) m2 c2) (sortB sLt sEq (L.take (k + 1)))) := hrow2
              clear hrow2 hr14 hr10 hr4 hg10 hg14
              refine' tk 15 ?_ ?_; rotate_left
              · intro u _; go_simp; try with_reducible rfl
              try go_frame
              refine wpAnyH_done (by kernel_rfl) ?_ _
              refine NoPanic.normal ?_
              go_wp2_with fail
              go_roundw
              case rel => exact ⟨k + 1, g2, m2, c2, by omega, by go_num, rfl, hrow3⟩
              case measure => simp [intOf]; omega
          ·
            have HE : Hid (insB sLt sEq M x = M) := by
              have h1 : (t < M.length ∧ sEq (M.getD t default) x = true) := by
                have h2 := hr.out
                exact of_decide_eq_true (by exact h2.symm)
              rw [Hid, HIN.out, if_pos h1]
            have hrow2 : Hid (Row RStr 1 (Fresh w) w wc 9 (.slice (some ⟨g, 0, none⟩) M.length c) (sortB sLt sEq (L.take (k + 1)))) := by rw [HT.out, HE.out]; exact hrow
            clear HE HIN
            go_wp2_with fail
            go_roundw
            case rel => exact ⟨k + 1, g, _, c, by omega, by go_num, rfl, hrow2⟩
            case measure => simp [intOf]; omega
    · have hk9 : L.take k = L := List.take_of_length_le (by rw [hn.out]; omega)
      obtain ⟨a9, c9, e1, h2⟩ := hrow.out.slF (bytes := 16) RStr.firm (Nat.le_trans (Nat.mul_le_mul_right 16 (by omega)) hbb.out)
      rw [hk9] at e1 h2
      have hb9 := hrow.out.below
      injection e1 with e1 e2 e3
      subst e1
      subst e3
      subst e2
      have h3 : Hid (SlAt RStr 1 16 (Fresh w) wr (some ⟨g, 0, none⟩) (sortB sLt sEq L).length c (sortB sLt sEq L)) := h2
      clear h2 hrow
      go_wp2_with fail
      go_ret
      exact ⟨_, c, rfl, h3.out, hb9⟩
end Go.Proofs.Ytpjgffcpjabghaa
