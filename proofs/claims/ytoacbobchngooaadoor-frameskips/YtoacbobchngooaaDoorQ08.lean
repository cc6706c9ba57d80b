/- The document's Run. Condition: the frame lies as is said of it, and the calls are not too many. The document's Reset. Condition: the frame lies as is said of it. The document's Scores. Condition: the frame lies as is said of it, and its plugins are right. -/
import Derived.Test.YtoacbobchngooaaDoorQ07
import Derived.BigQuiet
namespace Go.Proofs.YtoacbobchngooaaDoor
open Go.RowKit Go.Maps
set_option linter.unusedSimpArgs false
set_option maxRecDepth 100000

theorem drop_consF {α : Type} [Inhabited α] {L : List α} {k : Nat} (h : k < L.length) : L.drop k = L.getD k default :: L.drop (k + 1) := by
  rw [List.drop_eq_getElem_cons h, List.getD_eq_getElem?_getD, List.getElem?_eq_getElem h]; rfl
/-- Where a run stands at plugin k. -/
def RunI (w u : World) (p : Nat) (la : Option Addr) (n lc : Nat) (b c : Value) (Q : Where) (f : FrD) (pt : Int) (k : Nat) (wt : Bool) (z : World) : Prop :=
  ∃ sk cs, RfO w u p la n lc b c Q (f.1, sk, cs) z ∧ runL f.1 pt (f.1.drop k) k sk cs wt = runL f.1 pt f.1 0 f.2.1 f.2.2 false ∧ cs.length ≤ f.2.2.length + k ∧ sk.length = n
theorem idx5 {pt : Int} (hp : 1 ≤ pt ∧ pt ≤ 4) (x : PlugD) (w : World) : (Instr.index 67 (.agg #[.int .i64 0, .int .i64 x.2.1, .int .i64 x.2.2.1, .int .i64 x.2.2.2.1, .int .i64 x.2.2.2.2.1]) (.int .i64 pt)).run Tryd.prog w = .ok (.int .i64 (codeAt x pt)) w := by
  rcases (show pt = 1 ∨ pt = 2 ∨ pt = 3 ∨ pt = 4 by omega) with rfl | rfl | rfl | rfl
  · rw [show codeAt x 1 = x.2.1 by rfl]; kernel_rfl
  · rw [show codeAt x 2 = x.2.2.1 by rfl]; kernel_rfl
  · rw [show codeAt x 3 = x.2.2.2.1 by rfl]; kernel_rfl
  · rw [show codeAt x 4 = x.2.2.2.2.1 by rfl]; kernel_rfl
set_option maxHeartbeats 8000000 in
theorem rrun_calls {w u : World} {p : Nat} {la : Option Addr} {n lc : Nat} {b c : Value} {Q : Where} {f : FrD} (h : RfE w u p la n lc b c Q f) (hK : f.2.1.length = n) (h64 : n ≤ 64) (hC : f.2.2.length ≤ 100000000) (pt : Int) :
    Calls Tryd.prog 15 #[.pointer (some ⟨p, 0, none⟩), .int .i64 pt] u fun e w' => e = .returned (.tuple #[.int .i64 (runP f pt).2, .int .i64 (runE pt)]) ∧ RfO w u p la n lc b c Q (runP f pt).1 w' := by
  have Hh : Hid (RfE w u p la n lc b c Q f) := h
  have hnl : Hid (f.1.length = n) := h.sl.1
  by_cases hlo : pt < 1
  · have e1 : runP f pt = (f, 0) := by unfold runP; rw [if_pos (.inl hlo)]
    have e2 : runE pt = 2 := by unfold runE; rw [if_pos (.inl hlo)]
    rw [e1, e2]
    clear h e1 e2
    go_enter Tryd.func15, Tryd.ntmps15
    go_wp2_with fail
    go_ret2
    exact ⟨rfl, RfO.refl Hh.out⟩
  by_cases hhi : 5 < pt
  · have e1 : runP f pt = (f, 0) := by unfold runP; rw [if_pos (.inr hhi)]
    have e2 : runE pt = 2 := by unfold runE; rw [if_pos (.inr hhi)]
    rw [e1, e2]
    clear h e1 e2
    go_enter Tryd.func15, Tryd.ntmps15
    go_wp2_with fail
    go_ret2
    exact ⟨rfl, RfO.refl Hh.out⟩
  have e2 : runE pt = 0 := runE_in (by omega)
  rw [e2]
  clear e2
  by_cases h5 : pt = 5
  · subst h5
    have e1 : runP f 5 = ((f.1, f.2.1, f.2.2 ++ unresP f.1 f.1.length), 0) := by unfold runP; rw [if_neg (by decide), if_pos rfl]
    rw [e1, hnl.out]
    have c0 := h.cells.1.1
    have hA := runres_calls h (m := n) (Nat.le_refl _) (by omega)
    clear h e1
    go_enter Tryd.func15, Tryd.ntmps15
    go_wp2_with fail
    refine hA.mono ?_
    rintro e w5 ⟨rfl, h5⟩
    have HE : Hid (RfO w u p la n lc b c Q (f.1, f.2.1, f.2.2 ++ unresP f.1 n) w5) := h5
    clear hA h5
    go_wp2_with fail
    go_ret2
    exact ⟨rfl, HE.out⟩
  have hp4 : 1 ≤ pt ∧ pt ≤ 4 := by omega
  have h5z : (pt == 5) = false := by simpa using h5
  rw [runP_mid f hp4]
  obtain ⟨ba, bc, rfl, hbg⟩ := h.rb.formF
  rw [hK] at hbg ⊢
  have HBG : Hid (0 < n → ∃ g, ba = some ⟨g, 0, none⟩) := hbg
  have H0 : Hid (RunI w u p la n lc (.slice ba n bc) c Q f pt 0 false u) := ⟨f.2.1, f.2.2, RfO.refl (by rw [hK] at h; exact h), by rw [List.drop_zero], by omega, hK⟩
  obtain ⟨RR, hRR⟩ : ∃ R, R = runL f.1 pt f.1 0 f.2.1 f.2.2 false := ⟨_, rfl⟩
  have HRR : Hid (runL f.1 pt f.1 0 f.2.1 f.2.2 false = RR) := hRR.symm
  rw [← hRR]
  clear h hbg Hh hRR h5 hK
  go_enter Tryd.func15, Tryd.ntmps15
  go_wp2_with fail
  --M1
  go_loopw [6, 7] (fun v i z => ∃ k : Nat, k ≤ n ∧ i = .int .i64 k ∧ ∃ wt : Bool, v = .bool wt ∧ Hid (RunI w u p la n lc (.slice ba n bc) c Q f pt k wt z)) (fun _ i _ => n - (intOf i).toNat)
  case atStart => exact ⟨0, Nat.zero_le _, rfl, false, rfl, H0⟩
  case round =>
    clear H0
    obtain ⟨k, hk, rfl, wt, rfl, hrun⟩ := hrel
    obtain ⟨sk, cs, ⟨c1, h1, t1, o1⟩, hst, hcl, hsl⟩ := hrun.out
    rw [HRR.out] at hst
    have q0 := h1.cells.1.1
    by_cases hlt : k < n
    · have hltz : (k : Int) < (n : Int) := by omega
      have hkl : k < f.1.length := by rw [hnl.out]; exact hlt
      obtain ⟨g, rfl⟩ := HBG.out (by omega)
      obtain ⟨D, off, sa, sn, sc, hla, hD, hv, hsz, _⟩ := h1.plug hlt
      obtain ⟨x, hx⟩ : ∃ x, x = f.1.getD k default := ⟨_, rfl⟩
      have hv : wr.rangeAt D (off + k * 7) [.string x.1, .int .i64 x.2.1, .int .i64 x.2.2.1, .int .i64 x.2.2.2.1, .int .i64 x.2.2.2.2.1, .int .i64 (plW x), .slice sa sn sc] := by rw [hx]; exact hv
      have d1 := hv 1 _ rfl
      have d2 := hv 2 _ rfl
      have d3 := hv 3 _ rfl
      have d4 := hv 4 _ rfl
      have hidx := idx5 hp4 x
      rw [drop_consF hkl, ← hx] at hst
      unfold runL at hst
      have HX : Hid (f.1.getD k default = x) := hx.symm
      obtain ⟨cd, hcd⟩ : ∃ cd, cd = codeAt x pt := ⟨_, rfl⟩
      rw [← hcd] at hst hidx
      obtain ⟨x1, hx1⟩ : ∃ y, y = x.2.1 := ⟨_, rfl⟩
      obtain ⟨x2, hx2⟩ : ∃ y, y = x.2.2.1 := ⟨_, rfl⟩
      obtain ⟨x3, hx3⟩ : ∃ y, y = x.2.2.2.1 := ⟨_, rfl⟩
      obtain ⟨x4, hx4⟩ : ∃ y, y = x.2.2.2.2.1 := ⟨_, rfl⟩
      rw [← hx1, ← hx2, ← hx3, ← hx4] at hidx
      rw [← hx1] at d1
      rw [← hx2] at d2
      rw [← hx3] at d3
      rw [← hx4] at d4
      have HST : Hid ((if pt = 2 ∧ sk.getD k default = true then runL f.1 pt (f.1.drop (k + 1)) (k + 1) sk cs wt else if cd = 0 ∨ cd = 4 then runL f.1 pt (f.1.drop (k + 1)) (k + 1) (if cd = 4 ∧ pt = 1 then sk.set k true else sk) (cs ++ [callS x.1 pt]) wt else if cd = 3 ∧ pt = 4 then runL f.1 pt (f.1.drop (k + 1)) (k + 1) sk (cs ++ [callS x.1 pt]) true else (sk, cs ++ [callS x.1 pt] ++ (if pt = 3 then unresP f.1 (k + 1) else []), if cd = 3 then 2 else cd)) = RR) := hst
      have H1 : Hid (RfE w wr p la n lc (.slice (some ⟨g, 0, none⟩) n bc) c1 Q (f.1, sk, cs) ∧ Turns (DF p (.slice (some ⟨g, 0, none⟩) n bc) c) u wr ∧ (c1.ownBlock = c.ownBlock ∨ ∀ x, c1.ownBlock = some x → u.heap.size ≤ x) ∧ cs.length ≤ f.2.2.length + k ∧ sk.length = n) := ⟨h1, t1, o1, hcl, hsl⟩
      subst hla
      clear hrun h1 t1 o1 hst hcl hsl hx hcd hx1 hx2 hx3 hx4 hv hsz
      go_upto_region 10 with fail
      --M2
      go_quiet (fail)
      generalize hZ : World.drewN _ _ = Z
      have HZ : Hid (Below wr.heap.size wr Z) := by rw [← hZ]; exact below_drewN (Below.refl _ _) _
      clear hZ d1 d2 d3 d4 q0 hidx
      have h2 := H1.out.1.on HZ.out
      have t2 : Turns (DF p (.slice (some ⟨g, 0, none⟩) n bc) c) u Z := H1.out.2.1.trans (Turns.below HZ.out)
      have q1 := h2.cells.1.2.1
      obtain ⟨g', c', ss, hbe, _, hrs, hcs⟩ := h2.rb.getG RBool.firm (i := k) (by show k < sk.length; rw [H1.out.2.2.2.2]; exact hlt)
      simp only [Value.slice.injEq, Option.some.injEq, Addr.mk.injEq, and_true, true_and] at hbe
      obtain ⟨rfl, _⟩ := hbe
      obtain rfl : ss = [.bool (sk.getD k default)] := hrs
      have s0 := hcs 0 _ rfl
      rw [Nat.mul_one, Nat.add_zero] at s0
      obtain ⟨sb, hsb⟩ : ∃ sb, sb = sk.getD k default := ⟨_, rfl⟩
      rw [← hsb] at s0
      rw [← hsb] at HST
      have H2 : Hid (RfE w Z p (some ⟨D, off, none⟩) n lc (.slice (some ⟨g, 0, none⟩) n bc) c1 Q (f.1, sk, cs) ∧ Turns (DF p (.slice (some ⟨g, 0, none⟩) n bc) c) u Z ∧ (c1.ownBlock = c.ownBlock ∨ ∀ x, c1.ownBlock = some x → u.heap.size ≤ x) ∧ cs.length ≤ f.2.2.length + k ∧ sk.length = n) := ⟨h2, t2, H1.out.2.2⟩
      clear h2 t2 hcs hsb HZ H1
      have hsp : (pt = 2 ∧ sb = true) ∨ (pt = 2 ∧ sb = false) ∨ (pt == 2) = false := by
        by_cases h : pt = 2
        · cases sb with
          | true => exact .inl ⟨h, rfl⟩
          | false => exact .inr (.inl ⟨h, rfl⟩)
        · exact .inr (.inr (by simpa using h))
      --M3
      rcases hsp with ⟨rfl, rfl⟩ | hsp
      · rw [if_pos ⟨rfl, rfl⟩] at HST
        have HE : Hid (RunI w u p (some ⟨D, off, none⟩) n lc (.slice (some ⟨g, 0, none⟩) n bc) c Q f 2 (k + 1) wt Z) := ⟨sk, cs, ⟨c1, H2.out.1, H2.out.2.1, H2.out.2.2.1⟩, by rw [HRR.out]; exact HST.out, by have := H2.out.2.2.2.1; omega, H2.out.2.2.2.2⟩
        clear H2 HST
        go_wp2_with fail
        --M4
        go_roundw
        case rel => exact ⟨k + 1, by omega, by go_num, wt, rfl, HE⟩
        case measure => simp [intOf]; omega
      · have hno : ¬ (pt = 2 ∧ sb = true) := fun e => by
          rcases hsp with ⟨_, h⟩ | h
          · rw [h] at e; exact absurd e.2 (by decide)
          · rw [e.1] at h; exact absurd h (by decide)
        rw [if_neg hno] at HST
        have hA := rcall_calls H2.out.1 hlt (pt := pt) (by omega) (by show cs.length ≤ 1000000000; have := H2.out.2.2.2.1; omega)
        dsimp only at hA
        rw [HX.out] at hA
        have hcode : ((cd == 4) = true ∧ (pt == 1) = true) ∨ ((cd == 4) = true ∧ (pt == 1) = false) ∨ ((cd == 4) = false ∧ (cd == 0) = true) ∨ ((cd == 4) = false ∧ (cd == 0) = false ∧ (cd == 3) = true ∧ (pt == 4) = true) ∨ ((cd == 4) = false ∧ (cd == 0) = false ∧ (cd == 3) = true ∧ (pt == 4) = false) ∨ ((cd == 4) = false ∧ (cd == 0) = false ∧ (cd == 3) = false) := by
          cases (cd == 4) <;> cases (cd == 0) <;> cases (cd == 3) <;> cases (pt == 1) <;> cases (pt == 4) <;> simp
        have HCode : Hid ((cd == 4) = decide (cd = 4) ∧ (cd == 0) = decide (cd = 0) ∧ (cd == 3) = decide (cd = 3) ∧ (pt == 1) = decide (pt = 1) ∧ (pt == 4) = decide (pt = 4)) := ⟨rfl, rfl, rfl, rfl, rfl⟩
        clear hno
        --M5
        rcases hsp with ⟨rfl, rfl⟩ | hsp
        · rcases hcode with ⟨k4, k1⟩ | ⟨k4, k1⟩ | ⟨k4, k0⟩ | ⟨k4, k0, k3, p4⟩ | ⟨k4, k0, k3, p4⟩ | ⟨k4, k0, k3⟩
          · exact absurd k1 (by decide)
          · have k0 : (cd == 0) = false := (by have e : cd = 4 := (by simpa using k4); rw [e]; rfl)
            have j4 : (cd = 4) = True := by simpa using k4
            simp only [j4, show ((2 : Int) = 1) = False by simp, show ((2 : Int) = 4) = False by simp, show ((2 : Int) = 3) = False by simp, true_or, or_true, false_or, or_false, if_true, if_false, true_and, and_true, false_and, and_false] at HST
            clear j4
            go_wp2_with fail
            refine hA.mono ?_
            rintro e w5 ⟨rfl, h5⟩
            obtain ⟨c2, e6, t6, o6⟩ := RfO.trans H2.out.1 H2.out.2.1 H2.out.2.2.1 h5
            have HL : Hid ((cs ++ [callS x.1 2]).length ≤ f.2.2.length + (k + 1)) := by have h := H2.out.2.2.2.1; rw [Hid, List.length_append, List.length_singleton]; omega
            have HE : Hid (RunI w u p (some ⟨D, off, none⟩) n lc (.slice (some ⟨g, 0, none⟩) n bc) c Q f 2 (k + 1) wt w5) := ⟨sk, cs ++ [callS x.1 2], ⟨c2, e6, t6, o6⟩, by rw [HRR.out]; exact HST.out, HL.out, H2.out.2.2.2.2⟩
            clear hA h5 e6 t6 o6 H2 HST HL
            go_wp2_with fail
            go_roundw
            case rel => exact ⟨k + 1, by omega, by go_num, wt, rfl, HE⟩
            case measure => simp [intOf]; omega
          · have j4 : (cd = 4) = False := by simpa using k4
            have j0 : (cd = 0) = True := by simpa using k0
            simp only [j4, j0, show ((2 : Int) = 1) = False by simp, show ((2 : Int) = 4) = False by simp, show ((2 : Int) = 3) = False by simp, true_or, or_true, false_or, or_false, if_true, if_false, true_and, and_true, false_and, and_false] at HST
            clear j4 j0
            go_wp2_with fail
            refine hA.mono ?_
            rintro e w5 ⟨rfl, h5⟩
            obtain ⟨c2, e6, t6, o6⟩ := RfO.trans H2.out.1 H2.out.2.1 H2.out.2.2.1 h5
            have HL : Hid ((cs ++ [callS x.1 2]).length ≤ f.2.2.length + (k + 1)) := by have h := H2.out.2.2.2.1; rw [Hid, List.length_append, List.length_singleton]; omega
            have HE : Hid (RunI w u p (some ⟨D, off, none⟩) n lc (.slice (some ⟨g, 0, none⟩) n bc) c Q f 2 (k + 1) wt w5) := ⟨sk, cs ++ [callS x.1 2], ⟨c2, e6, t6, o6⟩, by rw [HRR.out]; exact HST.out, HL.out, H2.out.2.2.2.2⟩
            clear hA h5 e6 t6 o6 H2 HST HL
            go_wp2_with fail
            go_roundw
            case rel => exact ⟨k + 1, by omega, by go_num, wt, rfl, HE⟩
            case measure => simp [intOf]; omega
          · exact absurd p4 (by decide)
          · have j4 : (cd = 4) = False := by simpa using k4
            have j0 : (cd = 0) = False := by simpa using k0
            have j3 : (cd = 3) = True := by simpa using k3
            simp only [j4, j0, j3, show ((2 : Int) = 1) = False by simp, show ((2 : Int) = 4) = False by simp, show ((2 : Int) = 3) = False by simp, true_or, or_true, false_or, or_false, if_true, if_false, true_and, and_true, false_and, and_false] at HST
            clear j4 j0 j3
            go_wp2_with fail
            refine hA.mono ?_
            rintro e w5 ⟨rfl, h5⟩
            obtain ⟨c2, e6, t6, o6⟩ := RfO.trans H2.out.1 H2.out.2.1 H2.out.2.2.1 h5
            have HL : Hid ((cs ++ [callS x.1 2]).length ≤ f.2.2.length + (k + 1)) := by have h := H2.out.2.2.2.1; rw [Hid, List.length_append, List.length_singleton]; omega
            have HR : Hid (RR = (sk, cs ++ [callS x.1 2] ++ [], 2)) := HST.out.symm
            have HE : Hid (RfO w u p (some ⟨D, off, none⟩) n lc (.slice (some ⟨g, 0, none⟩) n bc) c Q (f.1, RR.1, RR.2.1) w5) := by rw [HR.out, List.append_nil]; exact ⟨c2, e6, t6, o6⟩
            clear hA h5 e6 t6 o6 H2 HST HL
            go_wp2_with fail
            go_ret2
            exact ⟨(by rw [HR.out] <;> rfl), HE.out⟩
          · have j4 : (cd = 4) = False := by simpa using k4
            have j0 : (cd = 0) = False := by simpa using k0
            have j3 : (cd = 3) = False := by simpa using k3
            simp only [j4, j0, j3, show ((2 : Int) = 1) = False by simp, show ((2 : Int) = 4) = False by simp, show ((2 : Int) = 3) = False by simp, true_or, or_true, false_or, or_false, if_true, if_false, true_and, and_true, false_and, and_false] at HST
            clear j4 j0 j3
            go_wp2_with fail
            refine hA.mono ?_
            rintro e w5 ⟨rfl, h5⟩
            obtain ⟨c2, e6, t6, o6⟩ := RfO.trans H2.out.1 H2.out.2.1 H2.out.2.2.1 h5
            have HL : Hid ((cs ++ [callS x.1 2]).length ≤ f.2.2.length + (k + 1)) := by have h := H2.out.2.2.2.1; rw [Hid, List.length_append, List.length_singleton]; omega
            have HR : Hid (RR = (sk, cs ++ [callS x.1 2] ++ [], cd)) := HST.out.symm
            have HE : Hid (RfO w u p (some ⟨D, off, none⟩) n lc (.slice (some ⟨g, 0, none⟩) n bc) c Q (f.1, RR.1, RR.2.1) w5) := by rw [HR.out, List.append_nil]; exact ⟨c2, e6, t6, o6⟩
            clear hA h5 e6 t6 o6 H2 HST HL
            go_wp2_with fail
            go_ret2
            exact ⟨(by rw [HR.out] <;> rfl), HE.out⟩
        · rcases hcode with ⟨k4, k1⟩ | ⟨k4, k1⟩ | ⟨k4, k0⟩ | ⟨k4, k0, k3, p4⟩ | ⟨k4, k0, k3, p4⟩ | ⟨k4, k0, k3⟩
          · have k0 : (cd == 0) = false := (by have e : cd = 4 := (by simpa using k4); rw [e]; rfl)
            have j4 : (cd = 4) = True := by simpa using k4
            have j1 : (pt = 1) = True := by simpa using k1
            simp only [j4, j1, true_or, or_true, false_or, or_false, if_true, if_false, true_and, and_true, false_and, and_false] at HST
            clear j4 j1
            go_wp2_with fail
            refine hA.mono ?_
            rintro e w5 ⟨rfl, h5⟩
            obtain ⟨c2, e6, t6, o6⟩ := RfO.trans H2.out.1 H2.out.2.1 H2.out.2.2.1 h5
            have HL : Hid ((cs ++ [callS x.1 pt]).length ≤ f.2.2.length + (k + 1)) := by have h := H2.out.2.2.2.1; rw [Hid, List.length_append, List.length_singleton]; omega
            have q5 := e6.cells.1.2.1
            obtain ⟨g', c', ss, hbe, _, hrs, hcs⟩ := e6.rb.getG RBool.firm (i := k) (by show k < sk.length; rw [H2.out.2.2.2.2]; exact hlt)
            simp only [Value.slice.injEq, Option.some.injEq, Addr.mk.injEq, and_true, true_and] at hbe
            obtain ⟨rfl, _⟩ := hbe
            obtain rfl : ss = [.bool (sk.getD k default)] := hrs
            have s5 := hcs 0 _ rfl
            rw [Nat.mul_one, Nat.add_zero] at s5
            have n5 := e6.rb.meltsG (o := k)
            have hN := e6.setB (show sk.length = n from H2.out.2.2.2.2) hlt true
            have HE : Hid (RunI w u p (some ⟨D, off, none⟩) n lc (.slice (some ⟨g, 0, none⟩) n bc) c Q f pt (k + 1) wt (w5.setCell ⟨g, k, none⟩ (.bool true))) := ⟨sk.set k true, cs ++ [callS x.1 pt], ⟨c2, hN, t6.trans (Turns.set (p := ⟨g, k, none⟩) (.inr (.inl rfl)) _), o6⟩, by rw [HRR.out]; exact HST.out, HL.out, by rw [List.length_set]; exact H2.out.2.2.2.2⟩
            clear hA h5 e6 t6 o6 hN hcs H2 HST HL
            go_wp2_with fail
            go_roundw
            case rel => exact ⟨k + 1, by omega, by go_num, wt, rfl, HE⟩
            case measure => simp [intOf]; omega
          · have k0 : (cd == 0) = false := (by have e : cd = 4 := (by simpa using k4); rw [e]; rfl)
            have j4 : (cd = 4) = True := by simpa using k4
            have j1 : (pt = 1) = False := by simpa using k1
            simp only [j4, j1, true_or, or_true, false_or, or_false, if_true, if_false, true_and, and_true, false_and, and_false] at HST
            clear j4 j1
            go_wp2_with fail
            refine hA.mono ?_
            rintro e w5 ⟨rfl, h5⟩
            obtain ⟨c2, e6, t6, o6⟩ := RfO.trans H2.out.1 H2.out.2.1 H2.out.2.2.1 h5
            have HL : Hid ((cs ++ [callS x.1 pt]).length ≤ f.2.2.length + (k + 1)) := by have h := H2.out.2.2.2.1; rw [Hid, List.length_append, List.length_singleton]; omega
            have HE : Hid (RunI w u p (some ⟨D, off, none⟩) n lc (.slice (some ⟨g, 0, none⟩) n bc) c Q f pt (k + 1) wt w5) := ⟨sk, cs ++ [callS x.1 pt], ⟨c2, e6, t6, o6⟩, by rw [HRR.out]; exact HST.out, HL.out, H2.out.2.2.2.2⟩
            clear hA h5 e6 t6 o6 H2 HST HL
            go_wp2_with fail
            go_roundw
            case rel => exact ⟨k + 1, by omega, by go_num, wt, rfl, HE⟩
            case measure => simp [intOf]; omega
          · have j4 : (cd = 4) = False := by simpa using k4
            have j0 : (cd = 0) = True := by simpa using k0
            simp only [j4, j0, true_or, or_true, false_or, or_false, if_true, if_false, true_and, and_true, false_and, and_false] at HST
            clear j4 j0
            go_wp2_with fail
            refine hA.mono ?_
            rintro e w5 ⟨rfl, h5⟩
            obtain ⟨c2, e6, t6, o6⟩ := RfO.trans H2.out.1 H2.out.2.1 H2.out.2.2.1 h5
            have HL : Hid ((cs ++ [callS x.1 pt]).length ≤ f.2.2.length + (k + 1)) := by have h := H2.out.2.2.2.1; rw [Hid, List.length_append, List.length_singleton]; omega
            have HE : Hid (RunI w u p (some ⟨D, off, none⟩) n lc (.slice (some ⟨g, 0, none⟩) n bc) c Q f pt (k + 1) wt w5) := ⟨sk, cs ++ [callS x.1 pt], ⟨c2, e6, t6, o6⟩, by rw [HRR.out]; exact HST.out, HL.out, H2.out.2.2.2.2⟩
            clear hA h5 e6 t6 o6 H2 HST HL
            go_wp2_with fail
            go_roundw
            case rel => exact ⟨k + 1, by omega, by go_num, wt, rfl, HE⟩
            case measure => simp [intOf]; omega
          · have j4 : (cd = 4) = False := by simpa using k4
            have j0 : (cd = 0) = False := by simpa using k0
            have j3 : (cd = 3) = True := by simpa using k3
            have j5 : (pt = 4) = True := by simpa using p4
            simp only [j4, j0, j3, j5, true_or, or_true, false_or, or_false, if_true, if_false, true_and, and_true, false_and, and_false] at HST
            clear j4 j0 j3 j5
            go_wp2_with fail
            refine hA.mono ?_
            rintro e w5 ⟨rfl, h5⟩
            obtain ⟨c2, e6, t6, o6⟩ := RfO.trans H2.out.1 H2.out.2.1 H2.out.2.2.1 h5
            have HL : Hid ((cs ++ [callS x.1 pt]).length ≤ f.2.2.length + (k + 1)) := by have h := H2.out.2.2.2.1; rw [Hid, List.length_append, List.length_singleton]; omega
            have HE : Hid (RunI w u p (some ⟨D, off, none⟩) n lc (.slice (some ⟨g, 0, none⟩) n bc) c Q f pt (k + 1) true w5) := ⟨sk, cs ++ [callS x.1 pt], ⟨c2, e6, t6, o6⟩, by rw [HRR.out]; exact HST.out, HL.out, H2.out.2.2.2.2⟩
            clear hA h5 e6 t6 o6 H2 HST HL
            go_wp2_with fail
            go_roundw
            case rel => exact ⟨k + 1, by omega, by go_num, true, rfl, HE⟩
            case measure => simp [intOf]; omega
          · have j4 : (cd = 4) = False := by simpa using k4
            have j0 : (cd = 0) = False := by simpa using k0
            have j3 : (cd = 3) = True := by simpa using k3
            have j5 : (pt = 4) = False := by simpa using p4
            simp only [j4, j0, j3, j5, true_or, or_true, false_or, or_false, if_true, if_false, true_and, and_true, false_and, and_false] at HST
            clear j4 j0 j3 j5
            go_wp2_with fail
            refine hA.mono ?_
            rintro e w5 ⟨rfl, h5⟩
            obtain ⟨c2, e6, t6, o6⟩ := RfO.trans H2.out.1 H2.out.2.1 H2.out.2.2.1 h5
            have HL : Hid ((cs ++ [callS x.1 pt]).length ≤ f.2.2.length + (k + 1)) := by have h := H2.out.2.2.2.1; rw [Hid, List.length_append, List.length_singleton]; omega
            by_cases h3 : pt = 3
            · have p3 : (pt == 3) = true := by rw [h3]; rfl
              rw [if_pos h3] at HST
              have HR : Hid (RR = (sk, cs ++ [callS x.1 pt] ++ unresP f.1 (k + 1), 2)) := HST.out.symm
              have hA2 := runres_calls e6 (m := k + 1) (by omega) (by show (cs ++ [callS x.1 pt]).length + (k + 1) ≤ 1000000000; have := HL.out; omega)
              rw [show ((k + 1 : Nat) : Int) = (k : Int) + 1 by omega] at hA2
              have H6 : Hid (RfE w w5 p (some ⟨D, off, none⟩) n lc (.slice (some ⟨g, 0, none⟩) n bc) c2 Q (f.1, sk, cs ++ [callS x.1 pt]) ∧ Turns (DF p (.slice (some ⟨g, 0, none⟩) n bc) c) u w5 ∧ (c2.ownBlock = c.ownBlock ∨ ∀ x, c2.ownBlock = some x → u.heap.size ≤ x)) := ⟨e6, t6, o6⟩
              clear hA h5 e6 t6 o6 H2 HST HL h3
              go_wp2_with fail
              refine hA2.mono ?_
              rintro e w7 ⟨rfl, h7⟩
              have HE : Hid (RfO w u p (some ⟨D, off, none⟩) n lc (.slice (some ⟨g, 0, none⟩) n bc) c Q (f.1, RR.1, RR.2.1) w7) := by rw [HR.out]; exact RfO.trans H6.out.1 H6.out.2.1 H6.out.2.2 h7
              clear hA2 h7 H6
              go_wp2_with fail
              go_ret2
              exact ⟨(by rw [HR.out] <;> rfl), HE.out⟩
            · have p3 : (pt == 3) = false := by simpa using h3
              rw [if_neg h3] at HST
              have HR : Hid (RR = (sk, cs ++ [callS x.1 pt] ++ [], 2)) := HST.out.symm
              have HE : Hid (RfO w u p (some ⟨D, off, none⟩) n lc (.slice (some ⟨g, 0, none⟩) n bc) c Q (f.1, RR.1, RR.2.1) w5) := by rw [HR.out, List.append_nil]; exact ⟨c2, e6, t6, o6⟩
              clear hA h5 e6 t6 o6 H2 HST HL h3
              go_wp2_with fail
              go_ret2
              exact ⟨(by rw [HR.out] <;> rfl), HE.out⟩
          · have j4 : (cd = 4) = False := by simpa using k4
            have j0 : (cd = 0) = False := by simpa using k0
            have j3 : (cd = 3) = False := by simpa using k3
            simp only [j4, j0, j3, true_or, or_true, false_or, or_false, if_true, if_false, true_and, and_true, false_and, and_false] at HST
            clear j4 j0 j3
            go_wp2_with fail
            refine hA.mono ?_
            rintro e w5 ⟨rfl, h5⟩
            obtain ⟨c2, e6, t6, o6⟩ := RfO.trans H2.out.1 H2.out.2.1 H2.out.2.2.1 h5
            have HL : Hid ((cs ++ [callS x.1 pt]).length ≤ f.2.2.length + (k + 1)) := by have h := H2.out.2.2.2.1; rw [Hid, List.length_append, List.length_singleton]; omega
            by_cases h3 : pt = 3
            · have p3 : (pt == 3) = true := by rw [h3]; rfl
              rw [if_pos h3] at HST
              have HR : Hid (RR = (sk, cs ++ [callS x.1 pt] ++ unresP f.1 (k + 1), cd)) := HST.out.symm
              have hA2 := runres_calls e6 (m := k + 1) (by omega) (by show (cs ++ [callS x.1 pt]).length + (k + 1) ≤ 1000000000; have := HL.out; omega)
              rw [show ((k + 1 : Nat) : Int) = (k : Int) + 1 by omega] at hA2
              have H6 : Hid (RfE w w5 p (some ⟨D, off, none⟩) n lc (.slice (some ⟨g, 0, none⟩) n bc) c2 Q (f.1, sk, cs ++ [callS x.1 pt]) ∧ Turns (DF p (.slice (some ⟨g, 0, none⟩) n bc) c) u w5 ∧ (c2.ownBlock = c.ownBlock ∨ ∀ x, c2.ownBlock = some x → u.heap.size ≤ x)) := ⟨e6, t6, o6⟩
              clear hA h5 e6 t6 o6 H2 HST HL h3
              go_wp2_with fail
              refine hA2.mono ?_
              rintro e w7 ⟨rfl, h7⟩
              have HE : Hid (RfO w u p (some ⟨D, off, none⟩) n lc (.slice (some ⟨g, 0, none⟩) n bc) c Q (f.1, RR.1, RR.2.1) w7) := by rw [HR.out]; exact RfO.trans H6.out.1 H6.out.2.1 H6.out.2.2 h7
              clear hA2 h7 H6
              go_wp2_with fail
              go_ret2
              exact ⟨(by rw [HR.out] <;> rfl), HE.out⟩
            · have p3 : (pt == 3) = false := by simpa using h3
              rw [if_neg h3] at HST
              have HR : Hid (RR = (sk, cs ++ [callS x.1 pt] ++ [], cd)) := HST.out.symm
              have HE : Hid (RfO w u p (some ⟨D, off, none⟩) n lc (.slice (some ⟨g, 0, none⟩) n bc) c Q (f.1, RR.1, RR.2.1) w5) := by rw [HR.out, List.append_nil]; exact ⟨c2, e6, t6, o6⟩
              clear hA h5 e6 t6 o6 H2 HST HL h3
              go_wp2_with fail
              go_ret2
              exact ⟨(by rw [HR.out] <;> rfl), HE.out⟩
    · have hltz : ¬ (k : Int) < (n : Int) := by omega
      have hdk : f.1.drop k = [] := List.drop_eq_nil_of_le (by rw [hnl.out]; omega)
      rw [hdk] at hst
      unfold runL at hst
      have HE : Hid (RfO w u p la n lc (.slice ba n bc) c Q (f.1, RR.1, RR.2.1) wr ∧ RR.2.2 = (if wt = true then 3 else 0)) := by rw [← hst]; exact ⟨⟨c1, h1, t1, o1⟩, rfl⟩
      clear hrun h1 t1 o1 hst hcl hsl hdk
      cases wt
      · go_wp2_with fail
        go_ret2
        exact ⟨(by rw [HE.out.2] <;> rfl), HE.out.1⟩
      · go_wp2_with fail
        go_ret2
        exact ⟨(by rw [HE.out.2] <;> rfl), HE.out.1⟩
end Go.Proofs.YtoacbobchngooaaDoor
namespace Go.Proofs.YtoacbobchngooaaDoor
open Go.RowKit Go.Maps
set_option linter.unusedSimpArgs false
set_option maxRecDepth 100000

def turnG {α : Type} (h : α → α) (l : List α) (k : Nat) : List α := (l.take k).map h ++ l.drop k
theorem turnG_len {α : Type} (h : α → α) (l : List α) (k : Nat) : (turnG h l k).length = l.length := by unfold turnG; rw [List.length_append, List.length_map, List.length_take, List.length_drop]; omega
theorem turnG_zero {α : Type} (h : α → α) (l : List α) : turnG h l 0 = l := by unfold turnG; simp
theorem turnG_all {α : Type} (h : α → α) (l : List α) : turnG h l l.length = l.map h := by unfold turnG; simp
theorem turnG_get {α : Type} [Inhabited α] (h : α → α) (l : List α) {k : Nat} (hk : k < l.length) : (turnG h l k).getD k default = l.getD k default := by
  have h1 : ((l.take k).map h).length = k := by rw [List.length_map, List.length_take]; omega
  unfold turnG
  rw [List.getD_eq_getElem?_getD, List.getElem?_append_right (by omega), h1, Nat.sub_self, List.getElem?_drop, Nat.add_zero, ← List.getD_eq_getElem?_getD]
theorem turnG_set {α : Type} [Inhabited α] (h : α → α) (l : List α) {k : Nat} (hk : k < l.length) : (turnG h l k).set k (h (l.getD k default)) = turnG h l (k + 1) := by
  have h1 : ((l.take k).map h).length = k := by rw [List.length_map, List.length_take]; omega
  unfold turnG
  rw [List.set_append_right _ _ (by omega), h1, Nat.sub_self, List.drop_eq_getElem_cons hk, List.set_cons_zero, ← take_atG hk, List.map_append, List.append_assoc]
  rfl
set_option maxHeartbeats 4000000 in
theorem rreset_calls {w u : World} {p : Nat} {la : Option Addr} {n lc : Nat} {b c : Value} {Q : Where} {f : FrD} (h : RfE w u p la n lc b c Q f) (hK : f.2.1.length = n) (h64 : n ≤ 64) :
    Calls Tryd.prog 12 #[.pointer (some ⟨p, 0, none⟩)] u fun e w' => e = .returned (.tuple #[]) ∧ RfO w u p la n lc b c Q (resetP f) w' := by
  obtain ⟨ba, bc, rfl, hbg⟩ := h.rb.formF
  rw [hK] at hbg h ⊢
  have HBG : Hid (0 < n → ∃ g, ba = some ⟨g, 0, none⟩) := hbg
  have HK : Hid (f.2.1.length = n) := hK
  have d2 := h.cells.1.2.2
  have d3 := h.cells.2
  have hN := h.newC (u' := u) (v' := .slice none 0 0) (C' := []) (Kept.refl _ _) ((Row.nil _ w _).on RTxt.firm h.below) (.inr (fun x e => by cases e))
  obtain ⟨W1, hW1⟩ : ∃ Z, Z = u.setCell ⟨p, 2, none⟩ (.slice none 0 0) := ⟨_, rfl⟩
  rw [← hW1] at hN
  have HW1 : Hid (u.setCell ⟨p, 2, none⟩ (.slice none 0 0) = W1) := hW1.symm
  have H0 : Hid (RfE w W1 p la n lc (.slice ba n bc) (.slice none 0 0) Q (f.1, turnG (fun _ => false) f.2.1 0, []) ∧ Turns (DF p (.slice ba n bc) c) u W1) := ⟨by rw [turnG_zero]; exact hN, by rw [hW1]; exact Turns.set (p := ⟨p, 2, none⟩) (.inl rfl) _⟩
  clear h hbg hN hW1 hK
  go_enter Tryd.func12, Tryd.ntmps12
  go_upto_region 1 with fail
  rw [HW1.out]
  clear d2 d3 HW1
  go_wp2_with fail
  --M1
  go_loopw [2] (fun i z => ∃ k : Nat, k ≤ n ∧ i = .int .i64 k ∧ Hid (RfE w z p la n lc (.slice ba n bc) (.slice none 0 0) Q (f.1, turnG (fun _ => false) f.2.1 k, []) ∧ Turns (DF p (.slice ba n bc) c) u z)) (fun i _ => n - (intOf i).toNat)
  case atStart => exact ⟨0, Nat.zero_le _, rfl, H0⟩
  case round =>
    clear H0
    obtain ⟨k, hk, rfl, hrun⟩ := hrel
    have q1 := hrun.out.1.cells.1.2.1
    by_cases hlt : k < n
    · have hltz : (k : Int) < (n : Int) := by omega
      have hkl : k < f.2.1.length := by rw [HK.out]; exact hlt
      obtain ⟨g, rfl⟩ := HBG.out (by omega)
      have htl : (turnG (fun _ => false) f.2.1 k).length = n := by rw [turnG_len, HK.out]
      obtain ⟨g', c', ss, hbe, _, hrs, hcs⟩ := hrun.out.1.rb.getG RBool.firm (i := k) (by show k < (turnG (fun _ => false) f.2.1 k).length; rw [htl]; exact hlt)
      simp only [Value.slice.injEq, Option.some.injEq, Addr.mk.injEq, and_true, true_and] at hbe
      obtain ⟨rfl, _⟩ := hbe
      obtain rfl : ss = [.bool ((turnG (fun _ => false) f.2.1 k).getD k default)] := hrs
      have s0 := hcs 0 _ rfl
      rw [Nat.mul_one, Nat.add_zero] at s0
      have n0 := hrun.out.1.rb.meltsG (o := k)
      have hN := hrun.out.1.setB htl hlt false
      have hset := turnG_set (fun _ => false) f.2.1 hkl
      dsimp only at hN hset
      rw [hset] at hN
      have HE : Hid (RfE w (wr.setCell ⟨g, k, none⟩ (.bool false)) p la n lc (.slice (some ⟨g, 0, none⟩) n bc) (.slice none 0 0) Q (f.1, turnG (fun _ => false) f.2.1 (k + 1), []) ∧ Turns (DF p (.slice (some ⟨g, 0, none⟩) n bc) c) u (wr.setCell ⟨g, k, none⟩ (.bool false))) := ⟨hN, hrun.out.2.trans (Turns.set (p := ⟨g, k, none⟩) (.inr (.inl rfl)) _)⟩
      clear hN hset hcs hrun htl
      --M2
      go_wp2_with fail
      go_roundw
      case rel => exact ⟨k + 1, by omega, by go_num, HE⟩
      case measure => simp [intOf]; omega
    · have hltz : ¬ (k : Int) < (n : Int) := by omega
      have HE : Hid (RfO w u p la n lc (.slice ba n bc) c Q (resetP f) wr) := by
        have h := hrun.out
        rw [show k = f.2.1.length by rw [HK.out]; omega, turnG_all] at h
        exact ⟨.slice none 0 0, h.1, h.2, .inr (fun x e => by cases e)⟩
      clear hrun
      go_wp2_with fail
      go_end0
      exact ⟨rfl, HE.out⟩
end Go.Proofs.YtoacbobchngooaaDoor
namespace Go.Proofs.YtoacbobchngooaaDoor
open Go.RowKit Go.Maps
set_option linter.unusedSimpArgs false
set_option maxRecDepth 100000

theorem plug_ok {l : List PlugD} (h : newB l = true) {i : Nat} (hi : i < l.length) : (0 ≤ plW (l.getD i default) ∧ plW (l.getD i default) ≤ 100) ∧ (plS (l.getD i default)).length = (plS (l.getD 0 default)).length ∧ ∀ k, 0 ≤ (plS (l.getD i default)).getD k default ∧ (plS (l.getD i default)).getD k default ≤ 100 := by
  unfold newB at h
  rw [Bool.and_eq_true, List.all_eq_true] at h
  have h1 := h.2 i (List.mem_range.2 hi)
  unfold okPl at h1
  simp only [Bool.and_eq_true] at h1
  obtain ⟨_, _, _, _, _, _, hw, hl, hs⟩ := h1
  refine ⟨by unfold hundB at hw; simpa using hw, of_decide_eq_true hl, fun k => ?_⟩
  rw [List.getD_eq_getElem?_getD]
  cases e : (plS (l.getD i default))[k]? with
  | none => exact ⟨Int.le_refl _, (by decide : (0 : Int) ≤ 100)⟩
  | some y =>
    have := List.all_eq_true.1 hs y (List.mem_of_getElem? e)
    unfold hundB at this; simpa using this
def scoreTo (L : List PlugD) (k i : Nat) : Int := scoreAt (L.take i) k
theorem scoreTo_step (L : List PlugD) (k : Nat) {i : Nat} (hi : i < L.length) : scoreTo L k (i + 1) = scoreTo L k i + (plS (L.getD i default)).getD k default * plW (L.getD i default) := by
  unfold scoreTo scoreAt
  rw [take_snocF hi, List.foldl_append]; rfl
theorem scoreTo_in {L : List PlugD} (h : newB L = true) (k : Nat) : ∀ i, i ≤ L.length → 0 ≤ scoreTo L k i ∧ scoreTo L k i ≤ 10000 * (i : Int)
  | 0, _ => ⟨Int.le_refl _, by show (0 : Int) ≤ 10000 * ((0 : Nat) : Int); omega⟩
  | i + 1, hi => by
    have ih := scoreTo_in h k i (by omega)
    obtain ⟨⟨w1, w2⟩, _, hs⟩ := plug_ok h (i := i) (by omega)
    have hs := hs k
    rw [scoreTo_step L k (by omega)]
    have h1 := Int.mul_nonneg hs.1 w1
    have h2 := Int.mul_le_mul hs.2 w2 w1 (by decide : (0 : Int) ≤ 100)
    omega
theorem infoIntF : (Tryd.prog.info? 3).map (fun i => (i.zero, i.size, i.bytes)) = some (some (.int .i64 0), 1, 8) := by kernel_rfl
theorem range_snocF (g : Nat → Int) (k : Nat) : (List.range (k + 1)).map g = (List.range k).map g ++ [g k] := by rw [List.range_succ, List.map_append]; rfl
set_option maxHeartbeats 4000000 in
theorem rscores_calls {w u : World} {p : Nat} {la : Option Addr} {n lc : Nat} {b c : Value} {Q : Where} {f : FrD} (h : RfE w u p la n lc b c Q f) (hv : newB f.1 = true) :
    Calls Tryd.prog 20 #[.pointer (some ⟨p, 0, none⟩)] u fun e w' => ∃ v, e = .returned v ∧ Row RInt 1 (fun _ => False) u w' 3 v (scoresP f.1) := by
  have hnl : Hid (f.1.length = n) := h.sl.1
  have h64 : n ≤ 64 := by have := new64 hv; rw [hnl.out] at this; exact this
  have HV : Hid (newB f.1 = true) := hv
  have Hh : Hid (∀ z, Below u.heap.size u z → RfE w z p la n lc b c Q f) := fun z hz => h.on hz
  have hD0 : Hid (0 < n → (plS (f.1.getD 0 default)).length * 8 ≤ 140737488351232) := fun h0 => by
    obtain ⟨D, off, sa, sn, sc, _, _, _, _, hs⟩ := h.plug h0
    have h1 := hs.2.2.2.1; rw [← hs.1] at h1; exact h1
  have HR0 : Hid (Row RInt 1 (fun _ => False) u (u.alloc (.cells #[] 3)) 3 (.slice (some ⟨u.heap.size, 0, none⟩) 0 0) ((List.range 0).map (scoreAt f.1))) := Row.start _ u u _ (Below.refl _ _)
  clear h hv
  go_enter Tryd.func20, Tryd.ntmps20
  go_wp2_with fail
  --M1
  by_cases hn0 : n = 0
  · have hnz : ¬ (0 : Int) < (n : Int) := by omega
    have q0 := (Hh.out (u.alloc (.cells #[] 3)) ((Below.refl _ _).alloc (Nat.le_refl _) _)).cells.1.1
    have HE : Hid (Row RInt 1 (fun _ => False) u (u.alloc (.cells #[] 3)) 3 (.slice (some ⟨u.heap.size, 0, none⟩) 0 0) (scoresP f.1)) := by
      have e : f.1 = [] := List.length_eq_zero_iff.1 (by rw [hnl.out]; exact hn0)
      have e2 : scoresP f.1 = (List.range 0).map (scoreAt f.1) := by rw [e]; rfl
      rw [e2]; exact HR0.out
    clear HR0
    go_loopw [3, 4] (fun v i z => v = .slice (some ⟨u.heap.size, 0, none⟩) 0 0 ∧ i = .int .i64 0 ∧ z = u.alloc (.cells #[] 3)) (fun _ _ _ => 0)
    case atStart => exact ⟨rfl, rfl, rfl⟩
    case round =>
      obtain ⟨rfl, rfl, rfl⟩ := hrel
      go_wp2_with fail
      go_ret
      exact ⟨_, rfl, HE.out⟩
  have hnz : (0 : Int) < (n : Int) := by omega
  obtain ⟨m, hm⟩ : ∃ m, m = (plS (f.1.getD 0 default)).length := ⟨_, rfl⟩
  have HM : Hid ((plS (f.1.getD 0 default)).length = m) := hm.symm
  have hml : m < 1000000000000000 := by have := hD0.out (by omega); rw [← hm] at this; omega
  have HMb : Hid (m * 8 ≤ 140737488351232) := by rw [hm]; exact hD0.out (by omega)
  clear hm
  go_loopw [3, 4] (fun v i z => ∃ k : Nat, k ≤ m ∧ i = .int .i64 k ∧ Hid (Row RInt 1 (fun _ => False) u z 3 v ((List.range k).map (scoreAt f.1)))) (fun _ i _ => m - (intOf i).toNat)
  case atStart => exact ⟨0, Nat.zero_le _, rfl, HR0⟩
  case round =>
    clear HR0
    rename World => V1
    obtain ⟨k, hk, rfl, hrun⟩ := hrel
    have hz := Hh.out V1 hrun.out.below
    have q0 := hz.cells.1.1
    obtain ⟨D, off, sa, sn, sc, rfl, hD, hv0, _, hs0⟩ := hz.plug (i := 0) (by omega)
    have d6 := hv0 6 _ rfl
    rw [Nat.zero_mul, Nat.add_zero] at d6
    have hsn : sn = m := by have := hs0.1; rw [HM.out] at this; exact this.symm
    subst hsn
    have hnn : 0 < n := by omega
    by_cases hlt : k < sn
    · have hltz : (k : Int) < (sn : Int) := by omega
      have HRn : Hid (Row RInt 1 (fun _ => False) u V1 3 u3 ((List.range k).map (scoreAt f.1))) := hrun.out
      clear hv0 hs0 hrun hz
      go_wp2_with fail
      clear q0 d6
      --M2
      go_loopw [5, 6] (fun s i z => ∃ j : Nat, j ≤ n ∧ i = .int .i64 j ∧ s = .int .i64 (scoreTo f.1 k j) ∧ Hid (Below V1.heap.size V1 z)) (fun _ i _ => n - (intOf i).toNat)
      case atStart => exact ⟨0, Nat.zero_le _, rfl, rfl, Below.refl _ _⟩
      case round =>
        obtain ⟨j, hj, rfl, rfl, hr2⟩ := hrel
        have hz := Hh.out wr (on2 HRn.out.below hr2.out)
        have q0 := hz.cells.1.1
        by_cases hjl : j < n
        · have hjz : (j : Int) < (n : Int) := by omega
          have hjL : j < f.1.length := by rw [hnl.out]; exact hjl
          obtain ⟨D', off', ta, tn, tc, e1, hD2, hv2, _, hs2⟩ := hz.plug hjl
          obtain ⟨rfl, rfl⟩ : D = D' ∧ off = off' := by simpa using e1
          obtain ⟨⟨y1, y2⟩, hln, hsc⟩ := plug_ok HV.out hjL
          have hsc := hsc k
          have hst := scoreTo_step f.1 k hjL
          have hin := scoreTo_in HV.out k j (by omega)
          have htn : tn = sn := by have := hs2.1; rw [hln, HM.out] at this; exact this.symm
          subst htn
          obtain ⟨E, of3, rfl, hE, _, es, hre, hve⟩ := hs2.get hlt
          obtain rfl : es = [.int .i64 ((plS (f.1.getD j default)).getD k default)] := hre
          have s0 := hve 0 _ rfl
          rw [Nat.add_zero, Nat.mul_one] at s0
          have d5 := hv2 5 _ rfl
          have d6 := hv2 6 _ rfl
          obtain ⟨ys, hys⟩ : ∃ y, y = (plS (f.1.getD j default)).getD k default := ⟨_, rfl⟩
          obtain ⟨yw, hyw⟩ : ∃ y, y = plW (f.1.getD j default) := ⟨_, rfl⟩
          rw [← hys] at s0 hsc hst
          rw [← hyw] at d5 y1 y2 hst
          obtain ⟨q, hq⟩ : ∃ q, q = ys * yw := ⟨_, rfl⟩
          have hqq : ys * yw = q := hq.symm
          have hq0 : 0 ≤ q ∧ q ≤ 10000 := by
            rw [hq]; exact ⟨Int.mul_nonneg hsc.1 y1, Int.mul_le_mul hsc.2 y2 y1 (by decide : (0 : Int) ≤ 100)⟩
          rw [← hq] at hst
          obtain ⟨S, hS⟩ : ∃ S, S = scoreTo f.1 k j := ⟨_, rfl⟩
          rw [← hS] at hst hin
          rw [← hS]
          have HS : Hid (scoreTo f.1 k (j + 1) = S + q) := hst
          have hin2 : 0 ≤ S ∧ S ≤ 640000 := by omega
          have HRr : Hid (Below V1.heap.size V1 wr) := hr2.out
          clear hS hst hin hys hyw hq hve hv2 hs2 hz hr2 hln e1
          go_upto_region 9 with fail
          --M3
          go_quiet (fail)
          generalize hZ : World.drewN _ _ = Z
          have HE : Hid (Below V1.heap.size V1 Z) := by rw [← hZ]; exact below_drewN HRr.out _
          clear hZ HRr q0 d5 d6 s0
          go_wp2_with fail
          --M4
          go_roundw
          case rel => exact ⟨j + 1, by omega, by go_num, by rw [HS.out], HE⟩
          case measure => simp [intOf]; omega
        · have hjz : ¬ (j : Int) < (n : Int) := by omega
          have hjn : j = n := by omega
          have HSa : Hid (scoreTo f.1 k j = scoreAt f.1 k) := by unfold scoreTo; rw [Hid, List.take_of_length_le (by rw [hnl.out]; omega)]
          obtain ⟨S, hS⟩ : ∃ S, S = scoreTo f.1 k j := ⟨_, rfl⟩
          rw [← hS] at HSa
          rw [← hS]
          obtain ⟨W3, hW3⟩ : ∃ Z, Z = wr.alloc (.cells #[.int .i64 S] 3) := ⟨_, rfl⟩
          have b3 : Below wr.heap.size wr W3 := by rw [hW3]; exact (Below.refl _ _).alloc (Nat.le_refl _) _
          have q3 : BoxL W3 wr.heap.size [.int .i64 S] := by rw [hW3]; exact BoxL.new wr 3 _
          have HW3 : Hid (W3 = wr.alloc (.cells #[.int .i64 S] 3)) := hW3
          have HR3 : Hid (Row RInt 1 (fun _ => False) u W3 3 u3 ((List.range k).map (scoreAt f.1))) := HRn.out.on RInt.firm (on2 hr2.out b3)
          have HSr : Hid (Src RInt 1 (fun b => False ∧ Value.ownBlock u3 ≠ some b) W3 (some ⟨wr.heap.size, 0, none⟩) 1 [S]) := src_boxG RInt.firm q3 rfl
          have HLb : Hid ((((List.range k).map (scoreAt f.1)).length + [S].length) * 8 ≤ 140737488355328) := by have h2 := HMb.out; rw [Hid, List.length_singleton, List.length_map, List.length_range]; omega
          have HSn : Hid ((List.range (k + 1)).map (scoreAt f.1) = (List.range k).map (scoreAt f.1) ++ [S]) := by rw [Hid, range_snocF, ← HSa.out]
          clear hS hjn hW3 b3 q3 hr2 hz
          go_upto_region 10 with fail
          clear q0
          go_wp2_with (at_builtin; refine wpl_atG HW3.out ?_; refine row_appendP RInt.firm (A := (fun _ => False)) (w0 := u) rfl _ _ 23 3 rfl _ 8 infoIntF Tryd.underlying23 rfl (by decide) (by decide) u3 ((List.range k).map (scoreAt f.1)) rfl HR3.out (some ⟨wr.heap.size, 0, none⟩) 1 1 [S] rfl HSr.out HLb.out ?_; intro v8 w8 hrow8 hg8 hw8)
          --M5
          have HE : Hid (Row RInt 1 (fun _ => False) u w8 3 v8 ((List.range (k + 1)).map (scoreAt f.1))) := by rw [HSn.out]; exact hrow8
          clear hrow8 hg8 hw8 HR3 HSr HW3 HLb HSn HSa
          go_roundw
          case rel => exact ⟨k + 1, by omega, by go_num, HE⟩
          case measure => simp [intOf]; omega
    · have hltz : ¬ (k : Int) < (sn : Int) := by omega
      have HE : Hid (Row RInt 1 (fun _ => False) u V1 3 u3 (scoresP f.1)) := by have h := hrun.out; rw [show k = (plS (f.1.getD 0 default)).length by rw [HM.out]; omega] at h; exact h
      clear hv0 hs0 hrun hz
      go_wp2_with fail
      --M6
      go_ret
      exact ⟨_, rfl, HE.out⟩
end Go.Proofs.YtoacbobchngooaaDoor
