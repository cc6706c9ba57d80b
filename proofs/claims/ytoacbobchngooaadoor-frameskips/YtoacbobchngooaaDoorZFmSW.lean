/- FrameSkips, walked over a frame that keeps what is said. Condition: what is handed in lies as is said of it. -/
import Derived.Test.YtoacbobchngooaaDoorQ06
namespace Go.Proofs.YtoacbobchngooaaDoor
open Go.RowKit Go.Maps
set_option linter.unusedSimpArgs false
set_option maxRecDepth 100000

set_option maxHeartbeats 4000000 in
theorem skips_walk (V : FrameOK) (a : Option Addr) (n cap : Nat) (l : List PlugD) (w : World) (hL : SlAt RPlug 7 80 (fun _ => True) w a n cap l) : Calls Tryd.prog 6 #[.slice a n cap] w fun e w' => e = .returned (.bool true) ∧ Below w.heap.size w w' := by
  have hn : Hid (l.length = n) := hL.1
  have HLn : Hid (n * 80 ≤ 140737488351232) := hL.2.2.2.1
  have hml : n < 1000000000000000 := by have := HLn.out; omega
  have HL0 : Hid (SlAt RPlug 7 80 (fun _ => True) w a n cap l) := hL
  clear hL
  go_enter Tryd.func6, Tryd.ntmps6
  go_wp2_with fail
  refine (works17_calls V w).mono ?_
  rintro e w1 ⟨rfl, b1⟩
  have HB1 : Hid (Below w.heap.size w w1) := b1
  have hA := plugins_calls a n cap (fun _ => True) l w1 (HL0.out.on RPlug.firm b1)
  clear b1 HL0
  go_wp2_with fail
  --M1
  refine hA.mono ?_
  rintro e w2 ⟨v2, rfl, hr2⟩
  obtain ⟨oa, oc, rfl, hg⟩ := hr2.formF
  rw [hn.out] at hg ⊢
  have HG : Hid (0 < n → ∃ g, oa = some ⟨g, 0, none⟩) := hg
  have HR0 : Hid (Row RPlug 7 (Fresh w1) w1 w2 33 (.slice oa n oc) (turnS l 0)) := by rw [turnS_zero, Hid]; rw [hn.out] at hr2; exact hr2
  clear hA hr2 hg
  go_wp2_with fail
  --M2
  go_loopw [4] (fun i z => ∃ k : Nat, k ≤ n ∧ i = .int .i64 k ∧ Hid (Row RPlug 7 (Fresh w1) w1 z 33 (.slice oa n oc) (turnS l k))) (fun i _ => n - (intOf i).toNat)
  case atStart => exact ⟨0, Nat.zero_le _, rfl, HR0⟩
  case round =>
    clear HR0
    obtain ⟨k, hk, rfl, hrun⟩ := hrel
    by_cases hlt : k < n
    · have hltz : (k : Int) < (n : Int) := by omega
      have hkl : k < l.length := by rw [hn.out]; exact hlt
      obtain ⟨g, rfl⟩ := HG.out (by omega)
      have htl : (turnS l k).length = n := by rw [turnS_len, hn.out]
      obtain ⟨g', c', cs, e1, _, hr, hc⟩ := hrun.out.getG RPlug.firm (i := k) (by rw [htl]; exact hlt)
      simp only [Value.slice.injEq, Option.some.injEq, Addr.mk.injEq, and_true, true_and] at e1
      obtain ⟨rfl, _⟩ := e1
      have hr' := hr.out
      obtain ⟨sa, sn, sc, rfl, _, _⟩ := hr'
      have c1 := hc 1 _ rfl
      have f1 := hrun.out.meltsG (o := k * 7 + 1)
      have hset := (show Row RPlug 7 (Fresh w1) w1 wr 33 (.slice (some ⟨g, 0, none⟩) (turnS l k).length oc) (turnS l k) by rw [htl]; exact hrun.out).setG RPlug.firm (i := k) (j := 1) (val := .int .i64 4) (x := setB ((turnS l k).getD k default)) (by rw [htl]; exact hlt) (by decide) (fun B cs h => plug_setB h)
      rw [turnS_get l hkl, turnS_set l hkl, htl] at hset
      have HE : Hid (Row RPlug 7 (Fresh w1) w1 (wr.setCell ⟨g, k * 7 + 1, none⟩ (.int .i64 4)) 33 (.slice (some ⟨g, 0, none⟩) n oc) (turnS l (k + 1))) := hset
      clear hset hr hc hrun htl
      --M3
      go_wp2_with fail
      go_roundw
      case rel => exact ⟨k + 1, by omega, by go_num, HE⟩
      case measure => simp [intOf]; omega
    · have hltz : ¬ (k : Int) < (n : Int) := by omega
      have hr2 : Row RPlug 7 (Fresh w1) w1 wr 33 (.slice oa n oc) (l.map setB) := by have h := hrun.out; rw [show k = l.length by rw [hn.out]; omega, turnS_all] at h; exact h
      obtain ⟨ma, mc, me, ms⟩ := hr2.slF (bytes := 80) RPlug.firm (by rw [List.length_map, hn.out]; exact HLn.out)
      have ms := ms.weak RPlug.firm (A' := (fun _ => True)) (fun _ _ _ => trivial)
      rw [List.length_map, hn.out] at me ms
      obtain ⟨rfl, rfl⟩ : oa = ma ∧ oc = mc := by simpa using me
      obtain ⟨m, hm⟩ : ∃ m, m = l.map setB := ⟨_, rfl⟩
      rw [← hm] at ms
      have HMb : Hid ((∀ x ∈ m, x.2.1 = 4) ∧ m.length = n) := by rw [hm]; exact ⟨fun x hx => by obtain ⟨y, _, rfl⟩ := List.mem_map.1 hx; rfl, by rw [List.length_map, hn.out]⟩
      have hA := V.new oa n oc (fun _ => True) m wr ms
      have HB2 : Hid (Below w.heap.size w wr) := on2 HB1.out hr2.below
      clear hr2 me ms hm hrun HG
      go_wp2_with fail
      --M4
      refine hA.mono ?_
      rintro e w3 ⟨b3, ⟨hok, p, rfl, hP⟩ | ⟨hno, rfl⟩⟩
      case inr =>
        have HB3 : Hid (Below w.heap.size w w3) := on2 HB2.out b3
        clear hA b3 hno
        go_wp2_with fail
        go_ret
        exact ⟨rfl, HB3.out⟩
      obtain ⟨hc1, hc2, hn2, hrs, hl1, hl2⟩ := skips_words hok HMb.out.1
      have HW : Hid ((runP (newP m) 1).2 = 0 ∧ (runP (runP (newP m) 1).1 2).2 = 0 ∧ namesP (runP (runP (newP m) 1).1 2).1.2.2 (digS 2) = [] ∧ resetP (runP (runP (newP m) 1).1 2).1 = newP m ∧ (runP (newP m) 1).1.2.2.length ≤ 1000 ∧ (runP (runP (newP m) 1).1 2).1.2.2.length ≤ 1000 ∧ newB m = true) := ⟨hc1, hc2, hn2, hrs, hl1, hl2, hok⟩
      have HF : Hid (∀ u, Turns (Fresh wr) w3 u → ∀ b, u.heap.size ≤ b → Fresh wr b) := fun u hu b hb => Nat.le_trans b3.size (Nat.le_trans hu.size hb)
      have HB3 : Hid (Below wr.heap.size wr w3) := b3
      have hA := V.run hP (HF.out w3 (Turns.refl _ _)) (by show (0 : Nat) ≤ 100000; decide) 1
      rw [hc1, runE_in (by decide)] at hA
      clear hP b3 hok hc1 hc2 hn2 hrs hl1 hl2
      go_wp2_with fail
      --M5
      refine hA.mono ?_
      rintro e w4 ⟨rfl, hP, t4⟩
      have hA := V.run hP (HF.out w4 t4) (Nat.le_trans HW.out.2.2.2.2.1 (by decide)) 2
      rw [HW.out.2.1, runE_in (by decide)] at hA
      have HT4 : Hid (Turns (Fresh wr) w3 w4) := t4
      clear hP t4
      go_wp2_with fail
      refine hA.mono ?_
      rintro e w5 ⟨rfl, hP, t5⟩
      have HT5 : Hid (Turns (Fresh wr) w3 w5) := HT4.out.trans t5
      have hA := V.calls hP (Nat.le_trans HW.out.2.2.2.2.2.1 (by decide))
      have HP5 : Hid (V.PF (Fresh wr) w5 p (runP (runP (newP m) 1).1 2).1) := hP
      clear hP t5 HT4
      go_wp2_with fail
      --M6
      refine hA.mono ?_
      rintro e w6 ⟨v6, rfl, hr6⟩
      obtain ⟨la, lc, rfl, ls⟩ := (hr6.wAG RTxt.firm (A' := (fun _ => True)) (fun _ h => h.elim)).slF (bytes := 16) RTxt.firm (by have := HW.out.2.2.2.2.2.1; omega)
      have ls := ls.weak RTxt.firm (A' := (fun _ => True)) (fun _ _ _ => trivial)
      obtain ⟨ml, hml2⟩ : ∃ ml, ml = (runP (runP (newP m) 1).1 2).1.2.2.length := ⟨_, rfl⟩
      rw [← hml2] at ls ⊢
      have hA := names_calls17 la ml lc (fun _ => True) (runP (runP (newP m) 1).1 2).1.2.2 ⟨#[50]⟩ (by decide) w6 ls
      rw [← dig2, HW.out.2.2.1, dig2] at hA
      have HB6 : Hid (Below w5.heap.size w5 w6) := hr6.below
      clear ls hml2 hr6
      go_wp2_with fail
      refine hA.mono ?_
      rintro e w7 ⟨v7, rfl, hr7⟩
      obtain ⟨ka, kc, rfl, _⟩ := hr7.formF
      have HB7 : Hid (Below w5.heap.size w5 w7) := on2 HB6.out hr7.below
      have hA := V.reset (V.kept HP5.out (Kept.below HB7.out)) (fun b hb => HF.out w5 HT5.out b (Nat.le_trans HB7.out.size hb))
      rw [HW.out.2.2.2.1] at hA
      have e0 : ([] : List ByteArray).length = 0 := rfl
      rw [e0]
      clear hr7 HB6 HP5 e0
      go_wp2_with fail
      --M7
      refine hA.mono ?_
      rintro e w8 ⟨rfl, hP, t8⟩
      have HT8 : Hid (Turns (Fresh wr) w3 w8) := (HT5.out.trans (Turns.below HB7.out)).trans t8
      have hA := V.run hP (HF.out w8 HT8.out) (by show (0 : Nat) ≤ 100000; decide) 2
      rw [runE_in (by decide)] at hA
      obtain ⟨c9, hc9⟩ : ∃ c, c = (runP (newP m) 2).2 := ⟨_, rfl⟩
      rw [← hc9] at hA
      clear hP t8 HT5 HB7 hc9
      go_wp2_with fail
      --M8
      refine hA.mono ?_
      rintro e w9 ⟨rfl, hP, t9⟩
      have HT9 : Hid (Turns (Fresh wr) w3 w9) := HT8.out.trans t9
      have HB9 : Hid (Below w.heap.size w w9) := on2 HB2.out (Turns.behind HB3.out HT9.out)
      have hcl := calls_len HW.out.2.2.2.2.2.2 (pt := 2) (by decide)
      have hA := V.calls hP (Nat.le_trans hcl (by decide))
      have HCl : Hid ((runP (newP m) 2).1.2.2.length ≤ 1000) := hcl
      clear hP t9 HT8 hcl
      by_cases hn0 : n = 0
      · have hnz : ((n : Int) == 0) = true := by rw [hn0]; rfl
        go_wp2_with fail
        --M9
        go_ret
        exact ⟨rfl, HB9.out⟩
      · have hnz : ((n : Int) == 0) = false := by simpa using hn0
        have HPos := skips_some HW.out.2.2.2.2.2.2 (by rw [HMb.out.2]; omega)
        have HPo : Hid (0 < (namesP (runP (newP m) 2).1.2.2 (digS 2)).length) := HPos
        clear HPos
        go_wp2_with fail
        refine hA.mono ?_
        rintro e w10 ⟨v10, rfl, hr10⟩
        obtain ⟨ra, rc, rfl, rs⟩ := (hr10.wAG RTxt.firm (A' := (fun _ => True)) (fun _ h => h.elim)).slF (bytes := 16) RTxt.firm (by have := HCl.out; omega)
        have rs := rs.weak RTxt.firm (A' := (fun _ => True)) (fun _ _ _ => trivial)
        have hA := names_calls17 ra (runP (newP m) 2).1.2.2.length rc (fun _ => True) (runP (newP m) 2).1.2.2 ⟨#[50]⟩ (by decide) w10 rs
        obtain ⟨G, hG⟩ : ∃ G, G = namesP (runP (newP m) 2).1.2.2 (digS 2) := ⟨_, rfl⟩
        rw [← dig2, ← hG, dig2] at hA
        rw [← hG] at HPo
        obtain ⟨rl, hrl⟩ : ∃ rl, rl = (runP (newP m) 2).1.2.2.length := ⟨_, rfl⟩
        rw [← hrl] at hA ⊢
        have HB10 : Hid (Below w.heap.size w w10) := on2 HB9.out hr10.below
        clear rs hr10 hG hrl HB9
        go_wp2_with fail
        refine hA.mono ?_
        rintro e w11 ⟨v11, rfl, hr11⟩
        obtain ⟨ga, gc, rfl, _⟩ := hr11.formF
        have HB11 : Hid (Below w.heap.size w w11) := on2 HB10.out hr11.below
        obtain ⟨gl, hgl⟩ : ∃ gl, gl = G.length := ⟨_, rfl⟩
        rw [← hgl] at HPo ⊢
        have hglz : (0 : Int) < (gl : Int) := by have := HPo.out; omega
        have hgln : 0 < gl := HPo.out
        clear hr11 hgl HB10
        go_wp2_with fail
        --M10
        go_ret
        exact ⟨rfl, HB11.out⟩
end Go.Proofs.YtoacbobchngooaaDoor
