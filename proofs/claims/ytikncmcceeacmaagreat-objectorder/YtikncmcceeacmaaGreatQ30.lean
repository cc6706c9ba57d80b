/- ObjectOrder's walk, and its like. No condition beyond what each says. -/
import Derived.Deep.Slices
import Derived.Deep.Strs
import Derived.SizedLaws
import Derived.Test.YtikncmcceeacmaaGreatQ29
namespace Go.Proofs.YtikncmcceeacmaaGreat
set_option maxHeartbeats 16000000
set_option maxRecDepth 100000
open Tryz Go.RowKit
set_option linter.unusedSimpArgs false
theorem Put_lawD (ss cs : List Value) (D : Nat) (x : StateD) (o : ObjectD) (w : World) (hD : D < w.heap.size) (hs : RState (fun b => b ≠ D) w ss x) (ho : RObject (fun b => b ≠ D) w cs o) (hf : Fits (putO x o).1) : Calls prog 19 #[.agg ss.toArray, .agg cs.toArray] w fun e w' => ∃ gs, e = .returned (.tuple #[.agg gs.toArray, .bool (putO x o).2.1, .int .i64 (putO x o).2.2]) ∧ RState (fun b => b ≠ D) w' gs (putO x o).1 ∧ Below w.heap.size w w' := by
 refine (Put_calls ss cs _ x o w hs ho).mono fun e w' h => ?_
 obtain ⟨gs, rfl, h1, h2⟩ := h.st
 refine ⟨gs, rfl, RState.firm.weak (h1.rstate hf) (fun b _ hb => ?_), h2⟩
 rcases hb with hb | hb
 ·
  exact hb.1
 ·
  have h3 : w.heap.size ≤ b := hb
  show b ≠ D
  omega
theorem toList_inj7 {a b : ByteArray} (h : a.toList = b.toList) : a = b := (sEq_iff a b).1 (by simp [sEq, h])
theorem order_walk (ss : List Value) (x : StateD) (cs : List Value) (o : ObjectD) (ps : List Value) (p : ObjectD) (w : World) (hs : RState (fun _ => True) w ss x) (ho : RObject (fun _ => True) w cs o) (hp : RObject (fun _ => True) w ps p) : Calls prog 7 #[.agg ss.toArray, .agg cs.toArray, .agg ps.toArray] w fun e w' => e = .returned (.bool true) ∧ Below w.heap.size w w' := by
 have his : (prog.info? 61).map (·.size) = some ss.length := by rw [RState.firm.len hs]; exact infoSta
 have hio : (prog.info? 46).map (·.size) = some cs.length := by rw [RObject.firm.len ho]; exact infoObj
 have hip : (prog.info? 46).map (·.size) = some ps.length := by rw [RObject.firm.len hp]; exact infoObj
 have HC0 : Hid (cs[0]? = some (.int .i64 o.1)) := by
  obtain ⟨c, d, e, hc, _⟩ := ho
  have e1 : c = [.int .i64 o.1] := hc
  rw [Hid, e, e1]; rfl
 have HP0 : Hid (ps[0]? = some (.int .i64 p.1)) := by
  obtain ⟨c, d, e, hc, _⟩ := hp
  have e1 : c = [.int .i64 p.1] := hc
  rw [Hid, e, e1]; rfl
 have HS : Hid (StAt w ss x) := hs
 have HO : Hid (ObAt w cs o) := ho
 have HQ : Hid (ObAt w ps p) := hp
 clear hs ho hp
 obtain ⟨U0, hU0⟩ : ∃ U0, U0 = (((w.alloc (.cells ss.toArray 61)).alloc (.cells cs.toArray 46)).alloc (.cells ps.toArray 46)) := ⟨_, rfl⟩
 have HH0 : Hid (Held w [(w.heap.size + 1 + 1, ps), (w.heap.size + 1, cs), (w.heap.size, ss)] [] U0) := by rw [Hid, hU0]; exact (((Held.start w).push rfl ss 61).push (by simp) cs 46).push (by simp) ps 46
 go_enter func7, ntmps7
 go_wp2_with fail
 rw [← hU0]
 clear hU0
 refine (works_calls _).mono ?_
 rintro e u1 ⟨rfl, hb1⟩
 have HH1 : Hid (Held w [(w.heap.size + 1 + 1, ps), (w.heap.size + 1, cs), (w.heap.size, ss)] [] u1) := HH0.out.on hb1
 clear HH0 hb1
 go_upto_region 3 with fail
 go_cut [47] (fun b wx => ∃ r : Bool, b = .bool r ∧ Hid (r = false → StOK x ∧ ¬ (o.1 = p.1 ∧ nameO o = nameO p) ∧ countO x o.1 ≤ 254) ∧ Hid (Held w [(w.heap.size + 1 + 1, ps), (w.heap.size + 1, cs), (w.heap.size, ss)] [] wx))
 case first =>
  obtain ⟨n1, hn1⟩ : ∃ n1, countO x o.1 = n1 := ⟨_, rfl⟩
  obtain ⟨n2, hn2⟩ : ∃ n2, countO x p.1 = n2 := ⟨_, rfl⟩
  have HN1 : Hid (∀ u, Below w.heap.size w u → Calls prog 28 #[.agg ss.toArray, .int .i64 o.1] u fun e w' => e = .returned (.int .i64 n1) ∧ Below u.heap.size u w') := fun u hb => by have h := Count_calls ss o.1 _ x u (HS.out.on hb); rw [hn1] at h; exact h
  have HN2 : Hid (∀ u, Below w.heap.size w u → Calls prog 28 #[.agg ss.toArray, .int .i64 p.1] u fun e w' => e = .returned (.int .i64 n2) ∧ Below u.heap.size u w') := fun u hb => by have h := Count_calls ss p.1 _ x u (HS.out.on hb); rw [hn2] at h; exact h
  have HE1 : Hid (countO x o.1 = n1) := hn1
  clear hn1 hn2
  have hok := checkS_ok x
  generalize hck : checkS x = kc at hok
  by_cases hk : kc = 0
  ·
   subst hk
   have HOK : Hid (StOK x) := hok.1 rfl
   clear hok
   have HKC : Hid (checkS x = 0) := hck
   by_cases hkd : o.1 = p.1
   ·
    have hkb : (o.1 == p.1) = true := by simp [hkd]
    clear hkd
    by_cases hnm : nameO o = nameO p
    ·
     have hnb : ((nameO o).toList == (nameO p).toList) = true := by simp [hnm]
     have hCS := CheckState_calls ss _ x u1.drew (HS.out.on (HH1.out.drew.below))
     rw [HKC.out] at hCS
     refine t0 (Held w [(w.heap.size + 1 + 1, ps), (w.heap.size + 1, cs), (w.heap.size, ss)] []) HH1.out.drew (fun hH => ?_)
     refine tq 0 (.agg ss.toArray) (yieldsIf_load_mid rfl 61 _ rfl (w.heap.size) 0 rfl ss _ (fun u hu => hu.get 2 rfl) underlying61 rfl his) ?_; try go_frame
     refine tr 1 (fun K hK => ?_)
     go_simp
     refine (hCS).mono ?_
     rintro e v1 ⟨rfl, hbv1⟩
     have dv1 : Held w [(w.heap.size + 1 + 1, ps), (w.heap.size + 1, cs), (w.heap.size, ss)] [] v1 := HH1.out.drew.on hbv1
     go_wp2_with fail
     refine hK.out _ _ dv1 (fun hH => ?_)
     clear hK K
     try go_frame
     refine tp 2 ?_; try go_frame
     refine tp 3 ?_; try go_frame
     refine tp 4 ?_; try go_frame
     refine' tk 5 ?_ ?_; rotate_left
     ·
      intro u hu; have e1 := hu.cell 1 rfl 0 HC0.out; have e2 := hu.cell 0 rfl 0 HP0.out; clear hu; go_simp; try with_reducible rfl
     try go_frame
     refine tp 6 ?_; try go_frame
     refine' tk 7 ?_ ?_; rotate_left
     ·
      intro u hu; have e1 := hu.cell 1 rfl 0 HC0.out; have e2 := hu.cell 0 rfl 0 HP0.out; clear hu; go_simp; try with_reducible rfl
     try go_frame
     refine tp 8 ?_; try go_frame
     refine tp 9 ?_; try go_frame
     refine tq 10 (.agg cs.toArray) (yieldsIf_load_mid rfl 46 _ rfl (w.heap.size + 1) 0 rfl cs _ (fun u hu => hu.get 1 rfl) underlying46 rfl hio) ?_; try go_frame
     refine tq 12 (.agg ps.toArray) (yieldsIf_load_mid rfl 46 _ rfl (w.heap.size + 1 + 1) 0 rfl ps _ (fun u hu => hu.get 0 rfl) underlying46 rfl hip) ?_; try go_frame
     refine tr 11 (fun K hK => ?_)
     go_simp
     refine (Name_calls cs _ o v1 (HO.out.on dv1.below)).mono ?_
     rintro e v2 ⟨rfl, hbv2⟩
     have dv2 : Held w [(w.heap.size + 1 + 1, ps), (w.heap.size + 1, cs), (w.heap.size, ss)] [] v2 := dv1.on hbv2
     go_wp2_with fail
     refine hK.out _ _ dv2 (fun hH => ?_)
     clear hK K
     try go_frame
     refine tr 13 (fun K hK => ?_)
     go_simp
     refine (Name_calls ps _ p v2 (HQ.out.on dv2.below)).mono ?_
     rintro e v3 ⟨rfl, hbv3⟩
     have dv3 : Held w [(w.heap.size + 1 + 1, ps), (w.heap.size + 1, cs), (w.heap.size, ss)] [] v3 := dv2.on hbv3
     go_wp2_with fail
     refine hK.out _ _ dv3 (fun hH => ?_)
     clear hK K
     try go_frame
     refine tp 14 ?_; try go_frame
     refine tp 15 ?_; try go_frame
     refine tp 16 ?_; try go_frame
     refine tp 17 ?_; try go_frame
     refine tn 18 ?_; try go_frame
     refine tn 19 ?_; try go_frame
     refine tn 20 ?_; try go_frame
     refine tn 21 ?_; try go_frame
     refine tn 22 ?_; try go_frame
     refine tp 23 ?_; try go_frame
     refine tp 24 ?_; try go_frame
     refine tn 25 ?_; try go_frame
     refine tn 26 ?_; try go_frame
     refine tn 27 ?_; try go_frame
     refine tn 28 ?_; try go_frame
     refine tn 29 ?_; try go_frame
     refine tp 30 ?_; try go_frame
     refine tz ?_
     go_wp2_with fail
     go_meet
     exact ⟨true, rfl, (fun h => by cases h), dv3⟩
    ·
     have hnb : ((nameO o).toList == (nameO p).toList) = false := by
      rw [beq_eq_false_iff_ne]; exact fun h => hnm (toList_inj7 h)
     have HNE : Hid (¬ (o.1 = p.1 ∧ nameO o = nameO p)) := fun h => hnm h.2
     by_cases hct : 254 < n1
     ·
      have hcb : decide (254 < n1) = true := by simpa using hct
      have hCS := CheckState_calls ss _ x u1.drew (HS.out.on (HH1.out.drew.below))
      rw [HKC.out] at hCS
      refine t0 (Held w [(w.heap.size + 1 + 1, ps), (w.heap.size + 1, cs), (w.heap.size, ss)] []) HH1.out.drew (fun hH => ?_)
      refine tq 0 (.agg ss.toArray) (yieldsIf_load_mid rfl 61 _ rfl (w.heap.size) 0 rfl ss _ (fun u hu => hu.get 2 rfl) underlying61 rfl his) ?_; try go_frame
      refine tr 1 (fun K hK => ?_)
      go_simp
      refine (hCS).mono ?_
      rintro e v1 ⟨rfl, hbv1⟩
      have dv1 : Held w [(w.heap.size + 1 + 1, ps), (w.heap.size + 1, cs), (w.heap.size, ss)] [] v1 := HH1.out.drew.on hbv1
      go_wp2_with fail
      refine hK.out _ _ dv1 (fun hH => ?_)
      clear hK K
      try go_frame
      refine tp 2 ?_; try go_frame
      refine tp 3 ?_; try go_frame
      refine tp 4 ?_; try go_frame
      refine' tk 5 ?_ ?_; rotate_left
      ·
       intro u hu; have e1 := hu.cell 1 rfl 0 HC0.out; have e2 := hu.cell 0 rfl 0 HP0.out; clear hu; go_simp; try with_reducible rfl
      try go_frame
      refine tp 6 ?_; try go_frame
      refine' tk 7 ?_ ?_; rotate_left
      ·
       intro u hu; have e1 := hu.cell 1 rfl 0 HC0.out; have e2 := hu.cell 0 rfl 0 HP0.out; clear hu; go_simp; try with_reducible rfl
      try go_frame
      refine tp 8 ?_; try go_frame
      refine tp 9 ?_; try go_frame
      refine tq 10 (.agg cs.toArray) (yieldsIf_load_mid rfl 46 _ rfl (w.heap.size + 1) 0 rfl cs _ (fun u hu => hu.get 1 rfl) underlying46 rfl hio) ?_; try go_frame
      refine tq 12 (.agg ps.toArray) (yieldsIf_load_mid rfl 46 _ rfl (w.heap.size + 1 + 1) 0 rfl ps _ (fun u hu => hu.get 0 rfl) underlying46 rfl hip) ?_; try go_frame
      refine tr 11 (fun K hK => ?_)
      go_simp
      refine (Name_calls cs _ o v1 (HO.out.on dv1.below)).mono ?_
      rintro e v2 ⟨rfl, hbv2⟩
      have dv2 : Held w [(w.heap.size + 1 + 1, ps), (w.heap.size + 1, cs), (w.heap.size, ss)] [] v2 := dv1.on hbv2
      go_wp2_with fail
      refine hK.out _ _ dv2 (fun hH => ?_)
      clear hK K
      try go_frame
      refine tr 13 (fun K hK => ?_)
      go_simp
      refine (Name_calls ps _ p v2 (HQ.out.on dv2.below)).mono ?_
      rintro e v3 ⟨rfl, hbv3⟩
      have dv3 : Held w [(w.heap.size + 1 + 1, ps), (w.heap.size + 1, cs), (w.heap.size, ss)] [] v3 := dv2.on hbv3
      go_wp2_with fail
      refine hK.out _ _ dv3 (fun hH => ?_)
      clear hK K
      try go_frame
      refine tp 14 ?_; try go_frame
      refine tp 15 ?_; try go_frame
      refine tp 16 ?_; try go_frame
      refine tp 17 ?_; try go_frame
      refine tq 18 (.agg ss.toArray) (yieldsIf_load_mid rfl 61 _ rfl (w.heap.size) 0 rfl ss _ (fun u hu => hu.get 2 rfl) underlying61 rfl his) ?_; try go_frame
      refine tp 19 ?_; try go_frame
      refine' tk 20 ?_ ?_; rotate_left
      ·
       intro u hu; have e1 := hu.cell 1 rfl 0 HC0.out; have e2 := hu.cell 0 rfl 0 HP0.out; clear hu; go_simp; try with_reducible rfl
      try go_frame
      refine tr 21 (fun K hK => ?_)
      go_simp
      refine (HN1.out v3 dv3.below).mono ?_
      rintro e v4 ⟨rfl, hbv4⟩
      have dv4 : Held w [(w.heap.size + 1 + 1, ps), (w.heap.size + 1, cs), (w.heap.size, ss)] [] v4 := dv3.on hbv4
      go_wp2_with fail
      refine hK.out _ _ dv4 (fun hH => ?_)
      clear hK K
      try go_frame
      refine tp 22 ?_; try go_frame
      refine tp 23 ?_; try go_frame
      refine tp 24 ?_; try go_frame
      refine tn 25 ?_; try go_frame
      refine tn 26 ?_; try go_frame
      refine tn 27 ?_; try go_frame
      refine tn 28 ?_; try go_frame
      refine tn 29 ?_; try go_frame
      refine tp 30 ?_; try go_frame
      refine tz ?_
      go_wp2_with fail
      go_meet
      exact ⟨true, rfl, (fun h => by cases h), dv4⟩
     ·
      have hcb : decide (254 < n1) = false := by simpa using hct
      have HC1 : Hid (countO x o.1 ≤ 254) := by rw [Hid, HE1.out]; omega
      have hCS := CheckState_calls ss _ x u1.drew (HS.out.on (HH1.out.drew.below))
      rw [HKC.out] at hCS
      refine t0 (Held w [(w.heap.size + 1 + 1, ps), (w.heap.size + 1, cs), (w.heap.size, ss)] []) HH1.out.drew (fun hH => ?_)
      refine tq 0 (.agg ss.toArray) (yieldsIf_load_mid rfl 61 _ rfl (w.heap.size) 0 rfl ss _ (fun u hu => hu.get 2 rfl) underlying61 rfl his) ?_; try go_frame
      refine tr 1 (fun K hK => ?_)
      go_simp
      refine (hCS).mono ?_
      rintro e v1 ⟨rfl, hbv1⟩
      have dv1 : Held w [(w.heap.size + 1 + 1, ps), (w.heap.size + 1, cs), (w.heap.size, ss)] [] v1 := HH1.out.drew.on hbv1
      go_wp2_with fail
      refine hK.out _ _ dv1 (fun hH => ?_)
      clear hK K
      try go_frame
      refine tp 2 ?_; try go_frame
      refine tp 3 ?_; try go_frame
      refine tp 4 ?_; try go_frame
      refine' tk 5 ?_ ?_; rotate_left
      ·
       intro u hu; have e1 := hu.cell 1 rfl 0 HC0.out; have e2 := hu.cell 0 rfl 0 HP0.out; clear hu; go_simp; try with_reducible rfl
      try go_frame
      refine tp 6 ?_; try go_frame
      refine' tk 7 ?_ ?_; rotate_left
      ·
       intro u hu; have e1 := hu.cell 1 rfl 0 HC0.out; have e2 := hu.cell 0 rfl 0 HP0.out; clear hu; go_simp; try with_reducible rfl
      try go_frame
      refine tp 8 ?_; try go_frame
      refine tp 9 ?_; try go_frame
      refine tq 10 (.agg cs.toArray) (yieldsIf_load_mid rfl 46 _ rfl (w.heap.size + 1) 0 rfl cs _ (fun u hu => hu.get 1 rfl) underlying46 rfl hio) ?_; try go_frame
      refine tq 12 (.agg ps.toArray) (yieldsIf_load_mid rfl 46 _ rfl (w.heap.size + 1 + 1) 0 rfl ps _ (fun u hu => hu.get 0 rfl) underlying46 rfl hip) ?_; try go_frame
      refine tr 11 (fun K hK => ?_)
      go_simp
      refine (Name_calls cs _ o v1 (HO.out.on dv1.below)).mono ?_
      rintro e v2 ⟨rfl, hbv2⟩
      have dv2 : Held w [(w.heap.size + 1 + 1, ps), (w.heap.size + 1, cs), (w.heap.size, ss)] [] v2 := dv1.on hbv2
      go_wp2_with fail
      refine hK.out _ _ dv2 (fun hH => ?_)
      clear hK K
      try go_frame
      refine tr 13 (fun K hK => ?_)
      go_simp
      refine (Name_calls ps _ p v2 (HQ.out.on dv2.below)).mono ?_
      rintro e v3 ⟨rfl, hbv3⟩
      have dv3 : Held w [(w.heap.size + 1 + 1, ps), (w.heap.size + 1, cs), (w.heap.size, ss)] [] v3 := dv2.on hbv3
      go_wp2_with fail
      refine hK.out _ _ dv3 (fun hH => ?_)
      clear hK K
      try go_frame
      refine tp 14 ?_; try go_frame
      refine tp 15 ?_; try go_frame
      refine tp 16 ?_; try go_frame
      refine tp 17 ?_; try go_frame
      refine tq 18 (.agg ss.toArray) (yieldsIf_load_mid rfl 61 _ rfl (w.heap.size) 0 rfl ss _ (fun u hu => hu.get 2 rfl) underlying61 rfl his) ?_; try go_frame
      refine tp 19 ?_; try go_frame
      refine' tk 20 ?_ ?_; rotate_left
      ·
       intro u hu; have e1 := hu.cell 1 rfl 0 HC0.out; have e2 := hu.cell 0 rfl 0 HP0.out; clear hu; go_simp; try with_reducible rfl
      try go_frame
      refine tr 21 (fun K hK => ?_)
      go_simp
      refine (HN1.out v3 dv3.below).mono ?_
      rintro e v4 ⟨rfl, hbv4⟩
      have dv4 : Held w [(w.heap.size + 1 + 1, ps), (w.heap.size + 1, cs), (w.heap.size, ss)] [] v4 := dv3.on hbv4
      go_wp2_with fail
      refine hK.out _ _ dv4 (fun hH => ?_)
      clear hK K
      try go_frame
      refine tp 22 ?_; try go_frame
      refine tp 23 ?_; try go_frame
      refine tp 24 ?_; try go_frame
      refine tq 25 (.agg ss.toArray) (yieldsIf_load_mid rfl 61 _ rfl (w.heap.size) 0 rfl ss _ (fun u hu => hu.get 2 rfl) underlying61 rfl his) ?_; try go_frame
      refine tp 26 ?_; try go_frame
      refine' tk 27 ?_ ?_; rotate_left
      ·
       intro u hu; have e1 := hu.cell 1 rfl 0 HC0.out; have e2 := hu.cell 0 rfl 0 HP0.out; clear hu; go_simp; try with_reducible rfl
      try go_frame
      refine tr 28 (fun K hK => ?_)
      go_simp
      refine (HN2.out v4 dv4.below).mono ?_
      rintro e v5 ⟨rfl, hbv5⟩
      have dv5 : Held w [(w.heap.size + 1 + 1, ps), (w.heap.size + 1, cs), (w.heap.size, ss)] [] v5 := dv4.on hbv5
      go_wp2_with fail
      refine hK.out _ _ dv5 (fun hH => ?_)
      clear hK K
      try go_frame
      refine tp 29 ?_; try go_frame
      refine tp 30 ?_; try go_frame
      refine tz ?_
      go_wp2_with fail
      go_meet
      exact ⟨_, rfl, (fun h => ⟨HOK.out, HNE.out, HC1.out⟩), dv5⟩
   ·
    have hkb : (o.1 == p.1) = false := by simpa using hkd
    have HNE : Hid (¬ (o.1 = p.1 ∧ nameO o = nameO p)) := fun h => hkd h.1
    by_cases hct : 254 < n1
    ·
     have hcb : decide (254 < n1) = true := by simpa using hct
     have hCS := CheckState_calls ss _ x u1.drew (HS.out.on (HH1.out.drew.below))
     rw [HKC.out] at hCS
     refine t0 (Held w [(w.heap.size + 1 + 1, ps), (w.heap.size + 1, cs), (w.heap.size, ss)] []) HH1.out.drew (fun hH => ?_)
     refine tq 0 (.agg ss.toArray) (yieldsIf_load_mid rfl 61 _ rfl (w.heap.size) 0 rfl ss _ (fun u hu => hu.get 2 rfl) underlying61 rfl his) ?_; try go_frame
     refine tr 1 (fun K hK => ?_)
     go_simp
     refine (hCS).mono ?_
     rintro e v1 ⟨rfl, hbv1⟩
     have dv1 : Held w [(w.heap.size + 1 + 1, ps), (w.heap.size + 1, cs), (w.heap.size, ss)] [] v1 := HH1.out.drew.on hbv1
     go_wp2_with fail
     refine hK.out _ _ dv1 (fun hH => ?_)
     clear hK K
     try go_frame
     refine tp 2 ?_; try go_frame
     refine tp 3 ?_; try go_frame
     refine tp 4 ?_; try go_frame
     refine' tk 5 ?_ ?_; rotate_left
     ·
      intro u hu; have e1 := hu.cell 1 rfl 0 HC0.out; have e2 := hu.cell 0 rfl 0 HP0.out; clear hu; go_simp; try with_reducible rfl
     try go_frame
     refine tp 6 ?_; try go_frame
     refine' tk 7 ?_ ?_; rotate_left
     ·
      intro u hu; have e1 := hu.cell 1 rfl 0 HC0.out; have e2 := hu.cell 0 rfl 0 HP0.out; clear hu; go_simp; try with_reducible rfl
     try go_frame
     refine tp 8 ?_; try go_frame
     refine tp 9 ?_; try go_frame
     refine tn 10 ?_; try go_frame
     refine tn 11 ?_; try go_frame
     refine tn 12 ?_; try go_frame
     refine tn 13 ?_; try go_frame
     refine tn 14 ?_; try go_frame
     refine tp 15 ?_; try go_frame
     refine tp 16 ?_; try go_frame
     refine tp 17 ?_; try go_frame
     refine tq 18 (.agg ss.toArray) (yieldsIf_load_mid rfl 61 _ rfl (w.heap.size) 0 rfl ss _ (fun u hu => hu.get 2 rfl) underlying61 rfl his) ?_; try go_frame
     refine tp 19 ?_; try go_frame
     refine' tk 20 ?_ ?_; rotate_left
     ·
      intro u hu; have e1 := hu.cell 1 rfl 0 HC0.out; have e2 := hu.cell 0 rfl 0 HP0.out; clear hu; go_simp; try with_reducible rfl
     try go_frame
     refine tr 21 (fun K hK => ?_)
     go_simp
     refine (HN1.out v1 dv1.below).mono ?_
     rintro e v4 ⟨rfl, hbv4⟩
     have dv4 : Held w [(w.heap.size + 1 + 1, ps), (w.heap.size + 1, cs), (w.heap.size, ss)] [] v4 := dv1.on hbv4
     go_wp2_with fail
     refine hK.out _ _ dv4 (fun hH => ?_)
     clear hK K
     try go_frame
     refine tp 22 ?_; try go_frame
     refine tp 23 ?_; try go_frame
     refine tp 24 ?_; try go_frame
     refine tn 25 ?_; try go_frame
     refine tn 26 ?_; try go_frame
     refine tn 27 ?_; try go_frame
     refine tn 28 ?_; try go_frame
     refine tn 29 ?_; try go_frame
     refine tp 30 ?_; try go_frame
     refine tz ?_
     go_wp2_with fail
     go_meet
     exact ⟨true, rfl, (fun h => by cases h), dv4⟩
    ·
     have hcb : decide (254 < n1) = false := by simpa using hct
     have HC1 : Hid (countO x o.1 ≤ 254) := by rw [Hid, HE1.out]; omega
     have hCS := CheckState_calls ss _ x u1.drew (HS.out.on (HH1.out.drew.below))
     rw [HKC.out] at hCS
     refine t0 (Held w [(w.heap.size + 1 + 1, ps), (w.heap.size + 1, cs), (w.heap.size, ss)] []) HH1.out.drew (fun hH => ?_)
     refine tq 0 (.agg ss.toArray) (yieldsIf_load_mid rfl 61 _ rfl (w.heap.size) 0 rfl ss _ (fun u hu => hu.get 2 rfl) underlying61 rfl his) ?_; try go_frame
     refine tr 1 (fun K hK => ?_)
     go_simp
     refine (hCS).mono ?_
     rintro e v1 ⟨rfl, hbv1⟩
     have dv1 : Held w [(w.heap.size + 1 + 1, ps), (w.heap.size + 1, cs), (w.heap.size, ss)] [] v1 := HH1.out.drew.on hbv1
     go_wp2_with fail
     refine hK.out _ _ dv1 (fun hH => ?_)
     clear hK K
     try go_frame
     refine tp 2 ?_; try go_frame
     refine tp 3 ?_; try go_frame
     refine tp 4 ?_; try go_frame
     refine' tk 5 ?_ ?_; rotate_left
     ·
      intro u hu; have e1 := hu.cell 1 rfl 0 HC0.out; have e2 := hu.cell 0 rfl 0 HP0.out; clear hu; go_simp; try with_reducible rfl
     try go_frame
     refine tp 6 ?_; try go_frame
     refine' tk 7 ?_ ?_; rotate_left
     ·
      intro u hu; have e1 := hu.cell 1 rfl 0 HC0.out; have e2 := hu.cell 0 rfl 0 HP0.out; clear hu; go_simp; try with_reducible rfl
     try go_frame
     refine tp 8 ?_; try go_frame
     refine tp 9 ?_; try go_frame
     refine tn 10 ?_; try go_frame
     refine tn 11 ?_; try go_frame
     refine tn 12 ?_; try go_frame
     refine tn 13 ?_; try go_frame
     refine tn 14 ?_; try go_frame
     refine tp 15 ?_; try go_frame
     refine tp 16 ?_; try go_frame
     refine tp 17 ?_; try go_frame
     refine tq 18 (.agg ss.toArray) (yieldsIf_load_mid rfl 61 _ rfl (w.heap.size) 0 rfl ss _ (fun u hu => hu.get 2 rfl) underlying61 rfl his) ?_; try go_frame
     refine tp 19 ?_; try go_frame
     refine' tk 20 ?_ ?_; rotate_left
     ·
      intro u hu; have e1 := hu.cell 1 rfl 0 HC0.out; have e2 := hu.cell 0 rfl 0 HP0.out; clear hu; go_simp; try with_reducible rfl
     try go_frame
     refine tr 21 (fun K hK => ?_)
     go_simp
     refine (HN1.out v1 dv1.below).mono ?_
     rintro e v4 ⟨rfl, hbv4⟩
     have dv4 : Held w [(w.heap.size + 1 + 1, ps), (w.heap.size + 1, cs), (w.heap.size, ss)] [] v4 := dv1.on hbv4
     go_wp2_with fail
     refine hK.out _ _ dv4 (fun hH => ?_)
     clear hK K
     try go_frame
     refine tp 22 ?_; try go_frame
     refine tp 23 ?_; try go_frame
     refine tp 24 ?_; try go_frame
     refine tq 25 (.agg ss.toArray) (yieldsIf_load_mid rfl 61 _ rfl (w.heap.size) 0 rfl ss _ (fun u hu => hu.get 2 rfl) underlying61 rfl his) ?_; try go_frame
     refine tp 26 ?_; try go_frame
     refine' tk 27 ?_ ?_; rotate_left
     ·
      intro u hu; have e1 := hu.cell 1 rfl 0 HC0.out; have e2 := hu.cell 0 rfl 0 HP0.out; clear hu; go_simp; try with_reducible rfl
     try go_frame
     refine tr 28 (fun K hK => ?_)
     go_simp
     refine (HN2.out v4 dv4.below).mono ?_
     rintro e v5 ⟨rfl, hbv5⟩
     have dv5 : Held w [(w.heap.size + 1 + 1, ps), (w.heap.size + 1, cs), (w.heap.size, ss)] [] v5 := dv4.on hbv5
     go_wp2_with fail
     refine hK.out _ _ dv5 (fun hH => ?_)
     clear hK K
     try go_frame
     refine tp 29 ?_; try go_frame
     refine tp 30 ?_; try go_frame
     refine tz ?_
     go_wp2_with fail
     go_meet
     exact ⟨_, rfl, (fun h => ⟨HOK.out, HNE.out, HC1.out⟩), dv5⟩
  ·
   have hkb : (kc != 0) = true := by simpa using hk
   clear hok
   have HKC : Hid (checkS x = kc) := hck
   have hCS := CheckState_calls ss _ x u1.drew (HS.out.on (HH1.out.drew.below))
   rw [HKC.out] at hCS
   refine t0 (Held w [(w.heap.size + 1 + 1, ps), (w.heap.size + 1, cs), (w.heap.size, ss)] []) HH1.out.drew (fun hH => ?_)
   refine tq 0 (.agg ss.toArray) (yieldsIf_load_mid rfl 61 _ rfl (w.heap.size) 0 rfl ss _ (fun u hu => hu.get 2 rfl) underlying61 rfl his) ?_; try go_frame
   refine tr 1 (fun K hK => ?_)
   go_simp
   refine (hCS).mono ?_
   rintro e v1 ⟨rfl, hbv1⟩
   have dv1 : Held w [(w.heap.size + 1 + 1, ps), (w.heap.size + 1, cs), (w.heap.size, ss)] [] v1 := HH1.out.drew.on hbv1
   go_wp2_with fail
   refine hK.out _ _ dv1 (fun hH => ?_)
   clear hK K
   try go_frame
   refine tp 2 ?_; try go_frame
   refine tp 3 ?_; try go_frame
   refine tn 4 ?_; try go_frame
   refine tn 5 ?_; try go_frame
   refine tn 6 ?_; try go_frame
   refine tn 7 ?_; try go_frame
   refine tn 8 ?_; try go_frame
   refine tn 9 ?_; try go_frame
   refine tn 10 ?_; try go_frame
   refine tn 11 ?_; try go_frame
   refine tn 12 ?_; try go_frame
   refine tn 13 ?_; try go_frame
   refine tn 14 ?_; try go_frame
   refine tn 15 ?_; try go_frame
   refine tp 16 ?_; try go_frame
   refine tp 17 ?_; try go_frame
   refine tn 18 ?_; try go_frame
   refine tn 19 ?_; try go_frame
   refine tn 20 ?_; try go_frame
   refine tn 21 ?_; try go_frame
   refine tn 22 ?_; try go_frame
   refine tp 23 ?_; try go_frame
   refine tp 24 ?_; try go_frame
   refine tn 25 ?_; try go_frame
   refine tn 26 ?_; try go_frame
   refine tn 27 ?_; try go_frame
   refine tn 28 ?_; try go_frame
   refine tn 29 ?_; try go_frame
   refine tp 30 ?_; try go_frame
   refine tz ?_
   go_wp2_with fail
   go_meet
   exact ⟨true, rfl, (fun h => by cases h), dv1⟩
 case rest =>
 obtain ⟨r, rfl, HR, HH⟩ := hcut
 have hbf := HH.out.below
 cases r
 ·
  obtain ⟨hOK, hNE, hC1⟩ := HR.out rfl
  have HOK : Hid (StOK x) := hOK
  have HORD : Hid ((putO x o).2.2 = 0 → (putO (putO x o).1 p).2.2 = 0 → (putO x p).2.2 = 0 ∧ (putO (putO x p).1 o).2.2 = 0 ∧ (putO (putO x p).1 o).1 = (putO (putO x o).1 p).1) := order_ok hOK hNE hC1
  have HF1 : Hid (Fits (putO x o).1) := put_fits o hOK
  have HF2 : Hid (Fits (putO x p).1) := put_fits p hOK
  have HOK1 : Hid ((putO x o).2.2 = 0 → StOK (putO x o).1) := put_ok hOK
  have HOK2 : Hid ((putO x p).2.2 = 0 → StOK (putO x p).1) := put_ok hOK
  clear hOK hNE hC1 HR
  have HRS : Hid (wc.rangeAt (w.heap.size) 0 ss) := HH.out.get 2 rfl
  have HRC : Hid (wc.rangeAt (w.heap.size + 1) 0 cs) := HH.out.get 1 rfl
  have hP1 := Put_law ss cs x o wc (HS.out.on HH.out.below) (HO.out.on HH.out.below) HF1.out
  obtain ⟨r1, hr1⟩ : ∃ r1, putO x o = r1 := ⟨_, rfl⟩
  rw [hr1] at hP1 HORD HOK1
  clear hr1 HF1
  obtain ⟨y1, b1, e1⟩ := r1
  simp only at hP1 HORD HOK1
  go_wp2_with (first | (refine BigFrame.wpList_want rfl (fun _ hKK => wp_load_mid 61 _ rfl (w.heap.size) 0 rfl ss _ HRS.out underlying61 rfl his (hKK _ _ ?_))) | (refine BigFrame.wpList_want rfl (fun _ hKK => wp_load_mid 46 _ rfl (w.heap.size + 1) 0 rfl cs _ HRC.out underlying46 rfl hio (hKK _ _ ?_))) | fail)
  clear HRS HRC
  refine hP1.mono ?_
  rintro e u3 ⟨gs, rfl, hst3, hb3⟩
  clear hP1
  have HHcA : Hid (Held w [(w.heap.size + 1 + 1, ps), (w.heap.size + 1, cs), (w.heap.size, ss)] [] u3) := HH.out.on hb3
  have hglA := hst3.len
  have hgoA := all_oneCell_toArray hst3.one
  have higaA : (prog.info? 61).map (·.size) = some gs.toArray.size := by simpa [hglA] using infoSta
  have higA : (prog.info? 61).map (·.size) = some gs.length := by rw [hglA]; exact infoSta
  have HFA : Held w [(w.heap.size + 1 + 1, ps), (w.heap.size + 1, cs), (w.heap.size, ss)] [(u3.heap.size, 6)] (u3.alloc (.cells #[Z, Z, Z, Z, Z, Z] 61)) := HHcA.out.room rfl #[Z, Z, Z, Z, Z, Z] 61
  have HTA : Hid ((u3.alloc (.cells #[Z, Z, Z, Z, Z, Z] 61)).there u3.heap.size 0 gs.toArray.size) := by have := HFA.there 0 (b := u3.heap.size) rfl; simpa [Hid, hglA] using this
  obtain ⟨WA, hWA⟩ : ∃ WA, WA = (u3.alloc (.cells #[Z, Z, Z, Z, Z, Z] 61)).setCells u3.heap.size 0 gs := ⟨_, rfl⟩
  have HNEA : ∀ x ∈ [(w.heap.size + 1 + 1, ps), (w.heap.size + 1, cs), (w.heap.size, ss)], x.1 ≠ u3.heap.size := fun y hy => Nat.ne_of_lt (HHcA.out.2.1 y hy).2.1
  have HHA : Hid (Held w ((u3.heap.size, gs) :: [(w.heap.size + 1 + 1, ps), (w.heap.size + 1, cs), (w.heap.size, ss)]) [] WA) := by rw [Hid, hWA]; exact HFA.store hglA HNEA
  have HBA : Hid (Below u3.heap.size u3 WA) := by rw [Hid, hWA]; exact below_setCells ((Below.refl _ u3).alloc (Nat.le_refl _) _) (Nat.le_refl _)
  have HEA : Hid (WA = (u3.alloc (.cells #[Z, Z, Z, Z, Z, Z] 61)).setCells u3.heap.size 0 gs) := hWA
  clear hWA HFA HNEA
  have HSD : Hid (RState (fun b => b ≠ u3.heap.size) WA gs y1) := RState.firm.kept (RState.firm.weak hst3 (fun b hb _ => Nat.ne_of_lt hb)) (Kept.below HBA.out)
  clear HH hst3 hb3 hbf
  by_cases he1 : e1 = 0
  ·
   subst he1
   have HST1 : Hid (StOK y1) := HOK1.out rfl
   have HRA : Hid (WA.rangeAt u3.heap.size 0 gs) := HHA.out.get 0 rfl
   have HRP : Hid (WA.rangeAt (w.heap.size + 1 + 1) 0 ps) := HHA.out.get 1 rfl
   have hlA : u3.heap.size < WA.heap.size := HHA.out.lt 0 rfl
   have h3w : w.heap.size ≤ u3.heap.size := HHcA.out.below.size
   have hP2 := Put_lawD gs ps u3.heap.size y1 p WA hlA HSD.out (RObject.firm.kept (RObject.firm.weak HQ.out (fun b hb _ => Nat.ne_of_lt (Nat.lt_of_lt_of_le hb h3w))) (Kept.below HHA.out.below)) (put_fits p HST1.out)
   obtain ⟨r2, hr2⟩ : ∃ r2, putO y1 p = r2 := ⟨_, rfl⟩
   rw [hr2] at hP2 HORD
   clear hr2
   obtain ⟨y2, b2, e2⟩ := r2
   simp only at hP2 HORD
   go_wp2_with (first | (refine wpList_store_mid rfl 61 _ _ rfl u3.heap.size 0 gs.toArray rfl rfl HTA.out higaA hgoA ?_; refine wpl_at HEA.out ?_) | (refine BigFrame.wpList_want rfl (fun _ hKK => wp_load_mid 61 _ rfl (u3.heap.size) 0 rfl gs _ HRA.out underlying61 rfl higA (hKK _ _ ?_))) | (refine BigFrame.wpList_want rfl (fun _ hKK => wp_load_mid 46 _ rfl (w.heap.size + 1 + 1) 0 rfl ps _ HRP.out underlying46 rfl hip (hKK _ _ ?_))) | fail)
   clear HRA HRP
   refine hP2.mono ?_
   rintro e u4 ⟨fs, rfl, hst4, hb4⟩
   clear hP2 HTA HEA
   have hglB := RState.firm.len hst4
   have hgoB := all_oneCell_toArray (RState.firm.one hst4)
   have higaB : (prog.info? 61).map (·.size) = some fs.toArray.size := by simpa [hglB] using infoSta
   have higB : (prog.info? 61).map (·.size) = some fs.length := by rw [hglB]; exact infoSta
   obtain ⟨DA, hDA⟩ : ∃ DA, DA = u3.heap.size := ⟨_, rfl⟩
   rw [← hDA] at HHA ⊢
   have hFB : Held w [(w.heap.size + 1 + 1, ps), (w.heap.size + 1, cs), (w.heap.size, ss)] [(DA, 6)] u4 := by have h1 := (HHA.out.on hb4).free; rwa [hglA] at h1
   have HTB : Hid (u4.there DA 0 fs.toArray.size) := by have := hFB.there 0 (b := DA) rfl; simpa [Hid, hglB] using this
   have hNEB : ∀ x ∈ [(w.heap.size + 1 + 1, ps), (w.heap.size + 1, cs), (w.heap.size, ss)], x.1 ≠ DA := fun y hy => by rw [hDA]; exact Nat.ne_of_lt (HHcA.out.2.1 y hy).2.1
   obtain ⟨WB, hWB⟩ : ∃ WB, WB = u4.setCells DA 0 fs := ⟨_, rfl⟩
   have HHB : Hid (Held w ((DA, fs) :: [(w.heap.size + 1 + 1, ps), (w.heap.size + 1, cs), (w.heap.size, ss)]) [] WB) := by rw [Hid, hWB]; exact hFB.store hglB hNEB
   have hkB : Kept (fun b => b ≠ DA) u4 WB := by rw [hWB]; exact kept_setCells (fun h => h rfl)
   have hSB : RState (fun b => b ≠ DA) WB fs y2 := RState.firm.kept (by rw [hDA]; exact hst4) hkB
   have HEB : Hid (WB = u4.setCells DA 0 fs) := hWB
   clear hWB hkB hFB hNEB hst4 hb4 HHA HHcA HSD hDA hlA h3w
   have HSB : Hid (StAt WB fs y2) := RState.firm.weak hSB (fun _ _ _ => trivial)
   clear hSB
   by_cases he2 : e2 = 0
   ·
    subst he2
    obtain ⟨hq1, hq2, hq3⟩ := HORD.out (by first | rfl | trivial) (by first | rfl | trivial)
    have HRS : Hid (WB.rangeAt (w.heap.size) 0 ss) := HHB.out.get 3 rfl
    have HRP : Hid (WB.rangeAt (w.heap.size + 1 + 1) 0 ps) := HHB.out.get 1 rfl
    have hP3 := Put_law ss ps x p WB (HS.out.on HHB.out.below) (HQ.out.on HHB.out.below) HF2.out
    obtain ⟨r3, hr3⟩ : ∃ r3, putO x p = r3 := ⟨_, rfl⟩
    rw [hr3] at hP3 hq1 hq2 hq3 HOK2
    clear hr3 HF2
    obtain ⟨y3, b3, e3⟩ := r3
    simp only at hP3 hq1 hq2 hq3 HOK2
    subst hq1
    have HST3 : Hid (StOK y3) := HOK2.out rfl
    have HQ2 : Hid ((putO y3 o).2.2 = 0 ∧ (putO y3 o).1 = y2) := ⟨hq2, hq3⟩
    clear hq2 hq3 HORD HOK1 HOK2
    go_wp2_with (first | (refine wpList_store_mid rfl 61 _ _ rfl DA 0 fs.toArray rfl rfl HTB.out higaB hgoB ?_; refine wpl_at HEB.out ?_) | (refine BigFrame.wpList_want rfl (fun _ hKK => wp_load_mid 61 _ rfl (w.heap.size) 0 rfl ss _ HRS.out underlying61 rfl his (hKK _ _ ?_))) | (refine BigFrame.wpList_want rfl (fun _ hKK => wp_load_mid 46 _ rfl (w.heap.size + 1 + 1) 0 rfl ps _ HRP.out underlying46 rfl hip (hKK _ _ ?_))) | fail)
    clear HRS HRP HTB HEB
    refine hP3.mono ?_
    rintro e u5 ⟨ks, rfl, hst5, hb5⟩
    clear hP3
    have HHcC : Hid (Held w ((DA, fs) :: [(w.heap.size + 1 + 1, ps), (w.heap.size + 1, cs), (w.heap.size, ss)]) [] u5) := HHB.out.on hb5
    have hglC := hst5.len
    have hgoC := all_oneCell_toArray hst5.one
    have higaC : (prog.info? 61).map (·.size) = some ks.toArray.size := by simpa [hglC] using infoSta
    have higC : (prog.info? 61).map (·.size) = some ks.length := by rw [hglC]; exact infoSta
    have HFC : Held w ((DA, fs) :: [(w.heap.size + 1 + 1, ps), (w.heap.size + 1, cs), (w.heap.size, ss)]) [(u5.heap.size, 6)] (u5.alloc (.cells #[Z, Z, Z, Z, Z, Z] 61)) := HHcC.out.room rfl #[Z, Z, Z, Z, Z, Z] 61
    have HTC : Hid ((u5.alloc (.cells #[Z, Z, Z, Z, Z, Z] 61)).there u5.heap.size 0 ks.toArray.size) := by have := HFC.there 0 (b := u5.heap.size) rfl; simpa [Hid, hglC] using this
    obtain ⟨WC, hWC⟩ : ∃ WC, WC = (u5.alloc (.cells #[Z, Z, Z, Z, Z, Z] 61)).setCells u5.heap.size 0 ks := ⟨_, rfl⟩
    have HNEC : ∀ x ∈ ((DA, fs) :: [(w.heap.size + 1 + 1, ps), (w.heap.size + 1, cs), (w.heap.size, ss)]), x.1 ≠ u5.heap.size := fun y hy => Nat.ne_of_lt (HHcC.out.2.1 y hy).2.1
    have HHC : Hid (Held w ((u5.heap.size, ks) :: ((DA, fs) :: [(w.heap.size + 1 + 1, ps), (w.heap.size + 1, cs), (w.heap.size, ss)])) [] WC) := by rw [Hid, hWC]; exact HFC.store hglC HNEC
    have HBC : Hid (Below u5.heap.size u5 WC) := by rw [Hid, hWC]; exact below_setCells ((Below.refl _ u5).alloc (Nat.le_refl _) _) (Nat.le_refl _)
    have HEC : Hid (WC = (u5.alloc (.cells #[Z, Z, Z, Z, Z, Z] 61)).setCells u5.heap.size 0 ks) := hWC
    clear hWC HFC HNEC
    have HSC : Hid (RState (fun b => b ≠ u5.heap.size) WC ks y3) := RState.firm.kept (RState.firm.weak hst5 (fun b hb _ => Nat.ne_of_lt hb)) (Kept.below HBC.out)
    have HSF : Hid (RState (fun b => b ≠ u5.heap.size) WC fs y2) := RState.firm.kept (RState.firm.weak (HSB.out.on hb5) (fun b hb _ => Nat.ne_of_lt hb)) (Kept.below HBC.out)
    have hlC : u5.heap.size < WC.heap.size := HHC.out.lt 0 rfl
    have h5w : w.heap.size ≤ u5.heap.size := HHcC.out.below.size
    have HRK : Hid (WC.rangeAt u5.heap.size 0 ks) := HHC.out.get 0 rfl
    have HRO : Hid (WC.rangeAt (w.heap.size + 1) 0 cs) := HHC.out.get 3 rfl
    have hP4 := Put_lawD ks cs u5.heap.size y3 o WC hlC HSC.out (RObject.firm.kept (RObject.firm.weak HO.out (fun b hb _ => Nat.ne_of_lt (Nat.lt_of_lt_of_le hb h5w))) (Kept.below HHC.out.below)) (put_fits o HST3.out)
    obtain ⟨r4, hr4⟩ : ∃ r4, putO y3 o = r4 := ⟨_, rfl⟩
    rw [hr4] at hP4 HQ2
    clear hr4
    obtain ⟨y4, b4, e4⟩ := r4
    obtain ⟨hq5, hq6⟩ := HQ2.out
    simp only at hP4 hq5 hq6
    subst hq5 hq6
    clear HQ2 hst5 hb5 HHB HSB
    go_wp2_with (first | (refine wpList_store_mid rfl 61 _ _ rfl u5.heap.size 0 ks.toArray rfl rfl HTC.out higaC hgoC ?_; refine wpl_at HEC.out ?_) | (refine BigFrame.wpList_want rfl (fun _ hKK => wp_load_mid 61 _ rfl (u5.heap.size) 0 rfl ks _ HRK.out underlying61 rfl higC (hKK _ _ ?_))) | (refine BigFrame.wpList_want rfl (fun _ hKK => wp_load_mid 46 _ rfl (w.heap.size + 1) 0 rfl cs _ HRO.out underlying46 rfl hio (hKK _ _ ?_))) | fail)
    clear HRK HRO HTC HEC
    refine hP4.mono ?_
    rintro e u6 ⟨ms, rfl, hst6, hb6⟩
    clear hP4
    have hglD := RState.firm.len hst6
    have hgoD := all_oneCell_toArray (RState.firm.one hst6)
    have higaD : (prog.info? 61).map (·.size) = some ms.toArray.size := by simpa [hglD] using infoSta
    have higD : (prog.info? 61).map (·.size) = some ms.length := by rw [hglD]; exact infoSta
    have hFD : Held w ((DA, fs) :: [(w.heap.size + 1 + 1, ps), (w.heap.size + 1, cs), (w.heap.size, ss)]) [(u5.heap.size, 6)] u6 := by have h1 := (HHC.out.on hb6).free; rwa [hglC] at h1
    have HTD : Hid (u6.there u5.heap.size 0 ms.toArray.size) := by have := hFD.there 0 (b := u5.heap.size) rfl; simpa [Hid, hglD] using this
    have hNED : ∀ x ∈ ((DA, fs) :: [(w.heap.size + 1 + 1, ps), (w.heap.size + 1, cs), (w.heap.size, ss)]), x.1 ≠ u5.heap.size := fun y hy => Nat.ne_of_lt (HHcC.out.2.1 y hy).2.1
    obtain ⟨WD, hWD⟩ : ∃ WD, WD = u6.setCells u5.heap.size 0 ms := ⟨_, rfl⟩
    have HHD : Hid (Held w ((u5.heap.size, ms) :: (DA, fs) :: [(w.heap.size + 1 + 1, ps), (w.heap.size + 1, cs), (w.heap.size, ss)]) [] WD) := by rw [Hid, hWD]; exact hFD.store hglD hNED
    have hkD : Kept (fun b => b ≠ u5.heap.size) u6 WD := by rw [hWD]; exact kept_setCells (fun h => h rfl)
    have HSM : Hid (RState (fun b => b ≠ u5.heap.size) WD ms y4) := RState.firm.kept hst6 hkD
    have HSN : Hid (RState (fun b => b ≠ u5.heap.size) WD fs y4) := RState.firm.kept (RState.firm.kept HSF.out (Kept.below hb6)) hkD
    have HED : Hid (WD = u6.setCells u5.heap.size 0 ms) := hWD
    clear hWD hkD hFD hNED hst6 hb6 HHC HHcC HSC HSF hlC h5w
    have HRF : Hid (WD.rangeAt DA 0 fs) := HHD.out.get 1 rfl
    have HRM : Hid (WD.rangeAt u5.heap.size 0 ms) := HHD.out.get 0 rfl
    go_wp2_with (first | (refine wpList_store_mid rfl 61 _ _ rfl u5.heap.size 0 ms.toArray rfl rfl HTD.out higaD hgoD ?_; refine wpl_at HED.out ?_) | (refine BigFrame.wpList_want rfl (fun _ hKK => wp_load_mid 61 _ rfl (DA) 0 rfl fs _ HRF.out underlying61 rfl higB (hKK _ _ ?_))) | (refine BigFrame.wpList_want rfl (fun _ hKK => wp_load_mid 61 _ rfl (u5.heap.size) 0 rfl ms _ HRM.out underlying61 rfl higD (hKK _ _ ?_))) | fail)
    refine (SameState_yes fs ms _ _ y4 WD HSN HSM).mono ?_
    rintro e u7 ⟨rfl, hb7⟩
    have hbf : Below w.heap.size w u7 := on2 HHD.out.below hb7
    clear HRF HRM HTD HED HHD
    go_wp2_with fail
    go_ret
    exact ⟨rfl, hbf⟩
   ·
    have ht : (e2 != 0) = true := by simpa using he2
    have hbf : Below w.heap.size w WB := HHB.out.below
    go_wp2_with (first | (refine wpList_store_mid rfl 61 _ _ rfl DA 0 fs.toArray rfl rfl HTB.out higaB hgoB ?_; refine wpl_at HEB.out ?_) | fail)
    go_ret
    exact ⟨rfl, hbf⟩
  ·
   have ht : (e1 != 0) = true := by simpa using he1
   have hbf : Below w.heap.size w WA := HHA.out.below
   go_wp2_with (first | (refine wpList_store_mid rfl 61 _ _ rfl u3.heap.size 0 gs.toArray rfl rfl HTA.out higaA hgoA ?_; refine wpl_at HEA.out ?_) | fail)
   go_ret
   exact ⟨rfl, hbf⟩
 ·
  go_wp2_with fail
  go_ret
  exact ⟨rfl, hbf⟩
end Go.Proofs.YtikncmcceeacmaaGreat

namespace Go.Proofs.YtikncmcceeacmaaGreat
set_option maxHeartbeats 16000000
set_option maxRecDepth 100000
open Go.Proofs.Tryz Go.ChangeShapes Go.WideShapes Go.ChangeAt Go.RowKit
def Light {H : Type} (d : DataW H) (t : TypeId) : Prop := ∀ n ∈ d.weights prog t, n ≤ 140737488351232
theorem light_all {H : Type} {e : TypeId} : ∀ {ds : List (DataW H)} {d : DataW H}, d ∈ ds → (∀ n ∈ DataW.weightsAll prog e ds, n ≤ 140737488351232) → Light d e
 | [], _, h, _ => by simp at h
 | x :: ds, d, h, hw => by
  rcases List.mem_cons.1 h with rfl | h
  ·
   intro n hn; exact hw n (by simp [DataW.weightsAll, hn])
  ·
   exact light_all h (fun n hn => hw n (by simp [DataW.weightsAll, hn]))
theorem light_slice {H : Type} {t e : TypeId} {elems spare : List (DataW H)} (hu : prog.underlying t = some (.slice e)) (h : Light (.slice elems spare) t) : elems.length * prog.bytesOf e ≤ 140737488351232 ∧ ∀ d ∈ elems, Light d e := by
 unfold Light at h
 simp only [DataW.weights, hu, List.mem_cons, List.mem_append] at h
 refine ⟨?_, fun d hd => light_all hd (fun n hn => h n (.inr (.inl hn)))⟩
 have := h _ (.inl rfl)
 rw [Nat.add_mul] at this
 omega
theorem light_struct {H : Type} {t : TypeId} {fs : Array Field} {parts : List (DataW H)} (hu : prog.underlying t = some (.struct fs)) (h : Light (.agg parts) t) {j : Nat} {tj : TypeId} {d : DataW H} (ht : (fs.toList.map (·.type))[j]? = some tj) (hd : parts[j]? = some d) : Light d tj := by
 intro n hn
 refine h n ?_
 simp only [DataW.weights, hu]
 exact DataW.weights_mem_each ht hd n hn
theorem light_arg {H : Type} {ts : List TypeId} {ds : List (DataW H)} (h : (DataW.weightsEach prog ts ds).all (· ≤ reachBytes) = true) {j : Nat} {t : TypeId} {d : DataW H} (ht : ts[j]? = some t) (hd : ds[j]? = some d) : Light d t := by
 intro n hn
 have := List.all_eq_true.1 h _ (DataW.weights_mem_each ht hd n hn)
 have hre : reachBytes = 140737488351232 := by decide
 rw [hre] at this
 simpa using this
section
variable {H : Type} {enc : TypeId × Value → H} {W : World} {base n : Nat} {sp : Nat → Bool} {held : Bool}
theorem addr_lt {B off : Nat} {spot : Option _} {v : Value} (h : W.cell? ⟨B, off, spot⟩ = some v) : B < W.heap.size := by
 rcases Nat.lt_or_ge B W.heap.size with h2 | h2
 ·
  exact h2
 ·
  simp [World.cell?, Array.getElem?_eq_none h2] at h
theorem getD_range {α : Type} [Inhabited α] (f : Nat → α) (len i : Nat) (h : i < len) : ((List.range len).map f).getD i default = f i := by
 rw [getE _ _ (by simpa using h)]; simp
end
def Opens {α : Type} (R : Rep α) (t : TypeId) : Prop :=
 ∀ {H : Type} {enc : TypeId × Value → H} {W : World} {base n : Nat} {sp : Nat → Bool} {held : Bool} {cs : List Value} {x : DataW H × List MemPlace},
  DataW.trod enc prog W base sp held n t cs = some x → Light x.1 t → ∃ y, R (fun _ => True) W cs y
theorem opens_str : Opens RStr 9 := by
 intro H enc W base n sp held cs x h hl
 obtain ⟨s, hs, rfl, _⟩ := DataW.trod_string underlying9 h
 refine ⟨s, hs, ?_⟩
 have := hl s.data.toList.length (by simp [DataW.weights])
 simp at this
 omega
theorem opens_int : Opens RInt 3 := by
 intro H enc W base n sp held cs x h _
 obtain ⟨e, e1, _, _⟩ := DataW.trod_int underlying3 h
 exact ⟨e, e1⟩
theorem opens_bool : Opens RBool 4 := by
 intro H enc W base n sp held cs x h _
 obtain ⟨b, b1, _⟩ := DataW.trod_bool underlying4 h
 exact ⟨b, b1⟩
theorem opens_slice {α : Type} [Inhabited α] {R : Rep α} {k bytes : Nat} {t e : TypeId} (hR : Firm R k) (hu : prog.underlying t = some (.slice e)) (ck : prog.cellsOf e = k) (bk : prog.bytesOf e = bytes) (hk0 : 0 < k) (hE : Opens R e) : Opens (RSl R k bytes) t := by
 intro H enc W base n sp held cs x h hl
 rcases Go.Deep.open_slice hu h with ⟨hv, _⟩ | ⟨a, len, cap, m, nn, D, Pl, hv, _, hlc, _, hm, rfl, hel⟩
 ·
  exact ⟨[], none, 0, 0, hv, SlAt.nil _ _ _ _ (fun _ => rfl)⟩
 ·
  obtain ⟨w1, w2⟩ := light_slice hu hl
  simp only [List.length_map, List.length_range, bk] at w1
  have hml : len ≤ m := by rw [hm]; split <;> omega
  rw [ck] at hel
  have each : ∀ i, i < len → ∃ y : α, ∃ cs, R (fun _ => True) W cs y ∧ ∀ j u, cs[j]? = some u → W.cell? ((a.add (i * k)).add j) = some u := fun i hi => by
   obtain ⟨cs', h1, h2⟩ := hel i (by omega)
   obtain ⟨y, hy⟩ := hE h2 (w2 _ (List.mem_map.2 ⟨i, List.mem_range.2 hi, rfl⟩))
   obtain ⟨_, _, hcell⟩ := World.cells?_some h1
   refine ⟨y, cs', hy, fun j u hj => ?_⟩
   have hjk : j < k := by
    have := (List.getElem?_eq_some_iff.1 hj).1
    rwa [hR.len hy] at this
   rw [hcell j hjk, hj]
  obtain ⟨f, hf⟩ := Go.Deep.choose_lt each
  refine ⟨(List.range len).map f, some a, len, cap, hv, by simp, hlc, (fun h => by cases h), w1, fun hpos => ?_⟩
  obtain ⟨B, off, spot⟩ := a
  obtain ⟨cs0, hr0, hc0⟩ := hf 0 hpos
  have hex : ∃ u, cs0[0]? = some u := by
   cases e : cs0 with
   | nil => have := hR.len hr0; rw [e] at this; simp at this; omega
   | cons u r => exact ⟨u, rfl⟩
  obtain ⟨u0, hu0⟩ := hex
  have hc0 := hc0 0 u0 hu0
  have hsp : spot = none := by
   have := World.cell?_spot hc0
   simpa [Addr.add] using this
  subst hsp
  rw [add_lit, add_lit] at hc0
  refine ⟨B, off, rfl, addr_lt hc0, trivial, fun i hi => ?_⟩
  obtain ⟨cs, hr, hc⟩ := hf i hi
  refine ⟨cs, by rw [getD_range f len i hi]; exact hr, fun j u hj => ?_⟩
  have := hc j u hj
  rwa [add_lit, add_lit] at this
def OpensFs {α : Type} (fs : List Field) (off total : Nat) (R : Rep α) : Prop :=
 ∀ {H : Type} {enc : TypeId × Value → H} {W : World} {base n : Nat} {sp : Nat → Bool} {held : Bool} {cs : List Value}, cs.length = total →
  (∀ (j : Nat) (f : Field), fs[j]? = some f → ∃ d, DataW.trod enc prog W base sp held n f.type ((cs.drop f.offset).take (prog.cellsOf f.type)) = some d ∧ Light d.1 f.type) → ∃ y, R (fun _ => True) W (cs.drop off) y
theorem opensFs_last {α : Type} {R : Rep α} {f : Field} {off total : Nat} (ho : f.offset = off) (ht : off + prog.cellsOf f.type = total) (h : Opens R f.type) : OpensFs [f] off total R := by
 intro H enc W base n sp held cs hl hf
 obtain ⟨d, h1, h2⟩ := hf 0 f rfl
 rw [ho, List.take_of_length_le (by rw [List.length_drop]; omega)] at h1
 exact h h1 h2
theorem opensFs_cons {α β : Type} {R : Rep α} {S : Rep β} {f : Field} {fs : List Field} {off m total : Nat} (ho : f.offset = off) (hm : off + prog.cellsOf f.type = m) (h : Opens R f.type) (hs : OpensFs fs m total S) : OpensFs (f :: fs) off total (RPair R S) := by
 intro H enc W base n sp held cs hl hf
 obtain ⟨d, h1, h2⟩ := hf 0 f rfl
 rw [ho] at h1
 obtain ⟨y, hy⟩ := h h1 h2
 obtain ⟨z, hz⟩ := hs (cs := cs) hl (fun j g hg => hf (j + 1) g (by simpa using hg))
 refine ⟨(y, z), (cs.drop off).take (prog.cellsOf f.type), cs.drop m, ?_, hy, hz⟩
 rw [← hm, ← List.drop_drop]
 exact (List.take_append_drop _ _).symm
theorem opens_struct {α : Type} {R : Rep α} {t : TypeId} {fs : Array Field} {total : Nat} (hu : prog.underlying t = some (.struct fs)) (hc : prog.cellsOf t = total) (h : OpensFs fs.toList 0 total R) : Opens R t := by
 intro H enc W base n sp held cs x hx hl
 obtain ⟨xs, m, _, rfl, hlen, hxs, hf⟩ := DataW.trod_struct hu hx
 have := h (enc := enc) (W := W) (base := base) (n := m) (sp := sp) (held := held) (cs := cs) (by rw [hlen, hc]) (fun j f hj => by
  have hj' : fs[j]? = some f := by simpa using hj
  have h1 := hf j f hj'
  have hlt : j < xs.length := by
   have := (Array.getElem?_eq_some_iff.1 hj').1
   omega
  have h2 : xs[j]? = some xs[j] := List.getElem?_eq_getElem hlt
  rw [h2] at h1
  refine ⟨xs[j], h1, light_struct hu hl (j := j) (by simp [hj']) (by simp [h2])⟩)
 simpa using this
theorem arg_agg {P : Program} {t : TypeId} {fs : Array Field} (hu : P.underlying t = some (.struct fs)) {H : Type} {enc : TypeId × Value → H} {W : World} {base b0 : Nat} {r : Reach} {sp : Nat → Bool} {held : Bool} {v : Value} {d : DataW H} {p : List MemPlace}
  (hv : Value.okWide P W r b0 t v) (hd : DataW.Trod enc P W base sp held t v d p) : ∃ (cs : Array Value) (fuel : Nat), v = .agg cs ∧ DataW.trod enc P W base sp held fuel t cs.toList = some (d, p) := by
 obtain ⟨cs, rfl, _⟩ := okWide_struct hu hv
 obtain ⟨fuel, hf⟩ := hd
 exact ⟨cs, fuel, rfl, hf⟩
theorem opens_arg {α : Type} {R : Rep α} {t : TypeId} {fs : Array Field} (hu : prog.underlying t = some (.struct fs)) (h : Opens R t) {H : Type} {enc : TypeId × Value → H} {W : World} {base b0 : Nat} {r : Reach} {sp : Nat → Bool} {held : Bool} {v : Value} {d : DataW H} {p : List MemPlace}
  (hv : Value.okWide prog W r b0 t v) (hd : DataW.Trod enc prog W base sp held t v d p) (hl : Light d t) : ∃ cs y, v = .agg cs ∧ R (fun _ => True) W cs.toList y := by
 obtain ⟨cs, fuel, e, hf⟩ := arg_agg hu hv hd
 obtain ⟨y, hy⟩ := h hf hl
 exact ⟨cs, y, e, hy⟩
theorem opens_Label : Opens RLabel 173 := opens_struct (total := 2) underlying173 (by kernel_rfl) (opensFs_cons (m := 1) rfl (by kernel_rfl) opens_str (opensFs_last rfl (by kernel_rfl) opens_str))
theorem opens_s_str : Opens (RSl RStr 1 16) 31 := opens_slice RStr.firm underlying31 (by kernel_rfl) (by kernel_rfl) (by decide) opens_str
theorem opens_Req : Opens RReq 169 := opens_struct (total := 3) underlying169 (by kernel_rfl) (opensFs_cons (m := 1) rfl (by kernel_rfl) opens_str (opensFs_cons (m := 2) rfl (by kernel_rfl) opens_int (opensFs_last rfl (by kernel_rfl) opens_s_str)))
theorem opens_Res : Opens RRes 24 := opens_struct (total := 3) underlying24 (by kernel_rfl) (opensFs_cons (m := 1) rfl (by kernel_rfl) opens_int (opensFs_cons (m := 2) rfl (by kernel_rfl) opens_int (opensFs_last rfl (by kernel_rfl) opens_int)))
theorem opens_Taint : Opens RTaint 130 := opens_struct (total := 3) underlying130 (by kernel_rfl) (opensFs_cons (m := 1) rfl (by kernel_rfl) opens_str (opensFs_cons (m := 2) rfl (by kernel_rfl) opens_str (opensFs_last rfl (by kernel_rfl) opens_int)))
theorem opens_Bear : Opens RBear 128 := opens_struct (total := 4) underlying128 (by kernel_rfl) (opensFs_cons (m := 1) rfl (by kernel_rfl) opens_str (opensFs_cons (m := 2) rfl (by kernel_rfl) opens_str (opensFs_cons (m := 3) rfl (by kernel_rfl) opens_bool (opensFs_last rfl (by kernel_rfl) opens_int))))
theorem opens_s_Req : Opens (RSl RReq 3 48) 26 := opens_slice RReq.firm underlying26 (by kernel_rfl) (by kernel_rfl) (by decide) opens_Req
theorem opens_Term : Opens RTerm 171 := opens_struct (total := 2) underlying171 (by kernel_rfl) (opensFs_cons (m := 1) rfl (by kernel_rfl) opens_s_Req (opensFs_last rfl (by kernel_rfl) opens_str))
theorem opens_Prefer : Opens RPrefer 108 := opens_struct (total := 2) underlying108 (by kernel_rfl) (opensFs_cons (m := 1) rfl (by kernel_rfl) opens_s_Req (opensFs_last rfl (by kernel_rfl) opens_int))
theorem opens_Spread : Opens RSpread 112 := opens_struct (total := 4) underlying112 (by kernel_rfl) (opensFs_cons (m := 1) rfl (by kernel_rfl) opens_str (opensFs_cons (m := 2) rfl (by kernel_rfl) opens_int (opensFs_cons (m := 3) rfl (by kernel_rfl) opens_int (opensFs_last rfl (by kernel_rfl) opens_s_Req))))
theorem opens_s_Label : Opens (RSl RLabel 2 32) 22 := opens_slice RLabel.firm underlying22 (by kernel_rfl) (by kernel_rfl) (by decide) opens_Label
theorem opens_s_Bear : Opens (RSl RBear 4 48) 25 := opens_slice RBear.firm underlying25 (by kernel_rfl) (by kernel_rfl) (by decide) opens_Bear
theorem opens_s_Prefer : Opens (RSl RPrefer 2 32) 27 := opens_slice RPrefer.firm underlying27 (by kernel_rfl) (by kernel_rfl) (by decide) opens_Prefer
theorem opens_s_int : Opens (RSl RInt 1 8) 28 := opens_slice RInt.firm underlying28 (by kernel_rfl) (by kernel_rfl) (by decide) opens_int
theorem opens_s_Term : Opens (RSl RTerm 2 40) 29 := opens_slice RTerm.firm underlying29 (by kernel_rfl) (by kernel_rfl) (by decide) opens_Term
theorem opens_s_Spread : Opens (RSl RSpread 4 56) 30 := opens_slice RSpread.firm underlying30 (by kernel_rfl) (by kernel_rfl) (by decide) opens_Spread
theorem opens_Pod : Opens RPod 33 := opens_struct (total := 16) underlying33 (by kernel_rfl) (opensFs_cons (m := 1) rfl (by kernel_rfl) opens_str (opensFs_cons (m := 2) rfl (by kernel_rfl) opens_int (opensFs_cons (m := 3) rfl (by kernel_rfl) opens_s_Label (opensFs_cons (m := 6) rfl (by kernel_rfl) opens_Res (opensFs_cons (m := 7) rfl (by kernel_rfl) opens_s_Bear (opensFs_cons (m := 8) rfl (by kernel_rfl) opens_s_Req (opensFs_cons (m := 9) rfl (by kernel_rfl) opens_s_Prefer (opensFs_cons (m := 10) rfl (by kernel_rfl) opens_s_int (opensFs_cons (m := 11) rfl (by kernel_rfl) opens_s_Term (opensFs_cons (m := 12) rfl (by kernel_rfl) opens_s_Term (opensFs_cons (m := 13) rfl (by kernel_rfl) opens_s_Spread (opensFs_cons (m := 14) rfl (by kernel_rfl) opens_s_str (opensFs_cons (m := 15) rfl (by kernel_rfl) opens_str (opensFs_last rfl (by kernel_rfl) opens_str))))))))))))))
theorem opens_s_Taint : Opens (RSl RTaint 3 40) 34 := opens_slice RTaint.firm underlying34 (by kernel_rfl) (by kernel_rfl) (by decide) opens_Taint
theorem opens_Node : Opens RNode 36 := opens_struct (total := 9) underlying36 (by kernel_rfl) (opensFs_cons (m := 1) rfl (by kernel_rfl) opens_str (opensFs_cons (m := 2) rfl (by kernel_rfl) opens_s_Label (opensFs_cons (m := 3) rfl (by kernel_rfl) opens_s_Taint (opensFs_cons (m := 4) rfl (by kernel_rfl) opens_bool (opensFs_cons (m := 7) rfl (by kernel_rfl) opens_Res (opensFs_cons (m := 8) rfl (by kernel_rfl) opens_int (opensFs_last rfl (by kernel_rfl) opens_int)))))))
theorem opens_Volume : Opens RVolume 38 := opens_struct (total := 5) underlying38 (by kernel_rfl) (opensFs_cons (m := 1) rfl (by kernel_rfl) opens_str (opensFs_cons (m := 2) rfl (by kernel_rfl) opens_int (opensFs_cons (m := 3) rfl (by kernel_rfl) opens_str (opensFs_cons (m := 4) rfl (by kernel_rfl) opens_s_Req (opensFs_last rfl (by kernel_rfl) opens_str)))))
theorem opens_Claim : Opens RClaim 40 := opens_struct (total := 4) underlying40 (by kernel_rfl) (opensFs_cons (m := 1) rfl (by kernel_rfl) opens_str (opensFs_cons (m := 2) rfl (by kernel_rfl) opens_int (opensFs_cons (m := 3) rfl (by kernel_rfl) opens_str (opensFs_last rfl (by kernel_rfl) opens_str))))
theorem opens_Class : Opens RClass 42 := opens_struct (total := 2) underlying42 (by kernel_rfl) (opensFs_cons (m := 1) rfl (by kernel_rfl) opens_str (opensFs_last rfl (by kernel_rfl) opens_bool))
theorem opens_Budget : Opens RBudget 44 := opens_struct (total := 3) underlying44 (by kernel_rfl) (opensFs_cons (m := 1) rfl (by kernel_rfl) opens_str (opensFs_cons (m := 2) rfl (by kernel_rfl) opens_s_Req (opensFs_last rfl (by kernel_rfl) opens_int)))
theorem opens_s_Pod : Opens (RSl RPod 16 296) 54 := opens_slice RPod.firm underlying54 (by kernel_rfl) (by kernel_rfl) (by decide) opens_Pod
theorem opens_s_Node : Opens (RSl RNode 9 112) 55 := opens_slice RNode.firm underlying55 (by kernel_rfl) (by kernel_rfl) (by decide) opens_Node
theorem opens_s_Volume : Opens (RSl RVolume 5 80) 56 := opens_slice RVolume.firm underlying56 (by kernel_rfl) (by kernel_rfl) (by decide) opens_Volume
theorem opens_s_Claim : Opens (RSl RClaim 4 56) 57 := opens_slice RClaim.firm underlying57 (by kernel_rfl) (by kernel_rfl) (by decide) opens_Claim
theorem opens_s_Class : Opens (RSl RClass 2 24) 58 := opens_slice RClass.firm underlying58 (by kernel_rfl) (by kernel_rfl) (by decide) opens_Class
theorem opens_s_Budget : Opens (RSl RBudget 3 48) 59 := opens_slice RBudget.firm underlying59 (by kernel_rfl) (by kernel_rfl) (by decide) opens_Budget
theorem opens_State : Opens RState 61 := opens_struct (total := 6) underlying61 (by kernel_rfl) (opensFs_cons (m := 1) rfl (by kernel_rfl) opens_s_Pod (opensFs_cons (m := 2) rfl (by kernel_rfl) opens_s_Node (opensFs_cons (m := 3) rfl (by kernel_rfl) opens_s_Volume (opensFs_cons (m := 4) rfl (by kernel_rfl) opens_s_Claim (opensFs_cons (m := 5) rfl (by kernel_rfl) opens_s_Class (opensFs_last rfl (by kernel_rfl) opens_s_Budget))))))
theorem opens_Object : Opens RObject 46 := opens_struct (total := 40) underlying46 (by kernel_rfl) (opensFs_cons (m := 1) rfl (by kernel_rfl) opens_int (opensFs_cons (m := 17) rfl (by kernel_rfl) opens_Pod (opensFs_cons (m := 26) rfl (by kernel_rfl) opens_Node (opensFs_cons (m := 31) rfl (by kernel_rfl) opens_Volume (opensFs_cons (m := 35) rfl (by kernel_rfl) opens_Claim (opensFs_cons (m := 37) rfl (by kernel_rfl) opens_Class (opensFs_last rfl (by kernel_rfl) opens_Budget)))))))
end Go.Proofs.YtikncmcceeacmaaGreat

