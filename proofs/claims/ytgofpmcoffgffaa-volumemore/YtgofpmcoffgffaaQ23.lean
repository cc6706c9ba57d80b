/- plan.keep and plan.waits. Condition: the plan and the claim lie as is said of them. plan.add: decided for one claim. Condition: the plan lies as is said of it; each volume has a name of its own. An append to a row that has room: nothing grows. Plain facts on worlds. No condition. -/
import Derived.Test.YtgofpmcoffgffaaQ17
import Derived.Test.YtgofpmcoffgffaaQ22
import Derived.Test.YtgofpmcoffgffaaQ18
import Derived.Test.YtgofpmcoffgffaaQ06
import Derived.Test.YtgofpmcoffgffaaQ12
import Derived.Test.YtgofpmcoffgffaaQ16
import Derived.Laws.OwnMore
namespace Go.Proofs.Ytgofpmcoffgffaa
open Go.RowKit Go.Maps
set_option linter.unusedSimpArgs false
set_option maxRecDepth 100000

/-- Why a claim's own volume is not to be had: 0, if it is. -/
def keepP (V : List VolumeD) (NL : List Lab) (c : ClaimD) : Int :=
  match fI (vNs V) (cVo c) with
  | none => 13
  | some j => if sEq (vCl (V.getD j default)) c.1 = true then (if matchL NL (vRq (V.getD j default)) = true then 0 else 14) else 13
theorem waits_fI (K : List ClassD) (s : ByteArray) : waitsP K s = match fI (K.map Prod.fst) s with | none => false | some j => (K.getD j default).2 := by
  induction K with
  | nil => rfl
  | cons a K ih =>
    unfold waitsP fI at *
    rw [List.find?_cons, List.map_cons, List.findIdx?_cons]
    cases h : sEq a.1 s with
    | true => rfl
    | false =>
      simp only [Bool.false_eq_true, if_false]
      rw [ih]
      cases List.findIdx? (fun x => sEq x s) (K.map Prod.fst) <;> rfl
theorem RClass.wait10 {A : Where} {w : World} {cs : List Value} {x : ClassD} (h : RClass A w cs x) : cs[1]? = some (.bool x.2) := by
  obtain ⟨rfl, _⟩ := h.out
  rfl
set_option maxHeartbeats 8000000 in
theorem keep_calls (w Wp : World) (X : Nat) (lv0 : Value) (la : Option Addr) (ln lc : Nat) (ca : Option Addr) (cn cc cm : Nat) (va : Option Addr) (vn vc vm : Nat) (ka : Option Addr) (kn kc km : Nat) (NL : List Lab) (CL : List ClaimD) (V : List VolumeD) (K : List ClassD) (lv pv : Value) (cs : List Value) (A : Where) (c : ClaimD) (u : World) (hp : PlC w Wp X lv0 la ln lc ca cn cc cm va vn vc vm ka kn kc km NL CL V K) (hk : Kept (Old10 Wp X lv0) Wp u) (hx : BoxL u X (plC la ln lc ca cn cc cm va vn vc vm ka kn kc km lv pv)) (hc : RClaim A u cs c) :
    Calls Try.prog 39 #[.pointer (some ⟨X, 0, none⟩), .agg cs.toArray] u fun e u' => e = .returned (.int .i64 (keepP V NL c)) ∧ Below u.heap.size u u' := by
  obtain ⟨W1, hW1⟩ : ∃ W, W = u.alloc (.cells cs.toArray 57) := ⟨_, rfl⟩
  have B1 : Below u.heap.size u W1 := by rw [hW1]; go_grown
  have q1 : BoxL W1 u.heap.size cs := by rw [hW1]; exact BoxL.new u 57 _
  obtain ⟨e0, e1, e2, e3, z0, z2, z3⟩ := hc.all10
  have HA : Hid (∀ z, Below W1.heap.size W1 z → Kept (Old10 Wp X lv0) Wp z ∧ BoxL z X (plC la ln lc ca cn cc cm va vn vc vm ka kn kc km lv pv) ∧ BoxL z u.heap.size cs) := fun z hb => ⟨hk.trans (Kept.below (on2 B1 hb)), hx.on (on2 B1 hb), q1.on hb⟩
  have HB1 : Hid (Below u.heap.size u W1) := B1
  have HP : Hid (PlC w Wp X lv0 la ln lc ca cn cc cm va vn vc vm ka kn kc km NL CL V K) := hp
  have HQ : Hid (∀ z, Below W1.heap.size W1 z → z.cell? ⟨X, 3, none⟩ = some (.slice va vn vc) ∧ z.cell? ⟨X, 4, none⟩ = some (.map (some vm)) ∧ z.cell? ⟨u.heap.size, 3, none⟩ = some (.string (cVo c))) := fun z hb => by
    obtain ⟨_, h2, h3⟩ := HA.out z hb
    exact ⟨(h2.2 3 _ rfl).1, (h2.2 4 _ rfl).1, (h3.2 3 _ e3).1⟩
  have HR : Hid (keepP V NL c = match fI (vNs V) (cVo c) with | none => 13 | some j => if sEq (vCl (V.getD j default)) c.1 = true then (if matchL NL (vRq (V.getD j default)) = true then 0 else 14) else 13) := rfl
  clear hp hk hx hc q1 B1
  generalize keepP V NL c = r at HR
  generalize cVo c = s at HQ HR z3 e3
  generalize c.1 = nm at HR e0
  clear e1 e2 z0 z2
  go_enter Try.func39, Try.ntmps39
  go_upto_region 1 with fail
  rw [← hW1]
  clear hW1
  refine t0 (fun z => Below W1.heap.size W1 z) (Below.refl _ _).drew (fun hHeld => ?_)
  generalize hwd : W1.drew = wd at hHeld ⊢
  clear hwd
  try go_frame
  refine' tk 0 ?_ ?_; rotate_left
  · intro u hu; obtain ⟨f1, f2, f3⟩ := HQ.out u hu; clear hu; go_simp; try with_reducible rfl
  try go_frame
  refine' tk 1 ?_ ?_; rotate_left
  · intro u hu; obtain ⟨f1, f2, f3⟩ := HQ.out u hu; clear hu; go_simp; try with_reducible rfl
  try go_frame
  refine' tk 2 ?_ ?_; rotate_left
  · intro u hu; obtain ⟨f1, f2, f3⟩ := HQ.out u hu; clear hu; go_simp; try with_reducible rfl
  try go_frame
  refine' tk 3 ?_ ?_; rotate_left
  · intro u hu; obtain ⟨f1, f2, f3⟩ := HQ.out u hu; clear hu; go_simp; try with_reducible rfl
  try go_frame
  refine' tk 4 ?_ ?_; rotate_left
  · intro u hu; obtain ⟨f1, f2, f3⟩ := HQ.out u hu; clear hu; go_simp; try with_reducible rfl
  try go_frame
  refine' tk 5 ?_ ?_; rotate_left
  · intro u hu; obtain ⟨f1, f2, f3⟩ := HQ.out u hu; clear hu; go_simp; try with_reducible rfl
  try go_frame
  obtain ⟨k6, _, _⟩ := HA.out _ hHeld
  refine tr 6 (fun K hK => ?_)
  go_simp
  refine (fndVolume_calls va vn vc _ V vm s _ (HP.out.at k6).2.2.1 (HP.out.at k6).2.2.2.2.2.1 z3).mono ?_
  rintro e w6 ⟨rfl, d6⟩
  have b6 := on2 hHeld d6
  go_wp2_with fail
  refine hK.out _ _ b6 (fun hHeld2 => ?_)
  clear hK K hHeld; have hHeld := hHeld2; clear hHeld2
  try go_frame
  refine' tk 7 ?_ ?_; rotate_left
  · intro u hu; clear hu; go_simp; try with_reducible rfl
  try go_frame
  refine tz ?_
  clear hHeld k6 d6 HQ
  obtain ⟨k6, x6, q6⟩ := HA.out w6 b6
  obtain ⟨sl, _, sv, _, _, _, _⟩ := HP.out.at k6
  have cX0 := (x6.2 0 _ rfl).1
  have cN := (q6.2 0 _ e0).1
  cases hf : fI (vNs V) s with
  | none =>
    have hr : r = 13 := by have := HR.out; rw [hf] at this; exact this
    have hpa : pAt 5 va none = none := by cases va <;> rfl
    rw [hpa]
    have HF : Hid (r = 13 ∧ Below u.heap.size u w6) := ⟨hr, on2 HB1.out b6⟩
    clear HR HA HP k6 x6 q6 sl sv hr b6 hf hpa
    go_upto_region 2 with fail
    go_quiet (fail)
    go_wp2_with fail
    go_ret
    exact ⟨by rw [HF.out.1]; rfl, on2 HF.out.2 (below_drewN9 _ _)⟩
  | some j =>
    have hj := (fI_some hf).1
    rw [List.length_map, sv.1] at hj
    obtain ⟨B, off, rfl, hB, _, ys, hy, hyv⟩ := sv.get hj
    obtain ⟨_, _, _, ⟨⟨g1, g2, g3⟩, y3, sR⟩, y4⟩ := hy.all10
    simp only at y3 sR
    have d3 := hyv 3 _ y3
    have d4 := hyv 4 _ y4
    have hr := HR.out
    rw [hf] at hr
    simp only at hr
    have HM : Hid (∀ z, Below w6.heap.size w6 z → Calls Try.prog 10 #[.slice la ln lc, .slice g1 g2 g3] z fun e z' => e = .returned (.bool (matchL NL (vRq (V.getD j default)))) ∧ Below z.heap.size z z') := fun z hb => Match_sl _ _ _ _ _ _ _ _ _ _ _ (sl.on RLabel.firm hb) (sR.on RReq.firm hb)
    have HD : Hid (∀ z, Below w6.heap.size w6 z → z.cell? ⟨X, 0, none⟩ = some (.slice la ln lc) ∧ z.cell? ⟨B, off + j * 5 + 3, none⟩ = some (.slice g1 g2 g3)) := fun z hb => ⟨((x6.on hb).2 0 _ rfl).1, (hb.cell (p := ⟨B, off + j * 5 + 3, none⟩) hB).trans d3⟩
    have HBw : Hid (Below u.heap.size u w6) := on2 HB1.out b6
    have Hr : Hid (r = if sEq (vCl (V.getD j default)) nm = true then (if matchL NL (vRq (V.getD j default)) = true then 0 else 14) else 13) := hr
    clear HR HA HP k6 x6 q6 sl sv hr b6 hf hy hyv y3 y4 sR hB
    generalize vCl (V.getD j default) = vc' at d4 Hr
    generalize matchL NL (vRq (V.getD j default)) = b at HM Hr
    have hpa : pAt 5 (some ⟨B, off, none⟩) (some j) = some ⟨B, off + j * 5, none⟩ := rfl
    rw [hpa]
    clear hpa
    have hq : (vc'.toList == nm.toList) = sEq vc' nm := rfl
    cases hb1 : sEq vc' nm
    · rw [hb1] at hq Hr
      have hr : Hid (r = 13) := by have h9 := Hr.out; rw [Hid]; simpa using h9
      clear Hr HM HD hb1
      go_upto_region 2 with fail
      go_quiet (fail)
      go_wp2_with fail
      go_ret
      exact ⟨by rw [hr.out]; rfl, on2 HBw.out (below_drewN9 _ _)⟩
    · rw [hb1] at hq Hr
      have hr : Hid (r = if b = true then 0 else 14) := by have h9 := Hr.out; rw [Hid]; simpa using h9
      clear Hr hb1
      go_upto_region 2 with fail
      go_quiet (fail)
      clear d3 d4 cN cX0 hq
      go_upto_region 4 with fail
      refine t0 (fun z => Below w6.heap.size w6 z) (Below.drew (below_drewN9 _ _)) (fun hHeld => ?_)
      generalize hwd : World.drew _ = wd at hHeld ⊢
      clear hwd
      try go_frame
      refine' tk 0 ?_ ?_; rotate_left
      · intro u hu; obtain ⟨f1, f2⟩ := HD.out u hu; clear hu; go_simp; try with_reducible rfl
      try go_frame
      refine' tk 1 ?_ ?_; rotate_left
      · intro u hu; obtain ⟨f1, f2⟩ := HD.out u hu; clear hu; go_simp; try with_reducible rfl
      try go_frame
      refine' tk 2 ?_ ?_; rotate_left
      · intro u hu; obtain ⟨f1, f2⟩ := HD.out u hu; clear hu; go_simp; try with_reducible rfl
      try go_frame
      refine' tk 3 ?_ ?_; rotate_left
      · intro u hu; obtain ⟨f1, f2⟩ := HD.out u hu; clear hu; go_simp; try with_reducible rfl
      try go_frame
      refine' tk 4 ?_ ?_; rotate_left
      · intro u hu; obtain ⟨f1, f2⟩ := HD.out u hu; clear hu; go_simp; try with_reducible rfl
      try go_frame
      refine' tk 5 ?_ ?_; rotate_left
      · intro u hu; obtain ⟨f1, f2⟩ := HD.out u hu; clear hu; go_simp; try with_reducible rfl
      try go_frame
      refine' tk 6 ?_ ?_; rotate_left
      · intro u hu; obtain ⟨f1, f2⟩ := HD.out u hu; clear hu; go_simp; try with_reducible rfl
      try go_frame
      refine' tk 7 ?_ ?_; rotate_left
      · intro u hu; obtain ⟨f1, f2⟩ := HD.out u hu; clear hu; go_simp; try with_reducible rfl
      try go_frame
      refine tr 8 (fun K hK => ?_)
      go_simp
      refine (HM.out _ hHeld).mono ?_
      rintro e w8 ⟨rfl, d8⟩
      have b8 := on2 hHeld d8
      go_wp2_with fail
      refine hK.out _ _ b8 (fun hHeld2 => ?_)
      clear hK K hHeld; have hHeld := hHeld2; clear hHeld2
      try go_frame
      refine' tk 9 ?_ ?_; rotate_left
      · intro u hu; clear hu; go_simp; try with_reducible rfl
      try go_frame
      refine tz ?_
      have HF : Hid (Below u.heap.size u w8) := on2 HBw.out b8
      clear hHeld d8 b8 HM HD
      cases b
      · go_wp2_with fail
        go_ret
        exact ⟨by rw [hr.out]; rfl, HF.out⟩
      · go_wp2_with fail
        go_ret
        exact ⟨by rw [hr.out]; rfl, HF.out⟩
set_option maxHeartbeats 8000000 in
theorem waits_calls (w Wp : World) (X : Nat) (lv0 : Value) (la : Option Addr) (ln lc : Nat) (ca : Option Addr) (cn cc cm : Nat) (va : Option Addr) (vn vc vm : Nat) (ka : Option Addr) (kn kc km : Nat) (NL : List Lab) (CL : List ClaimD) (V : List VolumeD) (K : List ClassD) (lv pv : Value) (cs : List Value) (A : Where) (c : ClaimD) (u : World) (hp : PlC w Wp X lv0 la ln lc ca cn cc cm va vn vc vm ka kn kc km NL CL V K) (hk : Kept (Old10 Wp X lv0) Wp u) (hx : BoxL u X (plC la ln lc ca cn cc cm va vn vc vm ka kn kc km lv pv)) (hc : RClaim A u cs c) :
    Calls Try.prog 40 #[.pointer (some ⟨X, 0, none⟩), .agg cs.toArray] u fun e u' => e = .returned (.bool (waitsP K c.2.2.1)) ∧ Below u.heap.size u u' := by
  obtain ⟨W1, hW1⟩ : ∃ W, W = u.alloc (.cells cs.toArray 57) := ⟨_, rfl⟩
  have B1 : Below u.heap.size u W1 := by rw [hW1]; go_grown
  have q1 : BoxL W1 u.heap.size cs := by rw [hW1]; exact BoxL.new u 57 _
  obtain ⟨e0, e1, e2, e3, z0, z2, z3⟩ := hc.all10
  have HA : Hid (∀ z, Below W1.heap.size W1 z → Kept (Old10 Wp X lv0) Wp z ∧ BoxL z X (plC la ln lc ca cn cc cm va vn vc vm ka kn kc km lv pv) ∧ BoxL z u.heap.size cs) := fun z hb => ⟨hk.trans (Kept.below (on2 B1 hb)), hx.on (on2 B1 hb), q1.on hb⟩
  have HB1 : Hid (Below u.heap.size u W1) := B1
  have HP : Hid (PlC w Wp X lv0 la ln lc ca cn cc cm va vn vc vm ka kn kc km NL CL V K) := hp
  have HQ : Hid (∀ z, Below W1.heap.size W1 z → z.cell? ⟨X, 5, none⟩ = some (.slice ka kn kc) ∧ z.cell? ⟨X, 6, none⟩ = some (.map (some km)) ∧ z.cell? ⟨u.heap.size, 2, none⟩ = some (.string c.2.2.1)) := fun z hb => by
    obtain ⟨_, h2, h3⟩ := HA.out z hb
    exact ⟨(h2.2 5 _ rfl).1, (h2.2 6 _ rfl).1, (h3.2 2 _ e2).1⟩
  have HR : Hid (waitsP K c.2.2.1 = match fI (K.map Prod.fst) c.2.2.1 with | none => false | some j => (K.getD j default).2) := waits_fI K c.2.2.1
  clear hp hk hx hc q1 B1
  generalize waitsP K c.2.2.1 = r at HR
  generalize c.2.2.1 = s at HQ HR z2 e2
  clear e1 e0 e3 z0 z3
  go_enter Try.func40, Try.ntmps40
  go_upto_region 1 with fail
  rw [← hW1]
  clear hW1
  refine t0 (fun z => Below W1.heap.size W1 z) (Below.refl _ _).drew (fun hHeld => ?_)
  generalize hwd : W1.drew = wd at hHeld ⊢
  clear hwd
  try go_frame
  refine' tk 0 ?_ ?_; rotate_left
  · intro u hu; obtain ⟨f1, f2, f3⟩ := HQ.out u hu; clear hu; go_simp; try with_reducible rfl
  try go_frame
  refine' tk 1 ?_ ?_; rotate_left
  · intro u hu; obtain ⟨f1, f2, f3⟩ := HQ.out u hu; clear hu; go_simp; try with_reducible rfl
  try go_frame
  refine' tk 2 ?_ ?_; rotate_left
  · intro u hu; obtain ⟨f1, f2, f3⟩ := HQ.out u hu; clear hu; go_simp; try with_reducible rfl
  try go_frame
  refine' tk 3 ?_ ?_; rotate_left
  · intro u hu; obtain ⟨f1, f2, f3⟩ := HQ.out u hu; clear hu; go_simp; try with_reducible rfl
  try go_frame
  refine' tk 4 ?_ ?_; rotate_left
  · intro u hu; obtain ⟨f1, f2, f3⟩ := HQ.out u hu; clear hu; go_simp; try with_reducible rfl
  try go_frame
  refine' tk 5 ?_ ?_; rotate_left
  · intro u hu; obtain ⟨f1, f2, f3⟩ := HQ.out u hu; clear hu; go_simp; try with_reducible rfl
  try go_frame
  obtain ⟨k6, _, _⟩ := HA.out _ hHeld
  refine tr 6 (fun K hK => ?_)
  go_simp
  refine (fndClass_calls ka kn kc _ _ km s _ (HP.out.at k6).2.2.2.1 (HP.out.at k6).2.2.2.2.2.2 z2).mono ?_
  rintro e w6 ⟨rfl, d6⟩
  have b6 := on2 hHeld d6
  go_wp2_with fail
  refine hK.out _ _ b6 (fun hHeld2 => ?_)
  clear hK K hHeld; have hHeld := hHeld2; clear hHeld2
  try go_frame
  refine' tk 7 ?_ ?_; rotate_left
  · intro u hu; clear hu; go_simp; try with_reducible rfl
  try go_frame
  refine tz ?_
  clear hHeld k6 d6 HQ
  obtain ⟨k6, x6, q6⟩ := HA.out w6 b6
  obtain ⟨_, _, _, sv, _, _, _⟩ := HP.out.at k6
  have HF : Hid (Below u.heap.size u w6) := on2 HB1.out b6
  cases hf : fI (K.map Prod.fst) s with
  | none =>
    have hr : r = false := by have := HR.out; rw [hf] at this; exact this
    have hpa : pAt 2 ka none = none := by cases ka <;> rfl
    rw [hpa]
    clear HR HA HP k6 x6 q6 sv b6 hf hpa
    go_wp2_with fail
    go_ret
    exact ⟨by rw [hr]; rfl, HF.out⟩
  | some j =>
    have hj := (fI_some hf).1
    rw [List.length_map, sv.1] at hj
    obtain ⟨B, off, rfl, hB, _, ys, hy, hyv⟩ := sv.get hj
    have d1 := hyv 1 _ hy.wait10
    have hr : r = (K.getD j default).2 := by have := HR.out; rw [hf] at this; exact this
    clear HR HA HP k6 x6 q6 sv b6 hf hy hyv hB
    generalize (K.getD j default).2 = b at d1 hr
    have hpa : pAt 2 (some ⟨B, off, none⟩) (some j) = some ⟨B, off + j * 2, none⟩ := rfl
    rw [hpa]
    clear hpa
    have HRr : Hid (r = b) := hr
    clear hr
    go_wp2_with fail
    go_ret
    exact ⟨by rw [HRr.out]; rfl, HF.out⟩
end Go.Proofs.Ytgofpmcoffgffaa
namespace Go.Proofs.Ytgofpmcoffgffaa
open Go.RowKit Go.Maps
set_option linter.unusedSimpArgs false
set_option maxRecDepth 100000

/-- What add hands back. -/
def AdOut (w Wp : World) (X : Nat) (lv0 : Value) (C : List Value) (NL : List Lab) (CL : List ClaimD) (V : List VolumeD) (K : List ClassD) (nm : ByteArray) (out : List PickD) (e : Ending) (u' : World) : Prop :=
  (∃ x, stepP (V, CL) K NL (out.map Prod.snd) nm = .error x ∧ x ≠ 0 ∧ e = .returned (.int .i64 x) ∧ Below w.heap.size w u') ∨
  (∃ lv pv, stepP (V, CL) K NL (out.map Prod.snd) nm = .ok none ∧ e = .returned (.int .i64 0) ∧ PlS w Wp X lv0 C NL V V.length u' lv pv (out.map Prod.snd) out) ∨
  ∃ pk lv pv, stepP (V, CL) K NL (out.map Prod.snd) nm = .ok (some pk) ∧ e = .returned (.int .i64 0) ∧ PlS w Wp X lv0 C NL V V.length u' lv pv ((out ++ [pk]).map Prod.snd) (out ++ [pk])
set_option maxHeartbeats 16000000 in
theorem add_calls (w Wp : World) (X : Nat) (lv0 : Value) (la : Option Addr) (ln lc : Nat) (ca : Option Addr) (cn cc cm : Nat) (va : Option Addr) (vn vc vm : Nat) (ka : Option Addr) (kn kc km : Nat) (NL : List Lab) (CL : List ClaimD) (V : List VolumeD) (K : List ClassD) (lv pv : Value) (out : List PickD) (nm : ByteArray) (u : World) (hp : Hid (PlC w Wp X lv0 la ln lc ca cn cc cm va vn vc vm ka kn kc km NL CL V K)) (hs : Hid (PlS w Wp X lv0 [.slice la ln lc, .slice ca cn cc, .map (some cm), .slice va vn vc, .map (some vm), .slice ka kn kc, .map (some km)] NL V V.length u lv pv (out.map Prod.snd) out)) (hn : (vNs V).Nodup) (hz : nm.size ≤ 140737488355328) :
    Calls Try.prog 16 #[.pointer (some ⟨X, 0, none⟩), .string nm] u (AdOut w Wp X lv0 [.slice la ln lc, .slice ca cn cc, .map (some cm), .slice va vn vc, .map (some vm), .slice ka kn kc, .map (some km)] NL CL V K nm out) := by
  obtain ⟨_, sc, _, _, mc, _, _⟩ := hp.out.at hs.out.kp
  have hC := fndClaim_calls ca cn cc _ CL cm nm u sc mc hz
  have c1 := (hs.out.bx.2 1 _ rfl).1
  have c2 := (hs.out.bx.2 2 _ rfl).1
  have HR : Hid (∀ k, fI (cNs CL) nm = some k → stepP (V, CL) K NL (out.map Prod.snd) nm = if sEq (cVo (CL.getD k default)) B0 = true then (if waitsP K (CL.getD k default).2.2.1 = true then (match bestP (CL.getD k default) NL V (out.map Prod.snd) with | none => .error 14 | some j => .ok (some ((CL.getD k default).1, (V.getD j default).1))) else .error 13) else (if keepP V NL (CL.getD k default) = 0 then .ok none else .error (keepP V NL (CL.getD k default)))) := fun k hk => by
    unfold stepP
    simp only
    rw [hk]
    simp only
    split
    · rfl
    · unfold keepP
      cases fI (vNs V) (cVo (CL.getD k default)) with
      | none => rfl
      | some j =>
        simp only
        cases sEq (vCl (V.getD j default)) (CL.getD k default).1 with
        | false => rfl
        | true =>
          cases matchL NL (vRq (V.getD j default)) <;> rfl
  have HR0 : Hid (fI (cNs CL) nm = none → stepP (V, CL) K NL (out.map Prod.snd) nm = .error 13) := fun hk => by
    unfold stepP
    simp only
    rw [hk]
  have HS : Hid (∀ z, Below u.heap.size u z → PlS w Wp X lv0 [.slice la ln lc, .slice ca cn cc, .map (some cm), .slice va vn vc, .map (some vm), .slice ka kn kc, .map (some km)] NL V V.length z lv pv (out.map Prod.snd) out) := fun z hb => hs.out.on hb
  clear sc mc hs
  go_enter Try.func16, Try.ntmps16
  go_wp2_with fail
  refine hC.mono ?_
  rintro e w1 ⟨rfl, b1⟩
  clear hC c1 c2
  cases hf : fI (cNs CL) nm with
  | none =>
    have hpa : pAt 4 ca none = none := by cases ca <;> rfl
    rw [hpa]
    have HF : Hid (stepP (V, CL) K NL (out.map Prod.snd) nm = .error 13 ∧ Below w.heap.size w w1) := ⟨HR0.out hf, (HS.out w1 b1).bw⟩
    clear hpa HR HR0 HS b1 hf hp
    go_wp2_with fail
    go_ret
    exact .inl ⟨13, HF.out.1, by decide, rfl, HF.out.2⟩
  | some k =>
    have hst := HR.out k hf
    have hs1 := HS.out w1 b1
    obtain ⟨_, sc, _, _, _, _, _⟩ := hp.out.at hs1.kp
    have hk := (fI_some hf).1
    rw [List.length_map, sc.1] at hk
    obtain ⟨B, off, rfl, hB, _, cs, hr, hv⟩ := sc.get hk
    have hlc := RClaim.firm.len hr
    have hic : (Try.prog.info? 57).map (·.size) = some cs.length := by rw [hlc]; exact iszClaim
    have hpa : pAt 4 (some ⟨B, off, none⟩) (some k) = some ⟨B, off + k * 4, none⟩ := rfl
    rw [hpa]
    have HV : Hid (∀ z, Below w1.heap.size w1 z → z.rangeAt B (off + k * 4) cs ∧ RClaim (fun b => b < w.heap.size) z cs (CL.getD k default) ∧ PlS w Wp X lv0 [.slice la ln lc, .slice (some ⟨B, off, none⟩) cn cc, .map (some cm), .slice va vn vc, .map (some vm), .slice ka kn kc, .map (some km)] NL V V.length z lv pv (out.map Prod.snd) out) := fun z hb => ⟨fun j v hj => (hb.cell hB).trans (hv j v hj), RClaim.firm.kept hr (Kept.below hb), hs1.on hb⟩
    have Hst : Hid (stepP (V, CL) K NL (out.map Prod.snd) nm = if sEq (cVo (CL.getD k default)) B0 = true then (if waitsP K (CL.getD k default).2.2.1 = true then (match bestP (CL.getD k default) NL V (out.map Prod.snd) with | none => .error 14 | some j => .ok (some ((CL.getD k default).1, (V.getD j default).1))) else .error 13) else (if keepP V NL (CL.getD k default) = 0 then .ok none else .error (keepP V NL (CL.getD k default)))) := hst
    have HRg : Hid (w1.rangeAt B (off + k * 4) cs) := hv
    have hCh := hasVolume_calls cs _ _ w1 hr
    clear hst hs1 sc hr hv hpa HR HR0 HS b1 hf hB
    generalize CL.getD k default = c at HV Hst hCh
    generalize hbb : sEq (cVo c) B0 = b at hCh Hst
    clear hbb
    go_wp2_with (first | (refine wpList_load_mid rfl 57 _ rfl B (off + k * 4) rfl cs _ HRg.out Try.underlying57 rfl hic ?_) | fail)
    refine hCh.mono ?_
    rintro e w2 ⟨rfl, b2⟩
    clear hCh HRg
    obtain ⟨rg2, rc2, ps2⟩ := HV.out w2 b2
    have HRg : Hid (w2.rangeAt B (off + k * 4) cs) := rg2
    cases b with
    | false =>
      have hCk := keep_calls w Wp X lv0 la ln lc _ cn cc cm va vn vc vm ka kn kc km NL CL V K lv pv cs _ c w2 hp.out ps2.kp ps2.bx rc2
      have HP : Hid (∀ z, Below w2.heap.size w2 z → PlS w Wp X lv0 [.slice la ln lc, .slice (some ⟨B, off, none⟩) cn cc, .map (some cm), .slice va vn vc, .map (some vm), .slice ka kn kc, .map (some km)] NL V V.length z lv pv (out.map Prod.snd) out) := fun z hb => ps2.on hb
      have Hs2 : Hid (stepP (V, CL) K NL (out.map Prod.snd) nm = if keepP V NL c = 0 then .ok none else .error (keepP V NL c)) := by have h9 := Hst.out; rw [if_neg (by decide)] at h9; exact h9
      clear Hst HV rg2 rc2 ps2 b2 hp
      generalize keepP V NL c = x at hCk Hs2
      go_wp2_with (first | (refine wpList_load_mid rfl 57 _ rfl B (off + k * 4) rfl cs _ HRg.out Try.underlying57 rfl hic ?_) | fail)
      refine hCk.mono ?_
      rintro e w3 ⟨rfl, b3⟩
      have p3 := HP.out w3 b3
      have HF : Hid (AdOut w Wp X lv0 [.slice la ln lc, .slice (some ⟨B, off, none⟩) cn cc, .map (some cm), .slice va vn vc, .map (some vm), .slice ka kn kc, .map (some km)] NL CL V K nm out (.returned (.int .i64 x)) w3) := by
        have h9 := Hs2.out
        by_cases hx : x = 0
        · rw [if_pos hx] at h9
          exact .inr (.inl ⟨lv, pv, h9, by rw [hx], p3⟩)
        · rw [if_neg hx] at h9
          exact .inl ⟨x, h9, hx, rfl, p3.bw⟩
      clear hCk HP Hs2 p3 b3 HRg
      go_wp2_with fail
      go_ret
      exact HF.out
    | true =>
      have hCw := waits_calls w Wp X lv0 la ln lc _ cn cc cm va vn vc vm ka kn kc km NL CL V K lv pv cs _ c w2 hp.out ps2.kp ps2.bx rc2
      have HP : Hid (∀ z, Below w2.heap.size w2 z → PlS w Wp X lv0 [.slice la ln lc, .slice (some ⟨B, off, none⟩) cn cc, .map (some cm), .slice va vn vc, .map (some vm), .slice ka kn kc, .map (some km)] NL V V.length z lv pv (out.map Prod.snd) out ∧ RClaim (fun b => b < w.heap.size) z cs c ∧ z.rangeAt B (off + k * 4) cs) := fun z hb => by
        obtain ⟨h1, h2, h3⟩ := HV.out z (on2 b2 hb)
        exact ⟨h3, h2, h1⟩
      have Hs2 : Hid (stepP (V, CL) K NL (out.map Prod.snd) nm = if waitsP K c.2.2.1 = true then (match bestP c NL V (out.map Prod.snd) with | none => .error 14 | some j => .ok (some (c.1, (V.getD j default).1))) else .error 13) := by have h9 := Hst.out; rw [if_pos rfl] at h9; exact h9
      have Hv : Hid (V.length * 80 ≤ 140737488355328) := hp.out.hv
      clear Hst HV rg2 rc2 ps2 b2 hp
      generalize waitsP K c.2.2.1 = x at hCw Hs2
      go_wp2_with (first | (refine wpList_load_mid rfl 57 _ rfl B (off + k * 4) rfl cs _ HRg.out Try.underlying57 rfl hic ?_) | fail)
      refine hCw.mono ?_
      rintro e w3 ⟨rfl, b3⟩
      obtain ⟨p3, rc3, rg3⟩ := HP.out w3 b3
      clear hCw HP HRg b3
      cases x with
      | false =>
        have HF : Hid (stepP (V, CL) K NL (out.map Prod.snd) nm = .error 13 ∧ Below w.heap.size w w3) := ⟨by have h9 := Hs2.out; rw [if_neg (by decide)] at h9; exact h9, p3.bw⟩
        clear p3 rc3 rg3 Hs2
        go_wp2_with fail
        go_ret
        exact .inl ⟨13, HF.out.1, by decide, rfl, HF.out.2⟩
      | true =>
        have HRg : Hid (w3.rangeAt B (off + k * 4) cs) := rg3
        have hCp := pick_calls w Wp X lv0 la ln lc _ cn cc cm va vn vc vm ka kn kc km NL V lv pv out cs _ c w3 p3 Hv.out hn rc3
        have Hs3 : Hid (stepP (V, CL) K NL (out.map Prod.snd) nm = match bestP c NL V (out.map Prod.snd) with | none => .error 14 | some j => .ok (some (c.1, (V.getD j default).1))) := by have h9 := Hs2.out; rw [if_pos rfl] at h9; exact h9
        clear p3 rc3 rg3 Hs2
        go_wp2_with (first | (refine wpList_load_mid rfl 57 _ rfl B (off + k * 4) rfl cs _ HRg.out Try.underlying57 rfl hic ?_) | fail)
        refine hCp.mono ?_
        intro e w4 h4
        have HF : Hid (AdOut w Wp X lv0 [.slice la ln lc, .slice (some ⟨B, off, none⟩) cn cc, .map (some cm), .slice va vn vc, .map (some vm), .slice ka kn kc, .map (some km)] NL CL V K nm out e w4) := by
          have h9 := Hs3.out
          rcases h4 with ⟨hb, he, h5⟩ | ⟨j, lv', pv', hb, he, h5⟩
          · rw [hb] at h9
            exact .inl ⟨14, h9, by decide, he, h5⟩
          · rw [hb] at h9
            exact .inr (.inr ⟨_, lv', pv', h9, he, h5⟩)
        have he : ∃ y, e = .returned (.int .i64 y) := by
          rcases h4 with ⟨hb, he, h5⟩ | ⟨j, lv', pv', hb, he, h5⟩
          · exact ⟨_, he⟩
          · exact ⟨_, he⟩
        obtain ⟨y, rfl⟩ := he
        clear hCp Hs3 h4 HRg
        go_wp2_with fail
        go_ret
        exact HF.out
end Go.Proofs.Ytgofpmcoffgffaa
namespace Go.Proofs.Ytgofpmcoffgffaa
open Go.RowKit
set_option linter.unusedSimpArgs false

/-- The row has room for t in all. -/
def Roomy (v : Value) (n t : Nat) : Prop := (v = .slice none 0 0 ∧ t = 0) ∨ ∃ g cap, v = .slice (some ⟨g, 0, none⟩) n cap ∧ t ≤ cap
section
variable {α : Type} [Inhabited α] {R : Rep α} {k : Nat}
theorem append_none10 (t ty e : TypeId) (i : TypeInfo) (ht : Try.prog.underlying t = some (.slice e)) (hi : Try.prog.info? e = some i) (ad : Option Addr) (c : Nat) (u : World) : (Builtin.append_ #[t, t] ty #[.slice none 0 0, .slice ad 0 c]).run Try.prog u = .ok (.slice none 0 0) u := by
  cases ad with
  | none => simp [Builtin.append_, run_underlying ht, sizeOf, typeInfo, hi, Builtin.lenOf, Builtin.firstCells]
  | some a =>
    have hf := run_firstCells_some (P := Try.prog) u i.size 0 a 0 c [] (by simp) (by simp)
    simp [Builtin.append_, run_underlying ht, sizeOf, typeInfo, hi, Builtin.lenOf, hf]
theorem row_appendC_wp (hR : Firm R k) {o : Oper} {a : Act} {K : Act → World → Prop} {Q : Exit → Act → World → Prop} {A : Where} {w0 u : World} (s x : Operand) (t e : TypeId)
    (ho : o.op = .call { callee := .builtin .append, args := #[s, x], argTypes := #[t, t] }) (z : Value) (bytes : Nat) (hinfo : (Try.prog.info? e).map (fun i => (i.zero, i.size, i.bytes)) = some (some z, k, bytes)) (ht : Try.prog.underlying t = some (.slice e))
    (v : Value) (L : List α) (T : Nat) (hs : a.eval s = v) (hrow : Row R k A w0 u e v L) (hT : Roomy v L.length T)
    (ad : Option Addr) (m c : Nat) (N : List α) (hx : a.eval x = .slice ad m c) (hN : Src R k (fun b => A b ∧ v.ownBlock ≠ some b) u ad m N) (hb : L.length + N.length ≤ T)
    (h : ∀ v' u', Row R k A w0 u' e v' (L ++ N) → u.grownBy u' v.ownBlock → v'.ownBlock = v.ownBlock → Roomy v' (L ++ N).length T → K (a.put o.dst v') u') : o.wp Try.prog a u K Q := by
  obtain ⟨i0, hi, hz0, hz1, hz2⟩ := info_parts hinfo
  have stay : ∀ (hNe : N = []) (hr : ∀ ty, (Builtin.append_ #[t, t] ty #[v, .slice ad m c]).run Try.prog u = .ok v u), o.wp Try.prog a u K Q := fun hNe hr => by
    unfold Oper.wp execOp
    simp only [ho, resolve, invoke, builtin, Sem.run_bind, Sem.run_pure, Result.andThen_ok, List.map_toArray, List.map_cons, List.map_nil, hs, hx, hr]
    exact h v u (by rw [hNe]; simpa using hrow) ⟨rfl, rfl, rfl, Nat.le_refl _, fun _ _ _ => rfl⟩ rfl (by rw [hNe]; simpa using hT)
  obtain ⟨hm, hN⟩ := hN
  rcases hT with ⟨rfl, rfl⟩ | ⟨g, cap, rfl, hcap⟩
  · obtain rfl : N = [] := List.eq_nil_of_length_eq_zero (by omega)
    obtain rfl : m = 0 := by simpa using hm.symm
    exact stay rfl (fun ty => append_none10 t ty e i0 ht hi ad c u)
  · rcases hN with ⟨rfl, rfl⟩ | ⟨ad, news, rfl, hN, hcells, h1⟩
    · obtain rfl : m = 0 := by simpa using hm.symm
      refine stay rfl (fun ty => ?_)
      obtain ⟨xs, hown, _⟩ := hrow
      rcases hown.2.2 with ⟨hv, _⟩ | ⟨g', cap', cur, hv, _, hg, hnc, _⟩
      · cases hv
      · have hv' : g = g' ∧ cap = cap' := by simpa using hv
        obtain ⟨rfl, rfl⟩ := hv'
        simp [Builtin.append_, run_underlying ht, sizeOf, typeInfo, hi, Builtin.lenOf, Builtin.firstCells, loadCells, loadCellsFrom, hnc, storeCells]
    · subst hm
      obtain ⟨xs, hown, hch⟩ := hrow
      obtain ⟨u', hr, h2, h3⟩ := run_append_fits (P := Try.prog) u w0.heap.size t o.type e i0 k ht hi hz1 g L.length cap xs hown.2 ad N.length c news hN.1 hcells h1 (by omega)
      unfold Oper.wp execOp
      simp only [ho, resolve, invoke, builtin, Sem.run_bind, Sem.run_pure, Result.andThen_ok, List.map_toArray, List.map_cons, List.map_nil, hs, hx, hr]
      have h3' : u.grownBy u' (Value.slice (some ⟨g, 0, none⟩) L.length cap).ownBlock := h3
      refine h _ u' ⟨xs ++ news, ⟨hown.row h3', by rw [List.length_append]; exact h2⟩, ?_⟩ h3' rfl (.inr ⟨g, cap, by rw [List.length_append], hcap⟩)
      have put : ∀ {ys : List Value} {M : List α}, Chunks R k (fun b => A b ∧ (Value.slice (some ⟨g, 0, none⟩) L.length cap).ownBlock ≠ some b) u ys M → Chunks R k (fun b => A b ∧ (Value.slice (some ⟨g, 0, none⟩) (L.length + N.length) cap).ownBlock ≠ some b) u' ys M := fun {ys M} hc => by
        have c2 := hc.kept hR (Kept.grown h3' (fun b e => fun h => h.2 e))
        exact c2.weak hR (fun b _ h => ⟨h.1, h.2⟩)
      obtain ⟨l1, c1⟩ := put hch
      obtain ⟨l2, c2⟩ := put hN
      refine ⟨by rw [List.length_append, List.length_append, l1, l2, Nat.add_mul], fun i hi => ?_⟩
      rcases Nat.lt_or_ge i L.length with h' | h'
      · obtain ⟨cs, q1, q2⟩ := c1 i h'
        have e : (L ++ N).getD i default = L.getD i default := by rw [getE _ _ hi, getE _ _ h', List.getElem_append_left h']
        refine ⟨cs, by rw [e]; exact q1, fun j hj => ?_⟩
        rw [List.getElem?_append_left (by have : (i + 1) * k ≤ L.length * k := Nat.mul_le_mul_right k h'; rw [Nat.add_mul] at this; omega)]
        exact q2 j hj
      · have h'' : i - L.length < N.length := by simp at hi; omega
        obtain ⟨cs, q1, q2⟩ := c2 (i - L.length) h''
        have e : (L ++ N).getD i default = N.getD (i - L.length) default := by rw [getE _ _ hi, getE _ _ h'', List.getElem_append_right h']
        refine ⟨cs, by rw [e]; exact q1, fun j hj => ?_⟩
        have hle : L.length * k ≤ i * k := Nat.mul_le_mul_right k h'
        rw [List.getElem?_append_right (by omega), l1, idx_part i L.length k j h', ← q2 j hj]
/-- At a plain region's list of operations. -/
theorem row_appendC (hR : Firm R k) {ops : Array Oper} {rest : List Oper} {o : Oper} {a : Act} {Q : Exit → Act → World → Prop} {A : Where} {w0 u : World} (hgd : Region.wanted o (yielded ops a.tmps) = true) (s x : Operand) (t e : TypeId)
    (ho : o.op = .call { callee := .builtin .append, args := #[s, x], argTypes := #[t, t] }) (z : Value) (bytes : Nat) (hinfo : (Try.prog.info? e).map (fun i => (i.zero, i.size, i.bytes)) = some (some z, k, bytes)) (ht : Try.prog.underlying t = some (.slice e))
    (v : Value) (L : List α) (T : Nat) (hs : a.eval s = v) (hrow : Row R k A w0 u e v L) (hT : Roomy v L.length T)
    (ad : Option Addr) (m c : Nat) (N : List α) (hx : a.eval x = .slice ad m c) (hN : Src R k (fun b => A b ∧ v.ownBlock ≠ some b) u ad m N) (hb : L.length + N.length ≤ T)
    (h : ∀ v' u', Row R k A w0 u' e v' (L ++ N) → u.grownBy u' v.ownBlock → v'.ownBlock = v.ownBlock → Roomy v' (L ++ N).length T → wpList Try.prog ops Q rest (a.put o.dst v') u') : wpList Try.prog ops Q (o :: rest) a u :=
  BigFrame.wpList_want hgd (fun _ hK => row_appendC_wp hR s x t e ho z bytes hinfo ht v L T hs hrow hT ad m c N hx hN hb (fun v' u' h2 h3 h4 h5 => hK _ _ (h v' u' h2 h3 h4 h5)))
end
end Go.Proofs.Ytgofpmcoffgffaa
