/- Table.Clone. Condition: the table lies as is said of it; few enough terms. base.SameTexts, SameInts, SameLabels, SameReqs, sameTerms tell whether two slices hold the same; they change nothing but the count of draws. Condition: the slices hold what is said of them. base.SameReqs, sameTerms tell whether two slices hold the same; they change nothing but the count of draws. Condition: the slices hold what is said of them. base.SameVolume, SameBudget tell whether two structs hold the same, and change nothing that was there. Condition: the arguments lie as is said of them. base.SameNode tells whether two nodes hold the same, and changes nothing that was there. Condition: the arguments lie as is said of them. -/
import Derived.Test.YtfnafgmengefaaaGreatDoorQ23
import Derived.Test.YtfnafgmengefaaaGreatDoorY02
import Derived.Test.YtfnafgmengefaaaGreatDoorQ25
import Derived.Laws.StructEq
namespace Go.Proofs.YtfnafgmengefaaaGreatDoor
open Go.RowKit Go.Maps
set_option linter.unusedSimpArgs false
set_option maxRecDepth 100000

set_option maxHeartbeats 2000000 in
theorem sClone_calls (b : Nat) (es : Array MapEntry) (clock : Nat) (w : World) (hb : w.heap[b]? = some (.map es clock)) :
    Calls Tryz.prog 43 #[.map (some b)] w fun e w' => e = .returned (.map (some w.heap.size)) ∧ w' = w.alloc (.map es clock) := by
  have hq := fun w => run_eql_map_nil_sl (P := Tryz.prog) w 96 _ _ (some b) Tryz.underlying96
  go_enter Tryz.func43, Tryz.ntmps43
  go_wp2
  rw [run_callFunc_extern Tryz.func57 (by kernel_rfl) (by kernel_rfl) (by kernel_rfl) (e := Extern.MapsClone.clone) (by kernel_rfl), run_maps_clone_sl w 96 hb]
  simp only [Result.andThen]
  rw [Oper.upon_value]
  go_wp2
  rw [run_typeAssert_map_sl _ 96 _ _ _ _ Tryz.underlying96]
  simp only [Result.andThen]
  rw [Oper.upon_value]
  go_wp2
  go_ret
  exact ⟨rfl, rfl⟩
theorem pClone_calls {w : World} {pm n : Nat} {f : ByteArray → Int} (h : PmAt w pm n f) : Calls Tryz.prog 43 #[.map (some pm)] w fun e w' => e = .returned (.map (some w.heap.size)) ∧ PmAt w' w.heap.size n f ∧ w'.heap.size = w.heap.size + 1 ∧ Below w.heap.size w w' := by
  obtain ⟨D, ⟨es, ck, h1, h2⟩, h3⟩ := h
  refine (sClone_calls pm es ck w h1).mono ?_
  rintro e w' ⟨rfl, rfl⟩
  exact ⟨rfl, ⟨D, ⟨es, ck, (MapKept.heap_alloc w _).1, h2⟩, h3⟩, by simp, (Below.refl _ w).alloc (Nat.le_refl _) _⟩
theorem RTally.solid {A : Where} {w : World} {ts : List Value} {T : TalD} (h : RTally A w ts T) : RTally (fun b => A b ∧ NotMap w b) w ts T := by
  obtain ⟨h1, h2, h3, rfl, p0, s1, s2, s3⟩ := h.out
  exact RTally.mk p0 (sl_solid RLabel.firm (by omega) (fun h => h) s1) (sl_solid RWish.firm (by omega) RWish.solid s2) (sl_solid RWish.firm (by omega) RWish.solid s3)
/-- A table's clone, before it is boxed. -/
theorem tab_mk8 {w0 w1 u : World} {ts' : List Value} {T' T : TalD} {pm' : Nat} {P : List Lab} {A : List PlacedD} {N n : Nat} (hC : TalC (Fresh w1) w1 u ts' T' T N (fun t => cT t (othersN T.1 A)) (cO P (othersN T.1 A))) (hl : T.2.1 = P) (hp : PmAt u pm' n (lkN A)) (hd : pm' ∉ mapsT T') (hw : w0.heap.size ≤ w1.heap.size) (hpm : w0.heap.size ≤ pm') (hsu : w0.heap.size ≤ u.heap.size) :
    TabAt (u.alloc (.cells (ts' ++ [Value.map (some pm')]).toArray 98)) u.heap.size T' ts' pm' P A N n ∧ (T'.1 = T.1 ∧ T'.2.1 = T.2.1 ∧ (tNear T').map Prod.fst = (tNear T).map Prod.fst ∧ (tApart T').map Prod.fst = (tApart T).map Prod.fst) ∧ (∀ b, mapsP T' pm' b → w0.heap.size ≤ b) ∧ RTally (fun b => NP T' pm' b ∧ w0.heap.size ≤ b) (u.alloc (.cells (ts' ++ [Value.map (some pm')]).toArray 98)) ts' T' ∧ w0.heap.size ≤ u.heap.size := by
  have hb : Below u.heap.size u (u.alloc (.cells (ts' ++ [Value.map (some pm')]).toArray 98)) := (Below.refl _ u).alloc (Nat.le_refl _) _
  have hr0 : RTally (fun b => NP T' pm' b ∧ w0.heap.size ≤ b) u ts' T' := RTally.firm.weak hC.r.solid (fun b _ h => ⟨fun k => by
    rcases k with k | k
    · exact h.1.1 k
    · subst k; exact hp.map h.2, Nat.le_trans hw h.1.2⟩)
  have hr : RTally (NP T' pm') u ts' T' := RTally.firm.weak hr0 (fun b _ h => h.1)
  have hm := hC.m
  rw [← hC.n] at hm
  refine ⟨⟨BoxL.new u 98 _, RTally.firm.kept hr (Kept.below hb), hm.below hb, hp.on hb, hd, hC.l.trans hl⟩, ⟨hC.n, hC.l, hC.a, hC.b⟩, fun b k => ?_, RTally.firm.kept hr0 (Kept.below hb), hsu⟩
  rcases k with k | k
  · exact Nat.le_trans hw (hC.f b k)
  · rw [k]; exact hpm
/-- A table of its own with the same. -/
def ClOut (T : TalD) (P : List Lab) (A : List PlacedD) (N n : Nat) (w : World) (e : Ending) (w' : World) : Prop :=
  ∃ tb' T' ts' pm', e = .returned (.pointer (some ⟨tb', 0, none⟩)) ∧ (TabAt w' tb' T' ts' pm' P A N n ∧ (T'.1 = T.1 ∧ T'.2.1 = T.2.1 ∧ (tNear T').map Prod.fst = (tNear T).map Prod.fst ∧ (tApart T').map Prod.fst = (tApart T).map Prod.fst) ∧ (∀ b, mapsP T' pm' b → w.heap.size ≤ b) ∧ RTally (fun b => NP T' pm' b ∧ w.heap.size ≤ b) w' ts' T' ∧ w.heap.size ≤ tb') ∧ Below w.heap.size w w'
set_option maxHeartbeats 8000000 in
theorem TClone_calls {w : World} {tb : Nat} {T : TalD} {ts : List Value} {pm : Nat} {P : List Lab} {A : List PlacedD} {N n : Nat} (hT' : Hid (TabAt w tb T ts pm P A N n)) (hn : (tNear T).length < 1000000000) (hn' : (tApart T).length < 1000000000) :
    Calls Tryz.prog 19 #[.pointer (some ⟨tb, 0, none⟩)] w fun e w' => ClOut T P A N n w e w' := by
  obtain ⟨⟨a1, n1, m1⟩, ⟨a2, n2, m2⟩, ⟨a3, n3, m3⟩, hts, _, _, _, _⟩ := hT'.out.r.out
  simp only at hts
  subst hts
  have HB : Hid (BoxL w tb ([.string T.1, .slice a1 n1 m1, .slice a2 n2 m2, .slice a3 n3 m3, .map (some T.2.2.2.2)] ++ [.map (some pm)])) := hT'.out.b
  have HS : Hid (∀ u, Below w.heap.size w u → BoxL u tb ([.string T.1, .slice a1 n1 m1, .slice a2 n2 m2, .slice a3 n3 m3, .map (some T.2.2.2.2)] ++ [.map (some pm)])) := fun u hb => HB.out.on hb
  have HCl : Hid (∀ u, Below w.heap.size w u → _) := fun u hb => tclone_fresh (w := u) (hT'.out.on hb).m (hT'.out.on hb).r hn hn'
  have HPl : Hid (∀ u, Below w.heap.size w u → _) := fun u hb => pClone_calls (hT'.out.on hb).p
  have HL : Hid (T.2.1 = P) := hT'.out.l
  have c5 := (HB.out.2 5 (.map (some pm)) rfl).1
  clear hT' HB
  go_enter Tryz.func19, Tryz.ntmps19
  go_wp2_with fail
  refine (made_some w tb pm c5).mono ?_
  rintro e w2 ⟨rfl, rfl⟩
  clear c5
  go_upto_region 3 with fail
  refine t0 (fun u => BoxL u tb ([.string T.1, .slice a1 n1 m1, .slice a2 n2 m2, .slice a3 n3 m3, .map (some T.2.2.2.2)] ++ [.map (some pm)])) (HS.out _ (Below.refl _ _).drew) (fun hHeld => ?_)
  refine' tk 0 ?_ ?_; rotate_left
  · intro u hu; clear hu; go_simp; try with_reducible rfl
  try go_frame
  refine' tk 5 ?_ ?_; rotate_left
  · intro u hu; clear hu; go_simp; try with_reducible rfl
  try go_frame
  refine' tk 1 ?_ ?_; rotate_left
  · intro u hu; clear hu; go_simp; try with_reducible rfl
  try go_frame
  refine' tk 6 ?_ ?_; rotate_left
  · intro u hu; clear hu; go_simp; try with_reducible rfl
  try go_frame
  refine' tk 2 ?_ ?_; rotate_left
  · intro u hu; clear hu; go_simp; try with_reducible rfl
  try go_frame
  refine' tk 7 ?_ ?_; rotate_left
  · intro u hu; clear hu; go_simp; try with_reducible rfl
  try go_frame
  refine' tk 3 ?_ ?_; rotate_left
  · intro u hu; have cp0 := (hu.2 0 _ rfl).1; have cp1 := (hu.2 1 _ rfl).1; have cp2 := (hu.2 2 _ rfl).1; have cp3 := (hu.2 3 _ rfl).1; have cp4 := (hu.2 4 _ rfl).1; clear hu; go_simp; try with_reducible rfl
  try go_frame
  refine' tk 8 ?_ ?_; rotate_left
  · intro u hu; have cp5 := (hu.2 5 (.map (some pm)) rfl).1; clear hu; go_simp; try with_reducible rfl
  try go_frame
  have hb0 : Below w2.heap.size w2 w2.drew := (Below.refl _ _).drew
  refine tr 4 (fun K hK => ?_)
  go_simp
  refine (HCl.out _ hb0).mono ?_
  rintro e v1 ⟨ts', T', rfl, hC, hbT⟩
  have hBv1 := on2 hb0 hbT
  go_wp2_with fail
  refine hK.out _ _ (HS.out _ hBv1) (fun hHeld2 => ?_)
  clear hK K hHeld; have hHeld := hHeld2; clear hHeld2
  try go_frame
  refine tr 9 (fun K hK => ?_)
  go_simp
  refine (HPl.out _ hBv1).mono ?_
  rintro e v2 ⟨rfl, hP, hsz, hbP⟩
  have hBv2 := on2 hBv1 hbP
  go_wp2_with fail
  refine hK.out _ _ (HS.out _ hBv2) (fun hHeld2 => ?_)
  clear hK K hHeld; have hHeld := hHeld2; clear hHeld2
  try go_frame
  obtain ⟨⟨b1, k1, l1⟩, ⟨b2, k2, l2⟩, ⟨b3, k3, l3⟩, hts, _, _, _, _⟩ := hC.r.out
  simp only at hts
  subst hts
  have HE := tab_mk8 (w0 := w2) (show TalC (Fresh w2.drew) w2.drew v2 _ T' T N _ _ from ⟨RTally.firm.kept hC.r (Kept.below hbP), hC.n, hC.l, hC.a, hC.b, hC.m.below hbP, hC.f⟩) HL.out hP (fun k => absurd (hC.m.lt k) (Nat.lt_irrefl _)) (Nat.le_refl _) hBv1.size hBv2.size
  obtain ⟨v3, hv3⟩ : ∃ v, v = v2.alloc (.cells #[.string T'.1, .slice b1 k1 l1, .slice b2 k2 l2, .slice b3 k3 l3, .map (some T'.2.2.2.2), .map (some v1.heap.size)] 98) := ⟨_, rfl⟩
  have hB3 : Below w2.heap.size w2 v3 := by rw [hv3]; exact hBv2.alloc hBv2.size _
  have HE2 : Hid ((TabAt v3 v2.heap.size T' [.string T'.1, .slice b1 k1 l1, .slice b2 k2 l2, .slice b3 k3 l3, .map (some T'.2.2.2.2)] v1.heap.size P A N n ∧ (T'.1 = T.1 ∧ T'.2.1 = T.2.1 ∧ (tNear T').map Prod.fst = (tNear T).map Prod.fst ∧ (tApart T').map Prod.fst = (tApart T).map Prod.fst) ∧ (∀ b, mapsP T' v1.heap.size b → w2.heap.size ≤ b) ∧ RTally (fun b => NP T' v1.heap.size b ∧ w2.heap.size ≤ b) v3 [.string T'.1, .slice b1 k1 l1, .slice b2 k2 l2, .slice b3 k3 l3, .map (some T'.2.2.2.2)] T' ∧ w2.heap.size ≤ v2.heap.size) ∧ Below w2.heap.size w2 v3) := by rw [hv3]; rw [hv3] at hB3; exact ⟨HE, hB3⟩
  have HS3 := HS.out _ hB3
  clear hC hP HE HCl HPl HL hsz
  refine' tk 10 ?_ ?_; rotate_left
  · intro u hu; clear hu; go_simp; try with_reducible rfl
  try go_frame
  refine tr 11 (fun K hK => ?_)
  go_simp
  rw [← hv3]
  refine hK.out _ _ HS3 (fun hHeld2 => ?_)
  clear hK K hHeld hv3; have hHeld := hHeld2; clear hHeld2
  try go_frame
  refine' tk 12 ?_ ?_; rotate_left
  · intro u hu; clear hu; go_simp; try with_reducible rfl
  try go_frame
  refine tz ?_
  clear HS3 hHeld
  go_wp2_with fail
  go_ret
  exact ⟨_, T', _, _, rfl, HE2.out⟩
end Go.Proofs.YtfnafgmengefaaaGreatDoor
namespace Go.Proofs.YtfnafgmengefaaaGreatDoor
open Go.RowKit
set_option linter.unusedSimpArgs false

theorem retB {a b : Bool} (h : a = b) : Ending.returned (.bool a) = .returned (.bool b) := by rw [h]
theorem same_len {α : Type} [DecidableEq α] {L M : List α} (h : L.length ≠ M.length) : decide (L = M) = false := by
  rw [decide_eq_false_iff_not]; intro e; exact h (by rw [e])
section
variable {α : Type} [Inhabited α] [DecidableEq α] {L M : List α}
theorem same_no {k : Nat} (h : L.getD k default ≠ M.getD k default) : decide (L = M) = false := by
  rw [decide_eq_false_iff_not]; intro e; exact h (by rw [e])
theorem same_yes (hl : L.length = M.length) (h : ∀ j, j < L.length → L.getD j default = M.getD j default) : decide (L = M) = true := by
  rw [decide_eq_true_iff]
  apply List.ext_getElem hl
  intro i h1 h2
  have := h i h1
  rwa [getE _ _ h1, getE _ _ h2] at this
end
theorem bne_of (a b : Int) : (a != b) = !(a == b) := rfl
theorem guardL : Tryz.prog.eqGuardType Tryz.prog.depth 55 = false := by kernel_rfl
theorem neqL (x y : Lab) (w : World) : Sem.run Tryz.prog (binOp .neq 55 (.agg #[.string x.1, .string x.2]) (.agg #[.string y.1, .string y.2])) w = .ok (.bool (!(sEq x.1 y.1 && sEq x.2 y.2))) w := by
  have u9 := Tryz.underlying9
  have a9 := Tryz.isAgg9
  have z9 := Tryz.sizeOf9
  have hS : Tryz.prog.underlying 55 = some (.struct (Tryz.prog.fieldsOf 55)) := by kernel_rfl
  have hp : Tryz.prog.stoodInHeld 55 = false := by kernel_rfl
  rw [run_neq_struct, show (10000 : Nat) = 9999 + 1 from rfl, run_equalIn_agg w 9999 55 _ _ hS hp]
  simp only [Program.fieldsOf, Tryz.underlying55]
  go_simp
  simp only [sEq]
  by_cases h1 : x.1.toList = y.1.toList <;> by_cases h2 : x.2.toList = y.2.toList <;> simp [h1, h2]
theorem lab_eq (x y : Lab) : (sEq x.1 y.1 && sEq x.2 y.2) = decide (x = y) := by
  rw [Bool.eq_iff_iff, Bool.and_eq_true, sEq_iff, sEq_iff, decide_eq_true_iff, Prod.ext_iff]
theorem ask_eq (x y : Ask) : decide (x = y) = (sEq x.1 y.1 && ((x.2.1 == y.2.1) && decide (x.2.2 = y.2.2))) := by
  rw [Bool.eq_iff_iff, Bool.and_eq_true, Bool.and_eq_true, sEq_iff, decide_eq_true_iff, decide_eq_true_iff, beq_iff_eq, Prod.ext_iff, Prod.ext_iff]
theorem term_eq (x y : TermD) : decide (x = y) = (sEq x.2 y.2 && decide (x.1 = y.1)) := by
  rw [Bool.eq_iff_iff, Bool.and_eq_true, sEq_iff, decide_eq_true_iff, decide_eq_true_iff, Prod.ext_iff, And.comm]

set_option maxHeartbeats 4000000 in
theorem SameTexts_calls (a : Option Addr) (n cap : Nat) (A : Where) (L : List (ByteArray)) (b : Option Addr) (m capb : Nat) (A' : Where) (M : List (ByteArray)) (w : World) (hA : Hid (SlAt RStr 1 16 A w a n cap L)) (hB : Hid (SlAt RStr 1 16 A' w b m capb M)) : Calls Tryz.prog 37 #[.slice a n cap, .slice b m capb] w fun e w' => e = .returned (.bool (decide (L = M))) ∧ ∃ q, w' = w.drewN q := by
  have hn : Hid (L.length = n) := hA.out.1
  have hm : Hid (M.length = m) := hB.out.1
  have hlen := hA.out.len (by decide)
  by_cases hnm : n = m
  case neg =>
    have HF : Hid (decide (L = M) = false) := same_len (by rw [hn.out, hm.out]; exact hnm)
    have hne : ((n : Int) != (m : Int)) = true := by rw [bne_iff_ne]; omega
    go_enter Tryz.func37, Tryz.ntmps37
    go_wp2
    go_ret
    exact ⟨retB HF.out.symm, 0, rfl⟩
  subst hnm
  have hne : ((n : Int) != (n : Int)) = false := by simp
  go_enter Tryz.func37, Tryz.ntmps37
  go_wp2
  go_loopw [5] (fun i wr => ∃ k : Nat, k ≤ n ∧ i = .int .i64 k ∧ Hid (∃ q, wr = w.drewN q) ∧ Hid (∀ j, j < k → L.getD j default = M.getD j default)) (fun i _ => n - (intOf i).toNat)
  case atStart => exact ⟨0, Nat.zero_le _, rfl, ⟨0, rfl⟩, fun j hj => absurd hj (Nat.not_lt_zero _)⟩
  case round =>
    obtain ⟨k, hk, rfl, hwr, hall⟩ := hrel
    have hbel : Below w.heap.size w wr := by obtain ⟨q, rfl⟩ := hwr.out; exact below_drewN (Below.refl _ _) _
    have hback : Hid (∀ q, ∃ q', wr.drewN q = w.drewN q') := by obtain ⟨q0, rfl⟩ := hwr.out; exact fun q => ⟨_, World.drewN_drewN _ _ _⟩
    by_cases hlt : k < n
    · have hltz : (k : Int) < (n : Int) := by omega
      obtain ⟨B, off, rfl, hBl, _, cs, hra, hva⟩ := (hA.out.on RStr.firm hbel).get hlt
      obtain ⟨B', off', rfl, hBl', _, cs', hrb, hvb⟩ := (hB.out.on RStr.firm hbel).get hlt
      obtain ⟨rfl, sa⟩ := hra
      obtain ⟨rfl, sb⟩ := hrb
      have d0 := hva 0 _ rfl
      have g0 := hvb 0 _ rfl
      rw [Nat.add_zero] at d0 g0
      rw [Nat.mul_one] at d0 g0
      have HG : Hid (decide (L.getD k default = M.getD k default) = true → ∀ j, j < k + 1 → L.getD j default = M.getD j default) := fun h j hj => by
        rcases Nat.lt_succ_iff_lt_or_eq.1 hj with h' | rfl
        · exact hall.out j h'
        · exact of_decide_eq_true h
      have HF : Hid (decide (L.getD k default = M.getD k default) = false → decide (L = M) = false) := fun h => same_no (of_decide_eq_false h)
      clear hall hva hvb
      have HE : (!((L.getD k default).toList == (M.getD k default).toList)) = !decide (L.getD k default = M.getD k default) := by rw [show ((L.getD k default).toList == (M.getD k default).toList) = decide (L.getD k default = M.getD k default) by rw [Bool.eq_iff_iff, decide_eq_true_iff]; exact sEq_iff _ _]
      generalize L.getD k default = x at d0 sa HE HG HF
      generalize M.getD k default = y at g0 sb HE HG HF
      cases hd : decide (x = y)
      · have HF2 : Hid (decide (L = M) = false) := HF.out hd
        rw [hd] at HE
        clear HG HF hd
        go_wp2_with fail
        go_quiet (fail)
        go_wp2_with fail
        go_ret
        exact ⟨retB HF2.out.symm, hback.out _⟩
      · have HG2 : Hid (∀ j, j < k + 1 → L.getD j default = M.getD j default) := HG.out hd
        rw [hd] at HE
        clear HG HF hd
        go_wp2_with fail
        go_quiet (fail)
        go_wp2_with fail
        go_roundw
        case rel => exact ⟨k + 1, by omega, by go_num, hback.out _, HG2⟩
        case measure => simp [intOf]; omega
    · have HT : Hid (decide (L = M) = true) := same_yes (by rw [hn.out, hm.out]) (fun j hj => hall.out j (by rw [hn.out] at hj; omega))
      clear hall
      go_wp2
      go_ret
      exact ⟨retB HT.out.symm, hwr.out⟩

set_option maxHeartbeats 4000000 in
theorem SameInts_calls (a : Option Addr) (n cap : Nat) (A : Where) (L : List (Int)) (b : Option Addr) (m capb : Nat) (A' : Where) (M : List (Int)) (w : World) (hA : Hid (SlAt RInt 1 8 A w a n cap L)) (hB : Hid (SlAt RInt 1 8 A' w b m capb M)) : Calls Tryz.prog 35 #[.slice a n cap, .slice b m capb] w fun e w' => e = .returned (.bool (decide (L = M))) ∧ ∃ q, w' = w.drewN q := by
  have hn : Hid (L.length = n) := hA.out.1
  have hm : Hid (M.length = m) := hB.out.1
  have hlen := hA.out.len (by decide)
  by_cases hnm : n = m
  case neg =>
    have HF : Hid (decide (L = M) = false) := same_len (by rw [hn.out, hm.out]; exact hnm)
    have hne : ((n : Int) != (m : Int)) = true := by rw [bne_iff_ne]; omega
    go_enter Tryz.func35, Tryz.ntmps35
    go_wp2
    go_ret
    exact ⟨retB HF.out.symm, 0, rfl⟩
  subst hnm
  have hne : ((n : Int) != (n : Int)) = false := by simp
  go_enter Tryz.func35, Tryz.ntmps35
  go_wp2
  go_loopw [5] (fun i wr => ∃ k : Nat, k ≤ n ∧ i = .int .i64 k ∧ Hid (∃ q, wr = w.drewN q) ∧ Hid (∀ j, j < k → L.getD j default = M.getD j default)) (fun i _ => n - (intOf i).toNat)
  case atStart => exact ⟨0, Nat.zero_le _, rfl, ⟨0, rfl⟩, fun j hj => absurd hj (Nat.not_lt_zero _)⟩
  case round =>
    obtain ⟨k, hk, rfl, hwr, hall⟩ := hrel
    have hbel : Below w.heap.size w wr := by obtain ⟨q, rfl⟩ := hwr.out; exact below_drewN (Below.refl _ _) _
    have hback : Hid (∀ q, ∃ q', wr.drewN q = w.drewN q') := by obtain ⟨q0, rfl⟩ := hwr.out; exact fun q => ⟨_, World.drewN_drewN _ _ _⟩
    by_cases hlt : k < n
    · have hltz : (k : Int) < (n : Int) := by omega
      obtain ⟨B, off, rfl, hBl, _, cs, hra, hva⟩ := (hA.out.on RInt.firm hbel).get hlt
      obtain ⟨B', off', rfl, hBl', _, cs', hrb, hvb⟩ := (hB.out.on RInt.firm hbel).get hlt
      obtain rfl := hra
      obtain rfl := hrb
      have d0 := hva 0 _ rfl
      have g0 := hvb 0 _ rfl
      rw [Nat.add_zero] at d0 g0
      rw [Nat.mul_one] at d0 g0
      have HG : Hid (decide (L.getD k default = M.getD k default) = true → ∀ j, j < k + 1 → L.getD j default = M.getD j default) := fun h j hj => by
        rcases Nat.lt_succ_iff_lt_or_eq.1 hj with h' | rfl
        · exact hall.out j h'
        · exact of_decide_eq_true h
      have HF : Hid (decide (L.getD k default = M.getD k default) = false → decide (L = M) = false) := fun h => same_no (of_decide_eq_false h)
      clear hall hva hvb
      have HE : (L.getD k default != M.getD k default) = !decide (L.getD k default = M.getD k default) := by rw [bne_of, show (L.getD k default == M.getD k default) = decide (L.getD k default = M.getD k default) by rw [Bool.eq_iff_iff, decide_eq_true_iff, beq_iff_eq]]
      generalize L.getD k default = x at d0 HE HG HF
      generalize M.getD k default = y at g0 HE HG HF
      cases hd : decide (x = y)
      · have HF2 : Hid (decide (L = M) = false) := HF.out hd
        rw [hd] at HE
        clear HG HF hd
        go_wp2_with fail
        go_quiet (fail)
        go_wp2_with fail
        go_ret
        exact ⟨retB HF2.out.symm, hback.out _⟩
      · have HG2 : Hid (∀ j, j < k + 1 → L.getD j default = M.getD j default) := HG.out hd
        rw [hd] at HE
        clear HG HF hd
        go_wp2_with fail
        go_quiet (fail)
        go_wp2_with fail
        go_roundw
        case rel => exact ⟨k + 1, by omega, by go_num, hback.out _, HG2⟩
        case measure => simp [intOf]; omega
    · have HT : Hid (decide (L = M) = true) := same_yes (by rw [hn.out, hm.out]) (fun j hj => hall.out j (by rw [hn.out] at hj; omega))
      clear hall
      go_wp2
      go_ret
      exact ⟨retB HT.out.symm, hwr.out⟩

set_option maxHeartbeats 4000000 in
theorem SameLabels_calls (a : Option Addr) (n cap : Nat) (A : Where) (L : List (Lab)) (b : Option Addr) (m capb : Nat) (A' : Where) (M : List (Lab)) (w : World) (hA : Hid (SlAt RLabel 2 32 A w a n cap L)) (hB : Hid (SlAt RLabel 2 32 A' w b m capb M)) : Calls Tryz.prog 11 #[.slice a n cap, .slice b m capb] w fun e w' => e = .returned (.bool (decide (L = M))) ∧ ∃ q, w' = w.drewN q := by
  have hn : Hid (L.length = n) := hA.out.1
  have hm : Hid (M.length = m) := hB.out.1
  have hlen := hA.out.len (by decide)
  by_cases hnm : n = m
  case neg =>
    have HF : Hid (decide (L = M) = false) := same_len (by rw [hn.out, hm.out]; exact hnm)
    have hne : ((n : Int) != (m : Int)) = true := by rw [bne_iff_ne]; omega
    go_enter Tryz.func11, Tryz.ntmps11
    go_wp2
    go_ret
    exact ⟨retB HF.out.symm, 0, rfl⟩
  subst hnm
  have hne : ((n : Int) != (n : Int)) = false := by simp
  go_enter Tryz.func11, Tryz.ntmps11
  go_wp2
  go_loopw [5] (fun i wr => ∃ k : Nat, k ≤ n ∧ i = .int .i64 k ∧ Hid (∃ q, wr = w.drewN q) ∧ Hid (∀ j, j < k → L.getD j default = M.getD j default)) (fun i _ => n - (intOf i).toNat)
  case atStart => exact ⟨0, Nat.zero_le _, rfl, ⟨0, rfl⟩, fun j hj => absurd hj (Nat.not_lt_zero _)⟩
  case round =>
    obtain ⟨k, hk, rfl, hwr, hall⟩ := hrel
    have hbel : Below w.heap.size w wr := by obtain ⟨q, rfl⟩ := hwr.out; exact below_drewN (Below.refl _ _) _
    have hback : Hid (∀ q, ∃ q', wr.drewN q = w.drewN q') := by obtain ⟨q0, rfl⟩ := hwr.out; exact fun q => ⟨_, World.drewN_drewN _ _ _⟩
    by_cases hlt : k < n
    · have hltz : (k : Int) < (n : Int) := by omega
      obtain ⟨B, off, rfl, hBl, _, cs, hra, hva⟩ := (hA.out.on RLabel.firm hbel).get hlt
      obtain ⟨B', off', rfl, hBl', _, cs', hrb, hvb⟩ := (hB.out.on RLabel.firm hbel).get hlt
      obtain ⟨rfl, _, _⟩ := hra.out
      obtain ⟨rfl, _, _⟩ := hrb.out
      have d0 := hva 0 _ rfl
      have g0 := hvb 0 _ rfl
      have d1 := hva 1 _ rfl
      have g1 := hvb 1 _ rfl
      rw [Nat.add_zero] at d0 g0
      have HG : Hid (decide (L.getD k default = M.getD k default) = true → ∀ j, j < k + 1 → L.getD j default = M.getD j default) := fun h j hj => by
        rcases Nat.lt_succ_iff_lt_or_eq.1 hj with h' | rfl
        · exact hall.out j h'
        · exact of_decide_eq_true h
      have HF : Hid (decide (L.getD k default = M.getD k default) = false → decide (L = M) = false) := fun h => same_no (of_decide_eq_false h)
      clear hall hva hvb
      have HE : ∀ w, Sem.run Tryz.prog (binOp .neq 55 (.agg #[.string (L.getD k default).1, .string (L.getD k default).2]) (.agg #[.string (M.getD k default).1, .string (M.getD k default).2])) w = .ok (.bool (!decide (L.getD k default = M.getD k default))) w := fun w => by rw [neqL, lab_eq]
      have hgd := guardL
      generalize L.getD k default = x at d0 d1 HE HG HF
      generalize M.getD k default = y at g0 g1 HE HG HF
      cases hd : decide (x = y)
      · have HF2 : Hid (decide (L = M) = false) := HF.out hd
        rw [hd] at HE
        clear HG HF hd
        go_wp2_with fail
        go_quiet (fail)
        go_wp2_with fail
        go_ret
        exact ⟨retB HF2.out.symm, hback.out _⟩
      · have HG2 : Hid (∀ j, j < k + 1 → L.getD j default = M.getD j default) := HG.out hd
        rw [hd] at HE
        clear HG HF hd
        go_wp2_with fail
        go_quiet (fail)
        go_wp2_with fail
        go_roundw
        case rel => exact ⟨k + 1, by omega, by go_num, hback.out _, HG2⟩
        case measure => simp [intOf]; omega
    · have HT : Hid (decide (L = M) = true) := same_yes (by rw [hn.out, hm.out]) (fun j hj => hall.out j (by rw [hn.out] at hj; omega))
      clear hall
      go_wp2
      go_ret
      exact ⟨retB HT.out.symm, hwr.out⟩
end Go.Proofs.YtfnafgmengefaaaGreatDoor
namespace Go.Proofs.YtfnafgmengefaaaGreatDoor
open Go.RowKit
set_option linter.unusedSimpArgs false

set_option maxHeartbeats 4000000 in
theorem SameReqs_calls (a : Option Addr) (n cap : Nat) (A : Where) (L : List (Ask)) (b : Option Addr) (m capb : Nat) (A' : Where) (M : List (Ask)) (w : World) (hA : Hid (SlAt RReq 3 48 A w a n cap L)) (hB : Hid (SlAt RReq 3 48 A' w b m capb M)) : Calls Tryz.prog 34 #[.slice a n cap, .slice b m capb] w fun e w' => e = .returned (.bool (decide (L = M))) ∧ ∃ q, w' = w.drewN q := by
  have hn : Hid (L.length = n) := hA.out.1
  have hm : Hid (M.length = m) := hB.out.1
  have hlen := hA.out.len (by decide)
  by_cases hnm : n = m
  case neg =>
    have HF : Hid (decide (L = M) = false) := same_len (by rw [hn.out, hm.out]; exact hnm)
    have hne : ((n : Int) != (m : Int)) = true := by rw [bne_iff_ne]; omega
    go_enter Tryz.func34, Tryz.ntmps34
    go_wp2
    go_ret
    exact ⟨retB HF.out.symm, 0, rfl⟩
  subst hnm
  have hne : ((n : Int) != (n : Int)) = false := by simp
  go_enter Tryz.func34, Tryz.ntmps34
  go_wp2
  go_loopw [5] (fun i wr => ∃ k : Nat, k ≤ n ∧ i = .int .i64 k ∧ Hid (∃ q, wr = w.drewN q) ∧ Hid (∀ j, j < k → L.getD j default = M.getD j default)) (fun i _ => n - (intOf i).toNat)
  case atStart => exact ⟨0, Nat.zero_le _, rfl, ⟨0, rfl⟩, fun j hj => absurd hj (Nat.not_lt_zero _)⟩
  case round =>
    obtain ⟨k, hk, rfl, hwr, hall⟩ := hrel
    have hbel : Below w.heap.size w wr := by obtain ⟨q, rfl⟩ := hwr.out; exact below_drewN (Below.refl _ _) _
    have hback : Hid (∀ q, ∃ q', wr.drewN q = w.drewN q') := by obtain ⟨q0, rfl⟩ := hwr.out; exact fun q => ⟨_, World.drewN_drewN _ _ _⟩
    by_cases hlt : k < n
    · have hltz : (k : Int) < (n : Int) := by omega
      obtain ⟨B, off, rfl, hBl, _, cs, hra, hva⟩ := (hA.out.on RReq.firm hbel).get hlt
      obtain ⟨B', off', rfl, hBl', _, cs', hrb, hvb⟩ := (hB.out.on RReq.firm hbel).get hlt
      obtain ⟨ha, rfl, _, hTa⟩ := hra.out
      obtain ⟨hb, rfl, _, hTb⟩ := hrb.out
      have d0 := hva 0 _ rfl
      have g0 := hvb 0 _ rfl
      have d1 := hva 1 _ rfl
      have g1 := hvb 1 _ rfl
      have d2 := hva 2 _ rfl
      have g2 := hvb 2 _ rfl
      rw [Nat.add_zero] at d0 g0
      have HG : Hid (decide (L.getD k default = M.getD k default) = true → ∀ j, j < k + 1 → L.getD j default = M.getD j default) := fun h j hj => by
        rcases Nat.lt_succ_iff_lt_or_eq.1 hj with h' | rfl
        · exact hall.out j h'
        · exact of_decide_eq_true h
      have HF : Hid (decide (L.getD k default = M.getD k default) = false → decide (L = M) = false) := fun h => same_no (of_decide_eq_false h)
      clear hall hva hvb
      have HM0 : Hid (∀ m, Calls Tryz.prog 37 #[.slice ha.1 ha.2.1 ha.2.2, .slice hb.1 hb.2.1 hb.2.2] (wr.drewN m) fun e w' => e = .returned (.bool (decide ((L.getD k default).2.2 = (M.getD k default).2.2))) ∧ ∃ q, w' = (wr.drewN m).drewN q) := fun m => SameTexts_calls _ _ _ A _ _ _ _ A' _ _ (hTa.on RStr.firm (below_drewN (Below.refl _ _) _)) (hTb.on RStr.firm (below_drewN (Below.refl _ _) _))
      clear hTa hTb
      have HE := ask_eq (L.getD k default) (M.getD k default)
      generalize L.getD k default = x at d0 d1 d2 HE HG HF HM0
      generalize M.getD k default = y at g0 g1 g2 HE HG HF HM0
      obtain ⟨r, hr⟩ : ∃ r, decide (x.2.2 = y.2.2) = r := ⟨_, rfl⟩
      rw [hr] at HE
      have HM : Hid (∀ m, Calls Tryz.prog 37 #[.slice ha.1 ha.2.1 ha.2.2, .slice hb.1 hb.2.1 hb.2.2] (wr.drewN m) fun e w' => e = .returned (.bool r) ∧ ∃ q, w' = (wr.drewN m).drewN q) := by rw [← hr]; exact HM0
      clear HM0 hr
      obtain ⟨p, hp⟩ : ∃ p : Bool, (sEq x.1 y.1) = p := ⟨_, rfl⟩
      rw [hp] at HE
      have kp : (!(x.1.toList == y.1.toList)) = !p := by rw [← hp]; rfl
      clear hp
      obtain ⟨q, hq⟩ : ∃ q : Bool, (x.2.1 == y.2.1) = q := ⟨_, rfl⟩
      rw [hq] at HE
      have kq : (x.2.1 != y.2.1) = !q := by rw [← hq]; rfl
      clear hq
      cases p
      · have HX : Hid (decide (x = y) = false) := HE.trans rfl
        have HF2 : Hid (decide (L = M) = false) := HF.out HX.out
        clear HG HF HX HE
        simp only [Bool.not_true, Bool.not_false] at kp kq
        go_wp2_with fail
        go_quiet ((go_at_call 37; exact Calls.quiet_of (HM.out _)))
        go_wp2_with fail
        go_ret
        exact ⟨retB HF2.out.symm, hback.out _⟩
      · skip
        cases q
        · have HX : Hid (decide (x = y) = false) := HE.trans rfl
          have HF2 : Hid (decide (L = M) = false) := HF.out HX.out
          clear HG HF HX HE
          simp only [Bool.not_true, Bool.not_false] at kp kq
          go_wp2_with fail
          go_quiet ((go_at_call 37; exact Calls.quiet_of (HM.out _)))
          go_wp2_with fail
          go_ret
          exact ⟨retB HF2.out.symm, hback.out _⟩
        · skip
          cases r
          · have HX : Hid (decide (x = y) = false) := HE.trans rfl
            have HF2 : Hid (decide (L = M) = false) := HF.out HX.out
            clear HG HF HX HE
            simp only [Bool.not_true, Bool.not_false] at kp kq
            go_wp2_with fail
            go_quiet ((go_at_call 37; exact Calls.quiet_of (HM.out _)))
            go_wp2_with fail
            go_ret
            exact ⟨retB HF2.out.symm, hback.out _⟩
          · have HX : Hid (decide (x = y) = true) := HE.trans rfl
            have HG2 : Hid (∀ j, j < k + 1 → L.getD j default = M.getD j default) := HG.out HX.out
            clear HG HF HX HE
            simp only [Bool.not_true, Bool.not_false] at kp kq
            go_wp2_with fail
            go_quiet ((go_at_call 37; exact Calls.quiet_of (HM.out _)))
            go_wp2_with fail
            go_roundw
            case rel => exact ⟨k + 1, by omega, by go_num, hback.out _, HG2⟩
            case measure => simp [intOf]; omega
    · have HT : Hid (decide (L = M) = true) := same_yes (by rw [hn.out, hm.out]) (fun j hj => hall.out j (by rw [hn.out] at hj; omega))
      clear hall
      go_wp2
      go_ret
      exact ⟨retB HT.out.symm, hwr.out⟩

set_option maxHeartbeats 4000000 in
theorem sameTerms_calls (a : Option Addr) (n cap : Nat) (A : Where) (L : List (TermD)) (b : Option Addr) (m capb : Nat) (A' : Where) (M : List (TermD)) (w : World) (hA : Hid (SlAt RTerm 2 40 A w a n cap L)) (hB : Hid (SlAt RTerm 2 40 A' w b m capb M)) : Calls Tryz.prog 36 #[.slice a n cap, .slice b m capb] w fun e w' => e = .returned (.bool (decide (L = M))) ∧ ∃ q, w' = w.drewN q := by
  have hn : Hid (L.length = n) := hA.out.1
  have hm : Hid (M.length = m) := hB.out.1
  have hlen := hA.out.len (by decide)
  by_cases hnm : n = m
  case neg =>
    have HF : Hid (decide (L = M) = false) := same_len (by rw [hn.out, hm.out]; exact hnm)
    have hne : ((n : Int) != (m : Int)) = true := by rw [bne_iff_ne]; omega
    go_enter Tryz.func36, Tryz.ntmps36
    go_wp2
    go_ret
    exact ⟨retB HF.out.symm, 0, rfl⟩
  subst hnm
  have hne : ((n : Int) != (n : Int)) = false := by simp
  go_enter Tryz.func36, Tryz.ntmps36
  go_wp2
  go_loopw [5] (fun i wr => ∃ k : Nat, k ≤ n ∧ i = .int .i64 k ∧ Hid (∃ q, wr = w.drewN q) ∧ Hid (∀ j, j < k → L.getD j default = M.getD j default)) (fun i _ => n - (intOf i).toNat)
  case atStart => exact ⟨0, Nat.zero_le _, rfl, ⟨0, rfl⟩, fun j hj => absurd hj (Nat.not_lt_zero _)⟩
  case round =>
    obtain ⟨k, hk, rfl, hwr, hall⟩ := hrel
    have hbel : Below w.heap.size w wr := by obtain ⟨q, rfl⟩ := hwr.out; exact below_drewN (Below.refl _ _) _
    have hback : Hid (∀ q, ∃ q', wr.drewN q = w.drewN q') := by obtain ⟨q0, rfl⟩ := hwr.out; exact fun q => ⟨_, World.drewN_drewN _ _ _⟩
    by_cases hlt : k < n
    · have hltz : (k : Int) < (n : Int) := by omega
      obtain ⟨B, off, rfl, hBl, _, cs, hra, hva⟩ := (hA.out.on RTerm.firm hbel).get hlt
      obtain ⟨B', off', rfl, hBl', _, cs', hrb, hvb⟩ := (hB.out.on RTerm.firm hbel).get hlt
      obtain ⟨ha, rfl, hTa, _⟩ := hra.out
      obtain ⟨hb, rfl, hTb, _⟩ := hrb.out
      have d0 := hva 0 _ rfl
      have g0 := hvb 0 _ rfl
      have d1 := hva 1 _ rfl
      have g1 := hvb 1 _ rfl
      rw [Nat.add_zero] at d0 g0
      have HG : Hid (decide (L.getD k default = M.getD k default) = true → ∀ j, j < k + 1 → L.getD j default = M.getD j default) := fun h j hj => by
        rcases Nat.lt_succ_iff_lt_or_eq.1 hj with h' | rfl
        · exact hall.out j h'
        · exact of_decide_eq_true h
      have HF : Hid (decide (L.getD k default = M.getD k default) = false → decide (L = M) = false) := fun h => same_no (of_decide_eq_false h)
      clear hall hva hvb
      have HM0 : Hid (∀ m, Calls Tryz.prog 34 #[.slice ha.1 ha.2.1 ha.2.2, .slice hb.1 hb.2.1 hb.2.2] (wr.drewN m) fun e w' => e = .returned (.bool (decide ((L.getD k default).1 = (M.getD k default).1))) ∧ ∃ q, w' = (wr.drewN m).drewN q) := fun m => SameReqs_calls _ _ _ A _ _ _ _ A' _ _ (hTa.on RReq.firm (below_drewN (Below.refl _ _) _)) (hTb.on RReq.firm (below_drewN (Below.refl _ _) _))
      clear hTa hTb
      have HE := term_eq (L.getD k default) (M.getD k default)
      generalize L.getD k default = x at d0 d1 HE HG HF HM0
      generalize M.getD k default = y at g0 g1 HE HG HF HM0
      obtain ⟨r, hr⟩ : ∃ r, decide (x.1 = y.1) = r := ⟨_, rfl⟩
      rw [hr] at HE
      have HM : Hid (∀ m, Calls Tryz.prog 34 #[.slice ha.1 ha.2.1 ha.2.2, .slice hb.1 hb.2.1 hb.2.2] (wr.drewN m) fun e w' => e = .returned (.bool r) ∧ ∃ q, w' = (wr.drewN m).drewN q) := by rw [← hr]; exact HM0
      clear HM0 hr
      obtain ⟨p, hp⟩ : ∃ p : Bool, (sEq x.2 y.2) = p := ⟨_, rfl⟩
      rw [hp] at HE
      have kp : (!(x.2.toList == y.2.toList)) = !p := by rw [← hp]; rfl
      clear hp
      cases p
      · have HX : Hid (decide (x = y) = false) := HE.trans rfl
        have HF2 : Hid (decide (L = M) = false) := HF.out HX.out
        clear HG HF HX HE
        simp only [Bool.not_true, Bool.not_false] at kp
        go_wp2_with fail
        go_quiet ((go_at_call 34; exact Calls.quiet_of (HM.out _)))
        go_wp2_with fail
        go_ret
        exact ⟨retB HF2.out.symm, hback.out _⟩
      · skip
        cases r
        · have HX : Hid (decide (x = y) = false) := HE.trans rfl
          have HF2 : Hid (decide (L = M) = false) := HF.out HX.out
          clear HG HF HX HE
          simp only [Bool.not_true, Bool.not_false] at kp
          go_wp2_with fail
          go_quiet ((go_at_call 34; exact Calls.quiet_of (HM.out _)))
          go_wp2_with fail
          go_ret
          exact ⟨retB HF2.out.symm, hback.out _⟩
        · have HX : Hid (decide (x = y) = true) := HE.trans rfl
          have HG2 : Hid (∀ j, j < k + 1 → L.getD j default = M.getD j default) := HG.out HX.out
          clear HG HF HX HE
          simp only [Bool.not_true, Bool.not_false] at kp
          go_wp2_with fail
          go_quiet ((go_at_call 34; exact Calls.quiet_of (HM.out _)))
          go_wp2_with fail
          go_roundw
          case rel => exact ⟨k + 1, by omega, by go_num, hback.out _, HG2⟩
          case measure => simp [intOf]; omega
    · have HT : Hid (decide (L = M) = true) := same_yes (by rw [hn.out, hm.out]) (fun j hj => hall.out j (by rw [hn.out] at hj; omega))
      clear hall
      go_wp2
      go_ret
      exact ⟨retB HT.out.symm, hwr.out⟩
end Go.Proofs.YtfnafgmengefaaaGreatDoor
namespace Go.Proofs.YtfnafgmengefaaaGreatDoor
open Go.RowKit
set_option linter.unusedSimpArgs false

/-- A call's end tells whether the two are one. -/
def TellsEq {α : Type} (e : Ending) (x y : α) : Prop := ∃ r, e = .returned (.bool r) ∧ (r = true ↔ x = y)
theorem tells {α : Type} {x y : α} {r : Bool} (h : r = true ↔ x = y) : TellsEq (.returned (.bool r)) x y := ⟨r, rfl, h⟩

end Go.Proofs.YtfnafgmengefaaaGreatDoor
namespace Go.Proofs.YtfnafgmengefaaaGreatDoor
open Go.RowKit
set_option linter.unusedSimpArgs false

theorem guardR : Tryz.prog.eqGuardType Tryz.prog.depth 24 = false := by kernel_rfl
theorem neqR (x y : ResD) (w : World) : Sem.run Tryz.prog (binOp .neq 24 (.agg #[.int .i64 x.1, .int .i64 x.2.1, .int .i64 x.2.2]) (.agg #[.int .i64 y.1, .int .i64 y.2.1, .int .i64 y.2.2])) w = .ok (.bool (!((x.1 == y.1) && ((x.2.1 == y.2.1) && (x.2.2 == y.2.2))))) w := by
  have u3 := Tryz.underlying3
  have a3 := Tryz.isAgg3
  have z3 := Tryz.sizeOf3
  have hS : Tryz.prog.underlying 24 = some (.struct (Tryz.prog.fieldsOf 24)) := by kernel_rfl
  have hp : Tryz.prog.stoodInHeld 24 = false := by kernel_rfl
  rw [run_neq_struct, show (10000 : Nat) = 9999 + 1 from rfl, run_equalIn_agg w 9999 24 _ _ hS hp]
  simp only [Program.fieldsOf, Tryz.underlying24]
  go_simp
  by_cases h1 : x.1 = y.1 <;> by_cases h2 : x.2.1 = y.2.1 <;> by_cases h3 : x.2.2 = y.2.2 <;> simp [h1, h2, h3]
theorem tEq_iff (x y : Tnt) : tEq x y = true ↔ x = y := by
  simp only [tEq, Bool.and_eq_true, sEq_iff, beq_iff_eq, Prod.ext_iff]
theorem res_iff (x y : ResD) : ((x.1 == y.1) && ((x.2.1 == y.2.1) && (x.2.2 == y.2.2))) = true ↔ x = y := by
  simp only [Bool.and_eq_true, beq_iff_eq, Prod.ext_iff]
theorem list_same {α : Type} [Inhabited α] {L M : List α} (hl : L.length = M.length) (h : ∀ j, j < L.length → L.getD j default = M.getD j default) : L = M := by
  apply List.ext_getElem hl
  intro i h1 h2
  have := h i h1
  rwa [getE _ _ h1, getE _ _ h2] at this

end Go.Proofs.YtfnafgmengefaaaGreatDoor
