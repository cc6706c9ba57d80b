/- base.Texts and base.Ints give rows of their own. Condition: the slice lies as is said of it. Strings handed back, and BudgetMore, walked over a budget that keeps what is said. Condition: what is handed in lies as is said of it. What BudgetOrder asks of an order, plainly. No program. No condition. -/
import Derived.Test.YtpjgffcpjabghaaQ05
import Derived.Test.YtpjgffcpjabghaaQ19
import Derived.Test.YtpjgffcpjabghaaQ13
import Derived.Test.YtpjgffcpjabghaaQ08
import Derived.Test.YtpjgffcpjabghaaQ04
namespace Go.Proofs.Ytpjgffcpjabghaa
open Go.RowKit
set_option linter.unusedSimpArgs false
set_option maxRecDepth 100000

set_option maxHeartbeats 1000000 in
theorem Texts_row (a : Option Addr) (n cap : Nat) (A : Where) (L : List ByteArray) (w : World) (hL : Hid (SlAt RStr 1 16 A w a n cap L)) : Calls Try.prog 14 #[.slice a n cap] w fun e w' => ∃ v, e = .returned v ∧ Row RStr 1 (fun _ => False) w w' 9 v L := by
  have hb0 : Below w.heap.size w (w.alloc (.cells #[] 9)) := by go_grown
  have HR : Hid (Row RStr 1 (fun _ => False) w (w.alloc (.cells #[] 9)) 9 (.slice (some ⟨w.heap.size, 0, none⟩) 0 0) []) := Row.start _ w w _ (Below.refl _ _)
  have HN : Hid (Src RStr 1 (fun b => False ∧ Value.ownBlock (.slice (some ⟨w.heap.size, 0, none⟩) 0 0) ≠ some b) (w.alloc (.cells #[] 9)) a n L) := ((hL.out.on RStr.firm hb0).src RStr.firm).flat RStr.flat
  have HB : Hid ((([] : List ByteArray).length + L.length) * 16 ≤ 140737488355328) := by have h1 := hL.out.2.2.2.1; have h2 := hL.out.1; rw [Hid, h2]; simp; omega
  clear hb0 hL
  go_enter Try.func14, Try.ntmps14
  go_wp2_with (at_builtin; go_must (refine row_appendS RStr.firm (A := (fun _ => False)) (w0 := w) rfl _ _ 30 9 rfl _ 16 infostr Try.underlying30 rfl (by decide) (by decide) _ [] rfl HR.out a n cap L rfl HN.out HB.out ?_); intro v1 w1 hrow1 hg1)
  go_ret
  exact ⟨v1, rfl, by simpa using hrow1⟩
set_option maxHeartbeats 1000000 in
theorem Ints_row (a : Option Addr) (n cap : Nat) (A : Where) (L : List Int) (w : World) (hL : Hid (SlAt RInt 1 8 A w a n cap L)) : Calls Try.prog 39 #[.slice a n cap] w fun e w' => ∃ v, e = .returned v ∧ Row RInt 1 (fun _ => False) w w' 3 v L := by
  have hb0 : Below w.heap.size w (w.alloc (.cells #[] 3)) := by go_grown
  have HR : Hid (Row RInt 1 (fun _ => False) w (w.alloc (.cells #[] 3)) 3 (.slice (some ⟨w.heap.size, 0, none⟩) 0 0) []) := Row.start _ w w _ (Below.refl _ _)
  have HN : Hid (Src RInt 1 (fun b => False ∧ Value.ownBlock (.slice (some ⟨w.heap.size, 0, none⟩) 0 0) ≠ some b) (w.alloc (.cells #[] 3)) a n L) := ((hL.out.on RInt.firm hb0).src RInt.firm).flat RInt.flat
  have HB : Hid ((([] : List Int).length + L.length) * 8 ≤ 140737488355328) := by have h1 := hL.out.2.2.2.1; have h2 := hL.out.1; rw [Hid, h2]; simp; omega
  clear hb0 hL
  go_enter Try.func39, Try.ntmps39
  go_wp2_with (at_builtin; go_must (refine row_appendS RInt.firm (A := (fun _ => False)) (w0 := w) rfl _ _ 50 3 rfl _ 8 infoint Try.underlying50 rfl (by decide) (by decide) _ [] rfl HR.out a n cap L rfl HN.out HB.out ?_); intro v1 w1 hrow1 hg1)
  go_ret
  exact ⟨v1, rfl, by simpa using hrow1⟩
end Go.Proofs.Ytpjgffcpjabghaa
namespace Go.Proofs.Ytpjgffcpjabghaa
open Go.RowKit Go.Maps
set_option linter.unusedSimpArgs false
set_option maxRecDepth 100000

theorem broken_len (P : List PodD) (B : List BudgetD) : ∀ (V : List ByteArray) (left : List Int) (seen : List ByteArray), (brokenL P B V left seen).length ≤ V.length
  | [], left, seen => by unfold brokenL; exact Nat.le_refl _
  | v :: r, left, seen => by
    unfold brokenL
    split
    · have h := broken_len P B r (lessB B left (podB P v)) (seen ++ [v])
      rw [List.length_append, List.length_cons]
      split
      · rw [List.length_singleton]; omega
      · rw [List.length_nil]; omega
    · have h := broken_len P B r left seen
      rw [List.length_cons]; omega
theorem brokenP_len (P : List PodD) (B : List BudgetD) (V : List ByteArray) : (brokenP P B V).length ≤ V.length := broken_len P B V _ _
/-- A row of texts, as a slice. -/
theorem row_str {w0 u : World} {v : Value} {L : List ByteArray} (h : Row RStr 1 (fun _ => False) w0 u 9 v L) (hb : L.length * 16 ≤ 140737488351232) : ∃ a c, v = .slice a L.length c ∧ ∀ z, Below u.heap.size u z → SlAt RStr 1 16 (fun _ => True) z a L.length c L := by
  obtain ⟨a, c, rfl, hs⟩ := (h.wAG RStr.firm (A' := Fresh w0) (fun _ h => h.elim)).slF (bytes := 16) RStr.firm hb
  exact ⟨a, c, rfl, fun z hz => (hs.weak RStr.firm (fun _ _ _ => trivial)).on RStr.firm hz⟩
set_option maxHeartbeats 8000000 in
theorem more_walk18 (V : BudgetOK) (cs : List Value) (s : StateD) (x1 : Option Addr) (y1 z1 : Nat) (L1 : List ByteArray) (x2 : Option Addr) (y2 z2 : Nat) (L2 : List ByteArray) (W : World) (hs : RState (fun _ => True) W cs s) (h1 : SlAt RStr 1 16 (fun _ => True) W x1 y1 z1 L1) (h2 : SlAt RStr 1 16 (fun _ => True) W x2 y2 z2 L2) (hb : L1.length + L2.length ≤ 1048576) (hf : ∀ b ∈ s.2.2.2.2.2, FitQ b.2.2) :
    Calls Try.prog 4 #[.agg cs.toArray, .slice x1 y1 z1, .slice x2 y2 z2] W fun e w' => e = .returned (.bool true) ∧ Below W.heap.size W w' := by
  have HFit : Hid (∀ b ∈ s.2.2.2.2.2, FitQ b.2.2) := hf
  clear hf
  obtain ⟨X, hX⟩ : ∃ Z, Z = W.alloc (.cells cs.toArray 29) := ⟨_, rfl⟩
  have bX : Below W.heap.size W X := by rw [hX]; exact (Below.refl _ _).alloc (Nat.le_refl _) _
  have qX : BoxL X W.heap.size cs := by rw [hX]; exact BoxL.new W 29 _
  obtain ⟨D, hD⟩ : ∃ D, D = W.heap.size := ⟨_, rfl⟩
  rw [← hD] at qX
  have HD : Hid (W.heap.size = D) := hD.symm
  have HXe : Hid (W.alloc (.cells cs.toArray 29) = X) := hX.symm
  have HBX : Hid (Below W.heap.size W X) := bX
  have HSz : Hid ((Try.prog.info? 29).map (·.size) = some cs.length) := by rw [Hid, RState.firm.len hs]; exact sizeState18
  have HS : Hid (∀ z, Below X.heap.size X z → RState (fun _ => True) z cs s) := fun z hz => RState.firm.kept hs (Kept.below (on2 bX hz))
  have HR : Hid (∀ z, Below X.heap.size X z → z.rangeAt D 0 cs) := fun z hz => (qX.on hz).range
  have H1 : Hid (∀ z, Below X.heap.size X z → SlAt RStr 1 16 (fun _ => True) z x1 y1 z1 L1) := fun z hz => h1.on RStr.firm (on2 bX hz)
  have H2 : Hid (∀ z, Below X.heap.size X z → SlAt RStr 1 16 (fun _ => True) z x2 y2 z2 L2) := fun z hz => h2.on RStr.firm (on2 bX hz)
  clear hX bX qX hD hs h1 h2
  obtain ⟨P, hP⟩ : ∃ P, P = fsG s.1 := ⟨_, rfl⟩
  obtain ⟨B, hBu⟩ : ∃ B, B = fsG s.2.2.2.2.2 := ⟨_, rfl⟩
  have HMo := brokenP_more P B L1 L2
  have HPB : Hid (fsG s.1 = P ∧ fsG s.2.2.2.2.2 = B) := ⟨hP.symm, hBu.symm⟩
  have hl1 : (brokenP P B L1).length ≤ 1048576 := Nat.le_trans (brokenP_len P B L1) (by omega)
  have hl2 : (brokenP P B (L1 ++ L2)).length ≤ 1048576 := Nat.le_trans (brokenP_len P B (L1 ++ L2)) (by rw [List.length_append]; omega)
  clear hP hBu
  obtain ⟨M1, hM1⟩ : ∃ M, M = brokenP P B L1 := ⟨_, rfl⟩
  obtain ⟨M2, hM2⟩ : ∃ M, M = brokenP P B (L1 ++ L2) := ⟨_, rfl⟩
  rw [← hM1, ← hM2] at HMo
  rw [← hM1] at hl1
  rw [← hM2] at hl2
  have HM : Hid (brokenP P B L1 = M1 ∧ brokenP P B (L1 ++ L2) = M2) := ⟨hM1.symm, hM2.symm⟩
  have HMM : Hid (M1.length ≤ M2.length ∧ M2.take M1.length = M1) := HMo
  clear hM1 hM2 HMo
  go_enter Try.func4, Try.ntmps4
  go_upto_region 1 with fail
  rw [HXe.out, HD.out]
  clear HXe HD
  go_wp2_with fail
  refine (works18_calls V X).mono ?_
  rintro e w1 ⟨rfl, b1⟩
  have HB1 : Hid (Below X.heap.size X w1) := b1
  clear b1
  go_upto_region 3 with fail
  --M1
  have hb0 : Below w1.heap.size w1 w1.drew := (Below.refl _ _).drew
  refine t0 (fun z => Below X.heap.size X z) (on2 HB1.out hb0) (fun hHeld => ?_)
  have Hd : Hid (Below X.heap.size X w1.drew) := on2 HB1.out hb0
  generalize hwd : w1.drew = wd at hHeld Hd ⊢
  clear hwd hb0
  try go_frame
  refine tq 0 (.agg cs.toArray) (yieldsIf_load_mid (by rfl) 29 _ rfl D 0 rfl cs _ (fun z hz => HR.out z hz) Try.underlying29 rfl HSz.out) ?_ (hi := rfl)
  try go_frame
  refine' tk 1 ?_ ?_; rotate_left
  · intro z hz; clear hz; go_simp; try with_reducible rfl
  try go_frame
  refine tq 3 (.agg cs.toArray) (yieldsIf_load_mid (by rfl) 29 _ rfl D 0 rfl cs _ (fun z hz => HR.out z hz) Try.underlying29 rfl HSz.out) ?_ (hi := rfl)
  try go_frame
  refine' tk 4 ?_ ?_; rotate_left
  · intro z hz; clear hz; go_simp; try with_reducible rfl
  try go_frame
  refine' tk 6 ?_ ?_; rotate_left
  · intro z hz; clear hz; go_simp; try with_reducible rfl
  try go_frame
  --M2
  have hA := V.broken cs _ s x1 y1 z1 _ L1 wd (HS.out wd Hd.out) (H1.out wd Hd.out) HFit.out
  rw [HPB.out.1, HPB.out.2, HM.out.1] at hA
  refine tr 2 (fun K hK => ?_)
  go_simp
  refine hA.mono ?_
  rintro e w2 ⟨v2, rfl, hr2⟩
  have b2 := hr2.below
  have H2b : Hid (Below X.heap.size X w2) := on2 Hd.out b2
  obtain ⟨a2, c2, rfl, hs2⟩ := row_str hr2 (by omega)
  have HS2 : Hid (∀ z, Below w2.heap.size w2 z → SlAt RStr 1 16 (fun _ => True) z a2 M1.length c2 M1) := hs2
  clear hA hr2 hs2
  go_wp2_with fail
  refine hK.out _ _ H2b.out (fun hHeld2 => ?_)
  clear hK K hHeld; have hHeld := hHeld2; clear hHeld2
  try go_frame
  --M3
  have hA := Texts_row x1 y1 z1 _ L1 w2 (H1.out w2 H2b.out)
  refine tr 5 (fun K hK => ?_)
  go_simp
  refine hA.mono ?_
  rintro e w3 ⟨v3, rfl, hr3⟩
  have b3 := hr3.below
  have H3b : Hid (Below X.heap.size X w3) := on2 H2b.out b3
  have HR3 : Hid (Row RStr 1 (fun _ => False) w2 w3 9 v3 L1) := hr3
  clear hA hr3
  go_wp2_with fail
  refine hK.out _ _ H3b.out (fun hHeld2 => ?_)
  clear hK K hHeld; have hHeld := hHeld2; clear hHeld2
  try go_frame
  --M4
  have hsrc := ((H2.out w3 H3b.out).src RStr.firm).flat RStr.flat (A' := fun b => False ∧ v3.ownBlock ≠ some b)
  have HSc : Hid (Src RStr 1 (fun b => False ∧ v3.ownBlock ≠ some b) w3 x2 y2 L2) := hsrc
  clear hsrc
  refine tr 7 (fun K hK => ?_)
  refine want_yes18 (by rfl) (row_appendS_wp RStr.firm (A := fun _ => False) (w0 := w2) _ _ 30 9 rfl _ 16 infoStr18 Try.underlying30 rfl (by decide) (by decide) v3 L1 rfl HR3.out x2 y2 z2 L2 rfl HSc.out (by omega) ?_)
  intro v4 w4 hrow4 hg4
  have b24 : Below w2.heap.size w2 w4 := hrow4.below
  have H4b : Hid (Below X.heap.size X w4) := on2 H2b.out b24
  obtain ⟨a4, c4, rfl, hs4⟩ := row_str hrow4 (by rw [List.length_append]; omega)
  have HS4 : Hid (∀ z, Below w4.heap.size w4 z → SlAt RStr 1 16 (fun _ => True) z a4 (L1 ++ L2).length c4 (L1 ++ L2)) := hs4
  refine hK.out _ _ H4b.out (fun hHeld2 => ?_)
  clear hs4 hrow4 hg4 HSc HR3
  clear hK K hHeld; have hHeld := hHeld2; clear hHeld2
  try go_frame
  --M5
  have hA := V.broken cs _ s a4 _ c4 _ (L1 ++ L2) w4 (HS.out w4 H4b.out) (HS4.out w4 (Below.refl _ _)) HFit.out
  rw [HPB.out.1, HPB.out.2, HM.out.2] at hA
  obtain ⟨n4, hn4⟩ : ∃ n, n = (L1 ++ L2).length := ⟨_, rfl⟩
  rw [← hn4] at hA ⊢
  clear hn4
  refine tr 8 (fun K hK => ?_)
  go_simp
  refine hA.mono ?_
  rintro e w5 ⟨v5, rfl, hr5⟩
  have b5 := hr5.below
  have H5b : Hid (Below X.heap.size X w5) := on2 H4b.out b5
  have b25 : Below w2.heap.size w2 w5 := on2 b24 b5
  obtain ⟨a5, c5, rfl, hs5⟩ := row_str hr5 (by omega)
  have HS5 : Hid (SlAt RStr 1 16 (fun _ => True) w5 a2 M1.length c2 M1 ∧ SlAt RStr 1 16 (fun _ => True) w5 a5 M1.length c5 (M2.take M1.length)) := ⟨HS2.out w5 b25, sl_takeG (hs5 w5 (Below.refl _ _)) HMM.out.1⟩
  have hcap : M2.length ≤ c5 := (hs5 w5 (Below.refl _ _)).2.1
  clear hA hr5 hs5
  go_wp2_with fail
  refine hK.out _ _ H5b.out (fun hHeld2 => ?_)
  clear hK K hHeld; have hHeld := hHeld2; clear hHeld2
  try go_frame
  refine' tk 9 ?_ ?_; rotate_left
  · intro z hz; clear hz; go_simp; try with_reducible rfl
  try go_frame
  refine' tk 10 ?_ ?_; rotate_left
  · intro z hz; clear hz; go_simp; try with_reducible rfl
  try go_frame
  refine tz ?_
  clear hHeld HS HR H1 H2 HS2 HS4 HPB HM
  --M6
  have hA := SameTexts_calls _ _ _ _ _ _ _ _ _ _ w5 HS5.out.1 HS5.out.2
  rw [HMM.out.2, decide_eq_true rfl] at hA
  have hle := HMM.out.1
  obtain ⟨m1, hm1⟩ : ∃ m, m = M1.length := ⟨_, rfl⟩
  obtain ⟨m2, hm2⟩ : ∃ m, m = M2.length := ⟨_, rfl⟩
  rw [← hm1] at hA hle hl1 ⊢
  rw [← hm2] at hle hl2 hcap ⊢
  have hlez : (m1 : Int) ≤ (m2 : Int) := by omega
  have hm0 : (0 : Int) ≤ (m1 : Int) := by omega
  have hmc : (m1 : Int) ≤ (c5 : Int) := by omega
  have HE5 : Hid (Below W.heap.size W w5) := on2 HBX.out H5b.out
  clear hm1 hm2 HS5 HMM
  go_wp2_with fail
  --M7
  refine hA.mono ?_
  rintro e w6 ⟨rfl, qd, rfl⟩
  have HE : Hid (Below W.heap.size W (w5.drewN qd)) := below_drewN HE5.out qd
  generalize w5.drewN qd = w6 at HE ⊢
  clear hA
  go_wp2_with fail
  go_ret
  exact ⟨rfl, HE.out⟩
end Go.Proofs.Ytpjgffcpjabghaa
namespace Go.Proofs.Ytpjgffcpjabghaa
open Go.RowKit
set_option linter.unusedSimpArgs false

theorem pod_at {P : List PodD} (h : (P.map Prod.fst).Nodup) {p : PodD} (hp : p ∈ P) : podOf P p.1 = some p := by
  cases e : podOf P p.1 with
  | none => exact absurd rfl (podOf_none e p hp)
  | some q => have hq := podOf_some e; rw [nodup_fst h hq.1 hp hq.2]
theorem podB_at {P : List PodD} (h : (P.map Prod.fst).Nodup) {p : PodD} (hp : p ∈ P) : podB P p.1 = p := by unfold podB; rw [pod_at h hp]; rfl
theorem orderP_ord (P : List PodD) (N : List ByteArray) : OrdB P (orderP P N) := order_ord P N [] ⟨fun x hx => (by cases hx), List.Pairwise.nil⟩
theorem orderP_mem (P : List PodD) (N : List ByteArray) (x : ByteArray) : x ∈ orderP P N ↔ x ∈ N ∧ (podOf P x).isSome = true :=
  ⟨fun h => (order_mem P N [] x h).elim (fun h => (by cases h)) id, fun h => order_all P N [] x (.inr h)⟩
theorem ahead_irr (p : PodD) : aheadB p p = false := by
  cases e : aheadB p p with
  | false => rfl
  | true => have := ahead_asymm e; rw [e] at this; cases this
theorem orderP_nodup (P : List PodD) (N : List ByteArray) : (orderP P N).Nodup := by
  refine (orderP_ord P N).2.imp ?_
  intro x y h e
  rw [e, ahead_irr] at h; cases h
theorem orderP_in {P : List PodD} (h : (P.map Prod.fst).Nodup) (N : List ByteArray) {p : PodD} (hp : p ∈ P) (hn : hasB sEq N p.1 = true) : p.1 ∈ orderP P N :=
  (orderP_mem P N p.1).2 ⟨(has_mem N p.1).1 hn, by rw [pod_at h hp]; rfl⟩
theorem orderP_len {P : List PodD} (h : (P.map Prod.fst).Nodup) (N : List ByteArray) : (P.filter fun p => hasB sEq N p.1).length = (orderP P N).length := by
  have e : ((P.filter fun p => hasB sEq N p.1).map Prod.fst).length = (orderP P N).length := by
    refine List.Perm.length_eq ((List.perm_ext_iff_of_nodup ?_ (orderP_nodup P N)).2 (fun x => ?_))
    · exact h.sublist (List.Sublist.map _ List.filter_sublist)
    · rw [orderP_mem, List.mem_map]
      constructor
      · rintro ⟨p, hp, rfl⟩
        have hp2 := List.mem_filter.1 hp
        exact ⟨(has_mem N p.1).1 hp2.2, by rw [pod_at h hp2.1]; rfl⟩
      · rintro ⟨hx, hs⟩
        cases e : podOf P x with
        | none => rw [e] at hs; cases hs
        | some p =>
          have hp := podOf_some e
          exact ⟨p, List.mem_filter.2 ⟨hp.1, by rw [hp.2]; exact (has_mem N x).2 hx⟩, hp.2⟩
  rw [← e, List.length_map]
theorem orderP_has (P : List PodD) (N : List ByteArray) {i : Nat} (hi : i < (orderP P N).length) : hasB sEq N ((orderP P N).getD i default) = true := by
  rw [has_mem]
  refine ((orderP_mem P N _).1 ?_).1
  rw [List.getD_eq_getElem?_getD, List.getElem?_eq_getElem hi]; exact List.getElem_mem hi
/-- Who stands ahead stands before the place at which p is first found. -/
theorem orderP_ahead {P : List PodD} (h : (P.map Prod.fst).Nodup) (N : List ByteArray) {p q : PodD} (hp : p ∈ P) (hq : q ∈ P) (hpn : hasB sEq N p.1 = true) (hqn : hasB sEq N q.1 = true) (ha : aheadB q p = true) {t : Nat} (ht : t ≤ (orderP P N).length) (hno : ∀ j, j < t → sEq ((orderP P N).getD j default) p.1 = false) (hat : t = (orderP P N).length ∨ sEq ((orderP P N).getD t default) p.1 = true) : hasB sEq ((orderP P N).take t) q.1 = true := by
  have hpl := orderP_in h N hp hpn
  have hql := orderP_in h N hq hqn
  have ho := (orderP_ord P N).2
  generalize orderP P N = L at hpl hql ht hno hat ho ⊢
  obtain ⟨j, hj, ej⟩ := List.mem_iff_getElem.1 hql
  have gj : L.getD j default = q.1 := by rw [List.getD_eq_getElem?_getD, List.getElem?_eq_getElem hj]; exact ej
  obtain ⟨i, hi, ei⟩ := List.mem_iff_getElem.1 hpl
  have gi : L.getD i default = p.1 := by rw [List.getD_eq_getElem?_getD, List.getElem?_eq_getElem hi]; exact ei
  have hti : t ≤ i := by
    rcases Nat.lt_or_ge i t with h' | h'
    · have := hno i h'; rw [gi, sEq_self] at this; cases this
    · exact h'
  have htl : t < L.length := by omega
  have gt : L.getD t default = p.1 := by
    rcases hat with e | e
    · omega
    · exact (sEq_iff _ _).1 e
  have et : L[t] = p.1 := by rw [List.getD_eq_getElem?_getD, List.getElem?_eq_getElem htl] at gt; exact gt
  have hjt : j < t := by
    rcases Nat.lt_trichotomy j t with h' | h' | h'
    · exact h'
    · subst h'
      have e : q.1 = p.1 := gj.symm.trans gt
      rw [nodup_fst h hq hp e, ahead_irr] at ha; cases ha
    · have h9 := List.pairwise_iff_getElem.1 ho t j htl hj h'
      rw [et, ej, podB_at h hp, podB_at h hq] at h9
      rw [ahead_asymm ha] at h9; cases h9
  rw [has_mem, List.mem_iff_getElem]
  refine ⟨j, by rw [List.length_take]; omega, ?_⟩
  rw [List.getElem_take]; exact ej
theorem filter_snoc {α : Type} [Inhabited α] (f : α → Bool) {L : List α} {k : Nat} (hk : k < L.length) : ((L.take (k + 1)).filter f).length = ((L.take k).filter f).length + (if f (L.getD k default) = true then 1 else 0) := by
  have e : L.take (k + 1) = L.take k ++ [L.getD k default] := by rw [List.take_succ_eq_append_getElem hk, List.getD_eq_getElem?_getD, List.getElem?_eq_getElem hk]; rfl
  rw [e, List.filter_append, List.length_append]
  congr 1
  generalize L.getD k default = y
  cases h : f y <;> simp [h]
end Go.Proofs.Ytpjgffcpjabghaa
