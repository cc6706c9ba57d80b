/- Strings handed back, and BudgetMore, walked over a budget that keeps what is said. Condition: what is handed in lies as is said of it. -/
import Derived.Test.YtpjgffcpjabghaaQ19
import Derived.Test.YtpjgffcpjabghaaQ13
import Derived.Test.YtpjgffcpjabghaaW01
import Derived.Test.YtpjgffcpjabghaaQ08
namespace Go.Proofs.Ytpjgffcpjabghaa
open Go.RowKit Go.Maps
set_option linter.unusedSimpArgs false
set_option maxRecDepth 100000

theorem broken_len (P : List PodD) (B : List BudgetD) : ∀ (V : List ByteArray) (left : List Int) (seen : List ByteArray), (brokenL P B V left seen).length ≤ V.length
  | [], left, seen => by unfold brokenL; exact Nat.le_refl _
  | v :: r, left, seen => by
    unfold brokenL
    split
    · have h := broken_len P B r (lessB B left (podB P v)) (seen ++ [v])
      rw [List.length_append, List.length_cons]
      split
      · rw [List.length_singleton]; omega
      · rw [List.length_nil]; omega
    · have h := broken_len P B r left seen
      rw [List.length_cons]; omega
theorem brokenP_len (P : List PodD) (B : List BudgetD) (V : List ByteArray) : (brokenP P B V).length ≤ V.length := broken_len P B V _ _
/-- A row of texts, as a slice. -/
theorem row_str {w0 u : World} {v : Value} {L : List ByteArray} (h : Row RStr 1 (fun _ => False) w0 u 9 v L) (hb : L.length * 16 ≤ 140737488351232) : ∃ a c, v = .slice a L.length c ∧ ∀ z, Below u.heap.size u z → SlAt RStr 1 16 (fun _ => True) z a L.length c L := by
  obtain ⟨a, c, rfl, hs⟩ := (h.wAG RStr.firm (A' := Fresh w0) (fun _ h => h.elim)).slF (bytes := 16) RStr.firm hb
  exact ⟨a, c, rfl, fun z hz => (hs.weak RStr.firm (fun _ _ _ => trivial)).on RStr.firm hz⟩
set_option maxHeartbeats 8000000 in
theorem more_walk18 (V : BudgetOK) (cs : List Value) (s : StateD) (x1 : Option Addr) (y1 z1 : Nat) (L1 : List ByteArray) (x2 : Option Addr) (y2 z2 : Nat) (L2 : List ByteArray) (W : World) (hs : RState (fun _ => True) W cs s) (h1 : SlAt RStr 1 16 (fun _ => True) W x1 y1 z1 L1) (h2 : SlAt RStr 1 16 (fun _ => True) W x2 y2 z2 L2) (hb : L1.length + L2.length ≤ 1048576) (hf : ∀ b ∈ s.2.2.2.2.2, FitQ b.2.2) :
    Calls Try.prog 4 #[.agg cs.toArray, .slice x1 y1 z1, .slice x2 y2 z2] W fun e w' => e = .returned (.bool true) ∧ Below W.heap.size W w' := by
  have HFit : Hid (∀ b ∈ s.2.2.2.2.2, FitQ b.2.2) := hf
  clear hf
  obtain ⟨X, hX⟩ : ∃ Z, Z = W.alloc (.cells cs.toArray 29) := ⟨_, rfl⟩
  have bX : Below W.heap.size W X := by rw [hX]; exact (Below.refl _ _).alloc (Nat.le_refl _) _
  have qX : BoxL X W.heap.size cs := by rw [hX]; exact BoxL.new W 29 _
  obtain ⟨D, hD⟩ : ∃ D, D = W.heap.size := ⟨_, rfl⟩
  rw [← hD] at qX
  have HD : Hid (W.heap.size = D) := hD.symm
  have HXe : Hid (W.alloc (.cells cs.toArray 29) = X) := hX.symm
  have HBX : Hid (Below W.heap.size W X) := bX
  have HSz : Hid ((Try.prog.info? 29).map (·.size) = some cs.length) := by rw [Hid, RState.firm.len hs]; exact sizeState18
  have HS : Hid (∀ z, Below X.heap.size X z → RState (fun _ => True) z cs s) := fun z hz => RState.firm.kept hs (Kept.below (on2 bX hz))
  have HR : Hid (∀ z, Below X.heap.size X z → z.rangeAt D 0 cs) := fun z hz => (qX.on hz).range
  have H1 : Hid (∀ z, Below X.heap.size X z → SlAt RStr 1 16 (fun _ => True) z x1 y1 z1 L1) := fun z hz => h1.on RStr.firm (on2 bX hz)
  have H2 : Hid (∀ z, Below X.heap.size X z → SlAt RStr 1 16 (fun _ => True) z x2 y2 z2 L2) := fun z hz => h2.on RStr.firm (on2 bX hz)
  clear hX bX qX hD hs h1 h2
  obtain ⟨P, hP⟩ : ∃ P, P = fsG s.1 := ⟨_, rfl⟩
  obtain ⟨B, hBu⟩ : ∃ B, B = fsG s.2.2.2.2.2 := ⟨_, rfl⟩
  have HMo := brokenP_more P B L1 L2
  have HPB : Hid (fsG s.1 = P ∧ fsG s.2.2.2.2.2 = B) := ⟨hP.symm, hBu.symm⟩
  have hl1 : (brokenP P B L1).length ≤ 1048576 := Nat.le_trans (brokenP_len P B L1) (by omega)
  have hl2 : (brokenP P B (L1 ++ L2)).length ≤ 1048576 := Nat.le_trans (brokenP_len P B (L1 ++ L2)) (by rw [List.length_append]; omega)
  clear hP hBu
  obtain ⟨M1, hM1⟩ : ∃ M, M = brokenP P B L1 := ⟨_, rfl⟩
  obtain ⟨M2, hM2⟩ : ∃ M, M = brokenP P B (L1 ++ L2) := ⟨_, rfl⟩
  rw [← hM1, ← hM2] at HMo
  rw [← hM1] at hl1
  rw [← hM2] at hl2
  have HM : Hid (brokenP P B L1 = M1 ∧ brokenP P B (L1 ++ L2) = M2) := ⟨hM1.symm, hM2.symm⟩
  have HMM : Hid (M1.length ≤ M2.length ∧ M2.take M1.length = M1) := HMo
  clear hM1 hM2 HMo
  go_enter Try.func4, Try.ntmps4
  go_upto_region 1 with fail
  rw [HXe.out, HD.out]
  clear HXe HD
  go_wp2_with fail
  refine (works18_calls V X).mono ?_
  rintro e w1 ⟨rfl, b1⟩
  have HB1 : Hid (Below X.heap.size X w1) := b1
  clear b1
  go_upto_region 3 with fail
  --M1
  have hb0 : Below w1.heap.size w1 w1.drew := (Below.refl _ _).drew
  refine t0 (fun z => Below X.heap.size X z) (on2 HB1.out hb0) (fun hHeld => ?_)
  have Hd : Hid (Below X.heap.size X w1.drew) := on2 HB1.out hb0
  generalize hwd : w1.drew = wd at hHeld Hd ⊢
  clear hwd hb0
  try go_frame
  refine tq 0 (.agg cs.toArray) (yieldsIf_load_mid (by rfl) 29 _ rfl D 0 rfl cs _ (fun z hz => HR.out z hz) Try.underlying29 rfl HSz.out) ?_ (hi := rfl)
  try go_frame
  refine' tk 1 ?_ ?_; rotate_left
  · intro z hz; clear hz; go_simp; try with_reducible rfl
  try go_frame
  refine tq 3 (.agg cs.toArray) (yieldsIf_load_mid (by rfl) 29 _ rfl D 0 rfl cs _ (fun z hz => HR.out z hz) Try.underlying29 rfl HSz.out) ?_ (hi := rfl)
  try go_frame
  refine' tk 4 ?_ ?_; rotate_left
  · intro z hz; clear hz; go_simp; try with_reducible rfl
  try go_frame
  refine' tk 6 ?_ ?_; rotate_left
  · intro z hz; clear hz; go_simp; try with_reducible rfl
  try go_frame
  --M2
  have hA := V.broken cs _ s x1 y1 z1 _ L1 wd (HS.out wd Hd.out) (H1.out wd Hd.out) HFit.out
  rw [HPB.out.1, HPB.out.2, HM.out.1] at hA
  refine tr 2 (fun K hK => ?_)
  go_simp
  refine hA.mono ?_
  rintro e w2 ⟨v2, rfl, hr2⟩
  have b2 := hr2.below
  have H2b : Hid (Below X.heap.size X w2) := on2 Hd.out b2
  obtain ⟨a2, c2, rfl, hs2⟩ := row_str hr2 (by omega)
  have HS2 : Hid (∀ z, Below w2.heap.size w2 z → SlAt RStr 1 16 (fun _ => True) z a2 M1.length c2 M1) := hs2
  clear hA hr2 hs2
  go_wp2_with fail
  refine hK.out _ _ H2b.out (fun hHeld2 => ?_)
  clear hK K hHeld; have hHeld := hHeld2; clear hHeld2
  try go_frame
  --M3
  have hA := Texts_row x1 y1 z1 _ L1 w2 (H1.out w2 H2b.out)
  refine tr 5 (fun K hK => ?_)
  go_simp
  refine hA.mono ?_
  rintro e w3 ⟨v3, rfl, hr3⟩
  have b3 := hr3.below
  have H3b : Hid (Below X.heap.size X w3) := on2 H2b.out b3
  have HR3 : Hid (Row RStr 1 (fun _ => False) w2 w3 9 v3 L1) := hr3
  clear hA hr3
  go_wp2_with fail
  refine hK.out _ _ H3b.out (fun hHeld2 => ?_)
  clear hK K hHeld; have hHeld := hHeld2; clear hHeld2
  try go_frame
  --M4
  have hsrc := ((H2.out w3 H3b.out).src RStr.firm).flat RStr.flat (A' := fun b => False ∧ v3.ownBlock ≠ some b)
  have HSc : Hid (Src RStr 1 (fun b => False ∧ v3.ownBlock ≠ some b) w3 x2 y2 L2) := hsrc
  clear hsrc
  refine tr 7 (fun K hK => ?_)
  refine want_yes18 (by rfl) (row_appendS_wp RStr.firm (A := fun _ => False) (w0 := w2) _ _ 30 9 rfl _ 16 infoStr18 Try.underlying30 rfl (by decide) (by decide) v3 L1 rfl HR3.out x2 y2 z2 L2 rfl HSc.out (by omega) ?_)
  intro v4 w4 hrow4 hg4
  have b24 : Below w2.heap.size w2 w4 := hrow4.below
  have H4b : Hid (Below X.heap.size X w4) := on2 H2b.out b24
  obtain ⟨a4, c4, rfl, hs4⟩ := row_str hrow4 (by rw [List.length_append]; omega)
  have HS4 : Hid (∀ z, Below w4.heap.size w4 z → SlAt RStr 1 16 (fun _ => True) z a4 (L1 ++ L2).length c4 (L1 ++ L2)) := hs4
  refine hK.out _ _ H4b.out (fun hHeld2 => ?_)
  clear hs4 hrow4 hg4 HSc HR3
  clear hK K hHeld; have hHeld := hHeld2; clear hHeld2
  try go_frame
  --M5
  have hA := V.broken cs _ s a4 _ c4 _ (L1 ++ L2) w4 (HS.out w4 H4b.out) (HS4.out w4 (Below.refl _ _)) HFit.out
  rw [HPB.out.1, HPB.out.2, HM.out.2] at hA
  obtain ⟨n4, hn4⟩ : ∃ n, n = (L1 ++ L2).length := ⟨_, rfl⟩
  rw [← hn4] at hA ⊢
  clear hn4
  refine tr 8 (fun K hK => ?_)
  go_simp
  refine hA.mono ?_
  rintro e w5 ⟨v5, rfl, hr5⟩
  have b5 := hr5.below
  have H5b : Hid (Below X.heap.size X w5) := on2 H4b.out b5
  have b25 : Below w2.heap.size w2 w5 := on2 b24 b5
  obtain ⟨a5, c5, rfl, hs5⟩ := row_str hr5 (by omega)
  have HS5 : Hid (SlAt RStr 1 16 (fun _ => True) w5 a2 M1.length c2 M1 ∧ SlAt RStr 1 16 (fun _ => True) w5 a5 M1.length c5 (M2.take M1.length)) := ⟨HS2.out w5 b25, sl_takeG (hs5 w5 (Below.refl _ _)) HMM.out.1⟩
  have hcap : M2.length ≤ c5 := (hs5 w5 (Below.refl _ _)).2.1
  clear hA hr5 hs5
  go_wp2_with fail
  refine hK.out _ _ H5b.out (fun hHeld2 => ?_)
  clear hK K hHeld; have hHeld := hHeld2; clear hHeld2
  try go_frame
  refine' tk 9 ?_ ?_; rotate_left
  · intro z hz; clear hz; go_simp; try with_reducible rfl
  try go_frame
  refine' tk 10 ?_ ?_; rotate_left
  · intro z hz; clear hz; go_simp; try with_reducible rfl
  try go_frame
  refine tz ?_
  clear hHeld HS HR H1 H2 HS2 HS4 HPB HM
  --M6
  have hA := SameTexts_calls _ _ _ _ _ _ _ _ _ _ w5 HS5.out.1 HS5.out.2
  rw [HMM.out.2, decide_eq_true rfl] at hA
  have hle := HMM.out.1
  obtain ⟨m1, hm1⟩ : ∃ m, m = M1.length := ⟨_, rfl⟩
  obtain ⟨m2, hm2⟩ : ∃ m, m = M2.length := ⟨_, rfl⟩
  rw [← hm1] at hA hle hl1 ⊢
  rw [← hm2] at hle hl2 hcap ⊢
  have hlez : (m1 : Int) ≤ (m2 : Int) := by omega
  have hm0 : (0 : Int) ≤ (m1 : Int) := by omega
  have hmc : (m1 : Int) ≤ (c5 : Int) := by omega
  have HE5 : Hid (Below W.heap.size W w5) := on2 HBX.out H5b.out
  clear hm1 hm2 HS5 HMM
  go_wp2_with fail
  --M7
  refine hA.mono ?_
  rintro e w6 ⟨rfl, qd, rfl⟩
  have HE : Hid (Below W.heap.size W (w5.drewN qd)) := below_drewN HE5.out qd
  generalize w5.drewN qd = w6 at HE ⊢
  clear hA
  go_wp2_with fail
  go_ret
  exact ⟨rfl, HE.out⟩
end Go.Proofs.Ytpjgffcpjabghaa
