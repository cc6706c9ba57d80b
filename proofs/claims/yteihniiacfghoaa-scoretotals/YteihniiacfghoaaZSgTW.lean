/- ScoreTotals, walked. Condition: what is handed in lies as is said of it. -/
import Derived.Test.YteihniiacfghoaaQ18
namespace Go.Proofs.Yteihniiacfghoaa
open Go.RowKit Go.Maps
set_option linter.unusedSimpArgs false
set_option maxRecDepth 100000

set_option maxHeartbeats 4000000 in
theorem totals_walk (ps : List Value) (p : PodD) (a : Option Addr) (n cap : Nat) (L : List InfoD) (w0 w1 w2 w3 : Int) (w : World) (hp : RPod (fun _ => True) w ps p) (hL : SlAt RInfo 15 208 (fun _ => True) w a n cap L) : Calls Try.prog 4 #[.agg ps.toArray, .slice a n cap, .agg #[.int .i64 w0, .int .i64 w1, .int .i64 w2, .int .i64 w3]] w fun e w' => e = .returned (.bool true) ∧ Below w.heap.size w w' := by
  have hn : Hid (L.length = n) := hL.1
  have HLn : Hid (n * 208 ≤ 140737488351232) := hL.2.2.2.1
  have hiP : (Try.prog.info? 33).map (·.size) = some ps.length := by rw [RPod.firm.len hp]; exact sizePodS
  obtain ⟨W2, hW2⟩ : ∃ W2, W2 = (w.alloc (.cells ps.toArray 33)).alloc (.cells #[.int .i64 w0, .int .i64 w1, .int .i64 w2, .int .i64 w3] 47) := ⟨_, rfl⟩
  have hB : PiB w W2 ps [.int .i64 w0, .int .i64 w1, .int .i64 w2, .int .i64 w3] := by rw [hW2]; exact PiB.new w ps [.int .i64 w0, .int .i64 w1, .int .i64 w2, .int .i64 w3] _ _
  have hW2' : (w.alloc (.cells ps.toArray 33)).alloc (.cells #[.int .i64 w0, .int .i64 w1, .int .i64 w2, .int .i64 w3] 47) = W2 := hW2.symm
  have HL2 : Hid (SlAt RInfo 15 208 (fun _ => True) W2 a n cap L) := hL.on RInfo.firm hB.b
  have HP2 : Hid (RPod (fun _ => True) W2 ps p) := RPod.firm.kept hp (Kept.below hB.b)
  have HB : Hid (Below w.heap.size w W2) := hB.b
  have HXs : Hid (∀ z, Below W2.heap.size W2 z → z.rangeAt w.heap.size 0 ps ∧ z.rangeAt (w.heap.size + 1) 0 [.int .i64 w0, .int .i64 w1, .int .i64 w2, .int .i64 w3]) := fun z hz => ⟨(hB.on hz).x.range, (hB.on hz).y.range⟩
  obtain ⟨P, hP⟩ : ∃ P, P = w.heap.size := ⟨_, rfl⟩
  obtain ⟨I, hI⟩ : ∃ I, I = w.heap.size + 1 := ⟨_, rfl⟩
  rw [← hI, ← hP] at HXs
  have HPI : Hid (w.heap.size = P ∧ w.heap.size + 1 = I) := ⟨hP.symm, hI.symm⟩
  have HTl : Hid ((totalP p L (w0, w1, w2, w3)).length = n) := by rw [Hid, total_len, hn.out]
  have HTs : Hid (∀ z, Below W2.heap.size W2 z → (Calls Try.prog 22 #[.agg ps.toArray, .slice a n cap, .agg #[.int .i64 w0, .int .i64 w1, .int .i64 w2, .int .i64 w3]] z fun e w' => ∃ v, e = .returned v ∧ Row RInt 1 (fun _ => False) z w' 3 v (totalP p L (w0, w1, w2, w3))) ∧ (Calls Try.prog 23 #[.agg ps.toArray, .slice a n cap, .agg #[.int .i64 w0, .int .i64 w1, .int .i64 w2, .int .i64 w3]] z fun e w' => ∃ v, e = .returned v ∧ Row RInt 1 (fun _ => False) z w' 3 v (totalP p L (w0, w1, w2, w3)))) := fun z hz => ⟨Total_calls ps (fun _ => True) (fun _ => True) p a n cap L w0 w1 w2 w3 z (RPod.firm.kept HP2.out (Kept.below hz)) (HL2.out.on RInfo.firm hz), rTotal_calls ps (fun _ => True) (fun _ => True) p a n cap L w0 w1 w2 w3 z (RPod.firm.kept HP2.out (Kept.below hz)) (HL2.out.on RInfo.firm hz)⟩
  obtain ⟨M, hM⟩ : ∃ M, M = totalP p L (w0, w1, w2, w3) := ⟨_, rfl⟩
  rw [← hM] at HTs HTl
  clear hB hp hL hP hI hW2 hM HP2 HL2 hn
  go_enter Try.func4, Try.ntmps4
  go_upto_region 1 with fail
  rw [HPI.out.2, HPI.out.1]
  clear hW2'
  --M1
  have hb0 : Below W2.heap.size W2 W2.drew := (Below.refl _ _).drew
  refine t0 (fun z => Below W2.heap.size W2 z) hb0 (fun hHeld => ?_)
  generalize W2.drew = wd at hHeld ⊢
  clear hb0
  try go_frame
  refine tq 0 (.agg ps.toArray) (yieldsIf_load_mid (by rfl) 33 _ rfl P 0 (by go_simp) ps _ (fun z hz => (HXs.out z hz).1) Try.underlying33 rfl hiP) ?_ (hi := rfl)
  try go_frame
  refine tq 4 (.agg ps.toArray) (yieldsIf_load_mid (by rfl) 33 _ rfl P 0 (by go_simp) ps _ (fun z hz => (HXs.out z hz).1) Try.underlying33 rfl hiP) ?_ (hi := rfl)
  try go_frame
  refine' tk 1 ?_ ?_; rotate_left
  · intro z hz; clear hz; go_simp; try with_reducible rfl
  try go_frame
  refine' tk 5 ?_ ?_; rotate_left
  · intro z hz; clear hz; go_simp; try with_reducible rfl
  try go_frame
  refine tq 2 (.agg #[.int .i64 w0, .int .i64 w1, .int .i64 w2, .int .i64 w3]) (yieldsIf_load_mid (by rfl) 47 _ rfl I 0 (by go_simp) [.int .i64 w0, .int .i64 w1, .int .i64 w2, .int .i64 w3] _ (fun z hz => (HXs.out z hz).2) Try.underlying47 rfl (by kernel_rfl)) ?_ (hi := rfl)
  try go_frame
  refine tq 6 (.agg #[.int .i64 w0, .int .i64 w1, .int .i64 w2, .int .i64 w3]) (yieldsIf_load_mid (by rfl) 47 _ rfl I 0 (by go_simp) [.int .i64 w0, .int .i64 w1, .int .i64 w2, .int .i64 w3] _ (fun z hz => (HXs.out z hz).2) Try.underlying47 rfl (by kernel_rfl)) ?_ (hi := rfl)
  try go_frame
  have hA := (HTs.out wd hHeld).1
  refine tr 3 (fun K hK => ?_)
  go_simp
  refine hA.mono ?_
  rintro e v1w ⟨v1, rfl, h1⟩
  clear hA
  have hb9 : Below W2.heap.size W2 v1w := on2 hHeld h1.below
  go_wp2_with fail
  refine hK.out _ _ hb9 (fun hHeld2 => ?_)
  clear hb9
  clear hK K hHeld; have hHeld := hHeld2; clear hHeld2
  try go_frame
  have hA := (HTs.out v1w hHeld).2
  refine tr 7 (fun K hK => ?_)
  go_simp
  refine hA.mono ?_
  rintro e v2w ⟨v2, rfl, h2⟩
  clear hA
  have hb9 : Below W2.heap.size W2 v2w := on2 hHeld h2.below
  go_wp2_with fail
  refine hK.out _ _ hb9 (fun hHeld2 => ?_)
  clear hb9
  clear hK K hHeld; have hHeld := hHeld2; clear hHeld2
  try go_frame
  obtain ⟨la, lc, rfl, ls⟩ := (h1.wAG RInt.firm (A' := fun _ => True) (fun _ h => h.elim)).slF (bytes := 8) RInt.firm (by have h1 := HTl.out; have h2 := HLn.out; omega)
  have ls := ls.weak RInt.firm (A' := fun _ => True) (fun _ _ _ => trivial)
  obtain ⟨ka, kc, rfl, ks⟩ := (h2.wAG RInt.firm (A' := fun _ => True) (fun _ h => h.elim)).slF (bytes := 8) RInt.firm (by have h1 := HTl.out; have h2 := HLn.out; omega)
  have ks := ks.weak RInt.firm (A' := fun _ => True) (fun _ _ _ => trivial)
  have hA := SameInts_calls la M.length lc (fun _ => True) M ka M.length kc (fun _ => True) M v2w (ls.on RInt.firm h2.below) ks
  rw [show decide ((M : List Int) = M) = true from decide_eq_true rfl] at hA
  refine tr 8 (fun K hK => ?_)
  go_simp
  refine hA.mono ?_
  rintro e v3w ⟨rfl, q, hq⟩
  clear hA
  have hb9 : Below W2.heap.size W2 v3w := on2 hHeld (by rw [hq]; exact below_drewN (Below.refl _ _) _)
  clear hq
  go_wp2_with fail
  refine hK.out _ _ hb9 (fun hHeld2 => ?_)
  clear hb9 ls ks h1 h2
  clear hK K hHeld; have hHeld := hHeld2; clear hHeld2
  try go_frame
  refine' tk 9 ?_ ?_; rotate_left
  · intro z hz; clear hz; go_simp; try with_reducible rfl
  try go_frame
  have hA := works16_calls v3w
  refine tr 10 (fun K hK => ?_)
  go_simp
  refine hA.mono ?_
  rintro e v4w ⟨rfl, hq⟩
  clear hA
  have hb9 : Below W2.heap.size W2 v4w := on2 hHeld hq
  go_wp2_with fail
  refine hK.out _ _ hb9 (fun hHeld2 => ?_)
  clear hb9
  clear hK K hHeld; have hHeld := hHeld2; clear hHeld2
  try go_frame
  refine' tk 11 ?_ ?_; rotate_left
  · intro z hz; clear hz; go_simp; try with_reducible rfl
  try go_frame
  refine' tk 12 ?_ ?_; rotate_left
  · intro z hz; clear hz; go_simp; try with_reducible rfl
  try go_frame
  refine tz ?_
  have HE : Hid (Below w.heap.size w v4w) := on2 HB.out hHeld
  --M2
  go_wp2_with fail
  go_ret
  exact ⟨rfl, HE.out⟩
end Go.Proofs.Yteihniiacfghoaa
