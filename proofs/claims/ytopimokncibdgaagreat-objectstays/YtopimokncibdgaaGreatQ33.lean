/- kept.remove at Budget, and its like. No condition beyond what each says. -/
import Derived.Laws.Cover1
import Derived.Test.YtopimokncibdgaaGreatQ32
namespace Go.Proofs.YtopimokncibdgaaGreat
set_option maxHeartbeats 16000000
set_option maxRecDepth 100000
open Tryz Go.RowKit
set_option linter.unusedSimpArgs false
theorem DelRowBudget (w u : World) (A : Where) (v : Value) (L : List BudgetD) (i : Nat) (hr : Row RBudget 3 A w u 44 v L) (hi : i < L.length) :
  Calls prog 326 #[v, .int .i64 i, .int .i64 ((i : Int) + 1)] u fun e u' => ∃ v', e = .returned v' ∧ Row RBudget 3 A w u' 44 v' (L.take i ++ L.drop (i + 1)) ∧ u.grownBy u' v.ownBlock ∧ v'.ownBlock = v.ownBlock := by
 obtain ⟨xs, hown, hch⟩ := hr
 refine (DelBudget w.heap.size L.length i v xs u hown.2 (hch.one RBudget.firm) hi).mono ?_
 rintro e u' ⟨v', rfl, h2, h3, h5⟩
 refine ⟨v', rfl, Row.grew RBudget.firm hown ((hch.take i (Nat.le_of_lt hi)).append (hch.drop (i + 1))) ?_ h3 (.inl h5), h3, h5⟩
 have e1 : (L.take i ++ L.drop (i + 1)).length = L.length - 1 := by simp; omega
 rw [e1]
 exact h2
theorem Budget_kremove (h0 h1 h2 h3 h4 h5 : Hd) (s : ByteArray) (x : StateD) (A : Where) (w : World) (q0 : SlAt RPod 16 296 A w h0.1 h0.2.1 h0.2.2 x.1) (q1 : SlAt RNode 9 112 A w h1.1 h1.2.1 h1.2.2 x.2.1) (q2 : SlAt RVolume 5 80 A w h2.1 h2.2.1 h2.2.2 x.2.2.1) (q3 : SlAt RClaim 4 56 A w h3.1 h3.2.1 h3.2.2 x.2.2.2.1) (q4 : SlAt RClass 2 24 A w h4.1 h4.2.1 h4.2.2 x.2.2.2.2.1) (q5 : SlAt RBudget 3 48 A w h5.1 h5.2.1 h5.2.2 x.2.2.2.2.2) : Calls prog 320 #[.agg #[.iface 157 (.agg #[])], .agg #[J h0, J h1, J h2, J h3, J h4, J h5], .string s] w fun e w' => StTup2 A w (remSBudget x s) e w' := by
 have Q0 : Hid (SlAt RPod 16 296 (Lo A w) w h0.1 h0.2.1 h0.2.2 x.1) := q0.weak RPod.firm (fun b hb h => ⟨h, hb⟩)
 have Q1 : Hid (SlAt RNode 9 112 (Lo A w) w h1.1 h1.2.1 h1.2.2 x.2.1) := q1.weak RNode.firm (fun b hb h => ⟨h, hb⟩)
 have Q2 : Hid (SlAt RVolume 5 80 (Lo A w) w h2.1 h2.2.1 h2.2.2 x.2.2.1) := q2.weak RVolume.firm (fun b hb h => ⟨h, hb⟩)
 have Q3 : Hid (SlAt RClaim 4 56 (Lo A w) w h3.1 h3.2.1 h3.2.2 x.2.2.2.1) := q3.weak RClaim.firm (fun b hb h => ⟨h, hb⟩)
 have Q4 : Hid (SlAt RClass 2 24 (Lo A w) w h4.1 h4.2.1 h4.2.2 x.2.2.2.2.1) := q4.weak RClass.firm (fun b hb h => ⟨h, hb⟩)
 have Q5 : Hid (SlAt RBudget 3 48 (Lo A w) w h5.1 h5.2.1 h5.2.2 x.2.2.2.2.2) := q5.weak RBudget.firm (fun b hb h => ⟨h, hb⟩)
 obtain ⟨U0, hU0⟩ : ∃ U0, U0 = (((w.alloc (.cells #[.iface 157 (.agg #[])] 161)).alloc (.cells #[J h0, J h1, J h2, J h3, J h4, J h5] 61)).alloc (.cells #[Z, Z, Z, Z, Z, Z] 61)) := ⟨_, rfl⟩
 have HH0 : Hid (Held w [(w.heap.size + 1, [J h0, J h1, J h2, J h3, J h4, J h5]), (w.heap.size, [.iface 157 (.agg #[])])] [(w.heap.size + 1 + 1, 6)] U0) := by rw [Hid, hU0]; exact (((Held.start w).push rfl [.iface 157 (.agg #[])] 161).push (by simp) [J h0, J h1, J h2, J h3, J h4, J h5] 61).room (by simp) #[Z, Z, Z, Z, Z, Z] 61
 have HU : Hid (U0.heap.size = w.heap.size + 1 + 1 + 1) := by rw [Hid, hU0]; simp
 have HBY : Hid (x.2.2.2.2.2.length * 48 ≤ 140737488351232) := by rw [Hid, q5.1]; exact q5.2.2.2.1
 clear q0 q1 q2 q3 q4 q5
 go_enter func320, ntmps320
 go_wp2_with fail
 rw [← hU0]
 clear hU0
 refine (own_calls h0 h1 h2 h3 h4 h5 (Lo A w) x U0 (Q0.out.kept RPod.firm (Kept.below HH0.out.below)) (Q1.out.kept RNode.firm (Kept.below HH0.out.below)) (Q2.out.kept RVolume.firm (Kept.below HH0.out.below)) (Q3.out.kept RClaim.firm (Kept.below HH0.out.below)) (Q4.out.kept RClass.firm (Kept.below HH0.out.below)) (Q5.out.kept RBudget.firm (Kept.below HH0.out.below))).mono ?_
 rintro e u1 ⟨g0, g1, g2, g3, g4, g5, rfl, hos, hb1⟩
 have HOS1 : Hid (OwnSt (Lo A w) w u1 (J g0) (J g1) (J g2) (J g3) (J g4) (J g5) x) := hos.from HH0.out.below (fun b h => h.1)
 have HLB : Hid (∀ b, OwnB (J g0) (J g1) (J g2) (J g3) (J g4) (J g5) b → w.heap.size + 1 + 1 < b) := fun b hb => by have h := (hos.lt hb).1; rw [HU.out] at h; omega
 have HF := (HH0.out.on hb1).free
 have HT1 : Hid (u1.there (w.heap.size + 1) 0 6) := HF.there 0 rfl
 obtain ⟨u2, hu2⟩ : ∃ u2, u2 = u1.setCells (w.heap.size + 1) 0 [J g0, J g1, J g2, J g3, J g4, J g5] := ⟨_, rfl⟩
 have HH2 : Hid (Held w [(w.heap.size + 1, [J g0, J g1, J g2, J g3, J g4, J g5]), (w.heap.size, [.iface 157 (.agg #[])])] [(w.heap.size + 1 + 1, 6)] u2) := by rw [Hid, hu2]; exact HF.store rfl (by simp)
 have HO2 : Hid (OwnSt (Lo A w) w u2 (J g0) (J g1) (J g2) (J g3) (J g4) (J g5) x) := by
  have hbz := HH2.out.below
  rw [hu2] at hbz
  rw [Hid, hu2]
  exact HOS1.out.kept hbz (kept_setCells (fun h => by rcases h with h | h; exact absurd h.2 (by omega); have := HLB.out _ h; omega))
 have HU2 : Hid (u2 = u1.setCells (w.heap.size + 1) 0 [J g0, J g1, J g2, J g3, J g4, J g5]) := hu2
 have HRG2 : Hid (u2.rangeAt (w.heap.size + 1) 0 [J g0, J g1, J g2, J g3, J g4, J g5]) := HH2.out.get 0 rfl
 have k0 := HH2.out.cell 1 (b := w.heap.size) rfl 0 rfl
 have kl0 := HH2.out.lt 1 (b := w.heap.size) rfl
 clear hu2 HF hos hb1 HOS1 HH0 HU Q0 Q1 Q2 Q3 Q4 Q5
 go_wp2_with (first | (refine wpList_store_mid rfl 61 _ _ rfl (w.heap.size + 1) 0 #[J g0, J g1, J g2, J g3, J g4, J g5] rfl rfl HT1.out infoSta (by simp [Value.oneCell']) ?_; refine wpl_at HU2.out ?_) | (refine wpList_load_mid rfl 61 _ rfl (w.heap.size + 1) 0 rfl [J g0, J g1, J g2, J g3, J g4, J g5] _ HRG2.out underlying61 rfl infoSta ?_) | fail)
 clear HT1 HU2 k0 kl0 HRG2
 refine (Budget_list (J g0) (J g1) (J g2) (J g3) (J g4) (J g5) _).mono ?_
 rintro e u3 ⟨rfl, hb3⟩
 have HH3 : Hid (Held w [(w.heap.size + 1, [J g0, J g1, J g2, J g3, J g4, J g5]), (w.heap.size, [.iface 157 (.agg #[])])] [(w.heap.size + 1 + 1, 6)] u3) := HH2.out.on hb3
 have HO3 : Hid (OwnSt (Lo A w) w u3 (J g0) (J g1) (J g2) (J g3) (J g4) (J g5) x) := HO2.out.on hb3
 have k0 := HH3.out.cell 1 (b := w.heap.size) rfl 0 rfl
 have kl0 := HH3.out.lt 1 (b := w.heap.size) rfl
 clear HH2 HO2 hb3
 go_wp2_with fail
 clear k0 kl0
 refine (findrBudget _ _ _ _ x.2.2.2.2.2 s _ (HO3.out.r5.slG (bytes := 48) RBudget.firm HBY.out)).mono ?_
 rintro e u4 ⟨r, rfl, hfi, hb4⟩
 have HH4 : Hid (Held w [(w.heap.size + 1, [J g0, J g1, J g2, J g3, J g4, J g5]), (w.heap.size, [.iface 157 (.agg #[])])] [(w.heap.size + 1 + 1, 6)] u4) := HH3.out.on hb4
 have HO4 : Hid (OwnSt (Lo A w) w u4 (J g0) (J g1) (J g2) (J g3) (J g4) (J g5) x) := HO3.out.on hb4
 clear HH3 HO3 hb4
 have HRG4 : Hid (u4.rangeAt (w.heap.size + 1) 0 [J g0, J g1, J g2, J g3, J g4, J g5]) := HH4.out.get 0 rfl
 rcases hfi with ⟨i, hi', hy, hn, rfl⟩ | ⟨hn, rfl⟩
 ·
  have HP : Hid (remSBudget x s = (withLBudget x (x.2.2.2.2.2.take i ++ x.2.2.2.2.2.drop (i + 1)), true)) := by
   have hf := findIdx_is (p := fun y : BudgetD => sEq y.1 s) hi' hy hn
   simp only [Hid, remSBudget, remL, hf, hi', if_true]
  have HI : Hid (i < x.2.2.2.2.2.length) := hi'
  have hil : i < 9223372036854775807 := by have := HBY.out; omega
  have hw1 : IntKind.i64.wrap ((i : Int) + 1) = (i : Int) + 1 := by rw [IntKind.wrap_i64]; omega
  clear hy hn hi'
  go_wp2_with fail
  refine wp_region_noPanic ?_
  refine wp_region_held_drew (S := Held w [(w.heap.size + 1, [J g0, J g1, J g2, J g3, J g4, J g5]), (w.heap.size, [.iface 157 (.agg #[])])] [(w.heap.size + 1 + 1, 6)]) (by kernel_rfl) (HH4.out.drew) (fun hH => ?_)
  refine tp 0 ?_
  try go_frame
  refine' tk 1 ?_ ?_; rotate_left
  ·
   intro u hu; have hc0 := Held.cell hu 1 rfl 0 rfl; clear hu; go_simp; try with_reducible rfl
  try go_frame
  refine tq 2 (.agg ([J g0, J g1, J g2, J g3, J g4, J g5]).toArray) (yieldsIf_load_mid (by rfl) 61 _ rfl (w.heap.size + 1) 0 rfl ([J g0, J g1, J g2, J g3, J g4, J g5]) _ (fun u hu => Held.get hu 0 rfl) underlying61 rfl infoSta) ?_ (hi := rfl)
  try go_frame
  refine tp 3 ?_
  try go_frame
  refine tp 4 ?_
  try go_frame
  refine tp 5 ?_
  try go_frame
  refine tp 6 ?_
  try go_frame
  refine tp 8 ?_
  try go_frame
  refine tp 9 ?_
  try go_frame
  refine tr 7 (fun K hK => ?_)
  refine want_yes (by rfl) (call_enter (f := 326) (args := #[J g5, .int .i64 i, .int .i64 ((i : Int) + 1)]) (by kernel_rfl) (DelRowBudget w _ _ (J g5) x.2.2.2.2.2 i (HO4.out.on (Below.refl _ _).drew).r5 HI.out) (fun e ui he => ?_))
  obtain ⟨v', rfl, hrow, hgr0, h5'⟩ := he
  have hgr : u4.grownBy ui (Value.ownBlock (J g5)) := grown_trans grown_drew hgr0
  have h5 : v'.ownBlock = Value.ownBlock (J g5) := h5'
  have hns := ns_of HO4.out.ap
  have hHi : Held w [(w.heap.size + 1, [J g0, J g1, J g2, J g3, J g4, J g5]), (w.heap.size, [.iface 157 (.agg #[])])] [(w.heap.size + 1 + 1, 6)] ui := HH4.out.grown hgr (fun b e => by have h := HLB.out b (by simp [OwnB, e]); refine ⟨by omega, fun z hz => ?_, fun y hy => ?_⟩; (simp only [List.mem_cons, List.not_mem_nil, or_false] at hz; rcases hz with rfl | rfl <;> simp <;> omega); (simp only [List.mem_cons, List.not_mem_nil, or_false] at hy; subst hy; simp; omega))
  have hbi := hHi.below
  have hosn : OwnSt (Lo A w) w ui (J g0) (J g1) (J g2) (J g3) (J g4) v' (withLBudget x (x.2.2.2.2.2.take i ++ x.2.2.2.2.2.drop (i + 1))) := ⟨HO4.out.r0.kept RPod.firm hbi (Kept.grown hgr (fun b e h => by rcases h with h | h; exact absurd h.2 (by have := HLB.out b (by simp [OwnB, e]); omega); exact hns.2.2.2.2.1 b h e)), HO4.out.r1.kept RNode.firm hbi (Kept.grown hgr (fun b e h => by rcases h with h | h; exact absurd h.2 (by have := HLB.out b (by simp [OwnB, e]); omega); exact hns.2.2.2.2.2.2.2.2.1 b h e)), HO4.out.r2.kept RVolume.firm hbi (Kept.grown hgr (fun b e h => by rcases h with h | h; exact absurd h.2 (by have := HLB.out b (by simp [OwnB, e]); omega); exact hns.2.2.2.2.2.2.2.2.2.2.2.1 b h e)), HO4.out.r3.kept RClaim.firm hbi (Kept.grown hgr (fun b e h => by rcases h with h | h; exact absurd h.2 (by have := HLB.out b (by simp [OwnB, e]); omega); exact hns.2.2.2.2.2.2.2.2.2.2.2.2.2.1 b h e)), HO4.out.r4.kept RClass.firm hbi (Kept.grown hgr (fun b e h => by rcases h with h | h; exact absurd h.2 (by have := HLB.out b (by simp [OwnB, e]); omega); exact hns.2.2.2.2.2.2.2.2.2.2.2.2.2.2 b h e)), hrow, pair6 (hns.1) (hns.2.1) (hns.2.2.1) (hns.2.2.2.1) (fun b hb hb2 => hns.2.2.2.2.1 b hb (h5 ▸ hb2)) (hns.2.2.2.2.2.1) (hns.2.2.2.2.2.2.1) (hns.2.2.2.2.2.2.2.1) (fun b hb hb2 => hns.2.2.2.2.2.2.2.2.1 b hb (h5 ▸ hb2)) (hns.2.2.2.2.2.2.2.2.2.1) (hns.2.2.2.2.2.2.2.2.2.2.1) (fun b hb hb2 => hns.2.2.2.2.2.2.2.2.2.2.2.1 b hb (h5 ▸ hb2)) (hns.2.2.2.2.2.2.2.2.2.2.2.2.1) (fun b hb hb2 => hns.2.2.2.2.2.2.2.2.2.2.2.2.2.1 b hb (h5 ▸ hb2)) (fun b hb hb2 => hns.2.2.2.2.2.2.2.2.2.2.2.2.2.2 b hb (h5 ▸ hb2))⟩
  have HBV : Hid (∀ b, v'.ownBlock = some b → w.heap.size + 1 + 1 < b) := fun b hb => HLB.out b (by simp [OwnB, ← h5, hb])
  obtain ⟨gk, rfl, hz1⟩ := hosn.r5.hd
  clear hz1
  have HOSk : Hid (OwnSt (Lo A w) w ui (J g0) (J g1) (J g2) (J g3) (J g4) (J gk) (withLBudget x (x.2.2.2.2.2.take i ++ x.2.2.2.2.2.drop (i + 1)))) := hosn
  have HBK : Hid (∀ b, OwnB (J g0) (J g1) (J g2) (J g3) (J g4) (J gk) b → w.heap.size + 1 + 1 < b) := fun b hb => by simp only [OwnB] at hb; rcases hb with hb | hb | hb | hb | hb | hb; exact HLB.out b (by simp [OwnB, hb]); exact HLB.out b (by simp [OwnB, hb]); exact HLB.out b (by simp [OwnB, hb]); exact HLB.out b (by simp [OwnB, hb]); exact HLB.out b (by simp [OwnB, hb]); exact HBV.out b hb
  clear hosn hns hrow hgr hgr0 h5 h5' HO4 HBV
  refine ⟨_, rfl, hK.out _ _ (hHi) (fun hH => ?_)⟩
  clear hK K
  try go_frame
  refine tr 10 (fun K hK => ?_)
  refine want_yes (by rfl) (call_enter (f := 313) (args := #[.agg #[], .agg #[J g0, J g1, J g2, J g3, J g4, J g5], J gk]) (by kernel_rfl) (Budget_with g0 g1 g2 g3 g4 g5 gk _) (fun e uw he => ?_))
  obtain ⟨rfl, hbw⟩ := he
  have HOSn := OwnSt.on HOSk.out hbw
  clear HOSk
  have HOSk : Hid _ := HOSn
  clear HOSn
  refine ⟨_, rfl, hK.out _ _ (hH.on hbw) (fun hH => ?_)⟩
  clear hK K
  try go_frame
  first | refine tr 11 (fun K hK => ?_) | refine ts 11 (fun K hK => ?_)
  refine want_yes (by rfl) (wp_store_mid 61 _ _ rfl (w.heap.size + 1 + 1) 0 #[J g0, J g1, J g2, J g3, J g4, J gk] rfl rfl (hH.there 0 rfl) infoSta (by simp [Value.oneCell']) ?_)
  obtain ⟨u6, hu6⟩ : ∃ u6, u6 = uw.setCells (w.heap.size + 1 + 1) 0 [J g0, J g1, J g2, J g3, J g4, J gk] := ⟨_, rfl⟩
  have HT6 := hH.there 0 (b := w.heap.size + 1 + 1) rfl
  have HB6 : Hid (Below w.heap.size w u6) := by rw [Hid, hu6]; exact below_setCells hH.below (by omega)
  have HRG6 : Hid (u6.rangeAt (w.heap.size + 1 + 1) 0 [J g0, J g1, J g2, J g3, J g4, J gk]) := by rw [Hid, hu6]; exact World.rangeAt_setCells_same _ _ _ _ HT6
  have HO6 : Hid (OwnSt (Lo A w) w u6 (J g0) (J g1) (J g2) (J g3) (J g4) (J gk) (withLBudget x (x.2.2.2.2.2.take i ++ x.2.2.2.2.2.drop (i + 1)))) := by (have hb6 := HB6.out; rw [hu6] at hb6; rw [Hid, hu6]; exact HOSk.out.kept hb6 (kept_setCells (fun h => by rcases h with h | h; exact absurd h.2 (by omega); have := HBK.out _ h; omega)))
  refine at_world hu6 ?_
  refine hK.out _ _ (by rw [hu6]; exact hH.wrote 0 rfl (fun z hz => by simp only [List.mem_cons, List.not_mem_nil, or_false] at hz; rcases hz with rfl | rfl <;> simp <;> omega)) (fun hH2 => ?_)
  clear hu6 HT6 HOSk HBK
  clear hK K hH; have hH := hH2; clear hH2
  try go_frame
  refine tp 12 ?_
  try go_frame
  refine wpAnyH_done (by kernel_rfl) ?_ _
  refine NoPanic.normal ?_
  go_wp2_with fail
  refine bodyPost_ret (v := .tuple #[.agg #[J g0, J g1, J g2, J g3, J g4, J gk], .bool true]) (res_cell2 (p := 6) (q := 7) (ty := 61) rfl _ _ (w.heap.size + 1 + 1) [J g0, J g1, J g2, J g3, J g4, J gk] _ _ rfl rfl HRG6.out underlying61 rfl infoSta) rfl ⟨g0, g1, g2, g3, g4, gk, by rw [HP.out], by rw [HP.out]; exact HO6.out, HB6.out⟩
 ·
  have HP : Hid (remSBudget x s = (x, false)) := by
   have hf := findIdx_none (p := fun y : BudgetD => sEq y.1 s) hn
   simp only [Hid, remSBudget, remL, hf, Nat.lt_irrefl, if_false]
   rfl
  have HT6 : Hid (u4.there (w.heap.size + 1 + 1) 0 6) := HH4.out.there 0 rfl
  obtain ⟨u6, hu6⟩ : ∃ u6, u6 = u4.setCells (w.heap.size + 1 + 1) 0 [J g0, J g1, J g2, J g3, J g4, J g5] := ⟨_, rfl⟩
  have HB6 : Hid (Below w.heap.size w u6) := by rw [Hid, hu6]; exact below_setCells HH4.out.below (by omega)
  have HRG6 : Hid (u6.rangeAt (w.heap.size + 1 + 1) 0 [J g0, J g1, J g2, J g3, J g4, J g5]) := by rw [Hid, hu6]; exact World.rangeAt_setCells_same _ _ _ _ HT6.out
  have HO6 : Hid (OwnSt (Lo A w) w u6 (J g0) (J g1) (J g2) (J g3) (J g4) (J g5) x) := by (have hb6 := HB6.out; rw [hu6] at hb6; rw [Hid, hu6]; exact HO4.out.kept hb6 (kept_setCells (fun h => by rcases h with h | h; exact absurd h.2 (by omega); have := HLB.out _ h; omega)))
  have HU6 : Hid (u6 = u4.setCells (w.heap.size + 1 + 1) 0 [J g0, J g1, J g2, J g3, J g4, J g5]) := hu6
  clear hu6 hn HH4 HO4
  go_wp2_with (first | (refine wpList_load_mid rfl 61 _ rfl (w.heap.size + 1) 0 rfl [J g0, J g1, J g2, J g3, J g4, J g5] _ HRG4.out underlying61 rfl infoSta ?_) | (refine wpList_store_mid rfl 61 _ _ rfl (w.heap.size + 1 + 1) 0 #[J g0, J g1, J g2, J g3, J g4, J g5] rfl rfl HT6.out infoSta (by simp [Value.oneCell']) ?_; refine wpl_at HU6.out ?_) | fail)
  refine bodyPost_ret (v := .tuple #[.agg #[J g0, J g1, J g2, J g3, J g4, J g5], .bool false]) (res_cell2 (p := 6) (q := 7) (ty := 61) rfl _ _ (w.heap.size + 1 + 1) [J g0, J g1, J g2, J g3, J g4, J g5] _ _ rfl rfl HRG6.out underlying61 rfl infoSta) rfl ⟨g0, g1, g2, g3, g4, g5, by rw [HP.out], by rw [HP.out]; exact HO6.out, HB6.out⟩
theorem risingPod_calls (s : String) (hm : ∀ w, (method 406 132 (.agg #[]) s).run prog w = .ok (96, .agg #[]) w) (a : Option Addr) (n cap : Nat) (A : Where) (L : List PodD) (w : World) (hL : Hid (SlAt RPod 16 296 A w a n cap L)) : Calls prog 167 #[.slice a n cap, .func (.method s) #[.iface 132 (.agg #[])] #[]] w fun e w' => e = .returned (.bool (risesBy sLt (fun x => x.1) L)) ∧ Below w.heap.size w w' := by
 have hlen := hL.out.len (by decide)
 have HN : Hid (L.length = n) := hL.out.1
 go_enter func167, ntmps167
 go_wp2
 go_loopw [5] (fun i wr => ∃ k : Nat, 1 ≤ k ∧ (k ≤ n ∨ k = 1) ∧ i = .int .i64 k ∧ Below w.heap.size w wr ∧ Hid (∀ j, j < k → (decide (j = 0) || sLt ((fun x => x.1) (L.getD (j - 1) default)) ((fun x => x.1) (L.getD j default))) = true)) (fun i _ => n - (intOf i).toNat)
 case atStart => exact ⟨1, Nat.le_refl _, .inr rfl, rfl, Below.refl _ _, fun j hj => (by have h0 : j = 0 := (by omega); simp [h0])⟩
 case round =>
  obtain ⟨k, hk1, hk, rfl, hbel, hall⟩ := hrel
  by_cases hlt : k < n
  ·
   obtain ⟨m, hm⟩ : ∃ m, Hid (k = m + 1) := ⟨k - 1, by unfold Hid; omega⟩
   have hme := hm.out
   have hmw : IntKind.i64.wrap ((k : Int) - 1) = (m : Int) := by rw [hme]; simp only [Int.natCast_add, Int.cast_ofNat_Int, Int.add_sub_cancel]; simp [IntKind.wrap, IntKind.bits, IntKind.signed]; omega
   have hml : m < n := by omega
   have hkm : k - 1 = m := by omega
   obtain ⟨B, off, ea, hB, _, ds, hrd, hvd⟩ := (hL.out.on RPod.firm hbel).get hlt
   obtain ⟨B', off', ea', _, _, cs, hrc, hvc⟩ := (hL.out.on RPod.firm hbel).get hml
   rw [ea] at ea'
   obtain ⟨rfl, rfl⟩ : B = B' ∧ off = off' := by simpa using ea'
   subst ea
   have HBW : Hid (B < wr.heap.size) := hB
   have hltz : (k : Int) < (n : Int) := by omega
   have hmlz : (m : Int) < (n : Int) := by omega
   have HC : Hid (wr.rangeAt B (off + m * 16) cs) := hvc
   have HD : Hid (wr.rangeAt B (off + k * 16) ds) := hvd
   have hci : (prog.info? 33).map (·.size) = some cs.length := by rw [RPod.firm.len hrc]; exact itPod
   have hdi : (prog.info? 33).map (·.size) = some ds.length := by rw [RPod.firm.len hrd]; exact itPod
   have HRc : Hid (RPod A wr cs (L.getD m default)) := hrc
   have HRd : Hid (RPod A wr ds (L.getD k default)) := hrd
   have hbad : Hid (sLt ((fun x => x.1) (L.getD m default)) ((fun x => x.1) (L.getD k default)) = false → risesBy sLt (fun x => x.1) L = false) := fun h => allTo_false (k := k) (by rw [HN.out]; exact hlt) (by rw [hkm, h]; simp; omega)
   have hgo : Hid (sLt ((fun x => x.1) (L.getD m default)) ((fun x => x.1) (L.getD k default)) = true → ∀ j, j < k + 1 → (decide (j = 0) || sLt ((fun x => x.1) (L.getD (j - 1) default)) ((fun x => x.1) (L.getD j default))) = true) := fun h j hj => by
    rcases Nat.lt_succ_iff_lt_or_eq.1 hj with h' | rfl
    ·
     exact hall.out j h'
    ·
     rw [hkm, h]; simp
   clear hall hvc hvd hrc hrd hme hkm ea'
   generalize L.getD m default = x at hbad hgo HRc
   generalize L.getD k default = y at hbad hgo HRd
   cases hc : sLt ((fun x => x.1) x) ((fun x => x.1) y)
   ·
    have HF : Hid (risesBy sLt (fun x => x.1) L = false) := hbad.out hc
    simp only [sLt] at hc
    clear hbad hgo
    go_wp2_with fail
    refine wp_region_noPanic ?_
    refine wp_region_held_drew (S := fun u => Below wr.heap.size wr u ∧ u.rangeAt B (off + m * 16) cs ∧ u.rangeAt B (off + k * 16) ds) (by kernel_rfl) (⟨(Below.refl _ _).drew, HC.out, HD.out⟩) (fun hH => ?_)
    refine tp 0 ?_
    try go_frame
    refine tp 1 ?_
    try go_frame
    refine tp 2 ?_
    try go_frame
    refine tp 3 ?_
    try go_frame
    refine tp 4 ?_
    try go_frame
    refine tq 5 (.agg cs.toArray) (yieldsIf_load_mid (by rfl) 33 _ rfl B (off + m * 16) rfl cs _ (fun u hu => hu.2.1) underlying33 rfl hci) ?_ (hi := rfl)
    try go_frame
    refine tp 7 ?_
    try go_frame
    refine tp 8 ?_
    try go_frame
    refine tp 9 ?_
    try go_frame
    refine tp 10 ?_
    try go_frame
    refine tq 11 (.agg ds.toArray) (yieldsIf_load_mid (by rfl) 33 _ rfl B (off + k * 16) rfl ds _ (fun u hu => hu.2.2) underlying33 rfl hdi) ?_ (hi := rfl)
    try go_frame
    refine tr 6 (fun K hK => ?_)
    refine want_yes (by rfl) (call_enter (f := 96) (args := #[.agg #[], .agg cs.toArray]) (by go_simp) (Pod_named cs A x _ (RPod.firm.kept HRc.out (Kept.below hH.1))) (fun e u1 he => ?_))
    obtain ⟨rfl, hb1⟩ := he
    refine ⟨_, rfl, hK.out _ _ (⟨on2 hH.1 hb1, range_on hH.2.1 hb1 (Nat.lt_of_lt_of_le HBW.out hH.1.size), range_on hH.2.2 hb1 (Nat.lt_of_lt_of_le HBW.out hH.1.size)⟩) (fun hH => ?_)⟩
    clear hK K
    try go_frame
    refine tr 12 (fun K hK => ?_)
    refine want_yes (by rfl) (call_enter (f := 96) (args := #[.agg #[], .agg ds.toArray]) (by go_simp) (Pod_named ds A y _ (RPod.firm.kept HRd.out (Kept.below hH.1))) (fun e u1 he => ?_))
    obtain ⟨rfl, hb1⟩ := he
    have HB2 : Hid (Below wr.heap.size wr u1) := on2 hH.1 hb1
    refine ⟨_, rfl, hK.out _ _ (⟨on2 hH.1 hb1, range_on hH.2.1 hb1 (Nat.lt_of_lt_of_le HBW.out hH.1.size), range_on hH.2.2 hb1 (Nat.lt_of_lt_of_le HBW.out hH.1.size)⟩) (fun hH => ?_)⟩
    clear hK K
    try go_frame
    refine tp 13 ?_
    try go_frame
    refine wpAnyH_done (by kernel_rfl) ?_ _
    refine NoPanic.normal ?_
    skip
    go_wp2_with fail
    go_ret
    exact ⟨retb HF.out.symm, on2 hbel HB2.out⟩
   ·
    have HG := hgo.out hc
    have HG2 : Hid (∀ j, j < k + 1 → (decide (j = 0) || sLt ((fun x => x.1) (L.getD (j - 1) default)) ((fun x => x.1) (L.getD j default))) = true) := HG
    simp only [sLt] at hc
    clear hbad hgo HG
    go_wp2_with fail
    refine wp_region_noPanic ?_
    refine wp_region_held_drew (S := fun u => Below wr.heap.size wr u ∧ u.rangeAt B (off + m * 16) cs ∧ u.rangeAt B (off + k * 16) ds) (by kernel_rfl) (⟨(Below.refl _ _).drew, HC.out, HD.out⟩) (fun hH => ?_)
    refine tp 0 ?_
    try go_frame
    refine tp 1 ?_
    try go_frame
    refine tp 2 ?_
    try go_frame
    refine tp 3 ?_
    try go_frame
    refine tp 4 ?_
    try go_frame
    refine tq 5 (.agg cs.toArray) (yieldsIf_load_mid (by rfl) 33 _ rfl B (off + m * 16) rfl cs _ (fun u hu => hu.2.1) underlying33 rfl hci) ?_ (hi := rfl)
    try go_frame
    refine tp 7 ?_
    try go_frame
    refine tp 8 ?_
    try go_frame
    refine tp 9 ?_
    try go_frame
    refine tp 10 ?_
    try go_frame
    refine tq 11 (.agg ds.toArray) (yieldsIf_load_mid (by rfl) 33 _ rfl B (off + k * 16) rfl ds _ (fun u hu => hu.2.2) underlying33 rfl hdi) ?_ (hi := rfl)
    try go_frame
    refine tr 6 (fun K hK => ?_)
    refine want_yes (by rfl) (call_enter (f := 96) (args := #[.agg #[], .agg cs.toArray]) (by go_simp) (Pod_named cs A x _ (RPod.firm.kept HRc.out (Kept.below hH.1))) (fun e u1 he => ?_))
    obtain ⟨rfl, hb1⟩ := he
    refine ⟨_, rfl, hK.out _ _ (⟨on2 hH.1 hb1, range_on hH.2.1 hb1 (Nat.lt_of_lt_of_le HBW.out hH.1.size), range_on hH.2.2 hb1 (Nat.lt_of_lt_of_le HBW.out hH.1.size)⟩) (fun hH => ?_)⟩
    clear hK K
    try go_frame
    refine tr 12 (fun K hK => ?_)
    refine want_yes (by rfl) (call_enter (f := 96) (args := #[.agg #[], .agg ds.toArray]) (by go_simp) (Pod_named ds A y _ (RPod.firm.kept HRd.out (Kept.below hH.1))) (fun e u1 he => ?_))
    obtain ⟨rfl, hb1⟩ := he
    have HB2 : Hid (Below wr.heap.size wr u1) := on2 hH.1 hb1
    refine ⟨_, rfl, hK.out _ _ (⟨on2 hH.1 hb1, range_on hH.2.1 hb1 (Nat.lt_of_lt_of_le HBW.out hH.1.size), range_on hH.2.2 hb1 (Nat.lt_of_lt_of_le HBW.out hH.1.size)⟩) (fun hH => ?_)⟩
    clear hK K
    try go_frame
    refine tp 13 ?_
    try go_frame
    refine wpAnyH_done (by kernel_rfl) ?_ _
    refine NoPanic.normal ?_
    skip
    go_wp2_with fail
    go_roundw
    case rel => exact ⟨k + 1, by omega, .inl (by omega), by go_num, on2 hbel HB2.out, HG2⟩
    case measure => simp [intOf]; omega
  ·
   have HF : Hid (risesBy sLt (fun x => x.1) L = true) := allTo_true (fun j hj => hall.out j (by rw [HN.out] at hj; omega))
   clear hall
   go_wp2
   go_ret
   exact ⟨retb HF.out.symm, hbel⟩
theorem Pod_krightIn (h0 h1 h2 h3 h4 h5 : Hd) (A : Where) (L : List PodD) (w : World) (h : Hid (SlAt RPod 16 296 A w h0.1 h0.2.1 h0.2.2 L)) : Calls prog 161 #[.agg #[.iface 132 (.agg #[])], .agg #[J h0, J h1, J h2, J h3, J h4, J h5]] w fun e w' => e = .returned (.bool (L.all rightPod && risesBy sLt (fun x => x.1) L)) ∧ Below w.heap.size w w' := by
 have hL := Pod_list (J h0) (J h1) (J h2) (J h3) (J h4) (J h5)
 have HH0 : Hid (Held w [(w.heap.size + 1, [J h0, J h1, J h2, J h3, J h4, J h5]), (w.heap.size, [.iface 132 (.agg #[])])] [] ((w.alloc (.cells #[.iface 132 (.agg #[])] 136)).alloc (.cells #[J h0, J h1, J h2, J h3, J h4, J h5] 61))) := ((Held.start w).push rfl [.iface 132 (.agg #[])] 136).push (by simp) [J h0, J h1, J h2, J h3, J h4, J h5] 61
 obtain ⟨r, hr⟩ : ∃ r, L.all rightPod = r := ⟨_, rfl⟩
 obtain ⟨q, hq⟩ : ∃ q, risesBy sLt (fun x : PodD => x.1) L = q := ⟨_, rfl⟩
 have HF : Hid ((L.all rightPod && risesBy sLt (fun x : PodD => x.1) L) = (r && q)) := by rw [Hid, hr, hq]
 have HA : Hid (∀ s, (∀ w, (method 406 132 (.agg #[]) s).run prog w = .ok (97, .agg #[]) w) → ∀ u, Below w.heap.size w u → Calls prog 166 #[J h0, .func (.method s) #[.iface 132 (.agg #[])] #[]] u fun e w' => e = .returned (.bool r) ∧ Below u.heap.size u w') := fun s hm u hu => by rw [← hr]; exact allRightPod_calls s hm _ _ _ A L u (h.out.kept RPod.firm (Kept.below hu))
 have HB : Hid (∀ s, (∀ w, (method 406 132 (.agg #[]) s).run prog w = .ok (96, .agg #[]) w) → ∀ u, Below w.heap.size w u → Calls prog 167 #[J h0, .func (.method s) #[.iface 132 (.agg #[])] #[]] u fun e w' => e = .returned (.bool q) ∧ Below u.heap.size u w') := fun s hm u hu => by rw [← hq]; exact risingPod_calls s hm _ _ _ A L u (h.out.kept RPod.firm (Kept.below hu))
 clear hr hq h
 go_enter func161, ntmps161
 go_wp2_with fail
 refine (hL _).mono ?_
 rintro e w1 ⟨rfl, hb1⟩
 have HH1 : Hid (Held w [(w.heap.size + 1, [J h0, J h1, J h2, J h3, J h4, J h5]), (w.heap.size, [.iface 132 (.agg #[])])] [] w1) := HH0.out.on hb1
 have k0 := HH1.out.cell 1 (b := w.heap.size) rfl 0 rfl
 have kl0 := HH1.out.lt 1 (b := w.heap.size) rfl
 clear HH0 hb1 hL
 go_wp2_with fail
 clear k0 kl0
 refine (HA.out _ (fun _ => by kernel_rfl) _ HH1.out.below).mono ?_
 rintro e w2 ⟨rfl, hb2⟩
 have HH2 : Hid (Held w [(w.heap.size + 1, [J h0, J h1, J h2, J h3, J h4, J h5]), (w.heap.size, [.iface 132 (.agg #[])])] [] w2) := HH1.out.on hb2
 clear HH1 hb2 HA
 cases r
 ·
  go_wp2_with fail
  go_ret
  exact ⟨retb (by rw [HF.out] <;> simp), HH2.out.below⟩
 ·
  have k0 := HH2.out.cell 1 (b := w.heap.size) rfl 0 rfl
  have kl0 := HH2.out.lt 1 (b := w.heap.size) rfl
  go_wp2_with fail
  clear k0 kl0
  refine (HB.out _ (fun _ => by kernel_rfl) _ HH2.out.below).mono ?_
  rintro e w3 ⟨rfl, hb3⟩
  go_wp2_with fail
  go_ret
  exact ⟨retb (by rw [HF.out] <;> simp), on2 HH2.out.below hb3⟩
theorem risingNode_calls (s : String) (hm : ∀ w, (method 406 137 (.agg #[]) s).run prog w = .ok (180, .agg #[]) w) (a : Option Addr) (n cap : Nat) (A : Where) (L : List NodeD) (w : World) (hL : Hid (SlAt RNode 9 112 A w a n cap L)) : Calls prog 204 #[.slice a n cap, .func (.method s) #[.iface 137 (.agg #[])] #[]] w fun e w' => e = .returned (.bool (risesBy sLt (fun x => x.1) L)) ∧ Below w.heap.size w w' := by
 have hlen := hL.out.len (by decide)
 have HN : Hid (L.length = n) := hL.out.1
 go_enter func204, ntmps204
 go_wp2
 go_loopw [5] (fun i wr => ∃ k : Nat, 1 ≤ k ∧ (k ≤ n ∨ k = 1) ∧ i = .int .i64 k ∧ Below w.heap.size w wr ∧ Hid (∀ j, j < k → (decide (j = 0) || sLt ((fun x => x.1) (L.getD (j - 1) default)) ((fun x => x.1) (L.getD j default))) = true)) (fun i _ => n - (intOf i).toNat)
 case atStart => exact ⟨1, Nat.le_refl _, .inr rfl, rfl, Below.refl _ _, fun j hj => (by have h0 : j = 0 := (by omega); simp [h0])⟩
 case round =>
  obtain ⟨k, hk1, hk, rfl, hbel, hall⟩ := hrel
  by_cases hlt : k < n
  ·
   obtain ⟨m, hm⟩ : ∃ m, Hid (k = m + 1) := ⟨k - 1, by unfold Hid; omega⟩
   have hme := hm.out
   have hmw : IntKind.i64.wrap ((k : Int) - 1) = (m : Int) := by rw [hme]; simp only [Int.natCast_add, Int.cast_ofNat_Int, Int.add_sub_cancel]; simp [IntKind.wrap, IntKind.bits, IntKind.signed]; omega
   have hml : m < n := by omega
   have hkm : k - 1 = m := by omega
   obtain ⟨B, off, ea, hB, _, ds, hrd, hvd⟩ := (hL.out.on RNode.firm hbel).get hlt
   obtain ⟨B', off', ea', _, _, cs, hrc, hvc⟩ := (hL.out.on RNode.firm hbel).get hml
   rw [ea] at ea'
   obtain ⟨rfl, rfl⟩ : B = B' ∧ off = off' := by simpa using ea'
   subst ea
   have HBW : Hid (B < wr.heap.size) := hB
   have hltz : (k : Int) < (n : Int) := by omega
   have hmlz : (m : Int) < (n : Int) := by omega
   have HC : Hid (wr.rangeAt B (off + m * 9) cs) := hvc
   have HD : Hid (wr.rangeAt B (off + k * 9) ds) := hvd
   have hci : (prog.info? 36).map (·.size) = some cs.length := by rw [RNode.firm.len hrc]; exact itNode
   have hdi : (prog.info? 36).map (·.size) = some ds.length := by rw [RNode.firm.len hrd]; exact itNode
   have HRc : Hid (RNode A wr cs (L.getD m default)) := hrc
   have HRd : Hid (RNode A wr ds (L.getD k default)) := hrd
   have hbad : Hid (sLt ((fun x => x.1) (L.getD m default)) ((fun x => x.1) (L.getD k default)) = false → risesBy sLt (fun x => x.1) L = false) := fun h => allTo_false (k := k) (by rw [HN.out]; exact hlt) (by rw [hkm, h]; simp; omega)
   have hgo : Hid (sLt ((fun x => x.1) (L.getD m default)) ((fun x => x.1) (L.getD k default)) = true → ∀ j, j < k + 1 → (decide (j = 0) || sLt ((fun x => x.1) (L.getD (j - 1) default)) ((fun x => x.1) (L.getD j default))) = true) := fun h j hj => by
    rcases Nat.lt_succ_iff_lt_or_eq.1 hj with h' | rfl
    ·
     exact hall.out j h'
    ·
     rw [hkm, h]; simp
   clear hall hvc hvd hrc hrd hme hkm ea'
   generalize L.getD m default = x at hbad hgo HRc
   generalize L.getD k default = y at hbad hgo HRd
   cases hc : sLt ((fun x => x.1) x) ((fun x => x.1) y)
   ·
    have HF : Hid (risesBy sLt (fun x => x.1) L = false) := hbad.out hc
    simp only [sLt] at hc
    clear hbad hgo
    go_wp2_with fail
    refine wp_region_noPanic ?_
    refine wp_region_held_drew (S := fun u => Below wr.heap.size wr u ∧ u.rangeAt B (off + m * 9) cs ∧ u.rangeAt B (off + k * 9) ds) (by kernel_rfl) (⟨(Below.refl _ _).drew, HC.out, HD.out⟩) (fun hH => ?_)
    refine tp 0 ?_
    try go_frame
    refine tp 1 ?_
    try go_frame
    refine tp 2 ?_
    try go_frame
    refine tp 3 ?_
    try go_frame
    refine tp 4 ?_
    try go_frame
    refine tq 5 (.agg cs.toArray) (yieldsIf_load_mid (by rfl) 36 _ rfl B (off + m * 9) rfl cs _ (fun u hu => hu.2.1) underlying36 rfl hci) ?_ (hi := rfl)
    try go_frame
    refine tp 7 ?_
    try go_frame
    refine tp 8 ?_
    try go_frame
    refine tp 9 ?_
    try go_frame
    refine tp 10 ?_
    try go_frame
    refine tq 11 (.agg ds.toArray) (yieldsIf_load_mid (by rfl) 36 _ rfl B (off + k * 9) rfl ds _ (fun u hu => hu.2.2) underlying36 rfl hdi) ?_ (hi := rfl)
    try go_frame
    refine tr 6 (fun K hK => ?_)
    refine want_yes (by rfl) (call_enter (f := 180) (args := #[.agg #[], .agg cs.toArray]) (by go_simp) (Node_named cs A x _ (RNode.firm.kept HRc.out (Kept.below hH.1))) (fun e u1 he => ?_))
    obtain ⟨rfl, hb1⟩ := he
    refine ⟨_, rfl, hK.out _ _ (⟨on2 hH.1 hb1, range_on hH.2.1 hb1 (Nat.lt_of_lt_of_le HBW.out hH.1.size), range_on hH.2.2 hb1 (Nat.lt_of_lt_of_le HBW.out hH.1.size)⟩) (fun hH => ?_)⟩
    clear hK K
    try go_frame
    refine tr 12 (fun K hK => ?_)
    refine want_yes (by rfl) (call_enter (f := 180) (args := #[.agg #[], .agg ds.toArray]) (by go_simp) (Node_named ds A y _ (RNode.firm.kept HRd.out (Kept.below hH.1))) (fun e u1 he => ?_))
    obtain ⟨rfl, hb1⟩ := he
    have HB2 : Hid (Below wr.heap.size wr u1) := on2 hH.1 hb1
    refine ⟨_, rfl, hK.out _ _ (⟨on2 hH.1 hb1, range_on hH.2.1 hb1 (Nat.lt_of_lt_of_le HBW.out hH.1.size), range_on hH.2.2 hb1 (Nat.lt_of_lt_of_le HBW.out hH.1.size)⟩) (fun hH => ?_)⟩
    clear hK K
    try go_frame
    refine tp 13 ?_
    try go_frame
    refine wpAnyH_done (by kernel_rfl) ?_ _
    refine NoPanic.normal ?_
    skip
    go_wp2_with fail
    go_ret
    exact ⟨retb HF.out.symm, on2 hbel HB2.out⟩
   ·
    have HG := hgo.out hc
    have HG2 : Hid (∀ j, j < k + 1 → (decide (j = 0) || sLt ((fun x => x.1) (L.getD (j - 1) default)) ((fun x => x.1) (L.getD j default))) = true) := HG
    simp only [sLt] at hc
    clear hbad hgo HG
    go_wp2_with fail
    refine wp_region_noPanic ?_
    refine wp_region_held_drew (S := fun u => Below wr.heap.size wr u ∧ u.rangeAt B (off + m * 9) cs ∧ u.rangeAt B (off + k * 9) ds) (by kernel_rfl) (⟨(Below.refl _ _).drew, HC.out, HD.out⟩) (fun hH => ?_)
    refine tp 0 ?_
    try go_frame
    refine tp 1 ?_
    try go_frame
    refine tp 2 ?_
    try go_frame
    refine tp 3 ?_
    try go_frame
    refine tp 4 ?_
    try go_frame
    refine tq 5 (.agg cs.toArray) (yieldsIf_load_mid (by rfl) 36 _ rfl B (off + m * 9) rfl cs _ (fun u hu => hu.2.1) underlying36 rfl hci) ?_ (hi := rfl)
    try go_frame
    refine tp 7 ?_
    try go_frame
    refine tp 8 ?_
    try go_frame
    refine tp 9 ?_
    try go_frame
    refine tp 10 ?_
    try go_frame
    refine tq 11 (.agg ds.toArray) (yieldsIf_load_mid (by rfl) 36 _ rfl B (off + k * 9) rfl ds _ (fun u hu => hu.2.2) underlying36 rfl hdi) ?_ (hi := rfl)
    try go_frame
    refine tr 6 (fun K hK => ?_)
    refine want_yes (by rfl) (call_enter (f := 180) (args := #[.agg #[], .agg cs.toArray]) (by go_simp) (Node_named cs A x _ (RNode.firm.kept HRc.out (Kept.below hH.1))) (fun e u1 he => ?_))
    obtain ⟨rfl, hb1⟩ := he
    refine ⟨_, rfl, hK.out _ _ (⟨on2 hH.1 hb1, range_on hH.2.1 hb1 (Nat.lt_of_lt_of_le HBW.out hH.1.size), range_on hH.2.2 hb1 (Nat.lt_of_lt_of_le HBW.out hH.1.size)⟩) (fun hH => ?_)⟩
    clear hK K
    try go_frame
    refine tr 12 (fun K hK => ?_)
    refine want_yes (by rfl) (call_enter (f := 180) (args := #[.agg #[], .agg ds.toArray]) (by go_simp) (Node_named ds A y _ (RNode.firm.kept HRd.out (Kept.below hH.1))) (fun e u1 he => ?_))
    obtain ⟨rfl, hb1⟩ := he
    have HB2 : Hid (Below wr.heap.size wr u1) := on2 hH.1 hb1
    refine ⟨_, rfl, hK.out _ _ (⟨on2 hH.1 hb1, range_on hH.2.1 hb1 (Nat.lt_of_lt_of_le HBW.out hH.1.size), range_on hH.2.2 hb1 (Nat.lt_of_lt_of_le HBW.out hH.1.size)⟩) (fun hH => ?_)⟩
    clear hK K
    try go_frame
    refine tp 13 ?_
    try go_frame
    refine wpAnyH_done (by kernel_rfl) ?_ _
    refine NoPanic.normal ?_
    skip
    go_wp2_with fail
    go_roundw
    case rel => exact ⟨k + 1, by omega, .inl (by omega), by go_num, on2 hbel HB2.out, HG2⟩
    case measure => simp [intOf]; omega
  ·
   have HF : Hid (risesBy sLt (fun x => x.1) L = true) := allTo_true (fun j hj => hall.out j (by rw [HN.out] at hj; omega))
   clear hall
   go_wp2
   go_ret
   exact ⟨retb HF.out.symm, hbel⟩
theorem Node_krightIn (h0 h1 h2 h3 h4 h5 : Hd) (A : Where) (L : List NodeD) (w : World) (h : Hid (SlAt RNode 9 112 A w h1.1 h1.2.1 h1.2.2 L)) : Calls prog 198 #[.agg #[.iface 137 (.agg #[])], .agg #[J h0, J h1, J h2, J h3, J h4, J h5]] w fun e w' => e = .returned (.bool (L.all rightNode && risesBy sLt (fun x => x.1) L)) ∧ Below w.heap.size w w' := by
 have hL := Node_list (J h0) (J h1) (J h2) (J h3) (J h4) (J h5)
 have HH0 : Hid (Held w [(w.heap.size + 1, [J h0, J h1, J h2, J h3, J h4, J h5]), (w.heap.size, [.iface 137 (.agg #[])])] [] ((w.alloc (.cells #[.iface 137 (.agg #[])] 141)).alloc (.cells #[J h0, J h1, J h2, J h3, J h4, J h5] 61))) := ((Held.start w).push rfl [.iface 137 (.agg #[])] 141).push (by simp) [J h0, J h1, J h2, J h3, J h4, J h5] 61
 obtain ⟨r, hr⟩ : ∃ r, L.all rightNode = r := ⟨_, rfl⟩
 obtain ⟨q, hq⟩ : ∃ q, risesBy sLt (fun x : NodeD => x.1) L = q := ⟨_, rfl⟩
 have HF : Hid ((L.all rightNode && risesBy sLt (fun x : NodeD => x.1) L) = (r && q)) := by rw [Hid, hr, hq]
 have HA : Hid (∀ s, (∀ w, (method 406 137 (.agg #[]) s).run prog w = .ok (182, .agg #[]) w) → ∀ u, Below w.heap.size w u → Calls prog 203 #[J h1, .func (.method s) #[.iface 137 (.agg #[])] #[]] u fun e w' => e = .returned (.bool r) ∧ Below u.heap.size u w') := fun s hm u hu => by rw [← hr]; exact allRightNode_calls s hm _ _ _ A L u (h.out.kept RNode.firm (Kept.below hu))
 have HB : Hid (∀ s, (∀ w, (method 406 137 (.agg #[]) s).run prog w = .ok (180, .agg #[]) w) → ∀ u, Below w.heap.size w u → Calls prog 204 #[J h1, .func (.method s) #[.iface 137 (.agg #[])] #[]] u fun e w' => e = .returned (.bool q) ∧ Below u.heap.size u w') := fun s hm u hu => by rw [← hq]; exact risingNode_calls s hm _ _ _ A L u (h.out.kept RNode.firm (Kept.below hu))
 clear hr hq h
 go_enter func198, ntmps198
 go_wp2_with fail
 refine (hL _).mono ?_
 rintro e w1 ⟨rfl, hb1⟩
 have HH1 : Hid (Held w [(w.heap.size + 1, [J h0, J h1, J h2, J h3, J h4, J h5]), (w.heap.size, [.iface 137 (.agg #[])])] [] w1) := HH0.out.on hb1
 have k0 := HH1.out.cell 1 (b := w.heap.size) rfl 0 rfl
 have kl0 := HH1.out.lt 1 (b := w.heap.size) rfl
 clear HH0 hb1 hL
 go_wp2_with fail
 clear k0 kl0
 refine (HA.out _ (fun _ => by kernel_rfl) _ HH1.out.below).mono ?_
 rintro e w2 ⟨rfl, hb2⟩
 have HH2 : Hid (Held w [(w.heap.size + 1, [J h0, J h1, J h2, J h3, J h4, J h5]), (w.heap.size, [.iface 137 (.agg #[])])] [] w2) := HH1.out.on hb2
 clear HH1 hb2 HA
 cases r
 ·
  go_wp2_with fail
  go_ret
  exact ⟨retb (by rw [HF.out] <;> simp), HH2.out.below⟩
 ·
  have k0 := HH2.out.cell 1 (b := w.heap.size) rfl 0 rfl
  have kl0 := HH2.out.lt 1 (b := w.heap.size) rfl
  go_wp2_with fail
  clear k0 kl0
  refine (HB.out _ (fun _ => by kernel_rfl) _ HH2.out.below).mono ?_
  rintro e w3 ⟨rfl, hb3⟩
  go_wp2_with fail
  go_ret
  exact ⟨retb (by rw [HF.out] <;> simp), on2 HH2.out.below hb3⟩
end Go.Proofs.YtopimokncibdgaaGreat

