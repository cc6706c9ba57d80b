/- kept.remove at Class, and its like. No condition beyond what each says. -/
import Derived.Test.YtopimokncibdgaaGreatQ28
namespace Go.Proofs.YtopimokncibdgaaGreat
set_option maxHeartbeats 16000000
set_option maxRecDepth 100000
open Tryz Go.RowKit
set_option linter.unusedSimpArgs false
theorem DelRowClass (w u : World) (A : Where) (v : Value) (L : List ClassD) (i : Nat) (hr : Row RClass 2 A w u 42 v L) (hi : i < L.length) :
  Calls prog 295 #[v, .int .i64 i, .int .i64 ((i : Int) + 1)] u fun e u' => ∃ v', e = .returned v' ∧ Row RClass 2 A w u' 42 v' (L.take i ++ L.drop (i + 1)) ∧ u.grownBy u' v.ownBlock ∧ v'.ownBlock = v.ownBlock := by
 obtain ⟨xs, hown, hch⟩ := hr
 refine (DelClass w.heap.size L.length i v xs u hown.2 (hch.one RClass.firm) hi).mono ?_
 rintro e u' ⟨v', rfl, h2, h3, h5⟩
 refine ⟨v', rfl, Row.grew RClass.firm hown ((hch.take i (Nat.le_of_lt hi)).append (hch.drop (i + 1))) ?_ h3 (.inl h5), h3, h5⟩
 have e1 : (L.take i ++ L.drop (i + 1)).length = L.length - 1 := by simp; omega
 rw [e1]
 exact h2
theorem Class_kremove (h0 h1 h2 h3 h4 h5 : Hd) (s : ByteArray) (x : StateD) (A : Where) (w : World) (q0 : SlAt RPod 16 296 A w h0.1 h0.2.1 h0.2.2 x.1) (q1 : SlAt RNode 9 112 A w h1.1 h1.2.1 h1.2.2 x.2.1) (q2 : SlAt RVolume 5 80 A w h2.1 h2.2.1 h2.2.2 x.2.2.1) (q3 : SlAt RClaim 4 56 A w h3.1 h3.2.1 h3.2.2 x.2.2.2.1) (q4 : SlAt RClass 2 24 A w h4.1 h4.2.1 h4.2.2 x.2.2.2.2.1) (q5 : SlAt RBudget 3 48 A w h5.1 h5.2.1 h5.2.2 x.2.2.2.2.2) : Calls prog 289 #[.agg #[.iface 152 (.agg #[])], .agg #[J h0, J h1, J h2, J h3, J h4, J h5], .string s] w fun e w' => StTup2 A w (remSClass x s) e w' := by
 have Q0 : Hid (SlAt RPod 16 296 (Lo A w) w h0.1 h0.2.1 h0.2.2 x.1) := q0.weak RPod.firm (fun b hb h => ⟨h, hb⟩)
 have Q1 : Hid (SlAt RNode 9 112 (Lo A w) w h1.1 h1.2.1 h1.2.2 x.2.1) := q1.weak RNode.firm (fun b hb h => ⟨h, hb⟩)
 have Q2 : Hid (SlAt RVolume 5 80 (Lo A w) w h2.1 h2.2.1 h2.2.2 x.2.2.1) := q2.weak RVolume.firm (fun b hb h => ⟨h, hb⟩)
 have Q3 : Hid (SlAt RClaim 4 56 (Lo A w) w h3.1 h3.2.1 h3.2.2 x.2.2.2.1) := q3.weak RClaim.firm (fun b hb h => ⟨h, hb⟩)
 have Q4 : Hid (SlAt RClass 2 24 (Lo A w) w h4.1 h4.2.1 h4.2.2 x.2.2.2.2.1) := q4.weak RClass.firm (fun b hb h => ⟨h, hb⟩)
 have Q5 : Hid (SlAt RBudget 3 48 (Lo A w) w h5.1 h5.2.1 h5.2.2 x.2.2.2.2.2) := q5.weak RBudget.firm (fun b hb h => ⟨h, hb⟩)
 obtain ⟨U0, hU0⟩ : ∃ U0, U0 = (((w.alloc (.cells #[.iface 152 (.agg #[])] 156)).alloc (.cells #[J h0, J h1, J h2, J h3, J h4, J h5] 61)).alloc (.cells #[Z, Z, Z, Z, Z, Z] 61)) := ⟨_, rfl⟩
 have HH0 : Hid (Held w [(w.heap.size + 1, [J h0, J h1, J h2, J h3, J h4, J h5]), (w.heap.size, [.iface 152 (.agg #[])])] [(w.heap.size + 1 + 1, 6)] U0) := by rw [Hid, hU0]; exact (((Held.start w).push rfl [.iface 152 (.agg #[])] 156).push (by simp) [J h0, J h1, J h2, J h3, J h4, J h5] 61).room (by simp) #[Z, Z, Z, Z, Z, Z] 61
 have HU : Hid (U0.heap.size = w.heap.size + 1 + 1 + 1) := by rw [Hid, hU0]; simp
 have HBY : Hid (x.2.2.2.2.1.length * 24 ≤ 140737488351232) := by rw [Hid, q4.1]; exact q4.2.2.2.1
 clear q0 q1 q2 q3 q4 q5
 go_enter func289, ntmps289
 go_wp2_with fail
 rw [← hU0]
 clear hU0
 refine (own_calls h0 h1 h2 h3 h4 h5 (Lo A w) x U0 (Q0.out.kept RPod.firm (Kept.below HH0.out.below)) (Q1.out.kept RNode.firm (Kept.below HH0.out.below)) (Q2.out.kept RVolume.firm (Kept.below HH0.out.below)) (Q3.out.kept RClaim.firm (Kept.below HH0.out.below)) (Q4.out.kept RClass.firm (Kept.below HH0.out.below)) (Q5.out.kept RBudget.firm (Kept.below HH0.out.below))).mono ?_
 rintro e u1 ⟨g0, g1, g2, g3, g4, g5, rfl, hos, hb1⟩
 have HOS1 : Hid (OwnSt (Lo A w) w u1 (J g0) (J g1) (J g2) (J g3) (J g4) (J g5) x) := hos.from HH0.out.below (fun b h => h.1)
 have HLB : Hid (∀ b, OwnB (J g0) (J g1) (J g2) (J g3) (J g4) (J g5) b → w.heap.size + 1 + 1 < b) := fun b hb => by have h := (hos.lt hb).1; rw [HU.out] at h; omega
 have HF := (HH0.out.on hb1).free
 have HT1 : Hid (u1.there (w.heap.size + 1) 0 6) := HF.there 0 rfl
 obtain ⟨u2, hu2⟩ : ∃ u2, u2 = u1.setCells (w.heap.size + 1) 0 [J g0, J g1, J g2, J g3, J g4, J g5] := ⟨_, rfl⟩
 have HH2 : Hid (Held w [(w.heap.size + 1, [J g0, J g1, J g2, J g3, J g4, J g5]), (w.heap.size, [.iface 152 (.agg #[])])] [(w.heap.size + 1 + 1, 6)] u2) := by rw [Hid, hu2]; exact HF.store rfl (by simp)
 have HO2 : Hid (OwnSt (Lo A w) w u2 (J g0) (J g1) (J g2) (J g3) (J g4) (J g5) x) := by
  have hbz := HH2.out.below
  rw [hu2] at hbz
  rw [Hid, hu2]
  exact HOS1.out.kept hbz (kept_setCells (fun h => by rcases h with h | h; exact absurd h.2 (by omega); have := HLB.out _ h; omega))
 have HU2 : Hid (u2 = u1.setCells (w.heap.size + 1) 0 [J g0, J g1, J g2, J g3, J g4, J g5]) := hu2
 have HRG2 : Hid (u2.rangeAt (w.heap.size + 1) 0 [J g0, J g1, J g2, J g3, J g4, J g5]) := HH2.out.get 0 rfl
 have k0 := HH2.out.cell 1 (b := w.heap.size) rfl 0 rfl
 have kl0 := HH2.out.lt 1 (b := w.heap.size) rfl
 clear hu2 HF hos hb1 HOS1 HH0 HU Q0 Q1 Q2 Q3 Q4 Q5
 go_wp2_with (first | (refine wpList_store_mid rfl 61 _ _ rfl (w.heap.size + 1) 0 #[J g0, J g1, J g2, J g3, J g4, J g5] rfl rfl HT1.out infoSta (by simp [Value.oneCell']) ?_; refine wpl_at HU2.out ?_) | (refine wpList_load_mid rfl 61 _ rfl (w.heap.size + 1) 0 rfl [J g0, J g1, J g2, J g3, J g4, J g5] _ HRG2.out underlying61 rfl infoSta ?_) | fail)
 clear HT1 HU2 k0 kl0 HRG2
 refine (Class_list (J g0) (J g1) (J g2) (J g3) (J g4) (J g5) _).mono ?_
 rintro e u3 ⟨rfl, hb3⟩
 have HH3 : Hid (Held w [(w.heap.size + 1, [J g0, J g1, J g2, J g3, J g4, J g5]), (w.heap.size, [.iface 152 (.agg #[])])] [(w.heap.size + 1 + 1, 6)] u3) := HH2.out.on hb3
 have HO3 : Hid (OwnSt (Lo A w) w u3 (J g0) (J g1) (J g2) (J g3) (J g4) (J g5) x) := HO2.out.on hb3
 have k0 := HH3.out.cell 1 (b := w.heap.size) rfl 0 rfl
 have kl0 := HH3.out.lt 1 (b := w.heap.size) rfl
 clear HH2 HO2 hb3
 go_wp2_with fail
 clear k0 kl0
 refine (findrClass _ _ _ _ x.2.2.2.2.1 s _ (HO3.out.r4.slG (bytes := 24) RClass.firm HBY.out)).mono ?_
 rintro e u4 ⟨r, rfl, hfi, hb4⟩
 have HH4 : Hid (Held w [(w.heap.size + 1, [J g0, J g1, J g2, J g3, J g4, J g5]), (w.heap.size, [.iface 152 (.agg #[])])] [(w.heap.size + 1 + 1, 6)] u4) := HH3.out.on hb4
 have HO4 : Hid (OwnSt (Lo A w) w u4 (J g0) (J g1) (J g2) (J g3) (J g4) (J g5) x) := HO3.out.on hb4
 clear HH3 HO3 hb4
 have HRG4 : Hid (u4.rangeAt (w.heap.size + 1) 0 [J g0, J g1, J g2, J g3, J g4, J g5]) := HH4.out.get 0 rfl
 rcases hfi with ⟨i, hi', hy, hn, rfl⟩ | ⟨hn, rfl⟩
 ·
  have HP : Hid (remSClass x s = (withLClass x (x.2.2.2.2.1.take i ++ x.2.2.2.2.1.drop (i + 1)), true)) := by
   have hf := findIdx_is (p := fun y : ClassD => sEq y.1 s) hi' hy hn
   simp only [Hid, remSClass, remL, hf, hi', if_true]
  have HI : Hid (i < x.2.2.2.2.1.length) := hi'
  have hil : i < 9223372036854775807 := by have := HBY.out; omega
  have hw1 : IntKind.i64.wrap ((i : Int) + 1) = (i : Int) + 1 := by rw [IntKind.wrap_i64]; omega
  clear hy hn hi'
  go_wp2_with fail
  refine wp_region_noPanic ?_
  refine wp_region_held_drew (S := Held w [(w.heap.size + 1, [J g0, J g1, J g2, J g3, J g4, J g5]), (w.heap.size, [.iface 152 (.agg #[])])] [(w.heap.size + 1 + 1, 6)]) (by kernel_rfl) (HH4.out.drew) (fun hH => ?_)
  refine tp 0 ?_
  try go_frame
  refine' tk 1 ?_ ?_; rotate_left
  ·
   intro u hu; have hc0 := Held.cell hu 1 rfl 0 rfl; clear hu; go_simp; try with_reducible rfl
  try go_frame
  refine tq 2 (.agg ([J g0, J g1, J g2, J g3, J g4, J g5]).toArray) (yieldsIf_load_mid (by rfl) 61 _ rfl (w.heap.size + 1) 0 rfl ([J g0, J g1, J g2, J g3, J g4, J g5]) _ (fun u hu => Held.get hu 0 rfl) underlying61 rfl infoSta) ?_ (hi := rfl)
  try go_frame
  refine tp 3 ?_
  try go_frame
  refine tp 4 ?_
  try go_frame
  refine tp 5 ?_
  try go_frame
  refine tp 6 ?_
  try go_frame
  refine tp 8 ?_
  try go_frame
  refine tp 9 ?_
  try go_frame
  refine tr 7 (fun K hK => ?_)
  refine want_yes (by rfl) (call_enter (f := 295) (args := #[J g4, .int .i64 i, .int .i64 ((i : Int) + 1)]) (by kernel_rfl) (DelRowClass w _ _ (J g4) x.2.2.2.2.1 i (HO4.out.on (Below.refl _ _).drew).r4 HI.out) (fun e ui he => ?_))
  obtain ⟨v', rfl, hrow, hgr0, h5'⟩ := he
  have hgr : u4.grownBy ui (Value.ownBlock (J g4)) := grown_trans grown_drew hgr0
  have h5 : v'.ownBlock = Value.ownBlock (J g4) := h5'
  have hns := ns_of HO4.out.ap
  have hHi : Held w [(w.heap.size + 1, [J g0, J g1, J g2, J g3, J g4, J g5]), (w.heap.size, [.iface 152 (.agg #[])])] [(w.heap.size + 1 + 1, 6)] ui := HH4.out.grown hgr (fun b e => by have h := HLB.out b (by simp [OwnB, e]); refine ⟨by omega, fun z hz => ?_, fun y hy => ?_⟩; (simp only [List.mem_cons, List.not_mem_nil, or_false] at hz; rcases hz with rfl | rfl <;> simp <;> omega); (simp only [List.mem_cons, List.not_mem_nil, or_false] at hy; subst hy; simp; omega))
  have hbi := hHi.below
  have hosn : OwnSt (Lo A w) w ui (J g0) (J g1) (J g2) (J g3) v' (J g5) (withLClass x (x.2.2.2.2.1.take i ++ x.2.2.2.2.1.drop (i + 1))) := ⟨HO4.out.r0.kept RPod.firm hbi (Kept.grown hgr (fun b e h => by rcases h with h | h; exact absurd h.2 (by have := HLB.out b (by simp [OwnB, e]); omega); exact hns.2.2.2.1 b h e)), HO4.out.r1.kept RNode.firm hbi (Kept.grown hgr (fun b e h => by rcases h with h | h; exact absurd h.2 (by have := HLB.out b (by simp [OwnB, e]); omega); exact hns.2.2.2.2.2.2.2.1 b h e)), HO4.out.r2.kept RVolume.firm hbi (Kept.grown hgr (fun b e h => by rcases h with h | h; exact absurd h.2 (by have := HLB.out b (by simp [OwnB, e]); omega); exact hns.2.2.2.2.2.2.2.2.2.2.1 b h e)), HO4.out.r3.kept RClaim.firm hbi (Kept.grown hgr (fun b e h => by rcases h with h | h; exact absurd h.2 (by have := HLB.out b (by simp [OwnB, e]); omega); exact hns.2.2.2.2.2.2.2.2.2.2.2.2.1 b h e)), hrow, HO4.out.r5.kept RBudget.firm hbi (Kept.grown hgr (fun b e h => by rcases h with h | h; exact absurd h.2 (by have := HLB.out b (by simp [OwnB, e]); omega); exact hns.2.2.2.2.2.2.2.2.2.2.2.2.2.2 b e h)), pair6 (hns.1) (hns.2.1) (hns.2.2.1) (fun b hb hb2 => hns.2.2.2.1 b hb (h5 ▸ hb2)) (hns.2.2.2.2.1) (hns.2.2.2.2.2.1) (hns.2.2.2.2.2.2.1) (fun b hb hb2 => hns.2.2.2.2.2.2.2.1 b hb (h5 ▸ hb2)) (hns.2.2.2.2.2.2.2.2.1) (hns.2.2.2.2.2.2.2.2.2.1) (fun b hb hb2 => hns.2.2.2.2.2.2.2.2.2.2.1 b hb (h5 ▸ hb2)) (hns.2.2.2.2.2.2.2.2.2.2.2.1) (fun b hb hb2 => hns.2.2.2.2.2.2.2.2.2.2.2.2.1 b hb (h5 ▸ hb2)) (hns.2.2.2.2.2.2.2.2.2.2.2.2.2.1) (fun b hb hb2 => hns.2.2.2.2.2.2.2.2.2.2.2.2.2.2 b (h5 ▸ hb) hb2)⟩
  have HBV : Hid (∀ b, v'.ownBlock = some b → w.heap.size + 1 + 1 < b) := fun b hb => HLB.out b (by simp [OwnB, ← h5, hb])
  obtain ⟨gk, rfl, hz1⟩ := hosn.r4.hd
  clear hz1
  have HOSk : Hid (OwnSt (Lo A w) w ui (J g0) (J g1) (J g2) (J g3) (J gk) (J g5) (withLClass x (x.2.2.2.2.1.take i ++ x.2.2.2.2.1.drop (i + 1)))) := hosn
  have HBK : Hid (∀ b, OwnB (J g0) (J g1) (J g2) (J g3) (J gk) (J g5) b → w.heap.size + 1 + 1 < b) := fun b hb => by simp only [OwnB] at hb; rcases hb with hb | hb | hb | hb | hb | hb; exact HLB.out b (by simp [OwnB, hb]); exact HLB.out b (by simp [OwnB, hb]); exact HLB.out b (by simp [OwnB, hb]); exact HLB.out b (by simp [OwnB, hb]); exact HBV.out b hb; exact HLB.out b (by simp [OwnB, hb])
  clear hosn hns hrow hgr hgr0 h5 h5' HO4 HBV
  refine ⟨_, rfl, hK.out _ _ (hHi) (fun hH => ?_)⟩
  clear hK K
  try go_frame
  refine tr 10 (fun K hK => ?_)
  refine want_yes (by rfl) (call_enter (f := 282) (args := #[.agg #[], .agg #[J g0, J g1, J g2, J g3, J g4, J g5], J gk]) (by kernel_rfl) (Class_with g0 g1 g2 g3 g4 g5 gk _) (fun e uw he => ?_))
  obtain ⟨rfl, hbw⟩ := he
  have HOSn := OwnSt.on HOSk.out hbw
  clear HOSk
  have HOSk : Hid _ := HOSn
  clear HOSn
  refine ⟨_, rfl, hK.out _ _ (hH.on hbw) (fun hH => ?_)⟩
  clear hK K
  try go_frame
  first | refine tr 11 (fun K hK => ?_) | refine ts 11 (fun K hK => ?_)
  refine want_yes (by rfl) (wp_store_mid 61 _ _ rfl (w.heap.size + 1 + 1) 0 #[J g0, J g1, J g2, J g3, J gk, J g5] rfl rfl (hH.there 0 rfl) infoSta (by simp [Value.oneCell']) ?_)
  obtain ⟨u6, hu6⟩ : ∃ u6, u6 = uw.setCells (w.heap.size + 1 + 1) 0 [J g0, J g1, J g2, J g3, J gk, J g5] := ⟨_, rfl⟩
  have HT6 := hH.there 0 (b := w.heap.size + 1 + 1) rfl
  have HB6 : Hid (Below w.heap.size w u6) := by rw [Hid, hu6]; exact below_setCells hH.below (by omega)
  have HRG6 : Hid (u6.rangeAt (w.heap.size + 1 + 1) 0 [J g0, J g1, J g2, J g3, J gk, J g5]) := by rw [Hid, hu6]; exact World.rangeAt_setCells_same _ _ _ _ HT6
  have HO6 : Hid (OwnSt (Lo A w) w u6 (J g0) (J g1) (J g2) (J g3) (J gk) (J g5) (withLClass x (x.2.2.2.2.1.take i ++ x.2.2.2.2.1.drop (i + 1)))) := by (have hb6 := HB6.out; rw [hu6] at hb6; rw [Hid, hu6]; exact HOSk.out.kept hb6 (kept_setCells (fun h => by rcases h with h | h; exact absurd h.2 (by omega); have := HBK.out _ h; omega)))
  refine at_world hu6 ?_
  refine hK.out _ _ (by rw [hu6]; exact hH.wrote 0 rfl (fun z hz => by simp only [List.mem_cons, List.not_mem_nil, or_false] at hz; rcases hz with rfl | rfl <;> simp <;> omega)) (fun hH2 => ?_)
  clear hu6 HT6 HOSk HBK
  clear hK K hH; have hH := hH2; clear hH2
  try go_frame
  refine tp 12 ?_
  try go_frame
  refine wpAnyH_done (by kernel_rfl) ?_ _
  refine NoPanic.normal ?_
  go_wp2_with fail
  refine bodyPost_ret (v := .tuple #[.agg #[J g0, J g1, J g2, J g3, J gk, J g5], .bool true]) (res_cell2 (p := 6) (q := 7) (ty := 61) rfl _ _ (w.heap.size + 1 + 1) [J g0, J g1, J g2, J g3, J gk, J g5] _ _ rfl rfl HRG6.out underlying61 rfl infoSta) rfl ⟨g0, g1, g2, g3, gk, g5, by rw [HP.out], by rw [HP.out]; exact HO6.out, HB6.out⟩
 ·
  have HP : Hid (remSClass x s = (x, false)) := by
   have hf := findIdx_none (p := fun y : ClassD => sEq y.1 s) hn
   simp only [Hid, remSClass, remL, hf, Nat.lt_irrefl, if_false]
   rfl
  have HT6 : Hid (u4.there (w.heap.size + 1 + 1) 0 6) := HH4.out.there 0 rfl
  obtain ⟨u6, hu6⟩ : ∃ u6, u6 = u4.setCells (w.heap.size + 1 + 1) 0 [J g0, J g1, J g2, J g3, J g4, J g5] := ⟨_, rfl⟩
  have HB6 : Hid (Below w.heap.size w u6) := by rw [Hid, hu6]; exact below_setCells HH4.out.below (by omega)
  have HRG6 : Hid (u6.rangeAt (w.heap.size + 1 + 1) 0 [J g0, J g1, J g2, J g3, J g4, J g5]) := by rw [Hid, hu6]; exact World.rangeAt_setCells_same _ _ _ _ HT6.out
  have HO6 : Hid (OwnSt (Lo A w) w u6 (J g0) (J g1) (J g2) (J g3) (J g4) (J g5) x) := by (have hb6 := HB6.out; rw [hu6] at hb6; rw [Hid, hu6]; exact HO4.out.kept hb6 (kept_setCells (fun h => by rcases h with h | h; exact absurd h.2 (by omega); have := HLB.out _ h; omega)))
  have HU6 : Hid (u6 = u4.setCells (w.heap.size + 1 + 1) 0 [J g0, J g1, J g2, J g3, J g4, J g5]) := hu6
  clear hu6 hn HH4 HO4
  go_wp2_with (first | (refine wpList_load_mid rfl 61 _ rfl (w.heap.size + 1) 0 rfl [J g0, J g1, J g2, J g3, J g4, J g5] _ HRG4.out underlying61 rfl infoSta ?_) | (refine wpList_store_mid rfl 61 _ _ rfl (w.heap.size + 1 + 1) 0 #[J g0, J g1, J g2, J g3, J g4, J g5] rfl rfl HT6.out infoSta (by simp [Value.oneCell']) ?_; refine wpl_at HU6.out ?_) | fail)
  refine bodyPost_ret (v := .tuple #[.agg #[J g0, J g1, J g2, J g3, J g4, J g5], .bool false]) (res_cell2 (p := 6) (q := 7) (ty := 61) rfl _ _ (w.heap.size + 1 + 1) [J g0, J g1, J g2, J g3, J g4, J g5] _ _ rfl rfl HRG6.out underlying61 rfl infoSta) rfl ⟨g0, g1, g2, g3, g4, g5, by rw [HP.out], by rw [HP.out]; exact HO6.out, HB6.out⟩
theorem itBudget : (prog.info? 44).map (·.size) = some 3 := by kernel_rfl
def PredBudget (g : Nat) (lb : Array Value) (p : BudgetD → Bool) (w : World) : Prop :=
 ∀ (W : World) (cs : List Value) (x : BudgetD), Below w.heap.size w W → RBudget (fun _ => True) W cs x → Calls prog g (#[.agg cs.toArray] ++ lb) W fun e w' => e = .returned (.bool (p x)) ∧ Below W.heap.size W w'
theorem IndexBudget_calls (a : Option Addr) (n cap : Nat) (A : Where) (L : List BudgetD) (w : World) (hL : Hid (SlAt RBudget 3 48 A w a n cap L)) (p : BudgetD → Bool) (g : Nat) (lb : Array Value) (eg : ∀ args w, (callFunc g args).run prog w = .ok (.enter g args) w) (hp : Hid (PredBudget g lb p w)) :
  Calls prog 329 #[.slice a n cap, .func (.func g) #[] lb] w fun e w' => ((∃ i : Nat, i < L.length ∧ p (L.getD i default) = true ∧ (∀ j, j < i → p (L.getD j default) = false) ∧ e = .returned (.int .i64 i)) ∨ ((∀ j, j < L.length → p (L.getD j default) = false) ∧ e = .returned (.int .i64 (-1)))) ∧ Below w.heap.size w w' := by
 have hlen := hL.out.len (by decide)
 have HN : Hid (L.length = n) := hL.out.1
 go_enter func329, ntmps329
 go_wp2
 go_loopw [8] (fun i wr => ∃ k : Nat, k ≤ n ∧ i = .int .i64 k ∧ Below w.heap.size w wr ∧ Hid (∀ j, j < k → p (L.getD j default) = false)) (fun i _ => n - (intOf i).toNat)
 case atStart => exact ⟨0, Nat.zero_le _, rfl, Below.refl _ _, fun j hj => absurd hj (Nat.not_lt_zero _)⟩
 case round =>
  obtain ⟨k, hk, rfl, hbel, hall⟩ := hrel
  by_cases hlt : k < n
  ·
   obtain ⟨B, off, rfl, hB, _, cs, hr, hv⟩ := (hL.out.on RBudget.firm hbel).get hlt
   have HV : Hid (wr.rangeAt B (off + k * 3) cs) := hv
   have hi : (prog.info? 44).map (·.size) = some cs.length := by rw [RBudget.firm.len hr]; exact itBudget
   have hcall := hp.out wr cs (L.getD k default) hbel (RBudget.firm.weak hr (fun _ _ _ => trivial))
   clear hv hr
   have HG : Hid (p (L.getD k default) = false → ∀ j, j < k + 1 → p (L.getD j default) = false) := fun h j hj => by
    rcases Nat.lt_succ_iff_lt_or_eq.1 hj with h' | rfl
    ·
     exact hall.out j h'
    ·
     exact h
   have HF : Hid (p (L.getD k default) = true → ∃ i : Nat, i < L.length ∧ p (L.getD i default) = true ∧ (∀ j, j < i → p (L.getD j default) = false) ∧ Ending.returned (.int .i64 k) = .returned (.int .i64 i)) := fun h => ⟨k, by rw [HN.out]; exact hlt, h, hall.out, rfl⟩
   clear hall
   generalize L.getD k default = x at hcall HG HF
   cases hq : p x
   ·
    have HG' : Hid (∀ j, j < k + 1 → p (L.getD j default) = false) := HG.out hq
    rw [hq] at hcall
    clear HG HF hq
    go_wp2_with (first | (refine wpList_load_mid rfl 44 _ rfl B (off + k * 3) rfl cs _ HV.out underlying44 rfl hi ?_) | fail)
    refine hcall.mono ?_
    rintro e w' ⟨rfl, hb'⟩
    go_wp2_with fail
    go_roundw
    case rel => exact ⟨k + 1, by omega, by go_num, on2 hbel hb', HG'⟩
    case measure => simp [intOf]; omega
   ·
    have HF' := HF.out hq
    have HF2 : Hid (∃ i : Nat, i < L.length ∧ p (L.getD i default) = true ∧ (∀ j, j < i → p (L.getD j default) = false) ∧ Ending.returned (.int .i64 k) = .returned (.int .i64 i)) := HF'
    rw [hq] at hcall
    clear HG HF hq HF'
    go_wp2_with (first | (refine wpList_load_mid rfl 44 _ rfl B (off + k * 3) rfl cs _ HV.out underlying44 rfl hi ?_) | fail)
    refine hcall.mono ?_
    rintro e w' ⟨rfl, hb'⟩
    go_wp2_with fail
    go_ret
    exact ⟨.inl HF2.out, on2 hbel hb'⟩
  ·
   have HA : Hid (∀ j, j < L.length → p (L.getD j default) = false) := fun j hj => hall.out j (by rw [HN.out] at hj; omega)
   clear hall
   go_wp2
   go_ret
   exact ⟨.inr ⟨HA.out, rfl⟩, hbel⟩
theorem ContainsBudget_calls (a : Option Addr) (n cap : Nat) (A : Where) (L : List BudgetD) (w : World) (hL : Hid (SlAt RBudget 3 48 A w a n cap L)) (p : BudgetD → Bool) (g : Nat) (lb : Array Value) (eg : ∀ args w, (callFunc g args).run prog w = .ok (.enter g args) w) (hp : Hid (PredBudget g lb p w)) :
  Calls prog 334 #[.slice a n cap, .func (.func g) #[] lb] w fun e w' => e = .returned (.bool (L.any p)) ∧ Below w.heap.size w w' := by
 have hI := IndexBudget_calls a n cap A L w hL p g lb eg hp
 go_enter func334, ntmps334
 go_wp2_with fail
 refine hI.mono ?_
 rintro e w1 ⟨⟨i, hi, hy, _, rfl⟩ | ⟨hn, rfl⟩, hb⟩
 ·
  have HA : Hid (L.any p = true) := any_yes hi hy
  clear hy
  go_wp2_with fail
  go_ret
  exact ⟨retb HA.out.symm, hb⟩
 ·
  have HA : Hid (L.any p = false) := any_no hn
  clear hn
  go_wp2_with fail
  go_ret
  exact ⟨retb HA.out.symm, hb⟩
end Go.Proofs.YtopimokncibdgaaGreat

