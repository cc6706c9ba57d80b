/- ScoreMore, walked. Condition: what is handed in lies as is said of it. -/
import Derived.Test.YteihniiacfghoaaQ18
import Derived.Test.YteihniiacfghoaaQ06
namespace Go.Proofs.Yteihniiacfghoaa
open Go.RowKit Go.Maps
set_option linter.unusedSimpArgs false
set_option maxRecDepth 100000

def reWant (y : PodD) (m : ResD) : PodD := (y.1, y.2.1, y.2.2.1, m, y.2.2.2.2)
def reUsed (x : InfoD) (m : ResD) : InfoD := (x.1, x.2.1, m, x.2.2.2.1, x.2.2.2.2)
theorem RPod.reWant {A : Where} {w : World} {ds : List Value} {y : PodD} (h : RPod A w ds y) (m : ResD) : RPod A w (((ds.set 3 (.int .i64 m.1)).set 4 (.int .i64 m.2.1)).set 5 (.int .i64 m.2.2)) (reWant y m) := by
  obtain ⟨h2, h6, h7, h8, h9, h10, h11, h12, h13, rfl, p0, p1, p2, p3, p4, p5, p6, p7, p8, p9, p10, p11⟩ := h.out
  exact RPod.mk (x := Go.Proofs.Yteihniiacfghoaa.reWant y m) (h2 := h2) (h6 := h6) (h7 := h7) (h8 := h8) (h9 := h9) (h10 := h10) (h11 := h11) (h12 := h12) (h13 := h13) p0 p1 p2 p3 p4 p5 p6 p7 p8 p9 p10 p11
theorem RInfo.reUsed {A : Where} {w : World} {cs : List Value} {x : InfoD} (h : RInfo A w cs x) (m : ResD) : RInfo A w (((cs.set 10 (.int .i64 m.1)).set 11 (.int .i64 m.2.1)).set 12 (.int .i64 m.2.2)) (reUsed x m) := by
  obtain ⟨h1, h2, h9, h13, h14, rfl, p0, p1, p2, p3, p4, p5⟩ := h.out
  exact RInfo.mk (x := Go.Proofs.Yteihniiacfghoaa.reUsed x m) (h1 := h1) (h2 := h2) (h9 := h9) (h13 := h13) (h14 := h14) p0 p1 p2 p3 p4 p5
theorem more_used (y : PodD) (x : InfoD) (m : ResD) : leastP y (reUsed x (plusR x.2.2.1 m)) ≤ leastP y x := half_mono (least1_used _ _ _ _) (least1_used _ _ _ _)
theorem more_want (y : PodD) (x : InfoD) (m : ResD) : leastP (reWant y (plusR (pWant y) m)) x ≤ leastP y x := half_mono (least1_want _ _ _ _) (least1_want _ _ _ _)
def MrT (w : World) (D E : Nat) (P I Q J : List Value) (u : World) : Prop := BoxL u w.heap.size P ∧ BoxL u (w.heap.size + 1) I ∧ BoxL u D Q ∧ BoxL u E J
def MrS (w : World) (P I : List Value) (u : World) : Prop := BoxL u w.heap.size P ∧ BoxL u (w.heap.size + 1) I
set_option maxHeartbeats 16000000 in
theorem more_walk (ds : List Value) (y : PodD) (cs : List Value) (x : InfoD) (rs : List Value) (m : ResD) (w : World) (h : RPod (fun _ => True) w ds y) (h' : RInfo (fun _ => True) w cs x) (hr : RRes (fun _ => True) w rs m) : Calls Try.prog 8 #[.agg ds.toArray, .agg cs.toArray, .agg rs.toArray] w fun e w' => e = .returned (.bool true) ∧ Below w.heap.size w w' := by
  have er := RRes.out hr
  subst er
  obtain ⟨ma, mb, mc⟩ := m
  have hiP : (Try.prog.info? 33).map (·.size) = some ds.length := by rw [RPod.firm.len h]; exact sizePodS
  have hiI : (Try.prog.info? 41).map (·.size) = some cs.length := by rw [RInfo.firm.len h']; exact sizeInfoS
  have HP : Hid (∀ u, Below w.heap.size w u → RPod (fun _ => True) u ds y) := fun u hb => RPod.firm.kept h (Kept.below hb)
  have HI : Hid (∀ u, Below w.heap.size w u → RInfo (fun _ => True) u cs x) := fun u hb => RInfo.firm.kept h' (Kept.below hb)
  obtain ⟨W3, hW3⟩ : ∃ W3, W3 = ((w.alloc (.cells ds.toArray 33)).alloc (.cells cs.toArray 41)).alloc (.cells #[.int .i64 ma, .int .i64 mb, .int .i64 mc] 24) := ⟨_, rfl⟩
  have B3 : Hid (∀ u, Below W3.heap.size W3 u → Below w.heap.size w u) := fun u hb => on2 (by rw [hW3]; go_grown) hb
  obtain ⟨_, _, _, _, _, _, _, _, _, hpc, _⟩ := h.out
  obtain ⟨_, _, _, _, _, hic, _⟩ := h'.out
  obtain ⟨wa, hwa⟩ : ∃ wa, wa = (pWant y).1 := ⟨_, rfl⟩
  obtain ⟨wb, hwb⟩ : ∃ wb, wb = (pWant y).2.1 := ⟨_, rfl⟩
  obtain ⟨wc', hwc⟩ : ∃ wc', wc' = (pWant y).2.2 := ⟨_, rfl⟩
  obtain ⟨ua, hua⟩ : ∃ ua, ua = x.2.2.1.1 := ⟨_, rfl⟩
  obtain ⟨ub, hub⟩ : ∃ ub, ub = x.2.2.1.2.1 := ⟨_, rfl⟩
  obtain ⟨uc, huc⟩ : ∃ uc, uc = x.2.2.1.2.2 := ⟨_, rfl⟩
  have HWt : Hid (plusR (pWant y) (ma, mb, mc) = (addI wa ma, addI wb mb, addI wc' mc)) := by rw [Hid, hwa, hwb, hwc]; rfl
  have HUs : Hid (plusR x.2.2.1 (ma, mb, mc) = (addI ua ma, addI ub mb, addI uc mc)) := by rw [Hid, hua, hub, huc]; rfl
  have HD3 : Hid (ds[3]? = some (.int .i64 wa)) := by rw [Hid, hpc, hwa]; rfl
  have HD4 : Hid (ds[4]? = some (.int .i64 wb)) := by rw [Hid, hpc, hwb]; rfl
  have HD5 : Hid (ds[5]? = some (.int .i64 wc')) := by rw [Hid, hpc, hwc]; rfl
  have HE10 : Hid (cs[10]? = some (.int .i64 ua)) := by rw [Hid, hic, hua]; rfl
  have HE11 : Hid (cs[11]? = some (.int .i64 ub)) := by rw [Hid, hic, hub]; rfl
  have HE12 : Hid (cs[12]? = some (.int .i64 uc)) := by rw [Hid, hic, huc]; rfl
  clear hpc hic hwa hwb hwc hua hub huc
  have hlP : Hid (ds.length = 16) := RPod.firm.len h
  have hlI : Hid (cs.length = 15) := RInfo.firm.len h'
  have hiP2 : (Try.prog.info? 33).map (·.size) = some ds.toArray.size := by have e : ds.toArray.size = 16 := (by simp [hlP.out]); rw [e]; exact sizePodS
  have hiI2 : (Try.prog.info? 41).map (·.size) = some cs.toArray.size := by have e : cs.toArray.size = 15 := (by simp [hlI.out]); rw [e]; exact sizeInfoS
  have HOP : Hid (ds.toArray.all (·.oneCell') = true) := all_oneCell_toArray (RPod.firm.one h)
  have HOI : Hid (cs.toArray.all (·.oneCell') = true) := all_oneCell_toArray (RInfo.firm.one h')
  clear h h' hr
  go_enter Try.func8, Try.ntmps8
  go_wp2_with fail
  rw [← hW3]
  refine (works16_calls W3).mono ?_
  rintro e w4 ⟨rfl, hb4⟩
  have HBX : Hid (∀ u, Below w4.heap.size w4 u → MrS w ds cs u ∧ BoxL u (w.heap.size + 1 + 1) [.int .i64 ma, .int .i64 mb, .int .i64 mc]) := fun u hb => by
    have h1 := ((BoxL.new w 33 ds).on ((Below.refl _ _).alloc (Nat.le_refl _) (.cells cs.toArray 41))).on ((Below.refl _ _).alloc (Nat.le_refl _) (.cells #[.int .i64 ma, .int .i64 mb, .int .i64 mc] 24))
    have h2 := (BoxL.new (w.alloc (.cells ds.toArray 33)) 41 cs).on ((Below.refl _ _).alloc (Nat.le_refl _) (.cells #[.int .i64 ma, .int .i64 mb, .int .i64 mc] 24))
    have h3 := BoxL.new ((w.alloc (.cells ds.toArray 33)).alloc (.cells cs.toArray 41)) 24 [.int .i64 ma, .int .i64 mb, .int .i64 mc]
    rw [← hW3] at h1 h2 h3
    refine ⟨⟨(h1.on hb4).on hb, ?_⟩, ?_⟩
    · have := (h2.on hb4).on hb; simpa using this
    · have := (h3.on hb4).on hb; simpa using this
  have HS : Hid (∀ u, Below w4.heap.size w4 u → MrS w ds cs u) := fun u hb => (HBX.out u hb).1
  have B4 : Hid (∀ u, Below w4.heap.size w4 u → Below w.heap.size w u) := fun u hb => B3.out u (on2 hb4 hb)
  clear hW3 hb4 B3
  go_upto_region 3 with fail
  go_cut [7, 8] (fun p q wx => ∃ Dq Dj : Nat, p = .pointer (some ⟨Dj, 0, none⟩) ∧ q = .pointer (some ⟨Dq, 0, none⟩) ∧ Hid (BoxL wx Dq ds ∧ BoxL wx Dj cs ∧ w4.heap.size ≤ Dq ∧ w4.heap.size ≤ Dj ∧ Dq ≠ Dj ∧ Below w4.heap.size w4 wx))
  case first =>
    refine wp_region_noPanic ?_
    refine wp_region_held_drew (S := MrS w ds cs) (by kernel_rfl) (HS.out _ (Below.refl _ _).drew) (fun hHeld => ?_)
    refine tq 0 (.agg cs.toArray) (yieldsIf_load_mid rfl 41 _ rfl (w.heap.size + 1) 0 rfl cs _ (fun u hu => hu.2.range) Try.underlying41 rfl hiI) ?_
    try go_frame
    refine tq 1 (.agg ds.toArray) (yieldsIf_load_mid rfl 33 _ rfl w.heap.size 0 rfl ds _ (fun u hu => hu.1.range) Try.underlying33 rfl hiP) ?_
    try go_frame
    refine tb 2 3 (fun K hK => ?_) (fun K hK => ?_)
    ·
      go_simp
      obtain ⟨u1, hu1⟩ : ∃ u1, u1 = (w4.alloc (.cells #[.string ⟨#[]⟩, .slice none 0 0, .slice none 0 0, .bool false, .int .i64 0, .int .i64 0, .int .i64 0, .int .i64 0, .int .i64 0, .slice none 0 0, .int .i64 0, .int .i64 0, .int .i64 0, .slice none 0 0, .slice none 0 0] 41)).drew := ⟨_, rfl⟩
      have du1 : Below w4.heap.size w4 u1 := by rw [hu1]; exact ((Below.refl _ _).alloc (Nat.le_refl _) _).drew
      have zu1 : BoxL u1 w4.heap.size [.string ⟨#[]⟩, .slice none 0 0, .slice none 0 0, .bool false, .int .i64 0, .int .i64 0, .int .i64 0, .int .i64 0, .int .i64 0, .slice none 0 0, .int .i64 0, .int .i64 0, .int .i64 0, .slice none 0 0, .slice none 0 0] := by rw [hu1]; exact (BoxL.new w4 41 [.string ⟨#[]⟩, .slice none 0 0, .slice none 0 0, .bool false, .int .i64 0, .int .i64 0, .int .i64 0, .int .i64 0, .int .i64 0, .slice none 0 0, .int .i64 0, .int .i64 0, .int .i64 0, .slice none 0 0, .slice none 0 0]).on (Below.refl _ _).drew
      refine hK.out _ _ (HS.out _ (hu1 ▸ du1)) (fun hHeld2 => ?_)
      rw [← hu1] at hHeld2 ⊢
      clear hu1
      clear hK K hHeld; have hHeld := hHeld2; clear hHeld2
      try go_frame
      refine tr 3 (fun K hK => ?_)
      go_simp
      obtain ⟨u2, hu2⟩ : ∃ u2, u2 = u1.alloc (.cells #[.string ⟨#[]⟩, .int .i64 0, .slice none 0 0, .int .i64 0, .int .i64 0, .int .i64 0, .slice none 0 0, .slice none 0 0, .slice none 0 0, .slice none 0 0, .slice none 0 0, .slice none 0 0, .slice none 0 0, .slice none 0 0, .string ⟨#[]⟩, .string ⟨#[]⟩] 33) := ⟨_, rfl⟩
      have du2 : Below u1.heap.size u1 u2 := by rw [hu2]; exact ((Below.refl _ _).alloc (Nat.le_refl _) _)
      have zu2 : BoxL u2 u1.heap.size [.string ⟨#[]⟩, .int .i64 0, .slice none 0 0, .int .i64 0, .int .i64 0, .int .i64 0, .slice none 0 0, .slice none 0 0, .slice none 0 0, .slice none 0 0, .slice none 0 0, .slice none 0 0, .slice none 0 0, .slice none 0 0, .string ⟨#[]⟩, .string ⟨#[]⟩] := by rw [hu2]; exact BoxL.new u1 33 [.string ⟨#[]⟩, .int .i64 0, .slice none 0 0, .int .i64 0, .int .i64 0, .int .i64 0, .slice none 0 0, .slice none 0 0, .slice none 0 0, .slice none 0 0, .slice none 0 0, .slice none 0 0, .slice none 0 0, .slice none 0 0, .string ⟨#[]⟩, .string ⟨#[]⟩]
      refine hK.out _ _ (HS.out _ (hu2 ▸ on2 du1 du2)) (fun hHeld2 => ?_)
      rw [← hu2] at hHeld2 ⊢
      clear hu2
      clear hK K hHeld; have hHeld := hHeld2; clear hHeld2
      try go_frame
      have e12 : Below w4.heap.size w4 u2 := on2 du1 du2
      have hsu : w4.heap.size < u1.heap.size := zu1.1
      obtain ⟨u3, hu3⟩ : ∃ u3, u3 = u2.setCells w4.heap.size 0 cs := ⟨_, rfl⟩
      have xu3 : BoxL u3 w4.heap.size cs := by rw [hu3]; exact box_overS (zu1.on du2) (by rw [hlI.out]; rfl)
      have ku3 : Kept (fun b => b ≠ w4.heap.size) u2 u3 := by rw [hu3]; exact kept_setCells (fun h => h rfl)
      have bu3 : Below w4.heap.size w4 u3 := by rw [hu3]; exact below_setCells e12 (by first | exact Nat.le_refl _ | exact (du1).size)
      have tu3 : u2.there w4.heap.size 0 cs.toArray.size := by have e : cs.toArray.size = 15 := (by simp [hlI.out]); rw [e]; exact ((zu1.on du2)).there
      have eu3 : u3 = u2.setCells w4.heap.size 0 cs.toArray.toList := by rw [hu3]
      clear hu3
      refine ts 4 (fun K hK => ?_)
      refine want_yesS (by rfl) (wp_store_mid 41 _ _ rfl w4.heap.size 0 cs.toArray rfl rfl tu3 hiI2 HOI.out ?_)
      refine at_wS eu3 ?_
      refine hK.out _ _ (HS.out _ bu3) (fun hHeld2 => ?_)
      clear hK K hHeld eu3 tu3; have hHeld := hHeld2; clear hHeld2
      try go_frame
      have zj3 : BoxL u3 u1.heap.size [.string ⟨#[]⟩, .int .i64 0, .slice none 0 0, .int .i64 0, .int .i64 0, .int .i64 0, .slice none 0 0, .slice none 0 0, .slice none 0 0, .slice none 0 0, .slice none 0 0, .slice none 0 0, .slice none 0 0, .slice none 0 0, .string ⟨#[]⟩, .string ⟨#[]⟩] := (zu2).kept ku3 (by omega)
      obtain ⟨u4, hu4⟩ : ∃ u4, u4 = u3.setCells u1.heap.size 0 ds := ⟨_, rfl⟩
      have xu4 : BoxL u4 u1.heap.size ds := by rw [hu4]; exact box_overS zj3 (by rw [hlP.out]; rfl)
      have ku4 : Kept (fun b => b ≠ u1.heap.size) u3 u4 := by rw [hu4]; exact kept_setCells (fun h => h rfl)
      have bu4 : Below w4.heap.size w4 u4 := by rw [hu4]; exact below_setCells bu3 (by first | exact Nat.le_refl _ | exact (du1).size)
      have tu4 : u3.there u1.heap.size 0 ds.toArray.size := by have e : ds.toArray.size = 16 := (by simp [hlP.out]); rw [e]; exact (zj3).there
      have eu4 : u4 = u3.setCells u1.heap.size 0 ds.toArray.toList := by rw [hu4]
      clear hu4
      refine ts 5 (fun K hK => ?_)
      refine want_yesS (by rfl) (wp_store_mid 33 _ _ rfl u1.heap.size 0 ds.toArray rfl rfl tu4 hiP2 HOP.out ?_)
      refine at_wS eu4 ?_
      refine hK.out _ _ (HS.out _ bu4) (fun hHeld2 => ?_)
      clear hK K hHeld eu4 tu4; have hHeld := hHeld2; clear hHeld2
      try go_frame
      have xq : BoxL u4 w4.heap.size cs := xu3.kept ku4 (by omega)
      refine wpAnyH_done (by kernel_rfl) ?_ _
      refine NoPanic.normal ?_
      go_wp2_with fail
      go_meet
      exact ⟨u1.heap.size, w4.heap.size, rfl, rfl, xu4, xq, du1.size, Nat.le_refl _, by omega, bu4⟩
    ·
      go_simp
      obtain ⟨u1, hu1⟩ : ∃ u1, u1 = (w4.alloc (.cells #[.string ⟨#[]⟩, .int .i64 0, .slice none 0 0, .int .i64 0, .int .i64 0, .int .i64 0, .slice none 0 0, .slice none 0 0, .slice none 0 0, .slice none 0 0, .slice none 0 0, .slice none 0 0, .slice none 0 0, .slice none 0 0, .string ⟨#[]⟩, .string ⟨#[]⟩] 33)).drew := ⟨_, rfl⟩
      have du1 : Below w4.heap.size w4 u1 := by rw [hu1]; exact ((Below.refl _ _).alloc (Nat.le_refl _) _).drew
      have zu1 : BoxL u1 w4.heap.size [.string ⟨#[]⟩, .int .i64 0, .slice none 0 0, .int .i64 0, .int .i64 0, .int .i64 0, .slice none 0 0, .slice none 0 0, .slice none 0 0, .slice none 0 0, .slice none 0 0, .slice none 0 0, .slice none 0 0, .slice none 0 0, .string ⟨#[]⟩, .string ⟨#[]⟩] := by rw [hu1]; exact (BoxL.new w4 33 [.string ⟨#[]⟩, .int .i64 0, .slice none 0 0, .int .i64 0, .int .i64 0, .int .i64 0, .slice none 0 0, .slice none 0 0, .slice none 0 0, .slice none 0 0, .slice none 0 0, .slice none 0 0, .slice none 0 0, .slice none 0 0, .string ⟨#[]⟩, .string ⟨#[]⟩]).on (Below.refl _ _).drew
      refine hK.out _ _ (HS.out _ (hu1 ▸ du1)) (fun hHeld2 => ?_)
      rw [← hu1] at hHeld2 ⊢
      clear hu1
      clear hK K hHeld; have hHeld := hHeld2; clear hHeld2
      try go_frame
      refine tr 2 (fun K hK => ?_)
      go_simp
      obtain ⟨u2, hu2⟩ : ∃ u2, u2 = u1.alloc (.cells #[.string ⟨#[]⟩, .slice none 0 0, .slice none 0 0, .bool false, .int .i64 0, .int .i64 0, .int .i64 0, .int .i64 0, .int .i64 0, .slice none 0 0, .int .i64 0, .int .i64 0, .int .i64 0, .slice none 0 0, .slice none 0 0] 41) := ⟨_, rfl⟩
      have du2 : Below u1.heap.size u1 u2 := by rw [hu2]; exact ((Below.refl _ _).alloc (Nat.le_refl _) _)
      have zu2 : BoxL u2 u1.heap.size [.string ⟨#[]⟩, .slice none 0 0, .slice none 0 0, .bool false, .int .i64 0, .int .i64 0, .int .i64 0, .int .i64 0, .int .i64 0, .slice none 0 0, .int .i64 0, .int .i64 0, .int .i64 0, .slice none 0 0, .slice none 0 0] := by rw [hu2]; exact BoxL.new u1 41 [.string ⟨#[]⟩, .slice none 0 0, .slice none 0 0, .bool false, .int .i64 0, .int .i64 0, .int .i64 0, .int .i64 0, .int .i64 0, .slice none 0 0, .int .i64 0, .int .i64 0, .int .i64 0, .slice none 0 0, .slice none 0 0]
      refine hK.out _ _ (HS.out _ (hu2 ▸ on2 du1 du2)) (fun hHeld2 => ?_)
      rw [← hu2] at hHeld2 ⊢
      clear hu2
      clear hK K hHeld; have hHeld := hHeld2; clear hHeld2
      try go_frame
      have e12 : Below w4.heap.size w4 u2 := on2 du1 du2
      have hsu : w4.heap.size < u1.heap.size := zu1.1
      obtain ⟨u3, hu3⟩ : ∃ u3, u3 = u2.setCells u1.heap.size 0 cs := ⟨_, rfl⟩
      have xu3 : BoxL u3 u1.heap.size cs := by rw [hu3]; exact box_overS zu2 (by rw [hlI.out]; rfl)
      have ku3 : Kept (fun b => b ≠ u1.heap.size) u2 u3 := by rw [hu3]; exact kept_setCells (fun h => h rfl)
      have bu3 : Below w4.heap.size w4 u3 := by rw [hu3]; exact below_setCells e12 (by first | exact Nat.le_refl _ | exact (du1).size)
      have tu3 : u2.there u1.heap.size 0 cs.toArray.size := by have e : cs.toArray.size = 15 := (by simp [hlI.out]); rw [e]; exact (zu2).there
      have eu3 : u3 = u2.setCells u1.heap.size 0 cs.toArray.toList := by rw [hu3]
      clear hu3
      refine ts 4 (fun K hK => ?_)
      refine want_yesS (by rfl) (wp_store_mid 41 _ _ rfl u1.heap.size 0 cs.toArray rfl rfl tu3 hiI2 HOI.out ?_)
      refine at_wS eu3 ?_
      refine hK.out _ _ (HS.out _ bu3) (fun hHeld2 => ?_)
      clear hK K hHeld eu3 tu3; have hHeld := hHeld2; clear hHeld2
      try go_frame
      have zj3 : BoxL u3 w4.heap.size [.string ⟨#[]⟩, .int .i64 0, .slice none 0 0, .int .i64 0, .int .i64 0, .int .i64 0, .slice none 0 0, .slice none 0 0, .slice none 0 0, .slice none 0 0, .slice none 0 0, .slice none 0 0, .slice none 0 0, .slice none 0 0, .string ⟨#[]⟩, .string ⟨#[]⟩] := ((zu1.on du2)).kept ku3 (by omega)
      obtain ⟨u4, hu4⟩ : ∃ u4, u4 = u3.setCells w4.heap.size 0 ds := ⟨_, rfl⟩
      have xu4 : BoxL u4 w4.heap.size ds := by rw [hu4]; exact box_overS zj3 (by rw [hlP.out]; rfl)
      have ku4 : Kept (fun b => b ≠ w4.heap.size) u3 u4 := by rw [hu4]; exact kept_setCells (fun h => h rfl)
      have bu4 : Below w4.heap.size w4 u4 := by rw [hu4]; exact below_setCells bu3 (by first | exact Nat.le_refl _ | exact (du1).size)
      have tu4 : u3.there w4.heap.size 0 ds.toArray.size := by have e : ds.toArray.size = 16 := (by simp [hlP.out]); rw [e]; exact (zj3).there
      have eu4 : u4 = u3.setCells w4.heap.size 0 ds.toArray.toList := by rw [hu4]
      clear hu4
      refine ts 5 (fun K hK => ?_)
      refine want_yesS (by rfl) (wp_store_mid 33 _ _ rfl w4.heap.size 0 ds.toArray rfl rfl tu4 hiP2 HOP.out ?_)
      refine at_wS eu4 ?_
      refine hK.out _ _ (HS.out _ bu4) (fun hHeld2 => ?_)
      clear hK K hHeld eu4 tu4; have hHeld := hHeld2; clear hHeld2
      try go_frame
      have xq : BoxL u4 u1.heap.size cs := xu3.kept ku4 (by omega)
      refine wpAnyH_done (by kernel_rfl) ?_ _
      refine NoPanic.normal ?_
      go_wp2_with fail
      go_meet
      exact ⟨w4.heap.size, u1.heap.size, rfl, rfl, xu4, xq, Nat.le_refl _, du1.size, by omega, bu4⟩
  case rest =>
  obtain ⟨Dq, Dj, rfl, rfl, hcut⟩ := hcut
  obtain ⟨xq, xj, gq, gj, gne, hbc⟩ := hcut.out
  have HQ : Hid (∀ u, Below wc.heap.size wc u → BoxL u Dq ds ∧ BoxL u Dj cs) := fun u hb => ⟨xq.on hb, xj.on hb⟩
  have Hbc : Hid (Below w4.heap.size w4 wc) := hbc
  have hw45 : Hid (w.heap.size + 1 + 1 < w4.heap.size) := (HBX.out w4 (Below.refl _ _)).2.1
  clear xq xj hbc hcut
  have p10 := ((HBX.out wc Hbc.out).1.2.2 10 _ HE10.out).1
  have p11 := ((HBX.out wc Hbc.out).1.2.2 11 _ HE11.out).1
  have p12 := ((HBX.out wc Hbc.out).1.2.2 12 _ HE12.out).1
  have r0 := ((HBX.out wc Hbc.out).2.2 0 _ rfl).1
  have r1 := ((HBX.out wc Hbc.out).2.2 1 _ rfl).1
  have r2 := ((HBX.out wc Hbc.out).2.2 2 _ rfl).1
  have hC := Plus_calls ua ub uc ma mb mc wc
  go_wp2_with fail
  refine hC.mono ?_
  rintro e w6 ⟨rfl, hb6⟩
  clear hC p10 p11 p12 r0 r1 r2
  have hb06 : Below w4.heap.size w4 w6 := on2 Hbc.out hb6
  obtain ⟨hq6, hj6⟩ := HQ.out w6 hb6
  obtain ⟨z3, f3⟩ := hj6.2 10 _ HE10.out
  obtain ⟨z4, f4⟩ := hj6.2 11 _ HE11.out
  obtain ⟨z5, f5⟩ := hj6.2 12 _ HE12.out
  obtain ⟨w7, hw7⟩ : ∃ w7, w7 = ((w6.setCell ⟨Dj, 10, none⟩ (.int .i64 (addI ua ma))).setCell ⟨Dj, 11, none⟩ (.int .i64 (addI ub mb))).setCell ⟨Dj, 12, none⟩ (.int .i64 (addI uc mc)) := ⟨_, rfl⟩
  have hj7 : BoxL w7 Dj (((cs.set 10 (.int .i64 (addI ua ma))).set 11 (.int .i64 (addI ub mb))).set 12 (.int .i64 (addI uc mc))) := by
    rw [hw7]
    exact ((hj6.set 10 _ (by rw [hlI.out]; omega)).set 11 _ (by rw [List.length_set, hlI.out]; omega)).set 12 _ (by rw [List.length_set, List.length_set, hlI.out]; omega)
  have hq7 : BoxL w7 Dq ds := by rw [hw7]; exact ((hq6.other gne.symm _).other gne.symm _).other gne.symm _
  have hb7 : Below w4.heap.size w4 w7 := by rw [hw7]; exact ((hb06.setCell gj _).setCell gj _).setCell gj _
  go_upto_region 5 with fail
  rw [← hw7]
  clear hw7 z3 f3 z4 f4 z5 f5 hq6 hj6 hb06 hb6 HQ
  have HQ7 : Hid (∀ u, Below w7.heap.size w7 u → BoxL u Dq ds ∧ BoxL u Dj (((cs.set 10 (.int .i64 (addI ua ma))).set 11 (.int .i64 (addI ub mb))).set 12 (.int .i64 (addI uc mc)))) := fun u hb => ⟨hq7.on hb, hj7.on hb⟩
  have Hb7 : Hid (Below w4.heap.size w4 w7) := hb7
  clear hq7 hj7 hb7
  have p3 := ((HBX.out w7 Hb7.out).1.1.2 3 _ HD3.out).1
  have p4 := ((HBX.out w7 Hb7.out).1.1.2 4 _ HD4.out).1
  have p5 := ((HBX.out w7 Hb7.out).1.1.2 5 _ HD5.out).1
  have r0 := ((HBX.out w7 Hb7.out).2.2 0 _ rfl).1
  have r1 := ((HBX.out w7 Hb7.out).2.2 1 _ rfl).1
  have r2 := ((HBX.out w7 Hb7.out).2.2 2 _ rfl).1
  have hC := Plus_calls wa wb wc' ma mb mc w7
  go_wp2_with fail
  refine hC.mono ?_
  rintro e w8 ⟨rfl, hb8⟩
  clear hC p3 p4 p5 r0 r1 r2
  have hb08 : Below w4.heap.size w4 w8 := on2 Hb7.out hb8
  obtain ⟨hq8, hj8⟩ := HQ7.out w8 hb8
  obtain ⟨z3, f3⟩ := hq8.2 3 _ HD3.out
  obtain ⟨z4, f4⟩ := hq8.2 4 _ HD4.out
  obtain ⟨z5, f5⟩ := hq8.2 5 _ HD5.out
  obtain ⟨w9, hw9⟩ : ∃ w9, w9 = ((w8.setCell ⟨Dq, 3, none⟩ (.int .i64 (addI wa ma))).setCell ⟨Dq, 4, none⟩ (.int .i64 (addI wb mb))).setCell ⟨Dq, 5, none⟩ (.int .i64 (addI wc' mc)) := ⟨_, rfl⟩
  have hq9 : BoxL w9 Dq (((ds.set 3 (.int .i64 (addI wa ma))).set 4 (.int .i64 (addI wb mb))).set 5 (.int .i64 (addI wc' mc))) := by
    rw [hw9]
    exact ((hq8.set 3 _ (by rw [hlP.out]; omega)).set 4 _ (by rw [List.length_set, hlP.out]; omega)).set 5 _ (by rw [List.length_set, List.length_set, hlP.out]; omega)
  have hj9 : BoxL w9 Dj (((cs.set 10 (.int .i64 (addI ua ma))).set 11 (.int .i64 (addI ub mb))).set 12 (.int .i64 (addI uc mc))) := by rw [hw9]; exact ((hj8.other gne _).other gne _).other gne _
  have hb9 : Below w4.heap.size w4 w9 := by rw [hw9]; exact ((hb08.setCell gq _).setCell gq _).setCell gq _
  go_upto_region 6 with fail
  rw [← hw9]
  clear hw9 z3 f3 z4 f4 z5 f5 hq8 hj8 hb08 hb8 HQ7
  have HRQ : Hid (∀ u, Below w.heap.size w u → RPod (fun _ => True) u (((ds.set 3 (.int .i64 (addI wa ma))).set 4 (.int .i64 (addI wb mb))).set 5 (.int .i64 (addI wc' mc))) (reWant y (addI wa ma, addI wb mb, addI wc' mc))) := fun u hb => (HP.out u hb).reWant (addI wa ma, addI wb mb, addI wc' mc)
  have HRJ : Hid (∀ u, Below w.heap.size w u → RInfo (fun _ => True) u (((cs.set 10 (.int .i64 (addI ua ma))).set 11 (.int .i64 (addI ub mb))).set 12 (.int .i64 (addI uc mc))) (reUsed x (addI ua ma, addI ub mb, addI uc mc))) := fun u hb => (HI.out u hb).reUsed (addI ua ma, addI ub mb, addI uc mc)
  have hiQ : (Try.prog.info? 33).map (·.size) = some (((ds.set 3 (.int .i64 (addI wa ma))).set 4 (.int .i64 (addI wb mb))).set 5 (.int .i64 (addI wc' mc))).length := by simp only [List.length_set]; exact hiP
  have hiJ : (Try.prog.info? 41).map (·.size) = some (((cs.set 10 (.int .i64 (addI ua ma))).set 11 (.int .i64 (addI ub mb))).set 12 (.int .i64 (addI uc mc))).length := by simp only [List.length_set]; exact hiI
  have HM1 : Hid (leastP y (reUsed x (addI ua ma, addI ub mb, addI uc mc)) ≤ leastP y x) := by have := more_used y x (ma, mb, mc); rw [HUs.out] at this; exact this
  have HM2 : Hid (leastP (reWant y (addI wa ma, addI wb mb, addI wc' mc)) x ≤ leastP y x) := by have := more_want y x (ma, mb, mc); rw [HWt.out] at this; exact this
  generalize hQS : (((ds.set 3 (.int .i64 (addI wa ma))).set 4 (.int .i64 (addI wb mb))).set 5 (.int .i64 (addI wc' mc))) = qs at hq9 HRQ hiQ
  generalize hJS : (((cs.set 10 (.int .i64 (addI ua ma))).set 11 (.int .i64 (addI ub mb))).set 12 (.int .i64 (addI uc mc))) = js at hj9 HRJ hiJ
  clear hQS hJS
  generalize hY2 : reWant y (addI wa ma, addI wb mb, addI wc' mc) = y2 at HRQ HM2
  generalize hX2 : reUsed x (addI ua ma, addI ub mb, addI uc mc) = x2 at HRJ HM1
  clear hY2 hX2
  have HXs : Hid (∀ z, Below w9.heap.size w9 z → z.rangeAt w.heap.size 0 ds ∧ z.rangeAt (w.heap.size + 1) 0 cs ∧ z.rangeAt Dq 0 qs ∧ z.rangeAt Dj 0 js) := fun z hz => ⟨(HS.out z (on2 hb9 hz)).1.range, (HS.out z (on2 hb9 hz)).2.range, (hq9.on hz).range, (hj9.on hz).range⟩
  have B9 : Hid (∀ u, Below w9.heap.size w9 u → Below w.heap.size w u) := fun u hb => B4.out u (on2 hb9 hb)
  obtain ⟨Pb, hPb⟩ : ∃ P, P = w.heap.size := ⟨_, rfl⟩
  obtain ⟨Ib, hIb⟩ : ∃ I, I = w.heap.size + 1 := ⟨_, rfl⟩
  rw [← hIb, ← hPb] at HXs
  rw [← hIb, ← hPb]
  obtain ⟨va, hva⟩ : ∃ v, v = leastP y x2 := ⟨_, rfl⟩
  obtain ⟨vb, hvb⟩ : ∃ v, v = leastP y x := ⟨_, rfl⟩
  obtain ⟨vc, hvc⟩ : ∃ v, v = leastP y2 x := ⟨_, rfl⟩
  have HLa : Hid (∀ z, Below w9.heap.size w9 z → Calls Try.prog 10 #[.agg ds.toArray, .agg js.toArray] z fun e w' => e = .returned (.int .i64 va) ∧ Below z.heap.size z w') := fun z hz => by rw [hva]; exact Least_calls ds js (fun _ => True) (fun _ => True) y x2 z (HP.out z (B9.out z hz)) (HRJ.out z (B9.out z hz))
  have HLb : Hid (∀ z, Below w9.heap.size w9 z → Calls Try.prog 10 #[.agg ds.toArray, .agg cs.toArray] z fun e w' => e = .returned (.int .i64 vb) ∧ Below z.heap.size z w') := fun z hz => by rw [hvb]; exact Least_calls ds cs (fun _ => True) (fun _ => True) y x z (HP.out z (B9.out z hz)) (HI.out z (B9.out z hz))
  have HLc : Hid (∀ z, Below w9.heap.size w9 z → Calls Try.prog 10 #[.agg qs.toArray, .agg cs.toArray] z fun e w' => e = .returned (.int .i64 vc) ∧ Below z.heap.size z w') := fun z hz => by rw [hvc]; exact Least_calls qs cs (fun _ => True) (fun _ => True) y2 x z (HRQ.out z (B9.out z hz)) (HI.out z (B9.out z hz))
  have hab : va ≤ vb := by rw [hva, hvb]; exact HM1.out
  have hcb : vc ≤ vb := by rw [hvc, hvb]; exact HM2.out
  clear hq9 hj9 hb9 HS HBX Hbc Hb7 B4 hPb hIb hva hvb hvc HM1 HM2 HP HI HRQ HRJ
  --M4
  have hb0 : Below w9.heap.size w9 w9.drew := (Below.refl _ _).drew
  refine t0 (fun z => Below w9.heap.size w9 z) hb0 (fun hHeld => ?_)
  generalize w9.drew = wd at hHeld ⊢
  clear hb0
  try go_frame
  refine tq 0 (.agg ds.toArray) (yieldsIf_load_mid (by rfl) 33 _ rfl Pb 0 (by go_simp) ds _ (fun z hz => (HXs.out z hz).1) Try.underlying33 rfl hiP) ?_ (hi := rfl)
  try go_frame
  refine tq 1 (.agg js.toArray) (yieldsIf_load_mid (by rfl) 41 _ rfl Dj 0 (by go_simp) js _ (fun z hz => (HXs.out z hz).2.2.2) Try.underlying41 rfl hiJ) ?_ (hi := rfl)
  try go_frame
  refine tq 3 (.agg ds.toArray) (yieldsIf_load_mid (by rfl) 33 _ rfl Pb 0 (by go_simp) ds _ (fun z hz => (HXs.out z hz).1) Try.underlying33 rfl hiP) ?_ (hi := rfl)
  try go_frame
  refine tq 4 (.agg cs.toArray) (yieldsIf_load_mid (by rfl) 41 _ rfl Ib 0 (by go_simp) cs _ (fun z hz => (HXs.out z hz).2.1) Try.underlying41 rfl hiI) ?_ (hi := rfl)
  try go_frame
  have hA := HLa.out wd hHeld
  refine tr 2 (fun K hK => ?_)
  go_simp
  refine hA.mono ?_
  rintro e v1w ⟨rfl, hq⟩
  clear hA
  have hb9 : Below w9.heap.size w9 v1w := on2 hHeld hq
  go_wp2_with fail
  refine hK.out _ _ hb9 (fun hHeld2 => ?_)
  clear hb9
  clear hK K hHeld; have hHeld := hHeld2; clear hHeld2
  try go_frame
  have hA := HLb.out v1w hHeld
  refine tr 5 (fun K hK => ?_)
  go_simp
  refine hA.mono ?_
  rintro e v2w ⟨rfl, hq⟩
  clear hA
  have hb9 : Below w9.heap.size w9 v2w := on2 hHeld hq
  go_wp2_with fail
  refine hK.out _ _ hb9 (fun hHeld2 => ?_)
  clear hb9
  clear hK K hHeld; have hHeld := hHeld2; clear hHeld2
  try go_frame
  refine' tk 6 ?_ ?_; rotate_left
  · intro z hz; clear hz; go_simp; try with_reducible rfl
  try go_frame
  refine' tk 7 ?_ ?_; rotate_left
  · intro z hz; clear hz; go_simp; try with_reducible rfl
  try go_frame
  refine tq 8 (.agg qs.toArray) (yieldsIf_load_mid (by rfl) 33 _ rfl Dq 0 (by go_simp) qs _ (fun z hz => (HXs.out z hz).2.2.1) Try.underlying33 rfl hiQ) ?_ (hi := rfl)
  try go_frame
  refine tq 9 (.agg cs.toArray) (yieldsIf_load_mid (by rfl) 41 _ rfl Ib 0 (by go_simp) cs _ (fun z hz => (HXs.out z hz).2.1) Try.underlying41 rfl hiI) ?_ (hi := rfl)
  try go_frame
  refine tq 11 (.agg ds.toArray) (yieldsIf_load_mid (by rfl) 33 _ rfl Pb 0 (by go_simp) ds _ (fun z hz => (HXs.out z hz).1) Try.underlying33 rfl hiP) ?_ (hi := rfl)
  try go_frame
  refine tq 12 (.agg cs.toArray) (yieldsIf_load_mid (by rfl) 41 _ rfl Ib 0 (by go_simp) cs _ (fun z hz => (HXs.out z hz).2.1) Try.underlying41 rfl hiI) ?_ (hi := rfl)
  try go_frame
  have hA := HLc.out v2w hHeld
  refine tr 10 (fun K hK => ?_)
  go_simp
  refine hA.mono ?_
  rintro e v3w ⟨rfl, hq⟩
  clear hA
  have hb9 : Below w9.heap.size w9 v3w := on2 hHeld hq
  go_wp2_with fail
  refine hK.out _ _ hb9 (fun hHeld2 => ?_)
  clear hb9
  clear hK K hHeld; have hHeld := hHeld2; clear hHeld2
  try go_frame
  have hA := HLb.out v3w hHeld
  refine tr 13 (fun K hK => ?_)
  go_simp
  refine hA.mono ?_
  rintro e v4w ⟨rfl, hq⟩
  clear hA
  have hb9 : Below w9.heap.size w9 v4w := on2 hHeld hq
  go_wp2_with fail
  refine hK.out _ _ hb9 (fun hHeld2 => ?_)
  clear hb9
  clear hK K hHeld; have hHeld := hHeld2; clear hHeld2
  try go_frame
  refine' tk 14 ?_ ?_; rotate_left
  · intro z hz; clear hz; go_simp; try with_reducible rfl
  try go_frame
  refine' tk 15 ?_ ?_; rotate_left
  · intro z hz; clear hz; go_simp; try with_reducible rfl
  try go_frame
  refine' tk 16 ?_ ?_; rotate_left
  · intro z hz; clear hz; go_simp; try with_reducible rfl
  try go_frame
  refine tz ?_
  have HE : Hid (Below w.heap.size w v4w) := B9.out _ hHeld
  --M5
  go_wp2_with fail
  go_ret
  exact ⟨rfl, HE.out⟩
end Go.Proofs.Yteihniiacfghoaa
