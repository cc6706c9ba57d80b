/- The law FeasibleLess, walked. Condition: the arguments lie as is said of them, and hold little enough. -/
import Derived.Test.YtnffafjamiffnaaGreatQ47
set_option linter.unusedSimpArgs false
set_option maxRecDepth 100000
set_option maxHeartbeats 32000000
namespace Go.Proofs.YtnffafjamiffnaaGreat
open Go.RowKit Go.Maps
def bareP (p : PodD) : PodD := match p with | (a, b, c, d, e, f, g, h, _, j, _, l, m, o) => (a, b, c, d, e, f, g, h, [], j, [], l, m, o)
theorem RPod.bare {B : Where} {u : World} {cs : List Value} {q : PodD} (h : RPod B u cs q) : RPod B u ((cs.set 10 (.slice none 0 0)).set 12 (.slice none 0 0)) (bareP q) := by
 obtain ⟨h2, h6, h7, h8, h9, h10, h11, h12, h13, rfl, p0, p1, p2, p3, p4, p5, p6, p7, p8, p9, p10, p11⟩ := h.out
 exact RPod.mk (x := bareP q) (h10 := (none, 0, 0)) (h12 := (none, 0, 0)) p0 p1 p2 p3 p4 p5 (zAJ _ _) p7 (zAJ _ _) p9 p10 p11
theorem bare_near (p : PodD) : pNear (bareP p) = [] := rfl
theorem bare_spr (p : PodD) : pSpreads (bareP p) = [] := rfl
theorem bare_le (p : PodD) : bPod (bareP p) <= bPod p := by
 have h1 : (pPorts (bareP p)).length = (pPorts p).length := rfl
 have h2 : (pApart (bareP p)).length = (pApart p).length := rfl
 have h3 : (pClaims (bareP p)).length = (pClaims p).length := rfl
 have h4 : (pNear (bareP p)).length = 0 := rfl
 unfold bPod
 omega
theorem less_walk (cs : List Value) (x : StateD) (ps : List Value) (p : PodD) (s : ByteArray) (a : Option Addr) (n c : Nat) (nms : List ByteArray) (w : World) (hx : RState (fun _ => True) w cs x) (hp : RPod (fun _ => True) w ps p) (hn : SlAt RStr 1 16 (fun _ => True) w a n c nms) (hm : sumBy bPod x.1 + x.2.1.length + bPod p <= 16777216) :
  Calls Tryz.prog 7 #[.agg cs.toArray, .agg ps.toArray, .string s, .slice a n c] w fun e w' => e = .returned (.bool true) /\ Below w.heap.size w w' := by
 have hi6 : (Tryz.prog.info? 29).map (·.size) = some cs.length := by rw [RState.firm.len hx]; exact zAS
 have hl16 : ps.length = 16 := RPod.firm.len hp
 have hi16 : (Tryz.prog.info? 49).map (·.size) = some ((ps.set 10 (.slice none 0 0)).set 12 (.slice none 0 0)).length := by rw [List.length_set, List.length_set, hl16]; exact zAM
 obtain ⟨ps', hps'⟩ : ∃ l, l = (ps.set 10 (.slice none 0 0)).set 12 (.slice none 0 0) := ⟨_, rfl⟩
 rw [<- hps'] at hi16
 have Hps : Hid (ps' = (ps.set 10 (.slice none 0 0)).set 12 (.slice none 0 0)) := hps'
 clear hps'
 have hf1 : FeFit x (bareP p) := zCP (by have := bare_le p; omega)
 have hf2 : FeFit (withoutP x nms) (bareP p) := zCP (by
  have h1 := bare_le p
  have h2 : sumBy bPod (withoutP x nms).1 <= sumBy bPod x.1 := zAP bPod _ x.1
  have h3 : (withoutP x nms).2.1.length = x.2.1.length := rfl
  omega)
 have HL : Hid ((ansP (aroundP x (bareP p).1) (bareP p) s).1 = 0 -> (ansP (aroundP (withoutP x nms) (bareP p).1) (bareP p) s).1 = 0) := fun h => zHK nms (bare_near p) (bare_spr p) h
 obtain ⟨⟨r1, k1⟩, hr1⟩ : ∃ r, r = ansP (aroundP x (bareP p).1) (bareP p) s := ⟨_, rfl⟩
 obtain ⟨⟨r2, k2⟩, hr2⟩ : ∃ r, r = ansP (aroundP (withoutP x nms) (bareP p).1) (bareP p) s := ⟨_, rfl⟩
 rw [<- hr1, <- hr2] at HL
 have HL : Hid (r1 = 0 -> r2 = 0) := HL
 have Hr1 : Hid ((r1, k1) = ansP (aroundP x (bareP p).1) (bareP p) s) := hr1
 have Hr2 : Hid ((r2, k2) = ansP (aroundP (withoutP x nms) (bareP p).1) (bareP p) s) := hr2
 clear hr1 hr2
 obtain ⟨W1, hW1⟩ : ∃ W, W = w.alloc (.cells cs.toArray 29) := ⟨_, rfl⟩
 obtain ⟨W2, hW2⟩ : ∃ W, W = W1.alloc (.cells ps.toArray 49) := ⟨_, rfl⟩
 have B1 : Below w.heap.size w W1 := by rw [hW1]; exact (Below.refl _ _).alloc (Nat.le_refl _) _
 have B2 : Below W1.heap.size W1 W2 := by rw [hW2]; exact (Below.refl _ _).alloc (Nat.le_refl _) _
 have z1 : W1.heap.size = w.heap.size + 1 := by rw [hW1]; simp
 have z2 : W2.heap.size = w.heap.size + 1 + 1 := by rw [hW2]; simp [z1]
 have qa : BoxL W2 w.heap.size cs := by refine BoxL.on ?_ B2; rw [hW1]; exact BoxL.new w 29 _
 have qb : BoxL W2 (w.heap.size + 1) ps := by rw [<- z1, hW2]; exact BoxL.new W1 49 _
 have BB : Below w.heap.size w W2 := on2 B1 B2
 have hCw := zER W2
 have Hz2 : Hid (W2.heap.size = w.heap.size + 1 + 1) := z2
 have HA : Hid (∀ u, Below W2.heap.size W2 u -> RState (fun b => b < w.heap.size) u cs x /\ RPod (fun b => b < w.heap.size) u ps p /\ SlAt RStr 1 16 (fun b => b < w.heap.size) u a n c nms /\ BoxL u w.heap.size cs /\ BoxL u (w.heap.size + 1) ps /\ Below w.heap.size w u) := fun u hu => by
  have hb := on2 BB hu
  exact ⟨RState.firm.kept (RState.firm.weak hx (A' := fun b => b < w.heap.size) (fun b h _ => h)) (Kept.below hb), RPod.firm.kept (RPod.firm.weak hp (A' := fun b => b < w.heap.size) (fun b h _ => h)) (Kept.below hb), (hn.weak RStr.firm (A' := fun b => b < w.heap.size) (fun b h _ => h)).on RStr.firm hb, qa.on hu, qb.on hu, hb⟩
 clear hx hp hn qa qb B1 B2 z1 z2 BB hm
 go_enter Tryz.func7, Tryz.ntmps7
 go_upto_region 1 with fail
 rw [<- hW1, <- hW2]
 clear hW1 hW2
 go_wp2_with fail
 refine hCw.mono ?_
 rintro e w3 ⟨rfl, b3⟩
 clear hCw
 obtain ⟨_, _, _, qa, qb, _⟩ := HA.out w3 b3
 obtain ⟨v10, hv10⟩ : ∃ v, ps[10]? = some v := ⟨_, List.getElem?_eq_getElem (by rw [hl16]; decide)⟩
 obtain ⟨v12, hv12⟩ : ∃ v, ps[12]? = some v := ⟨_, List.getElem?_eq_getElem (by rw [hl16]; decide)⟩
 have t10 := (qb.2 10 _ hv10).2
 have t12 := (qb.2 12 _ hv12).2
 have c10 := (qb.2 10 _ hv10).1
 have c12 := (qb.2 12 _ hv12).1
 go_upto_region 4 with fail
 obtain ⟨W4, hW4⟩ : ∃ W, W = (w3.setCell ⟨w.heap.size + 1, 10, none⟩ (.slice none 0 0)).setCell ⟨w.heap.size + 1, 12, none⟩ (.slice none 0 0) := ⟨_, rfl⟩
 rw [<- hW4]
 have HU : Hid (∀ u, Below W4.heap.size W4 u -> RState (fun _ => True) u cs x /\ RPod (fun _ => True) u ps' (bareP p) /\ SlAt RStr 1 16 (fun _ => True) u a n c nms /\ u.rangeAt w.heap.size 0 cs /\ u.rangeAt (w.heap.size + 1) 0 ps' /\ Below w.heap.size w u) := by
  obtain ⟨hx, hp, hn, qa, qb, b0⟩ := HA.out w3 b3
  have hk : ∀ {A : Where}, ¬ A (w.heap.size + 1) -> Kept A w3 W4 := fun {A} h => by rw [hW4]; exact (Kept.set (p := ⟨w.heap.size + 1, 10, none⟩) h _).trans (Kept.set (p := ⟨w.heap.size + 1, 12, none⟩) h _)
  have hk1 : Kept (fun b => b < w.heap.size) w3 W4 := hk (by omega)
  have qb4 : BoxL W4 (w.heap.size + 1) ps' := by
   rw [hW4, Hps.out]
   exact (qb.set 10 _ (by rw [hl16]; decide)).set 12 _ (by rw [List.length_set, hl16]; decide)
  have qa4 : BoxL W4 w.heap.size cs := qa.kept (A := fun b => b = w.heap.size) (hk (by omega)) rfl
  have b4 : Below w.heap.size w W4 := by rw [hW4]; exact (b0.setCell (p := ⟨w.heap.size + 1, 10, none⟩) (by show _ <= w.heap.size + 1; omega) _).setCell (p := ⟨w.heap.size + 1, 12, none⟩) (by show _ <= w.heap.size + 1; omega) _
  intro u hu
  refine ⟨RState.firm.weak (RState.firm.kept (RState.firm.kept hx hk1) (Kept.below hu)) (fun _ _ _ => trivial), ?_, ((hn.kept RStr.firm hk1).on RStr.firm hu).weak RStr.firm (fun _ _ _ => trivial), (qa4.on hu).range, (qb4.on hu).range, on2 b4 hu⟩
  rw [Hps.out]
  exact RPod.firm.weak (RPod.firm.kept (RPod.firm.kept hp hk1) (Kept.below hu)).bare (fun _ _ _ => trivial)
 obtain ⟨h4x, h4p, _, r4c, r4p, _⟩ := HU.out W4 (Below.refl _ _)
 have HR1 : Hid (W4.rangeAt w.heap.size 0 cs) := r4c
 have HR2 : Hid (W4.rangeAt (w.heap.size + 1) 0 ps') := r4p
 have hC1 := zB8 cs x ps' (bareP p) s W4 h4x h4p hf1
 rw [<- Hr1.out] at hC1
 clear qa qb t10 t12 c10 c12 hW4 h4x h4p r4c r4p HA b3 hv10 hv12
 go_wp2_with (first | (refine wpList_load_mid rfl 29 _ rfl w.heap.size 0 rfl cs _ HR1.out Tryz.underlying29 rfl hi6 ?_) | (refine wpList_load_mid rfl 49 _ rfl (w.heap.size + 1) 0 rfl ps' _ HR2.out Tryz.underlying49 rfl hi16 ?_) | fail)
 refine hC1.mono ?_
 rintro e w5 ⟨aa, nn, cc, rfl, _, b5⟩
 clear hC1 HR1 HR2
 go_upto_region 5 with fail
 refine t0 (fun z => Below W4.heap.size W4 z) b5.drew (fun gH => ?_)
 generalize hwd : w5.drew = wd at gH |-
 clear hwd b5
 try go_frame
 refine tq 0 (.agg cs.toArray) (yieldsIf_load_mid (by rfl) 29 _ rfl w.heap.size 0 rfl cs _ (fun u hu => (HU.out u hu).2.2.2.1) Tryz.underlying29 rfl hi6) ?_ (hi := rfl)
 try go_frame
 refine tp 1 ?_
 try go_frame
 refine tq 3 (.agg ps'.toArray) (yieldsIf_load_mid (by rfl) 49 _ rfl (w.heap.size + 1) 0 rfl ps' _ (fun u hu => (HU.out u hu).2.2.2.2.1) Tryz.underlying49 rfl hi16) ?_ (hi := rfl)
 try go_frame
 refine tp 4 ?_
 try go_frame
 obtain ⟨h5x, _, h5n, _⟩ := HU.out wd gH
 have hCw := zEN (fun _ => True) cs x a n c nms wd h5x h5n
 refine tr 2 (fun K hK => ?_)
 go_simp
 refine hCw.mono ?_
 rintro e w6 ⟨g0, g1, g2, g3, g4, g5, rfl, ⟨r0, r1, r2, r3, r4, r5, _⟩, _⟩
 have b6 := on2 gH r0.below
 have hl6 : (withoutP x nms).1.length <= x.1.length := List.length_filter_le _ _
 have h6 : RState (fun _ => True) w6 [g0, g1, g2, g3, g4, g5] (withoutP x nms) := zDY r0 r1 r2 r3 r4 r5 h5x hl6 (Nat.le_refl _) (Nat.le_refl _) (Nat.le_refl _) (Nat.le_refl _) (Nat.le_refl _)
 go_wp2_with fail
 refine hK.out _ _ b6 (fun gI => ?_)
 clear hK K gH hCw; have gH := gI; clear gI
 try go_frame
 have hC2 := zB8 [g0, g1, g2, g3, g4, g5] (withoutP x nms) ps' (bareP p) s w6 h6 (HU.out w6 gH).2.1 hf2
 rw [<- Hr2.out] at hC2
 refine tr 5 (fun K hK => ?_)
 go_simp
 refine hC2.mono ?_
 rintro e w7 ⟨a7, n7, c7, rfl, _, b7⟩
 simp only
 have b9 := on2 gH b7
 go_wp2_with fail
 refine hK.out _ _ b9 (fun gI => ?_)
 clear hK K gH hC2; have gH := gI; clear gI
 try go_frame
 refine tp 6 ?_
 try go_frame
 refine tp 7 ?_
 try go_frame
 refine tp 8 ?_
 try go_frame
 refine tp 9 ?_
 try go_frame
 refine tp 10 ?_
 try go_frame
 refine tz ?_
 have HF : Hid (Below w.heap.size w w7) := (HU.out w7 gH).2.2.2.2.2
 clear HU gH b9 b7 h6 r0 r1 r2 r3 r4 r5 hl6 h5x h5n b6
 clear Hr1 Hr2
 by_cases h1 : r1 = 0
 ·have h2 := HL.out h1
  subst h1
  subst h2
  clear HL
  go_wp2_with fail
  go_ret
  exact ⟨rfl, HF.out⟩
 ·have h3 : (r1 == 0) = false := by simpa using h1
  clear HL
  go_wp2_with fail
  go_ret
  exact ⟨rfl, HF.out⟩
end Go.Proofs.YtnffafjamiffnaaGreat
