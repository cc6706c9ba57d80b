/- The queue: Tick. Condition: the queue lies as is said of it, and is not too long. The chapter's example: it works. No condition. The queue: Hope. Condition: the queue lies as is said of it; its wishes are not too many. A queue of the document: entries, how many were added, wishes; how they lie in cells. Plain facts. No condition. The document's queue: where a name stands; how long one backs off; which ticks there are. Condition: the queue lies as is said of it. -/
import Derived.Test.YtbmejaailhjgfaaGreatQ18
import Derived.Test.YtbmejaailhjgfaaGreatQ17
import Derived.Test.YtbmejaailhjgfaaGreatQ04
namespace Go.Proofs.YtbmejaailhjgfaaGreat
open Go.RowKit Go.Maps
set_option linter.unusedSimpArgs false
set_option maxRecDepth 100000

theorem ytikf_asks (u : World) (b : Nat) (now : Int) (hb : u.cell? ⟨b, 0, none⟩ = some (.int .i64 now)) (hl : b < u.heap.size) : Asks u 46 #[.pointer (some ⟨b, 0, none⟩)] (dueF now) := by
  refine ⟨enters_of Tryz.func46 (by kernel_rfl) rfl, fun x z hz => ?_⟩
  show Calls Tryz.prog 46 #[.agg (wtC x).toArray, .pointer (some ⟨b, 0, none⟩)] z _
  obtain ⟨W1, hW1⟩ : ∃ Z, Z = z.alloc (.cells (wtC x).toArray 31) := ⟨_, rfl⟩
  have b1 : Below z.heap.size z W1 := by rw [hW1]; exact (Below.refl _ _).alloc (Nat.le_refl _) _
  have c4 : W1.cell? ⟨z.heap.size, 4, none⟩ = some (.int .i64 x.2.2.2.2) := by rw [hW1]; exact ((BoxL.new z 31 (wtC x)).2 4 _ rfl).1
  have cb : W1.cell? ⟨b, 0, none⟩ = some (.int .i64 now) := ((on2 hz b1).cell (p := ⟨b, 0, none⟩) hl).trans hb
  have HW1 : Hid (z.alloc (.cells (wtC x).toArray 31) = W1) := hW1.symm
  have HB : Hid (Below z.heap.size z W1) := b1
  have HD : Hid (dueF now x = decide (x.2.2.2.2 ≤ now)) := rfl
  clear hW1 b1
  generalize dueF now x = d at HD
  go_enter Tryz.func46, Tryz.ntmps46
  go_upto_region 1 with fail
  rw [HW1.out]
  clear HW1
  go_wp2
  go_ret
  exact ⟨by rw [HD.out]; rfl, HB.out⟩
set_option maxHeartbeats 16000000 in
theorem ytick_calls {F : Where} {u : World} {p : Nat} {S : List EnD} {n : Int} {Ws : List WiD} (h : QA F u p S n Ws) (hF : ∀ b, u.heap.size ≤ b → F b) (now : Int) (hl : S.length < 1000000000) :
    Calls Tryz.prog 14 #[.pointer (some ⟨p, 0, none⟩), .int .i64 now] u fun e w' => e = .returned (.tuple #[.int .i64 (tkN S now), .int .i64 (nowE now)]) ∧ QA F w' p (tkL S now) n Ws ∧ Turns F u w' := by
  have HF : Hid (∀ b, u.heap.size ≤ b → F b) := hF
  obtain ⟨W1, hW1⟩ : ∃ Z, Z = u.alloc (.cells #[.int .i64 now] 3) := ⟨_, rfl⟩
  have b1 : Below u.heap.size u W1 := by rw [hW1]; exact (Below.refl _ _).alloc (Nat.le_refl _) _
  have q1 : u.heap.size < W1.heap.size ∧ W1.cell? ⟨u.heap.size, 0, none⟩ = some (.int .i64 now) := by rw [hW1]; exact ⟨(BoxL.new u 3 [.int .i64 now]).1, ((BoxL.new u 3 [.int .i64 now]).2 0 _ rfl).1⟩
  have HW1 : Hid (u.alloc (.cells #[.int .i64 now] 3) = W1) := hW1.symm
  have h := h.on b1
  have HT1 : Hid (Turns F u W1) := Turns.below b1
  have c9 := q1.2
  have HQ : Hid (QA F W1 p S n Ws) := h
  have hG := ygather_calls h hl 2 46 #[.pointer (some ⟨u.heap.size, 0, none⟩)] (dueF now) (ytikf_asks W1 u.heap.size now q1.2 q1.1)
  have HS : Hid (S.length < 1000000000) := hl
  obtain ⟨hb, sb, nb, A, h⟩ := h
  have hN := yagNow_calls h.c0 now
  clear h hF hl hW1 b1 q1
  cases hw : whenY now with
  | false =>
    have HR : Hid (tkN S now = 0 ∧ nowE now = 2 ∧ tkL S now = S) := ⟨by unfold tkN; rw [if_neg (by rw [hw]; decide)], by unfold nowE; rw [if_neg (by rw [hw]; decide)], by unfold tkL; rw [if_neg (by rw [hw]; decide)]⟩
    rw [hw] at hN
    clear hw hG
    go_enter Tryz.func14, Tryz.ntmps14
    go_upto_region 1 with fail
    rw [HW1.out]
    go_wp2_with fail
    refine hN.mono ?_
    rintro e w2 ⟨rfl, hw2⟩
    obtain rfl := hw2.symm
    clear hN
    go_wp2_with fail
    go_ret2
    exact ⟨by rw [HR.out.1, HR.out.2.1]; rfl, by rw [HR.out.2.2]; exact HQ.out, HT1.out⟩
  | true =>
    have HRL : Hid (tkL S now = S.map (tkE now)) := by rw [Hid]; unfold tkL; rw [if_pos hw]
    have HRN : Hid (tkN S now = ((gatP 2 (dueF now) S).length : Int) ∧ nowE now = 0) := ⟨by unfold tkN; rw [if_pos hw], by unfold nowE; rw [if_pos hw]⟩
    rw [hw] at hN
    clear hw
    go_enter Tryz.func14, Tryz.ntmps14
    go_upto_region 1 with fail
    rw [HW1.out]
    go_wp2_with fail
    refine hN.mono ?_
    rintro e w2 ⟨rfl, hw2⟩
    obtain rfl := hw2.symm
    clear hN
    go_wp2_with fail
    refine hG.mono ?_
    rintro e w2 ⟨v, l, rfl, hrow, hperm, hsrt⟩
    obtain ⟨va, vn, vc, rfl⟩ := hrow.headG
    have hvn : l.length = vn := by
      obtain ⟨xs, ⟨_, _, ⟨e1, h0⟩ | ⟨g', cap', cur, e1, _⟩⟩, _⟩ := hrow
      · simp only [Value.slice.injEq] at e1; omega
      · simp only [Value.slice.injEq] at e1; omega
    subst hvn
    have HB2 : Hid (Below W1.heap.size W1 w2) := hrow.below
    have HGe : Hid (∀ k, k < l.length → ∃ e ∈ S, e.1 = l.getD k default ∧ e.2 = 2 ∧ (l.take k).any (fun x => sEq x.1 e.1.1) = false) := fun k hk => gat_at HQ.out.nd hperm hk
    have HEnd : Hid (shfS S (fun _ => 1) l = S.map (tkE now) ∧ l.length = (gatP 2 (dueF now) S).length) := ⟨tk_all HQ.out.nd hperm, hperm.length_eq⟩
    have HG : Hid (∀ k, k < l.length → ∃ g c, Value.slice va l.length vc = .slice (some ⟨g, 0, none⟩) l.length c ∧ W1.heap.size ≤ g ∧ g < w2.heap.size ∧ okS (l.getD k default).1 ∧ ∀ z : World, z.heap[g]? = w2.heap[g]? → z.rangeAt g (k * 5) (wtC (l.getD k default))) := fun k hk => by
      obtain ⟨g, c, cs, e, hg, hr, hc⟩ := hrow.getG RWt.firm hk
      obtain ⟨rfl, h2⟩ : cs = wtC _ ∧ _ := hr
      refine ⟨g, c, e, (hrow.lt (b := g) (by rw [e]; rfl)).1, hg, h2, fun z hz j v hj => ?_⟩
      have h3 := hc j v hj
      simp only [World.cell?, hz] at h3 ⊢
      exact h3
    have HVl : Hid (∀ b, (Value.slice va l.length vc).ownBlock = some b → W1.heap.size ≤ b ∧ b < w2.heap.size) := fun b hb => hrow.lt hb
    have HI0 : Hid (QA (fun b => F b ∧ (Value.slice va l.length vc).ownBlock ≠ some b) w2 p (shfS S (fun _ => 1) (l.take 0)) n Ws ∧ Turns F u w2 ∧ ∀ b, (Value.slice va l.length vc).ownBlock = some b → w2.heap[b]? = w2.heap[b]?) := by
      refine ⟨?_, HT1.out.trans (Turns.below hrow.below), fun b _ => rfl⟩
      rw [List.take_zero, shf_nil]
      exact (HQ.out.weak (fun b hb hf => ⟨hf, fun e => by have := (hrow.lt e).1; omega⟩)).on hrow.below
    obtain ⟨m, hm⟩ : ∃ m, m = l.length := ⟨_, rfl⟩
    have HLm : Hid (m < 1000000000) := by have h1 := HEnd.out.2; have h2 := gat_len 2 (dueF now) S; have h3 := HS.out; rw [Hid]; omega
    have hml : m < 1000000000000000 := by have := HLm.out; omega
    have HQn : Hid ((S.map enN).Nodup ∧ (∀ e ∈ S, okE e)) := ⟨HQ.out.nd, HQ.out.ok⟩
    rw [← hm] at HG HVl HI0 HGe ⊢
    have Hm : Hid (m = l.length) := hm
    clear hG hrow hperm hsrt hm c9
    go_wp2_with fail
    --M1
    go_loopw [21] (fun i wr => ∃ k : Nat, k ≤ m ∧ i = .int .i64 k ∧ Hid (QA (fun b => F b ∧ (Value.slice va m vc).ownBlock ≠ some b) wr p (shfS S (fun _ => 1) (l.take k)) n Ws ∧ Turns F u wr ∧ (∀ b, (Value.slice va m vc).ownBlock = some b → wr.heap[b]? = w2.heap[b]?) ∧ w2.heap.size ≤ wr.heap.size)) (fun i _ => m - (intOf i).toNat)
    case atStart => exact ⟨0, Nat.zero_le _, rfl, HI0.out.1, HI0.out.2.1, fun _ _ => rfl, Nat.le_refl _⟩
    case round =>
      obtain ⟨k, hk, rfl, HI⟩ := hrel
      by_cases hlt : k < m
      · have hltz : (k : Int) < (m : Int) := by omega
        obtain ⟨g, c, ev, hge, hg, hok, hr⟩ := HG.out k hlt
        obtain ⟨e, heS, he1, he2, heN⟩ := HGe.out k hlt
        obtain ⟨rfl, rfl⟩ : va = some ⟨g, 0, none⟩ ∧ vc = c := by simp only [Value.slice.injEq] at ev; exact ⟨ev.1, ev.2.2⟩
        have hrz := hr wr (HI.out.2.2.1 g rfl)
        have hst := shf_step (tgt := (fun _ => 1)) HQn.out.1 heS heN
        have HTk : Hid (l.take (k + 1) = l.take k ++ [e.1]) := by rw [Hid, List.take_succ_eq_append_getElem (by rw [← Hm.out]; exact hlt), he1, List.getD_eq_getElem?_getD, List.getElem?_eq_getElem (by rw [← Hm.out]; exact hlt)]; rfl
        have HSt : Hid ((shfS S (fun _ => 1) (l.take (k + 1))).Perm (othG enN e.1.1 (shfS S (fun _ => 1) (l.take k)) ++ [(e.1, (fun _ => 1) e.1)])) := by rw [Hid, HTk.out]; exact hst
        have hoke := HQn.out.2 e heS
        rw [← he1] at hrz
        obtain ⟨W3, hW3⟩ : ∃ Z, Z = wr.alloc (.cells (wtC e.1).toArray 31) := ⟨_, rfl⟩
        have b3 : Below wr.heap.size wr W3 := by rw [hW3]; exact (Below.refl _ _).alloc (Nat.le_refl _) _
        have q3 : BoxL W3 wr.heap.size (wtC e.1) := by rw [hW3]; exact BoxL.new wr 31 _
        have hC := fun (pl' : Int) (hpl : okE (e.1, pl')) => yshift_calls (HI.out.1.on b3) (fun b hb => ⟨HF.out b (Nat.le_trans HI.out.2.1.size (Nat.le_trans b3.size hb)), fun e => by have e2 : g = b := (by injection e); have h1 := HI.out.2.2.2; have h2 := b3.size; omega⟩) e.1 pl' hpl (by rw [shf_len]; exact HS.out)
        have HX3 : Hid (BoxL W3 wr.heap.size (wtC e.1) ∧ Below wr.heap.size wr W3) := ⟨q3, b3⟩
        have HW3 : Hid (wr.alloc (.cells (wtC e.1).toArray 31) = W3) := hW3.symm
        have HNx : Hid (∀ w4, QA (fun b => F b ∧ (Value.slice (some ⟨g, 0, none⟩) m vc).ownBlock ≠ some b) w4 p (othG enN e.1.1 (shfS S (fun _ => 1) (l.take k)) ++ [(e.1, (fun _ => 1) e.1)]) n Ws → Turns (fun b => F b ∧ (Value.slice (some ⟨g, 0, none⟩) m vc).ownBlock ≠ some b) W3 w4 → QA (fun b => F b ∧ (Value.slice (some ⟨g, 0, none⟩) m vc).ownBlock ≠ some b) w4 p (shfS S (fun _ => 1) (l.take (k + 1))) n Ws ∧ Turns F u w4 ∧ (∀ b, (Value.slice (some ⟨g, 0, none⟩) m vc).ownBlock = some b → w4.heap[b]? = w2.heap[b]?) ∧ w2.heap.size ≤ w4.heap.size) := fun w4 hq ht => by
          refine ⟨hq.perm HSt.out, HI.out.2.1.trans ((Turns.below b3).trans (ht.weak (fun b _ hf => hf.1))), fun b hb => ?_, Nat.le_trans HI.out.2.2.2 (Nat.le_trans b3.size ht.size)⟩
          have hb2 := hb
          injection hb with hb
          subst hb
          have h1 := HI.out.2.2.2
          exact (ht.block g (by have := b3.size; omega) (fun hf => hf.2 hb2)).trans ((b3.block g (by omega)).trans (HI.out.2.2.1 g hb2))
        clear hst hr ev hok hW3 b3 q3 heN he1 he2 HSt HTk HI0
        obtain ⟨⟨x0, x1, x2, x3, x4⟩, xp⟩ := e
        have d0 := hrz 0 _ rfl
        have d1 := hrz 1 _ rfl
        have d2 := hrz 2 _ rfl
        have d3 := hrz 3 _ rfl
        have d4 := hrz 4 _ rfl
        rw [Nat.add_zero] at d0
        have HX : Hid (wr.rangeAt g (k * 5) (wtC (x0, x1, x2, x3, x4))) := hrz
        clear hrz
        go_upto_region 8 with (first | (refine wpList_load_mid rfl 31 _ rfl g (k * 5) rfl (wtC (x0, x1, x2, x3, x4)) _ HX.out Tryz.underlying31 rfl (by kernel_rfl) ?_) | fail)
        --M2
        rw [HW3.out]
        clear d0 d1 d2 d3 d4 HX HW3
        have HX4 : Hid (W3.rangeAt wr.heap.size 0 (wtC (x0, x1, x2, x3, x4))) := HX3.out.1.range
        have hC2 := hC 1 ⟨hoke.1, hoke.2.1, .inl rfl⟩
        clear hC
        have HNx2 : Hid (∀ w4, QA (fun b => F b ∧ (Value.slice (some ⟨g, 0, none⟩) m vc).ownBlock ≠ some b) w4 p (othG enN x0 (shfS S (fun _ => 1) (l.take k)) ++ [((x0, x1, x2, x3, x4), 1)]) n Ws → Turns (fun b => F b ∧ (Value.slice (some ⟨g, 0, none⟩) m vc).ownBlock ≠ some b) W3 w4 → QA (fun b => F b ∧ (Value.slice (some ⟨g, 0, none⟩) m vc).ownBlock ≠ some b) w4 p (shfS S (fun _ => 1) (l.take (k + 1))) n Ws ∧ Turns F u w4 ∧ (∀ b, (Value.slice (some ⟨g, 0, none⟩) m vc).ownBlock = some b → w4.heap[b]? = w2.heap[b]?) ∧ w2.heap.size ≤ w4.heap.size) := by have h1 := HNx.out; exact h1
        clear HNx HX3
        go_wp2_with (first | (refine wpList_load_mid rfl 31 _ rfl wr.heap.size 0 rfl (wtC (x0, x1, x2, x3, x4)) _ HX4.out Tryz.underlying31 rfl (by kernel_rfl) ?_) | fail)
        refine hC2.mono ?_
        rintro e w4 ⟨rfl, h4, t4⟩
        have HN4 := HNx2.out w4 h4 t4
        have HN5 : Hid (_ ∧ _) := HN4
        clear HN4 hC2 h4 t4 HNx2
        go_wp2_with fail
        go_roundw
        case rel => exact ⟨k + 1, by omega, by go_num, HN5.out⟩
        case measure => simp [intOf]; omega
      · have hkm : k = m := by omega
        have HFn : Hid (QA F wr p (S.map (tkE now)) n Ws ∧ Turns F u wr) := by
          have h1 := HI.out.1
          rw [hkm, Hm.out, List.take_length, HEnd.out.1] at h1
          exact ⟨h1.weak (fun b _ hf => hf.1), HI.out.2.1⟩
        have HNm : Hid (tkN S now = (m : Int)) := by rw [Hid, HRN.out.1, ← HEnd.out.2, ← Hm.out]
        clear HI hkm HI0
        go_wp2_with fail
        --M3
        go_ret2
        exact ⟨by rw [HNm.out, HRN.out.2]; rfl, by rw [HRL.out]; exact HFn.out.1, HFn.out.2⟩
end Go.Proofs.YtbmejaailhjgfaaGreat
namespace Go.Proofs.YtbmejaailhjgfaaGreat
open Go.RowKit Go.Maps
set_option linter.unusedSimpArgs false
set_option maxRecDepth 100000

def sA : ByteArray := ⟨#[97]⟩
def sB : ByteArray := ⟨#[98]⟩
def sC : ByteArray := ⟨#[99]⟩
def eA : EnD := ((sA, 1, 0, 0, 0), 1)
def eB : EnD := ((sB, 5, 1, 0, 0), 1)
def eC : EnD := ((sC, 1, 2, 0, 0), 1)
theorem pop_w1 {x : WtD} {er : Int} {S' : List EnD} (h : PopO [eA, eB, eC] x er S') : x = (sB, 5, 1, 1, 0) ∧ er = 0 ∧ S' = [eA, eC] := by
  rcases h with ⟨h0, _⟩ | ⟨e, he, hp, ha, rfl, rfl, rfl⟩
  · exact absurd (congrArg List.length h0) (by decide +kernel)
  · simp only [List.mem_cons, List.not_mem_nil, or_false] at he
    rcases he with rfl | rfl | rfl
    · exact absurd (ha eB (by simp) rfl (by decide +kernel)) (by decide +kernel)
    · exact ⟨rfl, rfl, by decide +kernel⟩
    · exact absurd (ha eB (by simp) rfl (by decide +kernel)) (by decide +kernel)
theorem pop_w2 {x : WtD} {er : Int} {S' : List EnD} (h : PopO [eA, eC] x er S') : x = (sA, 1, 0, 1, 0) ∧ er = 0 ∧ S' = [eC] := by
  rcases h with ⟨h0, _⟩ | ⟨e, he, hp, ha, rfl, rfl, rfl⟩
  · exact absurd (congrArg List.length h0) (by decide +kernel)
  · simp only [List.mem_cons, List.not_mem_nil, or_false] at he
    rcases he with rfl | rfl
    · exact ⟨rfl, rfl, by decide +kernel⟩
    · exact absurd (ha eA (by simp) rfl (by decide +kernel)) (by decide +kernel)
theorem okL (a b : Nat) (h : a < 10 ∧ b < 1000000000) : b < 1000000000 := h.2
set_option maxHeartbeats 16000000 in
theorem works14_calls (w : World) : Calls Tryz.prog 31 #[] w fun e w' => e = .returned (.bool true) ∧ Below w.heap.size w w' := by
  have hN := ynew_calls w
  go_enter Tryz.func31, Tryz.ntmps31
  go_wp2_with fail
  refine hN.mono ?_
  rintro e w1 ⟨p, rfl, h1, b1⟩
  clear hN
  have t1 : Turns (Fresh w) w w1 := Turns.below b1
  have hC := yadd_calls h1 (fun b hb => Nat.le_trans t1.size hb) sA (by show sA.size ≤ 140737488355328; decide +kernel) 1 (by decide) ⟨by decide, by decide⟩
  rw [show agY [] sA = 0 by decide +kernel, addL_0, show addN 0 0 = 1 by decide +kernel] at hC
  go_wp2_with fail
  --M1
  refine hC.mono ?_
  rintro e w2 ⟨rfl, h2, k2⟩
  have t2 := t1.trans k2
  clear hC h1 t1 k2 b1
  have hC := yadd_calls h2 (fun b hb => Nat.le_trans t2.size hb) sB (by show sB.size ≤ 140737488355328; decide +kernel) 5 (by decide) ⟨by decide, by decide⟩
  rw [show agY ([] ++ [((sA, 1, 0, 0, 0), 1)]) sB = 0 by decide +kernel, addL_0, show addN 1 0 = 2 by decide +kernel] at hC
  go_wp2_with fail
  refine hC.mono ?_
  rintro e w3 ⟨rfl, h3, k3⟩
  have t3 := t2.trans k3
  clear hC h2 t2 k3
  have hC := yadd_calls h3 (fun b hb => Nat.le_trans t3.size hb) sC (by show sC.size ≤ 140737488355328; decide +kernel) 1 (by decide) ⟨by decide, by decide⟩
  rw [show agY ([] ++ [((sA, 1, 0, 0, 0), 1)] ++ [((sB, 5, 1, 0, 0), 1)]) sC = 0 by decide +kernel, addL_0, show addN 2 0 = 3 by decide +kernel] at hC
  go_wp2_with fail
  refine hC.mono ?_
  rintro e w4 ⟨rfl, h4, k4⟩
  have t4 := t3.trans k4
  clear hC h3 t3 k4
  have h4 : QA (Fresh w) w4 p [eA, eB, eC] 3 [] := h4
  have hC := ypop_calls h4 (fun b hb => Nat.le_trans t4.size hb) (by decide) (by decide +kernel)
  go_wp2_with fail
  refine hC.mono ?_
  rintro e w5 ⟨x, er, S', rfl, ho, h5, k5⟩
  obtain ⟨rfl, rfl, rfl⟩ := pop_w1 ho
  have t5 := t4.trans k5
  clear hC h4 t4 k5 ho
  go_wp2_with fail
  obtain ⟨W6, hW6⟩ : ∃ Z, Z = w5.alloc (.cells #[.string sB, .int .i64 5, .int .i64 1, .int .i64 1, .int .i64 0] 31) := ⟨_, rfl⟩
  have a6 : Below w5.heap.size w5 W6 := by rw [hW6]; exact (Below.refl _ _).alloc (Nat.le_refl _) _
  have q6 : BoxL W6 w5.heap.size [.string sB, .int .i64 5, .int .i64 1, .int .i64 1, .int .i64 0] := by rw [hW6]; exact BoxL.new w5 31 _
  have h6 := (h5.weak (G := fun b => Fresh w b ∧ b ≠ w5.heap.size) (fun b hb hf => ⟨hf, by omega⟩)).on a6
  have t6 := t5.trans (Turns.below a6)
  have hF6 : ∀ b, W6.heap.size ≤ b → Fresh w b ∧ b ≠ w5.heap.size := fun b hb => ⟨Nat.le_trans t6.size hb, by have := q6.1; omega⟩
  have hC := ypop_calls h6 hF6 (by decide) (by decide +kernel)
  rw [← hW6]
  clear hW6 a6 h5 t5
  --M2
  refine hC.mono ?_
  rintro e w7 ⟨x, er, S', rfl, ho, h7, k7⟩
  obtain ⟨rfl, rfl, rfl⟩ := pop_w2 ho
  have t7 := t6.trans (k7.weak (fun b _ hf => hf.1))
  have q7 := k7.box q6 (fun hf => hf.2 rfl)
  clear hC h6 t6 k7 ho q6 hF6
  have hF7 : Hid (w5.heap.size < w7.heap.size) := q7.1
  have HX7 : Hid (BoxL w7 w5.heap.size [.string sB, .int .i64 5, .int .i64 1, .int .i64 1, .int .i64 0]) := q7
  have HT7 : Hid (Turns (Fresh w) w w7) := t7
  clear q7 t7
  go_upto_region 8 with fail
  obtain ⟨W8, hW8⟩ : ∃ Z, Z = w7.alloc (.cells #[.string sA, .int .i64 1, .int .i64 0, .int .i64 1, .int .i64 0] 31) := ⟨_, rfl⟩
  have a8 : Below w7.heap.size w7 W8 := by rw [hW8]; exact (Below.refl _ _).alloc (Nat.le_refl _) _
  have q8 : BoxL W8 w7.heap.size [.string sA, .int .i64 1, .int .i64 0, .int .i64 1, .int .i64 0] := by rw [hW8]; exact BoxL.new w7 31 _
  have h8 := (h7.weak (G := fun b => (Fresh w b ∧ b ≠ w5.heap.size) ∧ b ≠ w7.heap.size) (fun b hb hf => ⟨hf, by omega⟩)).on a8
  have t8 := HT7.out.trans (Turns.below a8)
  have hF8 : ∀ b, W8.heap.size ≤ b → (Fresh w b ∧ b ≠ w5.heap.size) ∧ b ≠ w7.heap.size := fun b hb => ⟨⟨Nat.le_trans t8.size hb, by have := q8.1; have := hF7.out; omega⟩, by have := q8.1; omega⟩
  have hC := yback_calls h8 hF8 (sA, 1, 0, 1, 0) (by show sA.size ≤ 140737488355328; decide +kernel) (by decide) 3 true (by decide)
  rw [show bkY [eC] (sA, 1, 0, 1, 0).1 3 = 0 by decide +kernel, addL_0, show backE (sA, 1, 0, 1, 0) 3 true = ((sA, 1, 0, 1, 4), 2) by decide +kernel] at hC
  rw [← hW8]
  have HX8 : Hid (W8.rangeAt w7.heap.size 0 [.string sA, .int .i64 1, .int .i64 0, .int .i64 1, .int .i64 0]) := q8.range
  have q8b := HX7.out.on a8
  clear hW8 a8 h7 HT7 HX7 hF7
  --M3
  go_wp2_with (first | (refine wpList_load_mid rfl 31 _ rfl w7.heap.size 0 rfl [.string sA, .int .i64 1, .int .i64 0, .int .i64 1, .int .i64 0] _ HX8.out Tryz.underlying31 rfl (by kernel_rfl) ?_) | fail)
  refine hC.mono ?_
  rintro e w9 ⟨rfl, h9, k9⟩
  have t9 := t8.trans (k9.weak (fun b _ hf => hf.1.1))
  have q9 := k9.box q8 (fun hf => hf.2 rfl)
  have q9b := k9.box q8b (fun hf => hf.1.2 rfl)
  have hF9 : ∀ b, w9.heap.size ≤ b → (Fresh w b ∧ b ≠ w5.heap.size) ∧ b ≠ w7.heap.size := fun b hb => hF8 b (Nat.le_trans k9.size hb)
  clear hC h8 t8 k9 q8 q8b hF8 HX8
  have hC := ytick_calls h9 hF9 3 (by decide)
  rw [show tkN ([eC] ++ [((sA, 1, 0, 1, 4), 2)]) 3 = 0 by decide +kernel, show tkL ([eC] ++ [((sA, 1, 0, 1, 4), 2)]) 3 = [eC, ((sA, 1, 0, 1, 4), 2)] by decide +kernel, show nowE 3 = 0 by decide +kernel] at hC
  have HQ9 : Hid (BoxL w9 w7.heap.size [.string sA, .int .i64 1, .int .i64 0, .int .i64 1, .int .i64 0] ∧ BoxL w9 w5.heap.size [.string sB, .int .i64 5, .int .i64 1, .int .i64 1, .int .i64 0] ∧ Turns (Fresh w) w w9 ∧ ∀ b, w9.heap.size ≤ b → (Fresh w b ∧ b ≠ w5.heap.size) ∧ b ≠ w7.heap.size) := ⟨q9, q9b, t9, hF9⟩
  clear h9 t9 q9 q9b hF9
  go_wp2_with fail
  refine hC.mono ?_
  rintro e w10 ⟨rfl, h10, k10⟩
  have hC := ytick_calls h10 (fun b hb => HQ9.out.2.2.2 b (Nat.le_trans k10.size hb)) 4 (by decide)
  rw [show tkN [eC, ((sA, 1, 0, 1, 4), 2)] 4 = 1 by decide +kernel, show nowE 4 = 0 by decide +kernel] at hC
  have HQ10 : Hid (BoxL w10 w7.heap.size [.string sA, .int .i64 1, .int .i64 0, .int .i64 1, .int .i64 0] ∧ BoxL w10 w5.heap.size [.string sB, .int .i64 5, .int .i64 1, .int .i64 1, .int .i64 0] ∧ Turns (Fresh w) w w10) := ⟨k10.box HQ9.out.1 (fun hf => hf.2 rfl), k10.box HQ9.out.2.1 (fun hf => hf.1.2 rfl), HQ9.out.2.2.1.trans (k10.weak (fun b _ hf => hf.1.1))⟩
  clear h10 k10 HQ9
  go_wp2_with fail
  refine hC.mono ?_
  rintro e w11 ⟨rfl, h11, k11⟩
  have q11 := k11.box HQ10.out.1 (fun hf => hf.2 rfl)
  have q11b := k11.box HQ10.out.2.1 (fun hf => hf.1.2 rfl)
  have HT11 : Hid (Turns (Fresh w) w w11) := HQ10.out.2.2.trans (k11.weak (fun b _ hf => hf.1.1))
  have d0 : w11.cell? ⟨w5.heap.size, 0, none⟩ = some (.string sB) := (q11b.2 0 _ rfl).1
  have d1 : w11.cell? ⟨w7.heap.size, 0, none⟩ = some (.string sA) := (q11.2 0 _ rfl).1
  have d2 : w11.cell? ⟨w7.heap.size, 3, none⟩ = some (.int .i64 1) := (q11.2 3 _ rfl).1
  have hD := ydelay_calls 3 (by decide) w11
  rw [show delayY 3 = 4 by decide +kernel] at hD
  have e1 : (sB.toList == [98]) = true := by decide +kernel
  have e2 : (sA.toList == [97]) = true := by decide +kernel
  clear hC h11 k11 HQ10 q11 q11b
  go_wp2_with fail
  --M4
  refine hD.mono ?_
  rintro e w12 ⟨rfl, hw12⟩
  obtain rfl := hw12.symm
  go_wp2_with fail
  go_ret
  exact ⟨rfl, Turns.behind (Below.refl _ _) HT11.out⟩
end Go.Proofs.YtbmejaailhjgfaaGreat
namespace Go.Proofs.YtbmejaailhjgfaaGreat
open Go.RowKit Go.Maps
set_option linter.unusedSimpArgs false
set_option maxRecDepth 100000

/-- 'm[s] = v'. -/
theorem wpList_updY {α : Type} {key : α → ByteArray} {val : α → Value} {S : List α} {w : World} {ops : Array Oper} {rest : List Oper} {o : Oper} {a : Act} {Q : Exit → Act → World → Prop} {mb : Nat} (hg : o.guard = none) (m k z : Operand) (t : TypeId) (hop : o.op = Op.mapUpdate t m k z)
    (e : TypeId) (ht : Tryz.prog.underlying t = some (.map 9 e)) (hm : a.eval m = .map (some mb)) (x : α) (hs : (key x).size ≤ 140737488355328) (hk : a.eval k = .string (key x)) (hz : a.eval z = val x) (h : MpL w mb key val S) (hn : S.length < 140737488355328)
    (hK : ∀ w', MpL w' mb key val (othG key (key x) S ++ [x]) → w.mapTurned w' mb → wpList Tryz.prog ops Q rest (a.put o.dst undef) w') : wpList Tryz.prog ops Q (o :: rest) a w := by
  refine wpList_plain hg fun K' hK' => ?_
  obtain ⟨w', hrun, r1, r2⟩ := h.put t e ht x hs hn
  unfold Oper.wp
  simp [execOp, hop, hm, hk, hz, hrun, Result.andThen]
  exact hK' _ _ (hK w' r1 r2)
def hoE (s : ByteArray) : Int := if s.toList.isEmpty = true then 2 else 0
/-- The wishes behind Hope. -/
def hpY (Ws : List WiD) (s nd : ByteArray) : List WiD := if s.toList.isEmpty = true then Ws else if nd.toList.isEmpty = true then othG Prod.fst s Ws else othG Prod.fst s Ws ++ [(s, nd)]
set_option maxHeartbeats 8000000 in
theorem yhope_calls {F : Where} {u : World} {p : Nat} {S : List EnD} {n : Int} {Ws : List WiD} (h : QA F u p S n Ws) (s nd : ByteArray) (hs : okS s) (hnd : okS nd) (hl : Ws.length < 1000000000) :
    Calls Tryz.prog 18 #[.pointer (some ⟨p, 0, none⟩), .string s, .string nd] u fun e w' => e = .returned (.int .i64 (hoE s)) ∧ QA F w' p S n (hpY Ws s nd) ∧ Turns F u w' := by
  have HQ : Hid (QA F u p S n Ws) := h
  obtain ⟨hb, sb, nb, A, h⟩ := h
  have c0 := h.c0
  have c2 := h.c2
  have hM := ymade_calls c0 ⟨_, rfl⟩
  have H : Hid (QF F u p hb sb nb A S n Ws) := h
  clear h
  cases he : s.toList.isEmpty with
  | true =>
    have HR : Hid (hoE s = 2 ∧ hpY Ws s nd = Ws) := ⟨by unfold hoE; rw [if_pos he], by unfold hpY; rw [if_pos he]⟩
    have he2 : (s.toList == []) = true := by simpa using he
    go_enter Tryz.func18, Tryz.ntmps18
    go_wp2_with (go_at_call 36; refine hM.mono ?_; rintro e w' ⟨rfl, hw'⟩; obtain rfl := hw'.symm)
    go_ret
    exact ⟨by rw [HR.out.1]; rfl, by rw [HR.out.2]; exact HQ.out, Turns.refl _ _⟩
  | false =>
    have he2 : (s.toList == []) = false := by simpa using he
    have HE : Hid (s.toList.isEmpty = false) := he
    clear HQ
    cases hn : nd.toList.isEmpty with
    | true =>
      have HR : Hid (hoE s = 0 ∧ hpY Ws s nd = othG Prod.fst s Ws) := ⟨by unfold hoE; rw [if_neg (by rw [he]; decide)], by unfold hpY; rw [if_neg (by rw [he]; decide), if_pos hn]⟩
      have hn2 : (nd.toList == []) = true := by simpa using hn
      go_enter Tryz.func18, Tryz.ntmps18
      go_wp2_with (first | (go_at_call 36; refine hM.mono ?_; rintro e w' ⟨rfl, hw'⟩; obtain rfl := hw'.symm) | (at_delete; refine wpList_delY rfl _ _ 58 rfl 80 Tryz.underlying58 rfl s hs rfl H.out.hopes ?_; intro w4 hm4 ht4))
      go_ret
      exact ⟨by rw [HR.out.1]; rfl, ⟨hb, sb, nb, A, by rw [HR.out.2]; exact H.out.hoped hm4 ht4 (fun y hy => H.out.okw y (mem_othG.1 hy).1)⟩, Turns.map ht4 H.out.fn⟩
    | false =>
      have HR : Hid (hoE s = 0 ∧ hpY Ws s nd = othG Prod.fst s Ws ++ [(s, nd)]) := ⟨by unfold hoE; rw [if_neg (by rw [he]; decide)], by unfold hpY; rw [if_neg (by rw [he]; decide), if_neg (by rw [hn]; decide)]⟩
      have hn2 : (nd.toList == []) = false := by simpa using hn
      have HN : Hid (nd.toList.isEmpty = false) := hn
      go_enter Tryz.func18, Tryz.ntmps18
      go_wp2_with (first | (go_at_call 36; refine hM.mono ?_; rintro e w' ⟨rfl, hw'⟩; obtain rfl := hw'.symm) | (at_mapUpdate; refine wpList_updY (key := Prod.fst) (val := hoC) rfl _ _ _ 58 rfl 80 Tryz.underlying58 rfl (s, nd) hs rfl rfl H.out.hopes (by omega) ?_; intro w4 hm4 ht4))
      --M1
      go_ret
      exact ⟨by rw [HR.out.1]; rfl, ⟨hb, sb, nb, A, by rw [HR.out.2]; exact H.out.hoped hm4 ht4 (fun y hy => by
        rcases List.mem_append.1 hy with hy | hy
        · exact H.out.okw y (mem_othG.1 hy).1
        · rw [List.mem_singleton.1 hy]; exact ⟨hs, hnd, HN.out⟩)⟩, Turns.map ht4 H.out.fn⟩
end Go.Proofs.YtbmejaailhjgfaaGreat
namespace Go.Proofs.YtbmejaailhjgfaaGreat
open Go.RowKit
set_option linter.unusedSimpArgs false
set_option maxRecDepth 100000

theorem infoEn : (Tryz.prog.info? 65).map (fun i => (i.zero, i.size, i.bytes)) = some (some (.agg #[.string ⟨#[]⟩, .int .i64 0, .int .i64 0, .int .i64 0, .int .i64 0, .int .i64 0]), 6, 56) := by kernel_rfl
theorem infoWi : (Tryz.prog.info? 82).map (fun i => (i.zero, i.size, i.bytes)) = some (some (.agg #[.string ⟨#[]⟩, .string ⟨#[]⟩]), 2, 32) := by kernel_rfl
/-- A queue: a struct at p with two lists of its own and a number. -/
structure RqE (w u : World) (p : Nat) (a b : Value) (L : List EnD) (n : Int) (Ws : List WiD) : Prop where
  box : BoxL u p [a, .int .i64 n, b]
  ra : Row REn 6 (fun _ => False) w u 65 a L
  rb : Row RWi 2 (fun _ => False) w u 82 b Ws
  lo : w.heap.size ≤ p
  na : a.ownBlock ≠ some p
  nb : b.ownBlock ≠ some p
  ne : ∀ x, a.ownBlock = some x → b.ownBlock ≠ some x
section
variable {w u : World} {p : Nat} {a b : Value} {L : List EnD} {n : Int} {Ws : List WiD}
theorem RqE.below (h : RqE w u p a b L n Ws) : Below w.heap.size w u := h.ra.below
theorem RqE.on (h : RqE w u p a b L n Ws) {u' : World} (hb : Below u.heap.size u u') : RqE w u' p a b L n Ws := ⟨h.box.on hb, h.ra.on REn.firm hb, h.rb.on RWi.firm hb, h.lo, h.na, h.nb, h.ne⟩
/-- The entries are another list, in a world where nothing else has turned. -/
theorem RqE.newA (h : RqE w u p a b L n Ws) {u' : World} {v' : Value} {L' : List EnD} (hk : Kept (fun x => a.ownBlock ≠ some x) u u') (hr : Row REn 6 (fun _ => False) w u' 65 v' L') (hw : v'.ownBlock = a.ownBlock ∨ ∀ x, v'.ownBlock = some x → u.heap.size ≤ x) : RqE w (u'.setCell ⟨p, 0, none⟩ v') p v' b L' n Ws := by
  have hp : p < u.heap.size := h.box.1
  have bp : w.heap.size ≤ (⟨p, 0, none⟩ : Addr).block := h.lo
  have hvp : v'.ownBlock ≠ some p := fun e => by
    rcases hw with e2 | e2
    · rw [e2] at e; exact h.na e
    · have := e2 p e; omega
  have k2 : ∀ {A : Where}, ¬ A p → Kept A u' (u'.setCell ⟨p, 0, none⟩ v') := fun {A} hn => Kept.set (p := ⟨p, 0, none⟩) hn _
  refine ⟨?_, hr.keptXG REn.firm (hr.below.setCell (p := ⟨p, 0, none⟩) bp _) (k2 (fun e => e.elim id hvp)), ?_, h.lo, hvp, h.nb, fun x e => ?_⟩
  · exact (h.box.kept (A := fun x => a.ownBlock ≠ some x) hk h.na).set 0 v' (by simp)
  · refine h.rb.keptXG RWi.firm (hr.below.setCell (p := ⟨p, 0, none⟩) bp _) ((hk.weak (fun x e => ?_)).trans (k2 (fun e => e.elim id h.nb)))
    exact fun e3 => e.elim id (fun e4 => h.ne x e3 e4)
  · rcases hw with e2 | e2
    · rw [e2] at e; exact h.ne x e
    · have h1 := e2 x e
      intro e3
      have := (h.rb.lt e3).2
      omega
/-- The wishes are another list. -/
theorem RqE.newB (h : RqE w u p a b L n Ws) {u' : World} {v' : Value} {W' : List WiD} (hk : Kept (fun x => b.ownBlock ≠ some x) u u') (hr : Row RWi 2 (fun _ => False) w u' 82 v' W') (hw : v'.ownBlock = b.ownBlock ∨ ∀ x, v'.ownBlock = some x → u.heap.size ≤ x) : RqE w (u'.setCell ⟨p, 2, none⟩ v') p a v' L n W' := by
  have hp : p < u.heap.size := h.box.1
  have bp : w.heap.size ≤ (⟨p, 2, none⟩ : Addr).block := h.lo
  have hvp : v'.ownBlock ≠ some p := fun e => by
    rcases hw with e2 | e2
    · rw [e2] at e; exact h.nb e
    · have := e2 p e; omega
  have k2 : ∀ {A : Where}, ¬ A p → Kept A u' (u'.setCell ⟨p, 2, none⟩ v') := fun {A} hn => Kept.set (p := ⟨p, 2, none⟩) hn _
  refine ⟨?_, ?_, hr.keptXG RWi.firm (hr.below.setCell (p := ⟨p, 2, none⟩) bp _) (k2 (fun e => e.elim id hvp)), h.lo, h.na, hvp, fun x e => ?_⟩
  · exact (h.box.kept (A := fun x => b.ownBlock ≠ some x) hk h.nb).set 2 v' (by simp)
  · refine h.ra.keptXG REn.firm (hr.below.setCell (p := ⟨p, 2, none⟩) bp _) ((hk.weak (fun x e => ?_)).trans (k2 (fun e => e.elim id h.na)))
    exact fun e3 => e.elim id (fun e4 => h.ne x e4 e3)
  · rcases hw with e2 | e2
    · rw [e2]; exact h.ne x e
    · intro e3
      have h1 := e2 x e3
      have := (h.ra.lt e).2
      omega
/-- The number is another one. -/
theorem RqE.num (h : RqE w u p a b L n Ws) (m : Int) : RqE w (u.setCell ⟨p, 1, none⟩ (.int .i64 m)) p a b L m Ws := by
  have bp : w.heap.size ≤ (⟨p, 1, none⟩ : Addr).block := h.lo
  have k2 : ∀ {A : Where}, ¬ A p → Kept A u (u.setCell ⟨p, 1, none⟩ (.int .i64 m)) := fun {A} hn => Kept.set (p := ⟨p, 1, none⟩) hn _
  exact ⟨h.box.set 1 _ (by simp), h.ra.keptXG REn.firm (h.below.setCell (p := ⟨p, 1, none⟩) bp _) (k2 (fun e => e.elim id h.na)), h.rb.keptXG RWi.firm (h.below.setCell (p := ⟨p, 1, none⟩) bp _) (k2 (fun e => e.elim id h.nb)), h.lo, h.na, h.nb, h.ne⟩
/-- An entry's place is another one. -/
theorem RqE.setP {g n' c : Nat} (h : RqE w u p (.slice (some ⟨g, 0, none⟩) n' c) b L n Ws) (hn : L.length = n') {i : Nat} (hi : i < n') (m : Int) : RqE w (u.setCell ⟨g, i * 6 + 5, none⟩ (.int .i64 m)) p (.slice (some ⟨g, 0, none⟩) n' c) b (L.set i ((L.getD i default).1, m)) n Ws := by
  subst hn
  have hg : g ≠ p := fun e => h.na (by rw [e]; rfl)
  have lg : w.heap.size ≤ (⟨g, i * 6 + 5, none⟩ : Addr).block := (h.ra.lt (b := g) rfl).1
  have r := h.ra.setG REn.firm (i := i) (j := 5) (val := .int .i64 m) (x := ((L.getD i default).1, m)) hi (by decide) (fun B cs hr => by obtain ⟨rfl, h2⟩ : cs = _ ∧ _ := hr; exact ⟨rfl, h2⟩)
  refine ⟨h.box.kept (A := fun b => b = p) (Kept.set (p := ⟨g, i * 6 + 5, none⟩) hg _) rfl, r, ?_, h.lo, h.na, h.nb, h.ne⟩
  exact h.rb.keptXG RWi.firm (h.below.setCell (p := ⟨g, i * 6 + 5, none⟩) lg _) (Kept.set (p := ⟨g, i * 6 + 5, none⟩) (fun e => e.elim id (fun e => h.ne g rfl e)) _)
/-- An entry's cells. -/
theorem RqE.get (h : RqE w u p a b L n Ws) {i : Nat} (hi : i < L.length) : ∃ g c, a = .slice (some ⟨g, 0, none⟩) L.length c ∧ g < u.heap.size ∧ okS (L.getD i default).1.1 ∧ u.rangeAt g (i * 6) (enC (L.getD i default)) ∧ ∀ o, u.frozen? ⟨g, o, none⟩ = false := by
  obtain ⟨g, c, cs, e, hg, hr, hc⟩ := h.ra.getG REn.firm hi
  obtain ⟨rfl, h2⟩ : cs = enC _ ∧ _ := hr
  refine ⟨g, c, e, hg, h2, hc, fun o => ?_⟩
  have := h.ra
  rw [e] at this
  exact this.meltsG
end
/-- A call's world: nothing but the queue's own blocks has turned. -/
def QS (p : Nat) (a b : Value) : Where := fun x => x = p ∨ a.ownBlock = some x ∨ b.ownBlock = some x
end Go.Proofs.YtbmejaailhjgfaaGreat
namespace Go.Proofs.YtbmejaailhjgfaaGreat
open Go.RowKit
set_option linter.unusedSimpArgs false
set_option maxRecDepth 100000

/-- Where a name stands. -/
def findP (L : List EnD) (s : ByteArray) : Option Nat := L.findIdx? (fun e => sEq e.1.1 s)
def fndI : Option Nat → Int
  | some i => (i : Int)
  | none => -1
theorem getD_at {α : Type} [Inhabited α] {L : List α} {k : Nat} (h : k < L.length) : L.getD k default = L[k] := by rw [List.getD_eq_getElem?_getD, List.getElem?_eq_getElem h]; rfl
theorem find_some {L : List EnD} {s : ByteArray} {k : Nat} (hk : k < L.length) (h1 : (L.getD k default).1.1 = s) (h2 : ∀ j, j < k → (L.getD j default).1.1 ≠ s) : findP L s = some k := by
  unfold findP
  rw [List.findIdx?_eq_some_iff_getElem]
  refine ⟨hk, by rw [getD_at hk] at h1; exact (sEq_iff _ _).2 h1, fun j hj => ?_⟩
  have h3 := h2 j hj
  rw [getD_at (Nat.lt_trans hj hk)] at h3
  exact fun e => h3 ((sEq_iff _ _).1 e)
theorem find_none {L : List EnD} {s : ByteArray} (h2 : ∀ j, j < L.length → (L.getD j default).1.1 ≠ s) : findP L s = none := by
  unfold findP
  rw [List.findIdx?_eq_none_iff]
  intro x hx
  obtain ⟨j, hj, rfl⟩ := List.getElem_of_mem hx
  have h3 := h2 j hj
  rw [getD_at hj] at h3
  exact Bool.eq_false_iff.2 (fun e => h3 ((sEq_iff _ _).1 e))
theorem find_is {L : List EnD} {s : ByteArray} {k : Nat} (h : findP L s = some k) : k < L.length ∧ (L.getD k default).1.1 = s := by
  unfold findP at h
  rw [List.findIdx?_eq_some_iff_getElem] at h
  obtain ⟨hk, h1, _⟩ := h
  exact ⟨hk, by rw [getD_at hk]; exact (sEq_iff _ _).1 h1⟩
set_option maxHeartbeats 4000000 in
theorem find_calls (w : World) (p : Nat) (a b : Value) (L : List EnD) (n : Int) (Ws : List WiD) (s : ByteArray) (u : World) (h : RqE w u p a b L n Ws) (hl : L.length * 56 ≤ 140737488351232) : Calls Tryz.prog 35 #[.pointer (some ⟨p, 0, none⟩), .string s] u fun e u' => e = .returned (.int .i64 (fndI (findP L s))) ∧ u' = u := by
  have Hh : Hid (RqE w u p a b L n Ws) := h
  obtain ⟨aa, m, cc, ea⟩ := h.ra.headG
  have hm : m = L.length := by
    obtain ⟨xs, ⟨_, _, ⟨e1, h0⟩ | ⟨g', cap', cur, e1, _⟩⟩, _⟩ := h.ra
    · rw [ea] at e1; simp only [Value.slice.injEq] at e1; omega
    · rw [ea] at e1; simp only [Value.slice.injEq] at e1; omega
  subst ea
  have c0 := (h.box.2 0 _ rfl).1
  have hml : m < 1000000000000000 := by omega
  have Hm : Hid (m = L.length) := hm
  clear h hm hl
  go_enter Tryz.func35, Tryz.ntmps35
  go_wp2_with fail
  go_loop [5] (fun i => ∃ k : Nat, k ≤ m ∧ i = .int .i64 k ∧ Hid (∀ j, j < k → (L.getD j default).1.1 ≠ s)) (fun i => m - (intOf i).toNat)
  case atStart => exact ⟨0, Nat.zero_le _, rfl, fun j hj => absurd hj (Nat.not_lt_zero _)⟩
  case round =>
    obtain ⟨k, hk, rfl, hno⟩ := hrel
    by_cases hge : m ≤ k
    · obtain rfl : k = m := by omega
      have hltz : ¬ ((k : Int) < (k : Int)) := by omega
      have HN : Hid (findP L s = none) := find_none (fun j hj => hno.out j (by rw [Hm.out]; exact hj))
      go_wp2_with fail
      go_ret
      exact ⟨by rw [HN.out]; rfl, rfl⟩
    · have hlt : k < m := by omega
      have hltz : (k : Int) < (m : Int) := by omega
      obtain ⟨g, c, e, hg, ok, hr, _⟩ := Hh.out.get (i := k) (by rw [← Hm.out]; exact hlt)
      obtain ⟨rfl, _⟩ : aa = some ⟨g, 0, none⟩ ∧ True := by simp only [Value.slice.injEq] at e; exact ⟨e.1, trivial⟩
      have d0 := hr 0 _ rfl
      rw [Nat.add_zero] at d0
      have HG : Hid ((L.getD k default).1.1 = s → findP L s = some k) := fun h1 => find_some (by rw [← Hm.out]; exact hlt) h1 hno.out
      have HNx : Hid ((L.getD k default).1.1 ≠ s → ∀ j, j < k + 1 → (L.getD j default).1.1 ≠ s) := fun h1 j hj => by
        rcases Nat.lt_or_ge j k with h2 | h2
        · exact hno.out j h2
        · obtain rfl : j = k := by omega
          exact h1
      generalize (L.getD k default).1.1 = y at d0 HG HNx
      clear hr e hno ok
      cases he : sEq y s
      case true =>
        have he' : (y.toList == s.toList) = true := he
        have HF : Hid (findP L s = some k) := HG.out ((sEq_iff _ _).1 he)
        clear HG HNx he
        go_wp2_with fail
        go_ret
        exact ⟨by rw [HF.out]; rfl, rfl⟩
      case false =>
        have he' : (y.toList == s.toList) = false := he
        have HF2 : Hid (∀ j, j < k + 1 → (L.getD j default).1.1 ≠ s) := HNx.out (fun e => by rw [(sEq_iff _ _).2 e] at he; cases he)
        clear HG HNx he
        go_wp2_with fail
        go_round
        case rel => exact ⟨k + 1, by omega, by go_num, HF2.out⟩
        case measure => simp [intOf]; omega
/-- How long one backs off. -/
def delayP (t : Int) : Int := if t < 1 then 0 else if t = 1 then 1 else if t = 2 then 2 else if t = 3 then 4 else if t = 4 then 8 else 16
theorem delay_in (t : Int) : 0 ≤ delayP t ∧ delayP t ≤ 16 := by unfold delayP; repeat' split <;> omega
set_option maxHeartbeats 4000000 in
theorem rDelay_calls (t : Int) (u : World) : Calls Tryz.prog 30 #[.int .i64 t] u fun e u' => e = .returned (.int .i64 (delayP t)) ∧ u' = u := by
  by_cases h1 : t < 1
  · have e1 : delayP t = 0 := by unfold delayP; rw [if_pos h1]
    rw [e1]
    go_enter Tryz.func30, Tryz.ntmps30
    go_wp2_with fail
    go_ret
    exact ⟨rfl, rfl⟩
  · go_enter Tryz.func30, Tryz.ntmps30
    go_wp2_with fail
    go_loop [3, 4] (fun d i => ((i = .int .i64 1 ∧ d = .int .i64 1) ∨ (i = .int .i64 2 ∧ d = .int .i64 2 ∧ 2 ≤ t) ∨ (i = .int .i64 3 ∧ d = .int .i64 4 ∧ 3 ≤ t) ∨ (i = .int .i64 4 ∧ d = .int .i64 8 ∧ 4 ≤ t) ∨ (i = .int .i64 5 ∧ d = .int .i64 16 ∧ 5 ≤ t))) (fun _ i => 5 - (intOf i).toNat)
    case atStart => exact .inl ⟨rfl, rfl⟩
    case round =>
      rcases hrel with ⟨rfl, rfl⟩ | ⟨rfl, rfl, ht⟩ | ⟨rfl, rfl, ht⟩ | ⟨rfl, rfl, ht⟩ | ⟨rfl, rfl, ht⟩
      · by_cases h2 : 1 < t
        · go_wp2_with fail
          go_round
          case rel => exact (.inr (.inl ⟨by go_num, by go_num, by omega⟩))
          case measure => simp [intOf]
        · have e1 : delayP t = 1 := by unfold delayP; rw [if_neg (by omega), if_pos (by omega)]
          have E1 : Hid (delayP t = _) := e1
          clear e1
          go_wp2_with fail
          go_ret
          exact ⟨by rw [E1.out]; rfl, rfl⟩
      · by_cases h2 : 2 < t
        · go_wp2_with fail
          go_round
          case rel => exact (.inr (.inr (.inl ⟨by go_num, by go_num, by omega⟩)))
          case measure => simp [intOf]
        · have e1 : delayP t = 2 := by unfold delayP; rw [if_neg (by omega), if_neg (by omega), if_pos (by omega)]
          have E1 : Hid (delayP t = _) := e1
          clear e1
          go_wp2_with fail
          go_ret
          exact ⟨by rw [E1.out]; rfl, rfl⟩
      · by_cases h2 : 3 < t
        · go_wp2_with fail
          go_round
          case rel => exact (.inr (.inr (.inr (.inl ⟨by go_num, by go_num, by omega⟩))))
          case measure => simp [intOf]
        · have e1 : delayP t = 4 := by unfold delayP; rw [if_neg (by omega), if_neg (by omega), if_neg (by omega), if_pos (by omega)]
          have E1 : Hid (delayP t = _) := e1
          clear e1
          go_wp2_with fail
          go_ret
          exact ⟨by rw [E1.out]; rfl, rfl⟩
      · by_cases h2 : 4 < t
        · go_wp2_with fail
          go_round
          case rel => exact (.inr (.inr (.inr (.inr ⟨by go_num, by go_num, by omega⟩))))
          case measure => simp [intOf]
        · have e1 : delayP t = 8 := by unfold delayP; rw [if_neg (by omega), if_neg (by omega), if_neg (by omega), if_neg (by omega), if_pos (by omega)]
          have E1 : Hid (delayP t = _) := e1
          clear e1
          go_wp2_with fail
          go_ret
          exact ⟨by rw [E1.out]; rfl, rfl⟩
      · have e1 : delayP t = 16 := by unfold delayP; rw [if_neg (by omega), if_neg (by omega), if_neg (by omega), if_neg (by omega), if_neg (by omega)]
        have E1 : Hid (delayP t = _) := e1
        clear e1
        by_cases h2 : 5 < t
        · go_wp2_with fail
          go_ret
          exact ⟨by rw [E1.out]; rfl, rfl⟩
        · go_wp2_with fail
          go_ret
          exact ⟨by rw [E1.out]; rfl, rfl⟩
/-- Is it a tick? -/
def whenB (t : Int) : Bool := decide (0 ≤ t) && decide (t ≤ 1099511627712)
end Go.Proofs.YtbmejaailhjgfaaGreat
