/- wish.clone gives a term and a map of its own. Condition: the wish lies as is said of it. near.cloneAll clones each wish. Condition: the wishes lie as is said of them, fewer than 1,000,000,000. -/
import Derived.Test.YtfnafgmengefaaaDoorQ10
namespace Go.Proofs.YtfnafgmengefaaaDoor
open Go.RowKit Go.Maps
set_option linter.unusedSimpArgs false
set_option maxRecDepth 100000

def WcS (D : Nat) (key : ByteArray) (mb : Nat) (u : World) : Prop := u.cell? ⟨D, 1, none⟩ = some (.string key) ∧ u.cell? ⟨D, 2, none⟩ = some (.map (some mb))
set_option maxHeartbeats 8000000 in
theorem wclone_calls {w : World} {cs : List Value} {A : Where} {x : WishD} {N : Nat} {f : Lab → Int} (hx : Hid (RWish A w cs x)) (hc : Hid (CntAt w x.2 N f)) :
    Calls Tryd.prog 64 #[.agg cs.toArray] w fun e w' => ∃ cs' mb', e = .returned (.agg cs'.toArray) ∧ RWish (Fresh w) w' cs' (x.1, mb') ∧ CntAt w' mb' N f ∧ w.heap.size ≤ mb' ∧ Below w.heap.size w w' := by
  obtain ⟨⟨b1, b2, b3⟩, rfl, hs, hk⟩ := hx.out.out
  simp only at hs ⊢
  obtain ⟨W2, hW2⟩ : ∃ W, W = (w.alloc (.cells #[.slice b1 b2 b3, .string x.1.2, .map (some x.2)] 80)).alloc (.cells #[.slice none 0 0, .string ⟨#[]⟩, .map none] 80) := ⟨_, rfl⟩
  have B2 : Below w.heap.size w W2 := by rw [hW2]; go_grown
  have q0 : BoxL W2 w.heap.size [.slice b1 b2 b3, .string x.1.2, .map (some x.2)] := by rw [hW2]; exact (BoxL.new w 80 _).on ((Below.refl _ _).alloc (Nat.le_refl _) _)
  have q1 : BoxL W2 (w.heap.size + 1) [.slice none 0 0, .string ⟨#[]⟩, .map none] := by have h1 := BoxL.new (w.alloc (.cells #[.slice b1 b2 b3, .string x.1.2, .map (some x.2)] 80)) 80 [.slice none 0 0, .string ⟨#[]⟩, .map none]; rw [hW2]; simpa using h1
  have HQ : Hid (∀ u, Below W2.heap.size W2 u → BoxL u w.heap.size [.slice b1 b2 b3, .string x.1.2, .map (some x.2)] ∧ BoxL u (w.heap.size + 1) [.slice none 0 0, .string ⟨#[]⟩, .map none] ∧ CntAt u x.2 N f ∧ Below w.heap.size w u) := fun u hb => ⟨q0.on hb, q1.on hb, (hc.out.on B2).on hb, on2 B2 hb⟩
  have hsz : Hid (W2.heap.size = w.heap.size + 1 + 1) := by rw [Hid, hW2]; simp
  have HCl := CloneReq8 b1 b2 b3 A x.1.1 W2 (hs.on RReq.firm B2)
  have c0 := (q0.2 0 _ rfl).1
  have hlen : Hid (x.1.1.length = b2) := hs.1
  have hbb : Hid (b2 * 48 ≤ 140737488351232) := hs.2.2.2.1
  have hb2n : b2 < 140737488355328 := by have := hs.2.2.2.1; omega
  have HKy : Hid (x.1.2.size ≤ 140737488355328) := hk
  clear hx hc hs q0 q1 B2 hk
  go_enter Tryd.func64, Tryd.ntmps64
  go_upto_region 1 with fail
  rw [← hW2]
  clear hW2
  go_wp2_with fail
  refine HCl.mono ?_
  clear HCl c0
  rintro e u1 ⟨v, rfl, hrow⟩
  have hb1 : Below W2.heap.size W2 u1 := hrow.below
  obtain ⟨a1, c1, rfl, hfin⟩ : ∃ a1 c1, v = .slice a1 b2 c1 ∧ ((b2 = 0 ∧ SlAt RReq 3 48 (Fresh w) u1 a1 b2 c1 x.1.1) ∨ ∃ g, a1 = some ⟨g, 0, none⟩ ∧ 0 < b2 ∧ RqAt W2 g u1 b2 0 x.1.1 ∧ W2.heap.size ≤ g ∧ g < u1.heap.size ∧ b2 ≤ c1) := by
    have hl := hlen.out
    obtain ⟨a1, c1, e1, s1⟩ := hrow.sl (bytes := 48) RReq.firm (by rw [hl]; exact hbb.out)
    rw [hl] at e1 s1
    refine ⟨a1, c1, e1, ?_⟩
    rcases Nat.eq_zero_or_pos b2 with h0 | h0
    · exact .inl ⟨h0, by subst h0; exact ⟨s1.1, s1.2.1, s1.2.2.1, s1.2.2.2.1, fun h => absurd h (Nat.lt_irrefl _)⟩⟩
    · obtain ⟨B, off, ea, _, _, _⟩ := s1.2.2.2.2 h0
      refine .inr ?_
      have hr2 := hrow
      rw [e1, ← hl] at hr2
      have ho : off = 0 := by
        obtain ⟨xs, h1, _⟩ := hr2
        rcases own_cells h1.2 with ⟨e, _⟩ | ⟨g, cp, e, _⟩
        · rw [ea] at e; cases e
        · rw [ea] at e; injection e with e2; injection e2 with e2; injection e2
      subst ho; rw [ea] at hr2
      have h5 := rq_of_row hr2
      rw [hl] at h5
      exact ⟨B, ea, h0, h5⟩
  clear hrow
  rcases hfin with ⟨hz, hs1⟩ | ⟨g, rfl, hpos, hrq, hg0, hg1, hcp⟩
  ·
    subst hz
    have hbw : Hid (Below W2.heap.size W2 u1) := hb1
    have HSl : Hid (SlAt RReq 3 48 (fun b => Fresh w b ∧ b ≠ w.heap.size + 1) u1 a1 0 c1 x.1.1) := ⟨hs1.1, hs1.2.1, hs1.2.2.1, hs1.2.2.2.1, fun h => absurd h (Nat.lt_irrefl _)⟩
    clear hs1 hb1
    go_wp2_with fail
    go_loopw [11] (fun i wr => i = .int .i64 0 ∧ wr = u1) (fun _ _ => 0)
    case atStart => exact ⟨rfl, rfl⟩
    case round =>
      obtain ⟨rfl, rfl⟩ := hrel
      obtain ⟨k0, k1, k2, k3⟩ := HQ.out wr hbw.out
      have HS : Hid (∀ v, Below (wr).heap.size (wr) v → WcS w.heap.size x.1.2 x.2 v) := fun v hb => ⟨((k0.on hb).2 1 _ rfl).1, ((k0.on hb).2 2 _ rfl).1⟩
      have HCm := cClone_calls (w := (wr).drew) k2
      have HFi : Hid (∀ v, Below (wr).heap.size (wr) v → CntAt v (wr).heap.size N f → RWish (fun b => Fresh w b ∧ b ≠ w.heap.size + 1) v [.slice a1 0 c1, .string x.1.2, .map (some (wr).heap.size)] (x.1, (wr).heap.size) ∧ BoxL v (w.heap.size + 1) [.slice none 0 0, .string ⟨#[]⟩, .map none] ∧ w.heap.size + 1 < (wr).heap.size ∧ Below w.heap.size w v) := fun v hb _ => ⟨RWish.mk (x := (x.1, (wr).heap.size)) (h0 := (a1, 0, c1)) (HSl.out.on RReq.firm hb) HKy.out, k1.on hb, k1.1, on2 k3 hb⟩
      clear k0 k1 k2 k3 HQ
      go_upto_region 7 with fail
      refine t0 (WcS w.heap.size x.1.2 x.2) (HS.out _ (Below.refl _ _).drew) (fun hHeld => ?_)
      refine' tk 0 ?_ ?_; rotate_left
      · intro u ⟨_, _⟩; go_simp; try with_reducible rfl
      try go_frame
      refine' tk 1 ?_ ?_; rotate_left
      · intro u ⟨_, _⟩; go_simp; try with_reducible rfl
      try go_frame
      refine' tk 2 ?_ ?_; rotate_left
      · intro u ⟨_, _⟩; go_simp; try with_reducible rfl
      try go_frame
      refine' tk 3 ?_ ?_; rotate_left
      · intro u ⟨_, _⟩; go_simp; try with_reducible rfl
      try go_frame
      refine' tk 4 ?_ ?_; rotate_left
      · intro u ⟨_, _⟩; go_simp; try with_reducible rfl
      try go_frame
      refine' tk 5 ?_ ?_; rotate_left
      · intro u ⟨_, _⟩; go_simp; try with_reducible rfl
      try go_frame
      refine' tk 6 ?_ ?_; rotate_left
      · intro u ⟨_, _⟩; go_simp; try with_reducible rfl
      try go_frame
      refine tr 7 (fun K hK => ?_)
      go_simp
      refine HCm.mono ?_
      rintro e w5 ⟨rfl, hc5, hs5, hb5⟩
      have hb5' : Below (wr).heap.size (wr) w5 := (Below.refl _ _).drew.trans hb5
      go_wp2_with fail
      refine hK.out _ _ (HS.out _ hb5') (fun hHeld2 => ?_)
      clear hK K hHeld; have hHeld := hHeld2; clear hHeld2
      try go_frame
      refine' tk 8 ?_ ?_; rotate_left
      · intro u ⟨_, _⟩; go_simp; try with_reducible rfl
      try go_frame
      obtain ⟨r5, q5, z5, bw5⟩ := HFi.out w5 hb5' hc5
      have hcm : CntAt w5 (wr).heap.size N f := hc5
      have hmm : w.heap.size ≤ (wr).heap.size := by omega
      have hne : (wr).heap.size ≠ w.heap.size + 1 := by omega
      obtain ⟨d0, g0⟩ := q5.2 0 _ rfl
      obtain ⟨d1, g1⟩ := q5.2 1 _ rfl
      obtain ⟨d2, g2⟩ := q5.2 2 _ rfl
      have hdr : (wr).drew.heap.size = (wr).heap.size := rfl
      generalize hmo : (wr).heap.size = mo at r5 hcm hmm hne z5
      refine ts 9 (fun K hK => ?_)
      try simp only [hmo]
      go_simp
      have hq5 := ((q5.set 0 (.slice a1 0 c1) (by simp)).set 1 (.string x.1.2) (by simp)).set 2 (.map (some mo)) (by simp)
      have hb6 := ((bw5.setCell (p := ⟨w.heap.size + 1, 0, none⟩) (Nat.le_succ _) (.slice a1 0 c1)).setCell (p := ⟨w.heap.size + 1, 1, none⟩) (Nat.le_succ _) (.string x.1.2)).setCell (p := ⟨w.heap.size + 1, 2, none⟩) (Nat.le_succ _) (.map (some mo))
      have hr6 : RWish (Fresh w) (((w5.setCell ⟨w.heap.size + 1, 0, none⟩ (.slice a1 0 c1)).setCell ⟨w.heap.size + 1, 1, none⟩ (.string x.1.2)).setCell ⟨w.heap.size + 1, 2, none⟩ (.map (some mo))) [.slice a1 0 c1, .string x.1.2, .map (some mo)] (x.1, mo) := RWish.firm.weak (RWish.firm.kept r5 (((Kept.set (p := ⟨w.heap.size + 1, 0, none⟩) (fun h => h.2 rfl) _).trans (Kept.set (p := ⟨w.heap.size + 1, 1, none⟩) (fun h => h.2 rfl) _)).trans (Kept.set (p := ⟨w.heap.size + 1, 2, none⟩) (fun h => h.2 rfl) _))) (fun b _ h => h.1)
      have hc6 : CntAt (((w5.setCell ⟨w.heap.size + 1, 0, none⟩ (.slice a1 0 c1)).setCell ⟨w.heap.size + 1, 1, none⟩ (.string x.1.2)).setCell ⟨w.heap.size + 1, 2, none⟩ (.map (some mo))) mo N f := hcm.same (by rw [Below.heap_setCell _ _ _ _ hne, Below.heap_setCell _ _ _ _ hne, Below.heap_setCell _ _ _ _ hne])
      have HS6 : ∀ j, (((w5.setCell ⟨w.heap.size + 1, 0, none⟩ (.slice a1 0 c1)).setCell ⟨w.heap.size + 1, 1, none⟩ (.string x.1.2)).setCell ⟨w.heap.size + 1, 2, none⟩ (.map (some mo))).cell? ⟨w.heap.size, j, none⟩ = w5.cell? ⟨w.heap.size, j, none⟩ := fun j => ((cell_other (by simp)).trans (cell_other (by simp))).trans (cell_other (by simp))
      obtain ⟨V, hV⟩ : ∃ V, V = ((w5.setCell ⟨w.heap.size + 1, 0, none⟩ (.slice a1 0 c1)).setCell ⟨w.heap.size + 1, 1, none⟩ (.string x.1.2)).setCell ⟨w.heap.size + 1, 2, none⟩ (.map (some mo)) := ⟨_, rfl⟩
      rw [← hV] at hq5 hb6 hr6 hc6 HS6 ⊢
      obtain ⟨t1, t2⟩ := HS.out _ hb5'
      refine hK.out undef _ ⟨(HS6 1).trans t1, (HS6 2).trans t2⟩ (fun _ => ?_)
      clear hV HS6 t1 t2 hK K hHeld d0 d1 d2 g0 g1 g2 hmo hdr
      refine tz ?_
      have y0 := (hq5.2 0 (.slice a1 0 c1) rfl).1
      have y1 := (hq5.2 1 (.string x.1.2) rfl).1
      have y2 := (hq5.2 2 (.map (some mo)) rfl).1
      go_wp2_with fail
      refine bodyPost_ret (v := .agg #[.slice a1 0 c1, .string x.1.2, .map (some mo)]) (by simp [results, Tryd.results64, go_sem, y0, y1, y2, Result.andThen]) rfl ⟨_, mo, rfl, hr6, hc6, hmm, hb6⟩
  ·
    have HRq : Hid (RqAt W2 g u1 b2 0 x.1.1 ∧ Below W2.heap.size W2 u1 ∧ g < u1.heap.size) := ⟨hrq, hb1, hg1⟩
    have HG0 : Hid (W2.heap.size ≤ g) := hg0
    clear hrq hb1 hg1
    go_wp2_with fail
    go_loopw [11] (fun i wr => ∃ k : Nat, k ≤ b2 ∧ i = .int .i64 k ∧ Hid (RqAt W2 g wr b2 k x.1.1 ∧ Below W2.heap.size W2 wr ∧ g < wr.heap.size)) (fun i _ => b2 - (intOf i).toNat)
    case atStart => exact ⟨0, Nat.zero_le _, rfl, HRq⟩
    case round =>
      obtain ⟨k, hk, rfl, hst⟩ := hrel
      by_cases hlt : k < b2
      ·
        obtain ⟨⟨e1, e2, e3⟩, ⟨_, _, d2⟩, f2, hsl, _⟩ := hst.out.1 k hlt
        rw [if_neg (Nat.lt_irrefl _)] at hsl
        simp only at d2 hsl
        have HCs := CloneStr8 e1 e2 e3 _ _ wr hsl
        clear hsl
        go_wp2_with fail
        refine HCs.mono ?_
        rintro e u2 ⟨v2, rfl, hrow2⟩
        have hb2' : Below wr.heap.size wr u2 := hrow2.below
        have hsb : (x.1.1.getD k default).2.2.length * 16 ≤ 140737488351232 := by obtain ⟨h, _, _, s, _⟩ := hst.out.1 k hlt; have := s.2.2.2.1; rw [s.1]; exact this
        obtain ⟨a2, c2, rfl, s2⟩ := hrow2.sl (bytes := 16) RStr.firm hsb
        generalize hll : (x.1.1.getD k default).2.2.length = ll at s2 hrow2
        have s2' : SlAt RStr 1 16 (fun b => Fresh W2 b ∧ b ≠ g) u2 a2 ll c2 (x.1.1.getD k default).2.2 := s2.weak RStr.firm (fun b _ h => by
          rcases h with h | h
          · exact h.elim
          · have h1 : wr.heap.size ≤ b := h; exact ⟨Nat.le_trans hst.out.2.1.size h1, fun e => by have := hst.out.2.2; omega⟩)
        have hgu : g < u2.heap.size := Nat.lt_of_lt_of_le hst.out.2.2 hb2'.size
        have HN : Hid (RqAt W2 g (u2.setCell ⟨g, k * 3 + 2, none⟩ (.slice a2 ll c2)) b2 (k + 1) x.1.1 ∧ Below W2.heap.size W2 (u2.setCell ⟨g, k * 3 + 2, none⟩ (.slice a2 ll c2)) ∧ g < (u2.setCell ⟨g, k * 3 + 2, none⟩ (.slice a2 ll c2)).heap.size) := ⟨(hst.out.1.on hb2' (fun _ => hst.out.2.2)).set hlt HG0.out s2', (on2 hst.out.2.1 hb2').setCell (by exact HG0.out) _, by simpa using hgu⟩
        have d2' : u2.cell? ⟨g, k * 3 + 2, none⟩ = some (.slice e1 e2 e3) := (hb2'.cell (p := ⟨g, k * 3 + 2, none⟩) hst.out.2.2).trans d2
        have f2' : u2.frozen? ⟨g, k * 3 + 2, none⟩ = false := (frozen_on hb2' (p := ⟨g, k * 3 + 2, none⟩) hst.out.2.2).trans f2
        clear HCs hrow2 s2 s2' hst d2 f2 hb2' hsb hll
        go_wp2_with fail
        go_roundw
        case rel => exact ⟨k + 1, by omega, by go_num, HN⟩
        case measure => simp [intOf]; omega
      ·
        have hkb : k = b2 := by omega
        have HSl : Hid (SlAt RReq 3 48 (fun b => Fresh w b ∧ b ≠ w.heap.size + 1) wr (some ⟨g, 0, none⟩) b2 c1 x.1.1) := by
          have h1 := hst.out.1; rw [hkb] at h1
          exact (h1.sl hlen.out hcp hbb.out HG0.out hst.out.2.2).weak RReq.firm (fun b _ h => by have h2 : W2.heap.size ≤ b := h; have := hsz.out; exact ⟨show w.heap.size ≤ b by omega, by omega⟩)
        have hbw : Hid (Below W2.heap.size W2 wr) := hst.out.2.1
        clear hst hkb
        obtain ⟨k0, k1, k2, k3⟩ := HQ.out wr hbw.out
        have HS : Hid (∀ v, Below (wr).heap.size (wr) v → WcS w.heap.size x.1.2 x.2 v) := fun v hb => ⟨((k0.on hb).2 1 _ rfl).1, ((k0.on hb).2 2 _ rfl).1⟩
        have HCm := cClone_calls (w := (wr).drew) k2
        have HFi : Hid (∀ v, Below (wr).heap.size (wr) v → CntAt v (wr).heap.size N f → RWish (fun b => Fresh w b ∧ b ≠ w.heap.size + 1) v [.slice (some ⟨g, 0, none⟩) b2 c1, .string x.1.2, .map (some (wr).heap.size)] (x.1, (wr).heap.size) ∧ BoxL v (w.heap.size + 1) [.slice none 0 0, .string ⟨#[]⟩, .map none] ∧ w.heap.size + 1 < (wr).heap.size ∧ Below w.heap.size w v) := fun v hb _ => ⟨RWish.mk (x := (x.1, (wr).heap.size)) (h0 := (some ⟨g, 0, none⟩, b2, c1)) (HSl.out.on RReq.firm hb) HKy.out, k1.on hb, k1.1, on2 k3 hb⟩
        clear k0 k1 k2 k3 HQ
        go_upto_region 7 with fail
        refine t0 (WcS w.heap.size x.1.2 x.2) (HS.out _ (Below.refl _ _).drew) (fun hHeld => ?_)
        refine' tk 0 ?_ ?_; rotate_left
        · intro u ⟨_, _⟩; go_simp; try with_reducible rfl
        try go_frame
        refine' tk 1 ?_ ?_; rotate_left
        · intro u ⟨_, _⟩; go_simp; try with_reducible rfl
        try go_frame
        refine' tk 2 ?_ ?_; rotate_left
        · intro u ⟨_, _⟩; go_simp; try with_reducible rfl
        try go_frame
        refine' tk 3 ?_ ?_; rotate_left
        · intro u ⟨_, _⟩; go_simp; try with_reducible rfl
        try go_frame
        refine' tk 4 ?_ ?_; rotate_left
        · intro u ⟨_, _⟩; go_simp; try with_reducible rfl
        try go_frame
        refine' tk 5 ?_ ?_; rotate_left
        · intro u ⟨_, _⟩; go_simp; try with_reducible rfl
        try go_frame
        refine' tk 6 ?_ ?_; rotate_left
        · intro u ⟨_, _⟩; go_simp; try with_reducible rfl
        try go_frame
        refine tr 7 (fun K hK => ?_)
        go_simp
        refine HCm.mono ?_
        rintro e w5 ⟨rfl, hc5, hs5, hb5⟩
        have hb5' : Below (wr).heap.size (wr) w5 := (Below.refl _ _).drew.trans hb5
        go_wp2_with fail
        refine hK.out _ _ (HS.out _ hb5') (fun hHeld2 => ?_)
        clear hK K hHeld; have hHeld := hHeld2; clear hHeld2
        try go_frame
        refine' tk 8 ?_ ?_; rotate_left
        · intro u ⟨_, _⟩; go_simp; try with_reducible rfl
        try go_frame
        obtain ⟨r5, q5, z5, bw5⟩ := HFi.out w5 hb5' hc5
        have hcm : CntAt w5 (wr).heap.size N f := hc5
        have hmm : w.heap.size ≤ (wr).heap.size := by omega
        have hne : (wr).heap.size ≠ w.heap.size + 1 := by omega
        obtain ⟨d0, g0⟩ := q5.2 0 _ rfl
        obtain ⟨d1, g1⟩ := q5.2 1 _ rfl
        obtain ⟨d2, g2⟩ := q5.2 2 _ rfl
        have hdr : (wr).drew.heap.size = (wr).heap.size := rfl
        generalize hmo : (wr).heap.size = mo at r5 hcm hmm hne z5
        refine ts 9 (fun K hK => ?_)
        try simp only [hmo]
        go_simp
        have hq5 := ((q5.set 0 (.slice (some ⟨g, 0, none⟩) b2 c1) (by simp)).set 1 (.string x.1.2) (by simp)).set 2 (.map (some mo)) (by simp)
        have hb6 := ((bw5.setCell (p := ⟨w.heap.size + 1, 0, none⟩) (Nat.le_succ _) (.slice (some ⟨g, 0, none⟩) b2 c1)).setCell (p := ⟨w.heap.size + 1, 1, none⟩) (Nat.le_succ _) (.string x.1.2)).setCell (p := ⟨w.heap.size + 1, 2, none⟩) (Nat.le_succ _) (.map (some mo))
        have hr6 : RWish (Fresh w) (((w5.setCell ⟨w.heap.size + 1, 0, none⟩ (.slice (some ⟨g, 0, none⟩) b2 c1)).setCell ⟨w.heap.size + 1, 1, none⟩ (.string x.1.2)).setCell ⟨w.heap.size + 1, 2, none⟩ (.map (some mo))) [.slice (some ⟨g, 0, none⟩) b2 c1, .string x.1.2, .map (some mo)] (x.1, mo) := RWish.firm.weak (RWish.firm.kept r5 (((Kept.set (p := ⟨w.heap.size + 1, 0, none⟩) (fun h => h.2 rfl) _).trans (Kept.set (p := ⟨w.heap.size + 1, 1, none⟩) (fun h => h.2 rfl) _)).trans (Kept.set (p := ⟨w.heap.size + 1, 2, none⟩) (fun h => h.2 rfl) _))) (fun b _ h => h.1)
        have hc6 : CntAt (((w5.setCell ⟨w.heap.size + 1, 0, none⟩ (.slice (some ⟨g, 0, none⟩) b2 c1)).setCell ⟨w.heap.size + 1, 1, none⟩ (.string x.1.2)).setCell ⟨w.heap.size + 1, 2, none⟩ (.map (some mo))) mo N f := hcm.same (by rw [Below.heap_setCell _ _ _ _ hne, Below.heap_setCell _ _ _ _ hne, Below.heap_setCell _ _ _ _ hne])
        have HS6 : ∀ j, (((w5.setCell ⟨w.heap.size + 1, 0, none⟩ (.slice (some ⟨g, 0, none⟩) b2 c1)).setCell ⟨w.heap.size + 1, 1, none⟩ (.string x.1.2)).setCell ⟨w.heap.size + 1, 2, none⟩ (.map (some mo))).cell? ⟨w.heap.size, j, none⟩ = w5.cell? ⟨w.heap.size, j, none⟩ := fun j => ((cell_other (by simp)).trans (cell_other (by simp))).trans (cell_other (by simp))
        obtain ⟨V, hV⟩ : ∃ V, V = ((w5.setCell ⟨w.heap.size + 1, 0, none⟩ (.slice (some ⟨g, 0, none⟩) b2 c1)).setCell ⟨w.heap.size + 1, 1, none⟩ (.string x.1.2)).setCell ⟨w.heap.size + 1, 2, none⟩ (.map (some mo)) := ⟨_, rfl⟩
        rw [← hV] at hq5 hb6 hr6 hc6 HS6 ⊢
        obtain ⟨t1, t2⟩ := HS.out _ hb5'
        refine hK.out undef _ ⟨(HS6 1).trans t1, (HS6 2).trans t2⟩ (fun _ => ?_)
        clear hV HS6 t1 t2 hK K hHeld d0 d1 d2 g0 g1 g2 hmo hdr
        refine tz ?_
        have y0 := (hq5.2 0 (.slice (some ⟨g, 0, none⟩) b2 c1) rfl).1
        have y1 := (hq5.2 1 (.string x.1.2) rfl).1
        have y2 := (hq5.2 2 (.map (some mo)) rfl).1
        go_wp2_with fail
        refine bodyPost_ret (v := .agg #[.slice (some ⟨g, 0, none⟩) b2 c1, .string x.1.2, .map (some mo)]) (by simp [results, Tryd.results64, go_sem, y0, y1, y2, Result.andThen]) rfl ⟨_, mo, rfl, hr6, hc6, hmm, hb6⟩
end Go.Proofs.YtfnafgmengefaaaDoor
namespace Go.Proofs.YtfnafgmengefaaaDoor
open Go.RowKit Go.Maps
set_option linter.unusedSimpArgs false
set_option maxRecDepth 100000

/-- Maps that tell g, each a block of its own, that have come since w. -/
structure Cnts (w u : World) (N : Nat) (g : TermD → Lab → Int) (L : List WishD) : Prop where
  c : ∀ t ∈ L, CntAt u t.2 N (g t.1)
  f : ∀ t ∈ L, w.heap.size ≤ t.2
  n : (L.map Prod.snd).Nodup
theorem Cnts.on {w u u' : World} {N : Nat} {g : TermD → Lab → Int} {L : List WishD} (h : Cnts w u N g L) (hb : ∀ b, b ∈ L.map Prod.snd → b < u.heap.size → u'.heap[b]? = u.heap[b]?) : Cnts w u' N g L :=
  ⟨fun t ht => (h.c t ht).same (hb t.2 (List.mem_map.2 ⟨t, ht, rfl⟩) (h.c t ht).lt), h.f, h.n⟩
theorem Cnts.snoc {w u v : World} {N : Nat} {g : TermD → Lab → Int} {L : List WishD} (h : Cnts w u N g L) (hb : Below u.heap.size u v) {t : TermD} {mb : Nat} (hw : w.heap.size ≤ u.heap.size) (hm : u.heap.size ≤ mb) (hc : CntAt v mb N (g t)) : Cnts w v N g (L ++ [(t, mb)]) := by
  have h1 := h.on (u' := v) (fun b _ hlt => hb.block b hlt)
  refine ⟨fun x hx => ?_, fun x hx => ?_, ?_⟩
  · rcases List.mem_append.1 hx with hx | hx
    · exact h1.c x hx
    · obtain rfl : x = (t, mb) := by simpa using hx
      exact hc
  · rcases List.mem_append.1 hx with hx | hx
    · exact h.f x hx
    · obtain rfl : x = (t, mb) := by simpa using hx
      exact Nat.le_trans hw hm
  · rw [List.map_append, List.nodup_append]
    refine ⟨h.n, by simp, fun a ha b hb => ?_⟩
    obtain ⟨x, hx, rfl⟩ := List.mem_map.1 ha
    have := (h.c x hx).lt
    simp at hb
    omega
theorem getD_mem10 {α : Type} [Inhabited α] {L : List α} {k : Nat} (hk : k < L.length) : L.getD k default ∈ L := by
  rw [List.getD_eq_getElem?_getD, List.getElem?_eq_getElem hk]; exact List.getElem_mem hk
set_option maxHeartbeats 4000000 in
theorem cloneAll_calls (a : Option Addr) (n cap : Nat) (A : Where) (L : List WishD) (w : World) (N : Nat) (g : TermD → Lab → Int) (hL : Hid (SlAt RWish 3 48 A w a n cap L)) (hc : Hid (∀ t ∈ L, CntAt w t.2 N (g t.1))) (hn : n < 1000000000) :
    Calls Tryd.prog 39 #[.slice a n cap] w fun e w' => ∃ a' c' M, e = .returned (.slice a' n c') ∧ SlAt RWish 3 48 (Fresh w) w' a' n c' M ∧ M.map Prod.fst = L.map Prod.fst ∧ Cnts w w' N g M ∧ Below w.heap.size w w' := by
  have hlen : Hid (L.length = n) := hL.out.1
  go_enter Tryd.func39, Tryd.ntmps39
  go_wp2_with fail
  go_loopw [3, 8] (fun o i wr => ∃ (k : Nat) (M : List WishD), k ≤ n ∧ i = .int .i64 k ∧ Hid (Row RWish 3 (Fresh w) w wr 80 o M) ∧ Hid (Cnts w wr N g M) ∧ Hid (M.map Prod.fst = (L.take k).map Prod.fst)) (fun _ i _ => n - (intOf i).toNat)
  case atStart => exact ⟨0, [], Nat.zero_le _, rfl, Row.nil _ _ _, ⟨fun _ h => (by cases h), fun _ h => (by cases h), List.nodup_nil⟩, rfl⟩
  case round =>
    obtain ⟨k, M, hk, rfl, hrow, hz, hM⟩ := hrel
    have hbel : Below w.heap.size w wr := hrow.out.below
    by_cases hlt : k < n
    ·
      have hkl : k < L.length := by rw [hlen.out]; exact hlt
      obtain ⟨B, off, rfl, hB, hAB, cs, hr, hv⟩ := (hL.out.on RWish.firm hbel).get hlt
      have hcx := (hc.out _ (getD_mem10 hkl)).on hbel
      obtain ⟨⟨b1, b2, b3⟩, rfl, _, _⟩ := hr.out
      simp only at hv hr
      have d0 := hv 0 _ rfl
      have d1 := hv 1 _ rfl
      have d2 := hv 2 _ rfl
      rw [Nat.add_zero] at d0
      have HT : Hid (M.map Prod.fst ++ [(L.getD k default).1] = (L.take (k + 1)).map Prod.fst) := by rw [Hid, hM.out, ← take_at8 hkl, List.map_append]; rfl
      have hMl : Hid (M.length = k) := by have := congrArg List.length hM.out; rw [List.length_map, List.length_map, List.length_take, hlen.out, Nat.min_eq_left hk] at this; exact this
      generalize L.getD k default = x at hr hcx d0 d1 d2 HT hv
      obtain ⟨V, hV⟩ : ∃ V, V = wr.alloc (.cells #[.slice b1 b2 b3, .string x.1.2, .map (some x.2)] 80) := ⟨_, rfl⟩
      have bV : Below wr.heap.size wr V := by rw [hV]; go_grown
      have qV : BoxL V wr.heap.size [.slice b1 b2 b3, .string x.1.2, .map (some x.2)] := by rw [hV]; exact BoxL.new wr 80 _
      have HC := wclone_calls (w := V) (RWish.firm.kept hr (Kept.below bV)) (hcx.on bV)
      have z0 := (qV.2 0 _ rfl).1
      have z1 := (qV.2 1 _ rfl).1
      have z2 := (qV.2 2 _ rfl).1
      have HbV : Hid (Below wr.heap.size wr V) := bV
      clear hr hv hcx bV qV hM
      go_upto_region 5 with fail
      rw [← hV]
      clear hV
      go_wp2_with fail
      refine HC.mono ?_
      rintro e u ⟨cs', mb, rfl, hr2, hc2, hm2, hb2⟩
      obtain ⟨⟨e1, e2, e3⟩, rfl, _, _⟩ := hr2.out
      simp only at hr2 ⊢
      have hbu : Below wr.heap.size wr u := on2 HbV.out hb2
      have hsu : wr.heap.size ≤ V.heap.size := HbV.out.size
      have hb3 : Below wr.heap.size wr (u.alloc (.cells #[.slice e1 e2 e3, .string x.1.2, .map (some mb)] 80)) := hbu.alloc hbu.size _
      have HR3 : Hid (Row RWish 3 (Fresh w) w (u.alloc (.cells #[.slice e1 e2 e3, .string x.1.2, .map (some mb)] 80)) 80 u3 M) := hrow.out.on RWish.firm hb3
      have HZ : Hid (Cnts w (u.alloc (.cells #[.slice e1 e2 e3, .string x.1.2, .map (some mb)] 80)) N g (M ++ [(x.1, mb)])) := hz.out.snoc hb3 hbel.size (Nat.le_trans hsu hm2) (hc2.on ((Below.refl _ u).alloc (Nat.le_refl _) _))
      have HE : RWish (fun b => Fresh w b ∧ Value.ownBlock u3 ≠ some b) (u.alloc (.cells #[.slice e1 e2 e3, .string x.1.2, .map (some mb)] 80)) [.slice e1 e2 e3, .string x.1.2, .map (some mb)] (x.1, mb) := RWish.firm.weak (RWish.firm.kept hr2 (Kept.alloc _ _ _)) (fun b _ hb => by have h1 : V.heap.size ≤ b := hb; have h2 := hbel.size; exact ⟨show w.heap.size ≤ b by omega, fun e => by have := (hrow.out.notMap e).2.2; omega⟩)
      have HCh : Hid (Chunks RWish 3 (fun b => Fresh w b ∧ Value.ownBlock u3 ≠ some b) (u.alloc (.cells #[.slice e1 e2 e3, .string x.1.2, .map (some mb)] 80)) [.slice e1 e2 e3, .string x.1.2, .map (some mb)] [(x.1, mb)]) := chunk_one RWish.firm HE
      have HX : Hid (∀ j y, ([.slice e1 e2 e3, .string x.1.2, .map (some mb)] : List Value)[j]? = some y → (u.alloc (.cells #[.slice e1 e2 e3, .string x.1.2, .map (some mb)] 80)).cell? ((⟨u.heap.size, 0, none⟩ : Addr).add j) = some y) := one_cells u [.slice e1 e2 e3, .string x.1.2, .map (some mb)] 80
      have HB3 : Hid ((M.length + [(x.1, mb)].length) * 48 ≤ 140737488355328) := by rw [Hid, hMl.out]; simp; omega
      have HNZ : Hid (∀ w1, (u.alloc (.cells #[.slice e1 e2 e3, .string x.1.2, .map (some mb)] 80)).grownBy w1 u3.ownBlock → Cnts w w1 N g (M ++ [(x.1, mb)])) := fun w1 hg => HZ.out.on (fun b hb hlt' => hg.block b hlt' (fun e => by
        obtain ⟨t, ht, rfl⟩ := List.mem_map.1 hb
        exact (HZ.out.c t ht).map (HR3.out.notMap e.symm).1))
      clear HE hb3 hr2 hrow hz HZ HC hc2 hb2 z0 z1 z2 HbV hbu
      go_wp2_with (at_builtin; go_must (refine row_append RWish.firm (A := Fresh w) (w0 := w) rfl _ _ 47 80 rfl _ 48 infoWish Tryd.underlying47 rfl (by decide) (by decide) _ _ rfl HR3.out ⟨u.heap.size, 0, none⟩ 1 1 [.slice e1 e2 e3, .string x.1.2, .map (some mb)] [(x.1, mb)] rfl rfl HCh.out HX.out (by simp [Value.oneCell']) HB3.out ?_); intro v1 w1 hrow1 hg1)
      have HRow1 : Hid (Row RWish 3 (Fresh w) w w1 80 v1 (M ++ [(x.1, mb)])) := hrow1
      have HZ1 := HNZ.out w1 hg1
      clear hrow1 hg1 HR3 HCh HX HB3 HNZ
      go_wp2_with fail
      go_roundw
      case rel => exact ⟨k + 1, M ++ [(x.1, mb)], by omega, by go_num, HRow1, HZ1, by rw [Hid, List.map_append]; exact HT.out⟩
      case measure => simp [intOf]; omega
    · have hMl : M.length = n := by have := congrArg List.length hM.out; rw [List.length_map, List.length_map, List.length_take, hlen.out] at this; omega
      have hML : M.map Prod.fst = L.map Prod.fst := by rw [hM.out, List.take_of_length_le (by rw [hlen.out]; omega)]
      obtain ⟨a', c', rfl, hs⟩ := hrow.out.slF (bytes := 48) RWish.firm (by rw [hMl]; omega)
      rw [hMl] at hs ⊢
      have HE : Hid (SlAt RWish 3 48 (Fresh w) wr a' n c' M ∧ M.map Prod.fst = L.map Prod.fst ∧ Cnts w wr N g M ∧ Below w.heap.size w wr) := ⟨hs, hML, hz.out, hbel⟩
      clear hs hML hz hrow hM hMl
      go_wp2_with fail
      go_ret
      exact ⟨a', c', M, rfl, HE.out⟩
end Go.Proofs.YtfnafgmengefaaaDoor
