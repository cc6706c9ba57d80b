/- tally.clone, whose lists are its own. Condition: the tally lies as is said of it. -/
import Derived.Test.YtfnafgmengefaaaGreatDoorQ16
namespace Go.Proofs.YtfnafgmengefaaaGreatDoor
open Go.RowKit Go.Maps
set_option linter.unusedSimpArgs false
set_option maxRecDepth 100000

set_option maxHeartbeats 8000000 in
theorem tclone_fresh {w : World} {T : TalD} {ts : List Value} {A : Where} {N : Nat} {g : TermD → Lab → Int} {oF : Lab → Int} (hM : Hid (MapsAt w T N g oF)) (hT' : Hid (RTally A w ts T)) (hn : (tNear T).length < 1000000000) (hn' : (tApart T).length < 1000000000) :
    Calls Tryz.prog 40 #[.agg ts.toArray] w fun e w' => ∃ ts' T', e = .returned (.agg ts'.toArray) ∧ TalC (Fresh w) w w' ts' T' T N g oF ∧ Below w.heap.size w w' := by
  obtain ⟨⟨a1, n1, m1⟩, ⟨a2, n2, m2⟩, ⟨a3, n3, m3⟩, rfl, p0, s1, s2, s3⟩ := hT'.out.out
  simp only at s1 s2 s3 ⊢
  obtain ⟨W2, hW2⟩ : ∃ W, W = (w.alloc (.cells #[.string T.1, .slice a1 n1 m1, .slice a2 n2 m2, .slice a3 n3 m3, .map (some T.2.2.2.2)] 66)).alloc (.cells #[.string ⟨#[]⟩, .slice none 0 0, .slice none 0 0, .slice none 0 0, .map none] 66) := ⟨_, rfl⟩
  have B2 : Below w.heap.size w W2 := by rw [hW2]; go_grown
  have q0 : BoxL W2 w.heap.size [.string T.1, .slice a1 n1 m1, .slice a2 n2 m2, .slice a3 n3 m3, .map (some T.2.2.2.2)] := by rw [hW2]; exact (BoxL.new w 66 _).on ((Below.refl _ _).alloc (Nat.le_refl _) _)
  have q1 : BoxL W2 (w.heap.size + 1) [.string ⟨#[]⟩, .slice none 0 0, .slice none 0 0, .slice none 0 0, .map none] := by have h1 := BoxL.new (w.alloc (.cells #[.string T.1, .slice a1 n1 m1, .slice a2 n2 m2, .slice a3 n3 m3, .map (some T.2.2.2.2)] 66)) 66 [.string ⟨#[]⟩, .slice none 0 0, .slice none 0 0, .slice none 0 0, .map none]; rw [hW2]; simpa using h1
  have hsz : Hid (W2.heap.size = w.heap.size + 1 + 1) := by rw [Hid, hW2]; simp
  have HP0 : Hid (T.1.size ≤ 140737488355328) := p0
  have HL1 : Hid (T.2.1.length = n1) := s1.1
  have hb1 : Hid (n1 * 32 ≤ 140737488351232) := s1.2.2.2.1
  have HC1 : Hid (∀ u, Below w.heap.size w u → Calls Tryz.prog 52 #[.slice a1 n1 m1] u fun e w' => ∃ v, e = .returned v ∧ Row RLabel 2 (fun _ => False) u w' 55 v T.2.1) := fun u hb => CloneLabel8 a1 n1 m1 A T.2.1 u (s1.on RLabel.firm hb)
  have HC2 : Hid (∀ u, Below w.heap.size w u → Calls Tryz.prog 53 #[.map (some T.2.2.2.2)] u fun e w' => e = .returned (.map (some u.heap.size)) ∧ CntAt w' u.heap.size N oF ∧ w'.heap.size = u.heap.size + 1 ∧ Below u.heap.size u w') := fun u hb => cClone_calls (hM.out.o.on hb)
  have HC3 : Hid (∀ u, Below w.heap.size w u → Calls Tryz.prog 54 #[.slice a2 n2 m2] u fun e w' => ∃ a' c' M, e = .returned (.slice a' n2 c') ∧ SlAt RWish 3 48 (Fresh u) w' a' n2 c' M ∧ M.map Prod.fst = (tNear T).map Prod.fst ∧ Cnts u w' N g M ∧ Below u.heap.size u w') := fun u hb => cloneAll_calls a2 n2 m2 A (tNear T) u N g (s2.on RWish.firm hb) (fun t ht => (hM.out.c t (List.mem_append.2 (.inl ht))).on hb) (by have h : (tNear T).length = n2 := s2.1; omega)
  have HC4 : Hid (∀ u, Below w.heap.size w u → Calls Tryz.prog 54 #[.slice a3 n3 m3] u fun e w' => ∃ a' c' M, e = .returned (.slice a' n3 c') ∧ SlAt RWish 3 48 (Fresh u) w' a' n3 c' M ∧ M.map Prod.fst = (tApart T).map Prod.fst ∧ Cnts u w' N g M ∧ Below u.heap.size u w') := fun u hb => cloneAll_calls a3 n3 m3 A (tApart T) u N g (s3.on RWish.firm hb) (fun t ht => (hM.out.c t (List.mem_append.2 (.inr ht))).on hb) (by have h : (tApart T).length = n3 := s3.1; omega)
  have HQ : Hid (BoxL W2 w.heap.size [.string T.1, .slice a1 n1 m1, .slice a2 n2 m2, .slice a3 n3 m3, .map (some T.2.2.2.2)] ∧ BoxL W2 (w.heap.size + 1) [.string ⟨#[]⟩, .slice none 0 0, .slice none 0 0, .slice none 0 0, .map none] ∧ Below w.heap.size w W2) := ⟨q0, q1, B2⟩
  clear hM hT' s1 s2 s3 q0 q1 B2 p0 hn hn'
  go_enter Tryz.func40, Tryz.ntmps40
  go_upto_region 1 with fail
  rw [← hW2]
  clear hW2
  go_cut [5, 8] (fun _ _ wx => ∃ (p1 : Option Addr) (c1 mo : Nat), Hid (BoxL wx w.heap.size [.string T.1, .slice p1 n1 c1, .slice a2 n2 m2, .slice a3 n3 m3, .map (some mo)] ∧ BoxL wx (w.heap.size + 1) [.string ⟨#[]⟩, .slice none 0 0, .slice none 0 0, .slice none 0 0, .map none] ∧ SlAt RLabel 2 32 (fun b => w.heap.size + 1 + 1 ≤ b) wx p1 n1 c1 T.2.1 ∧ CntAt wx mo N oF ∧ w.heap.size + 1 + 1 ≤ mo ∧ Below w.heap.size w wx))
  case first =>
    refine t0 (fun _ => True) trivial (fun hHeld => ?_)
    refine' tk 0 ?_ ?_; rotate_left
    · intro u _; go_simp; try with_reducible rfl
    try go_frame
    refine' tk 3 ?_ ?_; rotate_left
    · intro u _; go_simp; try with_reducible rfl
    try go_frame
    refine tb 1 4 (fun K hK => ?_) (fun K hK => ?_)
    ·
      have hq0 : BoxL W2.drew w.heap.size [.string T.1, .slice a1 n1 m1, .slice a2 n2 m2, .slice a3 n3 m3, .map (some T.2.2.2.2)] := HQ.out.1
      have hbw0 : Below w.heap.size w W2.drew := HQ.out.2.2.drew
      have ld1 : (W2.drew).cell? ⟨w.heap.size, 1, none⟩ = _ := (hq0.2 1 _ rfl).1
      go_simp
      refine hK.out _ _ trivial (fun _ => ?_)
      clear hK K
      try go_frame
      refine tb 2 4 (fun K hK => ?_) (fun K hK => ?_)
      ·
        go_simp
        refine (HC1.out _ hbw0).mono ?_
        rintro e u1 ⟨v, rfl, hrow⟩
        obtain ⟨p1, c1, rfl, hs1⟩ := hrow.sl (bytes := 32) RLabel.firm (by rw [HL1.out]; exact hb1.out)
        rw [HL1.out]
        rw [HL1.out] at hs1
        have hq1 := hq0.on hrow.below
        have hbw1 := on2 hbw0 hrow.below
        have hsz1 := hrow.below.size
        have hz1 : BoxL u1 (w.heap.size + 1) [.string ⟨#[]⟩, .slice none 0 0, .slice none 0 0, .slice none 0 0, .map none] := (show BoxL W2.drew (w.heap.size + 1) [.string ⟨#[]⟩, .slice none 0 0, .slice none 0 0, .slice none 0 0, .map none] from HQ.out.2.1).on hrow.below
        clear hrow
        go_wp2_with fail
        refine hK.out _ _ trivial (fun _ => ?_)
        clear hK K
        try go_frame
        refine tr 4 (fun K hK => ?_)
        have ld4 : (u1).cell? ⟨w.heap.size, 4, none⟩ = _ := (hq1.2 4 _ rfl).1
        go_simp
        refine hK.out _ _ trivial (fun _ => ?_)
        clear hK K
        try go_frame
        refine' tk 6 ?_ ?_; rotate_left
        · intro u _; go_simp; try with_reducible rfl
        try go_frame
        refine tr 5 (fun K hK => ?_)
        go_simp
        refine (HC2.out _ hbw1).mono ?_
        rintro e u2 ⟨rfl, hc2, hsz2, hb2⟩
        have hq2 := hq1.on hb2
        have hz2 := hz1.on hb2
        have hbw2 := on2 hbw1 hb2
        have hs2 := hs1.on RLabel.firm hb2
        go_wp2_with fail
        refine hK.out _ _ trivial (fun _ => ?_)
        clear hK K
        try go_frame
        generalize hmo : u1.heap.size = mo at hc2 ⊢
        have hmo2 : w.heap.size + 1 + 1 ≤ mo := by have h1 : W2.drew.heap.size = W2.heap.size := rfl; have := hsz.out; omega
        clear hmo hsz2
        obtain ⟨d1, e1⟩ := hq2.2 1 _ rfl
        refine ts 7 (fun K hK => ?_)
        go_simp
        refine hK.out undef _ trivial (fun _ => ?_)
        clear hK K d1 e1
        have hq3 := hq2.set 1 (.slice p1 n1 c1) (by simp)
        obtain ⟨d4, e4⟩ := hq3.2 4 (.map (some T.2.2.2.2)) rfl
        refine' tk 8 ?_ ?_; rotate_left
        · intro u _; go_simp; try with_reducible rfl
        try go_frame
        refine ts 9 (fun K hK => ?_)
        go_simp
        refine hK.out undef _ trivial (fun _ => ?_)
        clear hK K d4 e4
        have hq4 := hq3.set 4 (.map (some mo)) (by simp)
        refine tz ?_
        have HG : Hid (BoxL ((u2.setCell ⟨w.heap.size, 1, none⟩ (.slice p1 n1 c1)).setCell ⟨w.heap.size, 4, none⟩ (.map (some mo))) w.heap.size [.string T.1, .slice p1 n1 c1, .slice a2 n2 m2, .slice a3 n3 m3, .map (some mo)] ∧ BoxL ((u2.setCell ⟨w.heap.size, 1, none⟩ (.slice p1 n1 c1)).setCell ⟨w.heap.size, 4, none⟩ (.map (some mo))) (w.heap.size + 1) [.string ⟨#[]⟩, .slice none 0 0, .slice none 0 0, .slice none 0 0, .map none] ∧ SlAt RLabel 2 32 (fun b => w.heap.size + 1 + 1 ≤ b) ((u2.setCell ⟨w.heap.size, 1, none⟩ (.slice p1 n1 c1)).setCell ⟨w.heap.size, 4, none⟩ (.map (some mo))) p1 n1 c1 T.2.1 ∧ CntAt ((u2.setCell ⟨w.heap.size, 1, none⟩ (.slice p1 n1 c1)).setCell ⟨w.heap.size, 4, none⟩ (.map (some mo))) mo N oF ∧ w.heap.size + 1 + 1 ≤ mo ∧ Below w.heap.size w ((u2.setCell ⟨w.heap.size, 1, none⟩ (.slice p1 n1 c1)).setCell ⟨w.heap.size, 4, none⟩ (.map (some mo)))) := by
          have kk : ∀ {b : Nat}, b ≠ w.heap.size → ((u2.setCell ⟨w.heap.size, 1, none⟩ (.slice p1 n1 c1)).setCell ⟨w.heap.size, 4, none⟩ (.map (some mo))).heap[b]? = u2.heap[b]? := fun {b} hb => (Below.heap_setCell _ _ _ _ hb).trans (Below.heap_setCell _ _ _ _ hb)
          have hlab : SlAt RLabel 2 32 (fun b => w.heap.size + 1 + 1 ≤ b) u2 p1 n1 c1 T.2.1 := hs2.weak RLabel.firm (fun b _ h => by rcases h with h | h; exact h.elim; have h1 : W2.heap.size ≤ b := h; have := hsz.out; show w.heap.size + 1 + 1 ≤ b; omega)
          exact ⟨hq4, (hz2.other (by simp) _).other (by simp) _, hlab.kept RLabel.firm ((Kept.set (p := ⟨w.heap.size, 1, none⟩) (fun (h : w.heap.size + 1 + 1 ≤ w.heap.size) => by omega) _).trans (Kept.set (p := ⟨w.heap.size, 4, none⟩) (fun (h : w.heap.size + 1 + 1 ≤ w.heap.size) => by omega) _)), hc2.same (kk (by omega)), hmo2, (hbw2.setCell (p := ⟨w.heap.size, 1, none⟩) (Nat.le_refl _) _).setCell (p := ⟨w.heap.size, 4, none⟩) (Nat.le_refl _) _⟩
        clear hq0 hbw0 hq1 hbw1 hz1 hs1 hq2 hz2 hbw2 hs2 hc2 hb2 hq3 hq4
        go_wp2_with fail
        go_meet
        exact ⟨p1, c1, mo, HG⟩
      ·
        have hq0 : BoxL W2.drew w.heap.size [.string T.1, .slice a1 n1 m1, .slice a2 n2 m2, .slice a3 n3 m3, .map (some T.2.2.2.2)] := HQ.out.1
        have hbw0 : Below w.heap.size w W2.drew := HQ.out.2.2.drew
        have ld4 : (W2.drew).cell? ⟨w.heap.size, 4, none⟩ = _ := (hq0.2 4 _ rfl).1
        go_simp
        refine hK.out _ _ trivial (fun _ => ?_)
        clear hK K
        try go_frame
        refine tr 2 (fun K hK => ?_)
        go_simp
        refine (HC1.out _ hbw0).mono ?_
        rintro e u1 ⟨v, rfl, hrow⟩
        obtain ⟨p1, c1, rfl, hs1⟩ := hrow.sl (bytes := 32) RLabel.firm (by rw [HL1.out]; exact hb1.out)
        rw [HL1.out]
        rw [HL1.out] at hs1
        have hq1 := hq0.on hrow.below
        have hbw1 := on2 hbw0 hrow.below
        have hsz1 := hrow.below.size
        have hz1 : BoxL u1 (w.heap.size + 1) [.string ⟨#[]⟩, .slice none 0 0, .slice none 0 0, .slice none 0 0, .map none] := (show BoxL W2.drew (w.heap.size + 1) [.string ⟨#[]⟩, .slice none 0 0, .slice none 0 0, .slice none 0 0, .map none] from HQ.out.2.1).on hrow.below
        clear hrow
        go_wp2_with fail
        refine hK.out _ _ trivial (fun _ => ?_)
        clear hK K
        try go_frame
        refine' tk 6 ?_ ?_; rotate_left
        · intro u _; go_simp; try with_reducible rfl
        try go_frame
        refine tr 5 (fun K hK => ?_)
        go_simp
        refine (HC2.out _ hbw1).mono ?_
        rintro e u2 ⟨rfl, hc2, hsz2, hb2⟩
        have hq2 := hq1.on hb2
        have hz2 := hz1.on hb2
        have hbw2 := on2 hbw1 hb2
        have hs2 := hs1.on RLabel.firm hb2
        go_wp2_with fail
        refine hK.out _ _ trivial (fun _ => ?_)
        clear hK K
        try go_frame
        generalize hmo : u1.heap.size = mo at hc2 ⊢
        have hmo2 : w.heap.size + 1 + 1 ≤ mo := by have h1 : W2.drew.heap.size = W2.heap.size := rfl; have := hsz.out; omega
        clear hmo hsz2
        obtain ⟨d1, e1⟩ := hq2.2 1 _ rfl
        refine ts 7 (fun K hK => ?_)
        go_simp
        refine hK.out undef _ trivial (fun _ => ?_)
        clear hK K d1 e1
        have hq3 := hq2.set 1 (.slice p1 n1 c1) (by simp)
        obtain ⟨d4, e4⟩ := hq3.2 4 (.map (some T.2.2.2.2)) rfl
        refine' tk 8 ?_ ?_; rotate_left
        · intro u _; go_simp; try with_reducible rfl
        try go_frame
        refine ts 9 (fun K hK => ?_)
        go_simp
        refine hK.out undef _ trivial (fun _ => ?_)
        clear hK K d4 e4
        have hq4 := hq3.set 4 (.map (some mo)) (by simp)
        refine tz ?_
        have HG : Hid (BoxL ((u2.setCell ⟨w.heap.size, 1, none⟩ (.slice p1 n1 c1)).setCell ⟨w.heap.size, 4, none⟩ (.map (some mo))) w.heap.size [.string T.1, .slice p1 n1 c1, .slice a2 n2 m2, .slice a3 n3 m3, .map (some mo)] ∧ BoxL ((u2.setCell ⟨w.heap.size, 1, none⟩ (.slice p1 n1 c1)).setCell ⟨w.heap.size, 4, none⟩ (.map (some mo))) (w.heap.size + 1) [.string ⟨#[]⟩, .slice none 0 0, .slice none 0 0, .slice none 0 0, .map none] ∧ SlAt RLabel 2 32 (fun b => w.heap.size + 1 + 1 ≤ b) ((u2.setCell ⟨w.heap.size, 1, none⟩ (.slice p1 n1 c1)).setCell ⟨w.heap.size, 4, none⟩ (.map (some mo))) p1 n1 c1 T.2.1 ∧ CntAt ((u2.setCell ⟨w.heap.size, 1, none⟩ (.slice p1 n1 c1)).setCell ⟨w.heap.size, 4, none⟩ (.map (some mo))) mo N oF ∧ w.heap.size + 1 + 1 ≤ mo ∧ Below w.heap.size w ((u2.setCell ⟨w.heap.size, 1, none⟩ (.slice p1 n1 c1)).setCell ⟨w.heap.size, 4, none⟩ (.map (some mo)))) := by
          have kk : ∀ {b : Nat}, b ≠ w.heap.size → ((u2.setCell ⟨w.heap.size, 1, none⟩ (.slice p1 n1 c1)).setCell ⟨w.heap.size, 4, none⟩ (.map (some mo))).heap[b]? = u2.heap[b]? := fun {b} hb => (Below.heap_setCell _ _ _ _ hb).trans (Below.heap_setCell _ _ _ _ hb)
          have hlab : SlAt RLabel 2 32 (fun b => w.heap.size + 1 + 1 ≤ b) u2 p1 n1 c1 T.2.1 := hs2.weak RLabel.firm (fun b _ h => by rcases h with h | h; exact h.elim; have h1 : W2.heap.size ≤ b := h; have := hsz.out; show w.heap.size + 1 + 1 ≤ b; omega)
          exact ⟨hq4, (hz2.other (by simp) _).other (by simp) _, hlab.kept RLabel.firm ((Kept.set (p := ⟨w.heap.size, 1, none⟩) (fun (h : w.heap.size + 1 + 1 ≤ w.heap.size) => by omega) _).trans (Kept.set (p := ⟨w.heap.size, 4, none⟩) (fun (h : w.heap.size + 1 + 1 ≤ w.heap.size) => by omega) _)), hc2.same (kk (by omega)), hmo2, (hbw2.setCell (p := ⟨w.heap.size, 1, none⟩) (Nat.le_refl _) _).setCell (p := ⟨w.heap.size, 4, none⟩) (Nat.le_refl _) _⟩
        clear hq0 hbw0 hq1 hbw1 hz1 hs1 hq2 hz2 hbw2 hs2 hc2 hb2 hq3 hq4
        go_wp2_with fail
        go_meet
        exact ⟨p1, c1, mo, HG⟩
    ·
      have hq0 : BoxL W2.drew w.heap.size [.string T.1, .slice a1 n1 m1, .slice a2 n2 m2, .slice a3 n3 m3, .map (some T.2.2.2.2)] := HQ.out.1
      have hbw0 : Below w.heap.size w W2.drew := HQ.out.2.2.drew
      have ld4 : (W2.drew).cell? ⟨w.heap.size, 4, none⟩ = _ := (hq0.2 4 _ rfl).1
      go_simp
      refine hK.out _ _ trivial (fun _ => ?_)
      clear hK K
      try go_frame
      refine tr 1 (fun K hK => ?_)
      have ld1 : (W2.drew).cell? ⟨w.heap.size, 1, none⟩ = _ := (hq0.2 1 _ rfl).1
      go_simp
      refine hK.out _ _ trivial (fun _ => ?_)
      clear hK K
      try go_frame
      refine tr 2 (fun K hK => ?_)
      go_simp
      refine (HC1.out _ hbw0).mono ?_
      rintro e u1 ⟨v, rfl, hrow⟩
      obtain ⟨p1, c1, rfl, hs1⟩ := hrow.sl (bytes := 32) RLabel.firm (by rw [HL1.out]; exact hb1.out)
      rw [HL1.out]
      rw [HL1.out] at hs1
      have hq1 := hq0.on hrow.below
      have hbw1 := on2 hbw0 hrow.below
      have hsz1 := hrow.below.size
      have hz1 : BoxL u1 (w.heap.size + 1) [.string ⟨#[]⟩, .slice none 0 0, .slice none 0 0, .slice none 0 0, .map none] := (show BoxL W2.drew (w.heap.size + 1) [.string ⟨#[]⟩, .slice none 0 0, .slice none 0 0, .slice none 0 0, .map none] from HQ.out.2.1).on hrow.below
      clear hrow
      go_wp2_with fail
      refine hK.out _ _ trivial (fun _ => ?_)
      clear hK K
      try go_frame
      refine' tk 6 ?_ ?_; rotate_left
      · intro u _; go_simp; try with_reducible rfl
      try go_frame
      refine tr 5 (fun K hK => ?_)
      go_simp
      refine (HC2.out _ hbw1).mono ?_
      rintro e u2 ⟨rfl, hc2, hsz2, hb2⟩
      have hq2 := hq1.on hb2
      have hz2 := hz1.on hb2
      have hbw2 := on2 hbw1 hb2
      have hs2 := hs1.on RLabel.firm hb2
      go_wp2_with fail
      refine hK.out _ _ trivial (fun _ => ?_)
      clear hK K
      try go_frame
      generalize hmo : u1.heap.size = mo at hc2 ⊢
      have hmo2 : w.heap.size + 1 + 1 ≤ mo := by have h1 : W2.drew.heap.size = W2.heap.size := rfl; have := hsz.out; omega
      clear hmo hsz2
      obtain ⟨d1, e1⟩ := hq2.2 1 _ rfl
      refine ts 7 (fun K hK => ?_)
      go_simp
      refine hK.out undef _ trivial (fun _ => ?_)
      clear hK K d1 e1
      have hq3 := hq2.set 1 (.slice p1 n1 c1) (by simp)
      obtain ⟨d4, e4⟩ := hq3.2 4 (.map (some T.2.2.2.2)) rfl
      refine' tk 8 ?_ ?_; rotate_left
      · intro u _; go_simp; try with_reducible rfl
      try go_frame
      refine ts 9 (fun K hK => ?_)
      go_simp
      refine hK.out undef _ trivial (fun _ => ?_)
      clear hK K d4 e4
      have hq4 := hq3.set 4 (.map (some mo)) (by simp)
      refine tz ?_
      have HG : Hid (BoxL ((u2.setCell ⟨w.heap.size, 1, none⟩ (.slice p1 n1 c1)).setCell ⟨w.heap.size, 4, none⟩ (.map (some mo))) w.heap.size [.string T.1, .slice p1 n1 c1, .slice a2 n2 m2, .slice a3 n3 m3, .map (some mo)] ∧ BoxL ((u2.setCell ⟨w.heap.size, 1, none⟩ (.slice p1 n1 c1)).setCell ⟨w.heap.size, 4, none⟩ (.map (some mo))) (w.heap.size + 1) [.string ⟨#[]⟩, .slice none 0 0, .slice none 0 0, .slice none 0 0, .map none] ∧ SlAt RLabel 2 32 (fun b => w.heap.size + 1 + 1 ≤ b) ((u2.setCell ⟨w.heap.size, 1, none⟩ (.slice p1 n1 c1)).setCell ⟨w.heap.size, 4, none⟩ (.map (some mo))) p1 n1 c1 T.2.1 ∧ CntAt ((u2.setCell ⟨w.heap.size, 1, none⟩ (.slice p1 n1 c1)).setCell ⟨w.heap.size, 4, none⟩ (.map (some mo))) mo N oF ∧ w.heap.size + 1 + 1 ≤ mo ∧ Below w.heap.size w ((u2.setCell ⟨w.heap.size, 1, none⟩ (.slice p1 n1 c1)).setCell ⟨w.heap.size, 4, none⟩ (.map (some mo)))) := by
        have kk : ∀ {b : Nat}, b ≠ w.heap.size → ((u2.setCell ⟨w.heap.size, 1, none⟩ (.slice p1 n1 c1)).setCell ⟨w.heap.size, 4, none⟩ (.map (some mo))).heap[b]? = u2.heap[b]? := fun {b} hb => (Below.heap_setCell _ _ _ _ hb).trans (Below.heap_setCell _ _ _ _ hb)
        have hlab : SlAt RLabel 2 32 (fun b => w.heap.size + 1 + 1 ≤ b) u2 p1 n1 c1 T.2.1 := hs2.weak RLabel.firm (fun b _ h => by rcases h with h | h; exact h.elim; have h1 : W2.heap.size ≤ b := h; have := hsz.out; show w.heap.size + 1 + 1 ≤ b; omega)
        exact ⟨hq4, (hz2.other (by simp) _).other (by simp) _, hlab.kept RLabel.firm ((Kept.set (p := ⟨w.heap.size, 1, none⟩) (fun (h : w.heap.size + 1 + 1 ≤ w.heap.size) => by omega) _).trans (Kept.set (p := ⟨w.heap.size, 4, none⟩) (fun (h : w.heap.size + 1 + 1 ≤ w.heap.size) => by omega) _)), hc2.same (kk (by omega)), hmo2, (hbw2.setCell (p := ⟨w.heap.size, 1, none⟩) (Nat.le_refl _) _).setCell (p := ⟨w.heap.size, 4, none⟩) (Nat.le_refl _) _⟩
      clear hq0 hbw0 hq1 hbw1 hz1 hs1 hq2 hz2 hbw2 hs2 hc2 hb2 hq3 hq4
      go_wp2_with fail
      go_meet
      exact ⟨p1, c1, mo, HG⟩
  case rest =>
    obtain ⟨p1, c1, mo, hD⟩ := hcut
    obtain ⟨W4, hW4⟩ : ∃ W4, W4 = wc := ⟨_, rfl⟩
    rw [← hW4] at hD ⊢
    clear hW4 HQ HC1 HC2
    have hsm : Hid (mo < W4.heap.size) := hD.out.2.2.2.1.lt
    have hs4 : Hid (w.heap.size + 1 < W4.heap.size) := hD.out.2.1.1
    go_upto_region 2 with fail
    go_cut [13, 16] (fun _ _ wx => ∃ (p2 : Option Addr) (c2 : Nat) (p3 : Option Addr) (c3 : Nat) (M1 M2 : List WishD), Hid (BoxL wx w.heap.size [.string T.1, .slice p1 n1 c1, .slice p2 n2 c2, .slice p3 n3 c3, .map (some mo)] ∧ BoxL wx (w.heap.size + 1) [.string ⟨#[]⟩, .slice none 0 0, .slice none 0 0, .slice none 0 0, .map none] ∧ TalC (fun b => w.heap.size + 1 + 1 ≤ b) w wx [.string T.1, .slice p1 n1 c1, .slice p2 n2 c2, .slice p3 n3 c3, .map (some mo)] (T.1, T.2.1, M1, M2, mo) T N g oF ∧ Below w.heap.size w wx))
    case first =>
      refine t0 (fun _ => True) trivial (fun hHeld => ?_)
      refine' tk 0 ?_ ?_; rotate_left
      · intro u _; go_simp; try with_reducible rfl
      try go_frame
      refine' tk 3 ?_ ?_; rotate_left
      · intro u _; go_simp; try with_reducible rfl
      try go_frame
      refine tb 1 4 (fun K hK => ?_) (fun K hK => ?_)
      ·
        have hq0 : BoxL W4.drew w.heap.size [.string T.1, .slice p1 n1 c1, .slice a2 n2 m2, .slice a3 n3 m3, .map (some mo)] := hD.out.1
        have hbw0 : Below w.heap.size w W4.drew := hD.out.2.2.2.2.2.drew
        have ld2 : (W4.drew).cell? ⟨w.heap.size, 2, none⟩ = _ := (hq0.2 2 _ rfl).1
        go_simp
        refine hK.out _ _ trivial (fun _ => ?_)
        clear hK K
        try go_frame
        refine tb 2 4 (fun K hK => ?_) (fun K hK => ?_)
        ·
          go_simp
          refine (HC3.out _ hbw0).mono ?_
          rintro e u1 ⟨p2, c2, M1, rfl, hs1, he1, hz1, hb1'⟩
          have hq1 := hq0.on hb1'
          have hbw1 := on2 hbw0 hb1'
          go_wp2_with fail
          refine hK.out _ _ trivial (fun _ => ?_)
          clear hK K
          try go_frame
          refine tr 4 (fun K hK => ?_)
          have ld3 : (u1).cell? ⟨w.heap.size, 3, none⟩ = _ := (hq1.2 3 _ rfl).1
          go_simp
          refine hK.out _ _ trivial (fun _ => ?_)
          clear hK K
          try go_frame
          refine' tk 6 ?_ ?_; rotate_left
          · intro u _; go_simp; try with_reducible rfl
          try go_frame
          refine tr 5 (fun K hK => ?_)
          go_simp
          refine (HC4.out _ hbw1).mono ?_
          rintro e u2 ⟨p3, c3, M2, rfl, hs2, he2, hz2, hb2⟩
          have hq2 := hq1.on hb2
          have hbw2 := on2 hbw1 hb2
          have h04 : Below W4.heap.size W4 u2 := (Below.refl _ _).drew.trans ((show Below W4.heap.size W4.drew u1 from hb1').trans (hb2.mono hb1'.size))
          go_wp2_with fail
          refine hK.out _ _ trivial (fun _ => ?_)
          clear hK K
          try go_frame
          have HC : Hid (TalC (fun b => w.heap.size + 1 + 1 ≤ b) w u2 [.string T.1, .slice p1 n1 c1, .slice p2 n2 c2, .slice p3 n3 c3, .map (some mo)] (T.1, T.2.1, M1, M2, mo) T N g oF) := talC_mk (wa := W4.drew) (wb := u1) (va := u1) (vb := u2) (w.heap.size + 1 + 1) HP0.out (hD.out.2.2.1.on RLabel.firm h04) (hs1.on RWish.firm hb2) he1 hz1 hb2 hs2 he2 hz2 (Below.refl _ _) (Nat.le_refl _) hb1'.size (hD.out.2.2.2.1.on h04) hD.out.2.2.2.2.1 hsm.out (by omega)
          have hzz : BoxL u2 (w.heap.size + 1) [.string ⟨#[]⟩, .slice none 0 0, .slice none 0 0, .slice none 0 0, .map none] := hD.out.2.1.on h04
          have hnm := hq2.notMap
          obtain ⟨d1, e1⟩ := hq2.2 2 _ rfl
          refine ts 7 (fun K hK => ?_)
          go_simp
          refine hK.out undef _ trivial (fun _ => ?_)
          clear hK K d1 e1
          have hq3 := hq2.set 2 (.slice p2 n2 c2) (by simp)
          obtain ⟨d4, e4⟩ := hq3.2 3 (.slice a3 n3 m3) rfl
          refine' tk 8 ?_ ?_; rotate_left
          · intro u _; go_simp; try with_reducible rfl
          try go_frame
          refine ts 9 (fun K hK => ?_)
          go_simp
          refine hK.out undef _ trivial (fun _ => ?_)
          clear hK K d4 e4
          have hq4 := hq3.set 3 (.slice p3 n3 c3) (by simp)
          refine tz ?_
          have HG : Hid (BoxL ((u2.setCell ⟨w.heap.size, 2, none⟩ (.slice p2 n2 c2)).setCell ⟨w.heap.size, 3, none⟩ (.slice p3 n3 c3)) w.heap.size [.string T.1, .slice p1 n1 c1, .slice p2 n2 c2, .slice p3 n3 c3, .map (some mo)] ∧ BoxL ((u2.setCell ⟨w.heap.size, 2, none⟩ (.slice p2 n2 c2)).setCell ⟨w.heap.size, 3, none⟩ (.slice p3 n3 c3)) (w.heap.size + 1) [.string ⟨#[]⟩, .slice none 0 0, .slice none 0 0, .slice none 0 0, .map none] ∧ TalC (fun b => w.heap.size + 1 + 1 ≤ b) w ((u2.setCell ⟨w.heap.size, 2, none⟩ (.slice p2 n2 c2)).setCell ⟨w.heap.size, 3, none⟩ (.slice p3 n3 c3)) [.string T.1, .slice p1 n1 c1, .slice p2 n2 c2, .slice p3 n3 c3, .map (some mo)] (T.1, T.2.1, M1, M2, mo) T N g oF ∧ Below w.heap.size w ((u2.setCell ⟨w.heap.size, 2, none⟩ (.slice p2 n2 c2)).setCell ⟨w.heap.size, 3, none⟩ (.slice p3 n3 c3))) := ⟨hq4, (hzz.other (by simp) _).other (by simp) _, (HC.out.set (q := ⟨w.heap.size, 2, none⟩) hnm (fun (h : w.heap.size + 1 + 1 ≤ w.heap.size) => by omega) _).set (q := ⟨w.heap.size, 3, none⟩) hq3.notMap (fun (h : w.heap.size + 1 + 1 ≤ w.heap.size) => by omega) _, (hbw2.setCell (p := ⟨w.heap.size, 2, none⟩) (Nat.le_refl _) _).setCell (p := ⟨w.heap.size, 3, none⟩) (Nat.le_refl _) _⟩
          clear hq0 hbw0 hq1 hbw1 hq2 hbw2 hs1 hs2 hz1 hz2 he1 he2 hb1' hb2 h04 HC hzz hnm hq3 hq4 hD
          go_wp2_with fail
          go_meet
          exact ⟨p2, c2, p3, c3, M1, M2, HG⟩
        ·
          have hq0 : BoxL W4.drew w.heap.size [.string T.1, .slice p1 n1 c1, .slice a2 n2 m2, .slice a3 n3 m3, .map (some mo)] := hD.out.1
          have hbw0 : Below w.heap.size w W4.drew := hD.out.2.2.2.2.2.drew
          have ld3 : (W4.drew).cell? ⟨w.heap.size, 3, none⟩ = _ := (hq0.2 3 _ rfl).1
          go_simp
          refine hK.out _ _ trivial (fun _ => ?_)
          clear hK K
          try go_frame
          refine tr 2 (fun K hK => ?_)
          go_simp
          refine (HC3.out _ hbw0).mono ?_
          rintro e u1 ⟨p2, c2, M1, rfl, hs1, he1, hz1, hb1'⟩
          have hq1 := hq0.on hb1'
          have hbw1 := on2 hbw0 hb1'
          go_wp2_with fail
          refine hK.out _ _ trivial (fun _ => ?_)
          clear hK K
          try go_frame
          refine' tk 6 ?_ ?_; rotate_left
          · intro u _; go_simp; try with_reducible rfl
          try go_frame
          refine tr 5 (fun K hK => ?_)
          go_simp
          refine (HC4.out _ hbw1).mono ?_
          rintro e u2 ⟨p3, c3, M2, rfl, hs2, he2, hz2, hb2⟩
          have hq2 := hq1.on hb2
          have hbw2 := on2 hbw1 hb2
          have h04 : Below W4.heap.size W4 u2 := (Below.refl _ _).drew.trans ((show Below W4.heap.size W4.drew u1 from hb1').trans (hb2.mono hb1'.size))
          go_wp2_with fail
          refine hK.out _ _ trivial (fun _ => ?_)
          clear hK K
          try go_frame
          have HC : Hid (TalC (fun b => w.heap.size + 1 + 1 ≤ b) w u2 [.string T.1, .slice p1 n1 c1, .slice p2 n2 c2, .slice p3 n3 c3, .map (some mo)] (T.1, T.2.1, M1, M2, mo) T N g oF) := talC_mk (wa := W4.drew) (wb := u1) (va := u1) (vb := u2) (w.heap.size + 1 + 1) HP0.out (hD.out.2.2.1.on RLabel.firm h04) (hs1.on RWish.firm hb2) he1 hz1 hb2 hs2 he2 hz2 (Below.refl _ _) (Nat.le_refl _) hb1'.size (hD.out.2.2.2.1.on h04) hD.out.2.2.2.2.1 hsm.out (by omega)
          have hzz : BoxL u2 (w.heap.size + 1) [.string ⟨#[]⟩, .slice none 0 0, .slice none 0 0, .slice none 0 0, .map none] := hD.out.2.1.on h04
          have hnm := hq2.notMap
          obtain ⟨d1, e1⟩ := hq2.2 2 _ rfl
          refine ts 7 (fun K hK => ?_)
          go_simp
          refine hK.out undef _ trivial (fun _ => ?_)
          clear hK K d1 e1
          have hq3 := hq2.set 2 (.slice p2 n2 c2) (by simp)
          obtain ⟨d4, e4⟩ := hq3.2 3 (.slice a3 n3 m3) rfl
          refine' tk 8 ?_ ?_; rotate_left
          · intro u _; go_simp; try with_reducible rfl
          try go_frame
          refine ts 9 (fun K hK => ?_)
          go_simp
          refine hK.out undef _ trivial (fun _ => ?_)
          clear hK K d4 e4
          have hq4 := hq3.set 3 (.slice p3 n3 c3) (by simp)
          refine tz ?_
          have HG : Hid (BoxL ((u2.setCell ⟨w.heap.size, 2, none⟩ (.slice p2 n2 c2)).setCell ⟨w.heap.size, 3, none⟩ (.slice p3 n3 c3)) w.heap.size [.string T.1, .slice p1 n1 c1, .slice p2 n2 c2, .slice p3 n3 c3, .map (some mo)] ∧ BoxL ((u2.setCell ⟨w.heap.size, 2, none⟩ (.slice p2 n2 c2)).setCell ⟨w.heap.size, 3, none⟩ (.slice p3 n3 c3)) (w.heap.size + 1) [.string ⟨#[]⟩, .slice none 0 0, .slice none 0 0, .slice none 0 0, .map none] ∧ TalC (fun b => w.heap.size + 1 + 1 ≤ b) w ((u2.setCell ⟨w.heap.size, 2, none⟩ (.slice p2 n2 c2)).setCell ⟨w.heap.size, 3, none⟩ (.slice p3 n3 c3)) [.string T.1, .slice p1 n1 c1, .slice p2 n2 c2, .slice p3 n3 c3, .map (some mo)] (T.1, T.2.1, M1, M2, mo) T N g oF ∧ Below w.heap.size w ((u2.setCell ⟨w.heap.size, 2, none⟩ (.slice p2 n2 c2)).setCell ⟨w.heap.size, 3, none⟩ (.slice p3 n3 c3))) := ⟨hq4, (hzz.other (by simp) _).other (by simp) _, (HC.out.set (q := ⟨w.heap.size, 2, none⟩) hnm (fun (h : w.heap.size + 1 + 1 ≤ w.heap.size) => by omega) _).set (q := ⟨w.heap.size, 3, none⟩) hq3.notMap (fun (h : w.heap.size + 1 + 1 ≤ w.heap.size) => by omega) _, (hbw2.setCell (p := ⟨w.heap.size, 2, none⟩) (Nat.le_refl _) _).setCell (p := ⟨w.heap.size, 3, none⟩) (Nat.le_refl _) _⟩
          clear hq0 hbw0 hq1 hbw1 hq2 hbw2 hs1 hs2 hz1 hz2 he1 he2 hb1' hb2 h04 HC hzz hnm hq3 hq4 hD
          go_wp2_with fail
          go_meet
          exact ⟨p2, c2, p3, c3, M1, M2, HG⟩
      ·
        have hq0 : BoxL W4.drew w.heap.size [.string T.1, .slice p1 n1 c1, .slice a2 n2 m2, .slice a3 n3 m3, .map (some mo)] := hD.out.1
        have hbw0 : Below w.heap.size w W4.drew := hD.out.2.2.2.2.2.drew
        have ld3 : (W4.drew).cell? ⟨w.heap.size, 3, none⟩ = _ := (hq0.2 3 _ rfl).1
        go_simp
        refine hK.out _ _ trivial (fun _ => ?_)
        clear hK K
        try go_frame
        refine tr 1 (fun K hK => ?_)
        have ld2 : (W4.drew).cell? ⟨w.heap.size, 2, none⟩ = _ := (hq0.2 2 _ rfl).1
        go_simp
        refine hK.out _ _ trivial (fun _ => ?_)
        clear hK K
        try go_frame
        refine tr 2 (fun K hK => ?_)
        go_simp
        refine (HC3.out _ hbw0).mono ?_
        rintro e u1 ⟨p2, c2, M1, rfl, hs1, he1, hz1, hb1'⟩
        have hq1 := hq0.on hb1'
        have hbw1 := on2 hbw0 hb1'
        go_wp2_with fail
        refine hK.out _ _ trivial (fun _ => ?_)
        clear hK K
        try go_frame
        refine' tk 6 ?_ ?_; rotate_left
        · intro u _; go_simp; try with_reducible rfl
        try go_frame
        refine tr 5 (fun K hK => ?_)
        go_simp
        refine (HC4.out _ hbw1).mono ?_
        rintro e u2 ⟨p3, c3, M2, rfl, hs2, he2, hz2, hb2⟩
        have hq2 := hq1.on hb2
        have hbw2 := on2 hbw1 hb2
        have h04 : Below W4.heap.size W4 u2 := (Below.refl _ _).drew.trans ((show Below W4.heap.size W4.drew u1 from hb1').trans (hb2.mono hb1'.size))
        go_wp2_with fail
        refine hK.out _ _ trivial (fun _ => ?_)
        clear hK K
        try go_frame
        have HC : Hid (TalC (fun b => w.heap.size + 1 + 1 ≤ b) w u2 [.string T.1, .slice p1 n1 c1, .slice p2 n2 c2, .slice p3 n3 c3, .map (some mo)] (T.1, T.2.1, M1, M2, mo) T N g oF) := talC_mk (wa := W4.drew) (wb := u1) (va := u1) (vb := u2) (w.heap.size + 1 + 1) HP0.out (hD.out.2.2.1.on RLabel.firm h04) (hs1.on RWish.firm hb2) he1 hz1 hb2 hs2 he2 hz2 (Below.refl _ _) (Nat.le_refl _) hb1'.size (hD.out.2.2.2.1.on h04) hD.out.2.2.2.2.1 hsm.out (by omega)
        have hzz : BoxL u2 (w.heap.size + 1) [.string ⟨#[]⟩, .slice none 0 0, .slice none 0 0, .slice none 0 0, .map none] := hD.out.2.1.on h04
        have hnm := hq2.notMap
        obtain ⟨d1, e1⟩ := hq2.2 2 _ rfl
        refine ts 7 (fun K hK => ?_)
        go_simp
        refine hK.out undef _ trivial (fun _ => ?_)
        clear hK K d1 e1
        have hq3 := hq2.set 2 (.slice p2 n2 c2) (by simp)
        obtain ⟨d4, e4⟩ := hq3.2 3 (.slice a3 n3 m3) rfl
        refine' tk 8 ?_ ?_; rotate_left
        · intro u _; go_simp; try with_reducible rfl
        try go_frame
        refine ts 9 (fun K hK => ?_)
        go_simp
        refine hK.out undef _ trivial (fun _ => ?_)
        clear hK K d4 e4
        have hq4 := hq3.set 3 (.slice p3 n3 c3) (by simp)
        refine tz ?_
        have HG : Hid (BoxL ((u2.setCell ⟨w.heap.size, 2, none⟩ (.slice p2 n2 c2)).setCell ⟨w.heap.size, 3, none⟩ (.slice p3 n3 c3)) w.heap.size [.string T.1, .slice p1 n1 c1, .slice p2 n2 c2, .slice p3 n3 c3, .map (some mo)] ∧ BoxL ((u2.setCell ⟨w.heap.size, 2, none⟩ (.slice p2 n2 c2)).setCell ⟨w.heap.size, 3, none⟩ (.slice p3 n3 c3)) (w.heap.size + 1) [.string ⟨#[]⟩, .slice none 0 0, .slice none 0 0, .slice none 0 0, .map none] ∧ TalC (fun b => w.heap.size + 1 + 1 ≤ b) w ((u2.setCell ⟨w.heap.size, 2, none⟩ (.slice p2 n2 c2)).setCell ⟨w.heap.size, 3, none⟩ (.slice p3 n3 c3)) [.string T.1, .slice p1 n1 c1, .slice p2 n2 c2, .slice p3 n3 c3, .map (some mo)] (T.1, T.2.1, M1, M2, mo) T N g oF ∧ Below w.heap.size w ((u2.setCell ⟨w.heap.size, 2, none⟩ (.slice p2 n2 c2)).setCell ⟨w.heap.size, 3, none⟩ (.slice p3 n3 c3))) := ⟨hq4, (hzz.other (by simp) _).other (by simp) _, (HC.out.set (q := ⟨w.heap.size, 2, none⟩) hnm (fun (h : w.heap.size + 1 + 1 ≤ w.heap.size) => by omega) _).set (q := ⟨w.heap.size, 3, none⟩) hq3.notMap (fun (h : w.heap.size + 1 + 1 ≤ w.heap.size) => by omega) _, (hbw2.setCell (p := ⟨w.heap.size, 2, none⟩) (Nat.le_refl _) _).setCell (p := ⟨w.heap.size, 3, none⟩) (Nat.le_refl _) _⟩
        clear hq0 hbw0 hq1 hbw1 hq2 hbw2 hs1 hs2 hz1 hz2 he1 he2 hb1' hb2 h04 HC hzz hnm hq3 hq4 hD
        go_wp2_with fail
        go_meet
        exact ⟨p2, c2, p3, c3, M1, M2, HG⟩
    case rest =>
      obtain ⟨p2, c2, p3, c3, M1, M2, hE⟩ := hcut
      obtain ⟨W6, hW6⟩ : ∃ W6, W6 = wc := ⟨_, rfl⟩
      rw [← hW6] at hE ⊢
      clear hW6 hD HC3 HC4
      have y0 := (hE.out.1.2 0 _ rfl).1; have y1 := (hE.out.1.2 1 _ rfl).1; have y2 := (hE.out.1.2 2 _ rfl).1; have y3 := (hE.out.1.2 3 _ rfl).1; have y4 := (hE.out.1.2 4 _ rfl).1
      have z0 := hE.out.2.1.2 0 _ rfl; have z1 := hE.out.2.1.2 1 _ rfl; have z2 := hE.out.2.1.2 2 _ rfl; have z3 := hE.out.2.1.2 3 _ rfl; have z4 := hE.out.2.1.2 4 _ rfl
      obtain ⟨x0, f0⟩ := z0; obtain ⟨x1, f1⟩ := z1; obtain ⟨x2, f2⟩ := z2; obtain ⟨x3, f3⟩ := z3; obtain ⟨x4, f4⟩ := z4
      have hT5 := (((((hE.out.2.2.1.set (q := ⟨w.heap.size + 1, 0, none⟩) (hE.out.2.1).notMap (fun (h : w.heap.size + 1 + 1 ≤ w.heap.size + 1) => by omega) (.string T.1)).set (q := ⟨w.heap.size + 1, 1, none⟩) ((hE.out.2.1.set 0 (.string T.1) (by simp))).notMap (fun (h : w.heap.size + 1 + 1 ≤ w.heap.size + 1) => by omega) (.slice p1 n1 c1)).set (q := ⟨w.heap.size + 1, 2, none⟩) (((hE.out.2.1.set 0 (.string T.1) (by simp)).set 1 (.slice p1 n1 c1) (by simp))).notMap (fun (h : w.heap.size + 1 + 1 ≤ w.heap.size + 1) => by omega) (.slice p2 n2 c2)).set (q := ⟨w.heap.size + 1, 3, none⟩) ((((hE.out.2.1.set 0 (.string T.1) (by simp)).set 1 (.slice p1 n1 c1) (by simp)).set 2 (.slice p2 n2 c2) (by simp))).notMap (fun (h : w.heap.size + 1 + 1 ≤ w.heap.size + 1) => by omega) (.slice p3 n3 c3)).set (q := ⟨w.heap.size + 1, 4, none⟩) (((((hE.out.2.1.set 0 (.string T.1) (by simp)).set 1 (.slice p1 n1 c1) (by simp)).set 2 (.slice p2 n2 c2) (by simp)).set 3 (.slice p3 n3 c3) (by simp))).notMap (fun (h : w.heap.size + 1 + 1 ≤ w.heap.size + 1) => by omega) (.map (some mo)))
      have hq5 := (((((hE.out.2.1.set 0 (.string T.1) (by simp)).set 1 (.slice p1 n1 c1) (by simp)).set 2 (.slice p2 n2 c2) (by simp)).set 3 (.slice p3 n3 c3) (by simp)).set 4 (.map (some mo)) (by simp))
      have hB5 := (((((hE.out.2.2.2.setCell (p := ⟨w.heap.size + 1, 0, none⟩) (Nat.le_succ _) (.string T.1)).setCell (p := ⟨w.heap.size + 1, 1, none⟩) (Nat.le_succ _) (.slice p1 n1 c1)).setCell (p := ⟨w.heap.size + 1, 2, none⟩) (Nat.le_succ _) (.slice p2 n2 c2)).setCell (p := ⟨w.heap.size + 1, 3, none⟩) (Nat.le_succ _) (.slice p3 n3 c3)).setCell (p := ⟨w.heap.size + 1, 4, none⟩) (Nat.le_succ _) (.map (some mo)))
      obtain ⟨V, hV⟩ : ∃ V, V = (((((W6.setCell ⟨w.heap.size + 1, 0, none⟩ (.string T.1)).setCell ⟨w.heap.size + 1, 1, none⟩ (.slice p1 n1 c1)).setCell ⟨w.heap.size + 1, 2, none⟩ (.slice p2 n2 c2)).setCell ⟨w.heap.size + 1, 3, none⟩ (.slice p3 n3 c3)).setCell ⟨w.heap.size + 1, 4, none⟩ (.map (some mo))) := ⟨_, rfl⟩
      rw [← hV] at hT5 hq5 hB5
      have t0' := (hq5.2 0 (.string T.1) rfl).1; have t1' := (hq5.2 1 (.slice p1 n1 c1) rfl).1; have t2' := (hq5.2 2 (.slice p2 n2 c2) rfl).1; have t3' := (hq5.2 3 (.slice p3 n3 c3) rfl).1; have t4' := (hq5.2 4 (.map (some mo)) rfl).1
      have HV : Hid (V = (((((W6.setCell ⟨w.heap.size + 1, 0, none⟩ (.string T.1)).setCell ⟨w.heap.size + 1, 1, none⟩ (.slice p1 n1 c1)).setCell ⟨w.heap.size + 1, 2, none⟩ (.slice p2 n2 c2)).setCell ⟨w.heap.size + 1, 3, none⟩ (.slice p3 n3 c3)).setCell ⟨w.heap.size + 1, 4, none⟩ (.map (some mo)))) := hV
      have HR5 : Hid (TalC (Fresh w) w V [.string T.1, .slice p1 n1 c1, .slice p2 n2 c2, .slice p3 n3 c3, .map (some mo)] (T.1, T.2.1, M1, M2, mo) T N g oF ∧ Below w.heap.size w V) := ⟨⟨RTally.firm.weak hT5.r (fun b _ k => ⟨k.1, by have h9 : w.heap.size + 1 + 1 ≤ b := k.2; show w.heap.size ≤ b; omega⟩), hT5.n, hT5.l, hT5.a, hT5.b, hT5.m, hT5.f⟩, hB5⟩
      clear hE hq5 hT5 hB5 hV
      go_wp2_with fail
      rw [← HV.out]
      refine bodyPost_ret (v := .agg #[.string T.1, .slice p1 n1 c1, .slice p2 n2 c2, .slice p3 n3 c3, .map (some mo)]) (by simp [results, Tryz.results40, go_sem, t0', t1', t2', t3', t4', Result.andThen]) rfl ⟨_, _, rfl, HR5.out⟩
end Go.Proofs.YtfnafgmengefaaaGreatDoor
