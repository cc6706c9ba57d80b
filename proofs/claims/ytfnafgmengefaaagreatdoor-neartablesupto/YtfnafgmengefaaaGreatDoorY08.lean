/- The document's Drop. Condition: the arguments lie as is said of them. What stays while the law NearTables goes its way: a table, and all that is left, a row of the law's own. Plain facts on worlds. No condition. placed copies a placed pod, and the copy's labels may be written. Condition: the argument lies as is said of it. -/
import Derived.Test.YtfnafgmengefaaaGreatDoorY05
import Derived.Test.YtfnafgmengefaaaGreatDoorY06
import Derived.Test.YtfnafgmengefaaaGreatDoorQ27
import Derived.Test.YtfnafgmengefaaaGreatDoorY07
import Derived.Test.YtfnafgmengefaaaGreatDoorQ09
import Derived.Test.YtfnafgmengefaaaGreatDoorY01
import Derived.Test.YtfnafgmengefaaaGreatDoorY03
import Derived.Test.YtfnafgmengefaaaGreatDoorQ28
namespace Go.Proofs.YtfnafgmengefaaaGreatDoor
open Go.RowKit Go.Maps
set_option linter.unusedSimpArgs false
set_option maxRecDepth 100000

theorem RPlaced.parts9 {A : Where} {w : World} {xs : List Value} {x : PlacedD} (h : RPlaced A w xs x) : ∃ (ps : List Value) (g : Hd), xs = ps ++ [.slice g.1 g.2.1 g.2.2] ∧ RPod A w ps x.1 ∧ ps.length = 16 ∧ SlAt RLabel 2 32 A w g.1 g.2.1 g.2.2 x.2 := by
  obtain ⟨ps, qs, rfl, h1, h2⟩ := h
  obtain ⟨a, n, c, rfl, h3⟩ := h2
  exact ⟨ps, (a, n, c), rfl, h1, RPod.firm.len h1, h3⟩
theorem range_fst9 {u : World} {B o : Nat} {ps : List Value} {v : Value} (h : u.rangeAt B o (ps ++ [v])) : u.rangeAt B o ps := fun j y hj => h j y (by rw [List.getElem?_append_left (List.getElem?_eq_some_iff.1 hj).1]; exact hj)
theorem range_lst9 {u : World} {B o : Nat} {ps : List Value} {v : Value} (hl : ps.length = 16) (h : u.rangeAt B o (ps ++ [v])) : u.cell? ⟨B, o + 16, none⟩ = some v := h 16 v (by rw [List.getElem?_append_right (by omega), hl]; rfl)
theorem range_on10 {u u' : World} {B o : Nat} {c : List Value} (hB : B < u.heap.size) (hb : Below u.heap.size u u') (h : u.rangeAt B o c) : u'.rangeAt B o c := fun j v hj => (hb.cell (p := ⟨B, o + j, none⟩) hB).trans (h j v hj)
def DrS (B o : Nat) (ps : List Value) (g : Hd) (D : Nat) (qs : List Value) (h : Hd) (u : World) : Prop :=
  u.rangeAt B o ps ∧ u.cell? ⟨B, o + 16, none⟩ = some (.slice g.1 g.2.1 g.2.2) ∧ u.rangeAt D 0 qs ∧ u.cell? ⟨D, 16, none⟩ = some (.slice h.1 h.2.1 h.2.2)
/-- What the document's Drop gives back. -/
def DrOut (A : Where) (w : World) (a : Option Addr) (n cap : Nat) (L : List PlacedD) (x : PlacedD) (e : Ending) (w' : World) : Prop :=
  (¬ x ∈ L ∧ e = .returned (.tuple #[.slice a n cap, .bool false]) ∧ Below w.heap.size w w') ∨ ∃ v L1 L2, L = L1 ++ x :: L2 ∧ e = .returned (.tuple #[v, .bool true]) ∧ Row RPlaced 17 A w w' 41 v (L1 ++ L2)
theorem take_getD9 {L : List PlacedD} {k : Nat} (h : k < L.length) : L = L.take k ++ L.getD k default :: L.drop (k + 1) := by
  rw [List.getD_eq_getElem?_getD, List.getElem?_eq_getElem h]
  simp
theorem not_mem9 {L : List PlacedD} {x : PlacedD} (h : ∀ j, j < L.length → ¬ L.getD j default = x) : ¬ x ∈ L := fun hm => by
  obtain ⟨i, hi, rfl⟩ := List.mem_iff_getElem.1 hm
  exact h i hi (by rw [List.getD_eq_getElem?_getD, List.getElem?_eq_getElem hi]; rfl)
set_option maxHeartbeats 8000000 in
theorem rDrop8_calls (A A' : Where) (a : Option Addr) (n cap : Nat) (L : List PlacedD) (cs : List Value) (x : PlacedD) (w : World) (hL : Hid (SlAt RPlaced 17 320 A w a n cap L)) (hx : Hid (RPlaced A' w cs x)) :
    Calls Tryz.prog 17 #[.slice a n cap, .agg cs.toArray] w fun e w' => DrOut A w a n cap L x e w' := by
  obtain ⟨qs, ⟨h1, h2, h3⟩, hcs, rq, hlq, sh⟩ := hx.out.parts9
  simp only at hcs sh
  have hnl : Hid (L.length = n) := hL.out.1
  have hlen := hL.out.len (by decide)
  have hcap : n ≤ cap := hL.out.2.1
  have hby : Hid (n * 320 ≤ 140737488351232) := hL.out.2.2.2.1
  have HLw : Hid (SlAt RPlaced 17 320 (fun b => A b ∧ b < w.heap.size) w a n cap L) := hL.out.weak RPlaced.firm (fun b hb h => ⟨h, hb⟩)
  obtain ⟨W1, hW1⟩ : ∃ W, W = w.alloc (.cells cs.toArray 41) := ⟨_, rfl⟩
  have B1 : Below w.heap.size w W1 := by rw [hW1]; go_grown
  have qx : BoxL W1 w.heap.size cs := by rw [hW1]; exact BoxL.new w 41 cs
  have HU : Hid (∀ u, Below W1.heap.size W1 u → SlAt RPlaced 17 320 (fun b => A b ∧ b < w.heap.size) u a n cap L ∧ u.rangeAt w.heap.size 0 qs ∧ u.cell? ⟨w.heap.size, 16, none⟩ = some (.slice h1 h2 h3) ∧ RPod A' u qs x.1 ∧ SlAt RLabel 2 32 A' u h1 h2 h3 x.2 ∧ Below w.heap.size w u) := fun u hb => by
    have hr := (qx.on hb).range; rw [hcs] at hr
    exact ⟨(HLw.out.on RPlaced.firm B1).on RPlaced.firm hb, range_fst9 hr, (by have := range_lst9 hlq hr; simpa using this), RPod.firm.kept rq (Kept.below (on2 B1 hb)), sh.on RLabel.firm (on2 B1 hb), on2 B1 hb⟩
  have hiq : (Tryz.prog.info? 33).map (·.size) = some qs.length := by rw [hlq]; exact sizePo
  clear hL hx rq sh hcs qx B1 HLw
  go_enter Tryz.func17, Tryz.ntmps17
  go_upto_region 1 with fail
  rw [← hW1]
  clear hW1
  go_wp2_with fail
  go_loopw [6] (fun i wr => ∃ k : Nat, k ≤ n ∧ i = .int .i64 k ∧ Hid (Below W1.heap.size W1 wr ∧ ∀ j, j < k → ¬ L.getD j default = x)) (fun i _ => n - (intOf i).toNat)
  case atStart => exact ⟨0, Nat.zero_le _, rfl, Below.refl _ _, fun j hj => absurd hj (Nat.not_lt_zero _)⟩
  case round =>
    obtain ⟨k, hk, rfl, hst⟩ := hrel
    obtain ⟨m1, m2, m3, m4, m5, m6⟩ := HU.out wr hst.out.1
    by_cases hlt : k < n
    · have hltz : (k : Int) < (n : Int) := by omega
      have HM1 : Hid (SlAt RPlaced 17 320 (fun b => A b ∧ b < w.heap.size) wr a n cap L) := m1
      obtain ⟨B, off, rfl, hB, _, xs, hr, hv⟩ := m1.get hlt
      obtain ⟨ps, ⟨g1, g2, g3⟩, rfl, rp, hlp, sg⟩ := hr.parts9
      simp only at sg
      have HW : Hid (∀ u, Below wr.heap.size wr u → (DrS B (off + k * 17) ps (g1, g2, g3) w.heap.size qs (h1, h2, h3)) u) := fun u hb => ⟨range_on10 hB hb (range_fst9 hv), (hb.cell (p := ⟨B, _, none⟩) hB).trans (range_lst9 hlp hv), (HU.out u (on2 hst.out.1 hb)).2.1, (HU.out u (on2 hst.out.1 hb)).2.2.1⟩
      have hip : (Tryz.prog.info? 33).map (·.size) = some ps.length := by rw [hlp]; exact sizePo
      have HSp := SamePod_calls ps qs _ A' (L.getD k default).1 x.1 wr.drew (RPod.firm.kept rp (Kept.below (Below.refl _ _).drew)) (RPod.firm.kept m4 (Kept.below (Below.refl _ _).drew))
      have HSl : Hid (∀ u, Below wr.heap.size wr u → _) := fun u hb => SameLabels_calls g1 g2 g3 _ (L.getD k default).2 h1 h2 h3 A' x.2 u (sg.on RLabel.firm hb) (m5.on RLabel.firm hb)
      have HB : Hid (Below W1.heap.size W1 wr) := hst.out.1
      have HNx : Hid (¬ L.getD k default = x → ∀ j, j < k + 1 → ¬ L.getD j default = x) := fun hn j hj => by
        rcases Nat.lt_succ_iff_lt_or_eq.1 hj with h | rfl
        · exact hst.out.2 j h
        · exact hn
      clear hst hr hv rp sg m1 m2 m3 m4 m5 m6
      go_upto_region 4 with fail
      refine t0 (DrS B (off + k * 17) ps (g1, g2, g3) w.heap.size qs (h1, h2, h3)) (HW.out _ (Below.refl _ _).drew) (fun hHeld => ?_)
      refine' tk 0 ?_ ?_; rotate_left
      · intro u ⟨_, _, _, _⟩; go_simp; try with_reducible rfl
      try go_frame
      refine' tk 1 ?_ ?_; rotate_left
      · intro u ⟨_, _, _, _⟩; go_simp; try with_reducible rfl
      try go_frame
      refine' tk 2 ?_ ?_; rotate_left
      · intro u ⟨_, _, _, _⟩; go_simp; try with_reducible rfl
      try go_frame
      refine' tk 3 ?_ ?_; rotate_left
      · intro u ⟨_, _, _, _⟩; go_simp; try with_reducible rfl
      try go_frame
      refine' tk 5 ?_ ?_; rotate_left
      · intro u ⟨_, _, _, _⟩; go_simp; try with_reducible rfl
      try go_frame
      refine' tq 4 (.agg ps.toArray) ?_ ?_
      · exact yieldsIf_load_mid rfl 33 _ rfl B (off + k * 17) rfl ps _ (fun u hu => hu.1) Tryz.underlying33 rfl hip
      try go_frame
      refine' tq 6 (.agg qs.toArray) ?_ ?_
      · exact yieldsIf_load_mid rfl 33 _ rfl w.heap.size 0 rfl qs _ (fun u hu => hu.2.2.1) Tryz.underlying33 rfl hiq
      try go_frame
      refine tr 7 (fun K hK => ?_)
      go_simp
      refine HSp.mono ?_
      rintro e u1 ⟨⟨r, rfl, hre⟩, hb1⟩
      have hb1' : Below wr.heap.size wr u1 := (Below.refl _ _).drew.trans hb1
      have HRe : Hid (r = true ↔ (L.getD k default).1 = x.1) := hre
      clear hre
      go_wp2_with fail
      refine hK.out _ _ (HW.out _ hb1') (fun hHeld2 => ?_)
      clear hK K hHeld HSp hb1; have hHeld := hHeld2; clear hHeld2
      try go_frame
      refine' tk 8 ?_ ?_; rotate_left
      · intro u ⟨_, _, _, _⟩; go_simp; try with_reducible rfl
      try go_frame
      cases r
      ·
        have hno : ¬ L.getD k default = x := fun e => absurd (HRe.out.2 (by rw [e])) (by decide)
        refine tn 9 ?_
        try go_frame
        refine tn 10 ?_
        try go_frame
        refine tn 11 ?_
        try go_frame
        refine tn 12 ?_
        try go_frame
        refine tn 13 ?_
        try go_frame
        refine tn 14 ?_
        try go_frame
        refine tn 15 ?_
        try go_frame
        refine tn 16 ?_
        try go_frame
        refine' tk 17 ?_ ?_; rotate_left
        · intro u ⟨_, _, _, _⟩; go_simp; try with_reducible rfl
        try go_frame
        refine tz ?_
        have HN : Hid (Below W1.heap.size W1 u1 ∧ ∀ j, j < k + 1 → ¬ L.getD j default = x) := ⟨on2 HB.out hb1', HNx.out hno⟩
        clear hHeld HW HSl HNx HB HRe hno HM1
        go_wp2_with fail
        go_roundw
        case rel => exact ⟨k + 1, by omega, by go_num, HN⟩
        case measure => simp [intOf]; omega
      ·
        refine' tk 9 ?_ ?_; rotate_left
        · intro u ⟨_, _, _, _⟩; go_simp; try with_reducible rfl
        try go_frame
        refine' tk 10 ?_ ?_; rotate_left
        · intro u ⟨_, _, _, _⟩; go_simp; try with_reducible rfl
        try go_frame
        refine' tk 11 ?_ ?_; rotate_left
        · intro u ⟨_, _, _, _⟩; go_simp; try with_reducible rfl
        try go_frame
        refine' tk 12 ?_ ?_; rotate_left
        · intro u ⟨_, _, _, _⟩; go_simp; try with_reducible rfl
        try go_frame
        refine' tk 13 ?_ ?_; rotate_left
        · intro u ⟨_, _, _, _⟩; go_simp; try with_reducible rfl
        try go_frame
        refine' tk 14 ?_ ?_; rotate_left
        · intro u ⟨_, _, _, _⟩; go_simp; try with_reducible rfl
        try go_frame
        refine' tk 15 ?_ ?_; rotate_left
        · intro u ⟨_, _, _, _⟩; go_simp; try with_reducible rfl
        try go_frame
        refine tr 16 (fun K hK => ?_)
        go_simp
        refine (HSl.out u1 hb1').mono ?_
        rintro e u2 ⟨he, q, hq⟩
        have hb2' : Below wr.heap.size wr u2 := by rw [hq]; exact below_drewN hb1' _
        clear hq
        obtain ⟨bl, hbl⟩ : ∃ b : Bool, b = decide ((L.getD k default).2 = x.2) := ⟨_, rfl⟩
        rw [← hbl] at he
        subst he
        have HBl : Hid (bl = decide ((L.getD k default).2 = x.2)) := hbl
        clear hbl
        go_wp2_with fail
        refine hK.out _ _ (HW.out _ hb2') (fun hHeld2 => ?_)
        clear hK K hHeld; have hHeld := hHeld2; clear hHeld2
        try go_frame
        refine' tk 17 ?_ ?_; rotate_left
        · intro u ⟨_, _, _, _⟩; go_simp; try with_reducible rfl
        try go_frame
        refine tz ?_
        cases bl
        ·
          have hno : ¬ L.getD k default = x := fun e => by have h := HBl.out; rw [e] at h; simp at h
          clear HBl
          have HN : Hid (Below W1.heap.size W1 u2 ∧ ∀ j, j < k + 1 → ¬ L.getD j default = x) := ⟨on2 HB.out hb2', HNx.out hno⟩
          clear hHeld HW HSl HNx HB HRe hno HM1
          go_wp2_with fail
          go_roundw
          case rel => exact ⟨k + 1, by omega, by go_num, HN⟩
          case measure => simp [intOf]; omega
        ·
          have hyes : L.getD k default = x := Prod.ext (HRe.out.1 (by trivial)) (by have h := HBl.out; exact of_decide_eq_true h.symm)
          have HYes : Hid (L = L.take k ++ x :: L.drop (k + 1)) := by have h := take_getD9 (L := L) (k := k) (by rw [hnl.out]; exact hlt); rw [hyes] at h; exact h
          have HB9 : Hid (Below w.heap.size w u2) := (HU.out u2 (on2 HB.out hb2')).2.2.2.2.2
          have HL9 : Hid (∀ u, Below u2.heap.size u2 u → SlAt RPlaced 17 320 (fun b => A b ∧ b < w.heap.size) u (some ⟨B, off, none⟩) n cap L) := fun u hb => HM1.out.on RPlaced.firm (on2 hb2' hb)
          clear hHeld HW HSl HNx HB HRe HBl hyes HM1 HU hb1' hb2'
          have HTk : Hid (∀ u, Below u2.heap.size u2 u → SlAt RPlaced 17 320 (fun b => A b ∧ b < w.heap.size) u (some ⟨B, off, none⟩) k cap (L.take k)) := fun u hb => SlAt.take8 (HL9.out u hb) hk
          obtain ⟨t, htk⟩ : ∃ t, t = k + 1 := ⟨_, rfl⟩
          rw [← htk] at HYes
          have hwk : IntKind.i64.wrap ((k : Int) + 1) = (t : Int) := by rw [IntWalk.i64_left]; unfold wrap64; omega
          have HTk9 : Hid (t = k + 1) := htk
          have htn : t ≤ n := by omega
          have hkt : k ≤ t := by omega
          have HDr : Hid (∀ u, Below u2.heap.size u2 u → SlAt RPlaced 17 320 (fun b => A b ∧ b < w.heap.size) u (dropA8 (some ⟨B, off, none⟩) cap t) (n - t) (cap - t) (L.drop t)) := fun u hb => sl_dropA8 (HL9.out u hb) htn
          have HLn : Hid ((L.take k).length = k ∧ (L.drop t).length = n - t) := by rw [Hid, List.length_take, List.length_drop, hnl.out]; omega
          clear htk
          go_upto_region 5 with fail
          have hd0 : Below u2.heap.size u2 u2.drew := (Below.refl _ _).drew
          refine t0 (Below u2.heap.size u2) hd0 (fun hHeld => ?_)
          refine' tk 1 ?_ ?_; rotate_left
          · intro u hu; clear hu; go_simp; try with_reducible rfl
          try go_frame
          refine' tk 2 ?_ ?_; rotate_left
          · intro u hu; clear hu; go_simp; try with_reducible rfl
          try go_frame
          refine' tk 5 ?_ ?_; rotate_left
          · intro u hu; clear hu; go_simp; try with_reducible rfl
          try go_frame
          refine' tk 6 ?_ ?_; rotate_left
          · intro u hu; clear hu; go_simp; try with_reducible rfl
          try go_frame
          refine' tk 7 ?_ ?_; rotate_left
          · intro u hu; clear hu; go_simp; try with_reducible rfl
          try go_frame
          clear hwk
          refine' tq 3 (.slice (some ⟨B, off, none⟩) k cap) ?_ ?_
          · refine .inl ⟨rfl, fun u _ => ?_⟩
            have z1 : (0 : Int) ≤ (k : Int) := by omega
            have z2 : (k : Int) ≤ (n : Int) := by omega
            have z3 : (n : Int) ≤ (cap : Int) := by omega
            have z4 : (k : Int) ≤ (cap : Int) := by omega
            go_simp
            try with_reducible rfl
          try go_frame
          refine' tq 8 (.slice (dropA8 (some ⟨B, off, none⟩) cap t) (n - t) (cap - t)) ?_ ?_
          · refine .inl ⟨rfl, fun u _ => ?_⟩
            have z1 : (0 : Int) ≤ (t : Int) := by omega
            have z2 : (t : Int) ≤ (n : Int) := by omega
            have z3 : (n : Int) ≤ (cap : Int) := by omega
            have z4 : (t : Int) ≤ (cap : Int) := by omega
            have z5 : (cap : Int) - (t : Int) = ((cap - t : Nat) : Int) := by omega
            by_cases hct : cap = t
            · simp only [dropA8, hct, if_true]
              go_simp
              try with_reducible rfl
            · simp only [dropA8, hct, if_false]
              go_simp
              try with_reducible rfl
          try go_frame
          refine tr 0 (fun K hK => ?_)
          go_simp
          have ro0 : Row RPlaced 17 A w (u2.drew.alloc (.cells #[] 41)) 41 (.slice (some ⟨u2.drew.heap.size, 0, none⟩) 0 0) ([] : List PlacedD) := Row.start A w u2.drew 41 (on2 HB9.out hd0)
          have hv0 : Below u2.heap.size u2 (u2.drew.alloc (.cells #[] 41)) := hd0.alloc hd0.size _
          have hs0 : u2.heap.size ≤ u2.drew.heap.size := hd0.size
          refine hK.out _ _ hv0 (fun hHeld2 => ?_)
          clear hK K hHeld; have hHeld := hHeld2; clear hHeld2
          try go_frame
          skip
          have hsrc : Src RPlaced 17 (fun b => A b ∧ (Value.slice (some ⟨u2.drew.heap.size, 0, none⟩) 0 0).ownBlock ≠ some b) (u2.drew.alloc (.cells #[] 41)) (some ⟨B, off, none⟩) k (L.take k) := ((HTk.out _ hv0).src RPlaced.firm).weak RPlaced.firm (fun b _ h => ⟨h.1, fun e => by have q1 := (ro0.lt e).1; have q2 := h.2; omega⟩)
          refine tr 4 (fun K hK => ?_)
          refine row_appendP_wp RPlaced.firm (A := A) (w0 := w) _ _ 34 41 rfl _ 320 infoPl Tryz.underlying34 rfl (by decide) (by decide) (Value.slice (some ⟨u2.drew.heap.size, 0, none⟩) 0 0) [] rfl ro0 (some ⟨B, off, none⟩) k cap (L.take k) rfl hsrc (by have q1 := HLn.out; have q2 := hby.out; (try simp only [List.length_nil, List.nil_append, Nat.zero_add]); omega) ?_
          intro za ya ra gra hpa
          have ha : Below u2.heap.size u2 ya := Below.grown hv0 gra hv0.size (fun b e => by simp only [Value.ownBlock, Option.some.injEq] at e; omega)
          refine hK.out _ _ ha (fun hHeld2 => ?_)
          clear hK K hHeld hsrc; have hHeld := hHeld2; clear hHeld2
          try go_frame
          skip
          have hsrc : Src RPlaced 17 (fun b => A b ∧ (za).ownBlock ≠ some b) ya (dropA8 (some ⟨B, off, none⟩) cap t) (n - t) (L.drop t) := ((HDr.out _ ha).src RPlaced.firm).weak RPlaced.firm (fun b _ h => ⟨h.1, fun e => by have q1 := (ra.lt e).1; have q2 := h.2; omega⟩)
          refine tr 9 (fun K hK => ?_)
          refine row_appendP_wp RPlaced.firm (A := A) (w0 := w) _ _ 34 41 rfl _ 320 infoPl Tryz.underlying34 rfl (by decide) (by decide) (za) ([] ++ L.take k) rfl ra (dropA8 (some ⟨B, off, none⟩) cap t) (n - t) (cap - t) (L.drop t) rfl hsrc (by have q1 := HLn.out; have q2 := hby.out; (try simp only [List.length_nil, List.nil_append, Nat.zero_add]); omega) ?_
          intro zb yb rb grb hpb
          have hb : Below u2.heap.size u2 yb := Below.grown ha grb ha.size (fun b e => by rcases hpa with q | q <;> rw [q] at e <;> simp [Value.ownBlock] at e <;> omega)
          refine hK.out _ _ hb (fun hHeld2 => ?_)
          clear hK K hHeld hsrc; have hHeld := hHeld2; clear hHeld2
          try go_frame
          have HF : Hid (DrOut A w (some ⟨B, off, none⟩) n cap L x (.returned (.tuple #[zb, .bool true])) yb) := (.inr ⟨zb, L.take k, L.drop t, HYes.out, rfl, by simpa using rb⟩)
          clear HYes HTk HDr HL9 ra rb ro0
          refine' tk 10 ?_ ?_; rotate_left
          · intro u hu; clear hu; go_simp; try with_reducible rfl
          try go_frame
          refine' tk 11 ?_ ?_; rotate_left
          · intro u hu; clear hu; go_simp; try with_reducible rfl
          try go_frame
          refine tz ?_
          go_wp2_with fail
          go_ret2
          exact HF.out
    · have hlz : ¬ ((k : Int) < (n : Int)) := by omega
      have hmem : ¬ x ∈ L := not_mem9 (fun j hj => hst.out.2 j (by have := hnl.out; omega))
      have HF : Hid (DrOut A w a n cap L x (.returned (.tuple #[.slice a n cap, .bool false])) wr) := .inl ⟨hmem, rfl, m6⟩
      clear hst m1 m2 m3 m4 m5 m6 hmem HU
      go_wp2_with fail
      go_ret2
      exact HF.out
end Go.Proofs.YtfnafgmengefaaaGreatDoor
namespace Go.Proofs.YtfnafgmengefaaaGreatDoor
open Go.RowKit Go.Maps
set_option linter.unusedSimpArgs false
set_option maxRecDepth 100000

theorem Row.turns {α : Type} [Inhabited α] {R : Rep α} {k : Nat} (hR : Firm R k) {A F : Where} {w0 u u' : World} {e : TypeId} {v : Value} {L : List α} (h : Row R k A w0 u e v L) (ht : Turns F u u') (h1 : ∀ b, v.ownBlock = some b → ¬ F b) (h2 : ∀ b, A b → b < u.heap.size → ¬ F b) (h3 : ∀ b, F b → w0.heap.size ≤ b) : Row R k A w0 u' e v L := by
  obtain ⟨xs, ⟨k1, k0, k2⟩, k3⟩ := h
  refine ⟨xs, ⟨Turns.behind k1 (ht.weak (fun b _ hb => h3 b hb)), k0, ?_⟩, k3.kept hR (ht.kept (fun b ha hb => h2 b ha.1 hb))⟩
  rcases k2 with k2 | ⟨g, cap, cur, hv, hg0, hh, r⟩
  · exact .inl k2
  · refine .inr ⟨g, cap, cur, hv, hg0, ?_, r⟩
    rw [ht.block g ?_ ?_]
    · exact hh
    · rcases Nat.lt_or_ge g u.heap.size with h | h
      · exact h
      · rw [Array.getElem?_eq_none h] at hh; cases hh
    · exact h1 g (by rw [hv]; rfl)
theorem Row.weak9 {α : Type} [Inhabited α] {R : Rep α} {k : Nat} (hR : Firm R k) {A A' : Where} {w0 u : World} {e : TypeId} {v : Value} {L : List α} (h : Row R k A w0 u e v L) (hA : ∀ b, b < u.heap.size → A b → A' b) : Row R k A' w0 u e v L := by
  obtain ⟨xs, h1, h2⟩ := h
  exact ⟨xs, h1, h2.weak hR (fun b hb h => ⟨hA b hb h.1, h.2⟩)⟩
theorem MapsAt.mono9 {u : World} {T : TalD} {N N' : Nat} {g : TermD → Lab → Int} {o : Lab → Int} (h : MapsAt u T N g o) (hN : N ≤ N') : MapsAt u T N' g o :=
  ⟨fun t ht => (h.c t ht).mono hN, h.o.mono hN, h.n⟩
/-- The law's state: a table of A for p, and a row of C. -/
structure TS (w : World) (p : PodD) (u : World) (tb : Nat) (T : TalD) (ts : List Value) (pm : Nat) (v : Value) (A C : List PlacedD) (N : Nat) : Prop where
  tab : TabAt u tb T ts pm (pLabs p) A N N
  of : OfPod T p
  fm : ∀ b, mapsP T pm b → w.heap.size ≤ b
  row : Row RPlaced 17 (NP T pm) w u 41 v C
  rb : ∀ b, v.ownBlock = some b → NP T pm b
  r2 : RTally (fun b => NP T pm b ∧ v.ownBlock ≠ some b) u ts T
  t2 : v.ownBlock ≠ some tb
  ln : C.length ≤ N
theorem TS.turn {w u u' : World} {p : PodD} {tb : Nat} {T : TalD} {ts : List Value} {pm : Nat} {v : Value} {A A' C : List PlacedD} {N N' : Nat} (h : TS w p u tb T ts pm v A C N) (ht : Turns (mapsP T pm) u u') (hm : MapsAt u' T N' (fun t => cT t (othersN T.1 A')) (cO (pLabs p) (othersN T.1 A'))) (hp : PmAt u' pm N' (lkN A')) (hN : N ≤ N') : TS w p u' tb T ts pm v A' C N' :=
  ⟨⟨h.tab.b.kept (kept_np ht) h.tab.tb, RTally.firm.kept h.tab.r (kept_np ht), hm, hp, h.tab.d, h.tab.l⟩, h.of, h.fm, h.row.turns RPlaced.firm ht (fun b e k => h.rb b e k) (fun _ k _ => k) h.fm, h.rb, RTally.firm.kept h.r2 (ht.kept (fun _ k _ => k.1)), h.t2, Nat.le_trans h.ln hN⟩
theorem TS.on {w u u' : World} {p : PodD} {tb : Nat} {T : TalD} {ts : List Value} {pm : Nat} {v : Value} {A C : List PlacedD} {N : Nat} (h : TS w p u tb T ts pm v A C N) (hb : Below u.heap.size u u') : TS w p u' tb T ts pm v A C N :=
  h.turn (Turns.below hb) (h.tab.m.below hb) (h.tab.p.on hb) (Nat.le_refl _)
theorem TS.grow {w u : World} {p : PodD} {tb : Nat} {T : TalD} {ts : List Value} {pm : Nat} {v : Value} {A C : List PlacedD} {N N' : Nat} (h : TS w p u tb T ts pm v A C N) (hN : N ≤ N') : TS w p u tb T ts pm v A C N' :=
  h.turn (Turns.refl _ _) (h.tab.m.mono9 hN) (h.tab.p.mono hN) hN
/-- Behind an append to the row. -/
theorem TS.app {w u u' : World} {p : PodD} {tb : Nat} {T : TalD} {ts : List Value} {pm : Nat} {v v' : Value} {A C C' : List PlacedD} {N : Nat} (h : TS w p u tb T ts pm v A C N) (hr : Row RPlaced 17 (NP T pm) w u' 41 v' C') (hg : u.grownBy u' v.ownBlock) (hv : v'.ownBlock = v.ownBlock ∨ v'.ownBlock = some u.heap.size) (hl : C'.length ≤ N) : TS w p u' tb T ts pm v' A C' N := by
  have ht : Turns (fun b => v.ownBlock = some b) u u' := Turns.grown hg (fun b e => e)
  have k : Kept (fun b => v.ownBlock ≠ some b) u u' := ht.kept (fun b h _ => h)
  have kr : RTally (fun b => NP T pm b ∧ v.ownBlock ≠ some b) u' ts T := RTally.firm.kept h.r2 (k.weak (fun b h => h.2))
  have hml : ∀ b ∈ mapsT T, b < u.heap.size := fun b hb => h.tab.m.lt hb
  have hpl := h.tab.p.lt
  have htl := h.tab.b.1
  have nm : ∀ b, mapsP T pm b → v.ownBlock ≠ some b := fun b hb e => h.rb b e hb
  have hnew : NP T pm u.heap.size := fun q => by
    rcases q with q | q
    · exact absurd (hml _ q) (Nat.lt_irrefl _)
    · rw [← q] at hpl; exact absurd hpl (Nat.lt_irrefl _)
  have hr2 : RTally (fun b => NP T pm b ∧ v'.ownBlock ≠ some b) u' ts T := by
    rcases hv with e | e
    · rw [e]; exact kr
    · have h1 : RTally (fun b => (NP T pm b ∧ v.ownBlock ≠ some b) ∧ b < u.heap.size) u ts T := RTally.firm.weak h.r2 (fun b hb q => ⟨q, hb⟩)
      refine RTally.firm.weak (RTally.firm.kept h1 (k.weak (fun b q => q.1.2))) (fun b _ q => ⟨q.1.1, fun e2 => ?_⟩)
      rw [e] at e2; injection e2 with e2
      have := q.2; omega
  refine ⟨⟨h.tab.b.kept k h.t2, RTally.firm.weak kr (fun b _ q => q.1), h.tab.m.on (fun b hb hlt => ht.block b hlt (nm b (.inl hb))), h.tab.p.same (ht.block pm hpl (nm pm (.inr rfl))), h.tab.d, h.tab.l⟩, h.of, h.fm, hr, ?_, hr2, ?_, hl⟩
  · intro b e
    rcases hv with q | q
    · exact h.rb b (q ▸ e)
    · rw [q] at e; injection e with e; rw [← e]; exact hnew
  · rcases hv with q | q
    · rw [q]; exact h.t2
    · rw [q]; intro e; injection e with e; omega
/-- With a new row. -/
theorem TS.new {w u u' : World} {p : PodD} {tb : Nat} {T : TalD} {ts : List Value} {pm : Nat} {v v' : Value} {A C C' : List PlacedD} {N : Nat} (h : TS w p u tb T ts pm v A C N) (hr : Row RPlaced 17 (NP T pm) u u' 41 v' C') (hl : C'.length ≤ N) : TS w p u' tb T ts pm v' A C' N := by
  have hb : Below u.heap.size u u' := hr.below
  have h2 := h.on hb
  have hpl := h.tab.p.lt
  have htl := h.tab.b.1
  have ge : ∀ b, v'.ownBlock = some b → u.heap.size ≤ b := fun b e => (hr.lt e).1
  have h1 : RTally (fun b => NP T pm b ∧ b < u.heap.size) u ts T := RTally.firm.weak h.tab.r (fun b hb q => ⟨q, hb⟩)
  refine ⟨h2.tab, h.of, h.fm, hr.from RPlaced.firm h.row.below (fun b q => q), fun b e k => ?_, RTally.firm.weak (RTally.firm.kept h1 (Kept.below hb)) (fun b _ q => ⟨q.1, fun e => by have := ge b e; have := q.2; omega⟩), fun e => by have := ge tb e; omega, hl⟩
  have hge := ge b e
  rcases k with k | k
  · have := h.tab.m.lt k; omega
  · subst k; omega
/-- The clone's state, while the old table turns. -/
theorem TS.cloned {w u u1 u5 : World} {p : PodD} {tb tb' : Nat} {T T' : TalD} {ts ts' : List Value} {pm pm' : Nat} {v : Value} {A C : List PlacedD} {N : Nat} (h : TS w p u tb T ts pm v A C N)
    (hc : (TabAt u1 tb' T' ts' pm' (pLabs p) A N N ∧ (T'.1 = T.1 ∧ T'.2.1 = T.2.1 ∧ (tNear T').map Prod.fst = (tNear T).map Prod.fst ∧ (tApart T').map Prod.fst = (tApart T).map Prod.fst) ∧ (∀ b, mapsP T' pm' b → u.heap.size ≤ b) ∧ RTally (fun b => NP T' pm' b ∧ u.heap.size ≤ b) u1 ts' T' ∧ u.heap.size ≤ tb') ∧ Below u.heap.size u u1)
    (ht : Turns (mapsP T pm) u1 u5) : TS w p u5 tb' T' ts' pm' v A C N := by
  obtain ⟨⟨h1, ⟨e1, e2, e3, e4⟩, h3, h4, h5⟩, hb⟩ := hc
  have hlt : ∀ b, mapsP T pm b → b < u.heap.size := fun b k => by
    rcases k with k | k
    · exact h.tab.m.lt k
    · rw [k]; exact h.tab.p.lt
  have nf : ∀ b, u.heap.size ≤ b → ¬ mapsP T pm b := fun b hb k => by have := hlt b k; omega
  have kF : Kept (fun b => u.heap.size ≤ b) u1 u5 := ht.kept (fun b hb _ => nf b hb)
  have htw : Turns (mapsP T pm) u u5 := (Turns.below hb).trans ht
  have hrow : Row RPlaced 17 (fun b => NP T pm b ∧ b < u.heap.size) w u 41 v C := h.row.weak9 RPlaced.firm (fun b hb q => ⟨q, hb⟩)
  have hrow5 := hrow.turns RPlaced.firm htw (fun b e k => h.rb b e k) (fun b k _ => k.1) h.fm
  have vlt : ∀ b, v.ownBlock = some b → b < u.heap.size := fun b e => (h.row.lt e).2
  have hwu : w.heap.size ≤ u.heap.size := h.row.below.size
  have r5 : RTally (fun b => NP T' pm' b ∧ u.heap.size ≤ b) u5 ts' T' := RTally.firm.kept h4 (kF.weak (fun b q => q.2))
  refine ⟨⟨h1.b.kept kF h5, RTally.firm.weak r5 (fun b _ q => q.1), h1.m.on (fun b hb hlt => ht.block b hlt (nf b (h3 b (.inl hb)))), h1.p.same (ht.block pm' h1.p.lt (nf pm' (h3 pm' (.inr rfl)))), h1.d, h1.l⟩, ⟨e1.trans h.of.1, e2.trans h.of.2.1, e3.trans h.of.2.2.1, e4.trans h.of.2.2.2⟩, fun b k => Nat.le_trans hwu (h3 b k), ?_, ?_, RTally.firm.weak r5 (fun b _ q => ⟨q.1, fun e => by have := vlt b e; have := q.2; omega⟩), fun e => by have := vlt tb' e; omega, h.ln⟩
  · exact hrow5.weak9 RPlaced.firm (fun b _ q k => by have := h3 b k; have := q.2; omega)
  · intro b e k
    have := vlt b e
    have := h3 b k
    omega
theorem left_of_app (A : List PlacedD) (x : PlacedD) : LeftOf (A ++ [x]) x A :=
  ⟨fun h => absurd h (lkN_pos (by simp)), fun _ => by exact (List.perm_middle (l₁ := A) (l₂ := []) (a := x)).trans (by simp)⟩
end Go.Proofs.YtfnafgmengefaaaGreatDoor
namespace Go.Proofs.YtfnafgmengefaaaGreatDoor
open Go.RowKit
set_option linter.unusedSimpArgs false
set_option maxRecDepth 100000

/-- n cells from there on are there, and may be written. -/
def Thr8 (u : World) (a : Option Addr) (n : Nat) : Prop := ∀ B off, a = some ⟨B, off, none⟩ → u.there B off n
theorem Row.thr8 {α : Type} [Inhabited α] {R : Rep α} {A : Where} {w0 u : World} {e : TypeId} {v : Value} {L : List α} (h : Row R 2 A w0 u e v L) : ∀ a n c, v = .slice a n c → Thr8 u a (n * 2) := by
  rintro a n c rfl
  obtain ⟨xs, h1, _⟩ := h
  intro B off ea j hj
  rcases h1.2.2 with ⟨e1, _⟩ | ⟨g, cap, cur, e1, _, hg, hnc, _, hcs, _⟩
  · injection e1 with e1 e2; subst e2; omega
  · injection e1 with e1 e2 e3
    subst e2 e3
    rw [e1] at ea
    injection ea with ea
    injection ea with ea eo
    subst ea eo
    have hl : j < cur.size := by rw [hcs]; omega
    simp [World.cell?, World.frozen?, hg, hl]
/-- A copy, whose labels may be written. -/
def PlOut (w : World) (x : PlacedD) (e : Ending) (w' : World) : Prop := ∃ (p' : List Value) (a' : Option Addr) (n' cap' : Nat), e = .returned (.agg (p' ++ [Value.slice a' n' cap']).toArray) ∧ RPlaced (Fresh w) w' (p' ++ [Value.slice a' n' cap']) x ∧ Thr8 w' a' (n' * 2) ∧ Below w.heap.size w w'
set_option maxHeartbeats 1000000 in
theorem Labels_thr (a : Option Addr) (n cap : Nat) (A : Where) (L : List (Lab)) (w : World) (hL : Hid (SlAt RLabel 2 32 A w a n cap L)) : Calls Tryz.prog 8 #[.slice a n cap] w fun e w' => ∃ a' cap', e = .returned (.slice a' n cap') ∧ SlAt RLabel 2 32 (Fresh w) w' a' n cap' L ∧ Thr8 w' a' (n * 2) ∧ Below w.heap.size w w' := by
  have hb0 : Below w.heap.size w (w.alloc (.cells #[] 55)) := by go_grown
  match a with
  | none =>
    obtain ⟨rfl, rfl, rfl⟩ := sl_none hL.out
    go_enter Tryz.func8, Tryz.ntmps8
    go_wp2_with fail
    go_ret
    exact ⟨_, _, rfl, SlAt.nil _ _ _ _ (fun h => by cases h), fun B off e j hj => absurd hj (by omega), hb0⟩
  | some ad =>
    obtain ⟨xs, hc, hcell, hone⟩ := (hL.out.on RLabel.firm hb0).chunks RLabel.firm
    have hn := hL.out.1
    have hbb := hL.out.2.2.2.1
    subst hn
    have HR : Hid (Row RLabel 2 (Fresh w) w (w.alloc (.cells #[] 55)) 55 (.slice (some ⟨w.heap.size, 0, none⟩) 0 0) []) := Row.start _ w w _ (Below.refl _ _)
    have HC : Hid (Chunks RLabel 2 (fun b => Fresh w b ∧ Value.ownBlock (.slice (some ⟨w.heap.size, 0, none⟩) 0 0) ≠ some b) (w.alloc (.cells #[] 55)) xs L) := hc.flat RLabel.flat
    have HX : Hid (∀ j y, xs[j]? = some y → (w.alloc (.cells #[] 55)).cell? (ad.add j) = some y) := hcell
    have HO : Hid (∀ y ∈ xs, y.oneCell' = true) := hone
    clear hc hcell hone hL
    go_enter Tryz.func8, Tryz.ntmps8
    go_wp2_with (at_builtin; go_must (refine row_append RLabel.firm (A := Fresh w) (w0 := w) rfl _ _ 22 55 rfl _ 32 infoLabel Tryz.underlying22 rfl (by decide) (by decide) _ [] rfl HR.out ad L.length cap xs L rfl rfl HC.out HX.out HO.out (by simp; omega) ?_); intro v1 w1 hrow1 hg1)
    go_ret
    have hth := @Row.thr8 _ _ RLabel _ _ _ _ _ _ hrow1
    obtain ⟨a', cap', rfl, h2⟩ := hrow1.slF (bytes := 32) RLabel.firm (by simpa using hbb)
    simp only [List.nil_append] at h2 ⊢
    exact ⟨a', cap', rfl, h2, (by have h3 := hth a' _ cap' rfl; simpa using h3), hrow1.below⟩
set_option maxHeartbeats 8000000 in
theorem placed_thr (cs : List Value) (A : Where) (x : PlacedD) (w : World) (h : Hid (RPlaced A w cs x)) : Calls Tryz.prog 15 #[.agg cs.toArray] w fun e w' => PlOut w x e w' := by
  obtain ⟨p, d, hcs, hp, ⟨a, n, cap, rfl, hl⟩⟩ := h.out
  have Hp : Hid (RPod A w p x.1) := hp
  have Hl : Hid (SlAt RLabel 2 32 A w a n cap x.2) := hl
  have hip : (Tryz.prog.info? 33).map (·.size) = some p.length := by rw [RPod.firm.len hp]; exact sizePo
  have HRO : Hid (∀ u, Held w [(w.heap.size, cs)] [(w.heap.size + 1, 17)] u → u.rangeAt w.heap.size 0 p ∧ u.cell? ⟨w.heap.size, 16, none⟩ = some (.slice a n cap)) := fun u hu => ⟨range_mid8 (l1 := []) (by simpa [hcs] using hu.get 0 rfl) rfl, hu.cell 0 rfl 16 (by rw [hcs, List.getElem?_append_right (by rw [RPod.firm.len hp]; exact Nat.le_refl _)]; simp [RPod.firm.len hp])⟩
  obtain ⟨U1, hU1⟩ : ∃ U, U = (w.alloc (.cells cs.toArray 41)).alloc (.cells #[.string ⟨#[]⟩, .int .i64 0, .slice none 0 0, .int .i64 0, .int .i64 0, .int .i64 0, .slice none 0 0, .slice none 0 0, .slice none 0 0, .slice none 0 0, .slice none 0 0, .slice none 0 0, .slice none 0 0, .slice none 0 0, .string ⟨#[]⟩, .string ⟨#[]⟩, .slice none 0 0] 41) := ⟨_, rfl⟩
  have HH1 : Hid (Held w [(w.heap.size, cs)] [(w.heap.size + 1, 17)] U1) := by rw [Hid, hU1]; exact ((Held.start w).push rfl cs _).room (by simp) _ _
  clear h hcs hp hl
  go_enter Tryz.func15, Tryz.ntmps15
  go_upto_region 1 with fail
  refine wp_at8 hU1.symm ?_
  clear hU1
  refine t0 (Held w [(w.heap.size, cs)] [(w.heap.size + 1, 17)]) (HH1.out.drew) (fun hHeld => ?_)
  refine tp 0 ?_
  try go_frame
  refine tq 1 (.agg p.toArray) (yieldsIf_load_mid (by rfl) 33 _ rfl w.heap.size 0 rfl p _ (fun u hu => (HRO.out u hu).1) Tryz.underlying33 rfl hip) ?_ (hi := rfl)
  try go_frame
  refine tp 3 ?_
  try go_frame
  refine tk (v := .slice a n cap) 4 ?_ ?_
  · intro u hu; have hc0 := (HRO.out u hu).2; clear hu; go_simp; try with_reducible rfl
  try go_frame
  refine tr 2 (fun K hK => ?_)
  refine want_yes8 (by rfl) (call_enter (f := 7) (args := #[.agg p.toArray]) (by kernel_rfl) (Pod_copy p A x.1 _ (RPod.firm.kept Hp.out (Kept.below hHeld.below))) (fun e u1 he => ?_))
  obtain ⟨p', rfl, tp, hb_u1⟩ := he
  have hge := hHeld.ltM 0 (b := w.heap.size + 1) rfl
  have Tp : Hid (RPod (fun b => Fresh w b ∧ b ≠ w.heap.size + 1) u1 p' x.1) := RPod.firm.weak tp (fun b _ hb => ⟨Nat.le_trans (by omega) (show _ ≤ b from hb), Nat.ne_of_gt (Nat.lt_of_lt_of_le hge hb)⟩)
  clear tp hge
  refine ⟨_, rfl, hK.out _ _ (hHeld.on hb_u1) (fun hHeld2 => ?_)⟩
  clear hK K hHeld; have hHeld := hHeld2; clear hHeld2
  try go_frame
  refine tr 5 (fun K hK => ?_)
  refine want_yes8 (by rfl) (call_enter (f := 8) (args := #[.slice a n cap]) (by kernel_rfl) (Labels_thr a n cap A x.2 _ (Hl.out.on RLabel.firm hHeld.below)) (fun e u2 he => ?_))
  obtain ⟨a', cap', rfl, tl, hth, hb_u2⟩ := he
  have HTh : Hid (Thr8 u2 a' (n * 2)) := hth
  clear hth
  have hge := hHeld.ltM 0 (b := w.heap.size + 1) rfl
  have Tl : Hid (SlAt RLabel 2 32 (fun b => Fresh w b ∧ b ≠ w.heap.size + 1) u2 a' n cap' x.2) := tl.weak RLabel.firm (fun b _ hb => ⟨Nat.le_trans (by omega) (show _ ≤ b from hb), Nat.ne_of_gt (Nat.lt_of_lt_of_le hge hb)⟩)
  clear tl hge
  have Tp2 : Hid (RPod (fun b => Fresh w b ∧ b ≠ w.heap.size + 1) u2 p' x.1) := RPod.firm.kept Tp.out (Kept.below hb_u2)
  clear Tp
  refine ⟨_, rfl, hK.out _ _ (hHeld.on hb_u2) (fun hHeld2 => ?_)⟩
  clear hK K hHeld; have hHeld := hHeld2; clear hHeld2
  try go_frame
  have HNR : Hid (RPlaced (fun b => Fresh w b ∧ b ≠ w.heap.size + 1) u2 (p' ++ [Value.slice a' n cap']) x) := ⟨_, _, rfl, Tp2.out, ⟨_, _, _, rfl, Tl.out⟩⟩
  have HNL : Hid ((p' ++ [Value.slice a' n cap']).length = 17) := RPlaced.firm.len HNR.out
  have hin : (Tryz.prog.info? 41).map (·.size) = some (p' ++ [Value.slice a' n cap']).length := by rw [HNL.out]; exact sizePl
  have hon : (p' ++ [Value.slice a' n cap']).toArray.all (·.oneCell') = true := all_oneCell_toArray (RPlaced.firm.one HNR.out)
  refine tq 6 (.agg (p' ++ [Value.slice a' n cap']).toArray) (yieldsIf_build8 (by rfl) 41 _ rfl #[(0, .agg p'.toArray), (1, .slice a' n cap')] (by go_simp) (p' ++ [Value.slice a' n cap']).toArray (built_placed Tp2.out a' n cap')) ?_ (hi := rfl)
  try go_frame
  first | refine tr 7 (fun K hK => ?_) | refine ts 7 (fun K hK => ?_)
  refine want_yes8 (by rfl) (wp_store_mid 41 _ _ rfl (w.heap.size + 1) 0 (p' ++ [Value.slice a' n cap']).toArray rfl rfl (there_sub8 (hHeld.there 0 rfl) (by simpa using Nat.le_of_eq HNL.out)) (by simpa using hin) hon ?_)
  obtain ⟨uz, huz⟩ : ∃ uz, uz = u2.setCells (w.heap.size + 1) 0 (p' ++ [Value.slice a' n cap']) := ⟨_, rfl⟩
  have hHZ : Held w [(w.heap.size, cs)] [(w.heap.size + 1, 17)] uz := by rw [huz]; exact hHeld.wrote8 0 rfl (by simp)
  have HTz : Hid (Thr8 uz a' (n * 2)) := by rw [Hid, huz]; exact fun B off e => World.there_setCells (HTh.out B off e) _ _ _
  have HEND : Hid (Held w [(w.heap.size, cs)] [(w.heap.size + 1, 17)] uz ∧ uz.rangeAt (w.heap.size + 1) 0 (p' ++ [Value.slice a' n cap']) ∧ RPlaced (Fresh w) uz (p' ++ [Value.slice a' n cap']) x) := ⟨hHZ, by rw [huz]; exact World.rangeAt_setCells_same _ _ _ _ (there_sub8 (hHeld.there 0 rfl) (Nat.le_of_eq (by simpa using HNL.out))), by rw [huz]; exact RPlaced.firm.weak (RPlaced.firm.kept HNR.out (kept_setCells (fun h => h.2 rfl))) (fun b _ h => h.1)⟩
  refine at_world huz ?_
  refine hK.out _ _ hHZ (fun hHeld2 => ?_)
  clear hK K hHeld; have hHeld := hHeld2; clear hHeld2
  try go_frame
  refine wpAnyH_done (by kernel_rfl) ?_ _
  refine NoPanic.normal ?_
  obtain ⟨hE1, hE2, hE3⟩ := HEND.out
  go_wp2_with fail
  refine bodyPost_ret (v := .agg (p' ++ [Value.slice a' n cap']).toArray) (res_cell (p := 2) (ty := 41) rfl _ _ (w.heap.size + 1) (p' ++ [Value.slice a' n cap']) _ rfl hE2 Tryz.underlying41 rfl hin) rfl ⟨_, a', n, cap', rfl, hE3, HTz.out, hE1.below⟩
end Go.Proofs.YtfnafgmengefaaaGreatDoor
