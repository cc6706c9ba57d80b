/- FitOrder's walk. Condition: the arguments lie as is said of them, and hold no more than is said. -/
import Derived.Test.YtbcclfiopebmpaaGreatQ09
import Derived.Test.YtbcclfiopebmpaaGreatQ12
import Derived.Deep.CutBlock
namespace Go.Proofs.YtbcclfiopebmpaaGreat
open Go.RowKit
set_option linter.unusedSimpArgs false
set_option maxRecDepth 100000

def OrS (w : World) (P N : List Value) (u : World) : Prop := BoxL u w.heap.size P ∧ BoxL u (w.heap.size + 1) N
theorem sizeNode7 : (Tryz.prog.info? 36).map (·.size) = some 9 := by kernel_rfl
theorem of_perm (x : NodeD) {P L : List PodD} (h : P.Perm L) (hn : (L.map (·.1)).Nodup) : ofP x P = ofP x L := by
  rw [of_all x L hn, of_all x P ((List.Perm.nodup_iff (h.map (fun p : PodD => p.1))).2 hn), all_perm x h]
set_option maxHeartbeats 32000000 in
theorem order_walk (ds : List Value) (y : PodD) (ns : List Value) (x : NodeD) (a : Option Addr) (n cap : Nat) (L : List PodD) (turn : Int) (w : World) (hP : RPod (fun _ => True) w ds y) (hN : RNode (fun _ => True) w ns x) (hL : SlAt RPod 16 296 (fun _ => True) w a n cap L) (hS : sumBy mPod L ≤ 1048576) : Calls Tryz.prog 3 #[.agg ds.toArray, .agg ns.toArray, .slice a n cap, .int .i64 turn] w fun e w' => e = .returned (.bool true) ∧ Below w.heap.size w w' := by
  have hiP : (Tryz.prog.info? 33).map (·.size) = some ds.length := by rw [RPod.firm.len hP]; exact sizePod7
  have hiN : (Tryz.prog.info? 36).map (·.size) = some ns.length := by rw [RNode.firm.len hN]; exact sizeNode7
  have HP : Hid (∀ u, Below w.heap.size w u → RPod (fun _ => True) u ds y) := fun u hb => RPod.firm.kept hP (Kept.below hb)
  have HN : Hid (∀ u, Below w.heap.size w u → RNode (fun b => b < w.heap.size) u ns x) := fun u hb => RNode.firm.kept (RNode.firm.weak hN (fun b hb _ => hb)) (Kept.below hb)
  have HL : Hid (∀ u, Below w.heap.size w u → SlAt RPod 16 296 (fun b => b < w.heap.size) u a n cap L) := fun u hb => (hL.weak RPod.firm (fun b hb _ => hb)).on RPod.firm hb
  have HF : Hid (FitsP L) := fits_of (by omega)
  have hnl : Hid (L.length = n) := hL.1
  have hlen := hL.len (by decide)
  have hsm : Hid (L.length ≤ 1048576) := by have := len_sum L; rw [Hid]; omega
  have HSm : Hid (sumBy mPod L ≤ 1048576) := hS
  obtain ⟨W2, hW2⟩ : ∃ W2, W2 = (w.alloc (.cells ds.toArray 33)).alloc (.cells ns.toArray 36) := ⟨_, rfl⟩
  have B2 : Hid (∀ u, Below W2.heap.size W2 u → Below w.heap.size w u) := fun u hb => on2 (by rw [hW2]; go_grown) hb
  have HS : Hid (∀ u, Below W2.heap.size W2 u → OrS w ds ns u) := fun u hb => ⟨BoxL.on (by rw [hW2]; exact (BoxL.new w 33 ds).on ((Below.refl _ _).alloc (Nat.le_refl _) _)) hb, BoxL.on (by have h1 := BoxL.new (w.alloc (.cells ds.toArray 33)) 36 ns; rw [hW2]; simpa using h1) hb⟩
  clear hP hN hL hS
  go_enter Tryz.func3, Tryz.ntmps3
  go_wp2_with fail
  rw [← hW2]
  clear hW2
  refine (works7_calls W2).mono ?_
  rintro e W5 ⟨rfl, hb3⟩
  have B5 : Hid (Below W2.heap.size W2 W5) := hb3
  have B0r : Hid (Below w.heap.size w W5) := B2.out _ hb3
  clear hb3
  have HR0 : Hid (Row RStr 1 (fun _ => False) W5 (W5.alloc (.cells #[] 9)) 9 (.slice (some ⟨W5.heap.size, 0, none⟩) 0 0) (nmL (L.take 0)) ∧ (nmL (L.take 0)).Nodup) := ⟨Row.start _ W5 W5 _ (Below.refl _ _), List.nodup_nil⟩
  go_wp2_with fail
  go_loopw [9, 10] (fun s i wr => ∃ k : Nat, k ≤ n ∧ i = .int .i64 k ∧ Hid (Row RStr 1 (fun _ => False) W5 wr 9 s (nmL (L.take k)) ∧ (nmL (L.take k)).Nodup)) (fun _ i _ => n - (intOf i).toNat)
  case atStart => exact ⟨0, Nat.zero_le _, rfl, HR0⟩
  case round =>
    obtain ⟨k, hk, rfl, hI⟩ := hrel
    have hb5 : Below W5.heap.size W5 wr := hI.out.1.below
    by_cases hlt2 : k < n
    · have hltz : (k : Int) < (n : Int) := by omega
      have hkl : k < L.length := by rw [hnl.out]; exact hlt2
      obtain ⟨D, off, rfl, hD, _, cs, hr, hv⟩ := (HL.out w (Below.refl _ _)).get hlt2
      have HT : Hid (nmL (L.take (k + 1)) = nmL (L.take k) ++ [(L.getD k default).1]) := nm_succ L hkl
      have hnk : (nmL (L.take k)).length ≤ k := by simp [nmL]; omega
      generalize L.getD k default = q at hr HT
      obtain ⟨hsz, v1, v2, v3, v4, v5, v6, v7, v8, v9, v10, v11, v12, v13, v14, v15, rfl⟩ := hr.lit0
      have d0 := ((on2 B0r.out hb5).cell (p := ⟨D, off + k * 16 + 0, none⟩) hD).trans (hv 0 _ rfl)
      rw [Nat.add_zero] at d0
      have d0' : ∀ u, Below wr.heap.size wr u → u.cell? ⟨D, off + k * 16, none⟩ = some (.string q.1) := fun u hb => (hb.cell (p := ⟨D, off + k * 16, none⟩) (Nat.lt_of_lt_of_le hD (on2 B0r.out hb5).size)).trans d0
      clear hr hv
      obtain ⟨b9, c9, e9, s9⟩ := hI.out.1.sl (bytes := 16) RStr.firm (by have h1 := hsm.out; rw [hnl.out] at h1; omega)
      subst e9
      have S9 : Hid (SlAt RStr 1 16 _ wr b9 (nmL (L.take k)).length c9 (nmL (L.take k))) := s9
      clear s9
      generalize hG : nmL (L.take k) = G at hI HT hnk S9
      go_wp2_with fail
      refine (Has_calls b9 G.length c9 _ G q.1 wr S9.out).mono ?_
      rintro e w9 ⟨rfl, hw9⟩
      rw [hw9]
      clear hw9
      cases hh : hasB sEq G q.1
      · have ZS := hI.out.1.on RStr.firm ((Below.refl wr.heap.size wr).alloc (Nat.le_refl _) (.cells #[.string q.1] 9))
        have HZ : Hid (Row RStr 1 (fun _ => False) W5 (wr.alloc (.cells #[.string q.1] 9)) 9 (.slice b9 G.length c9) G) := ZS
        have HNn : Hid (Src RStr 1 (fun b => False ∧ Value.ownBlock (.slice b9 G.length c9) ≠ some b) (wr.alloc (.cells #[.string q.1] 9)) (some ⟨wr.heap.size, 0, none⟩) 1 [q.1]) := ⟨rfl, .inr ⟨_, [.string q.1], rfl, chunk_one RStr.firm ⟨rfl, hsz⟩, one_cells wr [.string q.1] 9, by simp [Value.oneCell']⟩⟩
        have HB6 : Hid ((G.length + [q.1].length) * 16 ≤ 140737488355328) := by have h1 := hsm.out; rw [hnl.out] at h1; simp [Hid]; omega
        have HND : Hid ((G ++ [q.1]).Nodup) := nodup_snoc (hG ▸ hI.out.2) hh
        clear ZS hh
        go_wp2_with (at_builtin; go_must (refine row_appendP RStr.firm (A := (fun _ => False)) (w0 := W5) rfl _ _ 31 9 rfl _ 16 infostr Tryz.underlying31 rfl (by decide) (by decide) _ G rfl HZ.out (some ⟨wr.heap.size, 0, none⟩) 1 1 [q.1] rfl HNn.out HB6.out ?_); intro v6n u1 hr6 hg6 hp6)
        have HQ : Hid (Row RStr 1 (fun _ => False) W5 u1 9 v6n (nmL (L.take (k + 1))) ∧ (nmL (L.take (k + 1))).Nodup) := by rw [HT.out]; exact ⟨hr6, HND.out⟩
        go_roundw
        case rel => exact ⟨k + 1, by omega, by go_num, HQ⟩
        case measure => simp [intOf]; omega
      · go_wp2_with fail
        go_ret
        exact ⟨rfl, on2 B0r.out hb5⟩
    · have hk9 : L.take k = L := List.take_of_length_le (by rw [hnl.out]; omega)
      have hlz2 : ¬ ((k : Int) < (n : Int)) := by omega
      have HND : Hid ((nmL L).Nodup) := by rw [hk9] at hI; exact hI.out.2
      obtain ⟨W8, hW8⟩ : ∃ W8, W8 = wr := ⟨_, rfl⟩
      rw [← hW8] at hb5 ⊢
      have B8 : Hid (Below W2.heap.size W2 W8) := on2 B5.out hb5
      have B08 : Hid (Below w.heap.size w W8) := on2 B0r.out hb5
      clear hI hk9 hb5 hW8
      have hm1 : n + 1 ≤ 140737488355328 := by have h1 := hsm.out; rw [hnl.out] at h1; omega
      have hAm := Among_calls turn (n + 1) (by omega) hm1 W8
      rw [show (((n + 1 : Nat)) : Int) = (n : Int) + 1 by omega] at hAm
      go_wp2_with fail
      refine hAm.mono ?_
      clear hAm
      rintro e w8 ⟨⟨t, rfl, ht⟩, hw8⟩
      rw [hw8]
      clear hw8 w8
      have htn : t ≤ n := by omega
      have hcap : Hid ((a = none → cap = 0) ∧ n ≤ cap) := ⟨(HL.out w (Below.refl _ _)).2.2.1, (HL.out w (Below.refl _ _)).2.1⟩
      have HDr : Hid (∀ u, Below w.heap.size w u → SlAt RPod 16 296 (fun b => b < w.heap.size) u (dropA a cap t) (n - t) (cap - t) (L.drop t)) := fun u hb => sl_dropA (HL.out u hb) htn
      have HTk : Hid (∀ u, Below w.heap.size w u → SlAt RPod 16 296 (fun b => b < w.heap.size) u a t cap (L.take t)) := fun u hb => (HL.out u hb).take htn
      have HPl : Hid ((L.drop t ++ L.take t).length = n) := by rw [Hid, List.length_append, List.length_drop, List.length_take, hnl.out]; omega
      go_upto_region 11 with fail
      go_cut [12] (fun p wx => ∃ (pa : Option Addr) (pc : Nat), p = .slice pa n pc ∧ Hid (SlAt RPod 16 296 (fun _ => True) wx pa n pc (L.drop t ++ L.take t) ∧ Below W8.heap.size W8 wx))
      case first =>
        refine wp_region_noPanic ?_
        refine wp_region_held_drew (S := Below W8.heap.size W8) (by kernel_rfl) (Below.refl _ _).drew (fun hHeld => ?_)
        refine' tk 1 ?_ ?_; rotate_left
        · intro u hu; clear hu; go_simp; try with_reducible rfl
        try go_frame
        refine' tk 2 ?_ ?_; rotate_left
        · intro u hu; clear hu; go_simp; try with_reducible rfl
        try go_frame
        refine' tq 3 (.slice (dropA a cap t) (n - t) (cap - t)) ?_ ?_
        · refine .inl ⟨rfl, fun u _ => ?_⟩
          obtain ⟨hc1, hc2⟩ := hcap.out
          have z1 : (0 : Int) ≤ (t : Int) := by omega
          have z2 : (t : Int) ≤ (n : Int) := by omega
          have z3 : (n : Int) ≤ (cap : Int) := by omega
          have z4 : (t : Int) ≤ (cap : Int) := by omega
          have z5 : (cap : Int) - (t : Int) = ((cap - t : Nat) : Int) := by omega
          rcases a with _ | ad
          · obtain rfl := hc1 rfl
            obtain rfl : n = 0 := by omega
            obtain rfl : t = 0 := by omega
            simp only [dropA]
            go_simp
            try with_reducible rfl
          · by_cases hct : cap = t
            · simp only [dropA, hct, if_true]
              go_simp
              try with_reducible rfl
            · simp only [dropA, hct, if_false]
              go_simp
              try with_reducible rfl
        try go_frame
        refine' tk 5 ?_ ?_; rotate_left
        · intro u hu; clear hu; go_simp; try with_reducible rfl
        try go_frame
        refine' tk 6 ?_ ?_; rotate_left
        · intro u hu; clear hu; go_simp; try with_reducible rfl
        try go_frame
        refine' tq 7 (.slice a t cap) ?_ ?_
        · refine .inl ⟨rfl, fun u _ => ?_⟩
          obtain ⟨hc1, hc2⟩ := hcap.out
          have z1 : (0 : Int) ≤ (t : Int) := by omega
          have z4 : (t : Int) ≤ (cap : Int) := by omega
          rcases a with _ | ad
          · obtain rfl := hc1 rfl
            obtain rfl : n = 0 := by omega
            obtain rfl : t = 0 := by omega
            go_simp
            try with_reducible rfl
          · go_simp
            try with_reducible rfl
        try go_frame
        refine tr 0 (fun K hK => ?_)
        go_simp
        obtain ⟨y1, hy1⟩ : ∃ y1, y1 = (W8.alloc (.cells #[] 33)).drew := ⟨_, rfl⟩
        have d1 : Below W8.heap.size W8 y1 := by rw [hy1]; exact ((Below.refl _ _).alloc (Nat.le_refl _) _).drew
        have r1 : Row RPod 16 (fun b => b < w.heap.size) W8 y1 33 (.slice (some ⟨W8.heap.size, 0, none⟩) 0 0) [] := by rw [hy1]; exact (Row.start _ W8 W8 _ (Below.refl _ _)).on RPod.firm (Below.refl _ _).drew
        refine hK.out _ _ (hy1 ▸ d1) (fun hHeld2 => ?_)
        rw [← hy1] at hHeld2 ⊢
        clear hy1
        clear hK K hHeld; have hHeld := hHeld2; clear hHeld2
        try go_frame
        have h08 := B08.out.size
        have hs1 : Src RPod 16 (fun b => (fun b => b < w.heap.size) b ∧ (Value.slice (some ⟨W8.heap.size, 0, none⟩) 0 0).ownBlock ≠ some b) y1 (dropA a cap t) (n - t) (L.drop t) := ((HDr.out _ (on2 B08.out d1)).src RPod.firm).weak RPod.firm (fun b _ hb => ⟨hb, fun e => by have h1 := (r1.lt e).1; have h2 : b < w.heap.size := hb; omega⟩)
        refine tr 4 (fun K hK => ?_)
        refine row_appendP_wp RPod.firm (A := (fun b => b < w.heap.size)) (w0 := W8) _ _ 37 33 rfl _ 296 infoPod Tryz.underlying37 rfl (by decide) (by decide) _ [] rfl r1 (dropA a cap t) (n - t) (cap - t) (L.drop t) rfl hs1 (by have h1 := hsm.out; have h2 := HPl.out; have h3 := hnl.out; rw [List.length_append] at h2; simp only [List.length_nil]; omega) ?_
        intro z2 u2 r2 gr2 hp2
        have d2 : Below W8.heap.size W8 u2 := r2.below
        rw [List.nil_append] at r2
        refine hK.out _ _ d2 (fun hHeld2 => ?_)
        clear hK K hHeld; have hHeld := hHeld2; clear hHeld2
        try go_frame
        have hs2 : Src RPod 16 (fun b => (fun b => b < w.heap.size) b ∧ z2.ownBlock ≠ some b) u2 a t (L.take t) := ((HTk.out _ (on2 B08.out d2)).src RPod.firm).weak RPod.firm (fun b _ hb => ⟨hb, fun e => by have h1 := (r2.lt e).1; have h2 : b < w.heap.size := hb; omega⟩)
        refine tr 8 (fun K hK => ?_)
        refine row_appendP_wp RPod.firm (A := (fun b => b < w.heap.size)) (w0 := W8) _ _ 37 33 rfl _ 296 infoPod Tryz.underlying37 rfl (by decide) (by decide) z2 (L.drop t) rfl r2 a t cap (L.take t) rfl hs2 (by have h1 := hsm.out; have h2 := HPl.out; have h3 := hnl.out; rw [List.length_append] at h2; omega) ?_
        intro z3 u3 r3 gr3 hp3
        have d3 : Below W8.heap.size W8 u3 := r3.below
        refine hK.out _ _ d3 (fun hHeld2 => ?_)
        clear hK K hHeld; have hHeld := hHeld2; clear hHeld2
        try go_frame
        obtain ⟨ra, rc, re, rs⟩ := r3.sl (bytes := 296) RPod.firm (by have h1 := hsm.out; rw [HPl.out, ← hnl.out]; omega)
        have rs2 := rs.weak RPod.firm (A' := (fun _ => True)) (fun _ _ _ => trivial)
        clear rs
        subst re
        rw [HPl.out] at rs2 ⊢
        refine' tk 9 ?_ ?_; rotate_left
        · intro u hu; clear hu; go_simp; try with_reducible rfl
        try go_frame
        refine wpAnyH_done (by kernel_rfl) ?_ _
        refine NoPanic.normal ?_
        go_wp2_with fail
        go_meet
        exact ⟨ra, rc, rfl, rs2, d3⟩
      case rest =>
      obtain ⟨pa, pc, rfl, hD⟩ := hcut
      have HPm : Hid ((L.drop t ++ L.take t).Perm L) := by
        have h1 : (L.drop t ++ L.take t).Perm (L.take t ++ L.drop t) := List.perm_append_comm
        rwa [List.take_append_drop] at h1
      generalize L.drop t ++ L.take t = P at hD HPl HPm
      have HPs : Hid (FitsP P) := fits_of (by rw [sumBy_perm HPm.out]; exact HSm.out)
      have HEq : Hid (ofP x P = ofP x L) := of_perm x HPm.out HND.out
      have HD : Hid (∀ u, Below wc.heap.size wc u → SlAt RPod 16 296 (fun _ => True) u pa n pc P) := fun u hb => hD.out.1.on RPod.firm hb
      have Bc : Hid (∀ u, Below wc.heap.size wc u → Below W2.heap.size W2 u) := fun u hb => on2 (on2 B8.out hD.out.2) hb
      clear hD HDr HTk hcap
      go_upto_region 12 with fail
      refine wp_region_noPanic ?_
      refine wp_region_held_drew (S := OrS w ds ns) (by kernel_rfl) (HS.out _ (Bc.out _ (Below.refl _ _).drew)) (fun hHeld => ?_)
      refine tq 0 (.agg ds.toArray) (yieldsIf_load_mid rfl 33 _ rfl w.heap.size 0 rfl ds _ (fun u hu => hu.1.range) Tryz.underlying33 rfl hiP) ?_
      try go_frame
      refine tq 1 (.agg ns.toArray) (yieldsIf_load_mid rfl 36 _ rfl (w.heap.size + 1) 0 rfl ns _ (fun u hu => hu.2.range) Tryz.underlying36 rfl hiN) ?_
      try go_frame
      refine' tk 2 ?_ ?_; rotate_left
      · intro u hu; clear hu; go_simp; try with_reducible rfl
      try go_frame
      refine tq 5 (.agg ds.toArray) (yieldsIf_load_mid rfl 33 _ rfl w.heap.size 0 rfl ds _ (fun u hu => hu.1.range) Tryz.underlying33 rfl hiP) ?_
      try go_frame
      refine tq 6 (.agg ns.toArray) (yieldsIf_load_mid rfl 36 _ rfl (w.heap.size + 1) 0 rfl ns _ (fun u hu => hu.2.range) Tryz.underlying36 rfl hiN) ?_
      try go_frame
      refine' tk 7 ?_ ?_; rotate_left
      · intro u hu; clear hu; go_simp; try with_reducible rfl
      try go_frame
      refine tr 3 (fun K hK => ?_)
      go_simp
      refine (Of_calls ns a n cap (fun b => b < w.heap.size) (fun b => b < w.heap.size) x L wc.drew (HN.out _ (B2.out _ (Bc.out _ (Below.refl _ _).drew))) (HL.out _ (B2.out _ (Bc.out _ (Below.refl _ _).drew))) HF).mono ?_
      rintro e v1 ⟨fs, rfl, i1, _, hb1⟩
      have d1 : Below wc.heap.size wc v1 := on2 (Below.refl _ _).drew hb1
      go_wp2_with fail
      refine hK.out _ _ (HS.out _ (Bc.out _ d1)) (fun hHeld2 => ?_)
      clear hK K hHeld; have hHeld := hHeld2; clear hHeld2
      try go_frame
      refine tr 4 (fun K hK => ?_)
      go_simp
      refine (FAll_calls ds fs (fun _ => True) y (ofP x L) v1 (HP.out _ (B2.out _ (Bc.out _ d1))) (RInfo.firm.weak i1.info (fun _ _ _ => trivial))).mono ?_
      rintro e v2 ⟨a2, n2, c2, rfl, s2, hb2⟩
      have d2 : Below wc.heap.size wc v2 := on2 d1 hb2
      go_wp2_with fail
      refine hK.out _ _ (HS.out _ (Bc.out _ d2)) (fun hHeld2 => ?_)
      clear hK K hHeld; have hHeld := hHeld2; clear hHeld2
      try go_frame
      refine tr 8 (fun K hK => ?_)
      go_simp
      refine (Of_calls ns pa n pc (fun b => b < w.heap.size) (fun _ => True) x P v2 (HN.out _ (B2.out _ (Bc.out _ d2))) (HD.out _ d2) HPs).mono ?_
      rintro e v3 ⟨gs, rfl, i3, _, hb3⟩
      have d3 : Below wc.heap.size wc v3 := on2 d2 hb3
      go_wp2_with fail
      refine hK.out _ _ (HS.out _ (Bc.out _ d3)) (fun hHeld2 => ?_)
      clear hK K hHeld; have hHeld := hHeld2; clear hHeld2
      try go_frame
      refine tr 9 (fun K hK => ?_)
      go_simp
      refine (FAll_calls ds gs (fun _ => True) y (ofP x P) v3 (HP.out _ (B2.out _ (Bc.out _ d3))) (RInfo.firm.weak i3.info (fun _ _ _ => trivial))).mono ?_
      rintro e v4 ⟨a4, n4, c4, rfl, s4, hb4⟩
      have d4 : Below wc.heap.size wc v4 := on2 d3 hb4
      go_wp2_with fail
      refine hK.out _ _ (HS.out _ (Bc.out _ d4)) (fun hHeld2 => ?_)
      clear hK K hHeld; have hHeld := hHeld2; clear hHeld2
      try go_frame
      rw [HEq.out] at s4
      refine tr 10 (fun K hK => ?_)
      go_simp
      refine (SameInts_calls a2 n2 c2 _ (whyL y (ofP x L)) a4 n4 c4 _ (whyL y (ofP x L)) v4 (s2.on RInt.firm (on2 hb3 hb4)) s4).mono ?_
      rintro e v5 ⟨rfl, q9, hq9⟩
      have d5 : Below wc.heap.size wc v5 := by rw [hq9]; exact on2 d4 (below_drewN (Below.refl _ _) _)
      clear hq9
      go_wp2_with fail
      refine hK.out _ _ (HS.out _ (Bc.out _ d5)) (fun hHeld2 => ?_)
      clear hK K hHeld; have hHeld := hHeld2; clear hHeld2
      try go_frame
      refine' tk 11 ?_ ?_; rotate_left
      · intro u hu; clear hu; go_simp; try with_reducible rfl
      try go_frame
      refine wpAnyH_done (by kernel_rfl) ?_ _
      refine NoPanic.normal ?_
      go_wp2_with fail
      go_ret
      exact ⟨rfl, B2.out _ (Bc.out _ d5)⟩
end Go.Proofs.YtbcclfiopebmpaaGreat
