/- near.tallyOf: a tally of nothing placed. Condition: the pod lies as is said of it, and has fewer than 1,000,000,000 terms of a kind. domains.here, wish.count, tally.matters, tally.first. Condition: the arguments lie as is said of them. Structs that lie in memory, whatever their cells: read and written whole; results that are structs; what stays. Plain laws of the model's worlds. No condition. -/
import Derived.Test.YtfnafgmengefaaaGreatDoorQ11
import Derived.Test.YtfnafgmengefaaaGreatDoorQ03
import Derived.Deep.MidRow
namespace Go.Proofs.YtfnafgmengefaaaGreatDoor
open Go.RowKit Go.Maps
set_option linter.unusedSimpArgs false
set_option maxRecDepth 100000

def TlS (D : Nat) (nm : ByteArray) (l2 l10 l11 : Value) (u : World) : Prop := u.cell? ⟨D, 0, none⟩ = some (.string nm) ∧ u.cell? ⟨D, 2, none⟩ = some l2 ∧ u.cell? ⟨D, 10, none⟩ = some l10 ∧ u.cell? ⟨D, 11, none⟩ = some l11
theorem cell_other {u : World} {p q : Addr} {v : Value} (h : q.block ≠ p.block) : (u.setCell p v).cell? q = u.cell? q := World.cell?_of_block (w := u) (Below.heap_setCell u p v q.block h)
set_option maxHeartbeats 8000000 in
theorem tallyOf_calls (cs : List Value) (A : Where) (p : PodD) (w : World) (h : Hid (RPod A w cs p)) (hn : (pNear p).length < 1000000000) (hm : (pApart p).length < 1000000000) : Calls Tryz.prog 21 #[.agg cs.toArray] w fun e w' => ∃ ts T, e = .returned (.agg ts.toArray) ∧ Tal0 (fun _ => True) w w' ts T p ∧ Below w.heap.size w w' := by
  have hpo : Hid (RPod (fun b => b < w.heap.size) w cs p) := RPod.firm.weak h.out (fun b hb _ => hb)
  clear h
  obtain ⟨⟨a2, n2, m2⟩, ⟨a6, n6, m6⟩, ⟨a7, n7, m7⟩, ⟨a8, n8, m8⟩, ⟨a9, n9, m9⟩, ⟨a10, n10, m10⟩, ⟨a11, n11, m11⟩, ⟨a12, n12, m12⟩, ⟨a13, n13, m13⟩, rfl, p0, s2, _, _, _, _, s10, s11, _, _, _, _⟩ := hpo.out.out
  simp only at p0 s2 s10 s11 ⊢
  have P0 : Hid (p.1.size ≤ 140737488355328) := p0
  have S2 : Hid (SlAt RLabel 2 32 (fun b => b < w.heap.size) w a2 n2 m2 (pLabs p)) := s2
  have S10 : Hid (SlAt RTerm 2 40 (fun b => b < w.heap.size) w a10 n10 m10 (pNear p)) := s10
  have S11 : Hid (SlAt RTerm 2 40 (fun b => b < w.heap.size) w a11 n11 m11 (pApart p)) := s11
  have hn10 : n10 < 1000000000 := by have : (pNear p).length = n10 := s10.1; omega
  have hn11 : n11 < 1000000000 := by have : (pApart p).length = n11 := s11.1; omega
  clear hpo p0 s2 s10 s11 hn hm
  have hmm := @run_makeMap Tryz.prog
  obtain ⟨W0, hW0⟩ : ∃ W, W = (w.alloc (.cells #[.string p.1, .int .i64 p.2.1, .slice a2 n2 m2, .int .i64 p.2.2.2.1.1, .int .i64 p.2.2.2.1.2.1, .int .i64 p.2.2.2.1.2.2, .slice a6 n6 m6, .slice a7 n7 m7, .slice a8 n8 m8, .slice a9 n9 m9, .slice a10 n10 m10, .slice a11 n11 m11, .slice a12 n12 m12, .slice a13 n13 m13, .string p.2.2.2.2.2.2.2.2.2.2.2.2.1, .string p.2.2.2.2.2.2.2.2.2.2.2.2.2] 33)).alloc (.cells #[.string ⟨#[]⟩, .slice none 0 0, .slice none 0 0, .slice none 0 0, .map none] 66) := ⟨_, rfl⟩
  have B0 : Below w.heap.size w W0 := by rw [hW0]; go_grown
  have q0 : BoxL W0 w.heap.size [.string p.1, .int .i64 p.2.1, .slice a2 n2 m2, .int .i64 p.2.2.2.1.1, .int .i64 p.2.2.2.1.2.1, .int .i64 p.2.2.2.1.2.2, .slice a6 n6 m6, .slice a7 n7 m7, .slice a8 n8 m8, .slice a9 n9 m9, .slice a10 n10 m10, .slice a11 n11 m11, .slice a12 n12 m12, .slice a13 n13 m13, .string p.2.2.2.2.2.2.2.2.2.2.2.2.1, .string p.2.2.2.2.2.2.2.2.2.2.2.2.2] := by rw [hW0]; exact (BoxL.new w 33 [.string p.1, .int .i64 p.2.1, .slice a2 n2 m2, .int .i64 p.2.2.2.1.1, .int .i64 p.2.2.2.1.2.1, .int .i64 p.2.2.2.1.2.2, .slice a6 n6 m6, .slice a7 n7 m7, .slice a8 n8 m8, .slice a9 n9 m9, .slice a10 n10 m10, .slice a11 n11 m11, .slice a12 n12 m12, .slice a13 n13 m13, .string p.2.2.2.2.2.2.2.2.2.2.2.2.1, .string p.2.2.2.2.2.2.2.2.2.2.2.2.2]).on ((Below.refl _ _).alloc (Nat.le_refl _) _)
  have q1 : BoxL W0 (w.heap.size + 1) [.string ⟨#[]⟩, .slice none 0 0, .slice none 0 0, .slice none 0 0, .map none] := by have h1 := BoxL.new (w.alloc (.cells #[.string p.1, .int .i64 p.2.1, .slice a2 n2 m2, .int .i64 p.2.2.2.1.1, .int .i64 p.2.2.2.1.2.1, .int .i64 p.2.2.2.1.2.2, .slice a6 n6 m6, .slice a7 n7 m7, .slice a8 n8 m8, .slice a9 n9 m9, .slice a10 n10 m10, .slice a11 n11 m11, .slice a12 n12 m12, .slice a13 n13 m13, .string p.2.2.2.2.2.2.2.2.2.2.2.2.1, .string p.2.2.2.2.2.2.2.2.2.2.2.2.2] 33)) 66 [.string ⟨#[]⟩, .slice none 0 0, .slice none 0 0, .slice none 0 0, .map none]; rw [hW0]; simpa using h1
  have HS : Hid (∀ u, Below W0.heap.size W0 u → TlS w.heap.size p.1 (.slice a2 n2 m2) (.slice a10 n10 m10) (.slice a11 n11 m11) u) := fun u hb => ⟨((q0.on hb).2 0 _ rfl).1, ((q0.on hb).2 2 _ rfl).1, ((q0.on hb).2 10 _ rfl).1, ((q0.on hb).2 11 _ rfl).1⟩
  have HQ : Hid (∀ u, Below W0.heap.size W0 u → BoxL u (w.heap.size + 1) [.string ⟨#[]⟩, .slice none 0 0, .slice none 0 0, .slice none 0 0, .map none]) := fun u hb => q1.on hb
  have HB0 : Hid (Below w.heap.size w W0) := B0
  have HC1 : Hid (∀ u, Below w.heap.size w u → Calls Tryz.prog 44 #[.slice a10 n10 m10] u fun e w' => ∃ a' c' M, e = .returned (.slice a' n10 c') ∧ SlAt RWish 3 48 (fun b => b < w.heap.size ∨ (Fresh u b ∧ NotMap w' b)) w' a' n10 c' M ∧ M.map Prod.fst = pNear p ∧ Zeros u w' M ∧ Below u.heap.size u w') := fun u hb => wishesOf_calls a10 n10 m10 _ (pNear p) u (S10.out.on RTerm.firm hb) (fun b hb' => Nat.lt_of_lt_of_le hb' hb.size) hn10
  have HC2 : Hid (∀ u, Below w.heap.size w u → Calls Tryz.prog 44 #[.slice a11 n11 m11] u fun e w' => ∃ a' c' M, e = .returned (.slice a' n11 c') ∧ SlAt RWish 3 48 (fun b => b < w.heap.size ∨ (Fresh u b ∧ NotMap w' b)) w' a' n11 c' M ∧ M.map Prod.fst = pApart p ∧ Zeros u w' M ∧ Below u.heap.size u w') := fun u hb => wishesOf_calls a11 n11 m11 _ (pApart p) u (S11.out.on RTerm.firm hb) (fun b hb' => Nat.lt_of_lt_of_le hb' hb.size) hn11
  have hsz : Hid (W0.heap.size = w.heap.size + 1 + 1) := by rw [Hid, hW0]; simp
  clear S10 S11 hn10 hn11 q0 q1 B0
  go_enter Tryz.func21, Tryz.ntmps21
  go_upto_region 1 with fail
  rw [← hW0]
  clear hW0
  refine t0 (TlS w.heap.size p.1 (.slice a2 n2 m2) (.slice a10 n10 m10) (.slice a11 n11 m11)) (HS.out _ (Below.refl _ _).drew) (fun hHeld => ?_)
  refine' tk 0 ?_ ?_; rotate_left
  · intro u ⟨_, _, _, _⟩; go_simp; try with_reducible rfl
  try go_frame
  refine' tk 1 ?_ ?_; rotate_left
  · intro u ⟨_, _, _, _⟩; go_simp; try with_reducible rfl
  try go_frame
  refine' tk 2 ?_ ?_; rotate_left
  · intro u ⟨_, _, _, _⟩; go_simp; try with_reducible rfl
  try go_frame
  refine' tk 3 ?_ ?_; rotate_left
  · intro u ⟨_, _, _, _⟩; go_simp; try with_reducible rfl
  try go_frame
  refine' tk 4 ?_ ?_; rotate_left
  · intro u ⟨_, _, _, _⟩; go_simp; try with_reducible rfl
  try go_frame
  refine' tk 5 ?_ ?_; rotate_left
  · intro u ⟨_, _, _, _⟩; go_simp; try with_reducible rfl
  try go_frame
  refine' tk 7 ?_ ?_; rotate_left
  · intro u ⟨_, _, _, _⟩; go_simp; try with_reducible rfl
  try go_frame
  refine' tk 8 ?_ ?_; rotate_left
  · intro u ⟨_, _, _, _⟩; go_simp; try with_reducible rfl
  try go_frame
  have hBd : Below W0.heap.size W0 W0.drew := (Below.refl _ _).drew
  have hBW0 : Below W0.heap.size W0 W0.drew := (Below.refl _ _).drew
  refine tb 6 10 (fun K hK => ?_) (fun K hK => ?_)
  ·
    go_simp
    refine (HC1.out _ (on2 HB0.out hBd)).mono ?_
    rintro e v1 ⟨a1', c1', M1, rfl, hs1, he1, hz1, hb1⟩
    have hBv1 := on2 hBd hb1
    go_wp2_with fail
    refine hK.out _ _ (HS.out _ hBv1) (fun hHeld2 => ?_)
    clear hK K hHeld; have hHeld := hHeld2; clear hHeld2
    try go_frame
    refine tb 9 10 (fun K hK => ?_) (fun K hK => ?_)
    ·
      go_simp
      refine (HC2.out _ (on2 HB0.out hBv1)).mono ?_
      rintro e v2 ⟨a2', c2', M2, rfl, hs2, he2, hz2, hb2⟩
      have hBv2 := on2 hBv1 hb2
      go_wp2_with fail
      refine hK.out _ _ (HS.out _ hBv2) (fun hHeld2 => ?_)
      clear hK K hHeld; have hHeld := hHeld2; clear hHeld2
      try go_frame
      refine tr 10 (fun K hK => ?_)
      go_simp
      have hBv3 : Below W0.heap.size W0 ((v2).alloc (.map #[] 0)) := hBv2.alloc (hBv2).size _
      refine hK.out _ _ (HS.out _ hBv3) (fun hHeld2 => ?_)
      clear hK K hHeld; have hHeld := hHeld2; clear hHeld2
      try go_frame
      have HT : Hid (Tal0 (fun b => b ≠ w.heap.size + 1) w (v2.alloc (.map #[] 0)) [.string p.1, .slice a2 n2 m2, .slice a1' n10 c1', .slice a2' n11 c2', .map (some (v2).heap.size)] (p.1, pLabs p, M1, M2, (v2).heap.size) p) := by
        have hz := hsz.out; have k1 := hb1.size; have k2 := hb2.size; have kd : W0.drew.heap.size = W0.heap.size := rfl; (try simp only [World.size_alloc] at k1 k2)
        exact tal0_mk (u1 := W0.drew) (u2 := v1) (w1' := v1) (w2' := v2) (on2 HB0.out hBv3) P0.out S2.out hs1 he1 hz1 (on2 hb2 ((Below.refl _ _).alloc (Nat.le_refl _) _)) (by (try simp only [World.size_alloc]); omega) (by omega) hs2 he2 hz2 ((Below.refl _ _).alloc (Nat.le_refl _) _) (Nat.le_refl _) (CntAt.made v2) (by (try simp only [World.size_alloc]); omega) (fun b h1 h2 => by (try simp only [World.size_alloc] at h1 ⊢); omega) (fun b h1 h2 => by (try simp only [World.size_alloc] at h1 ⊢); omega) _ (fun b h1 => by omega) (fun b h1 => by (try simp only [World.size_alloc] at h1); omega) (fun b h1 => by (try simp only [World.size_alloc] at h1); omega)
      obtain ⟨U, hU⟩ : ∃ U, U = (v2.alloc (.map #[] 0)) := ⟨_, rfl⟩
      have hq := HQ.out _ hBv3
      have hBU := hBv3
      rw [← hU] at HT hq hBU
      generalize hmo : (v2).heap.size = mo at HT
      refine' tk 11 ?_ ?_; rotate_left
      · intro u ⟨_, _, _, _⟩; go_simp; try with_reducible rfl
      try go_frame
      refine ts 12 (fun K hK => ?_)
      obtain ⟨c0, f0⟩ := hq.2 0 _ rfl
      obtain ⟨c1, f1⟩ := hq.2 1 _ rfl
      obtain ⟨c2, f2⟩ := hq.2 2 _ rfl
      obtain ⟨c3, f3⟩ := hq.2 3 _ rfl
      obtain ⟨c4, f4⟩ := hq.2 4 _ rfl
      rw [← hU]
      clear hU HC1 HC2
      simp only [hmo]
      go_simp
      have hnm := hq.notMap
      have HT5 := ((((HT.out.set (q := ⟨w.heap.size + 1, 0, none⟩) hnm (fun h => h rfl) (.string p.1)).set (q := ⟨w.heap.size + 1, 1, none⟩) ((hq.set 0 (.string p.1) (by simp)).notMap) (fun h => h rfl) (.slice a2 n2 m2)).set (q := ⟨w.heap.size + 1, 2, none⟩) (((hq.set 0 (.string p.1) (by simp)).set 1 (.slice a2 n2 m2) (by simp)).notMap) (fun h => h rfl) (.slice a1' n10 c1')).set (q := ⟨w.heap.size + 1, 3, none⟩) ((((hq.set 0 (.string p.1) (by simp)).set 1 (.slice a2 n2 m2) (by simp)).set 2 (.slice a1' n10 c1') (by simp)).notMap) (fun h => h rfl) (.slice a2' n11 c2')).set (q := ⟨w.heap.size + 1, 4, none⟩) (((((hq.set 0 (.string p.1) (by simp)).set 1 (.slice a2 n2 m2) (by simp)).set 2 (.slice a1' n10 c1') (by simp)).set 3 (.slice a2' n11 c2') (by simp)).notMap) (fun h => h rfl) (.map (some mo))
      have hq5 := ((((hq.set 0 (.string p.1) (by simp)).set 1 (.slice a2 n2 m2) (by simp)).set 2 (.slice a1' n10 c1') (by simp)).set 3 (.slice a2' n11 c2') (by simp)).set 4 (.map (some mo)) (by simp)
      have hBwU := on2 HB0.out hBU
      have HB5 := ((((hBwU.setCell (p := ⟨w.heap.size + 1, 0, none⟩) (Nat.le_succ _) (.string p.1)).setCell (p := ⟨w.heap.size + 1, 1, none⟩) (Nat.le_succ _) (.slice a2 n2 m2)).setCell (p := ⟨w.heap.size + 1, 2, none⟩) (Nat.le_succ _) (.slice a1' n10 c1')).setCell (p := ⟨w.heap.size + 1, 3, none⟩) (Nat.le_succ _) (.slice a2' n11 c2')).setCell (p := ⟨w.heap.size + 1, 4, none⟩) (Nat.le_succ _) (.map (some mo))
      have HS5 : ∀ j, ((((((U.setCell ⟨w.heap.size + 1, 0, none⟩ (.string p.1)).setCell ⟨w.heap.size + 1, 1, none⟩ (.slice a2 n2 m2)).setCell ⟨w.heap.size + 1, 2, none⟩ (.slice a1' n10 c1')).setCell ⟨w.heap.size + 1, 3, none⟩ (.slice a2' n11 c2')).setCell ⟨w.heap.size + 1, 4, none⟩ (.map (some mo))).cell? ⟨w.heap.size, j, none⟩) = U.cell? ⟨w.heap.size, j, none⟩ := fun j => (((((cell_other (by simp)).trans (cell_other (by simp))).trans (cell_other (by simp))).trans (cell_other (by simp))).trans (cell_other (by simp)))
      obtain ⟨V, hV⟩ : ∃ V, V = ((((U.setCell ⟨w.heap.size + 1, 0, none⟩ (.string p.1)).setCell ⟨w.heap.size + 1, 1, none⟩ (.slice a2 n2 m2)).setCell ⟨w.heap.size + 1, 2, none⟩ (.slice a1' n10 c1')).setCell ⟨w.heap.size + 1, 3, none⟩ (.slice a2' n11 c2')).setCell ⟨w.heap.size + 1, 4, none⟩ (.map (some mo)) := ⟨_, rfl⟩
      rw [← hV] at HT5 hq5 HB5 HS5 ⊢
      obtain ⟨t0, t1, t2, t3⟩ := HS.out _ hBU
      refine hK.out undef _ ⟨(HS5 0).trans t0, (HS5 2).trans t1, (HS5 10).trans t2, (HS5 11).trans t3⟩ (fun _ => ?_)
      clear hV HS5 t0 t1 t2 t3 hBwU hK K hHeld c0 c1 c2 c3 c4 f0 f1 f2 f3 f4 hmo
      refine tz ?_
      have z0 := (hq5.2 0 (.string p.1) rfl).1
      have z1 := (hq5.2 1 (.slice a2 n2 m2) rfl).1
      have z2 := (hq5.2 2 (.slice a1' n10 c1') rfl).1
      have z3 := (hq5.2 3 (.slice a2' n11 c2') rfl).1
      have z4 := (hq5.2 4 (.map (some mo)) rfl).1
      go_wp2_with fail
      refine bodyPost_ret (v := .agg #[.string p.1, .slice a2 n2 m2, .slice a1' n10 c1', .slice a2' n11 c2', .map (some mo)]) (by simp [results, Tryz.results21, go_sem, z0, z1, z2, z3, z4, Result.andThen]) rfl ⟨_, _, rfl, HT5.any, HB5⟩
    ·
      go_simp
      have hBv3 : Below W0.heap.size W0 ((v1).alloc (.map #[] 0)) := hBv1.alloc (hBv1).size _
      refine hK.out _ _ (HS.out _ hBv3) (fun hHeld2 => ?_)
      clear hK K hHeld; have hHeld := hHeld2; clear hHeld2
      try go_frame
      refine tr 9 (fun K hK => ?_)
      go_simp
      refine (HC2.out _ (on2 HB0.out hBv3)).mono ?_
      rintro e v2 ⟨a2', c2', M2, rfl, hs2, he2, hz2, hb2⟩
      have hBv2 := on2 hBv3 hb2
      go_wp2_with fail
      refine hK.out _ _ (HS.out _ hBv2) (fun hHeld2 => ?_)
      clear hK K hHeld; have hHeld := hHeld2; clear hHeld2
      try go_frame
      have HT : Hid (Tal0 (fun b => b ≠ w.heap.size + 1) w v2 [.string p.1, .slice a2 n2 m2, .slice a1' n10 c1', .slice a2' n11 c2', .map (some (v1).heap.size)] (p.1, pLabs p, M1, M2, (v1).heap.size) p) := by
        have hz := hsz.out; have k1 := hb1.size; have k2 := hb2.size; have kd : W0.drew.heap.size = W0.heap.size := rfl; (try simp only [World.size_alloc] at k1 k2)
        exact tal0_mk (u1 := W0.drew) (u2 := (v1.alloc (.map #[] 0))) (w1' := v1) (w2' := v2) (on2 HB0.out hBv2) P0.out S2.out hs1 he1 hz1 (on2 ((Below.refl _ _).alloc (Nat.le_refl _) _) hb2) (by (try simp only [World.size_alloc]); omega) (by omega) hs2 he2 hz2 (Below.refl _ _) (by simp) ((CntAt.made v1).on hb2) (by (try simp only [World.size_alloc]); omega) (fun b h1 h2 => by (try simp only [World.size_alloc] at h1 ⊢); omega) (fun b h1 h2 => by (try simp only [World.size_alloc] at h1 ⊢); omega) _ (fun b h1 => by omega) (fun b h1 => by (try simp only [World.size_alloc] at h1); omega) (fun b h1 => by (try simp only [World.size_alloc] at h1); omega)
      obtain ⟨U, hU⟩ : ∃ U, U = v2 := ⟨_, rfl⟩
      have hq := HQ.out _ hBv2
      have hBU := hBv2
      rw [← hU] at HT hq hBU
      generalize hmo : (v1).heap.size = mo at HT
      refine' tk 11 ?_ ?_; rotate_left
      · intro u ⟨_, _, _, _⟩; go_simp; try with_reducible rfl
      try go_frame
      refine ts 12 (fun K hK => ?_)
      obtain ⟨c0, f0⟩ := hq.2 0 _ rfl
      obtain ⟨c1, f1⟩ := hq.2 1 _ rfl
      obtain ⟨c2, f2⟩ := hq.2 2 _ rfl
      obtain ⟨c3, f3⟩ := hq.2 3 _ rfl
      obtain ⟨c4, f4⟩ := hq.2 4 _ rfl
      rw [← hU]
      clear hU HC1 HC2
      simp only [hmo]
      go_simp
      have hnm := hq.notMap
      have HT5 := ((((HT.out.set (q := ⟨w.heap.size + 1, 0, none⟩) hnm (fun h => h rfl) (.string p.1)).set (q := ⟨w.heap.size + 1, 1, none⟩) ((hq.set 0 (.string p.1) (by simp)).notMap) (fun h => h rfl) (.slice a2 n2 m2)).set (q := ⟨w.heap.size + 1, 2, none⟩) (((hq.set 0 (.string p.1) (by simp)).set 1 (.slice a2 n2 m2) (by simp)).notMap) (fun h => h rfl) (.slice a1' n10 c1')).set (q := ⟨w.heap.size + 1, 3, none⟩) ((((hq.set 0 (.string p.1) (by simp)).set 1 (.slice a2 n2 m2) (by simp)).set 2 (.slice a1' n10 c1') (by simp)).notMap) (fun h => h rfl) (.slice a2' n11 c2')).set (q := ⟨w.heap.size + 1, 4, none⟩) (((((hq.set 0 (.string p.1) (by simp)).set 1 (.slice a2 n2 m2) (by simp)).set 2 (.slice a1' n10 c1') (by simp)).set 3 (.slice a2' n11 c2') (by simp)).notMap) (fun h => h rfl) (.map (some mo))
      have hq5 := ((((hq.set 0 (.string p.1) (by simp)).set 1 (.slice a2 n2 m2) (by simp)).set 2 (.slice a1' n10 c1') (by simp)).set 3 (.slice a2' n11 c2') (by simp)).set 4 (.map (some mo)) (by simp)
      have hBwU := on2 HB0.out hBU
      have HB5 := ((((hBwU.setCell (p := ⟨w.heap.size + 1, 0, none⟩) (Nat.le_succ _) (.string p.1)).setCell (p := ⟨w.heap.size + 1, 1, none⟩) (Nat.le_succ _) (.slice a2 n2 m2)).setCell (p := ⟨w.heap.size + 1, 2, none⟩) (Nat.le_succ _) (.slice a1' n10 c1')).setCell (p := ⟨w.heap.size + 1, 3, none⟩) (Nat.le_succ _) (.slice a2' n11 c2')).setCell (p := ⟨w.heap.size + 1, 4, none⟩) (Nat.le_succ _) (.map (some mo))
      have HS5 : ∀ j, ((((((U.setCell ⟨w.heap.size + 1, 0, none⟩ (.string p.1)).setCell ⟨w.heap.size + 1, 1, none⟩ (.slice a2 n2 m2)).setCell ⟨w.heap.size + 1, 2, none⟩ (.slice a1' n10 c1')).setCell ⟨w.heap.size + 1, 3, none⟩ (.slice a2' n11 c2')).setCell ⟨w.heap.size + 1, 4, none⟩ (.map (some mo))).cell? ⟨w.heap.size, j, none⟩) = U.cell? ⟨w.heap.size, j, none⟩ := fun j => (((((cell_other (by simp)).trans (cell_other (by simp))).trans (cell_other (by simp))).trans (cell_other (by simp))).trans (cell_other (by simp)))
      obtain ⟨V, hV⟩ : ∃ V, V = ((((U.setCell ⟨w.heap.size + 1, 0, none⟩ (.string p.1)).setCell ⟨w.heap.size + 1, 1, none⟩ (.slice a2 n2 m2)).setCell ⟨w.heap.size + 1, 2, none⟩ (.slice a1' n10 c1')).setCell ⟨w.heap.size + 1, 3, none⟩ (.slice a2' n11 c2')).setCell ⟨w.heap.size + 1, 4, none⟩ (.map (some mo)) := ⟨_, rfl⟩
      rw [← hV] at HT5 hq5 HB5 HS5 ⊢
      obtain ⟨t0, t1, t2, t3⟩ := HS.out _ hBU
      refine hK.out undef _ ⟨(HS5 0).trans t0, (HS5 2).trans t1, (HS5 10).trans t2, (HS5 11).trans t3⟩ (fun _ => ?_)
      clear hV HS5 t0 t1 t2 t3 hBwU hK K hHeld c0 c1 c2 c3 c4 f0 f1 f2 f3 f4 hmo
      refine tz ?_
      have z0 := (hq5.2 0 (.string p.1) rfl).1
      have z1 := (hq5.2 1 (.slice a2 n2 m2) rfl).1
      have z2 := (hq5.2 2 (.slice a1' n10 c1') rfl).1
      have z3 := (hq5.2 3 (.slice a2' n11 c2') rfl).1
      have z4 := (hq5.2 4 (.map (some mo)) rfl).1
      go_wp2_with fail
      refine bodyPost_ret (v := .agg #[.string p.1, .slice a2 n2 m2, .slice a1' n10 c1', .slice a2' n11 c2', .map (some mo)]) (by simp [results, Tryz.results21, go_sem, z0, z1, z2, z3, z4, Result.andThen]) rfl ⟨_, _, rfl, HT5.any, HB5⟩
  ·
    go_simp
    have hBv3 : Below W0.heap.size W0 ((W0.drew).alloc (.map #[] 0)) := hBd.alloc (hBd).size _
    refine hK.out _ _ (HS.out _ hBv3) (fun hHeld2 => ?_)
    clear hK K hHeld; have hHeld := hHeld2; clear hHeld2
    try go_frame
    refine tr 6 (fun K hK => ?_)
    go_simp
    refine (HC1.out _ (on2 HB0.out hBv3)).mono ?_
    rintro e v1 ⟨a1', c1', M1, rfl, hs1, he1, hz1, hb1⟩
    have hBv1 := on2 hBv3 hb1
    go_wp2_with fail
    refine hK.out _ _ (HS.out _ hBv1) (fun hHeld2 => ?_)
    clear hK K hHeld; have hHeld := hHeld2; clear hHeld2
    try go_frame
    refine tr 9 (fun K hK => ?_)
    go_simp
    refine (HC2.out _ (on2 HB0.out hBv1)).mono ?_
    rintro e v2 ⟨a2', c2', M2, rfl, hs2, he2, hz2, hb2⟩
    have hBv2 := on2 hBv1 hb2
    go_wp2_with fail
    refine hK.out _ _ (HS.out _ hBv2) (fun hHeld2 => ?_)
    clear hK K hHeld; have hHeld := hHeld2; clear hHeld2
    try go_frame
    have HT : Hid (Tal0 (fun b => b ≠ w.heap.size + 1) w v2 [.string p.1, .slice a2 n2 m2, .slice a1' n10 c1', .slice a2' n11 c2', .map (some (W0).heap.size)] (p.1, pLabs p, M1, M2, (W0).heap.size) p) := by
      have hz := hsz.out; have k1 := hb1.size; have k2 := hb2.size; have kd : W0.drew.heap.size = W0.heap.size := rfl; (try simp only [World.size_alloc] at k1 k2)
      exact tal0_mk (u1 := (W0.drew.alloc (.map #[] 0))) (u2 := v1) (w1' := v1) (w2' := v2) (on2 HB0.out hBv2) P0.out S2.out hs1 he1 hz1 (hb2) (by (try simp only [World.size_alloc]); omega) (by omega) hs2 he2 hz2 (Below.refl _ _) (Nat.le_refl _) (((CntAt.made W0.drew).on hb1).on hb2) (by (try simp only [World.size_alloc]); omega) (fun b h1 h2 => by (try simp only [World.size_alloc] at h1 ⊢); omega) (fun b h1 h2 => by (try simp only [World.size_alloc] at h1 ⊢); omega) _ (fun b h1 => by omega) (fun b h1 => by (try simp only [World.size_alloc] at h1); omega) (fun b h1 => by (try simp only [World.size_alloc] at h1); omega)
    obtain ⟨U, hU⟩ : ∃ U, U = v2 := ⟨_, rfl⟩
    have hq := HQ.out _ hBv2
    have hBU := hBv2
    rw [← hU] at HT hq hBU
    generalize hmo : (W0).heap.size = mo at HT
    refine' tk 11 ?_ ?_; rotate_left
    · intro u ⟨_, _, _, _⟩; go_simp; try with_reducible rfl
    try go_frame
    refine ts 12 (fun K hK => ?_)
    obtain ⟨c0, f0⟩ := hq.2 0 _ rfl
    obtain ⟨c1, f1⟩ := hq.2 1 _ rfl
    obtain ⟨c2, f2⟩ := hq.2 2 _ rfl
    obtain ⟨c3, f3⟩ := hq.2 3 _ rfl
    obtain ⟨c4, f4⟩ := hq.2 4 _ rfl
    rw [← hU]
    clear hU HC1 HC2
    simp only [hmo]
    go_simp
    have hnm := hq.notMap
    have HT5 := ((((HT.out.set (q := ⟨w.heap.size + 1, 0, none⟩) hnm (fun h => h rfl) (.string p.1)).set (q := ⟨w.heap.size + 1, 1, none⟩) ((hq.set 0 (.string p.1) (by simp)).notMap) (fun h => h rfl) (.slice a2 n2 m2)).set (q := ⟨w.heap.size + 1, 2, none⟩) (((hq.set 0 (.string p.1) (by simp)).set 1 (.slice a2 n2 m2) (by simp)).notMap) (fun h => h rfl) (.slice a1' n10 c1')).set (q := ⟨w.heap.size + 1, 3, none⟩) ((((hq.set 0 (.string p.1) (by simp)).set 1 (.slice a2 n2 m2) (by simp)).set 2 (.slice a1' n10 c1') (by simp)).notMap) (fun h => h rfl) (.slice a2' n11 c2')).set (q := ⟨w.heap.size + 1, 4, none⟩) (((((hq.set 0 (.string p.1) (by simp)).set 1 (.slice a2 n2 m2) (by simp)).set 2 (.slice a1' n10 c1') (by simp)).set 3 (.slice a2' n11 c2') (by simp)).notMap) (fun h => h rfl) (.map (some mo))
    have hq5 := ((((hq.set 0 (.string p.1) (by simp)).set 1 (.slice a2 n2 m2) (by simp)).set 2 (.slice a1' n10 c1') (by simp)).set 3 (.slice a2' n11 c2') (by simp)).set 4 (.map (some mo)) (by simp)
    have hBwU := on2 HB0.out hBU
    have HB5 := ((((hBwU.setCell (p := ⟨w.heap.size + 1, 0, none⟩) (Nat.le_succ _) (.string p.1)).setCell (p := ⟨w.heap.size + 1, 1, none⟩) (Nat.le_succ _) (.slice a2 n2 m2)).setCell (p := ⟨w.heap.size + 1, 2, none⟩) (Nat.le_succ _) (.slice a1' n10 c1')).setCell (p := ⟨w.heap.size + 1, 3, none⟩) (Nat.le_succ _) (.slice a2' n11 c2')).setCell (p := ⟨w.heap.size + 1, 4, none⟩) (Nat.le_succ _) (.map (some mo))
    have HS5 : ∀ j, ((((((U.setCell ⟨w.heap.size + 1, 0, none⟩ (.string p.1)).setCell ⟨w.heap.size + 1, 1, none⟩ (.slice a2 n2 m2)).setCell ⟨w.heap.size + 1, 2, none⟩ (.slice a1' n10 c1')).setCell ⟨w.heap.size + 1, 3, none⟩ (.slice a2' n11 c2')).setCell ⟨w.heap.size + 1, 4, none⟩ (.map (some mo))).cell? ⟨w.heap.size, j, none⟩) = U.cell? ⟨w.heap.size, j, none⟩ := fun j => (((((cell_other (by simp)).trans (cell_other (by simp))).trans (cell_other (by simp))).trans (cell_other (by simp))).trans (cell_other (by simp)))
    obtain ⟨V, hV⟩ : ∃ V, V = ((((U.setCell ⟨w.heap.size + 1, 0, none⟩ (.string p.1)).setCell ⟨w.heap.size + 1, 1, none⟩ (.slice a2 n2 m2)).setCell ⟨w.heap.size + 1, 2, none⟩ (.slice a1' n10 c1')).setCell ⟨w.heap.size + 1, 3, none⟩ (.slice a2' n11 c2')).setCell ⟨w.heap.size + 1, 4, none⟩ (.map (some mo)) := ⟨_, rfl⟩
    rw [← hV] at HT5 hq5 HB5 HS5 ⊢
    obtain ⟨t0, t1, t2, t3⟩ := HS.out _ hBU
    refine hK.out undef _ ⟨(HS5 0).trans t0, (HS5 2).trans t1, (HS5 10).trans t2, (HS5 11).trans t3⟩ (fun _ => ?_)
    clear hV HS5 t0 t1 t2 t3 hBwU hK K hHeld c0 c1 c2 c3 c4 f0 f1 f2 f3 f4 hmo
    refine tz ?_
    have z0 := (hq5.2 0 (.string p.1) rfl).1
    have z1 := (hq5.2 1 (.slice a2 n2 m2) rfl).1
    have z2 := (hq5.2 2 (.slice a1' n10 c1') rfl).1
    have z3 := (hq5.2 3 (.slice a2' n11 c2') rfl).1
    have z4 := (hq5.2 4 (.map (some mo)) rfl).1
    go_wp2_with fail
    refine bodyPost_ret (v := .agg #[.string p.1, .slice a2 n2 m2, .slice a1' n10 c1', .slice a2' n11 c2', .map (some mo)]) (by simp [results, Tryz.results21, go_sem, z0, z1, z2, z3, z4, Result.andThen]) rfl ⟨_, _, rfl, HT5.any, HB5⟩
end Go.Proofs.YtfnafgmengefaaaGreatDoor
namespace Go.Proofs.YtfnafgmengefaaaGreatDoor
open Go.RowKit Go.Maps
set_option linter.unusedSimpArgs false
set_option maxRecDepth 100000

set_option maxHeartbeats 2000000 in
theorem dhere_calls {w : World} {mb N : Nat} {f : Lab → Int} (hc : Hid (CntAt w mb N f)) (a : Option Addr) (n cap : Nat) (A : Where) (L : List Lab) (key : ByteArray) (hL : Hid (SlAt RLabel 2 32 A w a n cap L)) (hk : key.size ≤ 140737488355328) :
    Calls Tryz.prog 61 #[.map (some mb), .slice a n cap, .string key] w fun e w' => e = .returned (.bool ((getL L key).2 && decide (0 < f (domL L key)))) ∧ Below w.heap.size w w' := by
  have hD := domain_calls a n cap A L key w hL
  have HO : Hid ((getL L key).2 = true → okL (domL L key)) := dom_ok hk (sl_okL hL.out)
  obtain ⟨b, hb⟩ : ∃ b, decide (0 < f (domL L key)) = b := ⟨_, rfl⟩
  have HBb : Hid (0 < f (domL L key) ↔ b = true) := by rw [Hid, ← hb]; simp
  rw [hb]
  simp only [domL] at HO HBb ⊢
  clear hL hb
  generalize (getL L key).1 = v at hD HO HBb
  generalize (getL L key).2 = t at hD HO ⊢
  have HC : Hid (t = true → ∀ u, Below w.heap.size w u → (Instr.lookup 64 (.map (some mb)) (.agg #[.string key, .string v]) false).run Tryz.prog u = .ok (.int .i64 (f (key, v))) u) := fun ht u hb => (hc.out.on hb).look _ Tryz.underlying64 (HO.out ht)
  generalize f (key, v) = c at HC HBb
  clear hc HO f
  go_enter Tryz.func61, Tryz.ntmps61
  go_wp2_with fail
  refine hD.mono ?_
  clear hD
  rintro e w1 ⟨rfl, hb1⟩
  cases t
  · go_wp2_with fail
    go_ret
    exact ⟨rfl, on2 hb1 (by go_grown)⟩
  · have hlk := HC.out rfl (w1.alloc (.cells #[.string key, .string v] 55)) (on2 hb1 (by go_grown))
    clear HC
    go_wp2_with fail
    go_ret
    have h2 := HBb.out
    exact ⟨by cases b <;> simp_all, on2 hb1 (by go_grown)⟩
/-- What is read of something that is placed. -/
theorem RPlaced.reads {A : Where} {w : World} {cs : List Value} {x : PlacedD} (h : RPlaced A w cs x) : ∃ h2 h11 h16 : Hd, cs[0]? = some (.string x.1.1) ∧ cs[2]? = some (.slice h2.1 h2.2.1 h2.2.2) ∧ cs[11]? = some (.slice h11.1 h11.2.1 h11.2.2) ∧ cs[16]? = some (.slice h16.1 h16.2.1 h16.2.2) ∧ SlAt RLabel 2 32 A w h2.1 h2.2.1 h2.2.2 (pLabs x.1) ∧ SlAt RTerm 2 40 A w h11.1 h11.2.1 h11.2.2 (pApart x.1) ∧ SlAt RLabel 2 32 A w h16.1 h16.2.1 h16.2.2 x.2 := by
  obtain ⟨c, d, rfl, h1, ⟨a, n, cap, rfl, h3⟩⟩ := h
  obtain ⟨h2, h6, h7, h8, h9, h10, h11, h12, h13, rfl, _, s2, _, _, _, _, _, s11, _, _, _, _⟩ := h1.out
  exact ⟨h2, h11, (a, n, cap), rfl, rfl, rfl, rfl, s2, s11, h3⟩
theorem addF_and {g : Lab → Int} {b : Bool} {q r : Lab → Bool} {c : Int} (h : ∀ d, r d = (b && q d)) : (b = true → addF g q c = addF g r c) ∧ (b = false → ∀ d, g d = addF g r c d) := by
  refine ⟨fun e => ?_, fun e => addF_none (fun d => by rw [h d, e]; rfl)⟩
  funext d
  unfold addF
  rw [h d, e]
  rfl
set_option maxHeartbeats 4000000 in
theorem wcount_calls {w : World} {mb N : Nat} {g : Lab → Int} (hc : Hid (CntAt w mb N g)) (hN : N < 70368744177664) (b1 : Option Addr) (b2 b3 : Nat) (A : Where) (R : List Ask) (key : ByteArray) (cs : List Value) (x : PlacedD) (by_ : Int) (hx : Hid (RPlaced A w cs x)) (hr : Hid (SlAt RReq 3 48 A w b1 b2 b3 R)) (hk : key.size ≤ 140737488355328) (hby : by_ = 1 ∨ by_ = -1) :
    Calls Tryz.prog 45 #[.agg #[.slice b1 b2 b3, .string key, .map (some mb)], .agg cs.toArray, .int .i64 by_] w fun e w' => e = .returned (.tuple #[]) ∧ CntAt w' mb (N + 1) (addF g (hT (R, key) x) by_) ∧ Turns (fun b => b = mb) w w' := by
  obtain ⟨⟨a2, n2, m2⟩, _, ⟨a16, n16, m16⟩, _, e2, _, e16, s2, _, s16⟩ := hx.out.reads
  simp only at e2 e16 s2 s16
  have HAd := addF_and (g := g) (b := matchL (pLabs x.1) R) (q := atD x.2 key) (r := hT (R, key) x) (c := by_) (fun d => rfl)
  obtain ⟨W2, hW2⟩ : ∃ W, W = (w.alloc (.cells #[.slice b1 b2 b3, .string key, .map (some mb)] 104)).alloc (.cells cs.toArray 41) := ⟨_, rfl⟩
  have B2 : Below w.heap.size w W2 := by rw [hW2]; go_grown
  have q0 : BoxL W2 w.heap.size [.slice b1 b2 b3, .string key, .map (some mb)] := by rw [hW2]; exact (BoxL.new w 104 _).on ((Below.refl _ _).alloc (Nat.le_refl _) _)
  have q1 : BoxL W2 (w.heap.size + 1) cs := by have h1 := BoxL.new (w.alloc (.cells #[.slice b1 b2 b3, .string key, .map (some mb)] 104)) 41 cs; rw [hW2]; simpa using h1
  have HM := Match_sl a2 n2 m2 A (pLabs x.1) b1 b2 b3 A R W2 (s2.on RLabel.firm B2) (hr.out.on RReq.firm B2)
  have HQ : Hid (∀ u, Below W2.heap.size W2 u → BoxL u w.heap.size [.slice b1 b2 b3, .string key, .map (some mb)] ∧ BoxL u (w.heap.size + 1) cs ∧ CntAt u mb N g ∧ SlAt RLabel 2 32 A u a16 n16 m16 x.2 ∧ Below w.heap.size w u) := fun u hb => ⟨q0.on hb, q1.on hb, (hc.out.on B2).on hb, (s16.on RLabel.firm B2).on RLabel.firm hb, on2 B2 hb⟩
  have c0 := (q0.2 0 _ rfl).1
  have c2 := (q1.2 2 _ e2).1
  have HE : Hid (cs[16]? = some (.slice a16 n16 m16)) := e16
  clear hc hx hr s2 s16 q0 q1 B2 e2 e16
  generalize addF g (hT (R, key) x) by_ = g' at HAd ⊢
  have HA2 : Hid ((matchL (pLabs x.1) R = true → addF g (atD x.2 key) by_ = g') ∧ (matchL (pLabs x.1) R = false → ∀ d, g d = g' d)) := HAd
  clear HAd
  generalize matchL (pLabs x.1) R = t at HM HA2
  go_enter Tryz.func45, Tryz.ntmps45
  go_upto_region 1 with fail
  rw [← hW2]
  clear hW2
  go_wp2_with fail
  refine HM.mono ?_
  clear HM c0 c2
  rintro e w3 ⟨rfl, hb3⟩
  obtain ⟨k0, k1, k2, k3, k4⟩ := HQ.out w3 hb3
  cases t
  · have HC : Hid (CntAt w3 mb (N + 1) g' ∧ Below w.heap.size w w3) := ⟨(k2.mono (Nat.le_succ _)).as (HA2.out.2 rfl), k4⟩
    clear HQ HA2 k0 k1 k2 k3 k4 hb3
    go_wp2_with fail
    go_end0
    exact ⟨rfl, HC.out.1, Turns.below HC.out.2⟩
  · have HD := dcount_calls (w := w3) k2 hN a16 n16 m16 A x.2 key by_ k3 hk hby
    rw [HA2.out.1 rfl] at HD
    have z1 := (k0.2 1 _ rfl).1
    have z2 := (k0.2 2 _ rfl).1
    have z16 := (k1.2 16 _ HE.out).1
    have HB : Hid (Below w.heap.size w w3) := k4
    clear HQ HA2 k0 k1 k2 k3 k4 hb3 HE
    go_wp2_with fail
    refine HD.mono ?_
    rintro e w4 ⟨rfl, hc4, ht4⟩
    have HC4 : Hid (CntAt w4 mb (N + 1) g' ∧ Turns (fun b => b = mb) w w4) := ⟨hc4, (Turns.below HB.out).trans ht4⟩
    clear hc4 ht4 HD
    go_wp2_with fail
    go_end0
    exact ⟨rfl, HC4.out⟩
end Go.Proofs.YtfnafgmengefaaaGreatDoor
namespace Go.Proofs.YtfnafgmengefaaaGreatDoor
open Go.RowKit
set_option linter.unusedSimpArgs false

theorem range_new {u : World} {T : TypeId} {b o : Nat} {p c q : List Value} (hb : u.heap.size = b) (ho : p.length = o) : (u.alloc (.cells (p ++ (c ++ q)).toArray T)).rangeAt b o c := by
  subst hb ho
  intro j v hj
  have : (u.alloc (.cells (p ++ (c ++ q)).toArray T)).heap[u.heap.size]? = some (.cells (p ++ (c ++ q)).toArray T) := heap_new u _ _ rfl
  generalize u.alloc (.cells (p ++ (c ++ q)).toArray T) = u' at this ⊢
  have hl : j < c.length := (List.getElem?_eq_some_iff.1 hj).1
  simp only [World.cell?, this]
  rw [List.getElem?_toArray, List.getElem?_append_right (by omega), show p.length + j - p.length = j by omega, List.getElem?_append_left hl]
  exact hj
theorem range_all {u : World} {T : TypeId} {b : Nat} {c : List Value} (hb : u.heap.size = b) : (u.alloc (.cells c.toArray T)).rangeAt b 0 c := by
  have := range_new (u := u) (T := T) (p := []) (c := c) (q := []) hb rfl
  simpa using this
theorem there_new {u : World} {T : TypeId} {b n : Nat} {c : Array Value} (hb : u.heap.size = b) (hn : c.size = n) : (u.alloc (.cells c T)).there b 0 n := by
  subst hb hn
  intro j hj
  have : (u.alloc (.cells c T)).heap[u.heap.size]? = some (.cells c T) := heap_new u _ _ rfl
  generalize u.alloc (.cells c T) = u' at this ⊢
  simp [World.cell?, World.frozen?, this, hj]
theorem range_on {w w' : World} {B b o : Nat} {c : List Value} (h : w.rangeAt b o c) (hb : Below B w w') (hB : b < B) : w'.rangeAt b o c := fun j v hj => (hb.cell (p := ⟨b, o + j, none⟩) hB).trans (h j v hj)
theorem there_on {w w' : World} {B b o n : Nat} (h : w.there b o n) (hb : Below B w w') (hB : b < B) : w'.there b o n := fun j hj => by
  rw [hb.cell (p := ⟨b, o + j, none⟩) hB, hb.frozen (p := ⟨b, o + j, none⟩) hB]; exact h j hj
theorem below_setCells {B b : Nat} {a : World} : ∀ {vs : List Value} {o : Nat} {u : World}, Below B a u → B ≤ b → Below B a (u.setCells b o vs)
  | [], _, _, h, _ => h
  | v :: r, o, u, h, hb => by
    rw [World.setCells]
    exact below_setCells (h.setCell (p := ⟨b, o, none⟩) hb v) hb
theorem size_setCells {b : Nat} : ∀ {vs : List Value} {o : Nat} {u : World}, (u.setCells b o vs).heap.size = u.heap.size
  | [], _, _ => rfl
  | v :: r, o, u => by rw [World.setCells, size_setCells]; simp
theorem kept_setCells {A : Where} {b : Nat} (h : ¬ A b) : ∀ {vs : List Value} {o : Nat} {u : World}, Kept A u (u.setCells b o vs)
  | [], _, u => Kept.refl A u
  | v :: r, o, u => by
    rw [World.setCells]
    exact (Kept.set (p := ⟨b, o, none⟩) h v).trans (kept_setCells h)

/-- One result, a struct that lies in memory. -/
theorem res_cell {P : Program} {fn : Func} {p : Tmp} {ty : TypeId} (h : fn.results = #[.cell p ty]) (tmps : Array Value) (w : World) (b : Nat) (cs : List Value) (d : TypeDesc)
    (hp : tmps.getD p undef = .pointer (some ⟨b, 0, none⟩)) (hr : w.rangeAt b 0 cs) (hu : P.underlying ty = some d) (hd : d.isRow = true) (hi : (P.info? ty).map (·.size) = some cs.length) :
    (results fn tmps).run P w = .ok (.agg cs.toArray) w := by
  have hp' : tmps[p]?.getD undef = .pointer (some ⟨b, 0, none⟩) := by simpa using hp
  simp [results, h, hp', asAddr, run_loadVar_mid w b 0 ty cs d hr hu hd hi]
/-- Two results, the first a struct that lies in memory. -/
theorem res_cell2 {P : Program} {fn : Func} {p q : Tmp} {ty : TypeId} (h : fn.results = #[.cell p ty, .tmp q]) (tmps : Array Value) (w : World) (b : Nat) (cs : List Value) (d : TypeDesc) (y : Value)
    (hp : tmps.getD p undef = .pointer (some ⟨b, 0, none⟩)) (hq : tmps.getD q undef = y) (hr : w.rangeAt b 0 cs) (hu : P.underlying ty = some d) (hd : d.isRow = true) (hi : (P.info? ty).map (·.size) = some cs.length) :
    (results fn tmps).run P w = .ok (.tuple #[.agg cs.toArray, y]) w := by
  have hp' : tmps[p]?.getD undef = .pointer (some ⟨b, 0, none⟩) := by simpa using hp
  have hq' : tmps[q]?.getD undef = y := by simpa using hq
  simp [results, h, hp', hq', asAddr, run_loadVar_mid w b 0 ty cs d hr hu hd hi]
/-- Three results, the first a struct that lies in memory. -/
theorem res_cell3 {P : Program} {fn : Func} {p q r : Tmp} {ty : TypeId} (h : fn.results = #[.cell p ty, .tmp q, .tmp r]) (tmps : Array Value) (w : World) (b : Nat) (cs : List Value) (d : TypeDesc) (y z : Value)
    (hp : tmps.getD p undef = .pointer (some ⟨b, 0, none⟩)) (hq : tmps.getD q undef = y) (hz : tmps.getD r undef = z) (hr : w.rangeAt b 0 cs) (hu : P.underlying ty = some d) (hd : d.isRow = true) (hi : (P.info? ty).map (·.size) = some cs.length) :
    (results fn tmps).run P w = .ok (.tuple #[.agg cs.toArray, y, z]) w := by
  have hp' : tmps[p]?.getD undef = .pointer (some ⟨b, 0, none⟩) := by simpa using hp
  have hq' : tmps[q]?.getD undef = y := by simpa using hq
  have hz' : tmps[r]?.getD undef = z := by simpa using hz
  simp [results, h, hp', hq', hz', asAddr, run_loadVar_mid w b 0 ty cs d hr hu hd hi]
end Go.Proofs.YtfnafgmengefaaaGreatDoor
