/- Functions of the program, each walked under the conditions that its theorem names. -/
import Derived.Test.YtnffafjamiffnaaGreatQ15
import Derived.Test.YtnffafjamiffnaaGreatQ16
set_option linter.unusedSimpArgs false
set_option maxRecDepth 100000
set_option maxHeartbeats 32000000
namespace Go.Proofs.YtnffafjamiffnaaGreat
open Go.RowKit Go.Maps
def TlS (D : Nat) (nm : ByteArray) (l2 l10 l11 : Value) (u : World) : Prop := u.cell? ⟨D, 0, none⟩ = some (.string nm) /\ u.cell? ⟨D, 2, none⟩ = some l2 /\ u.cell? ⟨D, 10, none⟩ = some l10 /\ u.cell? ⟨D, 11, none⟩ = some l11
theorem zA9 {u : World} {p q : Addr} {v : Value} (h : q.block ≠ p.block) : (u.setCell p v).cell? q = u.cell? q := World.cell?_of_block (w := u) (Below.heap_setCell u p v q.block h)
theorem zEa (cs : List Value) (A : Where) (p : PodD) (w : World) (h : Hid (RPod A w cs p)) (hn : (pNear p).length < 1000000000) (hm : (pApart p).length < 1000000000) : Calls Tryz.prog 120 #[.agg cs.toArray] w fun e w' => ∃ ts T, e = .returned (.agg ts.toArray) /\ Tal0 (fun _ => True) w w' ts T p /\ Below w.heap.size w w' := by
 have hpo : Hid (RPod (fun b => b < w.heap.size) w cs p) := RPod.firm.weak h.out (fun b hb _ => hb)
 clear h
 obtain ⟨⟨a2, n2, m2⟩, ⟨a6, n6, m6⟩, ⟨a7, n7, m7⟩, ⟨a8, n8, m8⟩, ⟨a9, n9, m9⟩, ⟨a10, n10, m10⟩, ⟨a11, n11, m11⟩, ⟨a12, n12, m12⟩, ⟨a13, n13, m13⟩, rfl, p0, s2, _, _, _, _, s10, s11, _, _, _, _⟩ := hpo.out.out
 simp only at p0 s2 s10 s11 |-
 have P0 : Hid (p.1.size <= 140737488355328) := p0
 have S2 : Hid (SlAt RLabel 2 32 (fun b => b < w.heap.size) w a2 n2 m2 (pLabs p)) := s2
 have S10 : Hid (SlAt RTerm 2 40 (fun b => b < w.heap.size) w a10 n10 m10 (pNear p)) := s10
 have S11 : Hid (SlAt RTerm 2 40 (fun b => b < w.heap.size) w a11 n11 m11 (pApart p)) := s11
 have hn10 : n10 < 1000000000 := by have : (pNear p).length = n10 := s10.1; omega
 have hn11 : n11 < 1000000000 := by have : (pApart p).length = n11 := s11.1; omega
 clear hpo p0 s2 s10 s11 hn hm
 have hmm := @run_makeMap Tryz.prog
 obtain ⟨W0, hW0⟩ : ∃ W, W = (w.alloc (.cells #[.string p.1, .int .i64 p.2.1, .slice a2 n2 m2, .int .i64 p.2.2.2.1.1, .int .i64 p.2.2.2.1.2.1, .int .i64 p.2.2.2.1.2.2, .slice a6 n6 m6, .slice a7 n7 m7, .slice a8 n8 m8, .slice a9 n9 m9, .slice a10 n10 m10, .slice a11 n11 m11, .slice a12 n12 m12, .slice a13 n13 m13, .string p.2.2.2.2.2.2.2.2.2.2.2.2.1, .string p.2.2.2.2.2.2.2.2.2.2.2.2.2] 49)).alloc (.cells #[.string ⟨#[]⟩, .slice none 0 0, .slice none 0 0, .slice none 0 0, .map none] 216) := ⟨_, rfl⟩
 have B0 : Below w.heap.size w W0 := by rw [hW0]; go_grown
 have q0 : BoxL W0 w.heap.size [.string p.1, .int .i64 p.2.1, .slice a2 n2 m2, .int .i64 p.2.2.2.1.1, .int .i64 p.2.2.2.1.2.1, .int .i64 p.2.2.2.1.2.2, .slice a6 n6 m6, .slice a7 n7 m7, .slice a8 n8 m8, .slice a9 n9 m9, .slice a10 n10 m10, .slice a11 n11 m11, .slice a12 n12 m12, .slice a13 n13 m13, .string p.2.2.2.2.2.2.2.2.2.2.2.2.1, .string p.2.2.2.2.2.2.2.2.2.2.2.2.2] := by rw [hW0]; exact (BoxL.new w 49 [.string p.1, .int .i64 p.2.1, .slice a2 n2 m2, .int .i64 p.2.2.2.1.1, .int .i64 p.2.2.2.1.2.1, .int .i64 p.2.2.2.1.2.2, .slice a6 n6 m6, .slice a7 n7 m7, .slice a8 n8 m8, .slice a9 n9 m9, .slice a10 n10 m10, .slice a11 n11 m11, .slice a12 n12 m12, .slice a13 n13 m13, .string p.2.2.2.2.2.2.2.2.2.2.2.2.1, .string p.2.2.2.2.2.2.2.2.2.2.2.2.2]).on ((Below.refl _ _).alloc (Nat.le_refl _) _)
 have q1 : BoxL W0 (w.heap.size + 1) [.string ⟨#[]⟩, .slice none 0 0, .slice none 0 0, .slice none 0 0, .map none] := by have h1 := BoxL.new (w.alloc (.cells #[.string p.1, .int .i64 p.2.1, .slice a2 n2 m2, .int .i64 p.2.2.2.1.1, .int .i64 p.2.2.2.1.2.1, .int .i64 p.2.2.2.1.2.2, .slice a6 n6 m6, .slice a7 n7 m7, .slice a8 n8 m8, .slice a9 n9 m9, .slice a10 n10 m10, .slice a11 n11 m11, .slice a12 n12 m12, .slice a13 n13 m13, .string p.2.2.2.2.2.2.2.2.2.2.2.2.1, .string p.2.2.2.2.2.2.2.2.2.2.2.2.2] 49)) 216 [.string ⟨#[]⟩, .slice none 0 0, .slice none 0 0, .slice none 0 0, .map none]; rw [hW0]; simpa using h1
 have HS : Hid (∀ u, Below W0.heap.size W0 u -> TlS w.heap.size p.1 (.slice a2 n2 m2) (.slice a10 n10 m10) (.slice a11 n11 m11) u) := fun u hb => ⟨((q0.on hb).2 0 _ rfl).1, ((q0.on hb).2 2 _ rfl).1, ((q0.on hb).2 10 _ rfl).1, ((q0.on hb).2 11 _ rfl).1⟩
 have HQ : Hid (∀ u, Below W0.heap.size W0 u -> BoxL u (w.heap.size + 1) [.string ⟨#[]⟩, .slice none 0 0, .slice none 0 0, .slice none 0 0, .map none]) := fun u hb => q1.on hb
 have HB0 : Hid (Below w.heap.size w W0) := B0
 have HC1 : Hid (∀ u, Below w.heap.size w u -> Calls Tryz.prog 160 #[.slice a10 n10 m10] u fun e w' => ∃ a' c' M, e = .returned (.slice a' n10 c') /\ SlAt RWish 3 48 (fun b => b < w.heap.size \/ (Fresh u b /\ NotMap w' b)) w' a' n10 c' M /\ M.map Prod.fst = pNear p /\ Zeros u w' M /\ Below u.heap.size u w') := fun u hb => zBV a10 n10 m10 _ (pNear p) u (S10.out.on RTerm.firm hb) (fun b hb' => Nat.lt_of_lt_of_le hb' hb.size) hn10
 have HC2 : Hid (∀ u, Below w.heap.size w u -> Calls Tryz.prog 160 #[.slice a11 n11 m11] u fun e w' => ∃ a' c' M, e = .returned (.slice a' n11 c') /\ SlAt RWish 3 48 (fun b => b < w.heap.size \/ (Fresh u b /\ NotMap w' b)) w' a' n11 c' M /\ M.map Prod.fst = pApart p /\ Zeros u w' M /\ Below u.heap.size u w') := fun u hb => zBV a11 n11 m11 _ (pApart p) u (S11.out.on RTerm.firm hb) (fun b hb' => Nat.lt_of_lt_of_le hb' hb.size) hn11
 have hsz : Hid (W0.heap.size = w.heap.size + 1 + 1) := by rw [Hid, hW0]; simp
 clear S10 S11 hn10 hn11 q0 q1 B0
 go_enter Tryz.func120, Tryz.ntmps120
 go_upto_region 1 with fail
 rw [<- hW0]
 clear hW0
 refine t0 (TlS w.heap.size p.1 (.slice a2 n2 m2) (.slice a10 n10 m10) (.slice a11 n11 m11)) (HS.out _ (Below.refl _ _).drew) (fun gH => ?_)
 refine' tk 0 ?_ ?_; rotate_left
 ·intro u ⟨_, _, _, _⟩; go_simp; try with_reducible rfl
 try go_frame
 refine' tk 1 ?_ ?_; rotate_left
 ·intro u ⟨_, _, _, _⟩; go_simp; try with_reducible rfl
 try go_frame
 refine' tk 2 ?_ ?_; rotate_left
 ·intro u ⟨_, _, _, _⟩; go_simp; try with_reducible rfl
 try go_frame
 refine' tk 3 ?_ ?_; rotate_left
 ·intro u ⟨_, _, _, _⟩; go_simp; try with_reducible rfl
 try go_frame
 refine' tk 4 ?_ ?_; rotate_left
 ·intro u ⟨_, _, _, _⟩; go_simp; try with_reducible rfl
 try go_frame
 refine' tk 5 ?_ ?_; rotate_left
 ·intro u ⟨_, _, _, _⟩; go_simp; try with_reducible rfl
 try go_frame
 refine' tk 7 ?_ ?_; rotate_left
 ·intro u ⟨_, _, _, _⟩; go_simp; try with_reducible rfl
 try go_frame
 refine' tk 8 ?_ ?_; rotate_left
 ·intro u ⟨_, _, _, _⟩; go_simp; try with_reducible rfl
 try go_frame
 have hBd : Below W0.heap.size W0 W0.drew := (Below.refl _ _).drew
 have hBW0 : Below W0.heap.size W0 W0.drew := (Below.refl _ _).drew
 refine tb 6 10 (fun K hK => ?_) (fun K hK => ?_)
 ·
  go_simp
  refine (HC1.out _ (on2 HB0.out hBd)).mono ?_
  rintro e v1 ⟨a1', c1', M1, rfl, hs1, he1, hz1, hb1⟩
  have hBv1 := on2 hBd hb1
  go_wp2_with fail
  refine hK.out _ _ (HS.out _ hBv1) (fun gI => ?_)
  clear hK K gH; have gH := gI; clear gI
  try go_frame
  refine tb 9 10 (fun K hK => ?_) (fun K hK => ?_)
  ·
   go_simp
   refine (HC2.out _ (on2 HB0.out hBv1)).mono ?_
   rintro e v2 ⟨a2', c2', M2, rfl, hs2, he2, hz2, hb2⟩
   have hBv2 := on2 hBv1 hb2
   go_wp2_with fail
   refine hK.out _ _ (HS.out _ hBv2) (fun gI => ?_)
   clear hK K gH; have gH := gI; clear gI
   try go_frame
   refine tr 10 (fun K hK => ?_)
   go_simp
   have hBv3 : Below W0.heap.size W0 ((v2).alloc (.map #[] 0)) := hBv2.alloc (hBv2).size _
   refine hK.out _ _ (HS.out _ hBv3) (fun gI => ?_)
   clear hK K gH; have gH := gI; clear gI
   try go_frame
   have HT : Hid (Tal0 (fun b => b ≠ w.heap.size + 1) w (v2.alloc (.map #[] 0)) [.string p.1, .slice a2 n2 m2, .slice a1' n10 c1', .slice a2' n11 c2', .map (some (v2).heap.size)] (p.1, pLabs p, M1, M2, (v2).heap.size) p) := by
    have hz := hsz.out; have k1 := hb1.size; have k2 := hb2.size; have kd : W0.drew.heap.size = W0.heap.size := rfl; (try simp only [World.size_alloc] at k1 k2)
    exact zGI (u1 := W0.drew) (u2 := v1) (w1' := v1) (w2' := v2) (on2 HB0.out hBv3) P0.out S2.out hs1 he1 hz1 (on2 hb2 ((Below.refl _ _).alloc (Nat.le_refl _) _)) (by (try simp only [World.size_alloc]); omega) (by omega) hs2 he2 hz2 ((Below.refl _ _).alloc (Nat.le_refl _) _) (Nat.le_refl _) (CntAt.made v2) (by (try simp only [World.size_alloc]); omega) (fun b h1 h2 => by (try simp only [World.size_alloc] at h1 |-); omega) (fun b h1 h2 => by (try simp only [World.size_alloc] at h1 |-); omega) _ (fun b h1 => by omega) (fun b h1 => by (try simp only [World.size_alloc] at h1); omega) (fun b h1 => by (try simp only [World.size_alloc] at h1); omega)
   obtain ⟨U, hU⟩ : ∃ U, U = (v2.alloc (.map #[] 0)) := ⟨_, rfl⟩
   have hq := HQ.out _ hBv3
   have hBU := hBv3
   rw [<- hU] at HT hq hBU
   generalize hmo : (v2).heap.size = mo at HT
   refine' tk 11 ?_ ?_; rotate_left
   ·intro u ⟨_, _, _, _⟩; go_simp; try with_reducible rfl
   try go_frame
   refine ts 12 (fun K hK => ?_)
   obtain ⟨c0, f0⟩ := hq.2 0 _ rfl
   obtain ⟨c1, f1⟩ := hq.2 1 _ rfl
   obtain ⟨c2, f2⟩ := hq.2 2 _ rfl
   obtain ⟨c3, f3⟩ := hq.2 3 _ rfl
   obtain ⟨c4, f4⟩ := hq.2 4 _ rfl
   rw [<- hU]
   clear hU HC1 HC2
   simp only [hmo]
   go_simp
   have hnm := hq.notMap
   have HT5 := ((((HT.out.set (q := ⟨w.heap.size + 1, 0, none⟩) hnm (fun h => h rfl) (.string p.1)).set (q := ⟨w.heap.size + 1, 1, none⟩) ((hq.set 0 (.string p.1) (by simp)).notMap) (fun h => h rfl) (.slice a2 n2 m2)).set (q := ⟨w.heap.size + 1, 2, none⟩) (((hq.set 0 (.string p.1) (by simp)).set 1 (.slice a2 n2 m2) (by simp)).notMap) (fun h => h rfl) (.slice a1' n10 c1')).set (q := ⟨w.heap.size + 1, 3, none⟩) ((((hq.set 0 (.string p.1) (by simp)).set 1 (.slice a2 n2 m2) (by simp)).set 2 (.slice a1' n10 c1') (by simp)).notMap) (fun h => h rfl) (.slice a2' n11 c2')).set (q := ⟨w.heap.size + 1, 4, none⟩) (((((hq.set 0 (.string p.1) (by simp)).set 1 (.slice a2 n2 m2) (by simp)).set 2 (.slice a1' n10 c1') (by simp)).set 3 (.slice a2' n11 c2') (by simp)).notMap) (fun h => h rfl) (.map (some mo))
   have hq5 := ((((hq.set 0 (.string p.1) (by simp)).set 1 (.slice a2 n2 m2) (by simp)).set 2 (.slice a1' n10 c1') (by simp)).set 3 (.slice a2' n11 c2') (by simp)).set 4 (.map (some mo)) (by simp)
   have hBwU := on2 HB0.out hBU
   have HB5 := ((((hBwU.setCell (p := ⟨w.heap.size + 1, 0, none⟩) (Nat.le_succ _) (.string p.1)).setCell (p := ⟨w.heap.size + 1, 1, none⟩) (Nat.le_succ _) (.slice a2 n2 m2)).setCell (p := ⟨w.heap.size + 1, 2, none⟩) (Nat.le_succ _) (.slice a1' n10 c1')).setCell (p := ⟨w.heap.size + 1, 3, none⟩) (Nat.le_succ _) (.slice a2' n11 c2')).setCell (p := ⟨w.heap.size + 1, 4, none⟩) (Nat.le_succ _) (.map (some mo))
   have HS5 : ∀ j, ((((((U.setCell ⟨w.heap.size + 1, 0, none⟩ (.string p.1)).setCell ⟨w.heap.size + 1, 1, none⟩ (.slice a2 n2 m2)).setCell ⟨w.heap.size + 1, 2, none⟩ (.slice a1' n10 c1')).setCell ⟨w.heap.size + 1, 3, none⟩ (.slice a2' n11 c2')).setCell ⟨w.heap.size + 1, 4, none⟩ (.map (some mo))).cell? ⟨w.heap.size, j, none⟩) = U.cell? ⟨w.heap.size, j, none⟩ := fun j => (((((zA9 (by simp)).trans (zA9 (by simp))).trans (zA9 (by simp))).trans (zA9 (by simp))).trans (zA9 (by simp)))
   obtain ⟨V, hV⟩ : ∃ V, V = ((((U.setCell ⟨w.heap.size + 1, 0, none⟩ (.string p.1)).setCell ⟨w.heap.size + 1, 1, none⟩ (.slice a2 n2 m2)).setCell ⟨w.heap.size + 1, 2, none⟩ (.slice a1' n10 c1')).setCell ⟨w.heap.size + 1, 3, none⟩ (.slice a2' n11 c2')).setCell ⟨w.heap.size + 1, 4, none⟩ (.map (some mo)) := ⟨_, rfl⟩
   rw [<- hV] at HT5 hq5 HB5 HS5 |-
   obtain ⟨t0, t1, t2, t3⟩ := HS.out _ hBU
   refine hK.out undef _ ⟨(HS5 0).trans t0, (HS5 2).trans t1, (HS5 10).trans t2, (HS5 11).trans t3⟩ (fun _ => ?_)
   clear hV HS5 t0 t1 t2 t3 hBwU hK K gH c0 c1 c2 c3 c4 f0 f1 f2 f3 f4 hmo
   refine tz ?_
   have z0 := (hq5.2 0 (.string p.1) rfl).1
   have z1 := (hq5.2 1 (.slice a2 n2 m2) rfl).1
   have z2 := (hq5.2 2 (.slice a1' n10 c1') rfl).1
   have z3 := (hq5.2 3 (.slice a2' n11 c2') rfl).1
   have z4 := (hq5.2 4 (.map (some mo)) rfl).1
   go_wp2_with fail
   refine bodyPost_ret (v := .agg #[.string p.1, .slice a2 n2 m2, .slice a1' n10 c1', .slice a2' n11 c2', .map (some mo)]) (by simp [results, Tryz.results120, go_sem, z0, z1, z2, z3, z4, Result.andThen]) rfl ⟨_, _, rfl, HT5.any, HB5⟩
  ·
   go_simp
   have hBv3 : Below W0.heap.size W0 ((v1).alloc (.map #[] 0)) := hBv1.alloc (hBv1).size _
   refine hK.out _ _ (HS.out _ hBv3) (fun gI => ?_)
   clear hK K gH; have gH := gI; clear gI
   try go_frame
   refine tr 9 (fun K hK => ?_)
   go_simp
   refine (HC2.out _ (on2 HB0.out hBv3)).mono ?_
   rintro e v2 ⟨a2', c2', M2, rfl, hs2, he2, hz2, hb2⟩
   have hBv2 := on2 hBv3 hb2
   go_wp2_with fail
   refine hK.out _ _ (HS.out _ hBv2) (fun gI => ?_)
   clear hK K gH; have gH := gI; clear gI
   try go_frame
   have HT : Hid (Tal0 (fun b => b ≠ w.heap.size + 1) w v2 [.string p.1, .slice a2 n2 m2, .slice a1' n10 c1', .slice a2' n11 c2', .map (some (v1).heap.size)] (p.1, pLabs p, M1, M2, (v1).heap.size) p) := by
    have hz := hsz.out; have k1 := hb1.size; have k2 := hb2.size; have kd : W0.drew.heap.size = W0.heap.size := rfl; (try simp only [World.size_alloc] at k1 k2)
    exact zGI (u1 := W0.drew) (u2 := (v1.alloc (.map #[] 0))) (w1' := v1) (w2' := v2) (on2 HB0.out hBv2) P0.out S2.out hs1 he1 hz1 (on2 ((Below.refl _ _).alloc (Nat.le_refl _) _) hb2) (by (try simp only [World.size_alloc]); omega) (by omega) hs2 he2 hz2 (Below.refl _ _) (by simp) ((CntAt.made v1).on hb2) (by (try simp only [World.size_alloc]); omega) (fun b h1 h2 => by (try simp only [World.size_alloc] at h1 |-); omega) (fun b h1 h2 => by (try simp only [World.size_alloc] at h1 |-); omega) _ (fun b h1 => by omega) (fun b h1 => by (try simp only [World.size_alloc] at h1); omega) (fun b h1 => by (try simp only [World.size_alloc] at h1); omega)
   obtain ⟨U, hU⟩ : ∃ U, U = v2 := ⟨_, rfl⟩
   have hq := HQ.out _ hBv2
   have hBU := hBv2
   rw [<- hU] at HT hq hBU
   generalize hmo : (v1).heap.size = mo at HT
   refine' tk 11 ?_ ?_; rotate_left
   ·intro u ⟨_, _, _, _⟩; go_simp; try with_reducible rfl
   try go_frame
   refine ts 12 (fun K hK => ?_)
   obtain ⟨c0, f0⟩ := hq.2 0 _ rfl
   obtain ⟨c1, f1⟩ := hq.2 1 _ rfl
   obtain ⟨c2, f2⟩ := hq.2 2 _ rfl
   obtain ⟨c3, f3⟩ := hq.2 3 _ rfl
   obtain ⟨c4, f4⟩ := hq.2 4 _ rfl
   rw [<- hU]
   clear hU HC1 HC2
   simp only [hmo]
   go_simp
   have hnm := hq.notMap
   have HT5 := ((((HT.out.set (q := ⟨w.heap.size + 1, 0, none⟩) hnm (fun h => h rfl) (.string p.1)).set (q := ⟨w.heap.size + 1, 1, none⟩) ((hq.set 0 (.string p.1) (by simp)).notMap) (fun h => h rfl) (.slice a2 n2 m2)).set (q := ⟨w.heap.size + 1, 2, none⟩) (((hq.set 0 (.string p.1) (by simp)).set 1 (.slice a2 n2 m2) (by simp)).notMap) (fun h => h rfl) (.slice a1' n10 c1')).set (q := ⟨w.heap.size + 1, 3, none⟩) ((((hq.set 0 (.string p.1) (by simp)).set 1 (.slice a2 n2 m2) (by simp)).set 2 (.slice a1' n10 c1') (by simp)).notMap) (fun h => h rfl) (.slice a2' n11 c2')).set (q := ⟨w.heap.size + 1, 4, none⟩) (((((hq.set 0 (.string p.1) (by simp)).set 1 (.slice a2 n2 m2) (by simp)).set 2 (.slice a1' n10 c1') (by simp)).set 3 (.slice a2' n11 c2') (by simp)).notMap) (fun h => h rfl) (.map (some mo))
   have hq5 := ((((hq.set 0 (.string p.1) (by simp)).set 1 (.slice a2 n2 m2) (by simp)).set 2 (.slice a1' n10 c1') (by simp)).set 3 (.slice a2' n11 c2') (by simp)).set 4 (.map (some mo)) (by simp)
   have hBwU := on2 HB0.out hBU
   have HB5 := ((((hBwU.setCell (p := ⟨w.heap.size + 1, 0, none⟩) (Nat.le_succ _) (.string p.1)).setCell (p := ⟨w.heap.size + 1, 1, none⟩) (Nat.le_succ _) (.slice a2 n2 m2)).setCell (p := ⟨w.heap.size + 1, 2, none⟩) (Nat.le_succ _) (.slice a1' n10 c1')).setCell (p := ⟨w.heap.size + 1, 3, none⟩) (Nat.le_succ _) (.slice a2' n11 c2')).setCell (p := ⟨w.heap.size + 1, 4, none⟩) (Nat.le_succ _) (.map (some mo))
   have HS5 : ∀ j, ((((((U.setCell ⟨w.heap.size + 1, 0, none⟩ (.string p.1)).setCell ⟨w.heap.size + 1, 1, none⟩ (.slice a2 n2 m2)).setCell ⟨w.heap.size + 1, 2, none⟩ (.slice a1' n10 c1')).setCell ⟨w.heap.size + 1, 3, none⟩ (.slice a2' n11 c2')).setCell ⟨w.heap.size + 1, 4, none⟩ (.map (some mo))).cell? ⟨w.heap.size, j, none⟩) = U.cell? ⟨w.heap.size, j, none⟩ := fun j => (((((zA9 (by simp)).trans (zA9 (by simp))).trans (zA9 (by simp))).trans (zA9 (by simp))).trans (zA9 (by simp)))
   obtain ⟨V, hV⟩ : ∃ V, V = ((((U.setCell ⟨w.heap.size + 1, 0, none⟩ (.string p.1)).setCell ⟨w.heap.size + 1, 1, none⟩ (.slice a2 n2 m2)).setCell ⟨w.heap.size + 1, 2, none⟩ (.slice a1' n10 c1')).setCell ⟨w.heap.size + 1, 3, none⟩ (.slice a2' n11 c2')).setCell ⟨w.heap.size + 1, 4, none⟩ (.map (some mo)) := ⟨_, rfl⟩
   rw [<- hV] at HT5 hq5 HB5 HS5 |-
   obtain ⟨t0, t1, t2, t3⟩ := HS.out _ hBU
   refine hK.out undef _ ⟨(HS5 0).trans t0, (HS5 2).trans t1, (HS5 10).trans t2, (HS5 11).trans t3⟩ (fun _ => ?_)
   clear hV HS5 t0 t1 t2 t3 hBwU hK K gH c0 c1 c2 c3 c4 f0 f1 f2 f3 f4 hmo
   refine tz ?_
   have z0 := (hq5.2 0 (.string p.1) rfl).1
   have z1 := (hq5.2 1 (.slice a2 n2 m2) rfl).1
   have z2 := (hq5.2 2 (.slice a1' n10 c1') rfl).1
   have z3 := (hq5.2 3 (.slice a2' n11 c2') rfl).1
   have z4 := (hq5.2 4 (.map (some mo)) rfl).1
   go_wp2_with fail
   refine bodyPost_ret (v := .agg #[.string p.1, .slice a2 n2 m2, .slice a1' n10 c1', .slice a2' n11 c2', .map (some mo)]) (by simp [results, Tryz.results120, go_sem, z0, z1, z2, z3, z4, Result.andThen]) rfl ⟨_, _, rfl, HT5.any, HB5⟩
 ·
  go_simp
  have hBv3 : Below W0.heap.size W0 ((W0.drew).alloc (.map #[] 0)) := hBd.alloc (hBd).size _
  refine hK.out _ _ (HS.out _ hBv3) (fun gI => ?_)
  clear hK K gH; have gH := gI; clear gI
  try go_frame
  refine tr 6 (fun K hK => ?_)
  go_simp
  refine (HC1.out _ (on2 HB0.out hBv3)).mono ?_
  rintro e v1 ⟨a1', c1', M1, rfl, hs1, he1, hz1, hb1⟩
  have hBv1 := on2 hBv3 hb1
  go_wp2_with fail
  refine hK.out _ _ (HS.out _ hBv1) (fun gI => ?_)
  clear hK K gH; have gH := gI; clear gI
  try go_frame
  refine tr 9 (fun K hK => ?_)
  go_simp
  refine (HC2.out _ (on2 HB0.out hBv1)).mono ?_
  rintro e v2 ⟨a2', c2', M2, rfl, hs2, he2, hz2, hb2⟩
  have hBv2 := on2 hBv1 hb2
  go_wp2_with fail
  refine hK.out _ _ (HS.out _ hBv2) (fun gI => ?_)
  clear hK K gH; have gH := gI; clear gI
  try go_frame
  have HT : Hid (Tal0 (fun b => b ≠ w.heap.size + 1) w v2 [.string p.1, .slice a2 n2 m2, .slice a1' n10 c1', .slice a2' n11 c2', .map (some (W0).heap.size)] (p.1, pLabs p, M1, M2, (W0).heap.size) p) := by
   have hz := hsz.out; have k1 := hb1.size; have k2 := hb2.size; have kd : W0.drew.heap.size = W0.heap.size := rfl; (try simp only [World.size_alloc] at k1 k2)
   exact zGI (u1 := (W0.drew.alloc (.map #[] 0))) (u2 := v1) (w1' := v1) (w2' := v2) (on2 HB0.out hBv2) P0.out S2.out hs1 he1 hz1 (hb2) (by (try simp only [World.size_alloc]); omega) (by omega) hs2 he2 hz2 (Below.refl _ _) (Nat.le_refl _) (((CntAt.made W0.drew).on hb1).on hb2) (by (try simp only [World.size_alloc]); omega) (fun b h1 h2 => by (try simp only [World.size_alloc] at h1 |-); omega) (fun b h1 h2 => by (try simp only [World.size_alloc] at h1 |-); omega) _ (fun b h1 => by omega) (fun b h1 => by (try simp only [World.size_alloc] at h1); omega) (fun b h1 => by (try simp only [World.size_alloc] at h1); omega)
  obtain ⟨U, hU⟩ : ∃ U, U = v2 := ⟨_, rfl⟩
  have hq := HQ.out _ hBv2
  have hBU := hBv2
  rw [<- hU] at HT hq hBU
  generalize hmo : (W0).heap.size = mo at HT
  refine' tk 11 ?_ ?_; rotate_left
  ·intro u ⟨_, _, _, _⟩; go_simp; try with_reducible rfl
  try go_frame
  refine ts 12 (fun K hK => ?_)
  obtain ⟨c0, f0⟩ := hq.2 0 _ rfl
  obtain ⟨c1, f1⟩ := hq.2 1 _ rfl
  obtain ⟨c2, f2⟩ := hq.2 2 _ rfl
  obtain ⟨c3, f3⟩ := hq.2 3 _ rfl
  obtain ⟨c4, f4⟩ := hq.2 4 _ rfl
  rw [<- hU]
  clear hU HC1 HC2
  simp only [hmo]
  go_simp
  have hnm := hq.notMap
  have HT5 := ((((HT.out.set (q := ⟨w.heap.size + 1, 0, none⟩) hnm (fun h => h rfl) (.string p.1)).set (q := ⟨w.heap.size + 1, 1, none⟩) ((hq.set 0 (.string p.1) (by simp)).notMap) (fun h => h rfl) (.slice a2 n2 m2)).set (q := ⟨w.heap.size + 1, 2, none⟩) (((hq.set 0 (.string p.1) (by simp)).set 1 (.slice a2 n2 m2) (by simp)).notMap) (fun h => h rfl) (.slice a1' n10 c1')).set (q := ⟨w.heap.size + 1, 3, none⟩) ((((hq.set 0 (.string p.1) (by simp)).set 1 (.slice a2 n2 m2) (by simp)).set 2 (.slice a1' n10 c1') (by simp)).notMap) (fun h => h rfl) (.slice a2' n11 c2')).set (q := ⟨w.heap.size + 1, 4, none⟩) (((((hq.set 0 (.string p.1) (by simp)).set 1 (.slice a2 n2 m2) (by simp)).set 2 (.slice a1' n10 c1') (by simp)).set 3 (.slice a2' n11 c2') (by simp)).notMap) (fun h => h rfl) (.map (some mo))
  have hq5 := ((((hq.set 0 (.string p.1) (by simp)).set 1 (.slice a2 n2 m2) (by simp)).set 2 (.slice a1' n10 c1') (by simp)).set 3 (.slice a2' n11 c2') (by simp)).set 4 (.map (some mo)) (by simp)
  have hBwU := on2 HB0.out hBU
  have HB5 := ((((hBwU.setCell (p := ⟨w.heap.size + 1, 0, none⟩) (Nat.le_succ _) (.string p.1)).setCell (p := ⟨w.heap.size + 1, 1, none⟩) (Nat.le_succ _) (.slice a2 n2 m2)).setCell (p := ⟨w.heap.size + 1, 2, none⟩) (Nat.le_succ _) (.slice a1' n10 c1')).setCell (p := ⟨w.heap.size + 1, 3, none⟩) (Nat.le_succ _) (.slice a2' n11 c2')).setCell (p := ⟨w.heap.size + 1, 4, none⟩) (Nat.le_succ _) (.map (some mo))
  have HS5 : ∀ j, ((((((U.setCell ⟨w.heap.size + 1, 0, none⟩ (.string p.1)).setCell ⟨w.heap.size + 1, 1, none⟩ (.slice a2 n2 m2)).setCell ⟨w.heap.size + 1, 2, none⟩ (.slice a1' n10 c1')).setCell ⟨w.heap.size + 1, 3, none⟩ (.slice a2' n11 c2')).setCell ⟨w.heap.size + 1, 4, none⟩ (.map (some mo))).cell? ⟨w.heap.size, j, none⟩) = U.cell? ⟨w.heap.size, j, none⟩ := fun j => (((((zA9 (by simp)).trans (zA9 (by simp))).trans (zA9 (by simp))).trans (zA9 (by simp))).trans (zA9 (by simp)))
  obtain ⟨V, hV⟩ : ∃ V, V = ((((U.setCell ⟨w.heap.size + 1, 0, none⟩ (.string p.1)).setCell ⟨w.heap.size + 1, 1, none⟩ (.slice a2 n2 m2)).setCell ⟨w.heap.size + 1, 2, none⟩ (.slice a1' n10 c1')).setCell ⟨w.heap.size + 1, 3, none⟩ (.slice a2' n11 c2')).setCell ⟨w.heap.size + 1, 4, none⟩ (.map (some mo)) := ⟨_, rfl⟩
  rw [<- hV] at HT5 hq5 HB5 HS5 |-
  obtain ⟨t0, t1, t2, t3⟩ := HS.out _ hBU
  refine hK.out undef _ ⟨(HS5 0).trans t0, (HS5 2).trans t1, (HS5 10).trans t2, (HS5 11).trans t3⟩ (fun _ => ?_)
  clear hV HS5 t0 t1 t2 t3 hBwU hK K gH c0 c1 c2 c3 c4 f0 f1 f2 f3 f4 hmo
  refine tz ?_
  have z0 := (hq5.2 0 (.string p.1) rfl).1
  have z1 := (hq5.2 1 (.slice a2 n2 m2) rfl).1
  have z2 := (hq5.2 2 (.slice a1' n10 c1') rfl).1
  have z3 := (hq5.2 3 (.slice a2' n11 c2') rfl).1
  have z4 := (hq5.2 4 (.map (some mo)) rfl).1
  go_wp2_with fail
  refine bodyPost_ret (v := .agg #[.string p.1, .slice a2 n2 m2, .slice a1' n10 c1', .slice a2' n11 c2', .map (some mo)]) (by simp [results, Tryz.results120, go_sem, z0, z1, z2, z3, z4, Result.andThen]) rfl ⟨_, _, rfl, HT5.any, HB5⟩
theorem Get_sl9 (a : Option Addr) (n cap : Nat) (A : Where) (L : List Lab) (key : ByteArray) (w : World) (hL : Hid (SlAt RLabel 2 32 A w a n cap L)) : Calls Tryz.prog 169 #[.slice a n cap, .string key] w fun e w' => e = .returned (.tuple #[.string (getL L key).1, .bool (getL L key).2]) /\ Below w.heap.size w w' := by
 have h := zAU a cap L key w (zDy hL.out)
 rw [hL.out.1] at h
 exact h
abbrev cenV (s : SpreadD) (r1 : Option Addr) (r2 r3 m1 m2 : Nat) : List Value := [.string s.1, .int .i64 s.2.1, .int .i64 s.2.2.1, .slice r1 r2 r3, .map (some m1), .map (some m2)]
theorem zCm (s : SpreadD) (r1 : Option Addr) (r2 r3 m1 m2 mb n : Nat) (f : ByteArray -> Nat) (q : ByteArray -> Bool) (a : Option Addr) (ln cap : Nat) (A : Where) (L : List Lab) (w : World) (hm : Hid (MpAt w mb n f q)) (hn : n < 140737488355328) (hL : Hid (SlAt RLabel 2 32 A w a ln cap L)) :
  Calls Tryz.prog 167 #[.agg #[.string s.1, .int .i64 s.2.1, .int .i64 s.2.2.1, .slice r1 r2 r3, .map (some m1), .map (some m2)], .map (some mb), .slice a ln cap] w fun e w' => e = .returned (.tuple #[]) /\ MpAt w' mb (n + 1) (ctF f (getL L s.1)) (ctQ q (getL L s.1)) /\ Turns (fun b => b = mb) w w' := by
 obtain ⟨W1, hW1⟩ : ∃ W, W = w.alloc (.cells #[.string s.1, .int .i64 s.2.1, .int .i64 s.2.2.1, .slice r1 r2 r3, .map (some m1), .map (some m2)] 221) := ⟨_, rfl⟩
 have B1 : Below w.heap.size w W1 := by rw [hW1]; go_grown
 have qx : BoxL W1 w.heap.size (cenV s r1 r2 r3 m1 m2) := by rw [hW1]; exact BoxL.new w 221 _
 have c0 := (qx.2 0 _ rfl).1
 have hG := Get_sl9 a ln cap A L s.1 W1 (hL.out.on RLabel.firm B1)
 have hsz := zD3 hL.out s.1
 have HB : Hid (Below w.heap.size w W1) := B1
 clear hL qx B1
 generalize getL L s.1 = g at hG hsz
 obtain ⟨v, t⟩ := g
 simp only at hG hsz
 go_enter Tryz.func167, Tryz.ntmps167
 go_upto_region 1 with fail
 rw [<- hW1]
 clear hW1
 go_wp2_with fail
 refine hG.mono ?_
 clear hG c0
 rintro e w1 ⟨rfl, hb1⟩
 have HB1 : Hid (Below w.heap.size w w1) := on2 HB.out hb1
 clear HB hb1
 cases t
 ·have HC : Hid (MpAt w1 mb (n + 1) f q) := (hm.out.on HB1.out).mono (Nat.le_succ _)
  clear hm
  go_wp2_with fail
  go_end0
  exact ⟨rfl, HC.out, Turns.below HB1.out⟩
 ·have hcm := hm.out.on HB1.out
  have hlk := hcm.look 165 Tryz.underlying165 hsz
  have hle := hcm.le v
  obtain ⟨w', hup, hm', hg'⟩ := hcm.inc 165 Tryz.underlying165 hsz hn
  have HF : Hid (MpAt w' mb (n + 1) (upF f v) (upQ q v) /\ Turns (fun b => b = mb) w w') := ⟨hm', (Turns.below HB1.out).trans (Turns.grown hg' (fun b e => by simpa using e.symm))⟩
  clear hm hcm hm' hg'
  generalize f v = c at hlk hup hle
  go_wp2_with fail
  go_end0
  exact ⟨rfl, HF.out⟩
theorem zCV (s : SpreadD) (r1 : Option Addr) (r2 r3 m1 m2 : Nat) (A A' : Where) (cs : List Value) (p : PodD) (w : World) (hp : Hid (RPod A w cs p)) (hR : Hid (SlAt RReq 3 48 A' w r1 r2 r3 (sReqs s))) :
  Calls Tryz.prog 168 #[.agg #[.string s.1, .int .i64 s.2.1, .int .i64 s.2.2.1, .slice r1 r2 r3, .map (some m1), .map (some m2)], .agg cs.toArray] w fun e w' => e = .returned (.bool (matchL (pLabs p) (sReqs s))) /\ Below w.heap.size w w' := by
 obtain ⟨⟨h1, h2, h3⟩, e2, sl⟩ : ∃ h : Hd, cs[2]? = some (.slice h.1 h.2.1 h.2.2) /\ SlAt RLabel 2 32 A w h.1 h.2.1 h.2.2 (pLabs p) := by
  obtain ⟨h2, h6, h7, h8, h9, h10, h11, h12, h13, rfl, _, s2, _⟩ := hp.out.out
  exact ⟨h2, rfl, s2⟩
 simp only at e2 sl
 obtain ⟨W1, hW1⟩ : ∃ W, W = w.alloc (.cells #[.string s.1, .int .i64 s.2.1, .int .i64 s.2.2.1, .slice r1 r2 r3, .map (some m1), .map (some m2)] 221) := ⟨_, rfl⟩
 obtain ⟨W2, hW2⟩ : ∃ W, W = W1.alloc (.cells cs.toArray 49) := ⟨_, rfl⟩
 have B1 : Below w.heap.size w W1 := by rw [hW1]; go_grown
 have B2 : Below W1.heap.size W1 W2 := by rw [hW2]; go_grown
 have hz : W1.heap.size = w.heap.size + 1 := by rw [hW1]; simp
 have qx : BoxL W2 w.heap.size (cenV s r1 r2 r3 m1 m2) := by refine BoxL.on ?_ B2; rw [hW1]; exact BoxL.new w 221 _
 have qp : BoxL W2 W1.heap.size cs := by rw [hW2]; exact BoxL.new W1 49 _
 have c3 := (qx.2 3 _ rfl).1
 have p2 := (qp.2 2 _ e2).1
 rw [hz] at p2
 have hM := zB3 h1 h2 h3 A (pLabs p) r1 r2 r3 A' (sReqs s) W2 (sl.on RLabel.firm (on2 B1 B2)) (hR.out.on RReq.firm (on2 B1 B2))
 have HB : Hid (Below w.heap.size w W2) := on2 B1 B2
 clear hp hR sl e2 qx qp B1 B2
 generalize matchL (pLabs p) (sReqs s) = ans at hM
 go_enter Tryz.func168, Tryz.ntmps168
 go_upto_region 1 with fail
 rw [<- hW1, <- hW2]
 clear hW1 hW2
 go_wp2_with fail
 refine hM.mono ?_
 rintro e w1 ⟨rfl, hb1⟩
 have HB1 : Hid (Below w.heap.size w w1) := on2 HB.out hb1
 clear HB hb1 hM c3 p2
 go_wp2_with fail
 go_ret
 exact ⟨rfl, HB1.out⟩
def PredP (g : Nat) (lb : Array Value) (ig : PodD -> Bool) (w : World) : Prop :=
 ∀ (W : World) (cs : List Value) (x : PodD), Below w.heap.size w W -> RPod (fun _ => True) W cs x -> Calls Tryz.prog g (#[.agg cs.toArray] ++ lb) W fun e w' => e = .returned (.bool (ig x)) /\ Below W.heap.size W w'
theorem zHb (B : Nat) (ps : List Value) (p : PodD) (w : World) (q : Hid (BoxL w B ps)) (hp : Hid (RPod (fun _ => True) w ps p)) : PredP 123 #[.pointer (some ⟨B, 0, none⟩)] (fun x => sEq x.1 p.1) w := by
 intro W cs x hb hx
 have e0 : cs[0]? = some (.string x.1) := by
  obtain ⟨h2, h6, h7, h8, h9, h10, h11, h12, h13, rfl, _⟩ := hx.out
  rfl
 have f0 : ps[0]? = some (.string p.1) := by
  obtain ⟨h2, h6, h7, h8, h9, h10, h11, h12, h13, rfl, _⟩ := hp.out.out
  rfl
 obtain ⟨W1, hW1⟩ : ∃ W', W' = W.alloc (.cells cs.toArray 49) := ⟨_, rfl⟩
 have B1 : Below W.heap.size W W1 := by rw [hW1]; go_grown
 have c0 := ((show BoxL W1 W.heap.size cs by rw [hW1]; exact BoxL.new W 49 _).2 0 _ e0).1
 have d0 := (((q.out.on hb).on B1).2 0 _ f0).1
 have hS : (x.1.toList == p.1.toList) = sEq x.1 p.1 := rfl
 have HB : Hid (Below W.heap.size W W1) := B1
 clear hp q hx e0 f0 hb B1
 show Calls Tryz.prog 123 #[.agg cs.toArray, .pointer (some ⟨B, 0, none⟩)] W fun e w' => e = .returned (.bool (sEq x.1 p.1)) /\ Below W.heap.size W w'
 generalize sEq x.1 p.1 = ans at hS
 generalize x.1 = s1 at c0 hS
 generalize p.1 = s2 at d0 hS
 go_enter Tryz.func123, Tryz.ntmps123
 go_upto_region 1 with fail
 rw [<- hW1]
 clear hW1
 go_wp2_with fail
 go_ret
 exact ⟨by first | rfl | simp [hS], HB.out⟩
end Go.Proofs.YtnffafjamiffnaaGreat
