/- Functions of the program, each walked under the conditions that its theorem names. -/
import Derived.RangeFuncWrites
import Derived.Test.YtnffafjamiffnaaGreatQ31
import Derived.Test.YtnffafjamiffnaaGreatQ32
import Derived.Test.YtnffafjamiffnaaGreatQ22
import Derived.Test.YtnffafjamiffnaaGreatQ20
import Derived.Test.YtnffafjamiffnaaGreatQ33
set_option linter.unusedSimpArgs false
set_option maxRecDepth 100000
set_option maxHeartbeats 32000000
namespace Go.Proofs.YtnffafjamiffnaaGreat
open Go.RowKit Go.Maps
theorem asZ_at {l : List Nat} {k : Nat} (h : k < l.length) : (asZ l).getD k default = ((l.getD k default : Nat) : Int) := by
 unfold asZ
 rw [List.getD_eq_getElem?_getD, List.getElem?_map, List.getD_eq_getElem?_getD, List.getElem?_eq_getElem h]
 rfl
theorem minT_step (lt : Nat -> Nat -> Bool) (l : List Nat) {k : Nat} (h : 1 <= k) : minT lt l k = if lt (l.getD k default) (minT lt l (k - 1)) = true then l.getD k default else minT lt l (k - 1) := by
 obtain ⟨m, rfl⟩ : ∃ m, k = m + 1 := ⟨k - 1, by omega⟩
 rfl
theorem zEX (a : Option Addr) (n cap : Nat) (A : Where) (l : List Nat) (va : Option Addr) (vn vc bp : Nat) (A' : Where) (L : List VolumeD) (w : World) (hl : Hid (SlAt RInt 1 8 A w a n cap (asZ l))) (hL : Hid (SlAt RVolume 5 bp A' w va vn vc L)) (hin : Hid (∀ x ∈ l, x < vn)) (h0 : 0 < n) :
  Calls Tryz.prog 220 #[.slice a n cap, .func (.func 206) #[.slice va vn vc] #[]] w fun e w' => e = .returned (.int .i64 ((minT (ltAt L) l (n - 1) : Nat) : Int)) /\ Below w.heap.size w w' := by
 have hnl : Hid (l.length = n) := by have := hl.out.1; rw [List.length_map] at this; exact this
 have hlen := hl.out.len (by decide)
 have HC : Hid (∀ u, Below w.heap.size w u -> ∀ i j, i ∈ l -> j ∈ l -> Calls Tryz.prog 206 #[.slice va vn vc, .int .i64 (i : Int), .int .i64 (j : Int)] u fun e w' => e = .returned (.int .i64 (cmpZ (L.getD i default) (L.getD j default))) /\ Below u.heap.size u w') := fun u hb i j hi hj => zEL va vn vc bp A' L i j u (hL.out.on RVolume.firm hb) (hin.out i hi) (hin.out j hj)
 have HU : Hid (∀ u, Below w.heap.size w u -> SlAt RInt 1 8 A u a n cap (asZ l)) := fun u hb => hl.out.on RInt.firm hb
 have HM : Hid (∀ k, k < n -> l.getD k default ∈ l /\ minT (ltAt L) l k ∈ l) := fun k hk => ⟨zAh (by rw [hnl.out]; exact hk), zE2 (by rw [hnl.out]; exact hk)⟩
 have HA : Hid (∀ k, k < n -> (asZ l).getD k default = ((l.getD k default : Nat) : Int)) := fun k hk => asZ_at (by rw [hnl.out]; exact hk)
 obtain ⟨B, off, rfl, hB, _, ys, hr, hv⟩ := hl.out.get h0
 obtain rfl : ys = [.int .i64 ((asZ l).getD 0 default)] := hr
 have d0 := hv 0 _ rfl
 rw [HA.out 0 h0, Nat.mul_one, Nat.add_zero] at d0
 have h0z : ¬ ((n : Int) < 1) := by omega
 have h0y : (0 : Int) < (n : Int) := by omega
 have HI : Hid (minT (ltAt L) l (1 - 1) = l.getD 0 default) := rfl
 clear hl hL hin hv hB
 generalize l.getD 0 default = z0 at d0 HI
 have eg := enters_of Tryz.func206 (by kernel_rfl) rfl
 go_enter Tryz.func220, Tryz.ntmps220
 go_wp2_with fail
 clear d0
 go_loopw [5, 6] (fun m i wr => ∃ k : Nat, 1 <= k /\ k <= n /\ i = .int .i64 k /\ m = .int .i64 ((minT (ltAt L) l (k - 1) : Nat) : Int) /\ Hid (Below w.heap.size w wr)) (fun _ i _ => n - (intOf i).toNat)
 case atStart => exact ⟨1, Nat.le_refl _, h0, rfl, by rw [HI.out], Below.refl _ _⟩
 case round =>
  obtain ⟨k, hk1, hk, rfl, rfl, hbw⟩ := hrel
  by_cases hlt : k < n
  ·have hltz : (k : Int) < (n : Int) := by omega
   obtain ⟨B', off', e', hB, _, ys, hr, hv⟩ := (HU.out wr hbw.out).get hlt
   obtain ⟨rfl, rfl⟩ : B = B' /\ off = off' := by simpa using e'
   obtain rfl : ys = [.int .i64 ((asZ l).getD k default)] := hr
   have d0 := hv 0 _ rfl
   rw [HA.out k hlt, Nat.mul_one, Nat.add_zero] at d0
   have hC := HC.out wr hbw.out _ _ (HM.out k hlt).1 (HM.out (k - 1) (by omega)).2
   have HS : Hid (minT (ltAt L) l (k + 1 - 1) = if lessV (L.getD (l.getD k default) default) (L.getD (minT (ltAt L) l (k - 1)) default) = true then l.getD k default else minT (ltAt L) l (k - 1)) := minT_step (ltAt L) l hk1
   have hcl := cmpZ_less (L.getD (l.getD k default) default) (L.getD (minT (ltAt L) l (k - 1)) default)
   rw [Hid, <- hcl] at HS
   have HS2 : Hid (minT (ltAt L) l (k + 1 - 1) = if decide (cmpZ (L.getD (l.getD k default) default) (L.getD (minT (ltAt L) l (k - 1)) default) < 0) = true then l.getD k default else minT (ltAt L) l (k - 1)) := HS
   clear HS hcl hv e'
   generalize cmpZ (L.getD (l.getD k default) default) (L.getD (minT (ltAt L) l (k - 1)) default) = c at hC HS2
   generalize l.getD k default = x at d0 hC HS2
   generalize minT (ltAt L) l (k - 1) = y at hC HS2
   go_wp2_with fail
   refine hC.mono ?_
   rintro e w6 ⟨rfl, hb6⟩
   have HB6 : Hid (Below w.heap.size w w6) := on2 hbw.out hb6
   have d1 := (hb6.cell (p := ⟨B, off + k, none⟩) hB).trans d0
   clear hC hb6 d0 hB
   by_cases hcz : c < 0
   ·have HN : Hid (minT (ltAt L) l (k + 1 - 1) = x) := by have := HS2.out; rwa [if_pos (by simpa using hcz)] at this
    clear HS2
    go_wp2_with fail
    go_roundw
    case rel => exact ⟨k + 1, by omega, by omega, by go_num, by rw [HN.out], HB6⟩
    case measure => simp [intOf]; omega
   ·have HN : Hid (minT (ltAt L) l (k + 1 - 1) = y) := by have := HS2.out; rwa [if_neg (by simpa using hcz)] at this
    clear HS2
    go_wp2_with fail
    go_roundw
    case rel => exact ⟨k + 1, by omega, by omega, by go_num, by rw [HN.out], HB6⟩
    case measure => simp [intOf]; omega
  ·have hkn : k = n := by omega
   have HN : Hid (minT (ltAt L) l (k - 1) = minT (ltAt L) l (n - 1)) := by rw [Hid, hkn]
   clear hkn
   generalize minT (ltAt L) l (k - 1) = y at HN
   go_wp2_with fail
   go_ret
   exact ⟨by rw [<- HN.out]; rfl, hbw.out⟩
theorem zDI (a : Option Addr) (n cap : Nat) (A : Where) (l : List Nat) (va : Option Addr) (vn vc bp : Nat) (A' : Where) (L : List VolumeD) (w : World) (hl : Hid (SlAt RInt 1 8 A w a n cap (asZ l))) (hL : Hid (SlAt RVolume 5 bp A' w va vn vc L)) (hin : Hid (∀ x ∈ l, x < vn)) :
  Calls Tryz.prog 204 #[.slice a n cap, .func (.func 206) #[.slice va vn vc] #[]] w fun e w' => e = .returned (.tuple #[.int .i64 (if n = 0 then 0 else ((minT (ltAt L) l (n - 1) : Nat) : Int)), .bool (!decide (n = 0))]) /\ Below w.heap.size w w' := by
 have hlen := hl.out.len (by decide)
 by_cases h0 : n = 0
 ·subst h0
  clear hl hL hin
  go_enter Tryz.func204, Tryz.ntmps204
  go_wp2_with fail
  go_ret2
  exact ⟨rfl, Below.refl _ _⟩
 ·have hC := zEX a n cap A l va vn vc bp A' L w hl hL hin (by omega)
  have h0z : ¬ ((n : Int) = 0) := by omega
  clear hl hL hin
  rw [if_neg h0]
  generalize minT (ltAt L) l (n - 1) = y at hC
  have hd : decide (n = 0) = false := by simpa using h0
  rw [hd]
  go_enter Tryz.func204, Tryz.ntmps204
  go_wp2_with fail
  refine hC.mono ?_
  rintro e w6 ⟨rfl, hb6⟩
  clear hC
  go_wp2_with fail
  go_ret2
  exact ⟨rfl, hb6⟩
theorem zCc (a : Option Addr) (n cap : Nat) (A : Where) (l : List Nat) (va : Option Addr) (vn vc bp : Nat) (A' : Where) (L : List VolumeD) (w : World) (hl : Hid (SlAt RInt 1 8 A w a n cap (asZ l))) (hL : Hid (SlAt RVolume 5 bp A' w va vn vc L)) (hin : Hid (∀ x ∈ l, x < vn)) (z : Int) (b : Bool) (hz : Hid (z = if n = 0 then 0 else ((minT (ltAt L) l (n - 1) : Nat) : Int))) (hb : Hid (b = !decide (n = 0))) :
  Calls Tryz.prog 204 #[.slice a n cap, .func (.func 206) #[.slice va vn vc] #[]] w fun e w' => e = .returned (.tuple #[.int .i64 z, .bool b]) /\ Below w.heap.size w w' := by
 rw [hz.out, hb.out]
 exact zDI a n cap A l va vn vc bp A' L w hl hL hin
abbrev Z6 : List Value := [.slice none 0 0, .slice none 0 0, .slice none 0 0, .slice none 0 0, .slice none 0 0, .slice none 0 0]
def DnF (w : World) (n2 nV : Nat) (g0 g1 g2 g3 g4 g5 : Value) (X Y mc mv : Nat) : Prop :=
 (∀ g ∈ [g0, g1, g2, g3, g4, g5], ∀ b, g.ownBlock = some b -> w.heap.size + 4 <= b /\ b < n2) /\ (∀ b, g2.ownBlock = some b -> g0.ownBlock ≠ some b /\ g1.ownBlock ≠ some b /\ g3.ownBlock ≠ some b /\ g4.ownBlock ≠ some b /\ g5.ownBlock ≠ some b) /\ (∀ b, g3.ownBlock = some b -> g0.ownBlock ≠ some b /\ g1.ownBlock ≠ some b /\ g2.ownBlock ≠ some b /\ g4.ownBlock ≠ some b /\ g5.ownBlock ≠ some b) /\ w.heap.size + 4 <= n2 /\ (n2 <= X /\ X < nV) /\ (n2 <= Y /\ Y < nV) /\ (n2 <= mc /\ mc < nV) /\ (n2 <= mv /\ mv < nV)
def DnI (m : Where) (w : World) (g0 g1 g2 g3 g4 g5 : Value) (x : StateD) (X Y mc mv : Nat) (fd : Nat) (st : VC) (W : World) : Prop :=
 DnR m w W g2 g3 st /\ (Row RPod 16 m w W 49 g0 x.1 /\ Row RNode 9 m w W 54 g1 x.2.1 /\ Row RClass 2 m w W 99 g4 (sKs x) /\ Row RBudget 3 m w W 82 g5 x.2.2.2.2.2) /\
 (NmAt W mc (cNs st.2) /\ NmAt W mv (vNs st.1)) /\ (BoxL W X [g3, .map (some mc)] /\ BoxL W Y [g2, .map (some mv)]) /\ (BoxL W w.heap.size [g0, g1, g2, g3, g4, g5] /\ BoxL W (w.heap.size + 1) [.func (.func fd) #[] #[]]) /\ Below w.heap.size w W
def DnS (m : Where) (w u : World) (g0 g1 g2 g3 g4 g5 : Value) (x : StateD) (st : VC) : Prop :=
 DnR m w u g2 g3 st /\ (Row RPod 16 m w u 49 g0 x.1 /\ Row RNode 9 m w u 54 g1 x.2.1 /\ Row RClass 2 m w u 99 g4 (sKs x) /\ Row RBudget 3 m w u 82 g5 x.2.2.2.2.2) /\ Below w.heap.size w u
def DnB (w W : World) : Prop := BoxL W (w.heap.size + 1 + 1) Z6 /\ BoxL W (w.heap.size + 1 + 1 + 1) [.int .i64 0]
theorem BoxL.cells {u : World} {D : Nat} {c : Value} {cs : List Value} (h : BoxL u D (c :: cs)) {o : Obj} (ho : u.heap[D]? = some o) : o.isCells = true := by
 have h1 := (h.2 0 c rfl).1
 cases o <;> first | rfl | (exfalso; simp [World.cell?, ho] at h1)
section
variable {m : Where} {w W W' : World} {n2 nV : Nat} {g0 g1 g2 g3 g4 g5 : Value} {x : StateD} {X Y mc mv fd : Nat} {st : VC}
theorem DnF.lo (F : DnF w n2 nV g0 g1 g2 g3 g4 g5 X Y mc mv) (hm : ∀ b, m b -> b < w.heap.size) {g : Value} (hg : g ∈ [g0, g1, g2, g3, g4, g5]) {b : Nat} (hb : m b \/ g.ownBlock = some b) : b < nV := by
 have h4 := F.2.2.2.1; have hX := F.2.2.2.2.1
 rcases hb with hb | hb
 ·have := hm b hb; omega
 ·have := F.1 g hg b hb; omega
theorem DnI.kept (F : DnF w n2 nV g0 g1 g2 g3 g4 g5 X Y mc mv) (h : DnI m w g0 g1 g2 g3 g4 g5 x X Y mc mv fd st W) (hb : Below w.heap.size w W') (hk : Kept (fun b => b < nV) W W') : DnI m w g0 g1 g2 g3 g4 g5 x X Y mc mv fd st W' := by
 obtain ⟨⟨hV, hC, hne, hm⟩, ⟨r0, r1, r4, r5⟩, ⟨m1, m2⟩, ⟨z1, z2⟩, ⟨z3, z4⟩, hB⟩ := h
 have h4 := F.2.2.2.1
 have hX := F.2.2.2.2.1
 exact ⟨⟨hV.keptX RVolume.firm hb (hk.weak (fun b h => F.lo hm (by simp) h)), hC.keptX RClaim.firm hb (hk.weak (fun b h => F.lo hm (by simp) h)), hne, hm⟩,
  ⟨r0.keptX RPod.firm hb (hk.weak (fun b h => F.lo hm (by simp) h)), r1.keptX RNode.firm hb (hk.weak (fun b h => F.lo hm (by simp) h)), r4.keptX RClass.firm hb (hk.weak (fun b h => F.lo hm (by simp) h)), r5.keptX RBudget.firm hb (hk.weak (fun b h => F.lo hm (by simp) h))⟩,
  ⟨m1.kept hk F.2.2.2.2.2.2.1.2, m2.kept hk F.2.2.2.2.2.2.2.2⟩, ⟨z1.kept hk hX.2, z2.kept hk F.2.2.2.2.2.1.2⟩, ⟨z3.kept hk (by omega), z4.kept hk (by omega)⟩, hb⟩
theorem DnI.on (F : DnF w n2 nV g0 g1 g2 g3 g4 g5 X Y mc mv) (h : DnI m w g0 g1 g2 g3 g4 g5 x X Y mc mv fd st W) (hb : Below W.heap.size W W') : DnI m w g0 g1 g2 g3 g4 g5 x X Y mc mv fd st W' :=
 h.kept F (on2 h.2.2.2.2.2 hb) (Kept.below hb)
theorem DnB.kept (F : DnF w n2 nV g0 g1 g2 g3 g4 g5 X Y mc mv) (h : DnB w W) (hk : Kept (fun b => b < nV) W W') : DnB w W' := by
 have h4 := F.2.2.2.1
 have hX := F.2.2.2.2.1
 exact ⟨h.1.kept hk (by omega), h.2.kept hk (by omega)⟩
theorem DnB.on (h : DnB w W) (hb : Below W.heap.size W W') : DnB w W' := ⟨h.1.on hb, h.2.on hb⟩
theorem DnI.step (F : DnF w n2 nV g0 g1 g2 g3 g4 g5 X Y mc mv) (h : DnI m w g0 g1 g2 g3 g4 g5 x X Y mc mv fd st W) {c v : Nat} (hc : c < st.2.length) (hv : v < st.1.length) :
  ∃ Bc capc Bv capv cs vs A A', g3 = .slice (some ⟨Bc, 0, none⟩) st.2.length capc /\ g2 = .slice (some ⟨Bv, 0, none⟩) st.1.length capv /\
   RClaim A W cs (st.2.getD c default) /\ RVolume A' W vs (st.1.getD v default) /\ W.rangeAt Bc (c * 4) cs /\ W.rangeAt Bv (v * 5) vs /\ Bc < W.heap.size /\ Bv < W.heap.size /\ Bc ≠ Bv /\
   W.frozen? ⟨Bc, c * 4 + 3, none⟩ = false /\ W.frozen? ⟨Bv, v * 5 + 4, none⟩ = false /\ w.heap.size + 4 <= Bc /\ Bc < nV /\ w.heap.size + 4 <= Bv /\ Bv < nV /\
   ∀ z s s', Below W.heap.size W z -> s.size <= 140737488355328 -> s'.size <= 140737488355328 ->
    DnI m w g0 g1 g2 g3 g4 g5 x X Y mc mv fd (st.1.set v (setCl (st.1.getD v default) s'), st.2.set c (setVo (st.2.getD c default) s)) ((z.setCell ⟨Bc, c * 4 + 3, none⟩ (.string s)).setCell ⟨Bv, v * 5 + 4, none⟩ (.string s')) /\
    Kept (fun b => b ≠ Bc /\ b ≠ Bv) z ((z.setCell ⟨Bc, c * 4 + 3, none⟩ (.string s)).setCell ⟨Bv, v * 5 + 4, none⟩ (.string s')) := by
 have hm := h.1.2.2.2
 have hz2 : ∀ z, Below W.heap.size W z -> DnI m w g0 g1 g2 g3 g4 g5 x X Y mc mv fd st z := fun z hz => h.on F hz
 obtain ⟨hD, _, _, _, _, hB⟩ := h
 obtain ⟨Bc, capc, Bv, capv, cs, vs, A, A', rfl, rfl, q1, q2, q3, q4, q5, q6, q7, q8, q9, q10, q11, hS⟩ := hD.step hc hv
 have h4 := F.2.2.2.1
 have hX := F.2.2.2.2.1
 have hY := F.2.2.2.2.2.1
 have hmc := F.2.2.2.2.2.2.1
 have hmv := F.2.2.2.2.2.2.2
 have b3 := F.1 _ (by simp : Value.slice (some ⟨Bc, 0, none⟩) st.2.length capc ∈ _) Bc rfl
 have b2 := F.1 _ (by simp : Value.slice (some ⟨Bv, 0, none⟩) st.1.length capv ∈ _) Bv rfl
 have e2 := F.2.1 Bv rfl
 have e3 := F.2.2.1 Bc rfl
 refine ⟨Bc, capc, Bv, capv, cs, vs, A, A', rfl, rfl, q1, q2, q3, q4, q5, q6, q7, q8, q9, b3.1, by omega, b2.1, by omega, fun z s s' hz hs hs' => ?_⟩
 obtain ⟨t1, t2, t3⟩ := hS z s s' hz hs hs'
 obtain ⟨_, ⟨r0, r1, r4, r5⟩, ⟨m1, m2⟩, ⟨z1, z2⟩, ⟨z3, z4⟩, _⟩ := hz2 z hz
 refine ⟨⟨t1, ⟨r0.keptX RPod.firm t3 (t2.weak (fun b h => ?_)), r1.keptX RNode.firm t3 (t2.weak (fun b h => ?_)), r4.keptX RClass.firm t3 (t2.weak (fun b h => ?_)), r5.keptX RBudget.firm t3 (t2.weak (fun b h => ?_))⟩, ⟨?_, ?_⟩, ⟨z1.kept t2 ⟨by omega, by omega⟩, z2.kept t2 ⟨by omega, by omega⟩⟩, ⟨z3.kept t2 ⟨by omega, by omega⟩, z4.kept t2 ⟨by omega, by omega⟩⟩, t3⟩, t2⟩
 ·exact ⟨fun e => by subst e; exact h.elim (fun h => by have := hm b h; omega) e3.1, fun e => by subst e; exact h.elim (fun h => by have := hm b h; omega) e2.1⟩
 ·exact ⟨fun e => by subst e; exact h.elim (fun h => by have := hm b h; omega) e3.2.1, fun e => by subst e; exact h.elim (fun h => by have := hm b h; omega) e2.2.1⟩
 ·exact ⟨fun e => by subst e; exact h.elim (fun h => by have := hm b h; omega) e3.2.2.2.1, fun e => by subst e; exact h.elim (fun h => by have := hm b h; omega) e2.2.2.2.1⟩
 ·exact ⟨fun e => by subst e; exact h.elim (fun h => by have := hm b h; omega) e3.2.2.2.2, fun e => by subst e; exact h.elim (fun h => by have := hm b h; omega) e2.2.2.2.2⟩
 ·rw [show cNs (st.2.set c (setVo (st.2.getD c default) s)) = cNs st.2 from zEt Prod.fst _ _ _ rfl hc]
  exact m1.kept t2 ⟨by omega, by omega⟩
 ·rw [show vNs (st.1.set v (setCl (st.1.getD v default) s')) = vNs st.1 from zEt Prod.fst _ _ _ rfl hv]
  exact m2.kept t2 ⟨by omega, by omega⟩
theorem DnI.toS (F : DnF w n2 nV g0 g1 g2 g3 g4 g5 X Y mc mv) (h : DnI m w g0 g1 g2 g3 g4 g5 x X Y mc mv fd st W) (hb : Below w.heap.size w W') (hk : Kept (fun b => (b ≠ w.heap.size + 1 + 1 /\ b ≠ w.heap.size + 1 + 1 + 1) /\ b < nV) W W') : DnS m w W' g0 g1 g2 g3 g4 g5 x st := by
 obtain ⟨⟨hV, hC, hne, hm⟩, ⟨r0, r1, r4, r5⟩, _⟩ := h
 have lo : ∀ g ∈ [g0, g1, g2, g3, g4, g5], ∀ b, (m b \/ g.ownBlock = some b) -> (b ≠ w.heap.size + 1 + 1 /\ b ≠ w.heap.size + 1 + 1 + 1) /\ b < nV := by
  intro g hg b hb
  refine ⟨?_, F.lo hm hg hb⟩
  rcases hb with hb | hb
  ·have := hm b hb; omega
  ·have := F.1 g hg b hb; omega
 exact ⟨⟨hV.keptX RVolume.firm hb (hk.weak (lo _ (by simp))), hC.keptX RClaim.firm hb (hk.weak (lo _ (by simp))), hne, hm⟩,
  ⟨r0.keptX RPod.firm hb (hk.weak (lo _ (by simp))), r1.keptX RNode.firm hb (hk.weak (lo _ (by simp))), r4.keptX RClass.firm hb (hk.weak (lo _ (by simp))), r5.keptX RBudget.firm hb (hk.weak (lo _ (by simp)))⟩, hb⟩
theorem zBb {Bc Bv : Nat} (hb : Kept (fun b => b ≠ Bc /\ b ≠ Bv) W W') (h1 : Bc < nV) (h2 : Bv < nV) : KeepsFrom nV W W' :=
 ⟨hb.1, fun k _ hk ho _ => (hb.2 k ⟨by omega, by omega⟩ (Array.getElem?_eq_some_iff.1 ho).1).trans ho⟩
theorem zAj (hb : Below W.heap.size W W') : KeepsFrom nV W W' :=
 ⟨hb.size, fun k _ _ ho _ => (hb.block k (Array.getElem?_eq_some_iff.1 ho).1).trans ho⟩
end
def aroundP (x : StateD) (nm : ByteArray) : StateD := (firstsP (x.1.filter (fun q : PodD => !hasB sEq [nm] q.1)), firstsN x.2.1, x.2.2)
theorem zCj (L : List PodD) : (firstsP L).length <= L.length := by have := zC4 L L.length (Nat.le_refl _); rwa [List.take_length] at this
theorem zAr (L : List NodeD) : (firstsN L).length <= L.length := by have := zBh L L.length (Nat.le_refl _); rwa [List.take_length] at this
theorem sl_one12 {A : Where} {u : World} {B : Nat} {s : ByteArray} (hb : BoxL u B [.string s]) (hs : s.size <= 140737488355328) (hA : A B) : SlAt RStr 1 16 A u (some ⟨B, 0, none⟩) 1 1 [s] := by
 refine ⟨rfl, Nat.le_refl _, (fun e => by cases e), by omega, fun _ => ⟨B, 0, rfl, hb.1, hA, fun i hi => ?_⟩⟩
 obtain rfl : i = 0 := by omega
 exact ⟨_, ⟨rfl, hs⟩, fun j v hj => by have := (hb.2 j v hj).1; simpa using this⟩
theorem zF5 (D : Where) (cs : List Value) (x : StateD) (nm : ByteArray) (w : World) (hnm : nm.size <= 140737488355328) (h : Hid (RState D w cs x)) :
  Calls Tryz.prog 82 #[.agg cs.toArray, .string nm] w fun e w' => ∃ ds : List Value, e = .returned (.agg ds.toArray) /\ RState (fun b => (D b /\ b < w.heap.size) \/ w.heap.size + 3 <= b) w' ds (aroundP x nm) /\ Below w.heap.size w w' := by
 obtain ⟨⟨a0, n0, m0⟩, ⟨a1, n1, m1⟩, ⟨a2, n2, m2⟩, ⟨a3, n3, m3⟩, ⟨a4, n4, m4⟩, ⟨a5, n5, m5⟩, rfl, s0, s1, s2, s3, s4, s5⟩ := h.out.out
 simp only at s0 s1 s2 s3 s4 s5
 obtain ⟨W1, hW1⟩ : ∃ W, W = (w.alloc (.cells #[.slice a0 n0 m0, .slice a1 n1 m1, .slice a2 n2 m2, .slice a3 n3 m3, .slice a4 n4 m4, .slice a5 n5 m5] 29)).alloc (.cells #[.slice none 0 0, .slice none 0 0, .slice none 0 0, .slice none 0 0, .slice none 0 0, .slice none 0 0] 29) := ⟨_, rfl⟩
 have B1 : Below w.heap.size w W1 := by rw [hW1]; go_grown
 have hz1 : W1.heap.size = w.heap.size + 1 + 1 := by rw [hW1]; simp
 have q1 : BoxL W1 w.heap.size [.slice a0 n0 m0, .slice a1 n1 m1, .slice a2 n2 m2, .slice a3 n3 m3, .slice a4 n4 m4, .slice a5 n5 m5] := by rw [hW1]; exact (BoxL.new w 29 _).on ((Below.refl _ _).alloc (Nat.le_refl _) _)
 have q2 : BoxL W1 (w.heap.size + 1) [.slice none 0 0, .slice none 0 0, .slice none 0 0, .slice none 0 0, .slice none 0 0, .slice none 0 0] := by rw [hW1]; have := BoxL.new (w.alloc (.cells #[.slice a0 n0 m0, .slice a1 n1 m1, .slice a2 n2 m2, .slice a3 n3 m3, .slice a4 n4 m4, .slice a5 n5 m5] 29)) 29 [.slice none 0 0, .slice none 0 0, .slice none 0 0, .slice none 0 0, .slice none 0 0, .slice none 0 0]; simpa using this
 obtain ⟨W2, hW2⟩ : ∃ W, W = W1.alloc (.cells #[.string nm] 9) := ⟨_, rfl⟩
 have B2 : Below W1.heap.size W1 W2 := by rw [hW2]; exact (Below.refl _ _).alloc (Nat.le_refl _) _
 have qn : BoxL W2 W1.heap.size [.string nm] := by rw [hW2]; exact BoxL.new W1 _ _
 have f0 := (q1.2 0 _ rfl).1
 have hl0 : Hid (x.1.length = n0 /\ n0 * 296 <= 140737488351232) := ⟨s0.1, s0.2.2.2.1⟩
 have hl1 : Hid (x.2.1.length = n1 /\ n1 * 112 <= 140737488351232) := ⟨s1.1, s1.2.2.2.1⟩
 have HP : Hid (SlAt RPod 16 296 (fun b => D b /\ b < w.heap.size) W2 a0 n0 m0 x.1) := (s0.weak RPod.firm (fun b hb hd => ⟨hd, hb⟩)).on RPod.firm (on2 B1 B2)
 have HN : Hid (∀ u, Kept (fun b => b < w.heap.size) w u -> SlAt RNode 9 112 (fun b => D b /\ b < w.heap.size) u a1 n1 m1 x.2.1) := fun u hu => (s1.weak RNode.firm (fun b hb hd => ⟨hd, hb⟩)).kept RNode.firm (hu.weak (fun b h => h.2))
 have HO : Hid (∀ u, Kept (fun b => b < w.heap.size) w u -> SlAt RVolume 5 80 (fun b => D b /\ b < w.heap.size) u a2 n2 m2 x.2.2.1 /\ SlAt RClaim 4 56 (fun b => D b /\ b < w.heap.size) u a3 n3 m3 x.2.2.2.1 /\ SlAt RClass 2 24 (fun b => D b /\ b < w.heap.size) u a4 n4 m4 x.2.2.2.2.1 /\ SlAt RBudget 3 48 (fun b => D b /\ b < w.heap.size) u a5 n5 m5 x.2.2.2.2.2) := fun u hu => ⟨(s2.weak RVolume.firm (fun b hb hd => ⟨hd, hb⟩)).kept RVolume.firm (hu.weak (fun b h => h.2)), (s3.weak RClaim.firm (fun b hb hd => ⟨hd, hb⟩)).kept RClaim.firm (hu.weak (fun b h => h.2)), (s4.weak RClass.firm (fun b hb hd => ⟨hd, hb⟩)).kept RClass.firm (hu.weak (fun b h => h.2)), (s5.weak RBudget.firm (fun b hb hd => ⟨hd, hb⟩)).kept RBudget.firm (hu.weak (fun b h => h.2))⟩
 have HQ : Hid (BoxL W2 w.heap.size [.slice a0 n0 m0, .slice a1 n1 m1, .slice a2 n2 m2, .slice a3 n3 m3, .slice a4 n4 m4, .slice a5 n5 m5] /\ BoxL W2 (w.heap.size + 1) [.slice none 0 0, .slice none 0 0, .slice none 0 0, .slice none 0 0, .slice none 0 0, .slice none 0 0] /\ Below w.heap.size w W2) := ⟨q1.on B2, q2.on B2, on2 B1 B2⟩
 have hC := zBz (some ⟨W1.heap.size, 0, none⟩) 1 1 (fun _ => True) [nm] a0 n0 m0 _ x.1 W2 (sl_one12 qn hnm trivial) HP
 have hz2 : W2.heap.size = w.heap.size + 1 + 1 + 1 := by rw [hW2]; simp [hz1]
 have hlt1 : w.heap.size < W1.heap.size := q1.1
 have HW2 : Hid (W2 = W1.alloc (.cells #[.string nm] 9)) := hW2
 have HZ2 : Hid (W2.heap.size = w.heap.size + 1 + 1 + 1) := hz2
 clear h s0 s1 s2 s3 s4 s5 B1 B2 q1 q2 qn hW2 hz1 hz2
 go_enter Tryz.func82, Tryz.ntmps82
 go_upto_region 1 with fail
 rw [<- hW1]
 clear hW1
 go_wp2_with fail
 rw [<- HW2.out]
 refine hC.mono ?_
 rintro e u1 ⟨v, rfl, hr⟩
 clear hC f0 HW2
 have d1 : Below W2.heap.size W2 u1 := hr.below
 obtain ⟨ra, rc, rfl, sr⟩ := hr.sl (bytes := 296) RPod.firm (by have h1 := hl0.out; have h2 := List.length_filter_le (fun q : PodD => !hasB sEq [nm] q.1) x.1; omega)
 have hle : (x.1.filter (fun q : PodD => !hasB sEq [nm] q.1)).length <= n0 := by have h1 := hl0.out; have h2 := List.length_filter_le (fun q : PodD => !hasB sEq [nm] q.1) x.1; omega
 have hC := zEE ra _ rc _ _ u1 sr
 have HX : Hid (aroundP x nm = (firstsP (x.1.filter (fun q : PodD => !hasB sEq [nm] q.1)), firstsN x.2.1, x.2.2)) := rfl
 generalize x.1.filter (fun q : PodD => !hasB sEq [nm] q.1) = PF at hC hle HX sr hr
 clear sr hr
 have hPF : Hid ((firstsP PF).length <= n0) := Nat.le_trans (zCj PF) hle
 generalize PF.length = pl at hC |-
 clear hle
 go_wp2_with fail
 refine hC.mono ?_
 rintro e u2 ⟨v, rfl, hr⟩
 clear hC
 have d2 : Below u1.heap.size u1 u2 := hr.below
 have bu2 : Below W2.heap.size W2 u2 := on2 d1 d2
 obtain ⟨g1, g3, rfl, sg⟩ := hr.sl (bytes := 296) RPod.firm (by have h1 := hl0.out; have h2 := hPF.out; omega)
 have hs1 := d1.size
 have hz2 := HZ2.out
 have HG : Hid (SlAt RPod 16 296 (fun b => (D b /\ b < w.heap.size) \/ w.heap.size + 3 <= b) u2 g1 (firstsP PF).length g3 (firstsP PF)) := sg.weak RPod.firm (fun b _ hb => by rcases hb with ⟨⟨hb, _⟩ | hb, _⟩ | hb <;> first | exact .inl hb | (refine .inr ?_; have hb' := hb; unfold Fresh at hb'; omega))
 clear hr sg hPF
 generalize (firstsP PF).length = g2 at HG |-
 have qS := HQ.out.1.on bu2
 have qZ := HQ.out.2.1.on bu2
 obtain ⟨X1, hX1⟩ : ∃ X, X = u2.setCell ⟨w.heap.size, 0, none⟩ (.slice g1 g2 g3) := ⟨_, rfl⟩
 have k1 : Kept (fun b => b ≠ w.heap.size) u2 X1 := by rw [hX1]; exact Kept.set (p := ⟨w.heap.size, 0, none⟩) (fun h => h rfl) _
 have bX1 : Below w.heap.size w X1 := by rw [hX1]; exact (on2 HQ.out.2.2 bu2).setCell (Nat.le_refl _) _
 have qX1 : BoxL X1 w.heap.size [.slice g1 g2 g3, .slice a1 n1 m1, .slice a2 n2 m2, .slice a3 n3 m3, .slice a4 n4 m4, .slice a5 n5 m5] := by rw [hX1]; exact qS.set 0 (.slice g1 g2 g3) (by simp)
 have qZ1 := qZ.kept k1 (by omega)
 have HG1 : Hid (SlAt RPod 16 296 (fun b => (D b /\ b < w.heap.size) \/ w.heap.size + 3 <= b) X1 g1 g2 g3 (firstsP PF)) := HG.out.kept RPod.firm (k1.weak (fun b hb => by rcases hb with ⟨_, hb⟩ | hb <;> omega))
 have y0 := qS.2 0 _ rfl
 have hltS := qS.1
 have z1 := (qX1.2 1 _ rfl).1
 have hltX := qX1.1
 have hC := zDW a1 n1 m1 _ x.2.1 X1 (HN.out X1 (Kept.weak (A := fun b => b < w.heap.size) ⟨bX1.size, fun b hb _ => bX1.block b hb⟩ (fun b hb => hb)))
 have HX1 : Hid (X1 = u2.setCell ⟨w.heap.size, 0, none⟩ (.slice g1 g2 g3)) := hX1
 have HK1 : Hid (BoxL X1 w.heap.size [.slice g1 g2 g3, .slice a1 n1 m1, .slice a2 n2 m2, .slice a3 n3 m3, .slice a4 n4 m4, .slice a5 n5 m5] /\ BoxL X1 (w.heap.size + 1) [.slice none 0 0, .slice none 0 0, .slice none 0 0, .slice none 0 0, .slice none 0 0, .slice none 0 0] /\ Below w.heap.size w X1) := ⟨qX1, qZ1, bX1⟩
 have hX1s : w.heap.size + 3 <= X1.heap.size := by have := k1.1; have := bu2.size; omega
 clear hX1 k1 bX1 qX1 qZ1 qS qZ HG d1 d2 bu2 HQ hs1 HP HN hz2 HZ2
 go_upto_region 2 with fail
 rw [<- HX1.out]
 clear HX1 y0 hltS
 go_wp2_with fail
 refine hC.mono ?_
 rintro e u3 ⟨v, rfl, hr⟩
 clear hC z1
 have d3 : Below X1.heap.size X1 u3 := hr.below
 obtain ⟨h1, h3, rfl, sn⟩ := hr.sl (bytes := 112) RNode.firm (by have e1 := hl1.out; have e2 := zAr x.2.1; omega)
 have HH : Hid (SlAt RNode 9 112 (fun b => (D b /\ b < w.heap.size) \/ w.heap.size + 3 <= b) u3 h1 (firstsN x.2.1).length h3 (firstsN x.2.1)) := sn.weak RNode.firm (fun b _ hb => by rcases hb with ⟨hb, _⟩ | hb <;> first | exact .inl hb | (refine .inr ?_; have hb' := hb; unfold Fresh at hb'; omega))
 clear hr sn
 generalize (firstsN x.2.1).length = h2 at HH |-
 have qS := HK1.out.1.on d3
 have qZ := HK1.out.2.1.on d3
 obtain ⟨X2, hX2⟩ : ∃ X, X = u3.setCell ⟨w.heap.size, 1, none⟩ (.slice h1 h2 h3) := ⟨_, rfl⟩
 have k2 : Kept (fun b => b ≠ w.heap.size) u3 X2 := by rw [hX2]; exact Kept.set (p := ⟨w.heap.size, 1, none⟩) (fun h => h rfl) _
 have qX2 : BoxL X2 w.heap.size [.slice g1 g2 g3, .slice h1 h2 h3, .slice a2 n2 m2, .slice a3 n3 m3, .slice a4 n4 m4, .slice a5 n5 m5] := by rw [hX2]; exact qS.set 1 (.slice h1 h2 h3) (by simp)
 have bX2 : Below w.heap.size w X2 := by rw [hX2]; exact (on2 HK1.out.2.2 d3).setCell (Nat.le_refl _) _
 have qZ2 := qZ.kept k2 (by omega)
 have HG2 : Hid (SlAt RPod 16 296 (fun b => (D b /\ b < w.heap.size) \/ w.heap.size + 3 <= b) X2 g1 g2 g3 (firstsP PF)) := (HG1.out.on RPod.firm d3).kept RPod.firm (k2.weak (fun b hb => by rcases hb with ⟨_, hb⟩ | hb <;> omega))
 have HH2 : Hid (SlAt RNode 9 112 (fun b => (D b /\ b < w.heap.size) \/ w.heap.size + 3 <= b) X2 h1 h2 h3 (firstsN x.2.1)) := HH.out.kept RNode.firm (k2.weak (fun b hb => by rcases hb with ⟨_, hb⟩ | hb <;> omega))
 have y1 := qS.2 1 _ rfl
 have hltS := qS.1
 have HX2 : Hid (X2 = u3.setCell ⟨w.heap.size, 1, none⟩ (.slice h1 h2 h3)) := hX2
 clear hX2 k2 qS qZ HH HG1 d3 HK1 hltX
 go_upto_region 3 with fail
 rw [<- HX2.out]
 clear HX2 y1 hltS
 have e0 := (qX2.2 0 _ rfl).1
 have e1 := (qX2.2 1 _ rfl).1
 have e2 := (qX2.2 2 _ rfl).1
 have e3 := (qX2.2 3 _ rfl).1
 have e4 := (qX2.2 4 _ rfl).1
 have e5 := (qX2.2 5 _ rfl).1
 have t0' := qZ2.2 0 _ rfl
 have t1' := qZ2.2 1 _ rfl
 have t2' := qZ2.2 2 _ rfl
 have t3' := qZ2.2 3 _ rfl
 have t4' := qZ2.2 4 _ rfl
 have t5' := qZ2.2 5 _ rfl
 have hl8 := qX2.1
 have hl9 := qZ2.1
 go_wp2_with fail
 obtain ⟨X3, hX3⟩ : ∃ X, X = X2.setCells (w.heap.size + 1) 0 [.slice g1 g2 g3, .slice h1 h2 h3, .slice a2 n2 m2, .slice a3 n3 m3, .slice a4 n4 m4, .slice a5 n5 m5] := ⟨_, rfl⟩
 have eW : ((((((X2.setCell ⟨w.heap.size + 1, 0, none⟩ (.slice g1 g2 g3)).setCell ⟨w.heap.size + 1, 1, none⟩ (.slice h1 h2 h3)).setCell ⟨w.heap.size + 1, 2, none⟩ (.slice a2 n2 m2)).setCell ⟨w.heap.size + 1, 3, none⟩ (.slice a3 n3 m3)).setCell ⟨w.heap.size + 1, 4, none⟩ (.slice a4 n4 m4)).setCell ⟨w.heap.size + 1, 5, none⟩ (.slice a5 n5 m5)) = X3 := hX3.symm
 rw [eW]
 have k3 : Kept (fun b => b ≠ w.heap.size + 1) X2 X3 := by rw [hX3]; exact zA1 (fun h => h rfl)
 have bX3 : Below w.heap.size w X3 := by rw [hX3]; exact zA0 bX2 (by omega)
 have qX3 : BoxL X3 (w.heap.size + 1) [.slice g1 g2 g3, .slice h1 h2 h3, .slice a2 n2 m2, .slice a3 n3 m3, .slice a4 n4 m4, .slice a5 n5 m5] := by rw [hX3]; exact zA2 qZ2 rfl
 clear eW hX3 e0 e1 e2 e3 e4 e5 t0' t1' t2' t3' t4' t5'
 have e0 := (qX3.2 0 _ rfl).1
 have e1 := (qX3.2 1 _ rfl).1
 have e2 := (qX3.2 2 _ rfl).1
 have e3 := (qX3.2 3 _ rfl).1
 have e4 := (qX3.2 4 _ rfl).1
 have e5 := (qX3.2 5 _ rfl).1
 obtain ⟨o2, o3, o4, o5⟩ := HO.out X3 ⟨bX3.size, fun b hb _ => bX3.block b hb⟩
 have HE : Hid (RState (fun b => (D b /\ b < w.heap.size) \/ w.heap.size + 3 <= b) X3 [.slice g1 g2 g3, .slice h1 h2 h3, .slice a2 n2 m2, .slice a3 n3 m3, .slice a4 n4 m4, .slice a5 n5 m5] (aroundP x nm) /\ Below w.heap.size w X3) := ⟨by
  rw [HX.out]
  exact RState.mk (x := (firstsP PF, firstsN x.2.1, x.2.2)) (h0 := (g1, g2, g3)) (h1 := (h1, h2, h3)) (h2 := (a2, n2, m2)) (h3 := (a3, n3, m3)) (h4 := (a4, n4, m4)) (h5 := (a5, n5, m5)) (HG2.out.kept RPod.firm (k3.weak (fun b hb => by rcases hb with ⟨_, hb⟩ | hb <;> omega))) (HH2.out.kept RNode.firm (k3.weak (fun b hb => by rcases hb with ⟨_, hb⟩ | hb <;> omega))) (o2.weak RVolume.firm (fun _ _ h => .inl h)) (o3.weak RClaim.firm (fun _ _ h => .inl h)) (o4.weak RClass.firm (fun _ _ h => .inl h)) (o5.weak RBudget.firm (fun _ _ h => .inl h)), bX3⟩
 clear k3 bX3 qX3 o2 o3 o4 o5 HG2 HH2 HX
 refine bodyPost_ret (v := .agg #[.slice g1 g2 g3, .slice h1 h2 h3, .slice a2 n2 m2, .slice a3 n3 m3, .slice a4 n4 m4, .slice a5 n5 m5]) (by simp [results, Tryz.results82, go_sem, e0, e1, e2, e3, e4, e5, Result.andThen]) rfl ?_
 exact ⟨[.slice g1 g2 g3, .slice h1 h2 h3, .slice a2 n2 m2, .slice a3 n3 m3, .slice a4 n4 m4, .slice a5 n5 m5], rfl, HE.out.1, HE.out.2⟩
end Go.Proofs.YtnffafjamiffnaaGreat
