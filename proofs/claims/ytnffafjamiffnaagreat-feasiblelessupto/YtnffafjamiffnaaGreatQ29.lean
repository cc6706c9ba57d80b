/- slices.Min, slices.Max at a list of counts; census.least, census.admits. Condition: the census lies as is said of it. -/
import Derived.Test.YtnffafjamiffnaaGreatQ25
set_option linter.unusedSimpArgs false
set_option maxRecDepth 100000
set_option maxHeartbeats 32000000
namespace Go.Proofs.YtnffafjamiffnaaGreat
open Go.RowKit Go.Maps
theorem zEm (c : ByteArray -> Nat) : ∀ (r : List ByteArray) (a : Nat), (r.map (fun v => ((c v : Nat) : Int))).foldl min (a : Int) = ((r.foldl (fun a e => min a (c e)) a : Nat) : Int)
 | [], _ => rfl
 | e :: r, a => by
  rw [List.map_cons, List.foldl_cons, List.foldl_cons, show min (a : Int) ((c e : Nat) : Int) = ((min a (c e) : Nat) : Int) by omega]
  exact zEm c r _
theorem minOf9 (c : ByteArray -> Nat) {D : List ByteArray} (h : 0 < D.length) : Lib.minOf (D.map (fun v => ((c v : Nat) : Int))) = ((loP c D : Nat) : Int) := by
 cases D with
 | nil => simp at h
 | cons d r =>
  unfold Lib.minOf loP
  rw [List.map_cons, List.headD_cons, List.foldl_cons, show min ((c d : Nat) : Int) ((c d : Nat) : Int) = ((c d : Nat) : Int) by omega]
  exact zEm c r (c d)
theorem zFd {A : Where} {w : World} {a : Option Addr} {n cap : Nat} {L : List Int} (h : SlAt RInt 1 8 A w a n cap L) (hn : 0 < n) : ∃ b off, a = some ⟨b, off, none⟩ /\ ∀ j, j < L.length -> w.cell? ⟨b, off + j, none⟩ = some (.int .i64 (L.getD j 0)) := by
 obtain ⟨h1, _, _, _, h5⟩ := h
 obtain ⟨B, off, rfl, _, _, hc⟩ := h5 hn
 refine ⟨B, off, rfl, fun j hj => ?_⟩
 obtain ⟨cs, rfl, hv⟩ := hc j (by omega)
 have := hv 0 _ rfl
 rw [Nat.mul_one, Nat.add_zero] at this
 exact this
theorem Min_sl {A : Where} {w : World} {a : Option Addr} {n cap : Nat} {L : List Int} (h : SlAt RInt 1 8 A w a n cap L) (hn : 0 < n) : Calls Tryz.prog 199 #[.slice a n cap] w fun e w' => e = .returned (.int .i64 (Lib.minOf L)) /\ w' = w := by
 obtain ⟨b, off, rfl, hc⟩ := zFd h hn
 obtain rfl := h.1
 have h4 := h.2.2.2.1
 have h5 := Tryz.slices_Min_int b off L.length cap L w hn (Nat.le_refl _) (by omega) hc
 rw [List.take_length] at h5
 exact h5
def leastP (s : SpreadD) (N : List NodeD) (Q : List PlacedD) : Int := if ((domsP s.1 N).length : Int) < s.2.2.1 then 0 else (loP (fun v => cntP s v Q) (domsP s.1 N) : Int)
theorem zG5 (s : SpreadD) (r1 : Option Addr) (r2 r3 m1 m2 : Nat) (N : List NodeD) (Q : List PlacedD) (w : World) (h : Hid (CenAt w s r1 r2 r3 m1 m2 N Q)) :
  Calls Tryz.prog 170 #[.agg #[.string s.1, .int .i64 s.2.1, .int .i64 s.2.2.1, .slice r1 r2 r3, .map (some m1), .map (some m2)]] w fun e w' => e = .returned (.int .i64 (leastP s N Q)) /\ Below w.heap.size w w' := by
 obtain ⟨W1, hW1⟩ : ∃ W, W = w.alloc (.cells #[.string s.1, .int .i64 s.2.1, .int .i64 s.2.2.1, .slice r1 r2 r3, .map (some m1), .map (some m2)] 221) := ⟨_, rfl⟩
 have B1 : Below w.heap.size w W1 := by rw [hW1]; go_grown
 have qx : BoxL W1 w.heap.size (cenV s r1 r2 r3 m1 m2) := by rw [hW1]; exact BoxL.new w 221 _
 have c0 := (qx.2 0 _ rfl).1
 have c1 := (qx.2 1 _ rfl).1
 have c2 := (qx.2 2 _ rfl).1
 have c3 := (qx.2 3 _ rfl).1
 have c4 := (qx.2 4 _ rfl).1
 have c5 := (qx.2 5 _ rfl).1
 have hC := zFP s r1 r2 r3 m1 m2 N Q W1 (h.out.on B1)
 have hbl : (cntsL s N Q).length * 8 <= 140737488351232 := by have := h.out.l; unfold cntsL; rw [List.length_map]; omega
 have HM : Hid (0 < (cntsL s N Q).length -> Lib.minOf (cntsL s N Q) = (loP (fun v => cntP s v Q) (domsP s.1 N) : Int)) := fun hp => by
  unfold cntsL at hp |-
  rw [List.length_map] at hp
  exact minOf9 (fun v => cntP s v Q) hp
 have HL : Hid (leastP s N Q = if ((cntsL s N Q).length : Int) < s.2.2.1 then 0 else (loP (fun v => cntP s v Q) (domsP s.1 N) : Int)) := by unfold leastP cntsL; rw [Hid, List.length_map]
 have H0 : Hid ((cntsL s N Q).length = 0 -> (loP (fun v => cntP s v Q) (domsP s.1 N) : Int) = 0) := fun hz => by
  unfold cntsL at hz
  rw [List.length_map] at hz
  rw [List.length_eq_zero_iff.1 hz]
  rfl
 have HB : Hid (Below w.heap.size w W1) := B1
 have HQ : Hid (∀ u, Below W1.heap.size W1 u -> u.cell? ⟨w.heap.size, 2, none⟩ = some (.int .i64 s.2.2.1)) := fun u hb => ((qx.on hb).2 2 _ rfl).1
 clear h qx B1
 generalize leastP s N Q = ans at HL
 generalize (loP (fun v => cntP s v Q) (domsP s.1 N) : Int) = lo at HM HL H0
 generalize cntsL s N Q = L at hC hbl HM HL H0
 go_enter Tryz.func170, Tryz.ntmps170
 go_upto_region 1 with fail
 rw [<- hW1]
 clear hW1
 go_wp2_with fail
 refine hC.mono ?_
 rintro e w2 ⟨v, rfl, hr⟩
 obtain ⟨a, cap, rfl, sv⟩ := hr.slT (bytes := 8) RInt.firm hbl
 have HB2 : Hid (Below w.heap.size w w2) := on2 HB.out hr.below
 have d2 := HQ.out w2 hr.below
 have hlen : L.length <= 9223372036854775807 := by omega
 have hMin : Hid (0 < L.length -> Calls Tryz.prog 199 #[.slice a L.length cap] w2 fun e w' => e = .returned (.int .i64 (Lib.minOf L)) /\ w' = w2) := fun hp => Min_sl sv hp
 clear hC hr sv c0 c1 c2 c3 c4 c5 HB HQ hbl
 generalize Lib.minOf L = mi at hMin HM
 generalize L.length = n at *
 clear L
 by_cases hz : n = 0
 ·subst hz
  have hlo := H0.out rfl
  have hans : ans = 0 := by rw [HL.out, hlo]; split <;> rfl
  clear H0 HM HL hMin hlo
  subst hans
  go_wp2_with fail
  go_ret
  exact ⟨rfl, HB2.out⟩
 ·by_cases hl : (n : Int) < s.2.2.1
  ·have hans : ans = 0 := by rw [HL.out, if_pos hl]
   clear H0 HM HL hMin
   subst hans
   have hzb : ((n : Int) == 0) = false := by simp [hz]
   have hlb : decide ((n : Int) < s.2.2.1) = true := decide_eq_true hl
   go_wp2_with fail
   go_ret
   exact ⟨rfl, HB2.out⟩
  ·have hans : ans = mi := by rw [HL.out, if_neg hl]; exact (HM.out (by omega)).symm
   have hc := hMin.out (by omega)
   have hzb : ((n : Int) == 0) = false := by simp [hz]
   have hlb : decide ((n : Int) < s.2.2.1) = false := decide_eq_false hl
   clear H0 HM HL hMin
   subst hans
   go_wp2_with fail
   refine hc.mono ?_
   rintro e w3 ⟨rfl, rfl⟩
   go_wp2_with fail
   go_ret
   exact ⟨rfl, HB2.out⟩
theorem lo_le9 (c : ByteArray -> Nat) (M : Nat) (hM : ∀ d, c d <= M) (D : List ByteArray) : loP c D <= M := by
 by_cases h : D = []
 ·subst h; exact Nat.zero_le _
 ·obtain ⟨_, d, _, e⟩ := lo_spec c h
  rw [e]; exact hM d
theorem zGA : (Tryz.prog.info? 49).map (·.size) = some 16 := by kernel_rfl
theorem least_bd {w : World} {s : SpreadD} {r1 : Option Addr} {r2 r3 m1 m2 : Nat} {N : List NodeD} {Q : List PlacedD} (h : CenAt w s r1 r2 r3 m1 m2 N Q) : 0 <= leastP s N Q /\ leastP s N Q <= 140737488355328 := by
 obtain ⟨q, k, h3, h4⟩ := h.p
 have := (lo_le9 (fun v => cntP s v Q) 140737488355328 (fun d => by have := h3.le d; omega) (domsP s.1 N))
 unfold leastP
 split <;> omega
theorem bad_is (P L : List Lab) (N : List NodeD) (Q : List PlacedD) (s : SpreadD) {v : ByteArray} {t m : Bool} (hg : getL L s.1 = (v, t)) (hm : matchL P (sReqs s) = m) : (!badS P L N Q s) = (t && decide (((cntP s v Q : Nat) : Int) + (if m = true then 1 else 0) - leastP s N Q <= s.2.1)) := by
 unfold badS leastP
 rw [hg, hm]
 cases t
 ·rfl
 ·simp only [Bool.not_true, Bool.false_or, Bool.true_and]
  rw [<- decide_not, decide_eq_decide]
  cases m
  ·simp only [Bool.false_eq_true, if_false]
   rw [Int.not_lt]
   exact Iff.rfl
  ·simp only [if_true]
   rw [Int.not_lt]
   exact Iff.rfl
def AdSs (D : Nat) (s : SpreadD) (r1 : Option Addr) (r2 r3 m1 m2 : Nat) (u : World) : Prop :=
 u.cell? ⟨D, 0, none⟩ = some (.string s.1) /\ u.cell? ⟨D, 1, none⟩ = some (.int .i64 s.2.1) /\ u.cell? ⟨D, 2, none⟩ = some (.int .i64 s.2.2.1) /\ u.cell? ⟨D, 3, none⟩ = some (.slice r1 r2 r3) /\ u.cell? ⟨D, 4, none⟩ = some (.map (some m1)) /\ u.cell? ⟨D, 5, none⟩ = some (.map (some m2))
theorem AdSs.of {D : Nat} {s : SpreadD} {r1 : Option Addr} {r2 r3 m1 m2 : Nat} {u : World} (h : BoxL u D (cenV s r1 r2 r3 m1 m2)) : AdSs D s r1 r2 r3 m1 m2 u :=
 ⟨(h.2 0 _ rfl).1, (h.2 1 _ rfl).1, (h.2 2 _ rfl).1, (h.2 3 _ rfl).1, (h.2 4 _ rfl).1, (h.2 5 _ rfl).1⟩
theorem zEy (s : SpreadD) (r1 : Option Addr) (r2 r3 m1 m2 : Nat) (N : List NodeD) (Q : List PlacedD) (cs : List Value) (p : PodD) (la : Option Addr) (ln lc : Nat) (Lb : List Lab) (w : World) (h : Hid (CenAt w s r1 r2 r3 m1 m2 N Q)) (hp : Hid (RPod (fun _ => True) w cs p)) (hL : Hid (SlAt RLabel 2 32 (fun _ => True) w la ln lc Lb)) :
  Calls Tryz.prog 125 #[.agg #[.string s.1, .int .i64 s.2.1, .int .i64 s.2.2.1, .slice r1 r2 r3, .map (some m1), .map (some m2)], .agg cs.toArray, .slice la ln lc] w fun e w' => e = .returned (.bool (!badS (pLabs p) Lb N Q s)) /\ Below w.heap.size w w' := by
 have hi16 : (Tryz.prog.info? 49).map (·.size) = some cs.length := by rw [RPod.firm.len hp.out]; exact zGA
 obtain ⟨W1, hW1⟩ : ∃ W, W = w.alloc (.cells #[.string s.1, .int .i64 s.2.1, .int .i64 s.2.2.1, .slice r1 r2 r3, .map (some m1), .map (some m2)] 221) := ⟨_, rfl⟩
 obtain ⟨W2, hW2⟩ : ∃ W, W = W1.alloc (.cells cs.toArray 49) := ⟨_, rfl⟩
 have B1 : Below w.heap.size w W1 := by rw [hW1]; go_grown
 have B2 : Below W1.heap.size W1 W2 := by rw [hW2]; go_grown
 have hz : W1.heap.size = w.heap.size + 1 := by rw [hW1]; simp
 have qx : BoxL W2 w.heap.size (cenV s r1 r2 r3 m1 m2) := by refine BoxL.on ?_ B2; rw [hW1]; exact BoxL.new w 221 _
 have qp : BoxL W2 (w.heap.size + 1) cs := by rw [<- hz, hW2]; exact BoxL.new W1 49 _
 have HU : Hid (∀ u, Below W2.heap.size W2 u -> AdSs w.heap.size s r1 r2 r3 m1 m2 u /\ u.rangeAt (w.heap.size + 1) 0 cs /\ CenAt u s r1 r2 r3 m1 m2 N Q /\ RPod (fun _ => True) u cs p) := fun u hb => ⟨AdSs.of (qx.on hb), (qp.on hb).range, h.out.on (on2 (on2 B1 B2) hb), RPod.firm.kept hp.out (Kept.below (on2 (on2 B1 B2) hb))⟩
 have hG := Get_sl9 la ln lc _ Lb s.1 W2 (hL.out.on RLabel.firm (on2 B1 B2))
 have hsz := zD3 hL.out s.1
 have HBd := least_bd h.out
 have HBad := fun (v : ByteArray) (t m : Bool) hg hm => bad_is (pLabs p) Lb N Q s (v := v) (t := t) (m := m) hg hm
 have HB : Hid (Below w.heap.size w W2) := on2 B1 B2
 have hc0 := (qx.2 0 _ rfl).1
 obtain ⟨qq, kk, hq3, hq4⟩ := h.out.p
 have HLk : Hid (∀ u, Below W2.heap.size W2 u -> ∀ v : ByteArray, v.size <= 140737488355328 -> (Instr.lookup 165 (.map (some m2)) (.string v) false).run Tryz.prog u = .ok (.int .i64 ((cntP s v Q : Nat) : Int)) u) := fun u hb v hv => (hq3.on (on2 (on2 B1 B2) hb)).look 165 Tryz.underlying165 hv
 have HLe : Hid (∀ v, cntP s v Q <= 140737488355328) := fun v => by have := hq3.le v; omega
 clear hq3 hq4 h hp hL qx qp B1 B2 hz
 generalize hg : getL Lb s.1 = g at hG hsz
 obtain ⟨v, t⟩ := g
 simp only at hG hsz
 generalize hmm : matchL (pLabs p) (sReqs s) = m
 have hb := HBad v t m hg hmm
 have HMt : Hid (matchL (pLabs p) (sReqs s) = m) := hmm
 clear HBad hg hmm
 generalize (!badS (pLabs p) Lb N Q s) = ans at hb
 go_enter Tryz.func125, Tryz.ntmps125
 go_upto_region 1 with fail
 rw [<- hW1, <- hW2]
 clear hW1 hW2
 go_wp2_with fail
 refine hG.mono ?_
 clear hG hc0
 rintro e w1 ⟨rfl, hb1⟩
 cases t
 ·have HB1 : Hid (Below w.heap.size w w1) := on2 HB.out hb1
  have hans : ans = false := by rw [hb]; rfl
  clear hb HU HLk HLe HB hb1
  subst hans
  go_wp2_with fail
  go_ret
  exact ⟨rfl, HB1.out⟩
 ·obtain ⟨⟨c0, c1, c2, c3, c4, c5⟩, hrg, hcen, hpod⟩ := HU.out w1 hb1
  have hlk := HLk.out w1 hb1 v hsz
  have hle := HLe.out v
  have hM := zCV s r1 r2 r3 m1 m2 _ _ cs p w1 hpod hcen.r
  rw [HMt.out] at hM
  have HR : Hid (w1.rangeAt (w.heap.size + 1) 0 cs) := hrg
  have HBW : Hid (Below W2.heap.size W2 w1) := hb1
  have Hb : Hid (ans = decide (((cntP s v Q : Nat) : Int) + (if m = true then 1 else 0) - leastP s N Q <= s.2.1)) := by rw [Hid, hb]; simp
  clear hb hrg hcen hpod HLk HLe HMt hb1
  generalize cntP s v Q = c at hlk hle Hb
  go_wp2_with (first | (refine wpList_load_mid rfl 49 _ rfl (w.heap.size + 1) 0 rfl cs _ HR.out Tryz.underlying49 rfl hi16 ?_) | fail)
  refine hM.mono ?_
  rintro e w3 ⟨rfl, hb3⟩
  have HB3 : Hid (Below W2.heap.size W2 w3) := on2 HBW.out hb3
  clear hM c0 c1 c2 c3 c4 c5 HR HBW hb3 hlk
  have HU2 : Hid (∀ u, Below w3.heap.size w3 u -> AdSs w.heap.size s r1 r2 r3 m1 m2 u) := fun u hb => (HU.out u (on2 HB3.out hb)).1
  have HLs := zG5 s r1 r2 r3 m1 m2 N Q w3.drew ((HU.out w3 HB3.out).2.2.1.on (Below.refl _ _).drew)
  clear HU
  cases m
  ·skip
   have Hb' : Hid (ans = decide (IntKind.i64.wrap ((c : Int) - leastP s N Q) <= s.2.1)) := by rw [Hid, Hb.out, show IntKind.i64.wrap ((c : Int) - leastP s N Q) = (c : Int) - leastP s N Q from by rw [IntWalk.i64_left]; unfold wrap64; omega]; simp
   clear Hb
   generalize leastP s N Q = le at HLs HBd Hb'
   go_upto_region 7 with fail
   refine t0 (AdSs w.heap.size s r1 r2 r3 m1 m2) (HU2.out _ (Below.refl _ _).drew) (fun gH => ?_)
   try go_frame
   refine' tk 0 ?_ ?_; rotate_left
   ·intro u ⟨_, _, _, _, _, _⟩; go_simp; try with_reducible rfl
   try go_frame
   refine' tk 1 ?_ ?_; rotate_left
   ·intro u ⟨_, _, _, _, _, _⟩; go_simp; try with_reducible rfl
   try go_frame
   refine' tk 4 ?_ ?_; rotate_left
   ·intro u ⟨_, _, _, _, _, _⟩; go_simp; try with_reducible rfl
   try go_frame
   refine' tk 5 ?_ ?_; rotate_left
   ·intro u ⟨_, _, _, _, _, _⟩; go_simp; try with_reducible rfl
   try go_frame
   refine' tk 6 ?_ ?_; rotate_left
   ·intro u ⟨_, _, _, _, _, _⟩; go_simp; try with_reducible rfl
   try go_frame
   refine tr 2 (fun K hK => ?_)
   go_simp
   refine HLs.mono ?_
   rintro e u1 ⟨rfl, hu1⟩
   have hd : Below w3.heap.size w3 u1 := on2 (Below.refl _ _).drew hu1
   have HB4 : Hid (Below w.heap.size w u1) := on2 (on2 HB.out HB3.out) hd
   go_wp2_with fail
   refine hK.out _ _ (HU2.out _ hd) (fun gI => ?_)
   clear hK K gH; have gH := gI; clear gI
   try go_frame
   refine' tk 3 ?_ ?_; rotate_left
   ·intro u ⟨_, _, _, _, _, _⟩; go_simp; try with_reducible rfl
   try go_frame
   refine' tk 7 ?_ ?_; rotate_left
   ·intro u ⟨_, _, _, _, _, _⟩; go_simp; try with_reducible rfl
   try go_frame
   refine' tk 8 ?_ ?_; rotate_left
   ·intro u ⟨_, _, _, _, _, _⟩; go_simp; try with_reducible rfl
   try go_frame
   refine tz ?_
   go_wp2_with fail
   go_ret
   exact ⟨by rw [Hb'.out]; rfl, HB4.out⟩
  ·skip
   have Hb' : Hid (ans = decide (IntKind.i64.wrap ((c : Int) + 1 - leastP s N Q) <= s.2.1)) := by rw [Hid, Hb.out, show IntKind.i64.wrap ((c : Int) + 1 - leastP s N Q) = (c : Int) + 1 - leastP s N Q from by rw [IntWalk.i64_left]; unfold wrap64; omega]; simp
   clear Hb
   generalize leastP s N Q = le at HLs HBd Hb'
   go_upto_region 7 with fail
   refine t0 (AdSs w.heap.size s r1 r2 r3 m1 m2) (HU2.out _ (Below.refl _ _).drew) (fun gH => ?_)
   try go_frame
   refine' tk 0 ?_ ?_; rotate_left
   ·intro u ⟨_, _, _, _, _, _⟩; go_simp; try with_reducible rfl
   try go_frame
   refine' tk 1 ?_ ?_; rotate_left
   ·intro u ⟨_, _, _, _, _, _⟩; go_simp; try with_reducible rfl
   try go_frame
   refine' tk 4 ?_ ?_; rotate_left
   ·intro u ⟨_, _, _, _, _, _⟩; go_simp; try with_reducible rfl
   try go_frame
   refine' tk 5 ?_ ?_; rotate_left
   ·intro u ⟨_, _, _, _, _, _⟩; go_simp; try with_reducible rfl
   try go_frame
   refine' tk 6 ?_ ?_; rotate_left
   ·intro u ⟨_, _, _, _, _, _⟩; go_simp; try with_reducible rfl
   try go_frame
   refine tr 2 (fun K hK => ?_)
   go_simp
   refine HLs.mono ?_
   rintro e u1 ⟨rfl, hu1⟩
   have hd : Below w3.heap.size w3 u1 := on2 (Below.refl _ _).drew hu1
   have HB4 : Hid (Below w.heap.size w u1) := on2 (on2 HB.out HB3.out) hd
   go_wp2_with fail
   refine hK.out _ _ (HU2.out _ hd) (fun gI => ?_)
   clear hK K gH; have gH := gI; clear gI
   try go_frame
   refine' tk 3 ?_ ?_; rotate_left
   ·intro u ⟨_, _, _, _, _, _⟩; go_simp; try with_reducible rfl
   try go_frame
   refine' tk 7 ?_ ?_; rotate_left
   ·intro u ⟨_, _, _, _, _, _⟩; go_simp; try with_reducible rfl
   try go_frame
   refine' tk 8 ?_ ?_; rotate_left
   ·intro u ⟨_, _, _, _, _, _⟩; go_simp; try with_reducible rfl
   try go_frame
   refine tz ?_
   go_wp2_with fail
   go_ret
   exact ⟨by rw [Hb'.out]; rfl, HB4.out⟩
end Go.Proofs.YtnffafjamiffnaaGreat
