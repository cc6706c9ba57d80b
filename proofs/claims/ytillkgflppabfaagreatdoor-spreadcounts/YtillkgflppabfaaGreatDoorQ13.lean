/- slices.Min, slices.Max at a list of counts; census.least, census.admits. Condition: the census lies as is said of it. Structs that lie in memory, whatever their cells: read and written whole; results that are structs; what stays. Plain laws of the model's worlds. No condition. A struct variable written over as a whole. Plain facts on worlds. No condition. -/
import Derived.Test.YtillkgflppabfaaGreatDoorQ12
import Derived.Test.YtillkgflppabfaaGreatDoorQ03
import Derived.Deep.MidRow
import Derived.Test.YtillkgflppabfaaGreatDoorQ06
namespace Go.Proofs.YtillkgflppabfaaGreatDoor
open Go.RowKit Go.Maps
set_option linter.unusedSimpArgs false
set_option maxRecDepth 100000

theorem fold_min9 (c : ByteArray → Nat) : ∀ (r : List ByteArray) (a : Nat), (r.map (fun v => ((c v : Nat) : Int))).foldl min (a : Int) = ((r.foldl (fun a e => min a (c e)) a : Nat) : Int)
  | [], _ => rfl
  | e :: r, a => by
    rw [List.map_cons, List.foldl_cons, List.foldl_cons, show min (a : Int) ((c e : Nat) : Int) = ((min a (c e) : Nat) : Int) by omega]
    exact fold_min9 c r _
theorem fold_max9 (c : ByteArray → Nat) : ∀ (r : List ByteArray) (a : Nat), (r.map (fun v => ((c v : Nat) : Int))).foldl max (a : Int) = ((r.foldl (fun a e => max a (c e)) a : Nat) : Int)
  | [], _ => rfl
  | e :: r, a => by
    rw [List.map_cons, List.foldl_cons, List.foldl_cons, show max (a : Int) ((c e : Nat) : Int) = ((max a (c e) : Nat) : Int) by omega]
    exact fold_max9 c r _
theorem minOf9 (c : ByteArray → Nat) {D : List ByteArray} (h : 0 < D.length) : Lib.minOf (D.map (fun v => ((c v : Nat) : Int))) = ((loP c D : Nat) : Int) := by
  cases D with
  | nil => simp at h
  | cons d r =>
    unfold Lib.minOf loP
    rw [List.map_cons, List.headD_cons, List.foldl_cons, show min ((c d : Nat) : Int) ((c d : Nat) : Int) = ((c d : Nat) : Int) by omega]
    exact fold_min9 c r (c d)
theorem maxOf9 (c : ByteArray → Nat) {D : List ByteArray} (h : 0 < D.length) : Lib.maxOf (D.map (fun v => ((c v : Nat) : Int))) = ((hiP c D : Nat) : Int) := by
  cases D with
  | nil => simp at h
  | cons d r =>
    unfold Lib.maxOf hiP
    rw [List.map_cons, List.headD_cons, List.foldl_cons, show max ((c d : Nat) : Int) ((c d : Nat) : Int) = ((c d : Nat) : Int) by omega]
    exact fold_max9 c r (c d)
theorem ints_cells9 {A : Where} {w : World} {a : Option Addr} {n cap : Nat} {L : List Int} (h : SlAt RInt 1 8 A w a n cap L) (hn : 0 < n) : ∃ b off, a = some ⟨b, off, none⟩ ∧ ∀ j, j < L.length → w.cell? ⟨b, off + j, none⟩ = some (.int .i64 (L.getD j 0)) := by
  obtain ⟨h1, _, _, _, h5⟩ := h
  obtain ⟨B, off, rfl, _, _, hc⟩ := h5 hn
  refine ⟨B, off, rfl, fun j hj => ?_⟩
  obtain ⟨cs, rfl, hv⟩ := hc j (by omega)
  have := hv 0 _ rfl
  rw [Nat.mul_one, Nat.add_zero] at this
  exact this
theorem Min_sl {A : Where} {w : World} {a : Option Addr} {n cap : Nat} {L : List Int} (h : SlAt RInt 1 8 A w a n cap L) (hn : 0 < n) : Calls Tryz.prog 25 #[.slice a n cap] w fun e w' => e = .returned (.int .i64 (Lib.minOf L)) ∧ w' = w := by
  obtain ⟨b, off, rfl, hc⟩ := ints_cells9 h hn
  obtain rfl := h.1
  have h4 := h.2.2.2.1
  have h5 := Tryz.slices_Min_int b off L.length cap L w hn (Nat.le_refl _) (by omega) hc
  rw [List.take_length] at h5
  exact h5
theorem Max_sl {A : Where} {w : World} {a : Option Addr} {n cap : Nat} {L : List Int} (h : SlAt RInt 1 8 A w a n cap L) (hn : 0 < n) : Calls Tryz.prog 24 #[.slice a n cap] w fun e w' => e = .returned (.int .i64 (Lib.maxOf L)) ∧ w' = w := by
  obtain ⟨b, off, rfl, hc⟩ := ints_cells9 h hn
  obtain rfl := h.1
  have h4 := h.2.2.2.1
  have h5 := Tryz.slices_Max_int b off L.length cap L w hn (Nat.le_refl _) (by omega) hc
  rw [List.take_length] at h5
  exact h5
/-- The least count, as the document has it. -/
def leastP (s : SpreadD) (N : List NodeD) (Q : List PlacedD) : Int := if ((domsP s.1 N).length : Int) < s.2.2.1 then 0 else (loP (fun v => cntP s v Q) (domsP s.1 N) : Int)
set_option maxHeartbeats 4000000 in
theorem least_calls (s : SpreadD) (r1 : Option Addr) (r2 r3 m1 m2 : Nat) (N : List NodeD) (Q : List PlacedD) (w : World) (h : Hid (CenAt w s r1 r2 r3 m1 m2 N Q)) :
    Calls Tryz.prog 56 #[.agg #[.string s.1, .int .i64 s.2.1, .int .i64 s.2.2.1, .slice r1 r2 r3, .map (some m1), .map (some m2)]] w fun e w' => e = .returned (.int .i64 (leastP s N Q)) ∧ Below w.heap.size w w' := by
  obtain ⟨W1, hW1⟩ : ∃ W, W = w.alloc (.cells #[.string s.1, .int .i64 s.2.1, .int .i64 s.2.2.1, .slice r1 r2 r3, .map (some m1), .map (some m2)] 58) := ⟨_, rfl⟩
  have B1 : Below w.heap.size w W1 := by rw [hW1]; go_grown
  have qx : BoxL W1 w.heap.size (cenV s r1 r2 r3 m1 m2) := by rw [hW1]; exact BoxL.new w 58 _
  have c0 := (qx.2 0 _ rfl).1
  have c1 := (qx.2 1 _ rfl).1
  have c2 := (qx.2 2 _ rfl).1
  have c3 := (qx.2 3 _ rfl).1
  have c4 := (qx.2 4 _ rfl).1
  have c5 := (qx.2 5 _ rfl).1
  have hC := counts_calls s r1 r2 r3 m1 m2 N Q W1 (h.out.on B1)
  have hbl : (cntsL s N Q).length * 8 ≤ 140737488351232 := by have := h.out.l; unfold cntsL; rw [List.length_map]; omega
  have HM : Hid (0 < (cntsL s N Q).length → Lib.minOf (cntsL s N Q) = (loP (fun v => cntP s v Q) (domsP s.1 N) : Int)) := fun hp => by
    unfold cntsL at hp ⊢
    rw [List.length_map] at hp
    exact minOf9 (fun v => cntP s v Q) hp
  have HL : Hid (leastP s N Q = if ((cntsL s N Q).length : Int) < s.2.2.1 then 0 else (loP (fun v => cntP s v Q) (domsP s.1 N) : Int)) := by unfold leastP cntsL; rw [Hid, List.length_map]
  have H0 : Hid ((cntsL s N Q).length = 0 → (loP (fun v => cntP s v Q) (domsP s.1 N) : Int) = 0) := fun hz => by
    unfold cntsL at hz
    rw [List.length_map] at hz
    rw [List.length_eq_zero_iff.1 hz]
    rfl
  have HB : Hid (Below w.heap.size w W1) := B1
  have HQ : Hid (∀ u, Below W1.heap.size W1 u → u.cell? ⟨w.heap.size, 2, none⟩ = some (.int .i64 s.2.2.1)) := fun u hb => ((qx.on hb).2 2 _ rfl).1
  clear h qx B1
  generalize leastP s N Q = ans at HL
  generalize (loP (fun v => cntP s v Q) (domsP s.1 N) : Int) = lo at HM HL H0
  generalize cntsL s N Q = L at hC hbl HM HL H0
  go_enter Tryz.func56, Tryz.ntmps56
  go_upto_region 1 with fail
  rw [← hW1]
  clear hW1
  go_wp2_with fail
  refine hC.mono ?_
  rintro e w2 ⟨v, rfl, hr⟩
  obtain ⟨a, cap, rfl, sv⟩ := hr.slT (bytes := 8) RInt.firm hbl
  have HB2 : Hid (Below w.heap.size w w2) := on2 HB.out hr.below
  have d2 := HQ.out w2 hr.below
  have hlen : L.length ≤ 9223372036854775807 := by omega
  have hMin : Hid (0 < L.length → Calls Tryz.prog 25 #[.slice a L.length cap] w2 fun e w' => e = .returned (.int .i64 (Lib.minOf L)) ∧ w' = w2) := fun hp => Min_sl sv hp
  clear hC hr sv c0 c1 c2 c3 c4 c5 HB HQ hbl
  generalize Lib.minOf L = mi at hMin HM
  generalize L.length = n at *
  clear L
  by_cases hz : n = 0
  · subst hz
    have hlo := H0.out rfl
    have hans : ans = 0 := by rw [HL.out, hlo]; split <;> rfl
    clear H0 HM HL hMin hlo
    subst hans
    go_wp2_with fail
    go_ret
    exact ⟨rfl, HB2.out⟩
  · by_cases hl : (n : Int) < s.2.2.1
    · have hans : ans = 0 := by rw [HL.out, if_pos hl]
      clear H0 HM HL hMin
      subst hans
      have hzb : ((n : Int) == 0) = false := by simp [hz]
      have hlb : decide ((n : Int) < s.2.2.1) = true := decide_eq_true hl
      go_wp2_with fail
      go_ret
      exact ⟨rfl, HB2.out⟩
    · have hans : ans = mi := by rw [HL.out, if_neg hl]; exact (HM.out (by omega)).symm
      have hc := hMin.out (by omega)
      have hzb : ((n : Int) == 0) = false := by simp [hz]
      have hlb : decide ((n : Int) < s.2.2.1) = false := decide_eq_false hl
      clear H0 HM HL hMin
      subst hans
      go_wp2_with fail
      refine hc.mono ?_
      rintro e w3 ⟨rfl, rfl⟩
      go_wp2_with fail
      go_ret
      exact ⟨rfl, HB2.out⟩
theorem lo_le9 (c : ByteArray → Nat) (M : Nat) (hM : ∀ d, c d ≤ M) (D : List ByteArray) : loP c D ≤ M := by
  by_cases h : D = []
  · subst h; exact Nat.zero_le _
  · obtain ⟨_, d, _, e⟩ := lo_spec c h
    rw [e]; exact hM d
theorem sizePo9 : (Tryz.prog.info? 49).map (·.size) = some 16 := by kernel_rfl
theorem least_bd {w : World} {s : SpreadD} {r1 : Option Addr} {r2 r3 m1 m2 : Nat} {N : List NodeD} {Q : List PlacedD} (h : CenAt w s r1 r2 r3 m1 m2 N Q) : 0 ≤ leastP s N Q ∧ leastP s N Q ≤ 140737488355328 := by
  obtain ⟨q, k, h3, h4⟩ := h.p
  have := (lo_le9 (fun v => cntP s v Q) 140737488355328 (fun d => by have := h3.le d; omega) (domsP s.1 N))
  unfold leastP
  split <;> omega
theorem bad_is (P L : List Lab) (N : List NodeD) (Q : List PlacedD) (s : SpreadD) {v : ByteArray} {t m : Bool} (hg : getL L s.1 = (v, t)) (hm : matchL P (sReqs s) = m) : (!badS P L N Q s) = (t && decide (((cntP s v Q : Nat) : Int) + (if m = true then 1 else 0) - leastP s N Q ≤ s.2.1)) := by
  unfold badS leastP
  rw [hg, hm]
  cases t
  · rfl
  · simp only [Bool.not_true, Bool.false_or, Bool.true_and]
    rw [← decide_not, decide_eq_decide]
    cases m
    · simp only [Bool.false_eq_true, if_false]
      rw [Int.not_lt]
      exact Iff.rfl
    · simp only [if_true]
      rw [Int.not_lt]
      exact Iff.rfl
def AdS (D : Nat) (s : SpreadD) (r1 : Option Addr) (r2 r3 m1 m2 : Nat) (u : World) : Prop :=
  u.cell? ⟨D, 0, none⟩ = some (.string s.1) ∧ u.cell? ⟨D, 1, none⟩ = some (.int .i64 s.2.1) ∧ u.cell? ⟨D, 2, none⟩ = some (.int .i64 s.2.2.1) ∧ u.cell? ⟨D, 3, none⟩ = some (.slice r1 r2 r3) ∧ u.cell? ⟨D, 4, none⟩ = some (.map (some m1)) ∧ u.cell? ⟨D, 5, none⟩ = some (.map (some m2))
theorem AdS.of {D : Nat} {s : SpreadD} {r1 : Option Addr} {r2 r3 m1 m2 : Nat} {u : World} (h : BoxL u D (cenV s r1 r2 r3 m1 m2)) : AdS D s r1 r2 r3 m1 m2 u :=
  ⟨(h.2 0 _ rfl).1, (h.2 1 _ rfl).1, (h.2 2 _ rfl).1, (h.2 3 _ rfl).1, (h.2 4 _ rfl).1, (h.2 5 _ rfl).1⟩
set_option maxHeartbeats 8000000 in
theorem admits_calls (s : SpreadD) (r1 : Option Addr) (r2 r3 m1 m2 : Nat) (N : List NodeD) (Q : List PlacedD) (cs : List Value) (p : PodD) (la : Option Addr) (ln lc : Nat) (Lb : List Lab) (w : World) (h : Hid (CenAt w s r1 r2 r3 m1 m2 N Q)) (hp : Hid (RPod (fun _ => True) w cs p)) (hL : Hid (SlAt RLabel 2 32 (fun _ => True) w la ln lc Lb)) :
    Calls Tryz.prog 48 #[.agg #[.string s.1, .int .i64 s.2.1, .int .i64 s.2.2.1, .slice r1 r2 r3, .map (some m1), .map (some m2)], .agg cs.toArray, .slice la ln lc] w fun e w' => e = .returned (.bool (!badS (pLabs p) Lb N Q s)) ∧ Below w.heap.size w w' := by
  have hi16 : (Tryz.prog.info? 49).map (·.size) = some cs.length := by rw [RPod.firm.len hp.out]; exact sizePo9
  obtain ⟨W1, hW1⟩ : ∃ W, W = w.alloc (.cells #[.string s.1, .int .i64 s.2.1, .int .i64 s.2.2.1, .slice r1 r2 r3, .map (some m1), .map (some m2)] 58) := ⟨_, rfl⟩
  obtain ⟨W2, hW2⟩ : ∃ W, W = W1.alloc (.cells cs.toArray 49) := ⟨_, rfl⟩
  have B1 : Below w.heap.size w W1 := by rw [hW1]; go_grown
  have B2 : Below W1.heap.size W1 W2 := by rw [hW2]; go_grown
  have hz : W1.heap.size = w.heap.size + 1 := by rw [hW1]; simp
  have qx : BoxL W2 w.heap.size (cenV s r1 r2 r3 m1 m2) := by refine BoxL.on ?_ B2; rw [hW1]; exact BoxL.new w 58 _
  have qp : BoxL W2 (w.heap.size + 1) cs := by rw [← hz, hW2]; exact BoxL.new W1 49 _
  have HU : Hid (∀ u, Below W2.heap.size W2 u → AdS w.heap.size s r1 r2 r3 m1 m2 u ∧ u.rangeAt (w.heap.size + 1) 0 cs ∧ CenAt u s r1 r2 r3 m1 m2 N Q ∧ RPod (fun _ => True) u cs p) := fun u hb => ⟨AdS.of (qx.on hb), (qp.on hb).range, h.out.on (on2 (on2 B1 B2) hb), RPod.firm.kept hp.out (Kept.below (on2 (on2 B1 B2) hb))⟩
  have hG := Get_sl9 la ln lc _ Lb s.1 W2 (hL.out.on RLabel.firm (on2 B1 B2))
  have hsz := getL_size hL.out s.1
  have HBd := least_bd h.out
  have HBad := fun (v : ByteArray) (t m : Bool) hg hm => bad_is (pLabs p) Lb N Q s (v := v) (t := t) (m := m) hg hm
  have HB : Hid (Below w.heap.size w W2) := on2 B1 B2
  have hc0 := (qx.2 0 _ rfl).1
  obtain ⟨qq, kk, hq3, hq4⟩ := h.out.p
  have HLk : Hid (∀ u, Below W2.heap.size W2 u → ∀ v : ByteArray, v.size ≤ 140737488355328 → (Instr.lookup 56 (.map (some m2)) (.string v) false).run Tryz.prog u = .ok (.int .i64 ((cntP s v Q : Nat) : Int)) u) := fun u hb v hv => (hq3.on (on2 (on2 B1 B2) hb)).look 56 Tryz.underlying56 hv
  have HLe : Hid (∀ v, cntP s v Q ≤ 140737488355328) := fun v => by have := hq3.le v; omega
  clear hq3 hq4 h hp hL qx qp B1 B2 hz
  generalize hg : getL Lb s.1 = g at hG hsz
  obtain ⟨v, t⟩ := g
  simp only at hG hsz
  generalize hmm : matchL (pLabs p) (sReqs s) = m
  have hb := HBad v t m hg hmm
  have HMt : Hid (matchL (pLabs p) (sReqs s) = m) := hmm
  clear HBad hg hmm
  generalize (!badS (pLabs p) Lb N Q s) = ans at hb
  go_enter Tryz.func48, Tryz.ntmps48
  go_upto_region 1 with fail
  rw [← hW1, ← hW2]
  clear hW1 hW2
  go_wp2_with fail
  refine hG.mono ?_
  clear hG hc0
  rintro e w1 ⟨rfl, hb1⟩
  cases t
  · have HB1 : Hid (Below w.heap.size w w1) := on2 HB.out hb1
    have hans : ans = false := by rw [hb]; rfl
    clear hb HU HLk HLe HB hb1
    subst hans
    go_wp2_with fail
    go_ret
    exact ⟨rfl, HB1.out⟩
  · obtain ⟨⟨c0, c1, c2, c3, c4, c5⟩, hrg, hcen, hpod⟩ := HU.out w1 hb1
    have hlk := HLk.out w1 hb1 v hsz
    have hle := HLe.out v
    have hM := meets_calls s r1 r2 r3 m1 m2 _ _ cs p w1 hpod hcen.r
    rw [HMt.out] at hM
    have HR : Hid (w1.rangeAt (w.heap.size + 1) 0 cs) := hrg
    have HBW : Hid (Below W2.heap.size W2 w1) := hb1
    have Hb : Hid (ans = decide (((cntP s v Q : Nat) : Int) + (if m = true then 1 else 0) - leastP s N Q ≤ s.2.1)) := by rw [Hid, hb]; simp
    clear hb hrg hcen hpod HLk HLe HMt hb1
    generalize cntP s v Q = c at hlk hle Hb
    go_wp2_with (first | (refine wpList_load_mid rfl 49 _ rfl (w.heap.size + 1) 0 rfl cs _ HR.out Tryz.underlying49 rfl hi16 ?_) | fail)
    refine hM.mono ?_
    rintro e w3 ⟨rfl, hb3⟩
    have HB3 : Hid (Below W2.heap.size W2 w3) := on2 HBW.out hb3
    clear hM c0 c1 c2 c3 c4 c5 HR HBW hb3 hlk
    have HU2 : Hid (∀ u, Below w3.heap.size w3 u → AdS w.heap.size s r1 r2 r3 m1 m2 u) := fun u hb => (HU.out u (on2 HB3.out hb)).1
    have HLs := least_calls s r1 r2 r3 m1 m2 N Q w3.drew ((HU.out w3 HB3.out).2.2.1.on (Below.refl _ _).drew)
    clear HU
    cases m
    · skip
      have Hb' : Hid (ans = decide (IntKind.i64.wrap ((c : Int) - leastP s N Q) ≤ s.2.1)) := by rw [Hid, Hb.out, show IntKind.i64.wrap ((c : Int) - leastP s N Q) = (c : Int) - leastP s N Q from by rw [IntWalk.i64_left]; unfold wrap64; omega]; simp
      clear Hb
      generalize leastP s N Q = le at HLs HBd Hb'
      go_upto_region 7 with fail
      refine t0 (AdS w.heap.size s r1 r2 r3 m1 m2) (HU2.out _ (Below.refl _ _).drew) (fun hHeld => ?_)
      try go_frame
      refine' tk 0 ?_ ?_; rotate_left
      · intro u ⟨_, _, _, _, _, _⟩; go_simp; try with_reducible rfl
      try go_frame
      refine' tk 1 ?_ ?_; rotate_left
      · intro u ⟨_, _, _, _, _, _⟩; go_simp; try with_reducible rfl
      try go_frame
      refine' tk 4 ?_ ?_; rotate_left
      · intro u ⟨_, _, _, _, _, _⟩; go_simp; try with_reducible rfl
      try go_frame
      refine' tk 5 ?_ ?_; rotate_left
      · intro u ⟨_, _, _, _, _, _⟩; go_simp; try with_reducible rfl
      try go_frame
      refine' tk 6 ?_ ?_; rotate_left
      · intro u ⟨_, _, _, _, _, _⟩; go_simp; try with_reducible rfl
      try go_frame
      refine tr 2 (fun K hK => ?_)
      go_simp
      refine HLs.mono ?_
      rintro e u1 ⟨rfl, hu1⟩
      have hd : Below w3.heap.size w3 u1 := on2 (Below.refl _ _).drew hu1
      have HB4 : Hid (Below w.heap.size w u1) := on2 (on2 HB.out HB3.out) hd
      go_wp2_with fail
      refine hK.out _ _ (HU2.out _ hd) (fun hHeld2 => ?_)
      clear hK K hHeld; have hHeld := hHeld2; clear hHeld2
      try go_frame
      refine' tk 3 ?_ ?_; rotate_left
      · intro u ⟨_, _, _, _, _, _⟩; go_simp; try with_reducible rfl
      try go_frame
      refine' tk 7 ?_ ?_; rotate_left
      · intro u ⟨_, _, _, _, _, _⟩; go_simp; try with_reducible rfl
      try go_frame
      refine' tk 8 ?_ ?_; rotate_left
      · intro u ⟨_, _, _, _, _, _⟩; go_simp; try with_reducible rfl
      try go_frame
      refine tz ?_
      go_wp2_with fail
      go_ret
      exact ⟨by rw [Hb'.out]; rfl, HB4.out⟩
    · skip
      have Hb' : Hid (ans = decide (IntKind.i64.wrap ((c : Int) + 1 - leastP s N Q) ≤ s.2.1)) := by rw [Hid, Hb.out, show IntKind.i64.wrap ((c : Int) + 1 - leastP s N Q) = (c : Int) + 1 - leastP s N Q from by rw [IntWalk.i64_left]; unfold wrap64; omega]; simp
      clear Hb
      generalize leastP s N Q = le at HLs HBd Hb'
      go_upto_region 7 with fail
      refine t0 (AdS w.heap.size s r1 r2 r3 m1 m2) (HU2.out _ (Below.refl _ _).drew) (fun hHeld => ?_)
      try go_frame
      refine' tk 0 ?_ ?_; rotate_left
      · intro u ⟨_, _, _, _, _, _⟩; go_simp; try with_reducible rfl
      try go_frame
      refine' tk 1 ?_ ?_; rotate_left
      · intro u ⟨_, _, _, _, _, _⟩; go_simp; try with_reducible rfl
      try go_frame
      refine' tk 4 ?_ ?_; rotate_left
      · intro u ⟨_, _, _, _, _, _⟩; go_simp; try with_reducible rfl
      try go_frame
      refine' tk 5 ?_ ?_; rotate_left
      · intro u ⟨_, _, _, _, _, _⟩; go_simp; try with_reducible rfl
      try go_frame
      refine' tk 6 ?_ ?_; rotate_left
      · intro u ⟨_, _, _, _, _, _⟩; go_simp; try with_reducible rfl
      try go_frame
      refine tr 2 (fun K hK => ?_)
      go_simp
      refine HLs.mono ?_
      rintro e u1 ⟨rfl, hu1⟩
      have hd : Below w3.heap.size w3 u1 := on2 (Below.refl _ _).drew hu1
      have HB4 : Hid (Below w.heap.size w u1) := on2 (on2 HB.out HB3.out) hd
      go_wp2_with fail
      refine hK.out _ _ (HU2.out _ hd) (fun hHeld2 => ?_)
      clear hK K hHeld; have hHeld := hHeld2; clear hHeld2
      try go_frame
      refine' tk 3 ?_ ?_; rotate_left
      · intro u ⟨_, _, _, _, _, _⟩; go_simp; try with_reducible rfl
      try go_frame
      refine' tk 7 ?_ ?_; rotate_left
      · intro u ⟨_, _, _, _, _, _⟩; go_simp; try with_reducible rfl
      try go_frame
      refine' tk 8 ?_ ?_; rotate_left
      · intro u ⟨_, _, _, _, _, _⟩; go_simp; try with_reducible rfl
      try go_frame
      refine tz ?_
      go_wp2_with fail
      go_ret
      exact ⟨by rw [Hb'.out]; rfl, HB4.out⟩
end Go.Proofs.YtillkgflppabfaaGreatDoor
namespace Go.Proofs.YtillkgflppabfaaGreatDoor
open Go.RowKit
set_option linter.unusedSimpArgs false

theorem range_new {u : World} {T : TypeId} {b o : Nat} {p c q : List Value} (hb : u.heap.size = b) (ho : p.length = o) : (u.alloc (.cells (p ++ (c ++ q)).toArray T)).rangeAt b o c := by
  subst hb ho
  intro j v hj
  have : (u.alloc (.cells (p ++ (c ++ q)).toArray T)).heap[u.heap.size]? = some (.cells (p ++ (c ++ q)).toArray T) := heap_new u _ _ rfl
  generalize u.alloc (.cells (p ++ (c ++ q)).toArray T) = u' at this ⊢
  have hl : j < c.length := (List.getElem?_eq_some_iff.1 hj).1
  simp only [World.cell?, this]
  rw [List.getElem?_toArray, List.getElem?_append_right (by omega), show p.length + j - p.length = j by omega, List.getElem?_append_left hl]
  exact hj
theorem range_all {u : World} {T : TypeId} {b : Nat} {c : List Value} (hb : u.heap.size = b) : (u.alloc (.cells c.toArray T)).rangeAt b 0 c := by
  have := range_new (u := u) (T := T) (p := []) (c := c) (q := []) hb rfl
  simpa using this
theorem there_new {u : World} {T : TypeId} {b n : Nat} {c : Array Value} (hb : u.heap.size = b) (hn : c.size = n) : (u.alloc (.cells c T)).there b 0 n := by
  subst hb hn
  intro j hj
  have : (u.alloc (.cells c T)).heap[u.heap.size]? = some (.cells c T) := heap_new u _ _ rfl
  generalize u.alloc (.cells c T) = u' at this ⊢
  simp [World.cell?, World.frozen?, this, hj]
theorem range_on {w w' : World} {B b o : Nat} {c : List Value} (h : w.rangeAt b o c) (hb : Below B w w') (hB : b < B) : w'.rangeAt b o c := fun j v hj => (hb.cell (p := ⟨b, o + j, none⟩) hB).trans (h j v hj)
theorem there_on {w w' : World} {B b o n : Nat} (h : w.there b o n) (hb : Below B w w') (hB : b < B) : w'.there b o n := fun j hj => by
  rw [hb.cell (p := ⟨b, o + j, none⟩) hB, hb.frozen (p := ⟨b, o + j, none⟩) hB]; exact h j hj
theorem below_setCells {B b : Nat} {a : World} : ∀ {vs : List Value} {o : Nat} {u : World}, Below B a u → B ≤ b → Below B a (u.setCells b o vs)
  | [], _, _, h, _ => h
  | v :: r, o, u, h, hb => by
    rw [World.setCells]
    exact below_setCells (h.setCell (p := ⟨b, o, none⟩) hb v) hb
theorem size_setCells {b : Nat} : ∀ {vs : List Value} {o : Nat} {u : World}, (u.setCells b o vs).heap.size = u.heap.size
  | [], _, _ => rfl
  | v :: r, o, u => by rw [World.setCells, size_setCells]; simp
theorem kept_setCells {A : Where} {b : Nat} (h : ¬ A b) : ∀ {vs : List Value} {o : Nat} {u : World}, Kept A u (u.setCells b o vs)
  | [], _, u => Kept.refl A u
  | v :: r, o, u => by
    rw [World.setCells]
    exact (Kept.set (p := ⟨b, o, none⟩) h v).trans (kept_setCells h)

/-- One result, a struct that lies in memory. -/
theorem res_cell {P : Program} {fn : Func} {p : Tmp} {ty : TypeId} (h : fn.results = #[.cell p ty]) (tmps : Array Value) (w : World) (b : Nat) (cs : List Value) (d : TypeDesc)
    (hp : tmps.getD p undef = .pointer (some ⟨b, 0, none⟩)) (hr : w.rangeAt b 0 cs) (hu : P.underlying ty = some d) (hd : d.isRow = true) (hi : (P.info? ty).map (·.size) = some cs.length) :
    (results fn tmps).run P w = .ok (.agg cs.toArray) w := by
  have hp' : tmps[p]?.getD undef = .pointer (some ⟨b, 0, none⟩) := by simpa using hp
  simp [results, h, hp', asAddr, run_loadVar_mid w b 0 ty cs d hr hu hd hi]
/-- Two results, the first a struct that lies in memory. -/
theorem res_cell2 {P : Program} {fn : Func} {p q : Tmp} {ty : TypeId} (h : fn.results = #[.cell p ty, .tmp q]) (tmps : Array Value) (w : World) (b : Nat) (cs : List Value) (d : TypeDesc) (y : Value)
    (hp : tmps.getD p undef = .pointer (some ⟨b, 0, none⟩)) (hq : tmps.getD q undef = y) (hr : w.rangeAt b 0 cs) (hu : P.underlying ty = some d) (hd : d.isRow = true) (hi : (P.info? ty).map (·.size) = some cs.length) :
    (results fn tmps).run P w = .ok (.tuple #[.agg cs.toArray, y]) w := by
  have hp' : tmps[p]?.getD undef = .pointer (some ⟨b, 0, none⟩) := by simpa using hp
  have hq' : tmps[q]?.getD undef = y := by simpa using hq
  simp [results, h, hp', hq', asAddr, run_loadVar_mid w b 0 ty cs d hr hu hd hi]
/-- Three results, the first a struct that lies in memory. -/
theorem res_cell3 {P : Program} {fn : Func} {p q r : Tmp} {ty : TypeId} (h : fn.results = #[.cell p ty, .tmp q, .tmp r]) (tmps : Array Value) (w : World) (b : Nat) (cs : List Value) (d : TypeDesc) (y z : Value)
    (hp : tmps.getD p undef = .pointer (some ⟨b, 0, none⟩)) (hq : tmps.getD q undef = y) (hz : tmps.getD r undef = z) (hr : w.rangeAt b 0 cs) (hu : P.underlying ty = some d) (hd : d.isRow = true) (hi : (P.info? ty).map (·.size) = some cs.length) :
    (results fn tmps).run P w = .ok (.tuple #[.agg cs.toArray, y, z]) w := by
  have hp' : tmps[p]?.getD undef = .pointer (some ⟨b, 0, none⟩) := by simpa using hp
  have hq' : tmps[q]?.getD undef = y := by simpa using hq
  have hz' : tmps[r]?.getD undef = z := by simpa using hz
  simp [results, h, hp', hq', hz', asAddr, run_loadVar_mid w b 0 ty cs d hr hu hd hi]
end Go.Proofs.YtillkgflppabfaaGreatDoor
namespace Go.Proofs.YtillkgflppabfaaGreatDoor
open Go.RowKit
set_option linter.unusedSimpArgs false

theorem wpl_w8 {P : Program} {ops : Array Oper} {Q : Exit → Act → World → Prop} {rest : List Oper} {a : Act} {u W : World} (h : W = u) (k : wpList P ops Q rest a W) : wpList P ops Q rest a u := h ▸ k
theorem box_over8 {u : World} {D : Nat} {zs cs : List Value} (hb : BoxL u D zs) (hl : zs.length = cs.length) : BoxL (u.setCells D 0 cs) D cs := by
  have hth : u.there D 0 cs.length := hl ▸ hb.there
  have hr := World.rangeAt_setCells_same u D 0 cs hth
  have ht2 := World.there_setCells hth D 0 cs
  refine ⟨Nat.lt_of_lt_of_le hb.1 (kept_setCells (A := fun _ => False) (b := D) (fun h => h) (vs := cs) (o := 0) (u := u)).1, fun j v hj => ?_⟩
  have h1 := hr j v hj
  have h2 := (ht2 j (List.getElem?_eq_some_iff.1 hj).1).2
  rw [Nat.zero_add] at h1 h2
  exact ⟨h1, h2⟩
end Go.Proofs.YtillkgflppabfaaGreatDoor
