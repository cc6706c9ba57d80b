/- tally.why and near.Check tell what is counted. Condition: the arguments lie as is said of them; few enough terms. A sheet on which a likeness is written: sheet.number, text, flag. Condition: the sheet is the call's own; what is written has room. -/
import Derived.Test.YtfnafgmengefaaaGreatDoorQ17
import Derived.Test.YtfnafgmengefaaaGreatDoorQ13
import Derived.Test.YtfnafgmengefaaaGreatDoorShelf
import Derived.Lib.AppendIntMem
import Derived.Lib.AppendStr
import Derived.Lib.ItoaLen
import Derived.Lib.OthersKept
import Derived.OneCell
import Derived.Lib.Hide
import Derived.OwnWalk
namespace Go.Proofs.YtfnafgmengefaaaGreatDoor
open Go.RowKit Go.Maps
set_option linter.unusedSimpArgs false
set_option maxRecDepth 100000

set_option maxHeartbeats 4000000 in
theorem twhy_calls {w : World} {T : TalD} {ts : List Value} {A A' : Where} {N : Nat} {g : TermD → Lab → Int} {oF : Lab → Int} (z : TermD → Bool) (hz : ∀ t ∈ tNear T, (z t.1 = true ↔ ∀ d, okL d → g t.1 d = 0)) (a : Option Addr) (n cap : Nat) (L : List Lab) (hM : Hid (MapsAt w T N g oF)) (hT' : Hid (RTally A w ts T)) (hL : Hid (SlAt RLabel 2 32 A' w a n cap L)) :
    Calls Tryz.prog 23 #[.agg ts.toArray, .slice a n cap] w fun e w' => e = .returned (.int .i64 (whyG T L g z oF)) ∧ Below w.heap.size w w' := by
  have HTA : Hid (RTally A w ts T) := hT'
  obtain ⟨⟨a1, n1, m1⟩, ⟨a2, n2, m2⟩, ⟨a3, n3, m3⟩, rfl, _, _, _, _⟩ := hT'.out.out
  simp only at HTA ⊢
  obtain ⟨W1, hW1⟩ : ∃ W, W = w.alloc (.cells #[.string T.1, .slice a1 n1 m1, .slice a2 n2 m2, .slice a3 n3 m3, .map (some T.2.2.2.2)] 66) := ⟨_, rfl⟩
  have B1 : Below w.heap.size w W1 := by rw [hW1]; go_grown
  have q0 : BoxL W1 w.heap.size [.string T.1, .slice a1 n1 m1, .slice a2 n2 m2, .slice a3 n3 m3, .map (some T.2.2.2.2)] := by rw [hW1]; exact BoxL.new w 66 _
  have HQ : Hid (∀ u, Below W1.heap.size W1 u → BoxL u w.heap.size [.string T.1, .slice a1 n1 m1, .slice a2 n2 m2, .slice a3 n3 m3, .map (some T.2.2.2.2)] ∧ Below w.heap.size w u) := fun u hb => ⟨q0.on hb, on2 B1 hb⟩
  have HC1 : Hid (∀ u, Below W1.heap.size W1 u → Calls Tryz.prog 48 #[.agg #[.string T.1, .slice a1 n1 m1, .slice a2 n2 m2, .slice a3 n3 m3, .map (some T.2.2.2.2)], .slice a n cap] u fun e w' => e = .returned (.bool ((tNear T).any (fun t => lkG T.2.1 L g z t.1))) ∧ Below u.heap.size u w') := fun u hb => tlacks_calls z hz a n cap L (hM.out.below (on2 B1 hb)) (RTally.firm.kept HTA.out (Kept.below (on2 B1 hb))) (hL.out.on RLabel.firm (on2 B1 hb))
  have HC2 : Hid (∀ u, Below W1.heap.size W1 u → Calls Tryz.prog 49 #[.agg #[.string T.1, .slice a1 n1 m1, .slice a2 n2 m2, .slice a3 n3 m3, .map (some T.2.2.2.2)], .slice a n cap] u fun e w' => e = .returned (.bool ((tApart T).any (fun t => apG L g t.1))) ∧ Below u.heap.size u w') := fun u hb => tavoids_calls z hz a n cap L (hM.out.below (on2 B1 hb)) (RTally.firm.kept HTA.out (Kept.below (on2 B1 hb))) (hL.out.on RLabel.firm (on2 B1 hb))
  have HC3 : Hid (∀ u, Below W1.heap.size W1 u → Calls Tryz.prog 50 #[.agg #[.string T.1, .slice a1 n1 m1, .slice a2 n2 m2, .slice a3 n3 m3, .map (some T.2.2.2.2)], .slice a n cap] u fun e w' => e = .returned (.bool (L.any (otG L oF))) ∧ Below u.heap.size u w') := fun u hb => tavoided_calls z hz a n cap L (hM.out.below (on2 B1 hb)) (RTally.firm.kept HTA.out (Kept.below (on2 B1 hb))) (hL.out.on RLabel.firm (on2 B1 hb))
  unfold whyG
  clear hM hT' hL HTA q0 hz
  generalize (tNear T).any (fun t => lkG T.2.1 L g z t.1) = x1 at HC1 ⊢
  generalize (tApart T).any (fun t => apG L g t.1) = x2 at HC2 ⊢
  generalize L.any (otG L oF) = x3 at HC3 ⊢
  have y0 := ((HQ.out W1 (Below.refl _ _)).1.2 0 _ rfl).1; have y1 := ((HQ.out W1 (Below.refl _ _)).1.2 1 _ rfl).1; have y2 := ((HQ.out W1 (Below.refl _ _)).1.2 2 _ rfl).1; have y3 := ((HQ.out W1 (Below.refl _ _)).1.2 3 _ rfl).1; have y4 := ((HQ.out W1 (Below.refl _ _)).1.2 4 _ rfl).1
  go_enter Tryz.func23, Tryz.ntmps23
  go_upto_region 1 with fail
  rw [← hW1]
  clear hW1
  go_wp2_with fail
  refine (HC1.out W1 (Below.refl _ _)).mono ?_
  rintro e w2 ⟨rfl, hb2⟩
  clear HC1 y0 y1 y2 y3 y4
  cases x1
  ·
    obtain ⟨k0, _⟩ := HQ.out w2 hb2
    have y0 := (k0.2 0 _ rfl).1; have y1 := (k0.2 1 _ rfl).1; have y2 := (k0.2 2 _ rfl).1; have y3 := (k0.2 3 _ rfl).1; have y4 := (k0.2 4 _ rfl).1
    clear k0
    go_wp2_with fail
    refine (HC2.out w2 hb2).mono ?_
    rintro e w3 ⟨rfl, hb3⟩
    have hb3' := on2 hb2 hb3
    clear HC2 y0 y1 y2 y3 y4 hb3
    cases x2
    ·
      obtain ⟨k0, _⟩ := HQ.out w3 hb3'
      have y0 := (k0.2 0 _ rfl).1; have y1 := (k0.2 1 _ rfl).1; have y2 := (k0.2 2 _ rfl).1; have y3 := (k0.2 3 _ rfl).1; have y4 := (k0.2 4 _ rfl).1
      clear k0
      go_wp2_with fail
      refine (HC3.out w3 hb3').mono ?_
      rintro e w4 ⟨rfl, hb4⟩
      have HB : Hid (Below w.heap.size w w4) := (HQ.out w4 (on2 hb3' hb4)).2
      clear HC3 y0 y1 y2 y3 y4 hb4
      cases x3
      · go_wp2_with fail
        go_ret
        exact ⟨rfl, HB.out⟩
      · go_wp2_with fail
        go_ret
        exact ⟨rfl, HB.out⟩
    · have HB : Hid (Below w.heap.size w w3) := (HQ.out w3 hb3').2
      go_wp2_with fail
      go_ret
      exact ⟨rfl, HB.out⟩
  · have HB : Hid (Below w.heap.size w w2) := (HQ.out w2 hb2).2
    go_wp2_with fail
    go_ret
    exact ⟨rfl, HB.out⟩

theorem cT_snoc (t : TermD) (A : List PlacedD) (x : PlacedD) : addF (cT t A) (hT t x) 1 = cT t (A ++ [x]) := by
  funext d
  unfold addF cT one
  rw [List.map_append, List.sum_append]
  simp
theorem cO_snoc (P : List Lab) (A : List PlacedD) (x : PlacedD) : (fun d => cO P A d + 1 * cX P x (pApart x.1) d) = cO P (A ++ [x]) := by
  funext d
  unfold cO
  rw [List.map_append, List.sum_append]
  simp
/-- How much is counted at most. -/
def cost (l : List PlacedD) : Nat := (l.map (fun x => 1 + (pApart x.1).length)).sum
theorem cost_snoc (l : List PlacedD) (x : PlacedD) : cost (l ++ [x]) = cost l + (1 + (pApart x.1).length) := by unfold cost; rw [List.map_append, List.sum_append]; simp
theorem cost_take (l : List PlacedD) (k : Nat) : cost (l.take k) ≤ cost l := by
  have : cost l = cost (l.take k) + cost (l.drop k) := by
    unfold cost
    rw [← List.sum_append, ← List.map_append, List.take_append_drop]
  omega
theorem others_snoc (name : ByteArray) (l : List PlacedD) (x : PlacedD) : othersN name (l ++ [x]) = othersN name l ++ (if sEq x.1.1 name = true then [] else [x]) := by
  unfold othersN
  rw [List.filter_append]
  congr 1
  cases h : sEq x.1.1 name <;> simp [h]
theorem cTo_snoc (nm : ByteArray) (B : List PlacedD) (x : PlacedD) : (if sEq x.1.1 nm = true then (fun t => cT t (othersN nm B)) else fun t => addF (cT t (othersN nm B)) (hT t x) 1) = fun t => cT t (othersN nm (B ++ [x])) := by
  rw [others_snoc]
  cases sEq x.1.1 nm
  · exact funext (fun t => cT_snoc t _ x)
  · simp
theorem cOo_snoc (P : List Lab) (nm : ByteArray) (B : List PlacedD) (x : PlacedD) : (if sEq x.1.1 nm = true then cO P (othersN nm B) else fun d => cO P (othersN nm B) d + 1 * cX P x (pApart x.1) d) = cO P (othersN nm (B ++ [x])) := by
  rw [others_snoc]
  cases sEq x.1.1 nm
  · exact cO_snoc P _ x
  · simp
theorem whyG_is (T : TalD) (p : PodD) (L : List Lab) (A : List PlacedD) (hl : T.2.1 = pLabs p) (ha : (tNear T).map Prod.fst = pNear p) (hb : (tApart T).map Prod.fst = pApart p) : whyG T L (fun t => cT t A) (fun t => eT t A) (cO (pLabs p) A) = whyN (pLabs p) (pNear p) (pApart p) L A := by
  unfold whyG whyN
  rw [← ha, ← hb, hl, List.any_map, List.any_map]
  rfl
theorem placed_ok {A : Where} {w : World} {a : Option Addr} {n cap : Nat} {L : List PlacedD} (h : SlAt RPlaced 17 320 A w a n cap L) : ∀ x ∈ L, ∀ l ∈ x.2, okL l := fun x hx => by
  have hl := h.1
  obtain ⟨i, hi, rfl⟩ := List.mem_iff_getElem.1 hx
  obtain ⟨B, off, _, _, _, cs, hr, _⟩ := h.get (i := i) (by omega)
  rw [List.getD_eq_getElem?_getD, List.getElem?_eq_getElem hi] at hr
  obtain ⟨_, _, h16, _, _, _, _, _, _, s⟩ := hr.reads
  exact sl_okL s
theorem wish_ok {A : Where} {w : World} {a : Option Addr} {n cap : Nat} {L : List WishD} (h : SlAt RWish 3 48 A w a n cap L) : ∀ t ∈ L, t.1.2.size ≤ 140737488355328 := fun x hx => by
  have hl := h.1
  obtain ⟨i, hi, rfl⟩ := List.mem_iff_getElem.1 hx
  obtain ⟨B, off, _, _, _, cs, hr, _⟩ := h.get (i := i) (by omega)
  rw [List.getD_eq_getElem?_getD, List.getElem?_eq_getElem hi] at hr
  obtain ⟨_, _, _, s⟩ := hr.out
  exact s
theorem others_mem {name : ByteArray} {l : List PlacedD} {x : PlacedD} (h : x ∈ othersN name l) : x ∈ l := (List.mem_filter.1 h).1
/-- What is kept of a tally and its counts while one after the other is counted. -/
structure Run (T : TalD) (W wr : World) (ts : List Value) (P : List Lab) (A : List PlacedD) (N : Nat) : Prop where
  m : MapsAt wr T N (fun t => cT t A) (cO P A)
  t : Turns (fun b => b ∈ mapsT T) W wr
set_option maxHeartbeats 8000000 in
theorem NCheck_calls (cs : List Value) (A A' A'' : Where) (p : PodD) (a : Option Addr) (n cap : Nat) (L : List Lab) (b : Option Addr) (m capb : Nat) (Pl : List PlacedD) (w : World) (hp : Hid (RPod A w cs p)) (hL : Hid (SlAt RLabel 2 32 A' w a n cap L)) (hP : Hid (SlAt RPlaced 17 320 A'' w b m capb Pl)) (hn : (pNear p).length < 1000000000) (hm : (pApart p).length < 1000000000) (hcost : cost Pl < 70368744177000) :
    Calls Tryz.prog 6 #[.agg cs.toArray, .slice a n cap, .slice b m capb] w fun e w' => e = .returned (.int .i64 (nearP p L Pl)) ∧ Below w.heap.size w w' := by
  have hiP : (Tryz.prog.info? 33).map (·.size) = some cs.length := by rw [RPod.firm.len hp.out]; exact sizePo
  obtain ⟨W1, hW1⟩ : ∃ W, W = w.alloc (.cells cs.toArray 33) := ⟨_, rfl⟩
  have B1 : Below w.heap.size w W1 := by rw [hW1]; go_grown
  have HR0 : Hid (W1.rangeAt w.heap.size 0 cs) := by rw [Hid, hW1]; exact (BoxL.new w 33 cs).range
  have HTo := tallyOf_calls cs A p W1 (RPod.firm.kept hp.out (Kept.below B1)) hn hm
  have HLw : Hid (SlAt RLabel 2 32 (fun b => b < w.heap.size) w a n cap L) := hL.out.weak RLabel.firm (fun b hb _ => hb)
  have HPw : Hid (SlAt RPlaced 17 320 (fun b => b < w.heap.size) w b m capb Pl) := hP.out.weak RPlaced.firm (fun b hb _ => hb)
  have hml : Hid (Pl.length = m) := hP.out.1
  have hmb : m < 140737488355328 := by have := hP.out.2.2.2.1; omega
  have HPO : Hid (∀ x ∈ Pl, ∀ l ∈ x.2, okL l) := placed_ok hP.out
  have HB1 : Hid (Below w.heap.size w W1) := B1
  clear hp hL hP hn hm B1
  go_enter Tryz.func6, Tryz.ntmps6
  go_upto_region 1 with fail
  rw [← hW1]
  clear hW1
  go_wp2_with (first | (refine wpList_load_mid rfl 33 _ rfl w.heap.size 0 rfl cs _ HR0.out Tryz.underlying33 rfl hiP ?_) | fail)
  refine HTo.mono ?_
  rintro e w2 ⟨ts, T, rfl, h0, hb2⟩
  clear HTo HR0 hiP
  obtain ⟨⟨a1, n1, m1⟩, ⟨a2, n2, m2⟩, ⟨a3, n3, m3⟩, rfl, _, s1, s2, s3⟩ := h0.r.out
  simp only at s1 s2 s3
  obtain ⟨W3, hW3⟩ : ∃ W, W = w2.alloc (.cells #[.string T.1, .slice a1 n1 m1, .slice a2 n2 m2, .slice a3 n3 m3, .map (some T.2.2.2.2)] 66) := ⟨_, rfl⟩
  have B3 : Below w2.heap.size w2 W3 := by rw [hW3]; go_grown
  have q3 : BoxL W3 w2.heap.size [.string T.1, .slice a1 n1 m1, .slice a2 n2 m2, .slice a3 n3 m3, .map (some T.2.2.2.2)] := by rw [hW3]; exact BoxL.new w2 66 _
  have bw3 : Below w.heap.size w W3 := on2 (on2 HB1.out hb2) B3
  have hfw : ∀ b ∈ mapsT T, w.heap.size ≤ b := fun b hb => Nat.le_trans HB1.out.size (h0.f b hb)
  have n3' : NM T w2.heap.size := fun h => absurd (h0.m.lt h) (Nat.lt_irrefl _)
  have HWk : Hid (∀ t ∈ tNear T, t.1.2.size ≤ 140737488355328) := wish_ok s2
  have HQ : Hid (∀ u, Turns (fun b => b ∈ mapsT T) W3 u → BoxL u w2.heap.size [.string T.1, .slice a1 n1 m1, .slice a2 n2 m2, .slice a3 n3 m3, .map (some T.2.2.2.2)] ∧ RTally (NM T) u [.string T.1, .slice a1 n1 m1, .slice a2 n2 m2, .slice a3 n3 m3, .map (some T.2.2.2.2)] T ∧ SlAt RLabel 2 32 (NM T) u a n cap L ∧ SlAt RPlaced 17 320 (NM T) u b m capb Pl ∧ Below w.heap.size w u) := fun u ht =>
    have k := kept_nm ht
    have nm : ∀ b, b < W3.heap.size → b < w.heap.size → NM T b := fun b _ h1 h2 => by have := hfw b h2; omega
    ⟨q3.kept k n3', RTally.firm.kept (RTally.firm.kept (RTally.firm.weak h0.r (fun _ _ h => h.1)) (Kept.below B3)) k, ((HLw.out.on RLabel.firm bw3).weak RLabel.firm nm).kept RLabel.firm k, ((HPw.out.on RPlaced.firm bw3).weak RPlaced.firm nm).kept RPlaced.firm k, Turns.behind bw3 (ht.weak (fun b _ h => hfw b h))⟩
  have HRun : Hid (Run T W3 W3 [.string T.1, .slice a1 n1 m1, .slice a2 n2 m2, .slice a3 n3 m3, .map (some T.2.2.2.2)] (pLabs p) (othersN p.1 (Pl.take 0)) (cost (Pl.take 0))) := ⟨h0.m.below B3, Turns.refl _ _⟩
  have HTn : Hid (T.1 = p.1 ∧ T.2.1 = pLabs p ∧ (tNear T).map Prod.fst = pNear p ∧ (tApart T).map Prod.fst = pApart p) := ⟨h0.n, h0.l, h0.a, h0.b⟩
  have hszW : Hid (W3.heap.size = w2.heap.size + 1) := by rw [Hid, hW3]; simp
  clear h0 s1 s2 s3 q3 HLw HPw B3 bw3 hb2 hfw n3' HB1
  go_upto_region 2 with fail
  rw [← hW3]
  clear hW3
  go_wp2_with fail
  go_loopw [14] (fun i wr => ∃ k : Nat, k ≤ m ∧ i = .int .i64 k ∧ Hid (Run T W3 wr [.string T.1, .slice a1 n1 m1, .slice a2 n2 m2, .slice a3 n3 m3, .map (some T.2.2.2.2)] (pLabs p) (othersN p.1 (Pl.take k)) (cost (Pl.take k)))) (fun i _ => m - (intOf i).toNat)
  case atStart => exact ⟨0, Nat.zero_le _, rfl, HRun⟩
  case round =>
    obtain ⟨k, hk, rfl, hrun⟩ := hrel
    obtain ⟨k0, k1, k2, k3, k4⟩ := HQ.out wr hrun.out.t
    by_cases hlt : k < m
    ·
      obtain ⟨B, off, rfl, hB, hAB, xs, hr, hv⟩ := k3.get hlt
      have HT1 : Hid (Pl.take k ++ [Pl.getD k default] = Pl.take (k + 1)) := take_at8 (by rw [hml.out]; exact hlt)
      have hck := cost_take Pl (k + 1)
      rw [← HT1.out, cost_snoc] at hck
      have HT3 : Hid (cost (Pl.take (k + 1)) = cost (Pl.take k) + (1 + (pApart (Pl.getD k default).1).length)) := by rw [Hid, ← HT1.out]; exact cost_snoc _ _
      generalize Pl.getD k default = x at hr HT1 HT3 hck
      have hl17 : xs.length = 17 := RPlaced.firm.len hr
      have hi17 : (Tryz.prog.info? 41).map (·.size) = some xs.length := by rw [hl17]; exact sizePl
      have hi17a : (Tryz.prog.info? 41).map (·.size) = some xs.toArray.size := by simpa using hi17
      have HO : Hid (xs.toArray.all (·.oneCell') = true) := all_oneCell_toArray (RPlaced.firm.one hr)
      have HV : Hid (wr.rangeAt B (off + k * 17) xs) := hv
      have HVz : Hid ((wr.alloc (.cells #[.string ⟨#[]⟩, .int .i64 0, .slice none 0 0, .int .i64 0, .int .i64 0, .int .i64 0, .slice none 0 0, .slice none 0 0, .slice none 0 0, .slice none 0 0, .slice none 0 0, .slice none 0 0, .slice none 0 0, .slice none 0 0, .string ⟨#[]⟩, .string ⟨#[]⟩, .slice none 0 0] 41)).rangeAt B (off + k * 17) xs) := fun j v hj => (((Below.refl _ wr).alloc (Nat.le_refl _) _).cell hB).trans (hv j v hj)
      obtain ⟨V, hV⟩ : ∃ V, V = (wr.alloc (.cells #[.string ⟨#[]⟩, .int .i64 0, .slice none 0 0, .int .i64 0, .int .i64 0, .int .i64 0, .slice none 0 0, .slice none 0 0, .slice none 0 0, .slice none 0 0, .slice none 0 0, .slice none 0 0, .slice none 0 0, .slice none 0 0, .string ⟨#[]⟩, .string ⟨#[]⟩, .slice none 0 0] 41)).setCells wr.heap.size 0 xs := ⟨_, rfl⟩
      have HTh : Hid ((wr.alloc (.cells #[.string ⟨#[]⟩, .int .i64 0, .slice none 0 0, .int .i64 0, .int .i64 0, .int .i64 0, .slice none 0 0, .slice none 0 0, .slice none 0 0, .slice none 0 0, .slice none 0 0, .slice none 0 0, .slice none 0 0, .slice none 0 0, .string ⟨#[]⟩, .string ⟨#[]⟩, .slice none 0 0] 41)).there wr.heap.size 0 xs.toArray.size) := by have e : xs.toArray.size = 17 := (by simp [hl17]); rw [Hid, e]; exact (BoxL.new wr 41 [.string ⟨#[]⟩, .int .i64 0, .slice none 0 0, .int .i64 0, .int .i64 0, .int .i64 0, .slice none 0 0, .slice none 0 0, .slice none 0 0, .slice none 0 0, .slice none 0 0, .slice none 0 0, .slice none 0 0, .slice none 0 0, .string ⟨#[]⟩, .string ⟨#[]⟩, .slice none 0 0]).there
      have bV : Below wr.heap.size wr V := by rw [hV]; exact below_setCells ((Below.refl _ _).alloc (Nat.le_refl _) _) (Nat.le_refl _)
      have qV : BoxL V wr.heap.size xs := by rw [hV]; exact box_over8 (BoxL.new wr 41 [.string ⟨#[]⟩, .int .i64 0, .slice none 0 0, .int .i64 0, .int .i64 0, .int .i64 0, .slice none 0 0, .slice none 0 0, .slice none 0 0, .slice none 0 0, .slice none 0 0, .slice none 0 0, .slice none 0 0, .slice none 0 0, .string ⟨#[]⟩, .string ⟨#[]⟩, .slice none 0 0]) (by rw [hl17]; rfl)
      have HWV : Hid (V = (wr.alloc (.cells #[.string ⟨#[]⟩, .int .i64 0, .slice none 0 0, .int .i64 0, .int .i64 0, .int .i64 0, .slice none 0 0, .slice none 0 0, .slice none 0 0, .slice none 0 0, .slice none 0 0, .slice none 0 0, .slice none 0 0, .slice none 0 0, .string ⟨#[]⟩, .string ⟨#[]⟩, .slice none 0 0] 41)).setCells wr.heap.size 0 xs.toArray.toList) := by rw [Hid, hV]
      have HTc := tcount_calls (w := V) 1 (hrun.out.m.below bV) (RTally.firm.kept k1 (Kept.below bV)) (RPlaced.firm.kept hr (Kept.below bV)) (by omega) (.inl rfl)
      have HE1 : (if sEq x.1.1 T.1 = true then (fun t => cT t (othersN p.1 (Pl.take k))) else fun t => addF (cT t (othersN p.1 (Pl.take k))) (hT t x) 1) = fun t => cT t (othersN p.1 (Pl.take (k + 1))) := by rw [HTn.out.1, cTo_snoc, HT1.out]
      have HE2 : (if sEq x.1.1 T.1 = true then cO (pLabs p) (othersN p.1 (Pl.take k)) else fun d => cO (pLabs p) (othersN p.1 (Pl.take k)) d + 1 * cX T.2.1 x (pApart x.1) d) = cO (pLabs p) (othersN p.1 (Pl.take (k + 1))) := by rw [HTn.out.1, HTn.out.2.1, cOo_snoc, HT1.out]
      rw [HE1, HE2] at HTc
      have HN : Hid (∀ u, MapsAt u T (cost (Pl.take k) + 1 + (pApart x.1).length) (fun t => cT t (othersN p.1 (Pl.take (k + 1)))) (cO (pLabs p) (othersN p.1 (Pl.take (k + 1)))) → Turns (fun b => b ∈ mapsT T) V u → Run T W3 u [.string T.1, .slice a1 n1 m1, .slice a2 n2 m2, .slice a3 n3 m3, .map (some T.2.2.2.2)] (pLabs p) (othersN p.1 (Pl.take (k + 1))) (cost (Pl.take (k + 1)))) := fun u h1 h2 => by
        rw [HT3.out]
        rw [Nat.add_assoc] at h1
        exact ⟨h1, (hrun.out.t.trans (Turns.below bV)).trans h2⟩
      obtain ⟨y0, y1, y2, y3, y4⟩ : (V.cell? ⟨w2.heap.size, 0, none⟩ = some (.string T.1)) ∧ (V.cell? ⟨w2.heap.size, 1, none⟩ = some (.slice a1 n1 m1)) ∧ (V.cell? ⟨w2.heap.size, 2, none⟩ = some (.slice a2 n2 m2)) ∧ (V.cell? ⟨w2.heap.size, 3, none⟩ = some (.slice a3 n3 m3)) ∧ (V.cell? ⟨w2.heap.size, 4, none⟩ = some (.map (some T.2.2.2.2))) := ⟨((k0.on bV).2 0 _ rfl).1, ((k0.on bV).2 1 _ rfl).1, ((k0.on bV).2 2 _ rfl).1, ((k0.on bV).2 3 _ rfl).1, ((k0.on bV).2 4 _ rfl).1⟩
      have HRV : Hid (V.rangeAt wr.heap.size 0 xs) := qV.range
      clear hr hv hrun k0 k1 k2 k3 k4 bV qV hV HV HT1 HT3 HE1 HE2
      have HV0 : Hid (wr.rangeAt B (off + k * 17) xs) := fun j v hj => by have h1 := HVz.out j v hj; rwa [(((Below.refl _ wr).alloc (Nat.le_refl _) _).cell hB)] at h1
      go_wp2_with (first | (refine wpList_load_mid rfl 41 _ rfl B (off + k * 17) rfl xs _ HV0.out Tryz.underlying41 rfl hi17 ?_) | (refine wpList_load_mid rfl 41 _ rfl B (off + k * 17) rfl xs _ HVz.out Tryz.underlying41 rfl hi17 ?_) | (refine wpList_store_mid rfl 41 _ _ rfl wr.heap.size 0 xs.toArray rfl rfl HTh.out hi17a HO.out ?_; refine wpl_w8 HWV.out ?_) | (refine wpList_load_mid rfl 41 _ rfl wr.heap.size 0 rfl xs _ HRV.out Tryz.underlying41 rfl hi17 ?_) | fail)
      refine HTc.mono ?_
      rintro e w6 ⟨rfl, hm6, ht6⟩
      have HR6 := HN.out w6 hm6 ht6
      clear HTc hm6 ht6 HN HRV HVz HV0 HTh HO HWV y0 y1 y2 y3 y4
      go_wp2_with fail
      go_roundw
      case rel => exact ⟨k + 1, by omega, by go_num, HR6⟩
      case measure => simp [intOf]; omega
    ·
      have hkm : k = m := by omega
      have htk : Pl.take k = Pl := List.take_of_length_le (by rw [hml.out]; omega)
      rw [htk] at hrun
      have HWy := twhy_calls (w := wr) (fun t => eT t (othersN p.1 Pl)) (fun t ht => eT_iff (HWk.out t ht) (fun x hx => HPO.out x (others_mem hx))) a n cap L hrun.out.m k1 k2
      rw [whyG_is T p L (othersN p.1 Pl) HTn.out.2.1 HTn.out.2.2.1 HTn.out.2.2.2] at HWy
      have HB : Hid (Below w.heap.size w wr) := k4
      have y0 := (k0.2 0 _ rfl).1; have y1 := (k0.2 1 _ rfl).1; have y2 := (k0.2 2 _ rfl).1; have y3 := (k0.2 3 _ rfl).1; have y4 := (k0.2 4 _ rfl).1
      clear k0 k1 k2 k3 k4 hrun htk hkm
      go_wp2_with fail
      refine HWy.mono ?_
      rintro e w7 ⟨rfl, hb7⟩
      have HB7 : Hid (Below w.heap.size w w7) := on2 HB.out hb7
      clear HWy hb7 y0 y1 y2 y3 y4
      go_wp2_with fail
      go_ret
      exact ⟨rfl, HB7.out⟩
end Go.Proofs.YtfnafgmengefaaaGreatDoor
namespace Go.Proofs.YtfnafgmengefaaaGreatDoor
open Go.RowKit
set_option linter.unusedSimpArgs false
set_option maxRecDepth 100000

theorem infoByte : (Tryz.prog.info? 5).map (fun i => (i.zero, i.size, i.bytes)) = some (some (.int .u8 0), 1, 1) := by kernel_rfl
/-- A sheet in block sb; all that it is made of has come since block B; what is written on it. -/
def SheetAt (B : Nat) (w : World) (sb : Nat) (bs : List UInt8) : Prop := B ≤ sb ∧ ∃ v, w.heap[sb]? = some (.cells #[v] 114 (0, 0)) ∧ w.ownsRow B 5 1 v bs.length (Lib.byteCells bs)
/-- What is turned: the sheet, rows of bytes of the call's own, and what is new. -/
def Fr (B sb : Nat) (w w' : World) : Prop := Below B w w' ∧ Lib.OthersKept 5 (some sb) w w'
theorem Fr.refl (B sb : Nat) (w : World) : Fr B sb w w := ⟨Below.refl _ _, Lib.OthersKept.refl _ _ _⟩
theorem Fr.trans {B sb : Nat} {u v w : World} (h : Fr B sb u v) (k : Fr B sb v w) : Fr B sb u w := ⟨h.1.trans k.1, h.2.trans k.2⟩
theorem Fr.alloc {B sb : Nat} {u v : World} (h : Fr B sb u v) (hB : B ≤ v.heap.size) (o : Obj) : Fr B sb u (v.alloc o) := ⟨h.1.alloc hB o, h.2.alloc o⟩
abbrev TB (B : Nat) (w : World) : Prop := Lib.TabBelow Tryz.prog B w "internal/strconv.uint64pow10" .u64 Lib.pow10Tab
theorem SheetAt.lt {B : Nat} {w : World} {sb : Nat} {bs : List UInt8} (h : SheetAt B w sb bs) : sb < w.heap.size := by
  obtain ⟨_, v, h1, _⟩ := h
  exact (Array.getElem?_eq_some_iff.1 h1).1
theorem SheetAt.le {B : Nat} {w : World} {sb : Nat} {bs : List UInt8} (h : SheetAt B w sb bs) : B ≤ w.heap.size := Nat.le_trans h.1 (Nat.le_of_lt h.lt)
theorem SheetAt.alloc {B : Nat} {w : World} {sb : Nat} {bs : List UInt8} (h : SheetAt B w sb bs) (o : Obj) : SheetAt B (w.alloc o) sb bs := by
  have hl := h.lt
  obtain ⟨h0, v, h1, h2⟩ := h
  exact ⟨h0, v, (((Below.refl _ w).alloc (Nat.le_refl _) o).block sb hl).trans h1, h2.alloc o⟩
theorem SheetAt.drew {B : Nat} {w : World} {sb : Nat} {bs : List UInt8} (h : SheetAt B w sb bs) : SheetAt B w.drew sb bs := h
/-- A box that the call made beside the sheet stays. -/
theorem Fr.box {B sb : Nat} {w w' : World} (h : Fr B sb w w') {D : Nat} {cs : Array Value} {t : TypeId} {fz : Nat × Nat} (hD : w.heap[D]? = some (.cells cs t fz)) (hne : D ≠ sb) (ht : t ≠ 5) : w'.heap[D]? = some (.cells cs t fz) :=
  h.2 D _ hD (fun e => hne (by injection e)) (fun c f e => ht (by injection e))
theorem owns_kind {w : World} {B : Nat} {e : TypeId} {v : Value} {n : Nat} {xs : List Value} (h : w.ownsRow B e 1 v n xs) : ∀ g, v.ownBlock = some g → ∃ c fz, w.heap[g]? = some (.cells c e fz) := fun g hg => by
  obtain ⟨_, ⟨rfl, _⟩ | ⟨g', cap, cur, rfl, _, hh, _⟩⟩ := h
  · simp [Value.ownBlock] at hg
  · obtain rfl : g' = g := by simpa [Value.ownBlock] using hg
    exact ⟨_, _, hh⟩
theorem owns_slice {w : World} {B : Nat} {e : TypeId} {v : Value} {n : Nat} {xs : List Value} (h : w.ownsRow B e 1 v n xs) : ∃ a m c, v = .slice a m c := by
  obtain ⟨_, ⟨rfl, _⟩ | ⟨g', cap, cur, rfl, _⟩⟩ := h
  · exact ⟨_, _, _, rfl⟩
  · exact ⟨_, _, _, rfl⟩
def eN (n : Int) : List UInt8 := Lib.itoa n ++ [32]
def eS (s : ByteArray) : List UInt8 := eN s.size ++ s.data.toList
def eB (b : Bool) : List UInt8 := if b then [116, 114, 117, 101] else [102, 97, 108, 115, 101]
theorem byteCells_append (a b : List UInt8) : Lib.byteCells (a ++ b) = Lib.byteCells a ++ Lib.byteCells b := by simp [Lib.byteCells]
theorem strCells_is (s : ByteArray) : Lib.strCells s = Lib.byteCells s.data.toList := by first | rfl | simp [Lib.strCells, Lib.byteCells]
/-- The sheet is written over. -/
theorem sheet_set {B sb : Nat} {w w1 : World} {v0 v1 : Value} {bs : List UInt8} (hB : B ≤ sb) (hw : w1.heap[sb]? = some (.cells #[v0] 114 (0, 0))) (hown : w1.ownsRow B 5 1 v1 bs.length (Lib.byteCells bs)) (hf : Fr B sb w w1) : SheetAt B (w1.setCell ⟨sb, 0, none⟩ v1) sb bs ∧ Fr B sb w (w1.setCell ⟨sb, 0, none⟩ v1) := by
  refine ⟨⟨hB, v1, one_setCell hw, ?_⟩, hf.1.setCell hB v1, hf.2.setCell _ rfl v1⟩
  have h2 := hown
  obtain ⟨hl, h0 | ⟨g, cap, cur, hv, hb, hh, r⟩⟩ := hown
  · exact ⟨hl, .inl h0⟩
  · refine ⟨hl, .inr ⟨g, cap, cur, hv, hb, ?_, r⟩⟩
    rw [Below.heap_setCell w1 _ v1 g (fun e => ?_)]
    · exact hh
    · simp only at e
      rw [e, hw] at hh
      cases hh
theorem sheet_ne : (114 : TypeId) ≠ 5 := by decide
set_option maxHeartbeats 4000000 in
theorem number_calls {B : Nat} {w : World} {sb : Nat} {bs : List UInt8} (hS : Hid (SheetAt B w sb bs)) (hT : Hid (TB B w)) (n : Int) (h0 : -9223372036854775808 ≤ n) (h1 : n ≤ 9223372036854775807) (hl : bs.length ≤ 70368744177664) :
    Calls Tryz.prog 66 #[.pointer (some ⟨sb, 0, none⟩), .int .i64 n] w fun e w' => e = .returned (.tuple #[]) ∧ SheetAt B w' sb (bs ++ eN n) ∧ Fr B sb w w' := by
  obtain ⟨hB, v, hb, hown⟩ := hS.out
  obtain ⟨i0, hi, hz0, hz1, hz2⟩ := info_parts infoByte
  have c0 : w.cell? ⟨sb, 0, none⟩ = some v := by simp [World.cell?, hb]
  have hBw := hS.out.le
  have la := Lib.itoa_length_le n h0 h1
  have HA := Tryz.strconv_AppendInt_10 B bs.length n h0 h1 v (Lib.byteCells bs) w hown hBw (by omega) hT.out
  have HB : Hid (w.heap[sb]? = some (.cells #[v] 114 (0, 0))) := hb
  clear hS hown hT hb
  go_enter Tryz.func66, Tryz.ntmps66
  go_wp2_with fail
  refine HA.mono ?_
  clear HA
  rintro e w1 ⟨v1, rfl, hown1, hb1, hk1⟩
  have hb1' := hk1 sb _ HB.out (by simp) (fun c fz e => sheet_ne (by injection e))
  have hs1 := hb1.size
  have hk1' : Lib.OthersKept 5 (some sb) w w1 := fun k o hk _ ho => hk1 k o hk (by simp) ho
  have HO1 : Hid (w1.ownsRow B 5 1 v1 (bs.length + (Lib.itoa n).length) (Lib.byteCells bs ++ Lib.byteCells (Lib.itoa n))) := hown1
  have HF1 : Hid (Fr B sb w (w1.alloc (.cells #[.int .u8 32] 5)) ∧ (w1.alloc (.cells #[.int .u8 32] 5)).heap[sb]? = some (.cells #[v] 114 (0, 0))) := ⟨⟨hb1.alloc (by omega) _, hk1'.alloc _⟩, (((Below.refl _ w1).alloc (Nat.le_refl _) _).block sb (Array.getElem?_eq_some_iff.1 hb1').1).trans hb1'⟩
  clear hown1 hb1 hk1 hk1' hb1' HB c0
  go_wp2_with (at_builtin; refine wpList_append_own _ rfl _ _ 112 rfl B 5 i0 (.int .u8 0) 1 1 Tryz.underlying112 hi hz0 hz1 hz2 rfl (by decide) _ _ _ rfl (HO1.out.alloc _) ⟨w1.heap.size, 0, none⟩ 1 1 [Value.int .u8 32] rfl rfl (by intro j u' hj; match j, hj with | 0, hj => simp at hj; subst hj; simp [Addr.add]) (by intro u' hu'; simp at hu'; subst hu'; rfl) (by unfold maxLen; omega) (by omega) (by simp; omega) ?_; intro v2 w2 hown2 hgrow2 _; obtain ⟨ax, mx, cx, rfl⟩ := owns_slice hown2; refine Hid.out ?_)
  refine Lib.hid ?_
  have hf2 : Fr B sb w w2 := ⟨HF1.out.1.1.grown hgrow2 (by simp; omega) (fun k hk => (HO1.out.lt k hk).1), HF1.out.1.2.grown hgrow2 (fun g hg => owns_kind (HO1.out.alloc _) g hg)⟩
  have hb2 : w2.heap[sb]? = some (.cells #[v] 114 (0, 0)) := by
    rw [hgrow2.block sb (Array.getElem?_eq_some_iff.1 HF1.out.2).1 (fun e => ?_)]
    · exact HF1.out.2
    · obtain ⟨c, fz, hc⟩ := owns_kind (HO1.out.alloc _) sb e.symm
      rw [HF1.out.2] at hc
      injection hc with hc
      injection hc with _ h3 _
      exact sheet_ne h3
  have eL : Lib.byteCells bs ++ Lib.byteCells (Lib.itoa n) ++ [Value.int .u8 32] = Lib.byteCells (bs ++ eN n) := by simp [Lib.byteCells, eN]
  have eM : bs.length + (Lib.itoa n).length + 1 = (bs ++ eN n).length := by simp [eN]; omega
  rw [eL, eM] at hown2
  have HE : Hid _ := sheet_set hB hb2 hown2 hf2
  have c2 : w2.cell? ⟨sb, 0, none⟩ = some v := by simp [World.cell?, hb2]
  have f2 : w2.frozen? ⟨sb, 0, none⟩ = false := by simp [World.frozen?, hb2]
  clear hown2 hgrow2 hf2 hb2 eL eM HF1 HO1 la
  go_wp2_with fail
  go_end0
  exact ⟨rfl, HE.out⟩
set_option maxHeartbeats 4000000 in
theorem text_calls {B : Nat} {w : World} {sb : Nat} {bs : List UInt8} (hS : Hid (SheetAt B w sb bs)) (hT : Hid (TB B w)) (s : ByteArray) (hl : bs.length + s.size ≤ 70368744177000) :
    Calls Tryz.prog 65 #[.pointer (some ⟨sb, 0, none⟩), .string s] w fun e w' => e = .returned (.tuple #[]) ∧ SheetAt B w' sb (bs ++ eS s) ∧ Fr B sb w w' := by
  have HN := number_calls hS hT (s.size : Int) (by omega) (by omega) (by omega)
  have la := Lib.itoa_length_le (s.size : Int) (by omega) (by omega)
  obtain ⟨i0, hi, hz0, hz1, hz2⟩ := info_parts infoByte
  clear hS hT
  go_enter Tryz.func65, Tryz.ntmps65
  go_wp2_with fail
  refine HN.mono ?_
  clear HN
  rintro e w1 ⟨rfl, hS1, hf1⟩
  have hBw := hS1.le
  obtain ⟨hB, v, hb, hown⟩ := hS1
  have c0 : w1.cell? ⟨sb, 0, none⟩ = some v := by simp [World.cell?, hb]
  have HB : Hid (w1.heap[sb]? = some (.cells #[v] 114 (0, 0))) := hb
  have HO1 : Hid (w1.ownsRow B 5 1 v (bs ++ eN s.size).length (Lib.byteCells (bs ++ eN s.size))) := hown
  have hln : (bs ++ eN s.size).length + s.size ≤ 140737488355328 := by simp [eN]; omega
  have HF1 : Hid (Fr B sb w w1) := hf1
  clear hown hb hf1
  go_wp2_with (at_builtin; refine Lib.wpList_append_own_string _ rfl _ _ 112 9 rfl B 5 i0 Tryz.underlying112 Tryz.underlying9 hi hz0 hz1 hz2 _ _ _ rfl HO1.out s rfl (by unfold maxLen; omega) hln hBw ?_; intro v2 w2 hown2 hgrow2 _; obtain ⟨ax, mx, cx, rfl⟩ := owns_slice hown2; refine Hid.out ?_)
  refine Lib.hid ?_
  have hf2 : Fr B sb w w2 := ⟨HF1.out.1.grown hgrow2 hBw (fun k hk => (HO1.out.lt k hk).1), HF1.out.2.grown hgrow2 (fun g hg => owns_kind HO1.out g hg)⟩
  have hb2 : w2.heap[sb]? = some (.cells #[v] 114 (0, 0)) := by
    rw [hgrow2.block sb (Array.getElem?_eq_some_iff.1 HB.out).1 (fun e => ?_)]
    · exact HB.out
    · obtain ⟨c, fz, hc⟩ := owns_kind HO1.out sb e.symm
      rw [HB.out] at hc
      injection hc with hc
      injection hc with _ h3 _
      exact sheet_ne h3
  have eL : Lib.byteCells (bs ++ eN s.size) ++ Lib.strCells s = Lib.byteCells (bs ++ eS s) := by rw [strCells_is, ← byteCells_append]; simp [eS]
  have eM : (bs ++ eN s.size).length + s.size = (bs ++ eS s).length := by simp [eS]; omega
  rw [eL, eM] at hown2
  have HE : Hid _ := sheet_set hB hb2 hown2 hf2
  have c2 : w2.cell? ⟨sb, 0, none⟩ = some v := by simp [World.cell?, hb2]
  have f2 : w2.frozen? ⟨sb, 0, none⟩ = false := by simp [World.frozen?, hb2]
  clear hown2 hgrow2 hf2 hb2 eL eM HF1 HO1 HB la c0
  go_wp2_with fail
  go_end0
  exact ⟨rfl, HE.out⟩
end Go.Proofs.YtfnafgmengefaaaGreatDoor
