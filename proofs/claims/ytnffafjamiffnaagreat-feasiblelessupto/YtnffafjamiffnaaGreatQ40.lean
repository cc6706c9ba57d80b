/- Functions of the program, each walked under the conditions that its theorem names. -/
import Derived.Test.YtnffafjamiffnaaGreatQ36
import Derived.Test.YtnffafjamiffnaaGreatQ37
set_option linter.unusedSimpArgs false
set_option maxRecDepth 100000
set_option maxHeartbeats 32000000
namespace Go.Proofs.YtnffafjamiffnaaGreat
open Go.RowKit Go.Maps
theorem zH8 {w : World} {T : TalD} {ts : List Value} {A A' : Where} {N : Nat} {g : TermD -> Lab -> Int} {oF : Lab -> Int} (z : TermD -> Bool) (hz : ∀ t ∈ tNear T, (z t.1 = true ↔ ∀ d, okL d -> g t.1 d = 0)) (a : Option Addr) (n cap : Nat) (L : List Lab) (hM : Hid (MapsAt w T N g oF)) (hT' : Hid (RTally A w ts T)) (hL : Hid (SlAt RLabel 2 32 A' w a n cap L)) :
  Calls Tryz.prog 122 #[.agg ts.toArray, .slice a n cap] w fun e w' => e = .returned (.int .i64 (whyG T L g z oF)) /\ Below w.heap.size w w' := by
 have HTA : Hid (RTally A w ts T) := hT'
 obtain ⟨⟨a1, n1, m1⟩, ⟨a2, n2, m2⟩, ⟨a3, n3, m3⟩, rfl, _, _, _, _⟩ := hT'.out.out
 simp only at HTA |-
 obtain ⟨W1, hW1⟩ : ∃ W, W = w.alloc (.cells #[.string T.1, .slice a1 n1 m1, .slice a2 n2 m2, .slice a3 n3 m3, .map (some T.2.2.2.2)] 216) := ⟨_, rfl⟩
 have B1 : Below w.heap.size w W1 := by rw [hW1]; go_grown
 have q0 : BoxL W1 w.heap.size [.string T.1, .slice a1 n1 m1, .slice a2 n2 m2, .slice a3 n3 m3, .map (some T.2.2.2.2)] := by rw [hW1]; exact BoxL.new w 216 _
 have HQ : Hid (∀ u, Below W1.heap.size W1 u -> BoxL u w.heap.size [.string T.1, .slice a1 n1 m1, .slice a2 n2 m2, .slice a3 n3 m3, .map (some T.2.2.2.2)] /\ Below w.heap.size w u) := fun u hb => ⟨q0.on hb, on2 B1 hb⟩
 have HC1 : Hid (∀ u, Below W1.heap.size W1 u -> Calls Tryz.prog 164 #[.agg #[.string T.1, .slice a1 n1 m1, .slice a2 n2 m2, .slice a3 n3 m3, .map (some T.2.2.2.2)], .slice a n cap] u fun e w' => e = .returned (.bool ((tNear T).any (fun t => lkG T.2.1 L g z t.1))) /\ Below u.heap.size u w') := fun u hb => zFb z hz a n cap L (hM.out.below (on2 B1 hb)) (RTally.firm.kept HTA.out (Kept.below (on2 B1 hb))) (hL.out.on RLabel.firm (on2 B1 hb))
 have HC2 : Hid (∀ u, Below W1.heap.size W1 u -> Calls Tryz.prog 165 #[.agg #[.string T.1, .slice a1 n1 m1, .slice a2 n2 m2, .slice a3 n3 m3, .map (some T.2.2.2.2)], .slice a n cap] u fun e w' => e = .returned (.bool ((tApart T).any (fun t => apG L g t.1))) /\ Below u.heap.size u w') := fun u hb => zEM z hz a n cap L (hM.out.below (on2 B1 hb)) (RTally.firm.kept HTA.out (Kept.below (on2 B1 hb))) (hL.out.on RLabel.firm (on2 B1 hb))
 have HC3 : Hid (∀ u, Below W1.heap.size W1 u -> Calls Tryz.prog 166 #[.agg #[.string T.1, .slice a1 n1 m1, .slice a2 n2 m2, .slice a3 n3 m3, .map (some T.2.2.2.2)], .slice a n cap] u fun e w' => e = .returned (.bool (L.any (otG L oF))) /\ Below u.heap.size u w') := fun u hb => zDD z hz a n cap L (hM.out.below (on2 B1 hb)) (RTally.firm.kept HTA.out (Kept.below (on2 B1 hb))) (hL.out.on RLabel.firm (on2 B1 hb))
 unfold whyG
 clear hM hT' hL HTA q0 hz
 generalize (tNear T).any (fun t => lkG T.2.1 L g z t.1) = x1 at HC1 |-
 generalize (tApart T).any (fun t => apG L g t.1) = x2 at HC2 |-
 generalize L.any (otG L oF) = x3 at HC3 |-
 have y0 := ((HQ.out W1 (Below.refl _ _)).1.2 0 _ rfl).1; have y1 := ((HQ.out W1 (Below.refl _ _)).1.2 1 _ rfl).1; have y2 := ((HQ.out W1 (Below.refl _ _)).1.2 2 _ rfl).1; have y3 := ((HQ.out W1 (Below.refl _ _)).1.2 3 _ rfl).1; have y4 := ((HQ.out W1 (Below.refl _ _)).1.2 4 _ rfl).1
 go_enter Tryz.func122, Tryz.ntmps122
 go_upto_region 1 with fail
 rw [<- hW1]
 clear hW1
 go_wp2_with fail
 refine (HC1.out W1 (Below.refl _ _)).mono ?_
 rintro e w2 ⟨rfl, hb2⟩
 clear HC1 y0 y1 y2 y3 y4
 cases x1
 ·
  obtain ⟨k0, _⟩ := HQ.out w2 hb2
  have y0 := (k0.2 0 _ rfl).1; have y1 := (k0.2 1 _ rfl).1; have y2 := (k0.2 2 _ rfl).1; have y3 := (k0.2 3 _ rfl).1; have y4 := (k0.2 4 _ rfl).1
  clear k0
  go_wp2_with fail
  refine (HC2.out w2 hb2).mono ?_
  rintro e w3 ⟨rfl, hb3⟩
  have hb3' := on2 hb2 hb3
  clear HC2 y0 y1 y2 y3 y4 hb3
  cases x2
  ·
   obtain ⟨k0, _⟩ := HQ.out w3 hb3'
   have y0 := (k0.2 0 _ rfl).1; have y1 := (k0.2 1 _ rfl).1; have y2 := (k0.2 2 _ rfl).1; have y3 := (k0.2 3 _ rfl).1; have y4 := (k0.2 4 _ rfl).1
   clear k0
   go_wp2_with fail
   refine (HC3.out w3 hb3').mono ?_
   rintro e w4 ⟨rfl, hb4⟩
   have HB : Hid (Below w.heap.size w w4) := (HQ.out w4 (on2 hb3' hb4)).2
   clear HC3 y0 y1 y2 y3 y4 hb4
   cases x3
   ·go_wp2_with fail
    go_ret
    exact ⟨rfl, HB.out⟩
   ·go_wp2_with fail
    go_ret
    exact ⟨rfl, HB.out⟩
  ·have HB : Hid (Below w.heap.size w w3) := (HQ.out w3 hb3').2
   go_wp2_with fail
   go_ret
   exact ⟨rfl, HB.out⟩
 ·have HB : Hid (Below w.heap.size w w2) := (HQ.out w2 hb2).2
  go_wp2_with fail
  go_ret
  exact ⟨rfl, HB.out⟩
theorem cT_snoc (t : TermD) (A : List PlacedD) (x : PlacedD) : addF (cT t A) (hT t x) 1 = cT t (A ++ [x]) := by
 funext d
 unfold addF cT one
 rw [List.map_append, List.sum_append]
 simp
theorem cO_snoc (P : List Lab) (A : List PlacedD) (x : PlacedD) : (fun d => cO P A d + 1 * cX P x (pApart x.1) d) = cO P (A ++ [x]) := by
 funext d
 unfold cO
 rw [List.map_append, List.sum_append]
 simp
def cost (l : List PlacedD) : Nat := (l.map (fun x => 1 + (pApart x.1).length)).sum
theorem zEp (l : List PlacedD) (x : PlacedD) : cost (l ++ [x]) = cost l + (1 + (pApart x.1).length) := by unfold cost; rw [List.map_append, List.sum_append]; simp
theorem cost_take (l : List PlacedD) (k : Nat) : cost (l.take k) <= cost l := by
 have : cost l = cost (l.take k) + cost (l.drop k) := by
  unfold cost
  rw [<- List.sum_append, <- List.map_append, List.take_append_drop]
 omega
theorem zCx (name : ByteArray) (l : List PlacedD) (x : PlacedD) : othersN name (l ++ [x]) = othersN name l ++ (if sEq x.1.1 name = true then [] else [x]) := by
 unfold othersN
 rw [List.filter_append]
 congr 1
 cases h : sEq x.1.1 name <;> simp [h]
theorem cTo_snoc (nm : ByteArray) (B : List PlacedD) (x : PlacedD) : (if sEq x.1.1 nm = true then (fun t => cT t (othersN nm B)) else fun t => addF (cT t (othersN nm B)) (hT t x) 1) = fun t => cT t (othersN nm (B ++ [x])) := by
 rw [zCx]
 cases sEq x.1.1 nm
 ·exact funext (fun t => cT_snoc t _ x)
 ·simp
theorem cOo_snoc (P : List Lab) (nm : ByteArray) (B : List PlacedD) (x : PlacedD) : (if sEq x.1.1 nm = true then cO P (othersN nm B) else fun d => cO P (othersN nm B) d + 1 * cX P x (pApart x.1) d) = cO P (othersN nm (B ++ [x])) := by
 rw [zCx]
 cases sEq x.1.1 nm
 ·exact cO_snoc P _ x
 ·simp
theorem whyG_is (T : TalD) (p : PodD) (L : List Lab) (A : List PlacedD) (hl : T.2.1 = pLabs p) (ha : (tNear T).map Prod.fst = pNear p) (hb : (tApart T).map Prod.fst = pApart p) : whyG T L (fun t => cT t A) (fun t => eT t A) (cO (pLabs p) A) = whyN (pLabs p) (pNear p) (pApart p) L A := by
 unfold whyG whyN
 rw [<- ha, <- hb, hl, List.any_map, List.any_map]
 rfl
theorem placed_ok {A : Where} {w : World} {a : Option Addr} {n cap : Nat} {L : List PlacedD} (h : SlAt RPlaced 17 320 A w a n cap L) : ∀ x ∈ L, ∀ l ∈ x.2, okL l := fun x hx => by
 have hl := h.1
 obtain ⟨i, hi, rfl⟩ := List.mem_iff_getElem.1 hx
 obtain ⟨B, off, _, _, _, cs, hr, _⟩ := h.get (i := i) (by omega)
 rw [List.getD_eq_getElem?_getD, List.getElem?_eq_getElem hi] at hr
 obtain ⟨_, _, h16, _, _, _, _, _, _, s⟩ := hr.reads
 exact zDg s
theorem wish_ok {A : Where} {w : World} {a : Option Addr} {n cap : Nat} {L : List WishD} (h : SlAt RWish 3 48 A w a n cap L) : ∀ t ∈ L, t.1.2.size <= 140737488355328 := fun x hx => by
 have hl := h.1
 obtain ⟨i, hi, rfl⟩ := List.mem_iff_getElem.1 hx
 obtain ⟨B, off, _, _, _, cs, hr, _⟩ := h.get (i := i) (by omega)
 rw [List.getD_eq_getElem?_getD, List.getElem?_eq_getElem hi] at hr
 obtain ⟨_, _, _, s⟩ := hr.out
 exact s
theorem zHU {name : ByteArray} {l : List PlacedD} {x : PlacedD} (h : x ∈ othersN name l) : x ∈ l := (List.mem_filter.1 h).1
structure Run (T : TalD) (W wr : World) (ts : List Value) (P : List Lab) (A : List PlacedD) (N : Nat) : Prop where
 m : MapsAt wr T N (fun t => cT t A) (cO P A)
 t : Turns (fun b => b ∈ mapsT T) W wr
theorem zF3 (cs : List Value) (A A' A'' : Where) (p : PodD) (a : Option Addr) (n cap : Nat) (L : List Lab) (b : Option Addr) (m capb : Nat) (Pl : List PlacedD) (w : World) (hp : Hid (RPod A w cs p)) (hL : Hid (SlAt RLabel 2 32 A' w a n cap L)) (hP : Hid (SlAt RPlaced 17 320 A'' w b m capb Pl)) (hn : (pNear p).length < 1000000000) (hm : (pApart p).length < 1000000000) (hcost : cost Pl < 70368744177000) :
  Calls Tryz.prog 107 #[.agg cs.toArray, .slice a n cap, .slice b m capb] w fun e w' => e = .returned (.int .i64 (nearP p L Pl)) /\ Below w.heap.size w w' := by
 have hiP : (Tryz.prog.info? 49).map (·.size) = some cs.length := by rw [RPod.firm.len hp.out]; exact sizePo
 obtain ⟨W1, hW1⟩ : ∃ W, W = w.alloc (.cells cs.toArray 49) := ⟨_, rfl⟩
 have B1 : Below w.heap.size w W1 := by rw [hW1]; go_grown
 have HR0 : Hid (W1.rangeAt w.heap.size 0 cs) := by rw [Hid, hW1]; exact (BoxL.new w 49 cs).range
 have HTo := zEa cs A p W1 (RPod.firm.kept hp.out (Kept.below B1)) hn hm
 have HLw : Hid (SlAt RLabel 2 32 (fun b => b < w.heap.size) w a n cap L) := hL.out.weak RLabel.firm (fun b hb _ => hb)
 have HPw : Hid (SlAt RPlaced 17 320 (fun b => b < w.heap.size) w b m capb Pl) := hP.out.weak RPlaced.firm (fun b hb _ => hb)
 have hml : Hid (Pl.length = m) := hP.out.1
 have hmb : m < 140737488355328 := by have := hP.out.2.2.2.1; omega
 have HPO : Hid (∀ x ∈ Pl, ∀ l ∈ x.2, okL l) := placed_ok hP.out
 have HB1 : Hid (Below w.heap.size w W1) := B1
 clear hp hL hP hn hm B1
 go_enter Tryz.func107, Tryz.ntmps107
 go_upto_region 1 with fail
 rw [<- hW1]
 clear hW1
 go_wp2_with (first | (refine wpList_load_mid rfl 49 _ rfl w.heap.size 0 rfl cs _ HR0.out Tryz.underlying49 rfl hiP ?_) | fail)
 refine HTo.mono ?_
 rintro e w2 ⟨ts, T, rfl, h0, hb2⟩
 clear HTo HR0 hiP
 obtain ⟨⟨a1, n1, m1⟩, ⟨a2, n2, m2⟩, ⟨a3, n3, m3⟩, rfl, _, s1, s2, s3⟩ := h0.r.out
 simp only at s1 s2 s3
 obtain ⟨W3, hW3⟩ : ∃ W, W = w2.alloc (.cells #[.string T.1, .slice a1 n1 m1, .slice a2 n2 m2, .slice a3 n3 m3, .map (some T.2.2.2.2)] 216) := ⟨_, rfl⟩
 have B3 : Below w2.heap.size w2 W3 := by rw [hW3]; go_grown
 have q3 : BoxL W3 w2.heap.size [.string T.1, .slice a1 n1 m1, .slice a2 n2 m2, .slice a3 n3 m3, .map (some T.2.2.2.2)] := by rw [hW3]; exact BoxL.new w2 216 _
 have bw3 : Below w.heap.size w W3 := on2 (on2 HB1.out hb2) B3
 have hfw : ∀ b ∈ mapsT T, w.heap.size <= b := fun b hb => Nat.le_trans HB1.out.size (h0.f b hb)
 have n3' : NM T w2.heap.size := fun h => absurd (h0.m.lt h) (Nat.lt_irrefl _)
 have HWk : Hid (∀ t ∈ tNear T, t.1.2.size <= 140737488355328) := wish_ok s2
 have HQ : Hid (∀ u, Turns (fun b => b ∈ mapsT T) W3 u -> BoxL u w2.heap.size [.string T.1, .slice a1 n1 m1, .slice a2 n2 m2, .slice a3 n3 m3, .map (some T.2.2.2.2)] /\ RTally (NM T) u [.string T.1, .slice a1 n1 m1, .slice a2 n2 m2, .slice a3 n3 m3, .map (some T.2.2.2.2)] T /\ SlAt RLabel 2 32 (NM T) u a n cap L /\ SlAt RPlaced 17 320 (NM T) u b m capb Pl /\ Below w.heap.size w u) := fun u ht =>
  have k := kept_nm ht
  have nm : ∀ b, b < W3.heap.size -> b < w.heap.size -> NM T b := fun b _ h1 h2 => by have := hfw b h2; omega
  ⟨q3.kept k n3', RTally.firm.kept (RTally.firm.kept (RTally.firm.weak h0.r (fun _ _ h => h.1)) (Kept.below B3)) k, ((HLw.out.on RLabel.firm bw3).weak RLabel.firm nm).kept RLabel.firm k, ((HPw.out.on RPlaced.firm bw3).weak RPlaced.firm nm).kept RPlaced.firm k, Turns.behind bw3 (ht.weak (fun b _ h => hfw b h))⟩
 have HRun : Hid (Run T W3 W3 [.string T.1, .slice a1 n1 m1, .slice a2 n2 m2, .slice a3 n3 m3, .map (some T.2.2.2.2)] (pLabs p) (othersN p.1 (Pl.take 0)) (cost (Pl.take 0))) := ⟨h0.m.below B3, Turns.refl _ _⟩
 have HTn : Hid (T.1 = p.1 /\ T.2.1 = pLabs p /\ (tNear T).map Prod.fst = pNear p /\ (tApart T).map Prod.fst = pApart p) := ⟨h0.n, h0.l, h0.a, h0.b⟩
 have hszW : Hid (W3.heap.size = w2.heap.size + 1) := by rw [Hid, hW3]; simp
 clear h0 s1 s2 s3 q3 HLw HPw B3 bw3 hb2 hfw n3' HB1
 go_upto_region 2 with fail
 rw [<- hW3]
 clear hW3
 go_wp2_with fail
 go_loopw [14] (fun i wr => ∃ k : Nat, k <= m /\ i = .int .i64 k /\ Hid (Run T W3 wr [.string T.1, .slice a1 n1 m1, .slice a2 n2 m2, .slice a3 n3 m3, .map (some T.2.2.2.2)] (pLabs p) (othersN p.1 (Pl.take k)) (cost (Pl.take k)))) (fun i _ => m - (intOf i).toNat)
 case atStart => exact ⟨0, Nat.zero_le _, rfl, HRun⟩
 case round =>
  obtain ⟨k, hk, rfl, hrun⟩ := hrel
  obtain ⟨k0, k1, k2, k3, k4⟩ := HQ.out wr hrun.out.t
  by_cases hlt : k < m
  ·
   obtain ⟨B, off, rfl, hB, hAB, xs, hr, hv⟩ := k3.get hlt
   have HT1 : Hid (Pl.take k ++ [Pl.getD k default] = Pl.take (k + 1)) := zEQ (by rw [hml.out]; exact hlt)
   have hck := cost_take Pl (k + 1)
   rw [<- HT1.out, zEp] at hck
   have HT3 : Hid (cost (Pl.take (k + 1)) = cost (Pl.take k) + (1 + (pApart (Pl.getD k default).1).length)) := by rw [Hid, <- HT1.out]; exact zEp _ _
   generalize Pl.getD k default = x at hr HT1 HT3 hck
   have hl17 : xs.length = 17 := RPlaced.firm.len hr
   have hi17 : (Tryz.prog.info? 68).map (·.size) = some xs.length := by rw [hl17]; exact zGs
   have hi17a : (Tryz.prog.info? 68).map (·.size) = some xs.toArray.size := by simpa using hi17
   have HO : Hid (xs.toArray.all (·.oneCell') = true) := all_oneCell_toArray (RPlaced.firm.one hr)
   have HV : Hid (wr.rangeAt B (off + k * 17) xs) := hv
   have HVz : Hid ((wr.alloc (.cells #[.string ⟨#[]⟩, .int .i64 0, .slice none 0 0, .int .i64 0, .int .i64 0, .int .i64 0, .slice none 0 0, .slice none 0 0, .slice none 0 0, .slice none 0 0, .slice none 0 0, .slice none 0 0, .slice none 0 0, .slice none 0 0, .string ⟨#[]⟩, .string ⟨#[]⟩, .slice none 0 0] 68)).rangeAt B (off + k * 17) xs) := fun j v hj => (((Below.refl _ wr).alloc (Nat.le_refl _) _).cell hB).trans (hv j v hj)
   obtain ⟨V, hV⟩ : ∃ V, V = (wr.alloc (.cells #[.string ⟨#[]⟩, .int .i64 0, .slice none 0 0, .int .i64 0, .int .i64 0, .int .i64 0, .slice none 0 0, .slice none 0 0, .slice none 0 0, .slice none 0 0, .slice none 0 0, .slice none 0 0, .slice none 0 0, .slice none 0 0, .string ⟨#[]⟩, .string ⟨#[]⟩, .slice none 0 0] 68)).setCells wr.heap.size 0 xs := ⟨_, rfl⟩
   have HTh : Hid ((wr.alloc (.cells #[.string ⟨#[]⟩, .int .i64 0, .slice none 0 0, .int .i64 0, .int .i64 0, .int .i64 0, .slice none 0 0, .slice none 0 0, .slice none 0 0, .slice none 0 0, .slice none 0 0, .slice none 0 0, .slice none 0 0, .slice none 0 0, .string ⟨#[]⟩, .string ⟨#[]⟩, .slice none 0 0] 68)).there wr.heap.size 0 xs.toArray.size) := by have e : xs.toArray.size = 17 := (by simp [hl17]); rw [Hid, e]; exact (BoxL.new wr 68 [.string ⟨#[]⟩, .int .i64 0, .slice none 0 0, .int .i64 0, .int .i64 0, .int .i64 0, .slice none 0 0, .slice none 0 0, .slice none 0 0, .slice none 0 0, .slice none 0 0, .slice none 0 0, .slice none 0 0, .slice none 0 0, .string ⟨#[]⟩, .string ⟨#[]⟩, .slice none 0 0]).there
   have bV : Below wr.heap.size wr V := by rw [hV]; exact zA0 ((Below.refl _ _).alloc (Nat.le_refl _) _) (Nat.le_refl _)
   have qV : BoxL V wr.heap.size xs := by rw [hV]; exact zA2 (BoxL.new wr 68 [.string ⟨#[]⟩, .int .i64 0, .slice none 0 0, .int .i64 0, .int .i64 0, .int .i64 0, .slice none 0 0, .slice none 0 0, .slice none 0 0, .slice none 0 0, .slice none 0 0, .slice none 0 0, .slice none 0 0, .slice none 0 0, .string ⟨#[]⟩, .string ⟨#[]⟩, .slice none 0 0]) (by rw [hl17]; rfl)
   have HWV : Hid (V = (wr.alloc (.cells #[.string ⟨#[]⟩, .int .i64 0, .slice none 0 0, .int .i64 0, .int .i64 0, .int .i64 0, .slice none 0 0, .slice none 0 0, .slice none 0 0, .slice none 0 0, .slice none 0 0, .slice none 0 0, .slice none 0 0, .slice none 0 0, .string ⟨#[]⟩, .string ⟨#[]⟩, .slice none 0 0] 68)).setCells wr.heap.size 0 xs.toArray.toList) := by rw [Hid, hV]
   have HTc := zF6 (w := V) 1 (hrun.out.m.below bV) (RTally.firm.kept k1 (Kept.below bV)) (RPlaced.firm.kept hr (Kept.below bV)) (by omega) (.inl rfl)
   have HE1 : (if sEq x.1.1 T.1 = true then (fun t => cT t (othersN p.1 (Pl.take k))) else fun t => addF (cT t (othersN p.1 (Pl.take k))) (hT t x) 1) = fun t => cT t (othersN p.1 (Pl.take (k + 1))) := by rw [HTn.out.1, cTo_snoc, HT1.out]
   have HE2 : (if sEq x.1.1 T.1 = true then cO (pLabs p) (othersN p.1 (Pl.take k)) else fun d => cO (pLabs p) (othersN p.1 (Pl.take k)) d + 1 * cX T.2.1 x (pApart x.1) d) = cO (pLabs p) (othersN p.1 (Pl.take (k + 1))) := by rw [HTn.out.1, HTn.out.2.1, cOo_snoc, HT1.out]
   rw [HE1, HE2] at HTc
   have HN : Hid (∀ u, MapsAt u T (cost (Pl.take k) + 1 + (pApart x.1).length) (fun t => cT t (othersN p.1 (Pl.take (k + 1)))) (cO (pLabs p) (othersN p.1 (Pl.take (k + 1)))) -> Turns (fun b => b ∈ mapsT T) V u -> Run T W3 u [.string T.1, .slice a1 n1 m1, .slice a2 n2 m2, .slice a3 n3 m3, .map (some T.2.2.2.2)] (pLabs p) (othersN p.1 (Pl.take (k + 1))) (cost (Pl.take (k + 1)))) := fun u h1 h2 => by
    rw [HT3.out]
    rw [Nat.add_assoc] at h1
    exact ⟨h1, (hrun.out.t.trans (Turns.below bV)).trans h2⟩
   obtain ⟨y0, y1, y2, y3, y4⟩ : (V.cell? ⟨w2.heap.size, 0, none⟩ = some (.string T.1)) /\ (V.cell? ⟨w2.heap.size, 1, none⟩ = some (.slice a1 n1 m1)) /\ (V.cell? ⟨w2.heap.size, 2, none⟩ = some (.slice a2 n2 m2)) /\ (V.cell? ⟨w2.heap.size, 3, none⟩ = some (.slice a3 n3 m3)) /\ (V.cell? ⟨w2.heap.size, 4, none⟩ = some (.map (some T.2.2.2.2))) := ⟨((k0.on bV).2 0 _ rfl).1, ((k0.on bV).2 1 _ rfl).1, ((k0.on bV).2 2 _ rfl).1, ((k0.on bV).2 3 _ rfl).1, ((k0.on bV).2 4 _ rfl).1⟩
   have HRV : Hid (V.rangeAt wr.heap.size 0 xs) := qV.range
   clear hr hv hrun k0 k1 k2 k3 k4 bV qV hV HV HT1 HT3 HE1 HE2
   have HV0 : Hid (wr.rangeAt B (off + k * 17) xs) := fun j v hj => by have h1 := HVz.out j v hj; rwa [(((Below.refl _ wr).alloc (Nat.le_refl _) _).cell hB)] at h1
   go_wp2_with (first | (refine wpList_load_mid rfl 68 _ rfl B (off + k * 17) rfl xs _ HV0.out Tryz.underlying68 rfl hi17 ?_) | (refine wpList_load_mid rfl 68 _ rfl B (off + k * 17) rfl xs _ HVz.out Tryz.underlying68 rfl hi17 ?_) | (refine wpList_store_mid rfl 68 _ _ rfl wr.heap.size 0 xs.toArray rfl rfl HTh.out hi17a HO.out ?_; refine zAN HWV.out ?_) | (refine wpList_load_mid rfl 68 _ rfl wr.heap.size 0 rfl xs _ HRV.out Tryz.underlying68 rfl hi17 ?_) | fail)
   refine HTc.mono ?_
   rintro e w6 ⟨rfl, hm6, ht6⟩
   have HR6 := HN.out w6 hm6 ht6
   clear HTc hm6 ht6 HN HRV HVz HV0 HTh HO HWV y0 y1 y2 y3 y4
   go_wp2_with fail
   go_roundw
   case rel => exact ⟨k + 1, by omega, by go_num, HR6⟩
   case measure => simp [intOf]; omega
  ·
   have hkm : k = m := by omega
   have htk : Pl.take k = Pl := List.take_of_length_le (by rw [hml.out]; omega)
   rw [htk] at hrun
   have HWy := zH8 (w := wr) (fun t => eT t (othersN p.1 Pl)) (fun t ht => eT_iff (HWk.out t ht) (fun x hx => HPO.out x (zHU hx))) a n cap L hrun.out.m k1 k2
   rw [whyG_is T p L (othersN p.1 Pl) HTn.out.2.1 HTn.out.2.2.1 HTn.out.2.2.2] at HWy
   have HB : Hid (Below w.heap.size w wr) := k4
   have y0 := (k0.2 0 _ rfl).1; have y1 := (k0.2 1 _ rfl).1; have y2 := (k0.2 2 _ rfl).1; have y3 := (k0.2 3 _ rfl).1; have y4 := (k0.2 4 _ rfl).1
   clear k0 k1 k2 k3 k4 hrun htk hkm
   go_wp2_with fail
   refine HWy.mono ?_
   rintro e w7 ⟨rfl, hb7⟩
   have HB7 : Hid (Below w.heap.size w w7) := on2 HB.out hb7
   clear HWy hb7 y0 y1 y2 y3 y4
   go_wp2_with fail
   go_ret
   exact ⟨rfl, HB7.out⟩
def AdOut (w Wp : World) (X : Nat) (lv0 : Value) (C : List Value) (NL : List Lab) (CL : List ClaimD) (V : List VolumeD) (K : List ClassD) (nm : ByteArray) (out : List PickD) (e : Ending) (u' : World) : Prop :=
 (∃ x, stepP (V, CL) K NL (out.map Prod.snd) nm = .error x /\ x ≠ 0 /\ e = .returned (.int .i64 x) /\ Below w.heap.size w u') \/
 (∃ lv pv, stepP (V, CL) K NL (out.map Prod.snd) nm = .ok none /\ e = .returned (.int .i64 0) /\ PlS w Wp X lv0 C NL V V.length u' lv pv (out.map Prod.snd) out) \/
 ∃ pk lv pv, stepP (V, CL) K NL (out.map Prod.snd) nm = .ok (some pk) /\ e = .returned (.int .i64 0) /\ PlS w Wp X lv0 C NL V V.length u' lv pv ((out ++ [pk]).map Prod.snd) (out ++ [pk])
theorem zHW (w Wp : World) (X : Nat) (lv0 : Value) (la : Option Addr) (ln lc : Nat) (ca : Option Addr) (cn cc cm : Nat) (va : Option Addr) (vn vc vm : Nat) (ka : Option Addr) (kn kc km : Nat) (NL : List Lab) (CL : List ClaimD) (V0 V : List VolumeD) (K : List ClassD) (lv pv : Value) (out : List PickD) (nm : ByteArray) (u : World) (hp : Hid (PlC w Wp X lv0 la ln lc ca cn cc cm va vn vc vm ka kn kc km NL CL V0 K)) (hs : Hid (PlS w Wp X lv0 [.slice la ln lc, .slice ca cn cc, .map (some cm), .slice va vn vc, .map (some vm), .slice ka kn kc, .map (some km)] NL V V.length u lv pv (out.map Prod.snd) out)) (hn : (vNs V).Nodup) (hk0 : Hid (∀ c, keepV V0 NL c = keepV V NL c)) (hv0 : V.length <= V0.length) (hz : nm.size <= 140737488355328) :
  Calls Tryz.prog 128 #[.pointer (some ⟨X, 0, none⟩), .string nm] u (AdOut w Wp X lv0 [.slice la ln lc, .slice ca cn cc, .map (some cm), .slice va vn vc, .map (some vm), .slice ka kn kc, .map (some km)] NL CL V K nm out) := by
 obtain ⟨_, sc, _, _, mc, _, _⟩ := hp.out.at hs.out.kp
 have hC := zBX ca cn cc _ CL cm nm u sc mc hz
 have c1 := (hs.out.bx.2 1 _ rfl).1
 have c2 := (hs.out.bx.2 2 _ rfl).1
 have HR : Hid (∀ k, fI (cNs CL) nm = some k -> stepP (V, CL) K NL (out.map Prod.snd) nm = if sEq (cVo (CL.getD k default)) B0 = true then (if waitsP K (CL.getD k default).2.2.1 = true then (match bestP (CL.getD k default) NL V (out.map Prod.snd) with | none => .error 14 | some j => .ok (some ((CL.getD k default).1, (V.getD j default).1))) else .error 13) else (if keepV V NL (CL.getD k default) = 0 then .ok none else .error (keepV V NL (CL.getD k default)))) := fun k hk => by
  unfold stepP
  simp only
  rw [hk]
  simp only
  split
  ·rfl
  ·unfold keepV
   cases fI (vNs V) (cVo (CL.getD k default)) with
   | none => rfl
   | some j =>
    simp only
    cases sEq (vCl (V.getD j default)) (CL.getD k default).1 with
    | false => rfl
    | true =>
     cases matchL NL (vRq (V.getD j default)) <;> rfl
 have HR0 : Hid (fI (cNs CL) nm = none -> stepP (V, CL) K NL (out.map Prod.snd) nm = .error 13) := fun hk => by
  unfold stepP
  simp only
  rw [hk]
 have HS : Hid (∀ z, Below u.heap.size u z -> PlS w Wp X lv0 [.slice la ln lc, .slice ca cn cc, .map (some cm), .slice va vn vc, .map (some vm), .slice ka kn kc, .map (some km)] NL V V.length z lv pv (out.map Prod.snd) out) := fun z hb => hs.out.on hb
 clear sc mc hs
 go_enter Tryz.func128, Tryz.ntmps128
 go_wp2_with fail
 refine hC.mono ?_
 rintro e w1 ⟨rfl, b1⟩
 clear hC c1 c2
 cases hf : fI (cNs CL) nm with
 | none =>
  have hpa : pAt 4 ca none = none := by cases ca <;> rfl
  rw [hpa]
  have HF : Hid (stepP (V, CL) K NL (out.map Prod.snd) nm = .error 13 /\ Below w.heap.size w w1) := ⟨HR0.out hf, (HS.out w1 b1).bw⟩
  clear hpa HR HR0 HS b1 hf hp
  go_wp2_with fail
  go_ret
  exact .inl ⟨13, HF.out.1, by decide, rfl, HF.out.2⟩
 | some k =>
  have hst := HR.out k hf
  have hs1 := HS.out w1 b1
  obtain ⟨_, sc, _, _, _, _, _⟩ := hp.out.at hs1.kp
  have hk := (zAD hf).1
  rw [List.length_map, sc.1] at hk
  obtain ⟨B, off, rfl, hB, _, cs, hr, hv⟩ := sc.get hk
  have hlc := RClaim.firm.len hr
  have hic : (Tryz.prog.info? 96).map (·.size) = some cs.length := by rw [hlc]; exact zBi
  have hpa : pAt 4 (some ⟨B, off, none⟩) (some k) = some ⟨B, off + k * 4, none⟩ := rfl
  rw [hpa]
  have HV : Hid (∀ z, Below w1.heap.size w1 z -> z.rangeAt B (off + k * 4) cs /\ RClaim (fun b => b < w.heap.size) z cs (CL.getD k default) /\ PlS w Wp X lv0 [.slice la ln lc, .slice (some ⟨B, off, none⟩) cn cc, .map (some cm), .slice va vn vc, .map (some vm), .slice ka kn kc, .map (some km)] NL V V.length z lv pv (out.map Prod.snd) out) := fun z hb => ⟨fun j v hj => (hb.cell hB).trans (hv j v hj), RClaim.firm.kept hr (Kept.below hb), hs1.on hb⟩
  have Hst : Hid (stepP (V, CL) K NL (out.map Prod.snd) nm = if sEq (cVo (CL.getD k default)) B0 = true then (if waitsP K (CL.getD k default).2.2.1 = true then (match bestP (CL.getD k default) NL V (out.map Prod.snd) with | none => .error 14 | some j => .ok (some ((CL.getD k default).1, (V.getD j default).1))) else .error 13) else (if keepV V NL (CL.getD k default) = 0 then .ok none else .error (keepV V NL (CL.getD k default)))) := hst
  have HRg : Hid (w1.rangeAt B (off + k * 4) cs) := hv
  have hCh := zBB cs _ _ w1 hr
  clear hst hs1 sc hr hv hpa HR HR0 HS b1 hf hB
  generalize CL.getD k default = c at HV Hst hCh
  generalize hbb : sEq (cVo c) B0 = b at hCh Hst
  clear hbb
  go_wp2_with (first | (refine wpList_load_mid rfl 96 _ rfl B (off + k * 4) rfl cs _ HRg.out Tryz.underlying96 rfl hic ?_) | fail)
  refine hCh.mono ?_
  rintro e w2 ⟨rfl, b2⟩
  clear hCh HRg
  obtain ⟨rg2, rc2, ps2⟩ := HV.out w2 b2
  have HRg : Hid (w2.rangeAt B (off + k * 4) cs) := rg2
  cases b with
  | false =>
   have hCk := zH1 w Wp X lv0 la ln lc _ cn cc cm va vn vc vm ka kn kc km NL CL V0 K lv pv cs _ c w2 hp.out ps2.kp ps2.bx rc2
   rw [hk0.out c] at hCk
   have HP : Hid (∀ z, Below w2.heap.size w2 z -> PlS w Wp X lv0 [.slice la ln lc, .slice (some ⟨B, off, none⟩) cn cc, .map (some cm), .slice va vn vc, .map (some vm), .slice ka kn kc, .map (some km)] NL V V.length z lv pv (out.map Prod.snd) out) := fun z hb => ps2.on hb
   have Hs2 : Hid (stepP (V, CL) K NL (out.map Prod.snd) nm = if keepV V NL c = 0 then .ok none else .error (keepV V NL c)) := by have h9 := Hst.out; rw [if_neg (by decide)] at h9; exact h9
   clear Hst HV rg2 rc2 ps2 b2 hp
   generalize keepV V NL c = x at hCk Hs2
   go_wp2_with (first | (refine wpList_load_mid rfl 96 _ rfl B (off + k * 4) rfl cs _ HRg.out Tryz.underlying96 rfl hic ?_) | fail)
   refine hCk.mono ?_
   rintro e w3 ⟨rfl, b3⟩
   have p3 := HP.out w3 b3
   have HF : Hid (AdOut w Wp X lv0 [.slice la ln lc, .slice (some ⟨B, off, none⟩) cn cc, .map (some cm), .slice va vn vc, .map (some vm), .slice ka kn kc, .map (some km)] NL CL V K nm out (.returned (.int .i64 x)) w3) := by
    have h9 := Hs2.out
    by_cases hx : x = 0
    ·rw [if_pos hx] at h9
     exact .inr (.inl ⟨lv, pv, h9, by rw [hx], p3⟩)
    ·rw [if_neg hx] at h9
     exact .inl ⟨x, h9, hx, rfl, p3.bw⟩
   clear hCk HP Hs2 p3 b3 HRg
   go_wp2_with fail
   go_ret
   exact HF.out
  | true =>
   have hCw := zG6 w Wp X lv0 la ln lc _ cn cc cm va vn vc vm ka kn kc km NL CL V0 K lv pv cs _ c w2 hp.out ps2.kp ps2.bx rc2
   have HP : Hid (∀ z, Below w2.heap.size w2 z -> PlS w Wp X lv0 [.slice la ln lc, .slice (some ⟨B, off, none⟩) cn cc, .map (some cm), .slice va vn vc, .map (some vm), .slice ka kn kc, .map (some km)] NL V V.length z lv pv (out.map Prod.snd) out /\ RClaim (fun b => b < w.heap.size) z cs c /\ z.rangeAt B (off + k * 4) cs) := fun z hb => by
    obtain ⟨h1, h2, h3⟩ := HV.out z (on2 b2 hb)
    exact ⟨h3, h2, h1⟩
   have Hs2 : Hid (stepP (V, CL) K NL (out.map Prod.snd) nm = if waitsP K c.2.2.1 = true then (match bestP c NL V (out.map Prod.snd) with | none => .error 14 | some j => .ok (some (c.1, (V.getD j default).1))) else .error 13) := by have h9 := Hst.out; rw [if_pos rfl] at h9; exact h9
   have Hv : Hid (V.length * 80 <= 140737488355328) := by have h9 := hp.out.hv; rw [Hid]; omega
   clear Hst HV rg2 rc2 ps2 b2 hp
   generalize waitsP K c.2.2.1 = x at hCw Hs2
   go_wp2_with (first | (refine wpList_load_mid rfl 96 _ rfl B (off + k * 4) rfl cs _ HRg.out Tryz.underlying96 rfl hic ?_) | fail)
   refine hCw.mono ?_
   rintro e w3 ⟨rfl, b3⟩
   obtain ⟨p3, rc3, rg3⟩ := HP.out w3 b3
   clear hCw HP HRg b3
   cases x with
   | false =>
    have HF : Hid (stepP (V, CL) K NL (out.map Prod.snd) nm = .error 13 /\ Below w.heap.size w w3) := ⟨by have h9 := Hs2.out; rw [if_neg (by decide)] at h9; exact h9, p3.bw⟩
    clear p3 rc3 rg3 Hs2
    go_wp2_with fail
    go_ret
    exact .inl ⟨13, HF.out.1, by decide, rfl, HF.out.2⟩
   | true =>
    have HRg : Hid (w3.rangeAt B (off + k * 4) cs) := rg3
    have hCp := zHP w Wp X lv0 la ln lc _ cn cc cm va vn vc vm ka kn kc km NL V lv pv out cs _ c w3 p3 Hv.out hn rc3
    have Hs3 : Hid (stepP (V, CL) K NL (out.map Prod.snd) nm = match bestP c NL V (out.map Prod.snd) with | none => .error 14 | some j => .ok (some (c.1, (V.getD j default).1))) := by have h9 := Hs2.out; rw [if_pos rfl] at h9; exact h9
    clear p3 rc3 rg3 Hs2
    go_wp2_with (first | (refine wpList_load_mid rfl 96 _ rfl B (off + k * 4) rfl cs _ HRg.out Tryz.underlying96 rfl hic ?_) | fail)
    refine hCp.mono ?_
    intro e w4 h4
    have HF : Hid (AdOut w Wp X lv0 [.slice la ln lc, .slice (some ⟨B, off, none⟩) cn cc, .map (some cm), .slice va vn vc, .map (some vm), .slice ka kn kc, .map (some km)] NL CL V K nm out e w4) := by
     have h9 := Hs3.out
     rcases h4 with ⟨hb, he, h5⟩ | ⟨j, lv', pv', hb, he, h5⟩
     ·rw [hb] at h9
      exact .inl ⟨14, h9, by decide, he, h5⟩
     ·rw [hb] at h9
      exact .inr (.inr ⟨_, lv', pv', h9, he, h5⟩)
    have he : ∃ y, e = .returned (.int .i64 y) := by
     rcases h4 with ⟨hb, he, h5⟩ | ⟨j, lv', pv', hb, he, h5⟩
     ·exact ⟨_, he⟩
     ·exact ⟨_, he⟩
    obtain ⟨y, rfl⟩ := he
    clear hCp Hs3 h4 HRg
    go_wp2_with fail
    go_ret
    exact HF.out
end Go.Proofs.YtnffafjamiffnaaGreat
