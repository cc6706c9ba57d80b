/- The law NearTables' walk. Condition: the arguments lie as is said of them, are things of Go's, and are no greater than the statement's second form lets them; the table of powers of ten is laid as the program's text lays it. -/
import Derived.Test.YtfnafgmengefaaaGreatDoorQ24
import Derived.Test.YtfnafgmengefaaaGreatDoorY08
import Derived.Test.YtfnafgmengefaaaGreatDoorY09
import Derived.Test.YtfnafgmengefaaaGreatDoorQ09
namespace Go.Proofs.YtfnafgmengefaaaGreatDoor
open Go.RowKit Go.Maps
set_option linter.unusedSimpArgs false
set_option maxRecDepth 100000

theorem RAct.parts {A : Where} {w : World} {xs : List Value} {y : ActD} (h : RAct A w xs y) : ∃ (ys : List Value) (g : Hd), xs = .int .i64 y.1 :: (ys ++ [.slice g.1 g.2.1 g.2.2]) ∧ RPlaced A w ys y.2.1 ∧ ys.length = 17 ∧ SlAt RLabel 2 32 A w g.1 g.2.1 g.2.2 y.2.2 := by
  obtain ⟨c, d, rfl, hc, ys, zs, rfl, h1, a, n, cap, rfl, h3⟩ := h
  have hc' : c = [.int .i64 y.1] := hc
  subst hc'
  exact ⟨ys, (a, n, cap), rfl, h1, RPlaced.firm.len h1, h3⟩
theorem sizeAct : (Tryz.prog.info? 49).map (·.size) = some 19 := by kernel_rfl
theorem sum_take9 {α : Type} [Inhabited α] (m : α → Nat) {L : List α} {k : Nat} (h : k < L.length) : sumBy m (L.take (k + 1)) = sumBy m (L.take k) + m (L.getD k default) := by
  rw [← take_at8 h]
  unfold sumBy
  rw [List.map_append, List.sum_append]
  simp
theorem sum_take_le9 {α : Type} (m : α → Nat) (L : List α) (k : Nat) : sumBy m (L.take k) ≤ sumBy m L := by
  have : sumBy m L = sumBy m (L.take k) + sumBy m (L.drop k) := by
    unfold sumBy
    rw [← List.sum_append, ← List.map_append, List.take_append_drop]
  omega
theorem eAct_pl (y : ActD) : (ePlaced y.2.1).length ≤ (eAct y).length := by unfold eAct; rw [List.length_append, List.length_append]; omega
theorem Turns.over9 {F : Where} {V w7 u8 : World} (h : Turns F V w7) (k : Turns (fun b => V.heap.size ≤ b) w7 u8) : Turns F V u8 :=
  ⟨k.os.trans h.os, k.tape.trans h.tape, k.output.trans h.output, Nat.le_trans h.size k.size, fun b hb hf => (k.block b (Nat.lt_of_lt_of_le hb h.size) (fun q => by omega)).trans (h.block b hb hf)⟩
theorem TS.start {W1 w4 w5 : World} {p : PodD} {tb : Nat} {T : TalD} {ts : List Value} {pm : Nat} {v : Value} {A : List PlacedD} {N n N' : Nat} (h : TabAt w4 tb T ts pm (pLabs p) A N n) (hof : OfPod T p) (hfm : ∀ b, mapsP T pm b → W1.heap.size ≤ b) (hb : Below W1.heap.size W1 w4) (hr : Row RPlaced 17 (Fresh w4) w4 w5 41 v A) (hN : N ≤ N') (hn : n ≤ N') (hl : A.length ≤ N') : TS W1 p w5 tb T ts pm v A A N' := by
  have h5 := h.on hr.below
  have hpl := h.p.lt
  have htl := h.b.1
  have hml : ∀ b, mapsP T pm b → b < w4.heap.size := fun b k => by
    rcases k with k | k
    · exact h.m.lt k
    · rw [k]; exact hpl
  have ge : ∀ b, v.ownBlock = some b → w4.heap.size ≤ b := fun b e => (hr.lt e).1
  have h1 : RTally (fun b => NP T pm b ∧ b < w4.heap.size) w4 ts T := RTally.firm.weak h.r (fun b hb q => ⟨q, hb⟩)
  refine ⟨⟨h5.b, h5.r, h5.m.mono9 hN, h5.p.mono hn, h5.d, h5.l⟩, hof, hfm, hr.from RPlaced.firm hb (fun b q k => by have := hml b k; have q' : w4.heap.size ≤ b := q; omega), fun b e k => by have := ge b e; have := hml b k; omega, RTally.firm.weak (RTally.firm.kept h1 (Kept.below hr.below)) (fun b _ q => ⟨q.1, fun e => by have := ge b e; have := q.2; omega⟩), fun e => by have := ge tb e; omega, hl⟩
theorem RPlaced.lit9 {A : Where} {w : World} {cs : List Value} {x : PlacedD} (h : RPlaced A w cs x) : ∃ v0 v1 v2 v3 v4 v5 v6 v7 v8 v9 v10 v11 v12 v13 v14 v15 v16, cs = [v0, v1, v2, v3, v4, v5, v6, v7, v8, v9, v10, v11, v12, v13, v14, v15, v16] := RPlaced.lit h
set_option maxHeartbeats 32000000 in
theorem tables_walk8 (cs : List Value) (p : PodD) (a : Option Addr) (n cap : Nat) (L : List PlacedD) (ac : Option Addr) (an acap : Nat) (Ac : List ActD) (la : Option Addr) (ln lc : Nat) (Lb : List Lab) (w : World) (hp : RPod (fun _ => True) w cs p) (hL : SlAt RPlaced 17 320 (fun _ => True) w a n cap L) (hA : SlAt RAct 19 352 (fun _ => True) w ac an acap Ac) (hLb : SlAt RLabel 2 32 (fun _ => True) w la ln lc Lb) (ht : Hid (TB w.heap.size w)) (hS : (ePod p).length ≤ 67108864 ∧ (eL ePlaced L).length + sumBy (fun a : ActD => (eAct a).length) Ac ≤ 67108864 ∧ (∀ x ∈ L, okPl x) ∧ ∀ x ∈ Ac, okAct x) :
    Calls Tryz.prog 4 #[.agg cs.toArray, .slice a n cap, .slice ac an acap, .slice la ln lc] w fun e w' => e = .returned (.bool true) ∧ Below w.heap.size w w' := by
  have hi16 : (Tryz.prog.info? 33).map (·.size) = some cs.length := by rw [RPod.firm.len hp]; exact sizePo
  have hnl : Hid (L.length = n) := hL.1
  have hal : Hid (Ac.length = an) := hA.1
  have halen := hA.len (by decide)
  have hpn := ePod_near p
  have hll := ePl_list L
  obtain ⟨E0, hE0⟩ : ∃ E, E = (eL ePlaced L).length := ⟨_, rfl⟩
  rw [← hE0] at hll hS
  have HS : Hid ((pNear p).length < 1000000000 ∧ (pApart p).length < 1000000000 ∧ cost L ≤ E0 ∧ L.length ≤ E0 ∧ E0 + sumBy (fun a : ActD => (eAct a).length) Ac ≤ 67108864) := ⟨by omega, by omega, hll.1, hll.2.1, hS.2.1⟩
  have HOk : Hid (∀ x ∈ L, okPod x.1 ∧ (ePlaced x).length ≤ 70368744170000) := fun x hx => ⟨hS.2.2.1 x hx, by have h1 := hll.2.2 x hx; have h2 := hS.2.1; omega⟩
  have HOa : Hid (∀ y ∈ Ac, okAct y) := hS.2.2.2
  obtain ⟨W1, hW1⟩ : ∃ W, W = w.alloc (.cells cs.toArray 33) := ⟨_, rfl⟩
  have B1 : Below w.heap.size w W1 := by rw [hW1]; go_grown
  have qx : BoxL W1 w.heap.size cs := by rw [hW1]; exact BoxL.new w 33 cs
  have HIn : Hid (∀ u, Below W1.heap.size W1 u → BoxL u w.heap.size cs ∧ RPod (fun _ => True) u cs p ∧ SlAt RPlaced 17 320 (fun _ => True) u a n cap L ∧ SlAt RAct 19 352 (fun b => b < w.heap.size) u ac an acap Ac ∧ SlAt RLabel 2 32 (fun _ => True) u la ln lc Lb ∧ Below w.heap.size w u ∧ TB u.heap.size u) := fun u hb => ⟨qx.on hb, RPod.firm.kept hp (Kept.below (on2 B1 hb)), hL.on RPlaced.firm (on2 B1 hb), (hA.weak RAct.firm (fun b hb _ => hb)).on RAct.firm (on2 B1 hb), hLb.on RLabel.firm (on2 B1 hb), on2 B1 hb, fun w' h => ht.out w' (on2 (on2 B1 hb) h)⟩
  have hsz1 : Hid (W1.heap.size = w.heap.size + 1) := by rw [Hid, hW1]; simp
  have hby : n * 320 ≤ 140737488351232 := hL.2.2.2.1
  have HR1 : Hid (W1.rangeAt w.heap.size 0 cs) := qx.range
  clear qx B1 ht hp hL hA hLb hS hpn hll hE0
  go_enter Tryz.func4, Tryz.ntmps4
  go_upto_region 1 with fail
  rw [← hW1]
  clear hW1
  go_wp2_with (first | (refine wpList_load_mid rfl 33 _ rfl w.heap.size 0 rfl cs _ HR1.out Tryz.underlying33 rfl hi16 ?_) | fail)
  clear HR1
  refine (Pod_copy cs _ p W1 (HIn.out W1 (Below.refl _ _)).2.1).mono ?_
  rintro e w2 ⟨cs', rfl, rp', b2⟩
  have HP2 : Hid (RPod (Fresh W1) w2 cs' p) := rp'
  clear rp'
  go_wp2_with fail
  refine (many_calls a n cap _ L w2 (HIn.out w2 b2).2.2.1).mono ?_
  rintro e w3 ⟨v3, rfl, hrow3⟩
  obtain ⟨av, cv, rfl, sQ⟩ := hrow3.slO8 (bytes := 320) RPlaced.firm (by rw [hnl.out]; exact hby)
  have b3 : Below w2.heap.size w2 w3 := hrow3.below
  have b13 : Below W1.heap.size W1 w3 := on2 b2 b3
  rw [hnl.out]
  have HNw := New_calls cs' _ (fun _ => True) p av n cv L w3 (RPod.firm.kept HP2.out (Kept.below b3)) (by have h := sQ.weak RPlaced.firm (A' := fun _ => True) (fun _ _ _ => trivial); rw [hnl.out] at h; exact h) HS.out.1 HS.out.2.1 (by have := HS.out; omega) HOk (HIn.out w3 b13).2.2.2.2.2.2
  clear hrow3 sQ HP2
  go_wp2_with fail
  refine HNw.mono ?_
  clear HNw
  rintro e w4 ⟨tb0, T0, ts0, pm0, rfl, htab, hof, hfm, b4⟩
  have b14 : Below W1.heap.size W1 w4 := on2 b13 b4
  have HT4 : Hid (TabAt w4 tb0 T0 ts0 pm0 (pLabs p) L (cost L) n ∧ OfPod T0 p ∧ (∀ b, mapsP T0 pm0 b → W1.heap.size ≤ b) ∧ Below W1.heap.size W1 w4) := ⟨htab, hof, fun b k => Nat.le_trans b13.size (hfm b k), b14⟩
  clear htab hof hfm b4 b3 b2
  have HMn := many_calls a n cap _ L w4 (HIn.out w4 b14).2.2.1
  clear b13 b14
  go_wp2_with fail
  refine HMn.mono ?_
  clear HMn
  rintro e w5 ⟨v5, rfl, hrow5⟩
  have HT5 : Hid (TS W1 p w5 tb0 T0 ts0 pm0 v5 L L E0) := TS.start HT4.out.1 HT4.out.2.1 HT4.out.2.2.1 HT4.out.2.2.2 hrow5 HS.out.2.2.1 (by rw [← hnl.out]; exact HS.out.2.2.2.1) HS.out.2.2.2.1
  clear hrow5 HT4
  go_wp2_with fail
  go_loopw [9, 10, 11] (fun t v i wr => ∃ (k tb : Nat) (T : TalD) (ts : List Value) (pm : Nat) (A : List PlacedD) (N : Nat), k ≤ an ∧ i = .int .i64 k ∧ t = .pointer (some ⟨tb, 0, none⟩) ∧ Hid (TS W1 p wr tb T ts pm v A A N ∧ N ≤ E0 + sumBy (fun a : ActD => (eAct a).length) (Ac.take k))) (fun _ _ i _ => an - (intOf i).toNat)
  case atStart => exact ⟨0, tb0, T0, ts0, pm0, L, E0, Nat.zero_le _, rfl, rfl, HT5.out, by simp [sumBy]⟩
  case round =>
    obtain ⟨wo, hwo⟩ : ∃ x, x = wr := ⟨_, rfl⟩
    subst hwo
    obtain ⟨k, tb, T, ts, pm, A, N, hk, rfl, rfl, hst⟩ := hrel
    clear HT5
    by_cases hlt : k < an
    · have hltz : (k : Int) < (an : Int) := by omega
      have HTS : Hid (TS W1 p wo tb T ts pm u10 A A N) := hst.out.1
      have hin := HIn.out wo hst.out.1.row.below
      have hka : k < Ac.length := by rw [hal.out]; exact hlt
      obtain ⟨B, off, rfl, hB, _, xs, hr, hv⟩ := hin.2.2.2.1.get hlt
      obtain ⟨ys, ⟨g1, g2, g3⟩, hxs, hy, hly, sg⟩ := hr.parts
      simp only at hxs sg
      have HSum : Hid (sumBy (fun a : ActD => (eAct a).length) (Ac.take (k + 1)) = sumBy (fun a : ActD => (eAct a).length) (Ac.take k) + (eAct (Ac.getD k default)).length ∧ E0 + sumBy (fun a : ActD => (eAct a).length) (Ac.take (k + 1)) ≤ 67108864) := ⟨sum_take9 _ hka, by have h1 := sum_take_le9 (fun a : ActD => (eAct a).length) Ac (k + 1); have h2 := HS.out.2.2.2.2; omega⟩
      have hNb : Hid (N ≤ E0 + sumBy (fun a : ActD => (eAct a).length) (Ac.take k)) := hst.out.2
      have hokx : okPod (Ac.getD k default).2.1.1 := HOa.out _ (getD_mem10 hka)
      have hle := eAct_pl (Ac.getD k default)
      generalize Ac.getD k default = y at hxs hy sg HSum hokx hle
      obtain ⟨kd, x, Lx⟩ := y
      simp only at hxs hy sg hokx hle
      have hap := ePl_cost x
      have hEx : Hid ((ePlaced x).length ≤ 70368744170000 ∧ N + 1 + (pApart x.1).length < 70368744170000 ∧ N < 67108865 ∧ N + 1 + (pApart x.1).length ≤ E0 + sumBy (fun a : ActD => (eAct a).length) (Ac.take (k + 1)) ∧ N ≤ E0 + sumBy (fun a : ActD => (eAct a).length) (Ac.take (k + 1)) ∧ N + 1 + (pApart x.1).length ≤ 67108864) := by have h1 := HSum.out; have h2 := hNb.out; refine ⟨?_, ?_, ?_, ?_, ?_, ?_⟩ <;> omega
      have hl19 : xs.length = 19 := by rw [hxs]; simp [hly]
      have hi19 : (Tryz.prog.info? 49).map (·.size) = some xs.length := by rw [hl19]; exact sizeAct
      have hi19a : (Tryz.prog.info? 49).map (·.size) = some xs.toArray.size := by simpa using hi19
      have HO : Hid (xs.toArray.all (·.oneCell') = true) := all_oneCell_toArray (RAct.firm.one hr)
      have HV0 : Hid (wo.rangeAt B (off + k * 19) xs) := hv
      have HVz : Hid ((wo.alloc (.cells #[.int .i64 0, .string ⟨#[]⟩, .int .i64 0, .slice none 0 0, .int .i64 0, .int .i64 0, .int .i64 0, .slice none 0 0, .slice none 0 0, .slice none 0 0, .slice none 0 0, .slice none 0 0, .slice none 0 0, .slice none 0 0, .slice none 0 0, .string ⟨#[]⟩, .string ⟨#[]⟩, .slice none 0 0, .slice none 0 0] 49)).rangeAt B (off + k * 19) xs) := fun j v hj => (((Below.refl _ wo).alloc (Nat.le_refl _) _).cell hB).trans (hv j v hj)
      obtain ⟨V, hV⟩ : ∃ V, V = (wo.alloc (.cells #[.int .i64 0, .string ⟨#[]⟩, .int .i64 0, .slice none 0 0, .int .i64 0, .int .i64 0, .int .i64 0, .slice none 0 0, .slice none 0 0, .slice none 0 0, .slice none 0 0, .slice none 0 0, .slice none 0 0, .slice none 0 0, .slice none 0 0, .string ⟨#[]⟩, .string ⟨#[]⟩, .slice none 0 0, .slice none 0 0] 49)).setCells wo.heap.size 0 xs := ⟨_, rfl⟩
      have HTh : Hid ((wo.alloc (.cells #[.int .i64 0, .string ⟨#[]⟩, .int .i64 0, .slice none 0 0, .int .i64 0, .int .i64 0, .int .i64 0, .slice none 0 0, .slice none 0 0, .slice none 0 0, .slice none 0 0, .slice none 0 0, .slice none 0 0, .slice none 0 0, .slice none 0 0, .string ⟨#[]⟩, .string ⟨#[]⟩, .slice none 0 0, .slice none 0 0] 49)).there wo.heap.size 0 xs.toArray.size) := by have e : xs.toArray.size = 19 := (by simp [hl19]); rw [Hid, e]; exact (BoxL.new wo 49 [.int .i64 0, .string ⟨#[]⟩, .int .i64 0, .slice none 0 0, .int .i64 0, .int .i64 0, .int .i64 0, .slice none 0 0, .slice none 0 0, .slice none 0 0, .slice none 0 0, .slice none 0 0, .slice none 0 0, .slice none 0 0, .slice none 0 0, .string ⟨#[]⟩, .string ⟨#[]⟩, .slice none 0 0, .slice none 0 0]).there
      have bV : Below wo.heap.size wo V := by rw [hV]; exact below_setCells ((Below.refl _ _).alloc (Nat.le_refl _) _) (Nat.le_refl _)
      have qV : BoxL V wo.heap.size xs := by rw [hV]; exact box_over8 (BoxL.new wo 49 [.int .i64 0, .string ⟨#[]⟩, .int .i64 0, .slice none 0 0, .int .i64 0, .int .i64 0, .int .i64 0, .slice none 0 0, .slice none 0 0, .slice none 0 0, .slice none 0 0, .slice none 0 0, .slice none 0 0, .slice none 0 0, .slice none 0 0, .string ⟨#[]⟩, .string ⟨#[]⟩, .slice none 0 0, .slice none 0 0]) (by rw [hl19]; rfl)
      have HWV : Hid (V = (wo.alloc (.cells #[.int .i64 0, .string ⟨#[]⟩, .int .i64 0, .slice none 0 0, .int .i64 0, .int .i64 0, .int .i64 0, .slice none 0 0, .slice none 0 0, .slice none 0 0, .slice none 0 0, .slice none 0 0, .slice none 0 0, .slice none 0 0, .slice none 0 0, .string ⟨#[]⟩, .string ⟨#[]⟩, .slice none 0 0, .slice none 0 0] 49)).setCells wo.heap.size 0 xs.toArray.toList) := by rw [Hid, hV]
      have HTV : Hid (TS W1 p V tb T ts pm u10 A A N) := HTS.out.on bV
      have hnD : NP T pm wo.heap.size := fun q => by
        rcases q with q | q
        · exact absurd (HTS.out.tab.m.lt q) (Nat.lt_irrefl _)
        · exact absurd HTS.out.tab.p.lt (by rw [← q]; exact Nat.lt_irrefl _)
      have hvD : u10.ownBlock ≠ some wo.heap.size := fun e => absurd (HTS.out.row.lt e).2 (Nat.lt_irrefl _)
      have HD : Hid (∀ u, Turns (mapsP T pm) V u → BoxL u wo.heap.size xs) := fun u ht => qV.kept (kept_np ht) hnD
      have HDv : Hid (u10.ownBlock ≠ some wo.heap.size ∧ wo.heap.size < V.heap.size ∧ NP T pm wo.heap.size) := ⟨hvD, qV.1, hnD⟩
      have HXw : Hid (RPlaced (fun b => b < w.heap.size) wo ys x ∧ SlAt RLabel 2 32 (fun b => b < w.heap.size) wo g1 g2 g3 Lx) := ⟨hy, sg⟩
      have HX : Hid (∀ u, (∀ b, b < w.heap.size → u.heap[b]? = wo.heap[b]?) → wo.heap.size ≤ u.heap.size → RPlaced (fun b => b < w.heap.size) u ys x ∧ SlAt RLabel 2 32 (fun b => b < w.heap.size) u g1 g2 g3 Lx ∧ RPlaced (NP T pm) u ys x) := fun u he hs => by
        have kk : Kept (fun b => b < w.heap.size) wo u := ⟨hs, fun b hb _ => he b hb⟩
        have q1 := RPlaced.firm.kept HXw.out.1 kk
        exact ⟨q1, HXw.out.2.kept RLabel.firm kk, RPlaced.firm.weak q1 (fun b _ hb q => by have h1 := HTS.out.fm b q; have h2 := hsz1.out; have h3 : b < w.heap.size := hb; omega)⟩
      have HXu : Hid (∀ u, Below W1.heap.size W1 u → wo.heap.size ≤ u.heap.size → RPlaced (fun b => b < w.heap.size) u ys x ∧ SlAt RLabel 2 32 (fun b => b < w.heap.size) u g1 g2 g3 Lx ∧ RPlaced (NP T pm) u ys x) := fun u hb hs => HX.out u (fun b h => by have h2 := hsz1.out; exact (hb.block b (by omega)).trans ((HTS.out.row.below.block b (by omega)).symm)) hs
      have HXS : Hid (∀ j v, ys[j]? = some v → xs[1 + j]? = some v) := fun j v hj => by rw [hxs, Nat.add_comm]; show (ys ++ _)[j]? = _; rw [List.getElem?_append_left (List.getElem?_eq_some_iff.1 hj).1]; exact hj
      have HX18 : Hid (xs[18]? = some (.slice g1 g2 g3) ∧ xs[0]? = some (.int .i64 kd)) := by rw [Hid, hxs]; exact ⟨by show (ys ++ [_])[17]? = _; rw [List.getElem?_append_right (by omega), hly]; rfl, rfl⟩
      have HRY : Hid (∀ u, BoxL u wo.heap.size xs → u.rangeAt wo.heap.size 1 ys) := fun u hb j v hj => (hb.2 (1 + j) v (HXS.out j v hj)).1
      have hi17 : (Tryz.prog.info? 41).map (·.size) = some ys.length := by rw [hly]; exact sizePl
      have y0 := (qV.2 0 _ HX18.out.2).1
      have HsV : Hid (wo.heap.size ≤ V.heap.size) := bV.size
      clear hst hin hr hv hy sg hxs HX HXw HXS bV qV hV HTS hnD hvD hka hle hap hNb hB hly
      go_wp2_with (first | (refine wpList_load_mid rfl 49 _ rfl B (off + k * 19) rfl xs _ HV0.out Tryz.underlying49 rfl hi19 ?_) | (refine wpList_load_mid rfl 49 _ rfl B (off + k * 19) rfl xs _ HVz.out Tryz.underlying49 rfl hi19 ?_) | (refine wpList_store_mid rfl 49 _ _ rfl wo.heap.size 0 xs.toArray rfl rfl HTh.out hi19a HO.out ?_; refine wpl_w8 HWV.out ?_) | fail)
      clear HV0 HVz HTh HO HWV y0 hi19 hi19a hl19
      have hAm := Among8_calls kd 5 (by omega) (by omega) V
      rw [show (((5 : Nat)) : Int) = 5 from rfl] at hAm
      refine hAm.mono ?_
      clear hAm
      rintro e w8 ⟨⟨j, rfl, hj⟩, hw8⟩
      rw [hw8]
      clear hw8 w8
      have hj5 : j = 0 ∨ j = 1 ∨ j = 2 ∨ j = 3 ∨ j = 4 := by omega
      clear hj
      rcases hj5 with rfl | rfl | rfl | rfl | rfl
      ·
        have HPc := placed_thr ys _ x V (HXu.out V HTV.out.row.below HsV.out).1
        have HRx : Hid (V.rangeAt wo.heap.size 1 ys) := HRY.out V (HD.out V (Turns.refl _ _))
        go_wp2_with (first | (refine wpList_load_mid rfl 41 _ rfl wo.heap.size 1 rfl ys _ HRx.out Tryz.underlying41 rfl hi17 ?_) | fail)
        refine HPc.mono ?_
        clear HPc HRx
        rintro e w6 ⟨p', a', n', cap', rfl, hrp, hth, b6⟩
        have HsV6 : Hid (V.heap.size ≤ w6.heap.size) := b6.size
        obtain ⟨qs, hqs⟩ : ∃ q, q = p' ++ [Value.slice a' n' cap'] := ⟨_, rfl⟩
        rw [← hqs] at hrp ⊢
        have hlq : qs.length = 17 := RPlaced.firm.len hrp
        have hiq : (Tryz.prog.info? 41).map (·.size) = some qs.length := by rw [hlq]; exact sizePl
        have hiqa : (Tryz.prog.info? 41).map (·.size) = some qs.toArray.size := by simpa using hiq
        have HO : Hid (qs.toArray.all (·.oneCell') = true) := all_oneCell_toArray (RPlaced.firm.one hrp)
        obtain ⟨V2, hV2⟩ : ∃ V2, V2 = (w6.alloc (.cells #[.string ⟨#[]⟩, .int .i64 0, .slice none 0 0, .int .i64 0, .int .i64 0, .int .i64 0, .slice none 0 0, .slice none 0 0, .slice none 0 0, .slice none 0 0, .slice none 0 0, .slice none 0 0, .slice none 0 0, .slice none 0 0, .string ⟨#[]⟩, .string ⟨#[]⟩, .slice none 0 0] 41)).setCells w6.heap.size 0 qs := ⟨_, rfl⟩
        have HTh : Hid ((w6.alloc (.cells #[.string ⟨#[]⟩, .int .i64 0, .slice none 0 0, .int .i64 0, .int .i64 0, .int .i64 0, .slice none 0 0, .slice none 0 0, .slice none 0 0, .slice none 0 0, .slice none 0 0, .slice none 0 0, .slice none 0 0, .slice none 0 0, .string ⟨#[]⟩, .string ⟨#[]⟩, .slice none 0 0] 41)).there w6.heap.size 0 qs.toArray.size) := by have e : qs.toArray.size = 17 := (by simp [hlq]); rw [Hid, e]; exact (BoxL.new w6 41 [.string ⟨#[]⟩, .int .i64 0, .slice none 0 0, .int .i64 0, .int .i64 0, .int .i64 0, .slice none 0 0, .slice none 0 0, .slice none 0 0, .slice none 0 0, .slice none 0 0, .slice none 0 0, .slice none 0 0, .slice none 0 0, .string ⟨#[]⟩, .string ⟨#[]⟩, .slice none 0 0]).there
        have b2 : Below w6.heap.size w6 V2 := by rw [hV2]; exact below_setCells ((Below.refl _ _).alloc (Nat.le_refl _) _) (Nat.le_refl _)
        have q2 : BoxL V2 w6.heap.size qs := by rw [hV2]; exact box_over8 (BoxL.new w6 41 [.string ⟨#[]⟩, .int .i64 0, .slice none 0 0, .int .i64 0, .int .i64 0, .int .i64 0, .slice none 0 0, .slice none 0 0, .slice none 0 0, .slice none 0 0, .slice none 0 0, .slice none 0 0, .slice none 0 0, .slice none 0 0, .string ⟨#[]⟩, .string ⟨#[]⟩, .slice none 0 0]) (by rw [hlq]; rfl)
        have HWV : Hid (V2 = (w6.alloc (.cells #[.string ⟨#[]⟩, .int .i64 0, .slice none 0 0, .int .i64 0, .int .i64 0, .int .i64 0, .slice none 0 0, .slice none 0 0, .slice none 0 0, .slice none 0 0, .slice none 0 0, .slice none 0 0, .slice none 0 0, .slice none 0 0, .string ⟨#[]⟩, .string ⟨#[]⟩, .slice none 0 0] 41)).setCells w6.heap.size 0 qs.toArray.toList) := by rw [Hid, hV2]
        have bV2 : Below V.heap.size V V2 := on2 b6 b2
        have HT2 : Hid (TS W1 p V2 tb T ts pm u10 A A N) := HTV.out.on bV2
        obtain ⟨ps, ⟨la', ln', lc'⟩, hq9, _, hlp, sl'⟩ := hrp.parts9
        simp only at hq9 sl'
        obtain ⟨rfl, e9⟩ := List.append_inj' (hqs.symm.trans hq9) rfl
        obtain ⟨rfl, rfl, rfl⟩ : a' = la' ∧ n' = ln' ∧ cap' = lc' := by simpa using e9
        clear e9 hq9
        have HLab : Hid (∀ B' off', a' = some ⟨B', off', none⟩ → 0 < n' → V.heap.size ≤ B' ∧ B' < w6.heap.size) := fun B' off' e h0 => by
          obtain ⟨B4, off4, e4, hB4, hA4, _⟩ := sl'.2.2.2.2 h0
          rw [e] at e4; injection e4 with e4; injection e4 with e4 e5
          subst e4
          exact ⟨hA4, hB4⟩
        have hn0 : n' * 32 ≤ 140737488351232 := sl'.2.2.2.1
        have ha0 : Hid (a' = none → n' = 0) := fun e => by have h1 := sl'.2.2.1 e; have h2 := sl'.2.1; omega
        have ha1 : Hid (0 < n' → ∃ B' off', a' = some ⟨B', off', none⟩) := fun h0 => by obtain ⟨B4, off4, e4, _⟩ := sl'.2.2.2.2 h0; exact ⟨B4, off4, e4⟩
        have HQ16 : Hid (qs[16]? = some (.slice a' n' cap')) := by rw [Hid, hqs, List.getElem?_append_right (by omega), hlp]; rfl
        have HA := Add_calls (w := V2) HT2.out.tab (show RPlaced (NP T pm) V2 qs x from RPlaced.firm.weak (RPlaced.firm.kept hrp (Kept.below b2)) (fun b _ hb q => by
          have h1 : V.heap.size ≤ b := hb
          have h2 : b < V.heap.size := by rcases q with q | q; exact HTV.out.tab.m.lt q; rw [q]; exact HTV.out.tab.p.lt
          omega)) hokx (HIn.out V2 HT2.out.row.below).2.2.2.2.2.2 hEx.out.1 (by have := hEx.out; omega) (by have := hEx.out; omega)
        have HRq : Hid (V2.rangeAt w6.heap.size 0 qs) := q2.range
        have HTh2 : Hid (Thr8 V2 a' (n' * 2) ∧ BoxL V2 w6.heap.size qs ∧ Below V.heap.size V V2 ∧ w6.heap.size < V2.heap.size) := ⟨fun B' off' e j hj => by
          have h1 := hth B' off' e j hj
          by_cases h0 : 0 < n'
          · have hlt := (HLab.out B' off' e h0).2
            exact ⟨by rw [b2.cell (p := ⟨B', _, none⟩) hlt]; exact h1.1, by rw [b2.frozen (p := ⟨B', _, none⟩) hlt]; exact h1.2⟩
          · omega, q2, bV2, q2.1⟩
        clear hrp hth b6 hV2 b2 q2 bV2 hqs hlp sl'
        go_wp2_with (first | (refine wpList_store_mid rfl 41 _ _ rfl w6.heap.size 0 qs.toArray rfl rfl HTh.out hiqa HO.out ?_; refine wpl_w8 HWV.out ?_) | (refine wpList_load_mid rfl 41 _ rfl w6.heap.size 0 rfl qs _ HRq.out Tryz.underlying41 rfl hiq ?_) | fail)
        refine HA.mono ?_
        clear HA HRq HTh HO HWV hiq hiqa
        rintro e w7 ⟨rfl, htab7, htu7⟩
        have HT7 : Hid (TabAt w7 tb T ts pm (pLabs p) (A ++ [x]) (N + 1 + (pApart x.1).length) (N + 1) ∧ Turns (mapsP T pm) V w7) := ⟨htab7, (Turns.below HTh2.out.2.2.1).trans htu7⟩
        have kq7 := kept_np htu7
        have hnq : NP T pm w6.heap.size := fun q => by
          have h2 : w6.heap.size < V.heap.size := by rcases q with q | q; exact HTV.out.tab.m.lt q; rw [q]; exact HTV.out.tab.p.lt
          have h3 : V.heap.size ≤ w6.heap.size := HsV6.out
          omega
        have HB7 : Hid (Thr8 w7 a' (n' * 2) ∧ BoxL w7 w6.heap.size qs) := ⟨fun B' off' e j hj => by
          have h1 := HTh2.out.1 B' off' e j hj
          by_cases h0 : 0 < n'
          · have hB := HLab.out B' off' e h0
            have hblk : w7.heap[B']? = V2.heap[B']? := htu7.block B' (by have := HTh2.out.2.2.2; omega) (fun q => by
              have h2 : B' < V.heap.size := by rcases q with q | q; exact HTV.out.tab.m.lt q; rw [q]; exact HTV.out.tab.p.lt
              omega)
            exact ⟨by rw [World.cell?_of_block hblk]; exact h1.1, by rw [World.frozen?_of_block hblk]; exact h1.2⟩
          · omega, HTh2.out.2.1.kept kq7 hnq⟩
        clear htab7 htu7 kq7 hnq HTh2 HT2
        go_wp2_with fail
        go_loopw [14] (fun i ws => ∃ j : Nat, j ≤ n' ∧ i = .int .i64 j ∧ Hid (Turns (fun b => V.heap.size ≤ b) w7 ws ∧ Thr8 ws a' (n' * 2) ∧ BoxL ws w6.heap.size qs)) (fun i _ => n' - (intOf i).toNat)
        case atStart => exact ⟨0, Nat.zero_le _, rfl, Turns.refl _ _, HB7.out⟩
        case round =>
          obtain ⟨j, hj, rfl, hs⟩ := hrel
          have c16 := (hs.out.2.2.2 16 _ HQ16.out).1
          by_cases hjl : j < n'
          · have hjz : (j : Int) < (n' : Int) := by omega
            obtain ⟨B', off', rfl⟩ := ha1.out (by omega)
            have hB := HLab.out B' off' rfl (by omega)
            have hthr := hs.out.2.1 B' off' rfl (j * 2 + 1) (by omega)
            obtain ⟨old, hold⟩ := Option.isSome_iff_exists.1 hthr.1
            have hfz := hthr.2
            rw [← Nat.add_assoc] at hold hfz
            have HN : Hid (∀ s : Value, Turns (fun b => V.heap.size ≤ b) w7 (wr.setCell ⟨B', off' + j * 2 + 1, none⟩ s) ∧ Thr8 (wr.setCell ⟨B', off' + j * 2 + 1, none⟩ s) (some ⟨B', off', none⟩) (n' * 2) ∧ BoxL (wr.setCell ⟨B', off' + j * 2 + 1, none⟩ s) w6.heap.size qs) := fun s => ⟨hs.out.1.trans (Turns.set (p := ⟨B', off' + j * 2 + 1, none⟩) hB.1 s), fun B5 off5 e => World.there_setCells (hs.out.2.1 B5 off5 e) _ _ [s], hs.out.2.2.other (p := ⟨B', off' + j * 2 + 1, none⟩) (by show B' ≠ w6.heap.size; omega) s⟩
            clear hs hthr
            go_wp2_with fail
            go_roundw
            case rel => exact ⟨j + 1, by omega, by go_num, HN.out _⟩
            case measure => simp [intOf]; omega
          · have hjz : ¬ ((j : Int) < (n' : Int)) := by omega
            obtain ⟨u8, hu8⟩ : ∃ u, u = wr := ⟨_, rfl⟩
            rw [← hu8] at hs c16 ⊢
            clear hu8
            have htw : Turns (mapsP T pm) V u8 := HT7.out.2.over9 hs.out.1
            have HT8 : Hid (TS W1 p u8 tb T ts pm u10 (A ++ [x]) A (N + 1 + (pApart x.1).length)) := HTV.out.turn htw ((HT7.out.1.m).on (fun b hb hlt => hs.out.1.block b hlt (fun q => by have := HTV.out.tab.m.lt hb; omega))) (((HT7.out.1.p).same (hs.out.1.block pm HT7.out.1.p.lt (fun q => by have := HTV.out.tab.p.lt; omega))).mono (by omega)) (by omega)
            have HB8 : Hid (BoxL u8 wo.heap.size xs) := HD.out u8 htw
            have HRx : Hid (u8.rangeAt wo.heap.size 1 ys) := HRY.out u8 HB8.out
            have hx8 := HXu.out u8 HT8.out.row.below (Nat.le_trans HsV.out htw.size)
            have hly9 : ys.length = 17 := RPlaced.firm.len hx8.1
            obtain ⟨u9, hu9⟩ : ∃ u, u = u8.alloc (.cells ys.toArray 41) := ⟨_, rfl⟩
            have b9 : Below u8.heap.size u8 u9 := by rw [hu9]; exact (Below.refl _ _).alloc (Nat.le_refl _) _
            have q9 : BoxL u9 u8.heap.size ys := by rw [hu9]; exact BoxL.new u8 41 ys
            have HT9 : Hid (TS W1 p u9 tb T ts pm u10 (A ++ [x]) A (N + 1 + (pApart x.1).length)) := HT8.out.on b9
            have hnp8 : NP T pm u8.heap.size := fun q => by rcases q with q | q; exact absurd (HT8.out.tab.m.lt q) (Nat.lt_irrefl _); exact absurd HT8.out.tab.p.lt (by rw [← q]; exact Nat.lt_irrefl _)
            have hno8 : ∀ b, u10.ownBlock = some b → b < u8.heap.size := fun b e => (HT8.out.row.lt e).2
            have HSrc : Hid (Src RPlaced 17 (fun b => NP T pm b ∧ u10.ownBlock ≠ some b) u9 (some ⟨u8.heap.size, 0, none⟩) 1 [x]) := (sl_one (k := 17) (bytes := 320) q9 (RPlaced.firm.weak (RPlaced.firm.kept hx8.1 (Kept.below b9)) (fun b _ hb => by
              have h3 : b < w.heap.size := hb
              have h2 := hsz1.out
              exact ⟨fun q => by have h1 := HTV.out.fm b q; omega, fun e => by have h1 := (HT8.out.row.lt e).1; omega⟩)) ⟨hnp8, fun e => absurd (hno8 _ e) (Nat.lt_irrefl _)⟩ (by decide)).src RPlaced.firm
            have HB9 : Hid (BoxL u9 wo.heap.size xs) := HB8.out.on b9
            have hlA : A.length ≤ N := HTV.out.ln
            obtain ⟨z0, z1, z2, z3, z4, z5, z6, z7, z8, z9, z10, z11, z12, z13, z14, z15, z16, hz⟩ := RPlaced.lit9 hx8.1
            have HU9 : Hid (u9 = u8.alloc (.cells #[z0, z1, z2, z3, z4, z5, z6, z7, z8, z9, z10, z11, z12, z13, z14, z15, z16] 41)) := by rw [Hid, hu9, hz]
            have HRz : Hid (u8.rangeAt wo.heap.size 1 [z0, z1, z2, z3, z4, z5, z6, z7, z8, z9, z10, z11, z12, z13, z14, z15, z16]) := by rw [Hid, ← hz]; exact HRx.out
            have hiz : (Tryz.prog.info? 41).map (·.size) = some ([z0, z1, z2, z3, z4, z5, z6, z7, z8, z9, z10, z11, z12, z13, z14, z15, z16] : List Value).length := by rw [← hz]; exact hi17
            clear hz hx8 hu9 q9 b9 htw hs HRx HB7 HT7 HTV HD HT8 HB8 HLab HQ16 hnp8 hno8 ha0 ha1
            go_upto_region 36 with (first | (refine wpList_load_mid rfl 41 _ rfl wo.heap.size 1 rfl [z0, z1, z2, z3, z4, z5, z6, z7, z8, z9, z10, z11, z12, z13, z14, z15, z16] _ HRz.out Tryz.underlying41 rfl hiz ?_) | (at_builtin; rw [← HU9.out]; refine row_appendP RPlaced.firm (A := NP T pm) (w0 := W1) (by rfl) _ _ 34 41 rfl _ 320 infoPl Tryz.underlying34 rfl (by decide) (by decide) u10 A rfl HT9.out.row (some ⟨u8.heap.size, 0, none⟩) 1 1 [x] rfl HSrc.out (by have h1 := hEx.out; simp only [List.length_singleton]; omega) ?_; intro v7 y7 r7 gr7 hp7) | fail)
            have HTn : Hid (TS W1 p y7 tb T ts pm v7 (A ++ [x]) (A ++ [x]) (N + 1 + (pApart x.1).length)) := HT9.out.app r7 gr7 hp7 (by rw [List.length_append, List.length_singleton]; omega)
            have HBn : Hid (BoxL y7 wo.heap.size xs) := HB9.out.kept ((Turns.grown (F := fun b => u10.ownBlock = some b) gr7 (fun b e => e)).kept (A := fun b => ¬ u10.ownBlock = some b) (fun b h _ => h)) HDv.out.1
            have HNn : Hid (N + 1 + (pApart x.1).length ≤ E0 + sumBy (fun a : ActD => (eAct a).length) (Ac.take (k + 1))) := hEx.out.2.2.2.1
            clear r7 gr7 hp7 HT9 HB9 HSrc HU9 HRz hiz
            generalize A ++ [x] = C9 at HTn
            generalize N + 1 + (pApart x.1).length = N9 at HTn HNn
            obtain ⟨av, cv, hve, sv⟩ := HTn.out.row.slO8 (bytes := 320) RPlaced.firm (by have h1 := HTn.out.ln; have h2 := HNn.out; have h3 := HSum.out.2; omega)
            subst hve
            have HSl : Hid (SlAt RPlaced 17 320 (fun _ => True) y7 av (C9).length cv (C9)) := sv.weak RPlaced.firm (fun _ _ _ => trivial)
            clear sv
            have hwu : Below W1.heap.size W1 y7 := HTn.out.row.below
            have HCk := TCheck_calls (w := y7) (p := p) g1 g2 g3 Lx HTn.out.tab HTn.out.of (placed_ok HSl.out) ((HXu.out y7 hwu (by have h1 := HBn.out.1; omega)).2.1)
            rw [show whyN (pLabs p) (pNear p) (pApart p) Lx (othersN p.1 (C9)) = refN p Lx (C9) from near_ref p Lx (C9)] at HCk
            have y18 := (HBn.out.2 18 _ HX18.out.1).1
            go_wp2_with fail
            refine HCk.mono ?_
            clear HCk y18
            rintro e z2 ⟨rfl, hz2⟩
            have hw2 : Below W1.heap.size W1 z2 := on2 hwu hz2
            have HRc := rCheck8_calls cs p g1 g2 g3 Lx av (C9).length cv (C9) z2 (HIn.out z2 hw2).2.1 ((HXu.out z2 hw2 (by have h1 := HBn.out.1; have h2 := hz2.size; omega)).2.1.weak RLabel.firm (fun _ _ _ => trivial)) (HSl.out.on RPlaced.firm hz2)
            have y18 := ((HBn.out.on hz2).2 18 _ HX18.out.1).1
            have HRp : Hid (z2.rangeAt w.heap.size 0 cs) := (HIn.out z2 hw2).1.range
            have HTz : Hid (∀ u, Below z2.heap.size z2 u → TS W1 p u tb T ts pm (.slice av (C9).length cv) (C9) (C9) N9) := fun u hb => (HTn.out.on hz2).on hb
            generalize refN p Lx (C9) = ans at HRc
            clear hwu hw2 hz2 HSl HXu HBn HTn
            go_wp2_with (first | (refine load_w9 (by rfl) 33 _ rfl w.heap.size 0 rfl cs _ HRp.out Tryz.underlying33 rfl hi16 ?_) | fail)
            refine HRc.mono ?_
            clear HRc y18 HRp
            rintro e z3 ⟨rfl, hz3⟩
            have HT3 := HTz.out z3 hz3
            clear HTz hz3
            have HNew : Hid (TS W1 p z3 tb T ts pm (.slice av (C9).length cv) (C9) (C9) N9 ∧ N9 ≤ E0 + sumBy (fun a : ActD => (eAct a).length) (Ac.take (k + 1))) := ⟨HT3, HNn.out⟩
            clear HT3
            go_wp2_with fail
            go_roundw
            case rel => exact ⟨k + 1, tb, T, ts, pm, C9, N9, by omega, by go_num, rfl, HNew⟩
            case measure => simp [intOf]; omega
      ·
        have HPc := placed_thr ys _ x V (HXu.out V HTV.out.row.below HsV.out).1
        have HRx : Hid (V.rangeAt wo.heap.size 1 ys) := HRY.out V (HD.out V (Turns.refl _ _))
        go_wp2_with (first | (refine wpList_load_mid rfl 41 _ rfl wo.heap.size 1 rfl ys _ HRx.out Tryz.underlying41 rfl hi17 ?_) | fail)
        refine HPc.mono ?_
        clear HPc HRx
        rintro e w6 ⟨p', a', n', cap', rfl, hrp, hth, b6⟩
        have HsV6 : Hid (V.heap.size ≤ w6.heap.size) := b6.size
        obtain ⟨qs, hqs⟩ : ∃ q, q = p' ++ [Value.slice a' n' cap'] := ⟨_, rfl⟩
        rw [← hqs] at hrp ⊢
        have hlq : qs.length = 17 := RPlaced.firm.len hrp
        have hiq : (Tryz.prog.info? 41).map (·.size) = some qs.length := by rw [hlq]; exact sizePl
        have hiqa : (Tryz.prog.info? 41).map (·.size) = some qs.toArray.size := by simpa using hiq
        have HO : Hid (qs.toArray.all (·.oneCell') = true) := all_oneCell_toArray (RPlaced.firm.one hrp)
        obtain ⟨V2, hV2⟩ : ∃ V2, V2 = (w6.alloc (.cells #[.string ⟨#[]⟩, .int .i64 0, .slice none 0 0, .int .i64 0, .int .i64 0, .int .i64 0, .slice none 0 0, .slice none 0 0, .slice none 0 0, .slice none 0 0, .slice none 0 0, .slice none 0 0, .slice none 0 0, .slice none 0 0, .string ⟨#[]⟩, .string ⟨#[]⟩, .slice none 0 0] 41)).setCells w6.heap.size 0 qs := ⟨_, rfl⟩
        have HTh : Hid ((w6.alloc (.cells #[.string ⟨#[]⟩, .int .i64 0, .slice none 0 0, .int .i64 0, .int .i64 0, .int .i64 0, .slice none 0 0, .slice none 0 0, .slice none 0 0, .slice none 0 0, .slice none 0 0, .slice none 0 0, .slice none 0 0, .slice none 0 0, .string ⟨#[]⟩, .string ⟨#[]⟩, .slice none 0 0] 41)).there w6.heap.size 0 qs.toArray.size) := by have e : qs.toArray.size = 17 := (by simp [hlq]); rw [Hid, e]; exact (BoxL.new w6 41 [.string ⟨#[]⟩, .int .i64 0, .slice none 0 0, .int .i64 0, .int .i64 0, .int .i64 0, .slice none 0 0, .slice none 0 0, .slice none 0 0, .slice none 0 0, .slice none 0 0, .slice none 0 0, .slice none 0 0, .slice none 0 0, .string ⟨#[]⟩, .string ⟨#[]⟩, .slice none 0 0]).there
        have b2 : Below w6.heap.size w6 V2 := by rw [hV2]; exact below_setCells ((Below.refl _ _).alloc (Nat.le_refl _) _) (Nat.le_refl _)
        have q2 : BoxL V2 w6.heap.size qs := by rw [hV2]; exact box_over8 (BoxL.new w6 41 [.string ⟨#[]⟩, .int .i64 0, .slice none 0 0, .int .i64 0, .int .i64 0, .int .i64 0, .slice none 0 0, .slice none 0 0, .slice none 0 0, .slice none 0 0, .slice none 0 0, .slice none 0 0, .slice none 0 0, .slice none 0 0, .string ⟨#[]⟩, .string ⟨#[]⟩, .slice none 0 0]) (by rw [hlq]; rfl)
        have HWV : Hid (V2 = (w6.alloc (.cells #[.string ⟨#[]⟩, .int .i64 0, .slice none 0 0, .int .i64 0, .int .i64 0, .int .i64 0, .slice none 0 0, .slice none 0 0, .slice none 0 0, .slice none 0 0, .slice none 0 0, .slice none 0 0, .slice none 0 0, .slice none 0 0, .string ⟨#[]⟩, .string ⟨#[]⟩, .slice none 0 0] 41)).setCells w6.heap.size 0 qs.toArray.toList) := by rw [Hid, hV2]
        have bV2 : Below V.heap.size V V2 := on2 b6 b2
        have HT2 : Hid (TS W1 p V2 tb T ts pm u10 A A N) := HTV.out.on bV2
        obtain ⟨ps, ⟨la', ln', lc'⟩, hq9, _, hlp, sl'⟩ := hrp.parts9
        simp only at hq9 sl'
        obtain ⟨rfl, e9⟩ := List.append_inj' (hqs.symm.trans hq9) rfl
        obtain ⟨rfl, rfl, rfl⟩ : a' = la' ∧ n' = ln' ∧ cap' = lc' := by simpa using e9
        clear e9 hq9
        have HLab : Hid (∀ B' off', a' = some ⟨B', off', none⟩ → 0 < n' → V.heap.size ≤ B' ∧ B' < w6.heap.size) := fun B' off' e h0 => by
          obtain ⟨B4, off4, e4, hB4, hA4, _⟩ := sl'.2.2.2.2 h0
          rw [e] at e4; injection e4 with e4; injection e4 with e4 e5
          subst e4
          exact ⟨hA4, hB4⟩
        have hn0 : n' * 32 ≤ 140737488351232 := sl'.2.2.2.1
        have ha0 : Hid (a' = none → n' = 0) := fun e => by have h1 := sl'.2.2.1 e; have h2 := sl'.2.1; omega
        have ha1 : Hid (0 < n' → ∃ B' off', a' = some ⟨B', off', none⟩) := fun h0 => by obtain ⟨B4, off4, e4, _⟩ := sl'.2.2.2.2 h0; exact ⟨B4, off4, e4⟩
        have HQ16 : Hid (qs[16]? = some (.slice a' n' cap')) := by rw [Hid, hqs, List.getElem?_append_right (by omega), hlp]; rfl
        have HA := Add_calls (w := V2) HT2.out.tab (show RPlaced (NP T pm) V2 qs x from RPlaced.firm.weak (RPlaced.firm.kept hrp (Kept.below b2)) (fun b _ hb q => by
          have h1 : V.heap.size ≤ b := hb
          have h2 : b < V.heap.size := by rcases q with q | q; exact HTV.out.tab.m.lt q; rw [q]; exact HTV.out.tab.p.lt
          omega)) hokx (HIn.out V2 HT2.out.row.below).2.2.2.2.2.2 hEx.out.1 (by have := hEx.out; omega) (by have := hEx.out; omega)
        have HRq : Hid (V2.rangeAt w6.heap.size 0 qs) := q2.range
        have HTh2 : Hid (Thr8 V2 a' (n' * 2) ∧ BoxL V2 w6.heap.size qs ∧ Below V.heap.size V V2 ∧ w6.heap.size < V2.heap.size) := ⟨fun B' off' e j hj => by
          have h1 := hth B' off' e j hj
          by_cases h0 : 0 < n'
          · have hlt := (HLab.out B' off' e h0).2
            exact ⟨by rw [b2.cell (p := ⟨B', _, none⟩) hlt]; exact h1.1, by rw [b2.frozen (p := ⟨B', _, none⟩) hlt]; exact h1.2⟩
          · omega, q2, bV2, q2.1⟩
        clear hrp hth b6 hV2 b2 q2 bV2 hqs hlp sl'
        go_wp2_with (first | (refine wpList_store_mid rfl 41 _ _ rfl w6.heap.size 0 qs.toArray rfl rfl HTh.out hiqa HO.out ?_; refine wpl_w8 HWV.out ?_) | (refine wpList_load_mid rfl 41 _ rfl w6.heap.size 0 rfl qs _ HRq.out Tryz.underlying41 rfl hiq ?_) | fail)
        refine HA.mono ?_
        clear HA HRq HTh HO HWV hiq hiqa
        rintro e w7 ⟨rfl, htab7, htu7⟩
        have HT7 : Hid (TabAt w7 tb T ts pm (pLabs p) (A ++ [x]) (N + 1 + (pApart x.1).length) (N + 1) ∧ Turns (mapsP T pm) V w7) := ⟨htab7, (Turns.below HTh2.out.2.2.1).trans htu7⟩
        have kq7 := kept_np htu7
        have hnq : NP T pm w6.heap.size := fun q => by
          have h2 : w6.heap.size < V.heap.size := by rcases q with q | q; exact HTV.out.tab.m.lt q; rw [q]; exact HTV.out.tab.p.lt
          have h3 : V.heap.size ≤ w6.heap.size := HsV6.out
          omega
        have HB7 : Hid (Thr8 w7 a' (n' * 2) ∧ BoxL w7 w6.heap.size qs) := ⟨fun B' off' e j hj => by
          have h1 := HTh2.out.1 B' off' e j hj
          by_cases h0 : 0 < n'
          · have hB := HLab.out B' off' e h0
            have hblk : w7.heap[B']? = V2.heap[B']? := htu7.block B' (by have := HTh2.out.2.2.2; omega) (fun q => by
              have h2 : B' < V.heap.size := by rcases q with q | q; exact HTV.out.tab.m.lt q; rw [q]; exact HTV.out.tab.p.lt
              omega)
            exact ⟨by rw [World.cell?_of_block hblk]; exact h1.1, by rw [World.frozen?_of_block hblk]; exact h1.2⟩
          · omega, HTh2.out.2.1.kept kq7 hnq⟩
        clear htab7 htu7 kq7 hnq HTh2 HT2
        go_wp2_with fail
        go_loopw [14] (fun i ws => ∃ j : Nat, j ≤ n' ∧ i = .int .i64 j ∧ Hid (Turns (fun b => V.heap.size ≤ b) w7 ws ∧ Thr8 ws a' (n' * 2) ∧ BoxL ws w6.heap.size qs)) (fun i _ => n' - (intOf i).toNat)
        case atStart => exact ⟨0, Nat.zero_le _, rfl, Turns.refl _ _, HB7.out⟩
        case round =>
          obtain ⟨j, hj, rfl, hs⟩ := hrel
          have c16 := (hs.out.2.2.2 16 _ HQ16.out).1
          by_cases hjl : j < n'
          · have hjz : (j : Int) < (n' : Int) := by omega
            obtain ⟨B', off', rfl⟩ := ha1.out (by omega)
            have hB := HLab.out B' off' rfl (by omega)
            have hthr := hs.out.2.1 B' off' rfl (j * 2 + 1) (by omega)
            obtain ⟨old, hold⟩ := Option.isSome_iff_exists.1 hthr.1
            have hfz := hthr.2
            rw [← Nat.add_assoc] at hold hfz
            have HN : Hid (∀ s : Value, Turns (fun b => V.heap.size ≤ b) w7 (wr.setCell ⟨B', off' + j * 2 + 1, none⟩ s) ∧ Thr8 (wr.setCell ⟨B', off' + j * 2 + 1, none⟩ s) (some ⟨B', off', none⟩) (n' * 2) ∧ BoxL (wr.setCell ⟨B', off' + j * 2 + 1, none⟩ s) w6.heap.size qs) := fun s => ⟨hs.out.1.trans (Turns.set (p := ⟨B', off' + j * 2 + 1, none⟩) hB.1 s), fun B5 off5 e => World.there_setCells (hs.out.2.1 B5 off5 e) _ _ [s], hs.out.2.2.other (p := ⟨B', off' + j * 2 + 1, none⟩) (by show B' ≠ w6.heap.size; omega) s⟩
            clear hs hthr
            go_wp2_with fail
            go_roundw
            case rel => exact ⟨j + 1, by omega, by go_num, HN.out _⟩
            case measure => simp [intOf]; omega
          · have hjz : ¬ ((j : Int) < (n' : Int)) := by omega
            obtain ⟨u8, hu8⟩ : ∃ u, u = wr := ⟨_, rfl⟩
            rw [← hu8] at hs c16 ⊢
            clear hu8
            have htw : Turns (mapsP T pm) V u8 := HT7.out.2.over9 hs.out.1
            have HT8 : Hid (TS W1 p u8 tb T ts pm u10 (A ++ [x]) A (N + 1 + (pApart x.1).length)) := HTV.out.turn htw ((HT7.out.1.m).on (fun b hb hlt => hs.out.1.block b hlt (fun q => by have := HTV.out.tab.m.lt hb; omega))) (((HT7.out.1.p).same (hs.out.1.block pm HT7.out.1.p.lt (fun q => by have := HTV.out.tab.p.lt; omega))).mono (by omega)) (by omega)
            have HB8 : Hid (BoxL u8 wo.heap.size xs) := HD.out u8 htw
            have HRx : Hid (u8.rangeAt wo.heap.size 1 ys) := HRY.out u8 HB8.out
            have hx8 := HXu.out u8 HT8.out.row.below (Nat.le_trans HsV.out htw.size)
            have hly9 : ys.length = 17 := RPlaced.firm.len hx8.1
            obtain ⟨u9, hu9⟩ : ∃ u, u = u8.alloc (.cells ys.toArray 41) := ⟨_, rfl⟩
            have b9 : Below u8.heap.size u8 u9 := by rw [hu9]; exact (Below.refl _ _).alloc (Nat.le_refl _) _
            have q9 : BoxL u9 u8.heap.size ys := by rw [hu9]; exact BoxL.new u8 41 ys
            have HT9 : Hid (TS W1 p u9 tb T ts pm u10 (A ++ [x]) A (N + 1 + (pApart x.1).length)) := HT8.out.on b9
            have hnp8 : NP T pm u8.heap.size := fun q => by rcases q with q | q; exact absurd (HT8.out.tab.m.lt q) (Nat.lt_irrefl _); exact absurd HT8.out.tab.p.lt (by rw [← q]; exact Nat.lt_irrefl _)
            have hno8 : ∀ b, u10.ownBlock = some b → b < u8.heap.size := fun b e => (HT8.out.row.lt e).2
            have HSrc : Hid (Src RPlaced 17 (fun b => NP T pm b ∧ u10.ownBlock ≠ some b) u9 (some ⟨u8.heap.size, 0, none⟩) 1 [x]) := (sl_one (k := 17) (bytes := 320) q9 (RPlaced.firm.weak (RPlaced.firm.kept hx8.1 (Kept.below b9)) (fun b _ hb => by
              have h3 : b < w.heap.size := hb
              have h2 := hsz1.out
              exact ⟨fun q => by have h1 := HTV.out.fm b q; omega, fun e => by have h1 := (HT8.out.row.lt e).1; omega⟩)) ⟨hnp8, fun e => absurd (hno8 _ e) (Nat.lt_irrefl _)⟩ (by decide)).src RPlaced.firm
            have HB9 : Hid (BoxL u9 wo.heap.size xs) := HB8.out.on b9
            have hlA : A.length ≤ N := HTV.out.ln
            obtain ⟨z0, z1, z2, z3, z4, z5, z6, z7, z8, z9, z10, z11, z12, z13, z14, z15, z16, hz⟩ := RPlaced.lit9 hx8.1
            have HU9 : Hid (u9 = u8.alloc (.cells #[z0, z1, z2, z3, z4, z5, z6, z7, z8, z9, z10, z11, z12, z13, z14, z15, z16] 41)) := by rw [Hid, hu9, hz]
            have HRz : Hid (u8.rangeAt wo.heap.size 1 [z0, z1, z2, z3, z4, z5, z6, z7, z8, z9, z10, z11, z12, z13, z14, z15, z16]) := by rw [Hid, ← hz]; exact HRx.out
            have hiz : (Tryz.prog.info? 41).map (·.size) = some ([z0, z1, z2, z3, z4, z5, z6, z7, z8, z9, z10, z11, z12, z13, z14, z15, z16] : List Value).length := by rw [← hz]; exact hi17
            clear hz hx8 hu9 q9 b9 htw hs HRx HB7 HT7 HTV HD HT8 HB8 HLab HQ16 hnp8 hno8 ha0 ha1
            go_upto_region 36 with (first | (refine wpList_load_mid rfl 41 _ rfl wo.heap.size 1 rfl [z0, z1, z2, z3, z4, z5, z6, z7, z8, z9, z10, z11, z12, z13, z14, z15, z16] _ HRz.out Tryz.underlying41 rfl hiz ?_) | (at_builtin; rw [← HU9.out]; refine row_appendP RPlaced.firm (A := NP T pm) (w0 := W1) (by rfl) _ _ 34 41 rfl _ 320 infoPl Tryz.underlying34 rfl (by decide) (by decide) u10 A rfl HT9.out.row (some ⟨u8.heap.size, 0, none⟩) 1 1 [x] rfl HSrc.out (by have h1 := hEx.out; simp only [List.length_singleton]; omega) ?_; intro v7 y7 r7 gr7 hp7) | fail)
            have HTn : Hid (TS W1 p y7 tb T ts pm v7 (A ++ [x]) (A ++ [x]) (N + 1 + (pApart x.1).length)) := HT9.out.app r7 gr7 hp7 (by rw [List.length_append, List.length_singleton]; omega)
            have HBn : Hid (BoxL y7 wo.heap.size xs) := HB9.out.kept ((Turns.grown (F := fun b => u10.ownBlock = some b) gr7 (fun b e => e)).kept (A := fun b => ¬ u10.ownBlock = some b) (fun b h _ => h)) HDv.out.1
            have HNn : Hid (N + 1 + (pApart x.1).length ≤ E0 + sumBy (fun a : ActD => (eAct a).length) (Ac.take (k + 1))) := hEx.out.2.2.2.1
            clear r7 gr7 hp7 HT9 HB9 HSrc HU9 HRz hiz
            generalize A ++ [x] = C9 at HTn
            generalize N + 1 + (pApart x.1).length = N9 at HTn HNn
            obtain ⟨av, cv, hve, sv⟩ := HTn.out.row.slO8 (bytes := 320) RPlaced.firm (by have h1 := HTn.out.ln; have h2 := HNn.out; have h3 := HSum.out.2; omega)
            subst hve
            have HSl : Hid (SlAt RPlaced 17 320 (fun _ => True) y7 av (C9).length cv (C9)) := sv.weak RPlaced.firm (fun _ _ _ => trivial)
            clear sv
            have hwu : Below W1.heap.size W1 y7 := HTn.out.row.below
            have HCk := TCheck_calls (w := y7) (p := p) g1 g2 g3 Lx HTn.out.tab HTn.out.of (placed_ok HSl.out) ((HXu.out y7 hwu (by have h1 := HBn.out.1; omega)).2.1)
            rw [show whyN (pLabs p) (pNear p) (pApart p) Lx (othersN p.1 (C9)) = refN p Lx (C9) from near_ref p Lx (C9)] at HCk
            have y18 := (HBn.out.2 18 _ HX18.out.1).1
            go_wp2_with fail
            refine HCk.mono ?_
            clear HCk y18
            rintro e z2 ⟨rfl, hz2⟩
            have hw2 : Below W1.heap.size W1 z2 := on2 hwu hz2
            have HRc := rCheck8_calls cs p g1 g2 g3 Lx av (C9).length cv (C9) z2 (HIn.out z2 hw2).2.1 ((HXu.out z2 hw2 (by have h1 := HBn.out.1; have h2 := hz2.size; omega)).2.1.weak RLabel.firm (fun _ _ _ => trivial)) (HSl.out.on RPlaced.firm hz2)
            have y18 := ((HBn.out.on hz2).2 18 _ HX18.out.1).1
            have HRp : Hid (z2.rangeAt w.heap.size 0 cs) := (HIn.out z2 hw2).1.range
            have HTz : Hid (∀ u, Below z2.heap.size z2 u → TS W1 p u tb T ts pm (.slice av (C9).length cv) (C9) (C9) N9) := fun u hb => (HTn.out.on hz2).on hb
            generalize refN p Lx (C9) = ans at HRc
            clear hwu hw2 hz2 HSl HXu HBn HTn
            go_wp2_with (first | (refine load_w9 (by rfl) 33 _ rfl w.heap.size 0 rfl cs _ HRp.out Tryz.underlying33 rfl hi16 ?_) | fail)
            refine HRc.mono ?_
            clear HRc y18 HRp
            rintro e z3 ⟨rfl, hz3⟩
            have HT3 := HTz.out z3 hz3
            clear HTz hz3
            have HNew : Hid (TS W1 p z3 tb T ts pm (.slice av (C9).length cv) (C9) (C9) N9 ∧ N9 ≤ E0 + sumBy (fun a : ActD => (eAct a).length) (Ac.take (k + 1))) := ⟨HT3, HNn.out⟩
            clear HT3
            go_wp2_with fail
            go_roundw
            case rel => exact ⟨k + 1, tb, T, ts, pm, C9, N9, by omega, by go_num, rfl, HNew⟩
            case measure => simp [intOf]; omega
      ·
        obtain ⟨av, cv, hve, sv⟩ := HTV.out.row.slO8 (bytes := 320) RPlaced.firm (by have h1 := HTV.out.ln; have h2 := hEx.out; omega)
        have sv2 : SlAt RPlaced 17 320 (NP T pm) V av A.length cv A := sv.weak RPlaced.firm (fun b _ h => by rcases h with h | h; exact h; exact HTV.out.rb b h)
        clear sv
        have hxV := HXu.out V HTV.out.row.below HsV.out
        have HDr := rDrop8_calls (NP T pm) _ av A.length cv A ys x V sv2 hxV.1
        rw [← hve] at HDr
        have HRx : Hid (V.rangeAt wo.heap.size 1 ys) := HRY.out V (HD.out V (Turns.refl _ _))
        have HVe : Hid (u10 = .slice av A.length cv) := hve
        clear hxV sv2 hve
        go_wp2_with (first | (refine wpList_load_mid rfl 41 _ rfl wo.heap.size 1 rfl ys _ HRx.out Tryz.underlying41 rfl hi17 ?_) | fail)
        refine HDr.mono ?_
        clear HDr HRx
        obtain ⟨N', hN'⟩ : ∃ N', N' = N + 1 + (pApart x.1).length := ⟨_, rfl⟩
        have HN' : Hid (N' = N + 1 + (pApart x.1).length) := hN'
        clear hN'
        rintro e w6 hdr
        rcases hdr with ⟨hno, rfl, b6⟩ | ⟨v2, L1, L2, hAL, rfl, hr6⟩
        ·
          have HT6 : Hid (TS W1 p w6 tb T ts pm u10 A A N) := HTV.out.on b6
          have HB6 : Hid (BoxL w6 wo.heap.size xs) := HD.out w6 (Turns.below b6)
          have hs6 : V.heap.size ≤ w6.heap.size := b6.size
          have HLf : Hid (LeftOf A x A) := ⟨fun _ => rfl, fun h => absurd (lkN_zero hno) h⟩
          have HLk : Hid ((if lkN A (likeT x) = 0 then (5 : Int) else 0) = 5) := by rw [Hid, if_pos (lkN_zero hno)]
          clear hno b6 HTV HD
          rw [← HVe.out]
          clear HVe
          have HPc := placed_copy ys _ x w6 (HXu.out w6 HT6.out.row.below (Nat.le_trans HsV.out hs6)).1
          have HRx : Hid (w6.rangeAt wo.heap.size 1 ys) := HRY.out w6 HB6.out
          clear hs6
          go_wp2_with (first | (refine wpList_load_mid rfl 41 _ rfl wo.heap.size 1 rfl ys _ HRx.out Tryz.underlying41 rfl hi17 ?_) | fail)
          refine HPc.mono ?_
          clear HPc HRx
          rintro e w7 ⟨qs, rfl, hrp, b7⟩
          have HT7 : Hid (TS W1 p w7 tb T ts pm u10 A A N) := HT6.out.on b7
          have HDp := Drop_calls (w := w7) (A' := A) HT7.out.tab (show RPlaced (NP T pm) w7 qs x from RPlaced.firm.weak hrp (fun b _ hb q => by
            have h1 : w6.heap.size ≤ b := hb
            have h2 : b < w6.heap.size := by rcases q with q | q; exact HT6.out.tab.m.lt q; rw [q]; exact HT6.out.tab.p.lt
            omega)) hokx (HIn.out w7 HT7.out.row.below).2.2.2.2.2.2 hEx.out.1 (by have := hEx.out; omega) (by have := hEx.out; omega) HLf
          rw [HLk.out] at HDp
          have HB7 : Hid (BoxL w7 wo.heap.size xs) := HB6.out.on b7
          clear hrp b7 HT6 HB6
          go_wp2_with fail
          refine HDp.mono ?_
          clear HDp
          rintro e w9 ⟨rfl, htab9, htu9⟩
          have HTn : Hid (TS W1 p w9 tb T ts pm u10 A A N') := HT7.out.turn htu9 (by rw [HN'.out]; exact htab9.m) (htab9.p.mono (by rw [HN'.out]; omega)) (by rw [HN'.out]; omega)
          have HBn : Hid (BoxL w9 wo.heap.size xs) := HB7.out.kept (kept_np htu9) HDv.out.2.2
          have HNn : Hid (N' ≤ E0 + sumBy (fun a : ActD => (eAct a).length) (Ac.take (k + 1))) := by rw [Hid, HN'.out]; exact hEx.out.2.2.2.1
          clear htab9 htu9 HT7 HB7 HLf HLk
          obtain ⟨av, cv, hve, sv⟩ := HTn.out.row.slO8 (bytes := 320) RPlaced.firm (by have h1 := HTn.out.ln; have h2 := HNn.out; have h3 := HSum.out.2; omega)
          subst hve
          have HSl : Hid (SlAt RPlaced 17 320 (fun _ => True) w9 av (A).length cv (A)) := sv.weak RPlaced.firm (fun _ _ _ => trivial)
          clear sv
          have hwu : Below W1.heap.size W1 w9 := HTn.out.row.below
          have HCk := TCheck_calls (w := w9) (p := p) g1 g2 g3 Lx HTn.out.tab HTn.out.of (placed_ok HSl.out) ((HXu.out w9 hwu (by have h1 := HBn.out.1; omega)).2.1)
          rw [show whyN (pLabs p) (pNear p) (pApart p) Lx (othersN p.1 (A)) = refN p Lx (A) from near_ref p Lx (A)] at HCk
          have y18 := (HBn.out.2 18 _ HX18.out.1).1
          go_wp2_with fail
          refine HCk.mono ?_
          clear HCk y18
          rintro e z2 ⟨rfl, hz2⟩
          have hw2 : Below W1.heap.size W1 z2 := on2 hwu hz2
          have HRc := rCheck8_calls cs p g1 g2 g3 Lx av (A).length cv (A) z2 (HIn.out z2 hw2).2.1 ((HXu.out z2 hw2 (by have h1 := HBn.out.1; have h2 := hz2.size; omega)).2.1.weak RLabel.firm (fun _ _ _ => trivial)) (HSl.out.on RPlaced.firm hz2)
          have y18 := ((HBn.out.on hz2).2 18 _ HX18.out.1).1
          have HRp : Hid (z2.rangeAt w.heap.size 0 cs) := (HIn.out z2 hw2).1.range
          have HTz : Hid (∀ u, Below z2.heap.size z2 u → TS W1 p u tb T ts pm (.slice av (A).length cv) (A) (A) N') := fun u hb => (HTn.out.on hz2).on hb
          generalize refN p Lx (A) = ans at HRc
          clear hwu hw2 hz2 HSl HXu HBn HTn
          go_wp2_with (first | (refine load_w9 (by rfl) 33 _ rfl w.heap.size 0 rfl cs _ HRp.out Tryz.underlying33 rfl hi16 ?_) | fail)
          refine HRc.mono ?_
          clear HRc y18 HRp
          rintro e z3 ⟨rfl, hz3⟩
          have HT3 := HTz.out z3 hz3
          clear HTz hz3
          have HNew : Hid (TS W1 p z3 tb T ts pm (.slice av (A).length cv) (A) (A) N' ∧ N' ≤ E0 + sumBy (fun a : ActD => (eAct a).length) (Ac.take (k + 1))) := ⟨HT3, HNn.out⟩
          clear HT3
          go_wp2_with fail
          go_roundw
          case rel => exact ⟨k + 1, tb, T, ts, pm, A, N', by omega, by go_num, rfl, HNew⟩
          case measure => simp [intOf]; omega
        ·
          have b6 : Below V.heap.size V w6 := hr6.below
          have hmem : x ∈ A := by rw [hAL]; simp
          have hper : A.Perm (x :: (L1 ++ L2)) := by rw [hAL]; exact List.perm_middle
          have HT6 : Hid (TS W1 p w6 tb T ts pm v2 A (L1 ++ L2) N) := HTV.out.new hr6 (by have h1 := HTV.out.ln; have h2 := hper.length_eq; simp only [List.length_cons] at h2; omega)
          have HB6 : Hid (BoxL w6 wo.heap.size xs) := HD.out w6 (Turns.below b6)
          have hs6 : V.heap.size ≤ w6.heap.size := b6.size
          have HLf : Hid (LeftOf A x (L1 ++ L2)) := ⟨fun h => absurd h (lkN_pos hmem), fun _ => hper⟩
          have HLk : Hid ((if lkN A (likeT x) = 0 then (5 : Int) else 0) = 0) := by rw [Hid, if_neg (lkN_pos hmem)]
          clear hmem hper hAL b6 HTV HD hr6 HVe
          have HPc := placed_copy ys _ x w6 (HXu.out w6 HT6.out.row.below (Nat.le_trans HsV.out hs6)).1
          have HRx : Hid (w6.rangeAt wo.heap.size 1 ys) := HRY.out w6 HB6.out
          clear hs6
          go_wp2_with (first | (refine wpList_load_mid rfl 41 _ rfl wo.heap.size 1 rfl ys _ HRx.out Tryz.underlying41 rfl hi17 ?_) | fail)
          refine HPc.mono ?_
          clear HPc HRx
          rintro e w7 ⟨qs, rfl, hrp, b7⟩
          have HT7 : Hid (TS W1 p w7 tb T ts pm v2 A (L1 ++ L2) N) := HT6.out.on b7
          have HDp := Drop_calls (w := w7) (A' := (L1 ++ L2)) HT7.out.tab (show RPlaced (NP T pm) w7 qs x from RPlaced.firm.weak hrp (fun b _ hb q => by
            have h1 : w6.heap.size ≤ b := hb
            have h2 : b < w6.heap.size := by rcases q with q | q; exact HT6.out.tab.m.lt q; rw [q]; exact HT6.out.tab.p.lt
            omega)) hokx (HIn.out w7 HT7.out.row.below).2.2.2.2.2.2 hEx.out.1 (by have := hEx.out; omega) (by have := hEx.out; omega) HLf
          rw [HLk.out] at HDp
          have HB7 : Hid (BoxL w7 wo.heap.size xs) := HB6.out.on b7
          clear hrp b7 HT6 HB6
          go_wp2_with fail
          refine HDp.mono ?_
          clear HDp
          rintro e w9 ⟨rfl, htab9, htu9⟩
          have HTn : Hid (TS W1 p w9 tb T ts pm v2 (L1 ++ L2) (L1 ++ L2) N') := HT7.out.turn htu9 (by rw [HN'.out]; exact htab9.m) (htab9.p.mono (by rw [HN'.out]; omega)) (by rw [HN'.out]; omega)
          have HBn : Hid (BoxL w9 wo.heap.size xs) := HB7.out.kept (kept_np htu9) HDv.out.2.2
          have HNn : Hid (N' ≤ E0 + sumBy (fun a : ActD => (eAct a).length) (Ac.take (k + 1))) := by rw [Hid, HN'.out]; exact hEx.out.2.2.2.1
          clear htab9 htu9 HT7 HB7 HLf HLk
          generalize L1 ++ L2 = C9 at HTn
          obtain ⟨av, cv, hve, sv⟩ := HTn.out.row.slO8 (bytes := 320) RPlaced.firm (by have h1 := HTn.out.ln; have h2 := HNn.out; have h3 := HSum.out.2; omega)
          subst hve
          have HSl : Hid (SlAt RPlaced 17 320 (fun _ => True) w9 av (C9).length cv (C9)) := sv.weak RPlaced.firm (fun _ _ _ => trivial)
          clear sv
          have hwu : Below W1.heap.size W1 w9 := HTn.out.row.below
          have HCk := TCheck_calls (w := w9) (p := p) g1 g2 g3 Lx HTn.out.tab HTn.out.of (placed_ok HSl.out) ((HXu.out w9 hwu (by have h1 := HBn.out.1; omega)).2.1)
          rw [show whyN (pLabs p) (pNear p) (pApart p) Lx (othersN p.1 (C9)) = refN p Lx (C9) from near_ref p Lx (C9)] at HCk
          have y18 := (HBn.out.2 18 _ HX18.out.1).1
          go_wp2_with fail
          refine HCk.mono ?_
          clear HCk y18
          rintro e z2 ⟨rfl, hz2⟩
          have hw2 : Below W1.heap.size W1 z2 := on2 hwu hz2
          have HRc := rCheck8_calls cs p g1 g2 g3 Lx av (C9).length cv (C9) z2 (HIn.out z2 hw2).2.1 ((HXu.out z2 hw2 (by have h1 := HBn.out.1; have h2 := hz2.size; omega)).2.1.weak RLabel.firm (fun _ _ _ => trivial)) (HSl.out.on RPlaced.firm hz2)
          have y18 := ((HBn.out.on hz2).2 18 _ HX18.out.1).1
          have HRp : Hid (z2.rangeAt w.heap.size 0 cs) := (HIn.out z2 hw2).1.range
          have HTz : Hid (∀ u, Below z2.heap.size z2 u → TS W1 p u tb T ts pm (.slice av (C9).length cv) (C9) (C9) N') := fun u hb => (HTn.out.on hz2).on hb
          generalize refN p Lx (C9) = ans at HRc
          clear hwu hw2 hz2 HSl HXu HBn HTn
          go_wp2_with (first | (refine load_w9 (by rfl) 33 _ rfl w.heap.size 0 rfl cs _ HRp.out Tryz.underlying33 rfl hi16 ?_) | fail)
          refine HRc.mono ?_
          clear HRc y18 HRp
          rintro e z3 ⟨rfl, hz3⟩
          have HT3 := HTz.out z3 hz3
          clear HTz hz3
          have HNew : Hid (TS W1 p z3 tb T ts pm (.slice av (C9).length cv) (C9) (C9) N' ∧ N' ≤ E0 + sumBy (fun a : ActD => (eAct a).length) (Ac.take (k + 1))) := ⟨HT3, HNn.out⟩
          clear HT3
          go_wp2_with fail
          go_roundw
          case rel => exact ⟨k + 1, tb, T, ts, pm, C9, N', by omega, by go_num, rfl, HNew⟩
          case measure => simp [intOf]; omega
      ·
        have HBn : Hid (BoxL V wo.heap.size xs) := HD.out V (Turns.refl _ _)
        have HNn : Hid (N ≤ E0 + sumBy (fun a : ActD => (eAct a).length) (Ac.take (k + 1))) := hEx.out.2.2.2.2.1
        clear HD HRY
        obtain ⟨av, cv, hve, sv⟩ := HTV.out.row.slO8 (bytes := 320) RPlaced.firm (by have h1 := HTV.out.ln; have h2 := HNn.out; have h3 := HSum.out.2; omega)
        subst hve
        have HSl : Hid (SlAt RPlaced 17 320 (fun _ => True) V av (A).length cv (A)) := sv.weak RPlaced.firm (fun _ _ _ => trivial)
        clear sv
        have hwu : Below W1.heap.size W1 V := HTV.out.row.below
        have HCk := TCheck_calls (w := V) (p := p) g1 g2 g3 Lx HTV.out.tab HTV.out.of (placed_ok HSl.out) ((HXu.out V hwu (by have h1 := HBn.out.1; omega)).2.1)
        rw [show whyN (pLabs p) (pNear p) (pApart p) Lx (othersN p.1 (A)) = refN p Lx (A) from near_ref p Lx (A)] at HCk
        have y18 := (HBn.out.2 18 _ HX18.out.1).1
        go_wp2_with fail
        refine HCk.mono ?_
        clear HCk y18
        rintro e z2 ⟨rfl, hz2⟩
        have hw2 : Below W1.heap.size W1 z2 := on2 hwu hz2
        have HRc := rCheck8_calls cs p g1 g2 g3 Lx av (A).length cv (A) z2 (HIn.out z2 hw2).2.1 ((HXu.out z2 hw2 (by have h1 := HBn.out.1; have h2 := hz2.size; omega)).2.1.weak RLabel.firm (fun _ _ _ => trivial)) (HSl.out.on RPlaced.firm hz2)
        have y18 := ((HBn.out.on hz2).2 18 _ HX18.out.1).1
        have HRp : Hid (z2.rangeAt w.heap.size 0 cs) := (HIn.out z2 hw2).1.range
        have HTz : Hid (∀ u, Below z2.heap.size z2 u → TS W1 p u tb T ts pm (.slice av (A).length cv) (A) (A) N) := fun u hb => (HTV.out.on hz2).on hb
        generalize refN p Lx (A) = ans at HRc
        clear hwu hw2 hz2 HSl HXu HBn HTV
        go_wp2_with (first | (refine load_w9 (by rfl) 33 _ rfl w.heap.size 0 rfl cs _ HRp.out Tryz.underlying33 rfl hi16 ?_) | fail)
        refine HRc.mono ?_
        clear HRc y18 HRp
        rintro e z3 ⟨rfl, hz3⟩
        have HT3 := HTz.out z3 hz3
        clear HTz hz3
        have HNew : Hid (TS W1 p z3 tb T ts pm (.slice av (A).length cv) (A) (A) N ∧ N ≤ E0 + sumBy (fun a : ActD => (eAct a).length) (Ac.take (k + 1))) := ⟨HT3, HNn.out⟩
        clear HT3
        go_wp2_with fail
        go_roundw
        case rel => exact ⟨k + 1, tb, T, ts, pm, A, N, by omega, by go_num, rfl, HNew⟩
        case measure => simp [intOf]; omega
      ·
        have HnT : Hid ((tNear T).length < 1000000000 ∧ (tApart T).length < 1000000000) := by
          have h1 := HTV.out.of; have h2 := congrArg List.length h1.2.2.1; have h3 := congrArg List.length h1.2.2.2; rw [List.length_map] at h2 h3; have h4 := HS.out; refine ⟨?_, ?_⟩ <;> omega
        have HCl := TClone_calls (w := V) HTV.out.tab HnT.out.1 HnT.out.2
        clear HnT
        go_wp2_with fail
        refine HCl.mono ?_
        clear HCl
        rintro e w6 ⟨tb', T', ts', pm', rfl, hcl, b6⟩
        have HCl : Hid (∀ u, Turns (mapsP T pm) w6 u → TS W1 p u tb' T' ts' pm' u10 A A N) := fun u ht => HTV.out.cloned ⟨hcl, b6⟩ ht
        have HT6 : Hid (TS W1 p w6 tb T ts pm u10 A A N) := HTV.out.on b6
        have HB6 : Hid (BoxL w6 wo.heap.size xs ∧ Turns (mapsP T pm) V w6) := ⟨HD.out w6 (Turns.below b6), Turns.below b6⟩
        clear hcl b6 HTV
        have hs6 : wo.heap.size ≤ w6.heap.size := Nat.le_of_lt HB6.out.1.1
        have HA := Add_calls (w := w6) HT6.out.tab (HXu.out w6 HT6.out.row.below hs6).2.2 hokx (HIn.out w6 HT6.out.row.below).2.2.2.2.2.2 hEx.out.1 (by have := hEx.out; omega) (by have := hEx.out; omega)
        have HRx : Hid (w6.rangeAt wo.heap.size 1 ys) := HRY.out w6 HB6.out.1
        go_wp2_with (first | (refine wpList_load_mid rfl 41 _ rfl wo.heap.size 1 rfl ys _ HRx.out Tryz.underlying41 rfl hi17 ?_) | fail)
        refine HA.mono ?_
        clear HA HRx
        rintro e w7 ⟨rfl, htab7, htu7⟩
        have HT7 : Hid (TS W1 p w7 tb T ts pm u10 (A ++ [x]) A (N + 1 + (pApart x.1).length)) := HT6.out.turn htu7 htab7.m (htab7.p.mono (by omega)) (by omega)
        have HU7 : Hid (Turns (mapsP T pm) w6 w7) := htu7
        have HB7 : Hid (BoxL w7 wo.heap.size xs) := HD.out w7 (HB6.out.2.trans htu7)
        have hs7 : wo.heap.size ≤ w7.heap.size := Nat.le_of_lt HB7.out.1
        clear htab7 htu7 HT6
        have HA := Drop_calls (w := w7) (A' := A) HT7.out.tab (HXu.out w7 HT7.out.row.below hs7).2.2 hokx (HIn.out w7 HT7.out.row.below).2.2.2.2.2.2 hEx.out.1 (by have := hEx.out; omega) (by have := hEx.out; omega) (left_of_app A x)
        have HRx : Hid (w7.rangeAt wo.heap.size 1 ys) := HRY.out w7 HB7.out
        generalize (if lkN (A ++ [x]) (likeT x) = 0 then (5 : Int) else 0) = q5 at HA
        go_wp2_with (first | (refine wpList_load_mid rfl 41 _ rfl wo.heap.size 1 rfl ys _ HRx.out Tryz.underlying41 rfl hi17 ?_) | fail)
        refine HA.mono ?_
        clear HA HRx
        rintro e w8 ⟨rfl, htab8, htu8⟩
        have HT8 : Hid (TS W1 p w8 tb T ts pm u10 A A (N + 1 + (pApart x.1).length + 1 + (pApart x.1).length)) := HT7.out.turn htu8 htab8.m (htab8.p.mono (by omega)) (by omega)
        have HU8 : Hid (Turns (mapsP T pm) w6 w8) := HU7.out.trans htu8
        have HB8 : Hid (BoxL w8 wo.heap.size xs) := HD.out w8 (HB6.out.2.trans HU8.out)
        have hs8 : wo.heap.size ≤ w8.heap.size := Nat.le_of_lt HB8.out.1
        clear htab8 htu8 HT7 HU7 HB7 hs7
        have HPc := placed_copy ys _ x w8 (HXu.out w8 HT8.out.row.below hs8).1
        have HRx : Hid (w8.rangeAt wo.heap.size 1 ys) := HRY.out w8 HB8.out
        go_wp2_with (first | (refine wpList_load_mid rfl 41 _ rfl wo.heap.size 1 rfl ys _ HRx.out Tryz.underlying41 rfl hi17 ?_) | fail)
        refine HPc.mono ?_
        clear HPc HRx
        rintro e w9 ⟨qs, rfl, hrp, b9⟩
        have HT9 : Hid (TS W1 p w9 tb T ts pm u10 A A (N + 1 + (pApart x.1).length + 1 + (pApart x.1).length)) := HT8.out.on b9
        have HA := Add_calls (w := w9) HT9.out.tab (show RPlaced (NP T pm) w9 qs x from RPlaced.firm.weak hrp (fun b _ hb q => by
          have h1 : w8.heap.size ≤ b := hb
          have h2 : b < w8.heap.size := by rcases q with q | q; exact HT8.out.tab.m.lt q; rw [q]; exact HT8.out.tab.p.lt
          omega)) hokx (HIn.out w9 HT9.out.row.below).2.2.2.2.2.2 hEx.out.1 (by have := hEx.out; omega) (by have := hEx.out; omega)
        have HU9 : Hid (Turns (mapsP T pm) w6 w9) := HU8.out.trans (Turns.below b9)
        clear hrp b9 HT8 HU8 HB8 hs8
        go_wp2_with fail
        refine HA.mono ?_
        clear HA
        rintro e wz ⟨rfl, _, htuz⟩
        have HUz : Turns (mapsP T pm) w6 wz := HU9.out.trans htuz
        have HTn : Hid (TS W1 p wz tb' T' ts' pm' u10 A A N) := HCl.out wz HUz
        have HBn : Hid (BoxL wz wo.heap.size xs) := HD.out wz (HB6.out.2.trans HUz)
        have HNn : Hid (N ≤ E0 + sumBy (fun a : ActD => (eAct a).length) (Ac.take (k + 1))) := hEx.out.2.2.2.2.1
        clear htuz HUz HU9 HT9 HB6 HCl HD HRY hs6
        obtain ⟨av, cv, hve, sv⟩ := HTn.out.row.slO8 (bytes := 320) RPlaced.firm (by have h1 := HTn.out.ln; have h2 := HNn.out; have h3 := HSum.out.2; omega)
        subst hve
        have HSl : Hid (SlAt RPlaced 17 320 (fun _ => True) wz av (A).length cv (A)) := sv.weak RPlaced.firm (fun _ _ _ => trivial)
        clear sv
        have hwu : Below W1.heap.size W1 wz := HTn.out.row.below
        have HCk := TCheck_calls (w := wz) (p := p) g1 g2 g3 Lx HTn.out.tab HTn.out.of (placed_ok HSl.out) ((HXu.out wz hwu (by have h1 := HBn.out.1; omega)).2.1)
        rw [show whyN (pLabs p) (pNear p) (pApart p) Lx (othersN p.1 (A)) = refN p Lx (A) from near_ref p Lx (A)] at HCk
        have y18 := (HBn.out.2 18 _ HX18.out.1).1
        go_wp2_with fail
        refine HCk.mono ?_
        clear HCk y18
        rintro e z2 ⟨rfl, hz2⟩
        have hw2 : Below W1.heap.size W1 z2 := on2 hwu hz2
        have HRc := rCheck8_calls cs p g1 g2 g3 Lx av (A).length cv (A) z2 (HIn.out z2 hw2).2.1 ((HXu.out z2 hw2 (by have h1 := HBn.out.1; have h2 := hz2.size; omega)).2.1.weak RLabel.firm (fun _ _ _ => trivial)) (HSl.out.on RPlaced.firm hz2)
        have y18 := ((HBn.out.on hz2).2 18 _ HX18.out.1).1
        have HRp : Hid (z2.rangeAt w.heap.size 0 cs) := (HIn.out z2 hw2).1.range
        have HTz : Hid (∀ u, Below z2.heap.size z2 u → TS W1 p u tb' T' ts' pm' (.slice av (A).length cv) (A) (A) N) := fun u hb => (HTn.out.on hz2).on hb
        generalize refN p Lx (A) = ans at HRc
        clear hwu hw2 hz2 HSl HXu HBn HTn
        go_wp2_with (first | (refine load_w9 (by rfl) 33 _ rfl w.heap.size 0 rfl cs _ HRp.out Tryz.underlying33 rfl hi16 ?_) | fail)
        refine HRc.mono ?_
        clear HRc y18 HRp
        rintro e z3 ⟨rfl, hz3⟩
        have HT3 := HTz.out z3 hz3
        clear HTz hz3
        have HNew : Hid (TS W1 p z3 tb' T' ts' pm' (.slice av (A).length cv) (A) (A) N ∧ N ≤ E0 + sumBy (fun a : ActD => (eAct a).length) (Ac.take (k + 1))) := ⟨HT3, HNn.out⟩
        clear HT3
        go_wp2_with fail
        go_roundw
        case rel => exact ⟨k + 1, tb', T', ts', pm', A, N, by omega, by go_num, rfl, HNew⟩
        case measure => simp [intOf]; omega
    · have hlz : ¬ ((k : Int) < (an : Int)) := by omega
      obtain ⟨av, cv, hve, sv⟩ := hst.out.1.row.slO8 (bytes := 320) RPlaced.firm (by have h1 := hst.out.1.ln; have h2 := hst.out.2; have h3 := HS.out.2.2.2.2; have h4 := sum_take_le9 (fun a : ActD => (eAct a).length) Ac k; omega)
      subst hve
      have HSl : Hid (SlAt RPlaced 17 320 (fun _ => True) wo av A.length cv A) := sv.weak RPlaced.firm (fun _ _ _ => trivial)
      have hwu : Below W1.heap.size W1 wo := hst.out.1.row.below
      have HCk := TCheck_calls (w := wo) (p := p) la ln lc Lb hst.out.1.tab hst.out.1.of (placed_ok HSl.out) (HIn.out wo hwu).2.2.2.2.1
      rw [show whyN (pLabs p) (pNear p) (pApart p) Lb (othersN p.1 A) = refN p Lb A from near_ref p Lb A] at HCk
      clear sv hst
      go_wp2_with fail
      refine HCk.mono ?_
      clear HCk
      rintro e z2 ⟨rfl, hz2⟩
      have hw2 : Below W1.heap.size W1 z2 := on2 hwu hz2
      have HRc := rCheck8_calls cs p la ln lc Lb av A.length cv A z2 (HIn.out z2 hw2).2.1 (HIn.out z2 hw2).2.2.2.2.1 (HSl.out.on RPlaced.firm hz2)
      have HRp : Hid (z2.rangeAt w.heap.size 0 cs) := (HIn.out z2 hw2).1.range
      have HW2 : Hid (Below W1.heap.size W1 z2) := hw2
      generalize refN p Lb A = ans at HRc
      clear hwu hw2 hz2 HSl
      go_wp2_with (first | (refine load_w9 (by rfl) 33 _ rfl w.heap.size 0 rfl cs _ HRp.out Tryz.underlying33 rfl hi16 ?_) | fail)
      refine HRc.mono ?_
      clear HRc HRp
      rintro e z3 ⟨rfl, hz3⟩
      have hw3 : Below W1.heap.size W1 z3 := on2 HW2.out hz3
      have HWk := works8_calls z3 (HIn.out z3 hw3).2.2.2.2.2.2
      have H9 : Hid (Below w.heap.size w z3) := (HIn.out z3 hw3).2.2.2.2.2.1
      clear hw3 hz3 HW2
      go_wp2_with fail
      refine HWk.mono ?_
      clear HWk
      rintro e z4 ⟨rfl, hz4⟩
      have HF : Hid (Below w.heap.size w z4) := on2 H9.out hz4
      clear hz4 H9
      go_wp2_with fail
      go_ret
      exact ⟨rfl, HF.out⟩
end Go.Proofs.YtfnafgmengefaaaGreatDoor
