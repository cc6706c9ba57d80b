/- each, and the function that it hands back. Condition: what is handed in lies as is said of it, and what is asked of each info answers. slices.Index and slices.Contains at texts and at numbers tell whether it is in a list, and change nothing; slices.IndexFunc and slices.ContainsFunc at numbers, over a function that answers as is said of it. Condition: the slice lies as is said of it. info.Free and info.Clash. Condition: the arguments lie as is said of them. Least and Even, by the program. Condition: what is handed in lies as is said of it. Calm and Liked, by the program. Condition: what is handed in lies as is said of it. -/
import Derived.Test.YteihniiacfghoaaQ08
import Derived.Test.YteihniiacfghoaaQ13
import Derived.Test.YteihniiacfghoaaQ04
import Derived.Test.YteihniiacfghoaaQ06
import Derived.Test.YteihniiacfghoaaQ07
namespace Go.Proofs.Yteihniiacfghoaa
open Go.RowKit Go.Maps
set_option linter.unusedSimpArgs false
set_option maxRecDepth 100000

theorem sizePodS : (Try.prog.info? 33).map (·.size) = some 16 := by kernel_rfl
theorem sizeInfoS : (Try.prog.info? 41).map (·.size) = some 15 := by kernel_rfl
theorem each_calls (F : Value) (hF : F.oneCell' = true) (w : World) : Calls Try.prog 36 #[F] w fun e w' => e = .returned (.func (.func 50) #[] #[.pointer (some ⟨w.heap.size, 0, none⟩)]) ∧ BoxL w' w.heap.size [F] ∧ Below w.heap.size w w' := by
  obtain ⟨W1, hW1⟩ : ∃ Z, Z = w.alloc (.cells #[F] 36) := ⟨_, rfl⟩
  have HW : Hid (w.alloc (.cells #[F] 36) = W1) := hW1.symm
  have HQ : Hid (BoxL W1 w.heap.size [F] ∧ Below w.heap.size w W1) := ⟨by rw [hW1]; exact BoxL.new w 36 _, by rw [hW1]; exact (Below.refl _ _).alloc (Nat.le_refl _) _⟩
  clear hW1
  go_enter Try.func36, Try.ntmps36
  go_upto_region 1 with fail
  go_wp2_with fail
  go_ret
  have h := HQ.out
  rw [← HW.out] at h
  exact ⟨rfl, h.1, h.2⟩
/-- Function g tells f of a pod and an info. -/
def One (g : Nat) (f : PodD → InfoD → Int) : Prop := (∀ args w, (callFunc g args).run Try.prog w = .ok (.enter g args) w) ∧ ∀ (ps is : List Value) (A A' : Where) (p : PodD) (i : InfoD) (w : World), Hid (RPod A w ps p) → Hid (RInfo A' w is i) → Calls Try.prog g #[.agg ps.toArray, .agg is.toArray] w fun e w' => e = .returned (.int .i64 (f p i)) ∧ Below w.heap.size w w'
def zInfoC : List Value := [.string ⟨#[]⟩, .slice none 0 0, .slice none 0 0, .bool false, .int .i64 0, .int .i64 0, .int .i64 0, .int .i64 0, .int .i64 0, .slice none 0 0, .int .i64 0, .int .i64 0, .int .i64 0, .slice none 0 0, .slice none 0 0]
theorem getD_mapS (f : InfoD → Int) (L : List InfoD) {k : Nat} (hk : k < L.length) : (L.map f).getD k default = f (L.getD k default) := by
  rw [List.getD_eq_getElem?_getD, List.getElem?_map, List.getD_eq_getElem?_getD, List.getElem?_eq_getElem hk]; rfl
set_option maxHeartbeats 4000000 in
theorem eachRun_calls (g : Nat) (f : PodD → InfoD → Int) (hO : One g f) (b : Nat) (ps : List Value) (A A' : Where) (p : PodD) (a : Option Addr) (n cap : Nat) (L : List InfoD) (w : World) (hb : BoxL w b [.func (.func g) #[] #[]]) (hp : Hid (RPod A w ps p)) (hL : Hid (SlAt RInfo 15 208 A' w a n cap L)) : Calls Try.prog 50 #[.agg ps.toArray, .slice a n cap, .pointer (some ⟨b, 0, none⟩)] w fun e w' => ∃ v, e = .returned v ∧ Row RInt 1 (fun _ => False) w w' 3 v (L.map (f p)) := by
  have hn : Hid (L.length = n) := hL.out.1
  have HLn : Hid (n * 208 ≤ 140737488351232) := hL.out.2.2.2.1
  have hml : n < 1000000000000000 := by have := HLn.out; omega
  have hmk : n ≤ maxLen := by unfold maxLen; omega
  have hmb : 8 * n ≤ 281474976710656 := by have := HLn.out; omega
  obtain ⟨ii, hi1, hi2, hi3, hi4⟩ := infoIntE
  have hiP : (Try.prog.info? 33).map (·.size) = some ps.length := by rw [RPod.firm.len hp.out]; exact sizePodS
  obtain ⟨eg, hOc⟩ := hO
  have HO : Hid (∀ (ps is : List Value) (A A' : Where) (p : PodD) (i : InfoD) (w : World), Hid (RPod A w ps p) → Hid (RInfo A' w is i) → Calls Try.prog g #[.agg ps.toArray, .agg is.toArray] w fun e w' => e = .returned (.int .i64 (f p i)) ∧ Below w.heap.size w w') := hOc
  obtain ⟨W1, hW1⟩ : ∃ Z, Z = w.alloc (.cells ps.toArray 33) := ⟨_, rfl⟩
  have b1 : Below w.heap.size w W1 := by rw [hW1]; exact (Below.refl _ _).alloc (Nat.le_refl _) _
  have HB1 : Hid (Below w.heap.size w W1) := b1
  have HX : Hid (BoxL W1 w.heap.size ps) := by rw [hW1]; exact BoxL.new w 33 _
  have HBx : Hid (BoxL W1 b [.func (.func g) #[] #[]]) := hb.on b1
  have hL1 : Hid (SlAt RInfo 15 208 A' W1 a n cap L) := hL.out.on RInfo.firm b1
  have hp1 : Hid (RPod A W1 ps p) := RPod.firm.kept hp.out (Kept.below b1)
  have HW1 : Hid (w.alloc (.cells ps.toArray 33) = W1) := hW1.symm
  obtain ⟨P, hP⟩ : ∃ P, P = w.heap.size := ⟨_, rfl⟩
  have HP : Hid (w.heap.size = P) := hP.symm
  rw [← hP] at HX
  clear hOc b1 hW1 hP hb hL hp
  go_enter Try.func50, Try.ntmps50
  go_upto_region 1 with fail
  rw [HW1.out, HP.out]
  clear HW1
  --M1
  go_wp2_with (first | (refine wpList_make_full W1 rfl _ _ 28 rfl W1.heap.size 3 ii (.int .i64 0) 1 Try.underlying28 hi1 hi2 hi3 .i64 .i64 _ _ n rfl rfl rfl rfl (by rw [hi4]; exact hmb) hmk (Nat.le_refl _) ?_; intro w1 hr1 hg1) | fail)
  have HR0 : Hid (Row RInt 1 (fun _ => False) W1 w1 3 (.slice (some ⟨W1.heap.size, 0, none⟩) n n) (turnL (f p) (fun _ => 0) L 0)) := by
    have h := row_made hr1 (Below.refl _ _) hg1
    have e : turnL (f p) (fun _ => (0 : Int)) L 0 = List.replicate n 0 := by rw [turn_zero, List.map_const', hn.out]
    rw [Hid, e]; exact h
  obtain ⟨q, hq⟩ : ∃ q, q = W1.heap.size := ⟨_, rfl⟩
  rw [← hq] at HR0
  rw [← hq]
  clear hr1 hg1 hq hi1 hi2 hi3 hi4 hmk hmb
  go_wp2_with fail
  --M2
  go_loopw [14] (fun i wr => ∃ k : Nat, k ≤ n ∧ i = .int .i64 k ∧ Hid (Row RInt 1 (fun _ => False) W1 wr 3 (.slice (some ⟨q, 0, none⟩) n n) (turnL (f p) (fun _ => 0) L k))) (fun i _ => n - (intOf i).toNat)
  case atStart => exact ⟨0, Nat.zero_le _, rfl, HR0⟩
  case round =>
    clear HR0
    obtain ⟨k, hk, rfl, hrun⟩ := hrel
    by_cases hlt : k < n
    · have hltz : (k : Int) < (n : Int) := by omega
      have hbw : Below W1.heap.size W1 wr := hrun.out.below
      obtain ⟨D, off, rfl, hD, _, cs, hra, hva⟩ := (hL1.out.on RInfo.firm hbw).get hlt
      have hkl : k < L.length := by rw [hn.out]; exact hlt
      have htl : (turnL (f p) (fun _ => (0 : Int)) L k).length = n := by rw [turn_len, hn.out]
      obtain ⟨x, hx⟩ : ∃ x, x = L.getD k default := ⟨_, rfl⟩
      rw [← hx] at hra
      have hl15 : cs.length = 15 := RInfo.firm.len hra
      have hiI : (Try.prog.info? 41).map (·.size) = some cs.length := by rw [hl15]; exact sizeInfoS
      have hiI' : (Try.prog.info? 41).map (·.size) = some cs.toArray.size := by have e : cs.toArray.size = 15 := (by simp [hl15]); rw [e]; exact sizeInfoS
      have HRg : Hid (wr.rangeAt D (off + k * 15) cs) := hva
      have HOn : Hid (cs.toArray.all (·.oneCell') = true) := all_oneCell_toArray (RInfo.firm.one hra)
      have HT : Hid ((wr.alloc (.cells #[.string ⟨#[]⟩, .slice none 0 0, .slice none 0 0, .bool false, .int .i64 0, .int .i64 0, .int .i64 0, .int .i64 0, .int .i64 0, .slice none 0 0, .int .i64 0, .int .i64 0, .int .i64 0, .slice none 0 0, .slice none 0 0] 41)).there wr.heap.size 0 cs.toArray.size) := by have e : cs.toArray.size = 15 := (by simp [hl15]); rw [Hid, e]; exact (BoxL.new wr 41 [.string ⟨#[]⟩, .slice none 0 0, .slice none 0 0, .bool false, .int .i64 0, .int .i64 0, .int .i64 0, .int .i64 0, .int .i64 0, .slice none 0 0, .int .i64 0, .int .i64 0, .int .i64 0, .slice none 0 0, .slice none 0 0]).there
      obtain ⟨W4, hW4⟩ : ∃ W4, W4 = (wr.alloc (.cells #[.string ⟨#[]⟩, .slice none 0 0, .slice none 0 0, .bool false, .int .i64 0, .int .i64 0, .int .i64 0, .int .i64 0, .int .i64 0, .slice none 0 0, .int .i64 0, .int .i64 0, .int .i64 0, .slice none 0 0, .slice none 0 0] 41)).setCells wr.heap.size 0 cs := ⟨_, rfl⟩
      have HX4 : Hid (BoxL W4 wr.heap.size cs) := by rw [hW4]; exact box_overS (BoxL.new wr 41 [.string ⟨#[]⟩, .slice none 0 0, .slice none 0 0, .bool false, .int .i64 0, .int .i64 0, .int .i64 0, .int .i64 0, .int .i64 0, .slice none 0 0, .int .i64 0, .int .i64 0, .int .i64 0, .slice none 0 0, .slice none 0 0]) (by rw [hl15]; rfl)
      have B4 : Below wr.heap.size wr W4 := by rw [hW4]; exact below_setCells ((Below.refl _ _).alloc (Nat.le_refl _) _) (Nat.le_refl _)
      have HW4 : Hid (W4 = (wr.alloc (.cells #[.string ⟨#[]⟩, .slice none 0 0, .slice none 0 0, .bool false, .int .i64 0, .int .i64 0, .int .i64 0, .int .i64 0, .int .i64 0, .slice none 0 0, .int .i64 0, .int .i64 0, .int .i64 0, .slice none 0 0, .slice none 0 0] 41)).setCells wr.heap.size 0 cs.toArray.toList) := by rw [Hid, hW4]
      have hb4 : Below W1.heap.size W1 W4 := on2 hbw B4
      have c1 : W4.cell? ⟨b, 0, none⟩ = some (.func (.func g) #[] #[]) := ((HBx.out.on hb4).2 0 _ rfl).1
      have HXp : Hid (W4.rangeAt P 0 ps) := (HX.out.on hb4).range
      have hC := HO.out ps cs A A' p x W4 (RPod.firm.kept hp1.out (Kept.below hb4)) (RInfo.firm.kept hra (Kept.below B4))
      obtain ⟨c, hc⟩ : ∃ c, c = f p x := ⟨_, rfl⟩
      rw [← hc] at hC
      have hts : (turnL (f p) (fun _ => (0 : Int)) L k).set k c = turnL (f p) (fun _ => 0) L (k + 1) := by rw [← turn_set (f p) (fun _ => 0) L hkl, hc, hx]
      have HS : Hid (∀ z, Below W4.heap.size W4 z → (Row RInt 1 (fun _ => False) W1 (z.setCell ⟨q, k, none⟩ (.int .i64 c)) 3 (.slice (some ⟨q, 0, none⟩) n n) (turnL (f p) (fun _ => 0) L (k + 1))) ∧ (∃ v, z.cell? ⟨q, k, none⟩ = some v) ∧ z.frozen? ⟨q, k, none⟩ = false) := fun z hz => by
        have hr := hrun.out.on RInt.firm (on2 B4 hz)
        have h1 := rowI_set c hr htl hlt
        rw [hts] at h1
        exact ⟨h1, ⟨_, (rowI_get hr htl hlt).1⟩, (rowI_get hr htl hlt).2⟩
      clear hx hc hra hva hts htl hl15 hW4 hbw hb4 B4 hrun
      --M3
      go_upto_region 5 with (first | (refine wpList_load_mid rfl 41 _ rfl D (off + k * 15) rfl cs _ HRg.out Try.underlying41 rfl hiI ?_) | (refine wpList_store_mid rfl 41 _ _ rfl wr.heap.size 0 cs.toArray rfl rfl HT.out hiI' HOn.out ?_; refine wpl_atG HW4.out ?_) | fail)
      --M4
      obtain ⟨I, hI⟩ : ∃ I, I = wr.heap.size := ⟨_, rfl⟩
      rw [← hI] at HX4 ⊢
      clear hI HT HRg HOn HW4
      go_wp2_with (first | (refine wpList_load_mid rfl 33 _ rfl P 0 rfl ps _ HXp.out Try.underlying33 rfl hiP ?_) | (refine wpList_load_mid rfl 41 _ rfl I 0 rfl cs _ HX4.out.range Try.underlying41 rfl hiI ?_) | (go_at_fn g; refine hC.mono ?_; rintro e w6 ⟨rfl, hb6⟩; obtain ⟨h1, ⟨v1, h2⟩, h3⟩ := HS.out w6 hb6) | fail)
      --M5
      have HE : Hid (Row RInt 1 (fun _ => False) W1 (w6.setCell ⟨q, k, none⟩ (.int .i64 c)) 3 (.slice (some ⟨q, 0, none⟩) n n) (turnL (f p) (fun _ => 0) L (k + 1))) := h1
      clear h1 HS hC hb6 c1 HXp HX4
      go_roundw
      case rel => exact ⟨k + 1, by omega, by go_num, HE⟩
      case measure => simp [intOf]; omega
    · have hltz : ¬ (k : Int) < (n : Int) := by omega
      have hkn : k = n := by omega
      have HE : Hid (Row RInt 1 (fun _ => False) w wr 3 (.slice (some ⟨q, 0, none⟩) n n) (L.map (f p))) := by
        have h := hrun.out
        rw [hkn, ← hn.out, turn_all, hn.out] at h
        exact h.fromG HB1.out
      clear hrun hkn
      go_wp2_with fail
      go_ret
      exact ⟨_, rfl, HE.out⟩
end Go.Proofs.Yteihniiacfghoaa
namespace Go.Proofs.Yteihniiacfghoaa
open Go.RowKit
set_option linter.unusedSimpArgs false
set_option maxRecDepth 100000

set_option maxHeartbeats 1000000 in
theorem IndexS (a : Option Addr) (n cap : Nat) (A : Where) (L : List ByteArray) (s : ByteArray) (w : World) (hL : Hid (SlAt RStr 1 16 A w a n cap L)) : Calls Try.prog 85 #[.slice a n cap, .string s] w fun e w' => (∃ k : Int, e = .returned (.int .i64 k) ∧ hasB sEq L s = decide (0 ≤ k)) ∧ w' = w := by
  have hn : Hid (L.length = n) := hL.out.1
  have hlen := hL.out.len (by decide)
  go_enter Try.func85, Try.ntmps85
  go_wp2_with fail
  go_loop [8] (fun i => ∃ k : Nat, k ≤ n ∧ i = .int .i64 k ∧ Hid (hasB sEq (L.take k) s = false)) (fun i => n - (intOf i).toNat)
  case atStart => exact ⟨0, Nat.zero_le _, rfl, rfl⟩
  case round =>
    obtain ⟨k, hk, rfl, hno⟩ := hrel
    by_cases hlt : k < n
    · have hltz : (k : Int) < (n : Int) := by omega
      have hkl : k < L.length := by rw [hn.out]; exact hlt
      have HN : Hid (hasB sEq (L.take (k + 1)) s = (hasB sEq (L.take k) s || sEq (L.getD k default) s)) := hasB_succ _ _ _ hkl
      have HF : Hid (sEq (L.getD k default) s = true → hasB sEq L s = true) := hasB_found _ _ _ hkl
      obtain ⟨B, off, rfl, hB, _, cs, hr, hv⟩ := hL.out.get hlt
      obtain ⟨rfl, _⟩ := hr
      have d0 := hv 0 _ rfl
      simp only [Nat.mul_one, Nat.add_zero] at d0
      clear hv
      generalize L.getD k default = x at d0 HN HF
      cases he : sEq x s
      · have he' : (s.toList == x.toList) = false := by rw [BEq.comm]; exact he
        have HN2 : Hid (hasB sEq (L.take (k + 1)) s = false) := by rw [Hid, HN.out, hno.out, he]; rfl
        clear HN HF he
        go_wp2_with fail
        go_round
        case rel => exact ⟨k + 1, by omega, by go_num, HN2⟩
        case measure => simp [intOf]; omega
      · have he' : (s.toList == x.toList) = true := by rw [BEq.comm]; exact he
        have HT : Hid (hasB sEq L s = true) := HF.out he
        clear HN HF he
        go_wp2_with fail
        go_ret
        exact ⟨⟨k, rfl, by rw [HT.out]; simp⟩, rfl⟩
    · have hk' : L.take k = L := List.take_of_length_le (by rw [hn.out]; omega)
      rw [hk'] at hno
      have hlz : ¬ ((k : Int) < (n : Int)) := by omega
      go_wp2_with fail
      go_ret
      exact ⟨⟨-1, rfl, by rw [hno.out]; simp⟩, rfl⟩
set_option maxHeartbeats 1000000 in
theorem ContainsS (a : Option Addr) (n cap : Nat) (A : Where) (L : List ByteArray) (s : ByteArray) (w : World) (hL : Hid (SlAt RStr 1 16 A w a n cap L)) : Calls Try.prog 82 #[.slice a n cap, .string s] w fun e w' => e = .returned (.bool (hasB sEq L s)) ∧ w' = w := by
  have hI := IndexS a n cap A L s w hL
  generalize hasB sEq L s = b at hI ⊢
  go_enter Try.func82, Try.ntmps82
  go_wp2_with fail
  refine hI.mono ?_
  rintro e w' ⟨⟨k, rfl, rfl⟩, rfl⟩
  by_cases h0 : 0 ≤ k
  · go_wp2_with fail
    go_ret
    exact ⟨by simp [h0], rfl⟩
  · go_wp2_with fail
    go_ret
    exact ⟨by simp [h0], rfl⟩
/-- What is asked of a function that tells numbers: it answers p, and leaves all that was there. -/
def PredI (g : Nat) (lb : Array Value) (p : Int → Bool) (w : World) : Prop :=
  ∀ (W : World) (x : Int), Below w.heap.size w W → Calls Try.prog g (#[.int .i64 x] ++ lb) W fun e w' => e = .returned (.bool (p x)) ∧ Below W.heap.size W w'
theorem any_take (p : Int → Bool) (L : List Int) {k : Nat} (hk : k < L.length) : (L.take (k + 1)).any p = ((L.take k).any p || p (L.getD k default)) := by
  rw [← take_at hk]; simp
theorem any_found (p : Int → Bool) (L : List Int) {k : Nat} (hk : k < L.length) (h : p (L.getD k default) = true) : L.any p = true := by
  rw [List.any_eq_true]
  exact ⟨L.getD k default, by rw [getE _ _ hk]; exact List.getElem_mem hk, h⟩
end Go.Proofs.Yteihniiacfghoaa
namespace Go.Proofs.Yteihniiacfghoaa
open Go.RowKit
set_option linter.unusedSimpArgs false
set_option maxRecDepth 100000

set_option maxHeartbeats 2000000 in
theorem Free_calls (cs : List Value) (A : Where) (x : InfoD) (w : World) (h : Hid (RInfo A w cs x)) : Calls Try.prog 32 #[.agg cs.toArray] w fun e w' => e = .returned (.agg #[.int .i64 (freeP x).1, .int .i64 (freeP x).2.1, .int .i64 (freeP x).2.2]) ∧ Below w.heap.size w w' := by
  obtain ⟨⟨nn, nl, nt, no, ⟨ga, gb, gc⟩, np, nd⟩, nms, ⟨ua, ub, uc⟩, pts, dks⟩ := x
  obtain ⟨⟨a1, n1, m1⟩, ⟨a2, n2, m2⟩, ⟨a9, n9, m9⟩, ⟨a13, n13, m13⟩, ⟨a14, n14, m14⟩, rfl, _⟩ := h.out.out
  simp only [freeP, minusR]
  clear h
  obtain ⟨W2, hW2⟩ : ∃ W2, W2 = (w.alloc (.cells #[.string nn, .slice a1 n1 m1, .slice a2 n2 m2, .bool no, .int .i64 ga, .int .i64 gb, .int .i64 gc, .int .i64 np, .int .i64 nd, .slice a9 n9 m9, .int .i64 ua, .int .i64 ub, .int .i64 uc, .slice a13 n13 m13, .slice a14 n14 m14] 41)).alloc (.cells #[.int .i64 0, .int .i64 0, .int .i64 0] 24) := ⟨_, rfl⟩
  have B2 : PB2 w W2 [.string nn, .slice a1 n1 m1, .slice a2 n2 m2, .bool no, .int .i64 ga, .int .i64 gb, .int .i64 gc, .int .i64 np, .int .i64 nd, .slice a9 n9 m9, .int .i64 ua, .int .i64 ub, .int .i64 uc, .slice a13 n13 m13, .slice a14 n14 m14] [.int .i64 0, .int .i64 0, .int .i64 0] := by
    rw [hW2]
    refine ⟨(BoxL.new w 41 [.string nn, .slice a1 n1 m1, .slice a2 n2 m2, .bool no, .int .i64 ga, .int .i64 gb, .int .i64 gc, .int .i64 np, .int .i64 nd, .slice a9 n9 m9, .int .i64 ua, .int .i64 ub, .int .i64 uc, .slice a13 n13 m13, .slice a14 n14 m14]).on ((Below.refl _ _).alloc (Nat.le_refl _) _), ?_, by go_grown⟩
    have := BoxL.new (w.alloc (.cells #[.string nn, .slice a1 n1 m1, .slice a2 n2 m2, .bool no, .int .i64 ga, .int .i64 gb, .int .i64 gc, .int .i64 np, .int .i64 nd, .slice a9 n9 m9, .int .i64 ua, .int .i64 ub, .int .i64 uc, .slice a13 n13 m13, .slice a14 n14 m14] 41)) 24 [.int .i64 0, .int .i64 0, .int .i64 0]
    simpa using this
  have HB2 : Hid (PB2 w W2 [.string nn, .slice a1 n1 m1, .slice a2 n2 m2, .bool no, .int .i64 ga, .int .i64 gb, .int .i64 gc, .int .i64 np, .int .i64 nd, .slice a9 n9 m9, .int .i64 ua, .int .i64 ub, .int .i64 uc, .slice a13 n13 m13, .slice a14 n14 m14] [.int .i64 0, .int .i64 0, .int .i64 0]) := B2
  clear B2
  go_enter Try.func32, Try.ntmps32
  go_wp2_with fail
  rw [← hW2]
  clear hW2
  refine (Minus_calls ga gb gc ua ub uc W2).mono ?_
  rintro e w3 ⟨rfl, hb3⟩
  have C := HB2.out.on hb3
  obtain ⟨z0, f0⟩ := C.y.2 0 _ rfl
  obtain ⟨z1, f1⟩ := C.y.2 1 _ rfl
  obtain ⟨z2, f2⟩ := C.y.2 2 _ rfl
  have hb : Hid (Below w.heap.size w w3) := C.b
  clear C HB2 hb3
  go_wp2_with fail
  refine bodyPost_ret (v := .agg #[.int .i64 (subI ga ua), .int .i64 (subI gb ub), .int .i64 (subI gc uc)]) (by simp [results, Try.results32, go_sem, z0, z1, z2]) rfl ⟨rfl, ?_⟩
  exact ((hb.out.setCell (by simp) _).setCell (by simp) _).setCell (by simp) _
end Go.Proofs.Yteihniiacfghoaa
namespace Go.Proofs.Yteihniiacfghoaa
open Go.RowKit Go.Maps
set_option linter.unusedSimpArgs false
set_option maxRecDepth 100000

set_option maxHeartbeats 4000000 in
theorem Least_calls (ps is : List Value) (A A' : Where) (p : PodD) (i : InfoD) (w : World) (hp : Hid (RPod A w ps p)) (hi : Hid (RInfo A' w is i)) : Calls Try.prog 10 #[.agg ps.toArray, .agg is.toArray] w fun e w' => e = .returned (.int .i64 (leastP p i)) ∧ Below w.heap.size w w' := by
  obtain ⟨W2, hW2⟩ : ∃ W2, W2 = (w.alloc (.cells ps.toArray 33)).alloc (.cells is.toArray 41) := ⟨_, rfl⟩
  have hB : PiB w W2 ps is := by rw [hW2]; exact PiB.new w ps is _ _
  have HA : Hid (∀ z, Below W2.heap.size W2 z → AmtAt w p i z) := fun z hz => (hB.on hz).amt hp.out hi.out
  have HB : Hid (Below w.heap.size w W2) := hB.b
  have HIl : Hid (is.length = 15) := RInfo.firm.len hi.out
  have HIx : Hid (∀ z, Below W2.heap.size W2 z → z.rangeAt (w.heap.size + 1) 0 is) := fun z hz => (hB.on hz).y.range
  have HF0 : Hid (∀ z, Below W2.heap.size W2 z → Calls Try.prog 32 #[.agg is.toArray] z fun e w' => e = .returned (.agg #[.int .i64 (freeP i).1, .int .i64 (freeP i).2.1, .int .i64 (freeP i).2.2]) ∧ Below z.heap.size z w') := fun z hz => Free_calls is A' i z (RInfo.firm.kept hi.out (Kept.below (on2 HB.out hz)))
  have hfr : freeP i = (subI (iGive i).1 (iUsed i).1, subI (iGive i).2.1 (iUsed i).2.1, subI (iGive i).2.2 (iUsed i).2.2) := rfl
  rw [hfr] at HF0
  obtain ⟨⟨g1, g2, g3⟩, hg⟩ : ∃ r, r = iGive i := ⟨_, rfl⟩
  obtain ⟨⟨u1, u2, u3⟩, hu⟩ : ∃ r, r = iUsed i := ⟨_, rfl⟩
  obtain ⟨⟨x1, x2, x3⟩, hx⟩ : ∃ r, r = pWant p := ⟨_, rfl⟩
  rw [← hg, ← hu] at HF0
  dsimp only at HF0
  obtain ⟨s1, hs1⟩ : ∃ s, s = shareI (subI (subI g1 u1) x1) g1 100 := ⟨_, rfl⟩
  obtain ⟨s2, hs2⟩ : ∃ s, s = shareI (subI (subI g2 u2) x2) g2 100 := ⟨_, rfl⟩
  have HP : Hid (leastP p i = (s1 + s2) / 2) := by rw [Hid, leastP, ← hg, ← hu, ← hx, hs1, hs2]; rfl
  have h1 : 0 ≤ s1 ∧ s1 ≤ 100 := by rw [hs1]; exact ⟨share_ge _ _, share_le _ _⟩
  have h2 : 0 ≤ s2 ∧ s2 ≤ 100 := by rw [hs2]; exact ⟨share_ge _ _, share_le _ _⟩
  have HSh : Hid (∀ z : World, ∀ c : Int, Calls Try.prog 30 #[.agg #[.int .i64 (subI (subI g1 u1) x1), .int .i64 (subI (subI g2 u2) x2), .int .i64 c], .agg #[.int .i64 g1, .int .i64 g2, .int .i64 g3]] z fun e z' => e = .returned (.tuple #[.int .i64 s1, .int .i64 s2]) ∧ Below z.heap.size z z') := fun z c => by rw [hs1, hs2]; exact shares_calls _ _ _ _ _ _ z
  clear hs1 hs2
  unfold AmtAt at HA
  rw [← hg, ← hu, ← hx] at HA
  dsimp only at HA
  obtain ⟨P, hP⟩ : ∃ P, P = w.heap.size := ⟨_, rfl⟩
  obtain ⟨I, hI⟩ : ∃ I, I = w.heap.size + 1 := ⟨_, rfl⟩
  rw [← hI, ← hP] at HA
  rw [← hI] at HIx
  have hW2' : (w.alloc (.cells ps.toArray 33)).alloc (.cells is.toArray 41) = W2 := hW2.symm
  have HPI : Hid (w.heap.size = P ∧ w.heap.size + 1 = I) := ⟨hP.symm, hI.symm⟩
  clear hB hp hi hg hu hx hP hI hW2 hfr
  go_enter Try.func10, Try.ntmps10
  go_upto_region 1 with fail
  rw [HPI.out.2, HPI.out.1]
  clear hW2'
  --M1
  have hb0 : Below W2.heap.size W2 W2.drew := (Below.refl _ _).drew
  refine t0 (fun z => Below W2.heap.size W2 z) hb0 (fun hHeld => ?_)
  generalize W2.drew = wd at hHeld ⊢
  clear hb0
  try go_frame
  refine tq 0 (.agg is.toArray) (yieldsIf_load_mid (by rfl) 41 _ rfl I 0 (by go_simp) is _ (fun z hz => HIx.out z hz) Try.underlying41 rfl (by rw [HIl.out]; kernel_rfl)) ?_ (hi := rfl)
  try go_frame
  refine' tk 2 ?_ ?_; rotate_left
  · intro z hz; clear hz; go_simp; try with_reducible rfl
  try go_frame
  refine tq 3 (.agg #[.int .i64 x1, .int .i64 x2, .int .i64 x3]) (yieldsIf_load_mid (by rfl) 24 _ rfl P 3 (by go_simp) [.int .i64 x1, .int .i64 x2, .int .i64 x3] _ (fun z hz => (HA.out z hz).1) Try.underlying24 rfl (by kernel_rfl)) ?_ (hi := rfl)
  try go_frame
  refine' tk 5 ?_ ?_; rotate_left
  · intro z hz; clear hz; go_simp; try with_reducible rfl
  try go_frame
  refine' tk 6 ?_ ?_; rotate_left
  · intro z hz; clear hz; go_simp; try with_reducible rfl
  try go_frame
  refine tq 7 (.agg #[.int .i64 g1, .int .i64 g2, .int .i64 g3]) (yieldsIf_load_mid (by rfl) 24 _ rfl I 4 (by go_simp) [.int .i64 g1, .int .i64 g2, .int .i64 g3] _ (fun z hz => (HA.out z hz).2.1) Try.underlying24 rfl (by kernel_rfl)) ?_ (hi := rfl)
  try go_frame
  have hA := HF0.out wd hHeld
  refine tr 1 (fun K hK => ?_)
  go_simp
  refine hA.mono ?_
  rintro e w3 ⟨rfl, bw⟩
  clear hA
  have hb9 : Below W2.heap.size W2 w3 := on2 hHeld bw
  clear bw
  go_wp2_with fail
  refine hK.out _ _ hb9 (fun hHeld2 => ?_)
  clear hb9
  clear hK K hHeld; have hHeld := hHeld2; clear hHeld2
  try go_frame
  have hA := Minus_calls (subI g1 u1) (subI g2 u2) (subI g3 u3) x1 x2 x3 w3
  refine tr 4 (fun K hK => ?_)
  go_simp
  refine hA.mono ?_
  rintro e w4 ⟨rfl, bw⟩
  clear hA
  have hb9 : Below W2.heap.size W2 w4 := on2 hHeld bw
  clear bw
  go_wp2_with fail
  refine hK.out _ _ hb9 (fun hHeld2 => ?_)
  clear hb9
  clear hK K hHeld; have hHeld := hHeld2; clear hHeld2
  try go_frame
  have hA := HSh.out w4 (subI (subI g3 u3) x3)
  refine tr 8 (fun K hK => ?_)
  go_simp
  refine hA.mono ?_
  rintro e w5 ⟨rfl, bw⟩
  clear hA
  have hb9 : Below W2.heap.size W2 w5 := on2 hHeld bw
  clear bw
  go_wp2_with fail
  refine hK.out _ _ hb9 (fun hHeld2 => ?_)
  clear hb9
  clear hK K hHeld; have hHeld := hHeld2; clear hHeld2
  try go_frame
  refine' tk 9 ?_ ?_; rotate_left
  · intro z hz; clear hz; go_simp; try with_reducible rfl
  try go_frame
  refine' tk 10 ?_ ?_; rotate_left
  · intro z hz; clear hz; go_simp; try with_reducible rfl
  try go_frame
  refine' tk 11 ?_ ?_; rotate_left
  · intro z hz; clear hz; go_simp; try with_reducible rfl
  try go_frame
  refine' tk 12 ?_ ?_; rotate_left
  · intro z hz; clear hz; go_simp; try with_reducible rfl
  try go_frame
  refine' tk 13 ?_ ?_; rotate_left
  · intro z hz; clear hz; go_simp; try with_reducible rfl
  try go_frame
  refine tz ?_
  have HE : Hid (Below w.heap.size w w5) := on2 HB.out hHeld
  clear hHeld HB HA HIx HF0 HSh
  --M4
  go_wp2_with fail
  have HWr : IntKind.i64.wrap ((IntKind.i64.wrap (s1 + s2)).tdiv 2) = (s1 + s2) / 2 := by rw [IntWalk.i64_in (s1 + s2) (by omega), Int.tdiv_eq_ediv_of_nonneg (by omega), IntWalk.i64_in _ (by omega)]
  --M5
  rw [HP.out, ← HWr]
  go_ret
  exact ⟨rfl, HE.out⟩
set_option maxHeartbeats 4000000 in
theorem Even_calls (ps is : List Value) (A A' : Where) (p : PodD) (i : InfoD) (w : World) (hp : Hid (RPod A w ps p)) (hi : Hid (RInfo A' w is i)) : Calls Try.prog 12 #[.agg ps.toArray, .agg is.toArray] w fun e w' => e = .returned (.int .i64 (evenP p i)) ∧ Below w.heap.size w w' := by
  obtain ⟨W2, hW2⟩ : ∃ W2, W2 = (w.alloc (.cells ps.toArray 33)).alloc (.cells is.toArray 41) := ⟨_, rfl⟩
  have hB : PiB w W2 ps is := by rw [hW2]; exact PiB.new w ps is _ _
  have HA : Hid (∀ z, Below W2.heap.size W2 z → AmtAt w p i z) := fun z hz => (hB.on hz).amt hp.out hi.out
  have HB : Hid (Below w.heap.size w W2) := hB.b
  have HIl : Hid (is.length = 15) := RInfo.firm.len hi.out
  have HIx : Hid (∀ z, Below W2.heap.size W2 z → z.rangeAt (w.heap.size + 1) 0 is) := fun z hz => (hB.on hz).y.range
  have HF0 : Hid (∀ z, Below W2.heap.size W2 z → Calls Try.prog 32 #[.agg is.toArray] z fun e w' => e = .returned (.agg #[.int .i64 (freeP i).1, .int .i64 (freeP i).2.1, .int .i64 (freeP i).2.2]) ∧ Below z.heap.size z w') := fun z hz => Free_calls is A' i z (RInfo.firm.kept hi.out (Kept.below (on2 HB.out hz)))
  have hfr : freeP i = (subI (iGive i).1 (iUsed i).1, subI (iGive i).2.1 (iUsed i).2.1, subI (iGive i).2.2 (iUsed i).2.2) := rfl
  rw [hfr] at HF0
  obtain ⟨⟨g1, g2, g3⟩, hg⟩ : ∃ r, r = iGive i := ⟨_, rfl⟩
  obtain ⟨⟨u1, u2, u3⟩, hu⟩ : ∃ r, r = iUsed i := ⟨_, rfl⟩
  obtain ⟨⟨x1, x2, x3⟩, hx⟩ : ∃ r, r = pWant p := ⟨_, rfl⟩
  rw [← hg, ← hu] at HF0
  dsimp only at HF0
  obtain ⟨s1, hs1⟩ : ∃ s, s = shareI (addI u1 x1) g1 100 := ⟨_, rfl⟩
  obtain ⟨s2, hs2⟩ : ∃ s, s = shareI (addI u2 x2) g2 100 := ⟨_, rfl⟩
  have HP : Hid (evenP p i = 100 - maxZ (s1 - s2) (s2 - s1)) := by rw [Hid, evenP, ← hg, ← hu, ← hx, hs1, hs2]; rfl
  have h1 : 0 ≤ s1 ∧ s1 ≤ 100 := by rw [hs1]; exact ⟨share_ge _ _, share_le _ _⟩
  have h2 : 0 ≤ s2 ∧ s2 ≤ 100 := by rw [hs2]; exact ⟨share_ge _ _, share_le _ _⟩
  have HSh : Hid (∀ z : World, ∀ c : Int, Calls Try.prog 30 #[.agg #[.int .i64 (addI u1 x1), .int .i64 (addI u2 x2), .int .i64 c], .agg #[.int .i64 g1, .int .i64 g2, .int .i64 g3]] z fun e z' => e = .returned (.tuple #[.int .i64 s1, .int .i64 s2]) ∧ Below z.heap.size z z') := fun z c => by rw [hs1, hs2]; exact shares_calls _ _ _ _ _ _ z
  clear hs1 hs2
  unfold AmtAt at HA
  rw [← hg, ← hu, ← hx] at HA
  dsimp only at HA
  obtain ⟨P, hP⟩ : ∃ P, P = w.heap.size := ⟨_, rfl⟩
  obtain ⟨I, hI⟩ : ∃ I, I = w.heap.size + 1 := ⟨_, rfl⟩
  rw [← hI, ← hP] at HA
  rw [← hI] at HIx
  have hW2' : (w.alloc (.cells ps.toArray 33)).alloc (.cells is.toArray 41) = W2 := hW2.symm
  have HPI : Hid (w.heap.size = P ∧ w.heap.size + 1 = I) := ⟨hP.symm, hI.symm⟩
  clear hB hp hi hg hu hx hP hI hW2 hfr
  go_enter Try.func12, Try.ntmps12
  go_upto_region 1 with fail
  rw [HPI.out.2, HPI.out.1]
  clear hW2'
  --M1
  have hb0 : Below W2.heap.size W2 W2.drew := (Below.refl _ _).drew
  refine t0 (fun z => Below W2.heap.size W2 z) hb0 (fun hHeld => ?_)
  generalize W2.drew = wd at hHeld ⊢
  clear hb0
  try go_frame
  refine' tk 0 ?_ ?_; rotate_left
  · intro z hz; clear hz; go_simp; try with_reducible rfl
  try go_frame
  refine tq 1 (.agg #[.int .i64 u1, .int .i64 u2, .int .i64 u3]) (yieldsIf_load_mid (by rfl) 24 _ rfl I 10 (by go_simp) [.int .i64 u1, .int .i64 u2, .int .i64 u3] _ (fun z hz => (HA.out z hz).2.2) Try.underlying24 rfl (by kernel_rfl)) ?_ (hi := rfl)
  try go_frame
  refine' tk 2 ?_ ?_; rotate_left
  · intro z hz; clear hz; go_simp; try with_reducible rfl
  try go_frame
  refine tq 3 (.agg #[.int .i64 x1, .int .i64 x2, .int .i64 x3]) (yieldsIf_load_mid (by rfl) 24 _ rfl P 3 (by go_simp) [.int .i64 x1, .int .i64 x2, .int .i64 x3] _ (fun z hz => (HA.out z hz).1) Try.underlying24 rfl (by kernel_rfl)) ?_ (hi := rfl)
  try go_frame
  refine' tk 5 ?_ ?_; rotate_left
  · intro z hz; clear hz; go_simp; try with_reducible rfl
  try go_frame
  refine' tk 6 ?_ ?_; rotate_left
  · intro z hz; clear hz; go_simp; try with_reducible rfl
  try go_frame
  refine tq 7 (.agg #[.int .i64 g1, .int .i64 g2, .int .i64 g3]) (yieldsIf_load_mid (by rfl) 24 _ rfl I 4 (by go_simp) [.int .i64 g1, .int .i64 g2, .int .i64 g3] _ (fun z hz => (HA.out z hz).2.1) Try.underlying24 rfl (by kernel_rfl)) ?_ (hi := rfl)
  try go_frame
  have hA := Plus_calls u1 u2 u3 x1 x2 x3 wd
  refine tr 4 (fun K hK => ?_)
  go_simp
  refine hA.mono ?_
  rintro e w4 ⟨rfl, bw⟩
  clear hA
  have hb9 : Below W2.heap.size W2 w4 := on2 hHeld bw
  clear bw
  go_wp2_with fail
  refine hK.out _ _ hb9 (fun hHeld2 => ?_)
  clear hb9
  clear hK K hHeld; have hHeld := hHeld2; clear hHeld2
  try go_frame
  have hA := HSh.out w4 (addI u3 x3)
  refine tr 8 (fun K hK => ?_)
  go_simp
  refine hA.mono ?_
  rintro e w5 ⟨rfl, bw⟩
  clear hA
  have hb9 : Below W2.heap.size W2 w5 := on2 hHeld bw
  clear bw
  go_wp2_with fail
  refine hK.out _ _ hb9 (fun hHeld2 => ?_)
  clear hb9
  clear hK K hHeld; have hHeld := hHeld2; clear hHeld2
  try go_frame
  refine' tk 9 ?_ ?_; rotate_left
  · intro z hz; clear hz; go_simp; try with_reducible rfl
  try go_frame
  refine' tk 10 ?_ ?_; rotate_left
  · intro z hz; clear hz; go_simp; try with_reducible rfl
  try go_frame
  refine' tk 11 ?_ ?_; rotate_left
  · intro z hz; clear hz; go_simp; try with_reducible rfl
  try go_frame
  refine' tk 12 ?_ ?_; rotate_left
  · intro z hz; clear hz; go_simp; try with_reducible rfl
  try go_frame
  refine' tk 13 ?_ ?_; rotate_left
  · intro z hz; clear hz; go_simp; try with_reducible rfl
  try go_frame
  refine tz ?_
  have HE : Hid (Below w.heap.size w w5) := on2 HB.out hHeld
  clear hHeld HB HA HIx HF0 HSh
  --M4
  obtain ⟨a, ha⟩ : ∃ a, a = (if s1 < s2 then s2 else s1) := ⟨_, rfl⟩
  obtain ⟨b, hb⟩ : ∃ b, b = (if s1 < s2 then s1 else s2) := ⟨_, rfl⟩
  have hb2 : (if s2 < s1 then s2 else s1) = b := by rw [hb]; repeat (first | split | omega)
  have hx1 : (if s1 < s2 then s2 else s1) = a := ha.symm
  have hx2 : (if s1 < s2 then s1 else s2) = b := hb.symm
  have HMM : Hid (max s1 s2 = a ∧ min s1 s2 = b) := by rw [Hid, ha, hb]; constructor <;> (split <;> omega)
  have HV : Hid (evenP p i = 100 - (a - b)) := by rw [Hid, HP.out, ha, hb]; unfold maxZ; repeat (first | split | omega)
  have hab : 0 ≤ a - b ∧ a - b ≤ 100 := by rw [ha, hb]; repeat (first | split | omega)
  have hab1 : 0 ≤ a ∧ a ≤ 100 := by rw [ha]; repeat (first | split | omega)
  have hab2 : 0 ≤ b ∧ b ≤ 100 := by rw [hb]; repeat (first | split | omega)
  clear ha hb HP
  --M6
  go_wp2_with fail
  --M7
  rw [HV.out]
  go_ret
  first | exact ⟨rfl, HE.out⟩ | exact ⟨(by rw [HMM.out.1, HMM.out.2] <;> rfl), HE.out⟩
end Go.Proofs.Yteihniiacfghoaa
namespace Go.Proofs.Yteihniiacfghoaa
open Go.RowKit Go.Maps
set_option linter.unusedSimpArgs false
set_option maxRecDepth 100000

theorem one_shied : One 37 shyI := ⟨enters_of Try.func37 (by kernel_rfl) rfl, shied_calls⟩
theorem one_liking : One 39 likeI := ⟨enters_of Try.func39 (by kernel_rfl) rfl, liking_calls⟩
theorem one_least : One 10 leastP := ⟨enters_of Try.func10 (by kernel_rfl) rfl, Least_calls⟩
theorem one_even : One 12 evenP := ⟨enters_of Try.func12 (by kernel_rfl) rfl, Even_calls⟩
set_option maxHeartbeats 4000000 in
theorem Calm_calls (ps : List Value) (A A' : Where) (p : PodD) (a : Option Addr) (n cap : Nat) (L : List InfoD) (w : World) (hp : Hid (RPod A w ps p)) (hL : Hid (SlAt RInfo 15 208 A' w a n cap L)) : Calls Try.prog 15 #[.agg ps.toArray, .slice a n cap] w fun e w' => ∃ v, e = .returned v ∧ Row RInt 1 (fun _ => False) w w' 3 v (calmP p L) := by
  have hn : Hid (L.length = n) := hL.out.1
  have HLn : Hid (n * 208 ≤ 140737488351232) := hL.out.2.2.2.1
  have hml : n < 1000000000000000 := by have := HLn.out; omega
  have hiP : (Try.prog.info? 33).map (·.size) = some ps.length := by rw [RPod.firm.len hp.out]; exact sizePodS
  obtain ⟨W1, hW1⟩ : ∃ Z, Z = w.alloc (.cells ps.toArray 33) := ⟨_, rfl⟩
  have b1 : Below w.heap.size w W1 := by rw [hW1]; exact (Below.refl _ _).alloc (Nat.le_refl _) _
  have HB1 : Hid (Below w.heap.size w W1) := b1
  have HX : Hid (BoxL W1 w.heap.size ps) := by rw [hW1]; exact BoxL.new w 33 _
  have hL1 : Hid (SlAt RInfo 15 208 A' W1 a n cap L) := hL.out.on RInfo.firm b1
  have hp1 : Hid (RPod A W1 ps p) := RPod.firm.kept hp.out (Kept.below b1)
  have HW1 : Hid (w.alloc (.cells ps.toArray 33) = W1) := hW1.symm
  obtain ⟨P, hP⟩ : ∃ P, P = w.heap.size := ⟨_, rfl⟩
  have HP : Hid (w.heap.size = P) := hP.symm
  rw [← hP] at HX
  have HXr : Hid (∀ z, Below W1.heap.size W1 z → z.rangeAt P 0 ps) := fun z hz => (HX.out.on hz).range
  have eg : ∀ args w, (callFunc 50 args).run Try.prog w = .ok (.enter 50 args) w := enters_of Try.func50 (by kernel_rfl) rfl
  clear b1 hW1 hP hL hp
  go_enter Try.func15, Try.ntmps15
  go_upto_region 1 with fail
  rw [HW1.out, HP.out]
  clear HW1
  --M1
  have hb0 : Below W1.heap.size W1 W1.drew := (Below.refl _ _).drew
  refine t0 (fun z => Below W1.heap.size W1 z) hb0 (fun hHeld => ?_)
  generalize W1.drew = wd at hHeld ⊢
  clear hb0
  try go_frame
  refine tq 1 (.agg ps.toArray) (yieldsIf_load_mid (by rfl) 33 _ rfl P 0 (by go_simp) ps _ (fun z hz => HXr.out z hz) Try.underlying33 rfl hiP) ?_ (hi := rfl)
  try go_frame
  refine' tk 2 ?_ ?_; rotate_left
  · intro z hz; clear hz; go_simp; try with_reducible rfl
  try go_frame
  have hA := each_calls (.func (.func 37) #[] #[]) rfl wd
  refine tr 0 (fun K hK => ?_)
  go_simp
  refine hA.mono ?_
  rintro e w3 ⟨rfl, q3, b3⟩
  clear hA
  have hb9 : Below W1.heap.size W1 w3 := on2 hHeld b3
  clear b3
  go_wp2_with fail
  refine hK.out _ _ hb9 (fun hHeld2 => ?_)
  clear hb9
  clear hK K hHeld; have hHeld := hHeld2; clear hHeld2
  try go_frame
  --M2
  have hA := eachRun_calls 37 shyI one_shied wd.heap.size ps A A' p a n cap L w3 q3 (RPod.firm.kept hp1.out (Kept.below hHeld)) (hL1.out.on RInfo.firm hHeld)
  obtain ⟨gq, hgq⟩ : ∃ g, g = wd.heap.size := ⟨_, rfl⟩
  rw [← hgq] at hA q3 ⊢
  clear hgq q3
  refine tr 3 (fun K hK => ?_)
  go_simp
  --M3
  (first | refine hA.mono ?_ | (go_at_fn 50; refine hA.mono ?_))
  rintro e w5 ⟨v5, rfl, hr5⟩
  clear hA
  have hb9 : Below W1.heap.size W1 w5 := on2 hHeld hr5.below
  go_wp2_with fail
  refine hK.out _ _ hb9 (fun hHeld2 => ?_)
  clear hb9
  clear hK K hHeld; have hHeld := hHeld2; clear hHeld2
  try go_frame
  obtain ⟨M, hM⟩ : ∃ M, M = L.map (shyI p) := ⟨_, rfl⟩
  have HM : Hid (normP M true = calmP p L ∧ M.length = n) := ⟨by rw [hM]; rfl, by rw [hM, List.length_map, hn.out]⟩
  rw [← hM] at hr5
  obtain ⟨la, lc, rfl, ls⟩ := (hr5.wAG RInt.firm (A' := Fresh w3) (fun _ h => h.elim)).slF (bytes := 8) RInt.firm (by have h2 := HLn.out; have h3 := HM.out.2; omega)
  have hA := Normal_calls la M.length lc (Fresh w3) M true w5 ls
  rw [HM.out.1] at hA
  clear ls hr5 hM HM
  refine tr 4 (fun K hK => ?_)
  go_simp
  refine hA.mono ?_
  rintro e w7 ⟨v7, rfl, hr7⟩
  have HE : Hid (Row RInt 1 (fun _ => False) w w7 3 v7 (calmP p L)) := hr7.fromG (on2 HB1.out hHeld)
  have hb9 : Below W1.heap.size W1 w7 := on2 hHeld hr7.below
  clear hA hr7
  go_wp2_with fail
  refine hK.out _ _ hb9 (fun hHeld2 => ?_)
  clear hb9
  clear hK K hHeld; have hHeld := hHeld2; clear hHeld2
  try go_frame
  refine' tk 5 ?_ ?_; rotate_left
  · intro z hz; clear hz; go_simp; try with_reducible rfl
  try go_frame
  refine tz ?_
  --M4
  go_wp2_with fail
  go_ret
  exact ⟨v7, rfl, HE.out⟩
set_option maxHeartbeats 4000000 in
theorem Liked_calls (ps : List Value) (A A' : Where) (p : PodD) (a : Option Addr) (n cap : Nat) (L : List InfoD) (w : World) (hp : Hid (RPod A w ps p)) (hL : Hid (SlAt RInfo 15 208 A' w a n cap L)) : Calls Try.prog 17 #[.agg ps.toArray, .slice a n cap] w fun e w' => ∃ v, e = .returned v ∧ Row RInt 1 (fun _ => False) w w' 3 v (likedP p L) := by
  have hn : Hid (L.length = n) := hL.out.1
  have HLn : Hid (n * 208 ≤ 140737488351232) := hL.out.2.2.2.1
  have hml : n < 1000000000000000 := by have := HLn.out; omega
  have hiP : (Try.prog.info? 33).map (·.size) = some ps.length := by rw [RPod.firm.len hp.out]; exact sizePodS
  obtain ⟨W1, hW1⟩ : ∃ Z, Z = w.alloc (.cells ps.toArray 33) := ⟨_, rfl⟩
  have b1 : Below w.heap.size w W1 := by rw [hW1]; exact (Below.refl _ _).alloc (Nat.le_refl _) _
  have HB1 : Hid (Below w.heap.size w W1) := b1
  have HX : Hid (BoxL W1 w.heap.size ps) := by rw [hW1]; exact BoxL.new w 33 _
  have hL1 : Hid (SlAt RInfo 15 208 A' W1 a n cap L) := hL.out.on RInfo.firm b1
  have hp1 : Hid (RPod A W1 ps p) := RPod.firm.kept hp.out (Kept.below b1)
  have HW1 : Hid (w.alloc (.cells ps.toArray 33) = W1) := hW1.symm
  obtain ⟨P, hP⟩ : ∃ P, P = w.heap.size := ⟨_, rfl⟩
  have HP : Hid (w.heap.size = P) := hP.symm
  rw [← hP] at HX
  have HXr : Hid (∀ z, Below W1.heap.size W1 z → z.rangeAt P 0 ps) := fun z hz => (HX.out.on hz).range
  have eg : ∀ args w, (callFunc 50 args).run Try.prog w = .ok (.enter 50 args) w := enters_of Try.func50 (by kernel_rfl) rfl
  clear b1 hW1 hP hL hp
  go_enter Try.func17, Try.ntmps17
  go_upto_region 1 with fail
  rw [HW1.out, HP.out]
  clear HW1
  --M1
  have hb0 : Below W1.heap.size W1 W1.drew := (Below.refl _ _).drew
  refine t0 (fun z => Below W1.heap.size W1 z) hb0 (fun hHeld => ?_)
  generalize W1.drew = wd at hHeld ⊢
  clear hb0
  try go_frame
  refine tq 1 (.agg ps.toArray) (yieldsIf_load_mid (by rfl) 33 _ rfl P 0 (by go_simp) ps _ (fun z hz => HXr.out z hz) Try.underlying33 rfl hiP) ?_ (hi := rfl)
  try go_frame
  refine' tk 2 ?_ ?_; rotate_left
  · intro z hz; clear hz; go_simp; try with_reducible rfl
  try go_frame
  have hA := each_calls (.func (.func 39) #[] #[]) rfl wd
  refine tr 0 (fun K hK => ?_)
  go_simp
  refine hA.mono ?_
  rintro e w3 ⟨rfl, q3, b3⟩
  clear hA
  have hb9 : Below W1.heap.size W1 w3 := on2 hHeld b3
  clear b3
  go_wp2_with fail
  refine hK.out _ _ hb9 (fun hHeld2 => ?_)
  clear hb9
  clear hK K hHeld; have hHeld := hHeld2; clear hHeld2
  try go_frame
  --M2
  have hA := eachRun_calls 39 likeI one_liking wd.heap.size ps A A' p a n cap L w3 q3 (RPod.firm.kept hp1.out (Kept.below hHeld)) (hL1.out.on RInfo.firm hHeld)
  obtain ⟨gq, hgq⟩ : ∃ g, g = wd.heap.size := ⟨_, rfl⟩
  rw [← hgq] at hA q3 ⊢
  clear hgq q3
  refine tr 3 (fun K hK => ?_)
  go_simp
  --M3
  (first | refine hA.mono ?_ | (go_at_fn 50; refine hA.mono ?_))
  rintro e w5 ⟨v5, rfl, hr5⟩
  clear hA
  have hb9 : Below W1.heap.size W1 w5 := on2 hHeld hr5.below
  go_wp2_with fail
  refine hK.out _ _ hb9 (fun hHeld2 => ?_)
  clear hb9
  clear hK K hHeld; have hHeld := hHeld2; clear hHeld2
  try go_frame
  obtain ⟨M, hM⟩ : ∃ M, M = L.map (likeI p) := ⟨_, rfl⟩
  have HM : Hid (normP M false = likedP p L ∧ M.length = n) := ⟨by rw [hM]; rfl, by rw [hM, List.length_map, hn.out]⟩
  rw [← hM] at hr5
  obtain ⟨la, lc, rfl, ls⟩ := (hr5.wAG RInt.firm (A' := Fresh w3) (fun _ h => h.elim)).slF (bytes := 8) RInt.firm (by have h2 := HLn.out; have h3 := HM.out.2; omega)
  have hA := Normal_calls la M.length lc (Fresh w3) M false w5 ls
  rw [HM.out.1] at hA
  clear ls hr5 hM HM
  refine tr 4 (fun K hK => ?_)
  go_simp
  refine hA.mono ?_
  rintro e w7 ⟨v7, rfl, hr7⟩
  have HE : Hid (Row RInt 1 (fun _ => False) w w7 3 v7 (likedP p L)) := hr7.fromG (on2 HB1.out hHeld)
  have hb9 : Below W1.heap.size W1 w7 := on2 hHeld hr7.below
  clear hA hr7
  go_wp2_with fail
  refine hK.out _ _ hb9 (fun hHeld2 => ?_)
  clear hb9
  clear hK K hHeld; have hHeld := hHeld2; clear hHeld2
  try go_frame
  refine' tk 5 ?_ ?_; rotate_left
  · intro z hz; clear hz; go_simp; try with_reducible rfl
  try go_frame
  refine tz ?_
  --M4
  go_wp2_with fail
  go_ret
  exact ⟨v7, rfl, HE.out⟩
end Go.Proofs.Yteihniiacfghoaa
