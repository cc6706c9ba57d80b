/- plugins, of the laws: what it hands back may be written. Condition: what is handed in lies as is said of it. Plugins that are spoilt by who handed them in. No condition. A frame of the program beside one of the document. Condition: the program's keeps what is said of it. How many calls a run notes. No program. No condition. -/
import Derived.Test.YtoacbobchngooaaDoorQ05
import Derived.Test.YtoacbobchngooaaDoorW01
import Derived.Test.YtoacbobchngooaaDoorQ13
namespace Go.Proofs.YtoacbobchngooaaDoor
open Go.RowKit Go.Maps
set_option linter.unusedSimpArgs false
set_option maxRecDepth 100000

/-- A slice whose cells may be written. -/
def Melt (A : Where) (w : World) (a : Option Addr) (n : Nat) : Prop := 0 < n → ∃ G go, a = some ⟨G, go, none⟩ ∧ A G ∧ G < w.heap.size ∧ ∀ o, w.frozen? ⟨G, o, none⟩ = false
theorem Melt.kept {A : Where} {w w' : World} {a : Option Addr} {n : Nat} (h : Melt A w a n) (hk : Kept A w w') : Melt A w' a n := fun h0 => by
  obtain ⟨G, go, e, hA, hG, hf⟩ := h h0
  exact ⟨G, go, e, hA, Nat.lt_of_lt_of_le hG hk.1, fun o => (World.frozen?_of_block (w := w) (a := ⟨G, o, none⟩) (hk.2 G hA hG)).trans (hf o)⟩
theorem Melt.weak {A A' : Where} {w : World} {a : Option Addr} {n : Nat} (h : Melt A w a n) (hk : ∀ b, b < w.heap.size → A b → A' b) : Melt A' w a n := fun h0 => by
  obtain ⟨G, go, e, hA, hG, hf⟩ := h h0
  exact ⟨G, go, e, hk G hG hA, hG, hf⟩
/-- Whoever writes a cell melts nothing away. -/
theorem Melt.set {A : Where} {w : World} {a : Option Addr} {n : Nat} (h : Melt A w a n) (p : Addr) (v : Value) : Melt A (w.setCell p v) a n := fun h0 => by
  obtain ⟨G, go, e, hA, hG, hf⟩ := h h0
  exact ⟨G, go, e, hA, by simpa using hG, fun o => by simpa using hf o⟩
theorem Row.melt {α : Type} [Inhabited α] {R : Rep α} {k : Nat} {A : Where} {w0 u : World} {e : TypeId} {a : Option Addr} {n cap : Nat} {L : List α} (h : Row R k A w0 u e (.slice a n cap) L) : Melt (Fresh w0) u a n := fun h0 => by
  have hm := h
  obtain ⟨xs, ⟨hb, hl, ⟨e1, _⟩ | ⟨g, cap', cur, e1, hBg, hg, hcp, hcm, hsz, htk⟩⟩, hch⟩ := h
  · injection e1 with _ e2 _; omega
  · injection e1 with e2 e3 e4
    subst e2
    exact ⟨g, 0, rfl, hBg, (hm.lt (b := g) rfl).2, fun o => hm.meltsG⟩
def RSlM : Rep (List Int) := fun A w cs L => ∃ a n cap, cs = [.slice a n cap] ∧ SlAt RInt 1 8 A w a n cap L ∧ Melt A w a n
theorem RSlM.firm : Firm RSlM 1 := {
  len := (by rintro A w cs x ⟨a, n, cap, rfl, _⟩; rfl),
  one := (by rintro A w cs x ⟨a, n, cap, rfl, _⟩ u hu; simp at hu; subst hu; rfl),
  kept := (by rintro A w w' cs x ⟨a, n, cap, rfl, h, hm⟩ hk; exact ⟨a, n, cap, rfl, h.kept RInt.firm hk, hm.kept hk⟩),
  weak := (by rintro A A' w cs x ⟨a, n, cap, rfl, h, hm⟩ hk; exact ⟨a, n, cap, rfl, h.weak RInt.firm hk, hm.weak hk⟩) }
def RPlugM : Rep PlugD := RPair RStr (RPair RInt (RPair RInt (RPair RInt (RPair RInt (RPair RInt RSlM)))))
theorem RPlugM.firm : Firm RPlugM 7 := Firm.pair RStr.firm (Firm.pair RInt.firm (Firm.pair RInt.firm (Firm.pair RInt.firm (Firm.pair RInt.firm (Firm.pair RInt.firm RSlM.firm)))))
theorem RPlugM.mk {A : Where} {w : World} {x : PlugD} {a : Option Addr} {n c : Nat} (h1 : x.1.size ≤ 140737488355328) (h2 : SlAt RInt 1 8 A w a n c (plS x)) (h3 : Melt A w a n) : RPlugM A w [.string x.1, .int .i64 x.2.1, .int .i64 x.2.2.1, .int .i64 x.2.2.2.1, .int .i64 x.2.2.2.2.1, .int .i64 (plW x), .slice a n c] x :=
  ⟨[.string x.1], _, rfl, ⟨rfl, h1⟩, [.int .i64 x.2.1], _, rfl, rfl, [.int .i64 x.2.2.1], _, rfl, rfl, [.int .i64 x.2.2.2.1], _, rfl, rfl, [.int .i64 x.2.2.2.2.1], _, rfl, rfl, [.int .i64 (plW x)], _, rfl, rfl, a, n, c, rfl, h2, h3⟩
theorem RPlugM.out {A : Where} {w : World} {cs : List Value} {x : PlugD} (h : RPlugM A w cs x) : ∃ a n c, cs = [.string x.1, .int .i64 x.2.1, .int .i64 x.2.2.1, .int .i64 x.2.2.2.1, .int .i64 x.2.2.2.2.1, .int .i64 (plW x), .slice a n c] ∧ x.1.size ≤ 140737488355328 ∧ SlAt RInt 1 8 A w a n c (plS x) ∧ Melt A w a n := by
  obtain ⟨c1, d1, rfl, ⟨rfl, hs⟩, h⟩ := h
  obtain ⟨c2, d2, rfl, h2, h⟩ := h
  obtain rfl : c2 = _ := h2
  obtain ⟨c3, d3, rfl, h3, h⟩ := h
  obtain rfl : c3 = _ := h3
  obtain ⟨c4, d4, rfl, h4, h⟩ := h
  obtain rfl : c4 = _ := h4
  obtain ⟨c5, d5, rfl, h5, h⟩ := h
  obtain rfl : c5 = _ := h5
  obtain ⟨c6, d6, rfl, h6, h⟩ := h
  obtain rfl : c6 = _ := h6
  obtain ⟨a, n, c, rfl, hs7, hm⟩ := h
  exact ⟨a, n, c, rfl, hs, hs7, hm⟩
theorem RPlugM.plain {A : Where} {w : World} {cs : List Value} {x : PlugD} (h : RPlugM A w cs x) : RPlug A w cs x := by
  obtain ⟨a, n, c, rfl, h1, h2, _⟩ := h.out
  exact RPlug.mk h1 h2
theorem Row.mapR {α : Type} [Inhabited α] {R R' : Rep α} {k : Nat} (hR : ∀ {A w cs x}, R A w cs x → R' A w cs x) {A : Where} {w0 u : World} {e : TypeId} {v : Value} {L : List α} (h : Row R k A w0 u e v L) : Row R' k A w0 u e v L := by
  obtain ⟨xs, h1, h2, h3⟩ := h
  exact ⟨xs, h1, h2, fun i hi => by obtain ⟨cs, a, b⟩ := h3 i hi; exact ⟨cs, hR a, b⟩⟩
set_option maxHeartbeats 1000000 in
theorem Ints_copyM (a : Option Addr) (n cap : Nat) (A : Where) (L : List (Int)) (w : World) (hL : Hid (SlAt RInt 1 8 A w a n cap L)) : Calls Tryd.prog 25 #[.slice a n cap] w fun e w' => ∃ a' cap', e = .returned (.slice a' n cap') ∧ SlAt RInt 1 8 (Fresh w) w' a' n cap' L ∧ Melt (Fresh w) w' a' n ∧ Below w.heap.size w w' := by
  have hb0 : Below w.heap.size w (w.alloc (.cells #[] 3)) := by go_grown
  match a with
  | none =>
    obtain ⟨rfl, rfl, rfl⟩ := sl_none hL.out
    go_enter Tryd.func25, Tryd.ntmps25
    go_wp2_with fail
    go_ret
    exact ⟨_, _, rfl, SlAt.nil _ _ _ _ (fun h => by cases h), (fun h => absurd h (Nat.lt_irrefl 0)), hb0⟩
  | some ad =>
    obtain ⟨xs, hc, hcell, hone⟩ := (hL.out.on RInt.firm hb0).chunks RInt.firm
    have hn := hL.out.1
    have hbb := hL.out.2.2.2.1
    subst hn
    have HR : Hid (Row RInt 1 (Fresh w) w (w.alloc (.cells #[] 3)) 3 (.slice (some ⟨w.heap.size, 0, none⟩) 0 0) []) := Row.start _ w w _ (Below.refl _ _)
    have HC : Hid (Chunks RInt 1 (fun b => Fresh w b ∧ Value.ownBlock (.slice (some ⟨w.heap.size, 0, none⟩) 0 0) ≠ some b) (w.alloc (.cells #[] 3)) xs L) := hc.flat RInt.flat
    have HX : Hid (∀ j y, xs[j]? = some y → (w.alloc (.cells #[] 3)).cell? (ad.add j) = some y) := hcell
    have HO : Hid (∀ y ∈ xs, y.oneCell' = true) := hone
    clear hc hcell hone hL
    go_enter Tryd.func25, Tryd.ntmps25
    go_wp2_with (at_builtin; go_must (refine row_append RInt.firm (A := Fresh w) (w0 := w) rfl _ _ 23 3 rfl _ 8 infoint Tryd.underlying23 rfl (by decide) (by decide) _ [] rfl HR.out ad L.length cap xs L rfl rfl HC.out HX.out HO.out (by simp; omega) ?_); intro v1 w1 hrow1 hg1)
    go_ret
    obtain ⟨a', cap', rfl, h2⟩ := hrow1.slF (bytes := 8) RInt.firm (by simpa using hbb)
    have hme := hrow1.melt
    simp only [List.nil_append] at h2 hme ⊢
    exact ⟨a', cap', rfl, h2, hme, hrow1.below⟩

set_option maxHeartbeats 4000000 in
theorem pluginsM_calls (a : Option Addr) (n cap : Nat) (A : Where) (l : List PlugD) (w : World) (hL : Hid (SlAt RPlug 7 80 A w a n cap l)) : Calls Tryd.prog 8 #[.slice a n cap] w fun e w' => ∃ v, e = .returned v ∧ Row RPlugM 7 (Fresh w) w w' 33 v l := by
  have hn : Hid (l.length = n) := hL.out.1
  have HLn : Hid (n * 80 ≤ 140737488351232) := hL.out.2.2.2.1
  have hml : n < 1000000000000000 := by have := HLn.out; omega
  have HR0 : Hid (Row RPlugM 7 (Fresh w) w (w.alloc (.cells #[] 33)) 33 (.slice (some ⟨w.heap.size, 0, none⟩) 0 0) (l.take 0)) := Row.start _ w w _ (Below.refl _ _)
  go_enter Tryd.func8, Tryd.ntmps8
  go_wp2_with fail
  go_loopw [3, 4] (fun v i wr => ∃ k : Nat, k ≤ n ∧ i = .int .i64 k ∧ Hid (Row RPlugM 7 (Fresh w) w wr 33 v (l.take k))) (fun _ i _ => n - (intOf i).toNat)
  case atStart => exact ⟨0, Nat.zero_le _, rfl, HR0⟩
  case round =>
    clear HR0
    obtain ⟨k, hk, rfl, hrun⟩ := hrel
    by_cases hlt : k < n
    · have hltz : (k : Int) < (n : Int) := by omega
      have hkl : k < l.length := by rw [hn.out]; exact hlt
      obtain ⟨D, off, rfl, hD, _, cs, hra, hva⟩ := (hL.out.on RPlug.firm hrun.out.below).get hlt
      obtain ⟨x, hx⟩ : ∃ x, x = l.getD k default := ⟨_, rfl⟩
      rw [← hx] at hra
      obtain ⟨sa, sn, sc, rfl, hsz, hss⟩ := hra.out
      have HSn : Hid (l.take (k + 1) = l.take k ++ [x]) := by rw [Hid, take_snocF hkl, ← hx]
      obtain ⟨x1, hx1⟩ : ∃ y, y = x.1 := ⟨_, rfl⟩
      obtain ⟨x2, hx2⟩ : ∃ y, y = x.2.1 := ⟨_, rfl⟩
      obtain ⟨x3, hx3⟩ : ∃ y, y = x.2.2.1 := ⟨_, rfl⟩
      obtain ⟨x4, hx4⟩ : ∃ y, y = x.2.2.2.1 := ⟨_, rfl⟩
      obtain ⟨x5, hx5⟩ : ∃ y, y = x.2.2.2.2.1 := ⟨_, rfl⟩
      obtain ⟨x6, hx6⟩ : ∃ y, y = plW x := ⟨_, rfl⟩
      have HE7 : Hid (∀ (A : Where) (u : World) (ga : Option Addr) (gn gc : Nat), SlAt RInt 1 8 A u ga gn gc (plS x) → Melt A u ga gn → RPlugM A u [.string x1, .int .i64 x2, .int .i64 x3, .int .i64 x4, .int .i64 x5, .int .i64 x6, .slice ga gn gc] x) := fun A u ga gn gc h hm => by rw [hx1, hx2, hx3, hx4, hx5, hx6]; exact RPlugM.mk hsz h hm
      rw [← hx1, ← hx2, ← hx3, ← hx4, ← hx5, ← hx6] at hva
      have d0 := hva 0 _ rfl
      have d1 := hva 1 _ rfl
      have d2 := hva 2 _ rfl
      have d3 := hva 3 _ rfl
      have d4 := hva 4 _ rfl
      have d5 := hva 5 _ rfl
      have d6 := hva 6 _ rfl
      rw [Nat.add_zero] at d0
      obtain ⟨W3, hW3⟩ : ∃ Z, Z = wr.alloc (.cells #[.string x1, .int .i64 x2, .int .i64 x3, .int .i64 x4, .int .i64 x5, .int .i64 x6, .slice sa sn sc] 33) := ⟨_, rfl⟩
      have b3 : Below wr.heap.size wr W3 := by rw [hW3]; exact (Below.refl _ _).alloc (Nat.le_refl _) _
      have q3 : BoxL W3 wr.heap.size [.string x1, .int .i64 x2, .int .i64 x3, .int .i64 x4, .int .i64 x5, .int .i64 x6, .slice sa sn sc] := by rw [hW3]; exact BoxL.new wr 33 _
      have HW3 : Hid (wr.alloc (.cells #[.string x1, .int .i64 x2, .int .i64 x3, .int .i64 x4, .int .i64 x5, .int .i64 x6, .slice sa sn sc] 33) = W3) := hW3.symm
      have hI := Ints_copyM sa sn sc A (plS x) W3 (hss.on RInt.firm b3)
      have e6 := (q3.2 6 _ rfl).1
      have HQ3 : Hid (BoxL W3 wr.heap.size [.string x1, .int .i64 x2, .int .i64 x3, .int .i64 x4, .int .i64 x5, .int .i64 x6, .slice sa sn sc]) := q3
      have HB3 : Hid (Below wr.heap.size wr W3) := b3
      have HRun : Hid (∀ z, Below wr.heap.size wr z → Row RPlugM 7 (Fresh w) w z 33 u3 (l.take k)) := fun z hz => hrun.out.on RPlugM.firm hz
      have HOwn : Hid (∀ b, u3.ownBlock = some b → b < wr.heap.size) := fun b hb => (hrun.out.lt hb).2
      have HBw : Hid (Below w.heap.size w wr) := hrun.out.below
      have HLk : Hid ((l.take k).length ≤ k) := by rw [Hid, List.length_take]; exact Nat.min_le_left _ _
      obtain ⟨B, hB⟩ : ∃ B, B = wr.heap.size := ⟨_, rfl⟩
      have HBB : Hid (wr.heap.size = B) := hB.symm
      rw [← hB] at HQ3 e6
      clear hx hva hra hss hx1 hx2 hx3 hx4 hx5 hx6 hW3 b3 q3 hB hrun
      go_upto_region 6 with fail
      --M1
      rw [HW3.out, HBB.out]
      clear d0 d1 d2 d3 d4 d5 d6 HW3
      go_wp2_with fail
      refine hI.mono ?_
      rintro e w5 ⟨ga, gc, rfl, hg, hm, b5⟩
      obtain ⟨W6, hW6⟩ : ∃ Z, Z = w5.setCell ⟨B, 6, none⟩ (.slice ga sn gc) := ⟨_, rfl⟩
      have q5 := HQ3.out.on b5
      have f6 := (q5.2 6 _ rfl).1
      have n6 := (q5.2 6 _ rfl).2
      have q6 : BoxL W6 B [.string x1, .int .i64 x2, .int .i64 x3, .int .i64 x4, .int .i64 x5, .int .i64 x6, .slice ga sn gc] := by rw [hW6]; exact q5.set 6 (.slice ga sn gc) (by simp)
      have b6 : Below wr.heap.size wr W6 := by rw [hW6]; exact (on2 HB3.out b5).setCell (Nat.le_of_eq HBB.out) _
      have hgB : SlAt RInt 1 8 (fun b => W3.heap.size ≤ b) W6 ga sn gc (plS x) := (hg.weak RInt.firm (fun b _ h => h)).kept RInt.firm (by rw [hW6]; exact Kept.set (fun h => by have h1 := HQ3.out.1; have h2 : W3.heap.size ≤ B := h; omega) _)
      have hmB : Melt (fun b => W3.heap.size ≤ b) W6 ga sn := (hm.weak (fun b _ h => h)).kept (by rw [hW6]; exact Kept.set (fun h => by have h1 := HQ3.out.1; have h2 : W3.heap.size ≤ B := h; omega) _)
      obtain ⟨W7, hW7⟩ : ∃ Z, Z = W6.alloc (.cells #[.string x1, .int .i64 x2, .int .i64 x3, .int .i64 x4, .int .i64 x5, .int .i64 x6, .slice ga sn gc] 33) := ⟨_, rfl⟩
      have b7 : Below W6.heap.size W6 W7 := by rw [hW7]; exact (Below.refl _ _).alloc (Nat.le_refl _) _
      have q7 : BoxL W7 W6.heap.size [.string x1, .int .i64 x2, .int .i64 x3, .int .i64 x4, .int .i64 x5, .int .i64 x6, .slice ga sn gc] := by rw [hW7]; exact BoxL.new W6 33 _
      have HR7 : Hid (Row RPlugM 7 (Fresh w) w W7 33 u3 (l.take k)) := HRun.out W7 (on2 b6 b7)
      have HSr : Hid (Src RPlugM 7 (fun b => Fresh w b ∧ Value.ownBlock u3 ≠ some b) W7 (some ⟨W6.heap.size, 0, none⟩) 1 [x]) := by
        have hw : ∀ b, b < W7.heap.size → W3.heap.size ≤ b → Fresh w b ∧ Value.ownBlock u3 ≠ some b := fun b _ h3 => ⟨by have h1 := HBw.out.size; have h2 := HB3.out.size; exact Nat.le_trans h1 (Nat.le_trans h2 h3), fun e => by have h1 := HOwn.out b e; have h2 := HB3.out.size; omega⟩
        exact src_boxG RPlugM.firm q7 (HE7.out _ _ _ _ _ ((hgB.on RInt.firm b7).weak RInt.firm hw) ((hmB.kept (Kept.below b7)).weak hw))
      have HW6 : Hid (w5.setCell ⟨B, 6, none⟩ (.slice ga sn gc) = W6) := hW6.symm
      have HW7 : Hid (W6.alloc (.cells #[.string x1, .int .i64 x2, .int .i64 x3, .int .i64 x4, .int .i64 x5, .int .i64 x6, .slice ga sn gc] 33) = W7) := hW7.symm
      have HLb : Hid (((l.take k).length + [x].length) * 80 ≤ 140737488355328) := by have h1 := HLk.out; have h2 := HLn.out; rw [Hid, List.length_singleton]; omega
      have c0 := (q6.2 0 _ rfl).1
      have c1 := (q6.2 1 _ rfl).1
      have c2 := (q6.2 2 _ rfl).1
      have c3 := (q6.2 3 _ rfl).1
      have c4 := (q6.2 4 _ rfl).1
      have c5 := (q6.2 5 _ rfl).1
      have c6 := (q6.2 6 _ rfl).1
      clear hI hg hm hmB b5 q5 q6 b6 hgB b7 q7 hW6 hW7 e6 HQ3 HB3 HRun HOwn HBw HE7
      go_upto_region 7 with fail
      --M2
      rw [HW6.out]
      clear f6 n6 HW6
      go_wp2_with (at_builtin; refine wpl_atG HW7.out.symm ?_; refine row_appendP RPlugM.firm (A := Fresh w) (w0 := w) rfl _ _ 22 33 rfl _ 80 infoPlug Tryd.underlying22 rfl (by decide) (by decide) u3 (l.take k) rfl HR7.out (some ⟨W6.heap.size, 0, none⟩) 1 1 [x] rfl HSr.out HLb.out ?_; intro v8 w8 hrow8 hg8 hw8)
      --M3
      have HE : Hid (Row RPlugM 7 (Fresh w) w w8 33 v8 (l.take (k + 1))) := by rw [HSn.out]; exact hrow8
      clear hrow8 hg8 hw8 HR7 HSr HW7 HLb HSn
      go_roundw
      case rel => exact ⟨k + 1, by omega, by go_num, HE⟩
      case measure => simp [intOf]; omega
    · have hltz : ¬ (k : Int) < (n : Int) := by omega
      have HE : Hid (Row RPlugM 7 (Fresh w) w wr 33 u3 l) := by have h := hrun.out; rw [List.take_of_length_le (by rw [hn.out]; omega)] at h; exact h
      clear hrun
      go_wp2_with fail
      go_ret
      exact ⟨_, rfl, HE.out⟩
end Go.Proofs.YtoacbobchngooaaDoor
namespace Go.Proofs.YtoacbobchngooaaDoor
open Go.RowKit Go.Maps
set_option linter.unusedSimpArgs false
set_option maxRecDepth 100000

theorem cell_ne {w : World} {p q : Addr} {v : Value} (hb : p.block ≠ q.block) : (w.setCell p v).cell? q = w.cell? q := by
  apply World.cell?_setCell_other; exact fun e => hb (by rw [e])
/-- Plugins at D, as far as they are spoilt; F: where all of it lies. -/
def SpO (F : Where) (z : World) (D n : Nat) : Prop :=
  (D < z.heap.size ∧ F D ∧ ∀ o, z.frozen? ⟨D, o, none⟩ = false) ∧ ∀ i, i < n → (∃ y, z.cell? ⟨D, i * 7 + 1, none⟩ = some y) ∧ (∃ y, z.cell? ⟨D, i * 7 + 3, none⟩ = some y) ∧
    ∃ ga gn gc, z.cell? ⟨D, i * 7 + 6, none⟩ = some (.slice ga gn gc) ∧ gn < 1000000000000000 ∧ (0 < gn → ∃ G go, ga = some ⟨G, go, none⟩ ∧ F G ∧ G ≠ D ∧ G < z.heap.size ∧ (∀ o, z.frozen? ⟨G, o, none⟩ = false) ∧ ∀ k, k < gn → ∃ y, z.cell? ⟨G, go + k, none⟩ = some y)
section
variable {F : Where} {z : World} {D n : Nat}
theorem SpO.set (h : SpO F z D n) {b o : Nat} (hb : b ≠ D ∨ ∀ i, (⟨b, o, none⟩ : Addr) ≠ ⟨D, i * 7 + 6, none⟩) (v : Value) : SpO F (z.setCell ⟨b, o, none⟩ v) D n := by
  obtain ⟨⟨h1, h2, h3⟩, h4⟩ := h
  have fz : ∀ q, z.frozen? q = false → (z.setCell ⟨b, o, none⟩ v).frozen? q = false := fun q e => by rw [World.frozen?_setCell]; exact e
  have hs : (z.setCell ⟨b, o, none⟩ v).heap.size = z.heap.size := by simp
  refine ⟨⟨by rw [hs]; exact h1, h2, fun o => fz _ (h3 o)⟩, fun i hi => ?_⟩
  obtain ⟨⟨y1, e1⟩, ⟨y3, e3⟩, ga, gn, gc, e6, hb6, hg⟩ := h4 i hi
  refine ⟨cell?_setCell_some e1, cell?_setCell_some e3, ga, gn, gc, ?_, hb6, fun h0 => ?_⟩
  · rcases hb with hb | hb
    · rw [cell_ne (by exact hb)]; exact e6
    · have e : (z.setCell ⟨b, o, none⟩ v).cell? ⟨D, i * 7 + 6, none⟩ = z.cell? ⟨D, i * 7 + 6, none⟩ := by
        apply World.cell?_setCell_other; exact hb i
      rw [e]; exact e6
  · obtain ⟨G, go, rfl, q1, q2, q3, q4, q5⟩ := hg h0
    exact ⟨G, go, rfl, q1, q2, by rw [hs]; exact q3, fun o => fz _ (q4 o), fun k hk => by obtain ⟨y, e⟩ := q5 k hk; exact cell?_setCell_some e⟩
theorem SpO.kept (h : SpO F z D n) {z' : World} (hk : Kept F z z') : SpO F z' D n := by
  obtain ⟨⟨h1, h2, h3⟩, h4⟩ := h
  have fz : ∀ b o, F b → b < z.heap.size → z'.frozen? ⟨b, o, none⟩ = z.frozen? ⟨b, o, none⟩ := fun b o hA hG => World.frozen?_of_block (w := z) (a := ⟨b, o, none⟩) (hk.2 b hA hG)
  refine ⟨⟨Nat.lt_of_lt_of_le h1 hk.1, h2, fun o => (fz D o h2 h1).trans (h3 o)⟩, fun i hi => ?_⟩
  obtain ⟨⟨y1, e1⟩, ⟨y3, e3⟩, ga, gn, gc, e6, hb6, hg⟩ := h4 i hi
  refine ⟨⟨y1, (hk.cell (p := ⟨D, i * 7 + 1, none⟩) h2 h1).trans e1⟩, ⟨y3, (hk.cell (p := ⟨D, i * 7 + 3, none⟩) h2 h1).trans e3⟩, ga, gn, gc, (hk.cell (p := ⟨D, i * 7 + 6, none⟩) h2 h1).trans e6, hb6, fun h0 => ?_⟩
  obtain ⟨G, go, rfl, q1, q2, q3, q4, q5⟩ := hg h0
  exact ⟨G, go, rfl, q1, q2, Nat.lt_of_lt_of_le q3 hk.1, fun o => (fz G o q1 q3).trans (q4 o), fun k hk' => by obtain ⟨y, e⟩ := q5 k hk'; exact ⟨y, (hk.cell (p := ⟨G, go + k, none⟩) q1 q3).trans e⟩⟩
/-- What plugins handed back may be spoilt. -/
theorem SpO.of {w u : World} {v : Value} {l : List PlugD} (h : Row RPlugM 7 (Fresh w) w u 33 v l) (h0 : 0 < l.length) : ∃ D c, v = .slice (some ⟨D, 0, none⟩) l.length c ∧ SpO (fun b => w.heap.size ≤ b ∧ b < u.heap.size) u D l.length := by
  obtain ⟨D, c, _, rfl, hD, _, _⟩ := h.getG RPlugM.firm (i := 0) h0
  refine ⟨D, c, rfl, ⟨hD, ⟨(h.lt (b := D) rfl).1, hD⟩, fun o => h.meltsG⟩, fun i hi => ?_⟩
  obtain ⟨D', c', cs, e, _, hr, hc⟩ := h.getG RPlugM.firm (i := i) hi
  injection e with e1 _ _
  obtain rfl : D = D' := by simpa using congrArg (Option.map Addr.block) e1
  obtain ⟨ga, gn, gc, rfl, _, hsl, hm⟩ := hr.out
  refine ⟨⟨_, hc 1 _ rfl⟩, ⟨_, hc 3 _ rfl⟩, ga, gn, gc, hc 6 _ rfl, by have := hsl.2.2.2.1; omega, fun hg => ?_⟩
  obtain ⟨G, go, rfl, hA, hG, hf⟩ := hm hg
  refine ⟨G, go, rfl, ⟨hA.1, hG⟩, fun e => hA.2 (by rw [e]; rfl), hG, hf, fun k hk => ?_⟩
  obtain ⟨B, of, e, _, _, cs, hr2, hv⟩ := hsl.get hk
  obtain rfl : cs = _ := hr2
  have hv := hv 0 _ rfl
  rw [Nat.mul_one, Nat.add_zero] at hv
  obtain ⟨rfl, rfl⟩ : G = B ∧ go = of := by simpa using e
  exact ⟨_, hv⟩
end
end Go.Proofs.YtoacbobchngooaaDoor
namespace Go.Proofs.YtoacbobchngooaaDoor
open Go.RowKit Go.Maps
set_option linter.unusedSimpArgs false
set_option maxRecDepth 100000

/-- Where the program's frame may lie beside the document's. -/
def FY (w : World) (q : Nat) (b c : Value) (Q : Where) : Where := fun x => w.heap.size ≤ x ∧ ¬ (DF q b c x ∨ Q x)
theorem RfE.base {w w2 u : World} {p : Nat} {la : Option Addr} {n lc : Nat} {b c : Value} {Q : Where} {f : FrD} (h : RfE w2 u p la n lc b c Q f) (hb : Below w.heap.size w w2) : RfE w u p la n lc b c Q f :=
  ⟨h.box, h.sl, h.rb.fromG hb, h.rc.fromG hb, Nat.le_trans hb.size h.lo, h.nq, h.nb, h.nc, h.ne⟩
/-- Both, at f1 and f2. -/
structure FJ (V : FrameOK2) (S : Where) (w z : World) (p q : Nat) (la : Option Addr) (n lc : Nat) (b c : Value) (Q : Where) (f1 f2 : FrD) : Prop where
  pf : V.PF S (FY w q b c Q) z p f1
  sq : ∀ x, S x → Q x
  rf : RfE w z q la n lc b c Q f2
section
variable {V : FrameOK2} {S : Where} {w z : World} {p q : Nat} {la : Option Addr} {n lc : Nat} {b c : Value} {Q : Where} {f1 f2 : FrD}
theorem FJ.below (h : FJ V S w z p q la n lc b c Q f1 f2) : Below w.heap.size w z := h.rf.below
theorem FJ.on (h : FJ V S w z p q la n lc b c Q f1 f2) {z' : World} (hb : Below z.heap.size z z') : FJ V S w z' p q la n lc b c Q f1 f2 := ⟨V.kept h.pf (Kept.below hb), h.sq, h.rf.on hb⟩
theorem RfE.lt (h : RfE w z q la n lc b c Q f2) {x : Nat} (hx : DF q b c x ∨ Q x) : x < z.heap.size := by
  rcases hx with (rfl | hx | hx) | hx
  · exact h.box.1
  · exact (h.rb.lt hx).2
  · exact (h.rc.lt hx).2
  · exact (h.nq x hx).1
theorem FJ.hF (h : FJ V S w z p q la n lc b c Q f1 f2) : ∀ x, z.heap.size ≤ x → FY w q b c Q x := fun x hx => ⟨Nat.le_trans h.below.size hx, fun e => by have := h.rf.lt e; omega⟩
/-- The program's has been called. -/
theorem FJ.prog (h : FJ V S w z p q la n lc b c Q f1 f2) {z' : World} {p' : Nat} {f1' : FrD} (ht : Turns (FY w q b c Q) z z') (hp : V.PF S (FY w q b c Q) z' p' f1') : FJ V S w z' p' q la n lc b c Q f1' f2 :=
  ⟨hp, h.sq, h.rf.same (Turns.behind h.below (ht.weak (fun _ _ hx => hx.1))) (ht.kept (fun _ hx _ e => e.2 hx))⟩
/-- The document's has been called. -/
theorem FJ.doc (h : FJ V S w z p q la n lc b c Q f1 f2) {z' : World} {f2' : FrD} (ho : RfO w z q la n lc b c Q f2' z') : ∃ c', FJ V S w z' p q la n lc b c' Q f1 f2' := by
  obtain ⟨c', hr, ht, hc⟩ := ho
  refine ⟨c', ?_, h.sq, hr⟩
  have h1 : V.PF S (fun x => FY w q b c Q x ∧ x < z.heap.size) z p f1 := V.weak h.pf (fun _ hl hx => ⟨hx, hl⟩)
  have h2 := V.kept h1 (ht.kept (fun x hx _ e => by
    rcases hx with hx | hx
    · exact hx.1.2 (.inl e)
    · have h9 := h.rf.nq x (h.sq x hx)
      rcases e with e | e | e
      · exact h9.2.1 e
      · exact h9.2.2.1 e
      · exact h9.2.2.2 e))
  refine V.weak h2 (fun x _ hx => ⟨hx.1.1, fun e => ?_⟩)
  rcases e with (e | e | e) | e
  · exact hx.1.2 (.inl (.inl e))
  · exact hx.1.2 (.inl (.inr (.inl e)))
  · rcases hc with hc | hc
    · rw [hc] at e; exact hx.1.2 (.inl (.inr (.inr e)))
    · have h3 := hc x e; have h4 := hx.2; omega
  · exact hx.1.2 (.inr e)
/-- The program's has been cloned: the old one lies beside the clone. -/
def FO (w z z1 : World) (q : Nat) (b c : Value) (Q : Where) : Where := fun x => FY w q b c Q x ∧ ¬ (z.heap.size ≤ x ∧ x < z1.heap.size)
theorem FJ.old (h : FJ V S w z p q la n lc b c Q f1 f2) {z1 : World} (hb : Below z.heap.size z z1) : V.PF S (FO w z z1 q b c Q) z1 p f1 ∧ ∀ x, z1.heap.size ≤ x → FO w z z1 q b c Q x := by
  have h1 : V.PF S (FO w z z1 q b c Q) z p f1 := V.weak h.pf (fun _ hl hx => ⟨hx, fun e => by omega⟩)
  exact ⟨V.kept h1 (Kept.below hb), fun x hx => ⟨h.hF x (Nat.le_trans hb.size hx), fun e => by omega⟩⟩
/-- What was done to the old one changes nothing of the clone. -/
theorem FJ.clone (h : FJ V S w z p q la n lc b c Q f1 f2) {z1 z2 : World} {p' : Nat} {f : FrD} (hb : Below z.heap.size z z1) (hp : V.PF S (Fresh z) z1 p' f) (ht : Turns (FO w z z1 q b c Q) z1 z2) : FJ V S w z2 p' q la n lc b c Q f f2 := by
  have h1 : V.PF S (fun x => z.heap.size ≤ x ∧ x < z1.heap.size) z1 p' f := V.weak hp (fun _ hl hx => ⟨hx, hl⟩)
  have h2 := V.kept h1 (ht.kept (fun x hx _ e => hx.elim (fun hx => e.2 hx) (fun hx => e.1.2 (.inr (h.sq x hx)))))
  have h3 : FJ V S w z1 p q la n lc b c Q f1 f2 := h.on hb
  refine h3.prog (ht.weak (fun _ _ hx => hx.1)) (V.weak h2 (fun x _ hx => h.hF x hx.1))
/-- What else nobody writes. -/
theorem RfE.wide {w u : World} (h : RfE w u q la n lc b c Q f2) (hS : ∀ x, S x → x < w.heap.size) : RfE w u q la n lc b c (fun x => Q x ∨ S x) f2 :=
  ⟨h.box, h.sl.weak RPlug.firm (fun _ _ hx => .inl hx), h.rb, h.rc, h.lo, fun x hx => hx.elim (h.nq x) (fun hx => by
    have h1 := hS x hx
    have h2 := h.below.size
    have h3 := h.lo
    exact ⟨by omega, by omega, fun e => by have := (h.rb.lt e).1; omega, fun e => by have := (h.rc.lt e).1; omega⟩), h.nb, h.nc, h.ne⟩
/-- How it begins, and what is spoilt meanwhile. -/
theorem FJ.start {w1 w2 w3 z : World} {F : Where} (hw : Below w.heap.size w w1) (h12 : Below w1.heap.size w1 w2) (hp : V.PF S (fun x => w1.heap.size ≤ x ∧ ¬ S x) w2 p f1) (hS : ∀ x, S x → w1.heap.size ≤ x ∧ x < w2.heap.size) (hr : RfE w2 w3 q la n lc b c Q f2) (h23 : Below w2.heap.size w2 w3) (hQ : ∀ x, Q x → w2.heap.size ≤ x) (hF : ∀ x, F x → w.heap.size ≤ x ∧ x < w1.heap.size) (ht : Turns F w3 z) : FJ V S w z p q la n lc b c (fun x => Q x ∨ S x) f1 f2 := by
  have hr0 := (hr.wide (fun x hx => (hS x hx).2)).base (on2 hw h12)
  have hd : ∀ x, DF q b c x → w2.heap.size ≤ x := fun x hx => by
    rcases hx with rfl | hx | hx
    · exact hr.lo
    · exact (hr.rb.lt hx).1
    · exact (hr.rc.lt hx).1
  have h1 := h12.size
  have hq : ∀ x, DF q b c x ∨ (Q x ∨ S x) → w1.heap.size ≤ x := fun x hx => by
    rcases hx with hx | hx | hx
    · have := hd x hx; omega
    · have := hQ x hx; omega
    · exact (hS x hx).1
  refine ⟨?_, fun x hx => .inr hx, hr0.same (Turns.behind hr0.below (ht.weak (fun x _ hx => (hF x hx).1))) (ht.kept (fun x hx _ e => by have h2 := hq x hx; have h3 := (hF x e).2; omega))⟩
  have p1 : V.PF S (fun x => w1.heap.size ≤ x ∧ x < w2.heap.size ∧ ¬ S x) w2 p f1 := V.weak hp (fun _ hl hx => ⟨hx.1, hl, hx.2⟩)
  have p2 := V.kept (V.kept p1 (Kept.below h23)) (ht.kept (fun x hx _ e => by
    have h3 := (hF x e).2
    rcases hx with hx | hx
    · have := hx.1; omega
    · have := (hS x hx).1; omega))
  exact V.weak p2 (fun x _ hx => ⟨Nat.le_trans hw.size hx.1, fun e => by
    rcases e with e | e | e
    · have := hd x e; have := hx.2.1; omega
    · have := hQ x e; have := hx.2.1; omega
    · exact hx.2.2 e⟩)
end
end Go.Proofs.YtoacbobchngooaaDoor
namespace Go.Proofs.YtoacbobchngooaaDoor
open Go.RowKit Go.Maps
set_option linter.unusedSimpArgs false
set_option maxRecDepth 100000

theorem unres_len (L : List PlugD) (n : Nat) : (unresP L n).length ≤ L.length := by
  unfold unresP; rw [List.length_map, List.length_reverse, List.length_take]; exact Nat.min_le_right _ _
theorem runL_grow (L : List PlugD) (pt : Int) : ∀ (r : List PlugD) (i : Nat) (sk : List Bool) (cs : List ByteArray) (wt : Bool), (runL L pt r i sk cs wt).1.length = sk.length ∧ (runL L pt r i sk cs wt).2.1.length ≤ cs.length + r.length + L.length
  | [], i, sk, cs, wt => by unfold runL; exact ⟨rfl, by show cs.length ≤ _; omega⟩
  | x :: r, i, sk, cs, wt => by
    unfold runL
    split
    · have h := runL_grow L pt r (i + 1) sk cs wt
      exact ⟨h.1, by have h2 := h.2; rw [List.length_cons]; omega⟩
    · split
      · have h := runL_grow L pt r (i + 1) (if codeAt x pt = 4 ∧ pt = 1 then sk.set i true else sk) (cs ++ [callS x.1 pt]) wt
        refine ⟨h.1.trans ?_, by have h2 := h.2; rw [List.length_append, List.length_singleton] at h2; rw [List.length_cons]; omega⟩
        split
        · rw [List.length_set]
        · rfl
      · split
        · have h := runL_grow L pt r (i + 1) sk (cs ++ [callS x.1 pt]) true
          exact ⟨h.1, by have h2 := h.2; rw [List.length_append, List.length_singleton] at h2; rw [List.length_cons]; omega⟩
        · refine ⟨rfl, ?_⟩
          show (cs ++ [callS x.1 pt] ++ (if pt = 3 then unresP L (i + 1) else [])).length ≤ _
          rw [List.length_append, List.length_append, List.length_singleton, List.length_cons]
          split
          · have := unres_len L (i + 1); omega
          · rw [List.length_nil]; omega
theorem runP_grow (f : FrD) (pt : Int) : (runP f pt).1.1 = f.1 ∧ (runP f pt).1.2.1.length = f.2.1.length ∧ (runP f pt).1.2.2.length ≤ f.2.2.length + 2 * f.1.length := by
  unfold runP
  split
  · exact ⟨rfl, rfl, Nat.le_add_right _ _⟩
  · split
    · exact ⟨rfl, rfl, by show (f.2.2 ++ unresP f.1 f.1.length).length ≤ _; rw [List.length_append]; have := unres_len f.1 f.1.length; omega⟩
    · have h := runL_grow f.1 pt f.1 0 f.2.1 f.2.2 false
      exact ⟨rfl, h.1, by have h2 := h.2; show (runL f.1 pt f.1 0 f.2.1 f.2.2 false).2.1.length ≤ _; omega⟩
/-- Both frames behind k points. -/
def PlS (V : FrameOK2) (S : Where) (w : World) (q : Nat) (la : Option Addr) (n lc : Nat) (b : Value) (Q : Where) (l : List PlugD) (k : Nat) (z : World) (p : Nat) : Prop :=
  ∃ c f, FJ V S w z p q la n lc b c Q f f ∧ f.1 = l ∧ f.2.1.length = n ∧ f.2.2.length ≤ 200 * k
end Go.Proofs.YtoacbobchngooaaDoor
