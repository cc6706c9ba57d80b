/- The program's New. Condition: what is handed in lies as is said of it. The program's Calls. Condition: the frame lies as is said of it, and the calls are not too many. -/
import Derived.Test.YtoacbobchngooaaDoorQ10
import Derived.Test.YtoacbobchngooaaDoorQ13
namespace Go.Proofs.YtoacbobchngooaaDoor
open Go.RowKit Go.Maps
set_option linter.unusedSimpArgs false
set_option maxRecDepth 100000

/-- The frame while it is made. -/
structure NgE (S : Where) (w z : World) (p : Nat) (b : Value) (L : List PlugD) : Prop where
  box : BoxL z p [.bool true, b, .slice none 0 0]
  rb : Row RPl8 8 S w z 59 b (L.map fun x => (x, false))
  lo : w.heap.size ≤ p
  sp : ∀ x, S x → w.heap.size ≤ x ∧ x < z.heap.size ∧ x ≠ p ∧ b.ownBlock ≠ some x
  nb : b.ownBlock ≠ some p
section
variable {S : Where} {w z : World} {p : Nat} {b : Value} {L : List PlugD}
theorem NgE.on (h : NgE S w z p b L) {z' : World} (hb : Below z.heap.size z z') : NgE S w z' p b L :=
  ⟨h.box.on hb, h.rb.on RPl8.firm hb, h.lo, fun x hx => ⟨(h.sp x hx).1, Nat.lt_of_lt_of_le (h.sp x hx).2.1 hb.size, (h.sp x hx).2.2⟩, h.nb⟩
/-- Another block is written. -/
theorem NgE.side (h : NgE S w z p b L) {B j : Nat} (v : Value) (hw : w.heap.size ≤ B) (hp : B ≠ p) (hb : b.ownBlock ≠ some B) (hq : ¬ S B) : NgE S w (z.setCell ⟨B, j, none⟩ v) p b L := by
  have bw : w.heap.size ≤ (⟨B, j, none⟩ : Addr).block := hw
  have hs : (z.setCell ⟨B, j, none⟩ v).heap.size = z.heap.size := by simp
  have k2 : ∀ {A : Where}, ¬ A B → Kept A z (z.setCell ⟨B, j, none⟩ v) := fun {A} hn => Kept.set (p := ⟨B, j, none⟩) hn _
  exact ⟨h.box.kept (A := fun x => x = p) (k2 hp) rfl, h.rb.keptXG RPl8.firm (h.rb.below.setCell (p := ⟨B, j, none⟩) bw _) (k2 (fun e => e.elim hq hb)), h.lo, fun x hx => ⟨(h.sp x hx).1, by rw [hs]; exact (h.sp x hx).2.1, (h.sp x hx).2.2⟩, h.nb⟩
theorem NgE.more (h : NgE S w z p b L) {S' : Where} (hS : ∀ x, S x → S' x) (hq : ∀ x, S' x → w.heap.size ≤ x ∧ x < z.heap.size ∧ x ≠ p ∧ b.ownBlock ≠ some x) : NgE S' w z p b L := ⟨h.box, h.rb.wAG RPl8.firm hS, h.lo, hq, h.nb⟩
/-- One more plugin, stored. -/
theorem NgE.plug (h : NgE S w z p b L) {z' : World} {v' : Value} {l' : List PlugD} (hg : z.grownBy z' b.ownBlock) (hr : Row RPl8 8 S w z' 59 v' (l'.map fun x => (x, false))) (hw : v'.ownBlock = b.ownBlock ∨ v'.ownBlock = some z.heap.size) : NgE S w (z'.setCell ⟨p, 1, none⟩ v') p v' l' := by
  have hp : p < z.heap.size := h.box.1
  have hk : Kept (fun x => b.ownBlock ≠ some x) z z' := Kept.grown hg (fun k e hk => hk e)
  have bp : w.heap.size ≤ (⟨p, 1, none⟩ : Addr).block := h.lo
  have hvp : v'.ownBlock ≠ some p := fun e => by
    rcases hw with e2 | e2
    · rw [e2] at e; exact h.nb e
    · rw [e2] at e; have := Option.some.inj e; omega
  have hs : (z'.setCell ⟨p, 1, none⟩ v').heap.size = z'.heap.size := by simp
  have k2 : ∀ {A : Where}, ¬ A p → Kept A z' (z'.setCell ⟨p, 1, none⟩ v') := fun {A} hn => Kept.set (p := ⟨p, 1, none⟩) hn _
  refine ⟨(h.box.kept hk h.nb).set 1 v' (by simp), hr.keptXG RPl8.firm (hr.below.setCell (p := ⟨p, 1, none⟩) bp _) (k2 (fun e => e.elim (fun q => (h.sp p q).2.2.1 rfl) hvp)), h.lo, fun x hx => ?_, hvp⟩
  have h0 := h.sp x hx
  refine ⟨h0.1, by rw [hs]; exact Nat.lt_of_lt_of_le h0.2.1 hk.1, h0.2.2.1, fun e => ?_⟩
  rcases hw with e2 | e2
  · rw [e2] at e; exact h0.2.2.2 e
  · rw [e2] at e; have := Option.some.inj e; omega
theorem NgE.done (h : NgE S w z p b L) (hv : newB L = true) : PfE S w z p b (.slice none 0 0) [] (newP L) := by
  have e : L.zip (L.map fun _ => false) = L.map fun x => (x, false) := by
    apply List.ext_getElem (by simp)
    intro i h1 h2
    simp only [List.getElem_zip, List.getElem_map]
  refine ⟨h.box, ?_, (Row.nil _ w _).on RCall.firm h.rb.below, h.lo, fun x hx => ⟨(h.sp x hx).2.1, (h.sp x hx).2.2.1, (h.sp x hx).2.2.2, fun e => by cases e⟩, h.nb, (fun e => by cases e), fun x _ e => (by cases e), ?_, hv, rfl, fun x hx => (by cases hx)⟩
  · show Row RPl8 8 S w z 59 b (L.zip (L.map fun _ => false)); rw [e]; exact h.rb
  · show (L.map fun _ => false).length = L.length; rw [List.length_map]
end
theorem mk8 {A : Where} {u : World} {x : PlugD} {x1 : ByteArray} {x2 x3 x4 x5 x6 : Int} {ga : Option Addr} {sn gc : Nat} (e1 : x1 = x.1) (e2 : x2 = x.2.1) (e3 : x3 = x.2.2.1) (e4 : x4 = x.2.2.2.1) (e5 : x5 = x.2.2.2.2.1) (e6 : x6 = plW x) (hs : x.1.size ≤ 140737488355328) (h : SlAt RInt 1 8 A u ga sn gc (plS x)) : RPl8 A u [.string x1, .int .i64 x2, .int .i64 x3, .int .i64 x4, .int .i64 x5, .int .i64 x6, .slice ga sn gc, .bool false] (x, false) := by
  subst e1; subst e2; subst e3; subst e4; subst e5; subst e6; exact RPl8.mk hs h
theorem sl_none17 {α : Type} [Inhabited α] {R : Rep α} {k bytes : Nat} {A : Where} {w : World} {n cap : Nat} {L : List α} (h : SlAt R k bytes A w none n cap L) : cap = 0 := h.2.2.1 rfl
set_option maxHeartbeats 8000000 in
theorem new_calls17 (d : Option Addr) (n cap : Nat) (A : Where) (l : List PlugD) (w : World) (hL : Hid (SlAt RPlug 7 80 A w d n cap l)) : Calls Tryd.prog 9 #[.slice d n cap] w fun e w' => Below w.heap.size w w' ∧ ((newB l = true ∧ ∃ p, e = .returned (.tuple #[.pointer (some ⟨p, 0, none⟩), .int .i64 0]) ∧ ∃ b S, NgE S w w' p b l) ∨ (newB l = false ∧ e = .returned (.tuple #[.pointer none, .int .i64 170]))) := by
  have hn : Hid (l.length = n) := hL.out.1
  have hml : n < 1000000000000000 := by have := hL.out.2.2.2.1; omega
  have hM := isRight_calls d n cap A l w hL
  rcases (Bool.eq_false_or_eq_true (newB l)).symm with hv | hv
  · rw [hv] at hM
    have HV : Hid (newB l = false) := hv
    clear hv
    go_enter Tryd.func9, Tryd.ntmps9
    go_wp2_with fail
    refine hM.mono ?_
    rintro e w1 ⟨rfl, b1⟩
    have HB1 : Hid (Below w.heap.size w w1) := b1
    clear hM b1
    go_wp2_with fail
    go_ret2
    exact ⟨HB1.out, .inr ⟨HV.out, rfl⟩⟩
  rw [hv] at hM
  have h64 : n ≤ 64 := by have := new64 hv; rw [hn.out] at this; exact this
  have HV : Hid (newB l = true) := hv
  clear hv
  go_enter Tryd.func9, Tryd.ntmps9
  go_wp2_with fail
  refine hM.mono ?_
  rintro e w1 ⟨rfl, b1⟩
  have HB1 : Hid (Below w.heap.size w w1) := b1
  obtain ⟨W2, hW2⟩ : ∃ Z, Z = w1.alloc (.cells #[.bool true, .slice none 0 0, .slice none 0 0] 55) := ⟨_, rfl⟩
  have b2 : Below w1.heap.size w1 W2 := by rw [hW2]; exact (Below.refl _ _).alloc (Nat.le_refl _) _
  have q2 : BoxL W2 w1.heap.size [.bool true, .slice none 0 0, .slice none 0 0] := by rw [hW2]; exact BoxL.new w1 _ _
  have HW2 : Hid (w1.alloc (.cells #[.bool true, .slice none 0 0, .slice none 0 0] 55) = W2) := hW2.symm
  obtain ⟨p, hp⟩ : ∃ p, p = w1.heap.size := ⟨_, rfl⟩
  have HP : Hid (w1.heap.size = p) := hp.symm
  rw [← hp] at q2
  have H0 : Hid (∃ b S, NgE S w W2 p b (l.take 0)) := ⟨.slice none 0 0, fun _ => False, q2, (Row.nil _ w _).on RPl8.firm (on2 b1 b2), by rw [hp]; exact b1.size, fun x h => h.elim, fun e => by cases e⟩
  clear hM b1 hW2 b2 q2 hp
  go_upto_region 4 with fail
  rw [HW2.out, HP.out]
  clear HW2 HP
  go_wp2_with fail
  --M1
  go_loopw [14] (fun i z => ∃ k : Nat, k ≤ n ∧ i = .int .i64 k ∧ Hid (∃ b S, NgE S w z p b (l.take k))) (fun i _ => n - (intOf i).toNat)
  case atStart => exact ⟨0, Nat.zero_le _, rfl, H0⟩
  case round =>
    clear H0
    obtain ⟨k, hk, rfl, hrun⟩ := hrel
    by_cases hlt : k < n
    case neg =>
      have hltz : ¬ (k : Int) < (n : Int) := by omega
      have HE : Hid (∃ b S, NgE S w wr p b l) := by
        have h := hrun.out
        rw [List.take_of_length_le (by rw [hn.out]; omega)] at h
        exact h
      clear hrun
      go_wp2_with fail
      go_ret2
      obtain ⟨b, S, h⟩ := HE.out
      exact ⟨h.rb.below, .inl ⟨HV.out, p, rfl, b, S, h⟩⟩
    have hltz : (k : Int) < (n : Int) := by omega
    have hkl : k < l.length := by rw [hn.out]; exact hlt
    obtain ⟨b, S, hN⟩ := hrun.out
    have hbw := hN.rb.below
    obtain ⟨ba, bn, bc, rfl⟩ := hN.rb.headG
    obtain ⟨D, off, rfl, hD, hAD, cs, hra, hva⟩ := hL.out.get hlt
    obtain ⟨x, hx⟩ : ∃ x, x = l.getD k default := ⟨_, rfl⟩
    rw [← hx] at hra
    obtain ⟨sa, sn, sc, rfl, hsz, hss⟩ := hra.out
    have HSn : Hid ((l.take (k + 1)).map (fun x => (x, false)) = (l.take k).map (fun x => (x, false)) ++ [(x, false)]) := by rw [Hid, take_snocF hkl, ← hx, List.map_append]; rfl
    have HSl : Hid ((plS x).length = sn) := hss.1
    have hsnb : sn * 8 ≤ 140737488351232 := hss.2.2.2.1
    obtain ⟨x1, hx1⟩ : ∃ y, y = x.1 := ⟨_, rfl⟩
    obtain ⟨x2, hx2⟩ : ∃ y, y = x.2.1 := ⟨_, rfl⟩
    obtain ⟨x3, hx3⟩ : ∃ y, y = x.2.2.1 := ⟨_, rfl⟩
    obtain ⟨x4, hx4⟩ : ∃ y, y = x.2.2.2.1 := ⟨_, rfl⟩
    obtain ⟨x5, hx5⟩ : ∃ y, y = x.2.2.2.2.1 := ⟨_, rfl⟩
    obtain ⟨x6, hx6⟩ : ∃ y, y = plW x := ⟨_, rfl⟩
    have HE7 : Hid (∀ (A : Where) (u : World) (ga : Option Addr) (gc : Nat), SlAt RInt 1 8 A u ga sn gc (plS x) → RPl8 A u [.string x1, .int .i64 x2, .int .i64 x3, .int .i64 x4, .int .i64 x5, .int .i64 x6, .slice ga sn gc, .bool false] (x, false)) := fun A u ga gc h => mk8 hx1 hx2 hx3 hx4 hx5 hx6 hsz h
    rw [← hx1, ← hx2, ← hx3, ← hx4, ← hx5, ← hx6] at hva
    have d0 := (hbw.cell (p := ⟨D, off + k * 7 + 0, none⟩) hD).trans (hva 0 _ rfl)
    have d1 := (hbw.cell (p := ⟨D, off + k * 7 + 1, none⟩) hD).trans (hva 1 _ rfl)
    have d2 := (hbw.cell (p := ⟨D, off + k * 7 + 2, none⟩) hD).trans (hva 2 _ rfl)
    have d3 := (hbw.cell (p := ⟨D, off + k * 7 + 3, none⟩) hD).trans (hva 3 _ rfl)
    have d4 := (hbw.cell (p := ⟨D, off + k * 7 + 4, none⟩) hD).trans (hva 4 _ rfl)
    have d5 := (hbw.cell (p := ⟨D, off + k * 7 + 5, none⟩) hD).trans (hva 5 _ rfl)
    have d6 := (hbw.cell (p := ⟨D, off + k * 7 + 6, none⟩) hD).trans (hva 6 _ rfl)
    rw [Nat.add_zero] at d0
    obtain ⟨W3, hW3⟩ : ∃ Z, Z = wr.alloc (.cells #[.string x1, .int .i64 x2, .int .i64 x3, .int .i64 x4, .int .i64 x5, .int .i64 x6, .slice sa sn sc] 33) := ⟨_, rfl⟩
    have b3 : Below wr.heap.size wr W3 := by rw [hW3]; exact (Below.refl _ _).alloc (Nat.le_refl _) _
    have q3 : BoxL W3 wr.heap.size [.string x1, .int .i64 x2, .int .i64 x3, .int .i64 x4, .int .i64 x5, .int .i64 x6, .slice sa sn sc] := by rw [hW3]; exact BoxL.new wr 33 _
    have HW3 : Hid (wr.alloc (.cells #[.string x1, .int .i64 x2, .int .i64 x3, .int .i64 x4, .int .i64 x5, .int .i64 x6, .slice sa sn sc] 33) = W3) := hW3.symm
    obtain ⟨B, hB⟩ : ∃ B, B = wr.heap.size := ⟨_, rfl⟩
    have HBB : Hid (wr.heap.size = B) := hB.symm
    rw [← hB] at q3
    have e6 := (q3.2 6 _ rfl).1
    have HN3 : Hid (NgE S w W3 p (.slice ba bn bc) (l.take k)) := hN.on b3
    have HQ3 : Hid (BoxL W3 B [.string x1, .int .i64 x2, .int .i64 x3, .int .i64 x4, .int .i64 x5, .int .i64 x6, .slice sa sn sc]) := q3
    have HBo : Hid (w.heap.size ≤ B ∧ B ≠ p ∧ (Value.slice ba bn bc).ownBlock ≠ some B ∧ ¬ S B) := ⟨by have := hbw.size; omega, fun e => by have := hN.box.1; omega, fun e => by have := (hN.rb.lt e).2; omega, fun e => by have := (hN.sp B e).2.1; omega⟩
    have hCl := CloneInt17 sa sn sc (fun _ => False) (plS x) W3 (((hss.on RInt.firm (on2 hbw b3)).src RInt.firm).flat RInt.flat) (fun _ h => h.elim) (fun e => by subst e; exact (sl_none17 hss)) (by rw [HSl.out]; omega)
    have HkL : Hid ((l.take k).length ≤ 64) := by rw [Hid, List.length_take]; omega
    clear hrun hN hbw hra hss hva hx hx1 hx2 hx3 hx4 hx5 hx6 hB hW3 b3 q3 hsz hAD
    go_upto_region 7 with fail
    rw [HW3.out, HBB.out]
    clear d0 d1 d2 d3 d4 d5 d6 HW3
    go_wp2_with fail
    refine hCl.mono ?_
    rintro e w6 ⟨v6, rfl, hr6⟩
    clear hCl e6
    obtain ⟨ga, gc, rfl, hg6⟩ := hr6.slO RInt.firm (bytes := 8) (by rw [HSl.out]; exact hsnb)
    rw [HSl.out] at hg6 hr6 ⊢
    have HSr : Hid (∀ y, (Value.slice ga sn gc).ownBlock = some y → W3.heap.size ≤ y ∧ y < w6.heap.size) := fun y e => hr6.lt e
    have b6 := hr6.below
    have q6 := HQ3.out.on b6
    have f6 := (q6.2 6 _ rfl).1
    have n6 := (q6.2 6 _ rfl).2
    obtain ⟨W7, hW7⟩ : ∃ Y, Y = w6.setCell ⟨B, 6, none⟩ (.slice ga sn gc) := ⟨_, rfl⟩
    have q7 : BoxL W7 B [.string x1, .int .i64 x2, .int .i64 x3, .int .i64 x4, .int .i64 x5, .int .i64 x6, .slice ga sn gc] := by rw [hW7]; exact q6.set 6 (.slice ga sn gc) (by simp)
    have s7 : W7.heap.size = w6.heap.size := by rw [hW7]; simp
    have N7 : NgE (fun y => S y ∨ (Value.slice ga sn gc).ownBlock = some y) w W7 p (.slice ba bn bc) (l.take k) := by
      have h := (HN3.out.on b6).side (j := 6) (.slice ga sn gc) HBo.out.1 HBo.out.2.1 HBo.out.2.2.1 HBo.out.2.2.2
      rw [← hW7] at h
      refine h.more (fun y hy => .inl hy) (fun y hy => ?_)
      rcases hy with hy | hy
      · exact h.sp y hy
      · have h1 := HN3.out.rb.below.size
        have h2 := HN3.out.box.1
        have h3 := HSr.out y hy
        exact ⟨by omega, by omega, by omega, fun e => by have h4 := (HN3.out.rb.lt e).2; omega⟩
    have hgB : SlAt RInt 1 8 (fun y => (S y ∨ (Value.slice ga sn gc).ownBlock = some y) ∧ (Value.slice ba bn bc).ownBlock ≠ some y) W7 ga sn gc (plS x) := by
      have hg0 : SlAt RInt 1 8 (fun y => (S y ∨ (Value.slice ga sn gc).ownBlock = some y) ∧ (Value.slice ba bn bc).ownBlock ≠ some y ∧ y ≠ B) w6 ga sn gc (plS x) := hg6.weak RInt.firm (fun y hb h => by
        rcases h with h | h
        · exact h.elim
        · have h3 := HSr.out y h
          refine ⟨.inr h, fun e => by have h4 := (HN3.out.rb.lt e).2; omega, fun e => ?_⟩
          have h5 := HQ3.out.1; omega)
      have h8 := hg0.kept RInt.firm (w' := W7) (by rw [hW7]; exact Kept.set (p := ⟨B, 6, none⟩) (fun h => h.2.2 rfl) _)
      exact h8.weak RInt.firm (fun y _ h => ⟨h.1, h.2.1⟩)
    have HN7 : Hid (NgE (fun y => S y ∨ (Value.slice ga sn gc).ownBlock = some y) w W7 p (.slice ba bn bc) (l.take k)) := N7
    have HgB : Hid (SlAt RInt 1 8 (fun y => (S y ∨ (Value.slice ga sn gc).ownBlock = some y) ∧ (Value.slice ba bn bc).ownBlock ≠ some y) W7 ga sn gc (plS x)) := hgB
    have HC : Hid (∀ z, Kept (fun y => y = p ∨ y = B) W7 z → z.cell? ⟨p, 1, none⟩ = some (.slice ba bn bc) ∧ z.cell? ⟨B, 0, none⟩ = some (.string x1) ∧ z.cell? ⟨B, 1, none⟩ = some (.int .i64 x2) ∧ z.cell? ⟨B, 2, none⟩ = some (.int .i64 x3) ∧ z.cell? ⟨B, 3, none⟩ = some (.int .i64 x4) ∧ z.cell? ⟨B, 4, none⟩ = some (.int .i64 x5) ∧ z.cell? ⟨B, 5, none⟩ = some (.int .i64 x6) ∧ z.cell? ⟨B, 6, none⟩ = some (.slice ga sn gc)) := fun z hz => by
      have hp := N7.box.kept hz (.inl rfl)
      have hb := q7.kept hz (.inr rfl)
      exact ⟨(hp.2 1 _ rfl).1, (hb.2 0 _ rfl).1, (hb.2 1 _ rfl).1, (hb.2 2 _ rfl).1, (hb.2 3 _ rfl).1, (hb.2 4 _ rfl).1, (hb.2 5 _ rfl).1, (hb.2 6 _ rfl).1⟩
    have HNp : Hid (∀ y, (Value.slice ba bn bc).ownBlock = some y → ¬ (y = p ∨ y = B)) := fun y e hk => by
      rcases hk with rfl | rfl
      · exact N7.nb e
      · exact HBo.out.2.2.1 e
    have HW7 : Hid (w6.setCell ⟨B, 6, none⟩ (.slice ga sn gc) = W7) := hW7.symm
    clear hW7 q7 q6 N7 hgB hg6 b6 s7 hr6 HQ3 HN3 HBo HSr
    go_upto_region 8 with fail
    --M2
    rw [HW7.out]
    clear f6 n6 HW7
    have hb0 : Below W7.heap.size W7 W7.drew := (Below.refl _ _).drew
    refine u0 11 (fun z => Kept (fun y => y = p ∨ y = B) W7 z) (Kept.below hb0) (fun hHeld => ?_)
    have Hd0 : Hid (Below W7.heap.size W7 W7.drew) := hb0
    generalize hwd : W7.drew = wd at hHeld Hd0 ⊢
    clear hwd hb0
    try go_frame
    refine' uk 0 ?_ ?_; rotate_left
    · intro z hz; obtain ⟨f0, f1, f2, f3, f4, f5, f6, f7⟩ := HC.out z hz; clear hz; go_simp; try with_reducible rfl
    try go_frame
    refine' uk 1 ?_ ?_; rotate_left
    · intro z hz; obtain ⟨f0, f1, f2, f3, f4, f5, f6, f7⟩ := HC.out z hz; clear hz; go_simp; try with_reducible rfl
    try go_frame
    refine' uk 2 ?_ ?_; rotate_left
    · intro z hz; obtain ⟨f0, f1, f2, f3, f4, f5, f6, f7⟩ := HC.out z hz; clear hz; go_simp; try with_reducible rfl
    try go_frame
    refine' uk 3 ?_ ?_; rotate_left
    · intro z hz; obtain ⟨f0, f1, f2, f3, f4, f5, f6, f7⟩ := HC.out z hz; clear hz; go_simp; try with_reducible rfl
    try go_frame
    refine' uk 4 ?_ ?_; rotate_left
    · intro z hz; obtain ⟨f0, f1, f2, f3, f4, f5, f6, f7⟩ := HC.out z hz; clear hz; go_simp; try with_reducible rfl
    try go_frame
    refine' uk 5 ?_ ?_; rotate_left
    · intro z hz; obtain ⟨f0, f1, f2, f3, f4, f5, f6, f7⟩ := HC.out z hz; clear hz; go_simp; try with_reducible rfl
    try go_frame
    refine' uk 6 ?_ ?_; rotate_left
    · intro z hz; obtain ⟨f0, f1, f2, f3, f4, f5, f6, f7⟩ := HC.out z hz; clear hz; go_simp; try with_reducible rfl
    try go_frame
    --M3
    refine ur 7 (fun K hK => ?_)
    go_simp
    obtain ⟨W8, hW8⟩ : ∃ Y, Y = wd.alloc (.cells #[.string x1, .int .i64 x2, .int .i64 x3, .int .i64 x4, .int .i64 x5, .int .i64 x6, .slice ga sn gc, .bool false] 59) := ⟨_, rfl⟩
    have b8 : Below wd.heap.size wd W8 := by rw [hW8]; exact (Below.refl _ _).alloc (Nat.le_refl _) _
    have q8 : BoxL W8 wd.heap.size [.string x1, .int .i64 x2, .int .i64 x3, .int .i64 x4, .int .i64 x5, .int .i64 x6, .slice ga sn gc, .bool false] := by rw [hW8]; exact BoxL.new wd 59 _
    rw [← hW8]
    clear hW8
    have HN8 : Hid (NgE (fun y => S y ∨ (Value.slice ga sn gc).ownBlock = some y) w W8 p (.slice ba bn bc) (l.take k)) := HN7.out.on (on2 Hd0.out b8)
    have HSr8 : Hid (Src RPl8 8 (fun y => (fun y => S y ∨ (Value.slice ga sn gc).ownBlock = some y) y ∧ (Value.slice ba bn bc).ownBlock ≠ some y) W8 (some ⟨wd.heap.size, 0, none⟩) 1 [(x, false)]) := src_boxG RPl8.firm q8 (HE7.out _ _ _ _ (HgB.out.on RInt.firm (on2 Hd0.out b8)))
    have HLb8 : Hid ((((l.take k).map fun x => (x, false)).length + [(x, false)].length) * 88 ≤ 140737488355328) := by have h1 := HkL.out; rw [Hid, List.length_singleton, List.length_map]; omega
    refine hK.out _ _ (hHeld.trans (Kept.below b8)) (fun hHeld2 => ?_)
    clear hK K hHeld; have hHeld := hHeld2; clear hHeld2
    clear b8 q8 Hd0
    try go_frame
    --M4
    refine ur 8 (fun K hK => ?_)
    refine want_yesF (by rfl) (row_appendP_wp RPl8.firm (A := (fun y => S y ∨ (Value.slice ga sn gc).ownBlock = some y)) (w0 := w) _ _ 52 59 rfl _ 88 infoPl8 Tryd.underlying52 rfl (by decide) (by decide) (.slice ba bn bc) ((l.take k).map fun x => (x, false)) rfl HN8.out.rb (some ⟨wd.heap.size, 0, none⟩) 1 1 [(x, false)] rfl HSr8.out HLb8.out ?_)
    intro v9 w9 hrow9 hg9 hw9
    obtain ⟨v9a, v9n, v9c, rfl⟩ := hrow9.headG
    refine hK.out _ _ (hHeld.trans (Kept.grown hg9 (fun y e hk => HNp.out y e hk))) (fun hHeld2 => ?_)
    clear hK K hHeld; have hHeld := hHeld2; clear hHeld2
    try go_frame
    refine' uk 9 ?_ ?_; rotate_left
    · intro z hz; clear hz; go_simp; try with_reducible rfl
    try go_frame
    refine' uk 10 ?_ ?_; rotate_left
    · intro z hz; clear hz; go_simp; try with_reducible rfl
    try go_frame
    --M5
    refine uz 11 (fun K hK => ?_)
    rw [← HSn.out] at hrow9
    have hN := HN8.out.plug hg9 hrow9 hw9
    have hbx := HN8.out.box.kept (A := fun y => (Value.slice ba bn bc).ownBlock ≠ some y) (Kept.grown hg9 (fun y e hk => hk e)) HN8.out.nb
    have g0 := (hbx.2 1 _ rfl).1
    have g1 := (hbx.2 1 _ rfl).2
    go_simp
    obtain ⟨W10, hW10⟩ : ∃ Y, Y = w9.setCell ⟨p, 1, none⟩ (.slice v9a v9n v9c) := ⟨_, rfl⟩
    rw [← hW10]
    rw [← hW10] at hN
    refine hK.out _ (NoPanic.normal ?_)
    have HE : Hid (∃ b S, NgE S w W10 p b (l.take (k + 1))) := ⟨_, _, hN⟩
    clear hK K hHeld hN g0 g1 hW10 hrow9 hg9 hw9 hbx HN8 HSr8 HLb8 HC HNp HN7 HgB HE7
    --M6
    go_wp2_with fail
    go_roundw
    case rel => exact ⟨k + 1, by omega, by go_num, HE⟩
    case measure => simp [intOf]; omega
end Go.Proofs.YtoacbobchngooaaDoor
namespace Go.Proofs.YtoacbobchngooaaDoor
open Go.RowKit Go.Maps
set_option linter.unusedSimpArgs false
set_option maxRecDepth 100000

set_option maxHeartbeats 8000000 in
theorem calls_calls {S : Where} {w u : World} {p : Nat} {b c : Value} {C : List (Int × Int)} {f : FrD} (h : PfE S w u p b c C f) (hC : f.2.2.length ≤ 1000000) :
    Calls Tryd.prog 16 #[.pointer (some ⟨p, 0, none⟩)] u fun e w' => ∃ v, e = .returned v ∧ Row RTxt 1 (fun _ => False) u w' 9 v f.2.2 := by
  have hM := made_calls h
  have h64 := h.h64
  have hlc : C.length = f.2.2.length := by rw [h.hC, List.length_map]
  obtain ⟨m, hm⟩ : ∃ m, m = C.length := ⟨_, rfl⟩
  have HM : Hid (C.length = m) := hm.symm
  have hmb : m ≤ 1000000 := by omega
  obtain ⟨ca, cc, rfl, hcg⟩ := h.rc.formF
  rw [← hm] at h hcg
  have HCG : Hid (0 < m → ∃ g, ca = some ⟨g, 0, none⟩) := hcg
  have d2 := h.cells.1.2.2
  have Hh : Hid (PfE S w u p b (.slice ca m cc) C f) := h
  have HR0 : Hid (Row RTxt 1 (fun _ => False) u u 9 (.slice none 0 0) ((C.take 0).map (textC f.1))) := Row.nil _ _ _
  clear h hcg hlc hm
  go_enter Tryd.func16, Tryd.ntmps16
  go_wp2_with fail
  refine hM.mono ?_
  rintro e w1 ⟨rfl, rfl⟩
  clear hM
  go_wp2_with fail
  --M1
  go_loopw [3, 14] (fun v i z => ∃ k : Nat, k ≤ m ∧ i = .int .i64 k ∧ Hid (Row RTxt 1 (fun _ => False) w1 z 9 v ((C.take k).map (textC f.1)))) (fun _ i _ => m - (intOf i).toNat)
  case atStart => exact ⟨0, Nat.zero_le _, rfl, HR0⟩
  case round =>
    clear HR0 d2
    obtain ⟨k, hk, rfl, hrun⟩ := hrel
    by_cases hlt : k < m
    case neg =>
      have hltz : ¬ (k : Int) < (m : Int) := by omega
      have HE : Hid (Row RTxt 1 (fun _ => False) w1 wr 9 u3 f.2.2) := by
        have h := hrun.out
        rw [List.take_of_length_le (by rw [HM.out]; omega), ← Hh.out.hC] at h
        exact h
      clear hrun
      go_wp2_with fail
      go_ret
      exact ⟨_, rfl, HE.out⟩
    have hltz : (k : Int) < (m : Int) := by omega
    have hkC : k < C.length := by rw [HM.out]; exact hlt
    have hz := Hh.out.on hrun.out.below
    obtain ⟨gc, rfl⟩ := HCG.out (by omega)
    obtain ⟨gc', kc, cs0, hce, hgc, hrc, hcc⟩ := hz.rc.getG RCall.firm hkC
    simp only [Value.slice.injEq, Option.some.injEq, Addr.mk.injEq, and_true, true_and] at hce
    obtain ⟨rfl, -, rfl⟩ := hce
    obtain rfl := hrc.out
    have hin := hz.hI (C.getD k default) (by rw [List.getD_eq_getElem?_getD, List.getElem?_eq_getElem hkC]; exact List.getElem_mem hkC)
    have HSn : Hid ((C.take (k + 1)).map (textC f.1) = (C.take k).map (textC f.1) ++ [textC f.1 (C.getD k default)]) := by rw [Hid, take_snocF hkC, List.map_append]; rfl
    obtain ⟨y, hy⟩ : ∃ y, y = C.getD k default := ⟨_, rfl⟩
    rw [← hy] at hcc hin HSn
    obtain ⟨j, hj⟩ : ∃ j : Nat, y.1 = (j : Int) := ⟨y.1.toNat, by omega⟩
    obtain ⟨pt, hpt⟩ : ∃ q, q = y.2 := ⟨_, rfl⟩
    have hTy : textC f.1 y = callS (f.1.getD j default).1 pt := by unfold textC; rw [hj, hpt]; rfl
    have c0 := hcc 0 _ rfl
    have c1 := hcc 1 _ rfl
    rw [hj] at c0 hin
    rw [← hpt] at c1 hin
    rw [Nat.add_zero] at c0
    rw [hTy] at HSn
    have hjn : j < f.1.length := by omega
    have hp5 : 1 ≤ pt ∧ pt ≤ 5 := hin.2.2
    obtain ⟨W3, hW3⟩ : ∃ Z, Z = wr.alloc (.cells #[.int .i64 (j : Int), .int .i64 pt] 64) := ⟨_, rfl⟩
    have b3 : Below wr.heap.size wr W3 := by rw [hW3]; exact (Below.refl _ _).alloc (Nat.le_refl _) _
    have q3 : BoxL W3 wr.heap.size [.int .i64 (j : Int), .int .i64 pt] := by rw [hW3]; exact BoxL.new wr 64 _
    have HW3 : Hid (wr.alloc (.cells #[.int .i64 (j : Int), .int .i64 pt] 64) = W3) := hW3.symm
    have hz3 := hz.on b3
    obtain ⟨gb, bk, sa, sn, sc, rfl, hgb, hv, hsz, hss⟩ := hz3.plug hjn
    obtain ⟨x, hx⟩ : ∃ x, x = f.1.getD j default := ⟨_, rfl⟩
    obtain ⟨xs, hxs⟩ : ∃ x, x = f.2.1.getD j default := ⟨_, rfl⟩
    rw [← hx] at hv hsz hss HSn
    rw [← hxs] at hv
    obtain ⟨n, hn⟩ : ∃ n, n = f.1.length := ⟨_, rfl⟩
    rw [← hn] at h64 hjn hz3
    have hjz : (j : Int) < (n : Int) := by omega
    have hj0 : (0 : Int) ≤ (j : Int) := by omega
    have HNo : Hid (∀ z, Below W3.heap.size W3 z → Calls Tryd.prog 37 #[.agg #[.string x.1, .int .i64 x.2.1, .int .i64 x.2.2.1, .int .i64 x.2.2.2.1, .int .i64 x.2.2.2.2.1, .int .i64 (plW x), .slice sa sn sc, .bool xs], .int .i64 pt] z fun e w' => e = .returned (.string (callS x.1 pt)) ∧ Below z.heap.size z w') := fun z hzz => noted_calls S _ (x, xs) hp5 z (RPl8.mk hsz (hss.on RInt.firm hzz))
    have hys : (callS x.1 pt).size ≤ 281474976710656 := by rw [call_size x.1 hp5]; omega
    obtain ⟨x1, hx1⟩ : ∃ y, y = x.1 := ⟨_, rfl⟩
    obtain ⟨x2, hx2⟩ : ∃ y, y = x.2.1 := ⟨_, rfl⟩
    obtain ⟨x3, hx3⟩ : ∃ y, y = x.2.2.1 := ⟨_, rfl⟩
    obtain ⟨x4, hx4⟩ : ∃ y, y = x.2.2.2.1 := ⟨_, rfl⟩
    obtain ⟨x5, hx5⟩ : ∃ y, y = x.2.2.2.2.1 := ⟨_, rfl⟩
    obtain ⟨x6, hx6⟩ : ∃ y, y = plW x := ⟨_, rfl⟩
    rw [← hx1] at HSn HNo hv hys
    rw [← hx2, ← hx3, ← hx4, ← hx5, ← hx6] at HNo hv
    obtain ⟨B, hB⟩ : ∃ B, B = wr.heap.size := ⟨_, rfl⟩
    have HBB : Hid (wr.heap.size = B) := hB.symm
    rw [← hB] at q3
    have HPl : Hid (p < W3.heap.size ∧ gb < W3.heap.size) := ⟨hz3.box.1, hgb⟩
    have hpu : p < w1.heap.size := Hh.out.box.1
    have hgu : gb < w1.heap.size := by
      have e := Hh.out.rb.lt (b := gb) (by rfl)
      exact e.2
    have HOw : Hid (∀ x, u3.ownBlock = some x → ¬ (x = p ∨ x = gb ∨ x = B)) := fun x e hk => by
      have h1 := hrun.out.lt e
      rcases hk with hk | hk | hk <;> omega
    have HC : Hid (∀ z, Kept (fun y => y = p ∨ y = gb ∨ y = B) W3 z → z.cell? ⟨p, 1, none⟩ = some (.slice (some ⟨gb, 0, none⟩) n bk) ∧ z.cell? ⟨B, 0, none⟩ = some (.int .i64 (j : Int)) ∧ z.cell? ⟨B, 1, none⟩ = some (.int .i64 pt) ∧ z.cell? ⟨gb, j * 8, none⟩ = some (.string x1) ∧ z.cell? ⟨gb, j * 8 + 1, none⟩ = some (.int .i64 x2) ∧ z.cell? ⟨gb, j * 8 + 2, none⟩ = some (.int .i64 x3) ∧ z.cell? ⟨gb, j * 8 + 3, none⟩ = some (.int .i64 x4) ∧ z.cell? ⟨gb, j * 8 + 4, none⟩ = some (.int .i64 x5) ∧ z.cell? ⟨gb, j * 8 + 5, none⟩ = some (.int .i64 x6) ∧ z.cell? ⟨gb, j * 8 + 6, none⟩ = some (.slice sa sn sc) ∧ z.cell? ⟨gb, j * 8 + 7, none⟩ = some (.bool xs)) := fun z hzk => by
      have hb := q3.kept (A := fun y => y = p ∨ y = gb ∨ y = B) hzk (.inr (.inr rfl))
      have hg : ∀ i v, [.string x1, .int .i64 x2, .int .i64 x3, .int .i64 x4, .int .i64 x5, .int .i64 x6, .slice sa sn sc, .bool xs][i]? = some v → z.cell? ⟨gb, j * 8 + i, none⟩ = some v := fun i v hi => (hzk.cell (p := ⟨gb, j * 8 + i, none⟩) (.inr (.inl rfl)) hgb).trans (hv i v hi)
      exact ⟨(hzk.cell (p := ⟨p, 1, none⟩) (.inl rfl) HPl.out.1).trans hz3.cells.1.2.1, (hb.2 0 _ rfl).1, (hb.2 1 _ rfl).1, hg 0 _ rfl, hg 1 _ rfl, hg 2 _ rfl, hg 3 _ rfl, hg 4 _ rfl, hg 5 _ rfl, hg 6 _ rfl, hg 7 _ rfl⟩
    have HRw : Hid (∀ z, Below W3.heap.size W3 z → Row RTxt 1 (fun _ => False) w1 z 9 u3 ((C.take k).map (textC f.1))) := fun z hzz => hrun.out.on RTxt.firm (on2 b3 hzz)
    have HLn : Hid (((C.take k).map (textC f.1)).length ≤ 1000000) := by rw [Hid, List.length_map, List.length_take]; omega
    clear hrun hz hz3 hv hss hsz hcc hx hxs hx1 hx2 hx3 hx4 hx5 hx6 hB hW3 b3 q3 hTy hy hpt hj hin hn hgb hrc hpu hgu hgc
    go_upto_region 7 with fail
    rw [HW3.out, HBB.out]
    clear HW3 c0 c1
    --M2
    have hb0 : Below W3.heap.size W3 W3.drew := (Below.refl _ _).drew
    refine t0 (fun z => Kept (fun y => y = p ∨ y = gb ∨ y = B) W3 z) (Kept.below hb0) (fun hHeld => ?_)
    have Hd : Hid (Below W3.heap.size W3 W3.drew) := hb0
    generalize hwd : W3.drew = wd at hHeld Hd ⊢
    clear hwd hb0
    try go_frame
    refine' tk 0 ?_ ?_; rotate_left
    · intro z hz; obtain ⟨f0, f1, f2, e0, e1, e2, e3, e4, e5, e6, e7⟩ := HC.out z hz; clear hz; go_simp; try with_reducible rfl
    try go_frame
    refine' tk 1 ?_ ?_; rotate_left
    · intro z hz; obtain ⟨f0, f1, f2, e0, e1, e2, e3, e4, e5, e6, e7⟩ := HC.out z hz; clear hz; go_simp; try with_reducible rfl
    try go_frame
    refine' tk 2 ?_ ?_; rotate_left
    · intro z hz; obtain ⟨f0, f1, f2, e0, e1, e2, e3, e4, e5, e6, e7⟩ := HC.out z hz; clear hz; go_simp; try with_reducible rfl
    try go_frame
    refine' tk 3 ?_ ?_; rotate_left
    · intro z hz; obtain ⟨f0, f1, f2, e0, e1, e2, e3, e4, e5, e6, e7⟩ := HC.out z hz; clear hz; go_simp; try with_reducible rfl
    try go_frame
    refine' tk 4 ?_ ?_; rotate_left
    · intro z hz; obtain ⟨f0, f1, f2, e0, e1, e2, e3, e4, e5, e6, e7⟩ := HC.out z hz; clear hz; go_simp; try with_reducible rfl
    try go_frame
    refine' tk 5 ?_ ?_; rotate_left
    · intro z hz; obtain ⟨f0, f1, f2, e0, e1, e2, e3, e4, e5, e6, e7⟩ := HC.out z hz; clear hz; go_simp; try with_reducible rfl
    try go_frame
    refine' tk 6 ?_ ?_; rotate_left
    · intro z hz; obtain ⟨f0, f1, f2, e0, e1, e2, e3, e4, e5, e6, e7⟩ := HC.out z hz; clear hz; go_simp; try with_reducible rfl
    try go_frame
    refine' tk 7 ?_ ?_; rotate_left
    · intro z hz; obtain ⟨f0, f1, f2, e0, e1, e2, e3, e4, e5, e6, e7⟩ := HC.out z hz; clear hz; go_simp; try with_reducible rfl
    try go_frame
    refine' tk 8 ?_ ?_; rotate_left
    · intro z hz; obtain ⟨f0, f1, f2, e0, e1, e2, e3, e4, e5, e6, e7⟩ := HC.out z hz; clear hz; go_simp; try with_reducible rfl
    try go_frame
    refine' tk 9 ?_ ?_; rotate_left
    · intro z hz; obtain ⟨f0, f1, f2, e0, e1, e2, e3, e4, e5, e6, e7⟩ := HC.out z hz; clear hz; go_simp; try with_reducible rfl
    try go_frame
    refine' tk 10 ?_ ?_; rotate_left
    · intro z hz; obtain ⟨f0, f1, f2, e0, e1, e2, e3, e4, e5, e6, e7⟩ := HC.out z hz; clear hz; go_simp; try with_reducible rfl
    try go_frame
    --M3
    have hA := HNo.out wd Hd.out
    obtain ⟨yy, hyy⟩ : ∃ y, y = callS x1 pt := ⟨_, rfl⟩
    rw [← hyy] at hA HSn hys
    clear hyy
    refine tr 11 (fun K hK => ?_)
    go_simp
    refine hA.mono ?_
    rintro e w5 ⟨rfl, b5⟩
    have Hd5 : Hid (Below W3.heap.size W3 w5) := on2 Hd.out b5
    go_wp2_with fail
    refine hK.out _ _ (Kept.below Hd5.out) (fun hHeld2 => ?_)
    clear hK K hHeld b5 Hd hA; have hHeld := hHeld2; clear hHeld2
    try go_frame
    refine tr 12 (fun K hK => ?_)
    go_simp
    obtain ⟨W6, hW6⟩ : ∃ Z, Z = w5.alloc (.cells #[.string yy] 9) := ⟨_, rfl⟩
    have b6 : Below w5.heap.size w5 W6 := by rw [hW6]; exact (Below.refl _ _).alloc (Nat.le_refl _) _
    have q6 : BoxL W6 w5.heap.size [.string yy] := by rw [hW6]; exact BoxL.new w5 9 _
    rw [← hW6]
    clear hW6
    refine hK.out _ _ (hHeld.trans (Kept.below b6)) (fun hHeld2 => ?_)
    clear hK K hHeld; have hHeld := hHeld2; clear hHeld2
    try go_frame
    --M4
    refine tr 13 (fun K hK => ?_)
    refine want_yesF (by rfl) (row_appendP_wp RTxt.firm (A := fun _ => False) (w0 := w1) _ _ 37 9 rfl _ 16 infoStrF Tryd.underlying37 rfl (by decide) (by decide) u3 ((C.take k).map (textC f.1)) rfl (HRw.out W6 (on2 Hd5.out b6)) (some ⟨w5.heap.size, 0, none⟩) 1 1 [yy] rfl (src_boxG RTxt.firm q6 ⟨rfl, hys⟩) (by rw [List.length_singleton]; have := HLn.out; omega) ?_)
    intro v7 w7 hrow7 hg7 hw7
    refine hK.out _ _ (hHeld.trans (Kept.grown hg7 (fun x e hk => HOw.out x e hk))) (fun hHeld2 => ?_)
    clear hK K hHeld; have hHeld := hHeld2; clear hHeld2
    try go_frame
    refine' tk 14 ?_ ?_; rotate_left
    · intro z hz; obtain ⟨f0, f1, f2, e0, e1, e2, e3, e4, e5, e6, e7⟩ := HC.out z hz; clear hz; go_simp; try with_reducible rfl
    try go_frame
    refine tz ?_
    clear hHeld
    --M5
    have HE : Hid (Row RTxt 1 (fun _ => False) w1 w7 9 v7 ((C.take (k + 1)).map (textC f.1))) := by rw [HSn.out]; exact hrow7
    clear hrow7 hg7 hw7 HRw HNo HOw HC
    go_wp2_with fail
    go_roundw
    case rel => exact ⟨k + 1, by omega, by go_num, HE⟩
    case measure => simp [intOf]; omega
end Go.Proofs.YtoacbobchngooaaDoor
