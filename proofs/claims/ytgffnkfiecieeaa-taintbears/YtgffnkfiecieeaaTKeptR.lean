/- The document's own borne, Kept and Shy return what the plain functions say, and change nothing that was there. Condition: the slices hold what is said of them. -/
import Derived.Test.YtgffnkfiecieeaaTBearsR
import Derived.Test.YtgffnkfiecieeaaTKept
namespace Go.Proofs.Ytgffnkfiecieeaa
open Go.RowKit
set_option linter.unusedSimpArgs false

/-- What is borne lies in the row's place, the taint in its box; nothing that was there has turned. -/
def RbS (wB : World) (D E off k : Nat) (b : Bear) (t : Tnt) (u : World) : Prop :=
  Below wB.heap.size wB u ∧ u.cell? ⟨D, off + k * 4, none⟩ = some (.string b.1) ∧ u.cell? ⟨D, off + k * 4 + 1, none⟩ = some (.string b.2.1) ∧ u.cell? ⟨D, off + k * 4 + 2, none⟩ = some (.bool b.2.2.1) ∧ u.cell? ⟨D, off + k * 4 + 3, none⟩ = some (.int .i64 b.2.2.2) ∧
    u.cell? ⟨E, 0, none⟩ = some (.string t.1) ∧ u.cell? ⟨E, 1, none⟩ = some (.string t.2.1) ∧ u.cell? ⟨E, 2, none⟩ = some (.int .i64 t.2.2)
theorem RbS.to {wB u' : World} {D E off k : Nat} {b : Bear} {t : Tnt} (h : RbS wB D E off k b t wB) (hD : D < wB.heap.size) (hE : E < wB.heap.size) (hb : Below wB.heap.size wB u') : RbS wB D E off k b t u' := by
  obtain ⟨_, h1, h2, h3, h4, h5, h6, h7⟩ := h
  exact ⟨hb, (hb.cell hD).trans h1, (hb.cell hD).trans h2, (hb.cell hD).trans h3, (hb.cell hD).trans h4, (hb.cell hE).trans h5, (hb.cell hE).trans h6, (hb.cell hE).trans h7⟩

set_option maxHeartbeats 2000000 in
theorem rborne_calls (t : Tnt) (b : Option Addr) (capb : Nat) (B : List Bear) (w : World) (hB : Hid (BearsAt w b B)) : Calls Try.prog 30 #[.slice b B.length capb, .agg #[.string t.1, .string t.2.1, .int .i64 t.2.2]] w fun e w' => e = .returned (.bool (borneB B t)) ∧ Below w.heap.size w w' := by
  have hlen := hB.out.1
  have hb0 : Below w.heap.size w (w.alloc (.cells #[.string t.1, .string t.2.1, .int .i64 t.2.2] 32)) := by go_grown
  have hD := BoxT.new w 32 t
  have hB' : Hid (BearsAt (w.alloc (.cells #[.string t.1, .string t.2.1, .int .i64 t.2.2] 32)) b B) := hB.out.on hb0
  clear hB
  go_enter Try.func30, Try.ntmps30
  go_wp2_with fail
  generalize hwB : (w.alloc (.cells #[.string t.1, .string t.2.1, .int .i64 t.2.2] 32)) = w0 at hb0 hD hB'
  clear hwB
  generalize w.heap.size = E at hD
  go_loopw [5] (fun i wr => ∃ k : Nat, k ≤ B.length ∧ i = .int .i64 k ∧ Below w0.heap.size w0 wr ∧ Hid (∀ j, j < k → bearsB (B.getD j default) t = false)) (fun i _ => B.length - (intOf i).toNat)
  case atStart => exact ⟨0, Nat.zero_le _, rfl, Below.refl _ _, fun j hj => absurd hj (Nat.not_lt_zero _)⟩
  case round =>
    obtain ⟨k, hk, rfl, hbel, hall⟩ := hrel
    by_cases hlt : k < B.length
    · obtain ⟨D, off, rfl, hDl, c0, c1, c2, c3, ho⟩ := BearsAt.get hB'.out hlt
      clear ho
      have HB := rBears_calls (B.getD k default).1 (B.getD k default).2.1 (B.getD k default).2.2.1 (B.getD k default).2.2.2 t.1 t.2.1 t.2.2
      change ∀ w, Calls Try.prog 20 _ w fun e w' => e = .returned (.bool (bearsB (B.getD k default) t)) ∧ Below w.heap.size w w' at HB
      obtain ⟨wB, hwB⟩ : ∃ wB, wB = wr := ⟨_, rfl⟩
      have hDw : D < wB.heap.size := by rw [hwB]; exact Nat.lt_of_lt_of_le hDl hbel.size
      obtain ⟨hEl, ⟨e0, e1, e2⟩, _⟩ := hD.on hbel
      rw [← hwB] at hEl
      have HS : Hid (∀ {u : World}, Below wB.heap.size wB u → RbS wB D E off k (B.getD k default) t u) := fun hb => by
        refine RbS.to ?_ hDw hEl hb
        rw [hwB]
        exact ⟨Below.refl _ _, (hbel.cell hDl).trans c0, (hbel.cell hDl).trans c1, (hbel.cell hDl).trans c2, (hbel.cell hDl).trans c3, e0, e1, e2⟩
      clear c0 c1 c2 c3 e0 e1 e2
      have HG : Hid (bearsB (B.getD k default) t = false → ∀ j, j < k + 1 → bearsB (B.getD j default) t = false) := fun h j hj => by
        rcases Nat.lt_succ_iff_lt_or_eq.1 hj with h' | rfl
        · exact hall.out j h'
        · exact h
      have HF : Hid (bearsB (B.getD k default) t = true → borneB B t = true) := fun h => any_yes (p := fun b => bearsB b t) hlt h
      clear hall
      subst hwB
      generalize B.getD k default = bx at HB HS HG HF
      obtain ⟨kx, hkx⟩ : ∃ kx, kx = k := ⟨_, rfl⟩
      rw [← hkx] at HS
      cases hq : bearsB bx t
      · have HG' : Hid (∀ j, j < k + 1 → bearsB (B.getD j default) t = false) := HG.out hq
        rw [hq] at HB
        clear HG HF hq
        subst hkx
        go_wp2_with fail
        refine wp_region_noPanic ?_
        refine wp_region_held_drew (S := RbS wB D E off kx bx t) (by kernel_rfl) (HS.out (Below.refl _ _).drew) (fun hHeld => ?_)
        refine wpAnyH_take (i := 0) (v := ?va0) rfl (by kernel_rfl) (by kernel_rfl) (by kernel_rfl) (fun _ _ _ h => h) (Or.inl ⟨by rfl, ?hya0⟩) (by assumption) ?resta0
        case hya0 => (intro u hu; obtain ⟨_, _, _, _, _, _, _, _⟩ := hu; go_simp; try with_reducible rfl)
        try simp only [Act.put, List.setIfInBounds_toArray, List.set_cons_zero, List.set_cons_succ, List.getElem_toArray, List.getElem_cons_zero, List.getElem_cons_succ]
        refine wpAnyH_take (i := 1) (v := ?va1) rfl (by kernel_rfl) (by kernel_rfl) (by kernel_rfl) (fun _ _ _ h => h) (Or.inl ⟨by rfl, ?hya1⟩) (by assumption) ?resta1
        case hya1 => (intro u hu; obtain ⟨_, _, _, _, _, _, _, _⟩ := hu; go_simp; try with_reducible rfl)
        try simp only [Act.put, List.setIfInBounds_toArray, List.set_cons_zero, List.set_cons_succ, List.getElem_toArray, List.getElem_cons_zero, List.getElem_cons_succ]
        refine wpAnyH_take (i := 2) (v := ?va2) rfl (by kernel_rfl) (by kernel_rfl) (by kernel_rfl) (fun _ _ _ h => h) (Or.inl ⟨by rfl, ?hya2⟩) (by assumption) ?resta2
        case hya2 => (intro u hu; obtain ⟨_, _, _, _, _, _, _, _⟩ := hu; go_simp; try with_reducible rfl)
        try simp only [Act.put, List.setIfInBounds_toArray, List.set_cons_zero, List.set_cons_succ, List.getElem_toArray, List.getElem_cons_zero, List.getElem_cons_succ]
        refine wpAnyH_take (i := 3) (v := ?va3) rfl (by kernel_rfl) (by kernel_rfl) (by kernel_rfl) (fun _ _ _ h => h) (Or.inl ⟨by rfl, ?hya3⟩) (by assumption) ?resta3
        case hya3 => (intro u hu; obtain ⟨_, _, _, _, _, _, _, _⟩ := hu; go_simp; try with_reducible rfl)
        try simp only [Act.put, List.setIfInBounds_toArray, List.set_cons_zero, List.set_cons_succ, List.getElem_toArray, List.getElem_cons_zero, List.getElem_cons_succ]
        refine wpAnyH_take (i := 4) (v := ?va4) rfl (by kernel_rfl) (by kernel_rfl) (by kernel_rfl) (fun _ _ _ h => h) (Or.inl ⟨by rfl, ?hya4⟩) (by assumption) ?resta4
        case hya4 => (intro u hu; obtain ⟨_, _, _, _, _, _, _, _⟩ := hu; go_simp; try with_reducible rfl)
        try simp only [Act.put, List.setIfInBounds_toArray, List.set_cons_zero, List.set_cons_succ, List.getElem_toArray, List.getElem_cons_zero, List.getElem_cons_succ]
        refine wpAnyH_ready (rs := [5]) (by kernel_rfl) (by simp) ?_
        refine AllReadyH.cons rfl (fun K hK => ?_) AllReadyH.nil
        go_simp
        refine (HB _).mono ?_
        rintro e w1 ⟨rfl, hb1⟩
        go_wp2_with fail
        refine hK.out _ _ (HS.out (on2 hHeld.1 hb1)) (fun hHeld2 => ?_)
        clear hK K hHeld
        have hHeld := hHeld2
        clear hHeld2
        try simp only [Act.put, List.setIfInBounds_toArray, List.set_cons_zero, List.set_cons_succ, List.getElem_toArray, List.getElem_cons_zero, List.getElem_cons_succ]
        refine wpAnyH_done (by kernel_rfl) ?_ _
        refine NoPanic.normal ?_
        go_wp2_with fail
        go_roundw
        case rel => exact ⟨kx + 1, by omega, by go_num, on2 hbel hHeld.1, HG'⟩
        case measure => simp [intOf]; omega
      · have HF' : Hid (borneB B t = true) := HF.out hq
        rw [hq] at HB
        clear HG HF hq
        subst hkx
        go_wp2_with fail
        refine wp_region_noPanic ?_
        refine wp_region_held_drew (S := RbS wB D E off kx bx t) (by kernel_rfl) (HS.out (Below.refl _ _).drew) (fun hHeld => ?_)
        refine wpAnyH_take (i := 0) (v := ?vb0) rfl (by kernel_rfl) (by kernel_rfl) (by kernel_rfl) (fun _ _ _ h => h) (Or.inl ⟨by rfl, ?hyb0⟩) (by assumption) ?restb0
        case hyb0 => (intro u hu; obtain ⟨_, _, _, _, _, _, _, _⟩ := hu; go_simp; try with_reducible rfl)
        try simp only [Act.put, List.setIfInBounds_toArray, List.set_cons_zero, List.set_cons_succ, List.getElem_toArray, List.getElem_cons_zero, List.getElem_cons_succ]
        refine wpAnyH_take (i := 1) (v := ?vb1) rfl (by kernel_rfl) (by kernel_rfl) (by kernel_rfl) (fun _ _ _ h => h) (Or.inl ⟨by rfl, ?hyb1⟩) (by assumption) ?restb1
        case hyb1 => (intro u hu; obtain ⟨_, _, _, _, _, _, _, _⟩ := hu; go_simp; try with_reducible rfl)
        try simp only [Act.put, List.setIfInBounds_toArray, List.set_cons_zero, List.set_cons_succ, List.getElem_toArray, List.getElem_cons_zero, List.getElem_cons_succ]
        refine wpAnyH_take (i := 2) (v := ?vb2) rfl (by kernel_rfl) (by kernel_rfl) (by kernel_rfl) (fun _ _ _ h => h) (Or.inl ⟨by rfl, ?hyb2⟩) (by assumption) ?restb2
        case hyb2 => (intro u hu; obtain ⟨_, _, _, _, _, _, _, _⟩ := hu; go_simp; try with_reducible rfl)
        try simp only [Act.put, List.setIfInBounds_toArray, List.set_cons_zero, List.set_cons_succ, List.getElem_toArray, List.getElem_cons_zero, List.getElem_cons_succ]
        refine wpAnyH_take (i := 3) (v := ?vb3) rfl (by kernel_rfl) (by kernel_rfl) (by kernel_rfl) (fun _ _ _ h => h) (Or.inl ⟨by rfl, ?hyb3⟩) (by assumption) ?restb3
        case hyb3 => (intro u hu; obtain ⟨_, _, _, _, _, _, _, _⟩ := hu; go_simp; try with_reducible rfl)
        try simp only [Act.put, List.setIfInBounds_toArray, List.set_cons_zero, List.set_cons_succ, List.getElem_toArray, List.getElem_cons_zero, List.getElem_cons_succ]
        refine wpAnyH_take (i := 4) (v := ?vb4) rfl (by kernel_rfl) (by kernel_rfl) (by kernel_rfl) (fun _ _ _ h => h) (Or.inl ⟨by rfl, ?hyb4⟩) (by assumption) ?restb4
        case hyb4 => (intro u hu; obtain ⟨_, _, _, _, _, _, _, _⟩ := hu; go_simp; try with_reducible rfl)
        try simp only [Act.put, List.setIfInBounds_toArray, List.set_cons_zero, List.set_cons_succ, List.getElem_toArray, List.getElem_cons_zero, List.getElem_cons_succ]
        refine wpAnyH_ready (rs := [5]) (by kernel_rfl) (by simp) ?_
        refine AllReadyH.cons rfl (fun K hK => ?_) AllReadyH.nil
        go_simp
        refine (HB _).mono ?_
        rintro e w1 ⟨rfl, hb1⟩
        go_wp2_with fail
        refine hK.out _ _ (HS.out (on2 hHeld.1 hb1)) (fun hHeld2 => ?_)
        clear hK K hHeld
        have hHeld := hHeld2
        clear hHeld2
        try simp only [Act.put, List.setIfInBounds_toArray, List.set_cons_zero, List.set_cons_succ, List.getElem_toArray, List.getElem_cons_zero, List.getElem_cons_succ]
        refine wpAnyH_done (by kernel_rfl) ?_ _
        refine NoPanic.normal ?_
        go_wp2_with fail
        go_ret
        exact ⟨retb HF'.out.symm, on2 hb0 (on2 hbel hHeld.1)⟩
    · have HF : Hid (borneB B t = false) := any_no (p := fun b => bearsB b t) (fun j hj => hall.out j (by omega))
      clear hall
      go_wp2_with fail
      go_ret
      exact ⟨retb HF.out.symm, on2 hb0 hbel⟩

set_option maxHeartbeats 2000000 in
theorem rKept_calls (a : Option Addr) (cap : Nat) (L : List Tnt) (b : Option Addr) (capb : Nat) (B : List Bear) (w : World) (hL : Hid (TntsAt w a L)) (hB : Hid (BearsAt w b B)) :
    Calls Try.prog 16 #[.slice a L.length cap, .slice b B.length capb] w fun e w' => e = .returned (.tuple #[.agg #[.string (keptT L B).1.1, .string (keptT L B).1.2.1, .int .i64 (keptT L B).1.2.2], .bool (keptT L B).2]) ∧ Below w.heap.size w w' := by
  have hlen := hL.out.1
  have hb0 : Below w.heap.size w (w.alloc (.cells #[.string ⟨#[]⟩, .string ⟨#[]⟩, .int .i64 0] 32)) := by go_grown
  have hD := BoxT.new w 32 (⟨#[]⟩, ⟨#[]⟩, 0)
  have hL' : Hid (∀ {u : World}, Below w.heap.size w u → TntsAt u a L) := fun h => hL.out.on h
  have hB' : Hid (∀ {u : World}, Below w.heap.size w u → BearsAt u b B) := fun h => hB.out.on h
  clear hL hB
  go_enter Try.func16, Try.ntmps16
  go_wp2_with fail
  generalize hwB : (w.alloc (.cells #[.string ⟨#[]⟩, .string ⟨#[]⟩, .int .i64 0] 32)) = w0 at hb0 hD
  clear hwB
  go_loopw [6] (fun i wr => ∃ k : Nat, k ≤ L.length ∧ i = .int .i64 k ∧ Below w0.heap.size w0 wr ∧ Hid (∀ j, j < k → openT 1 B (L.getD j default) = false)) (fun i _ => L.length - (intOf i).toNat)
  case atStart => exact ⟨0, Nat.zero_le _, rfl, Below.refl _ _, fun j hj => absurd hj (Nat.not_lt_zero _)⟩
  case round =>
    obtain ⟨k, hk, rfl, hbel, hall⟩ := hrel
    have hbw := on2 hb0 hbel
    by_cases hlt : k < L.length
    · obtain ⟨BB, off, rfl, hBB, d0, d1, d2, ho⟩ := TntsAt.get (hL'.out hbw) hlt
      clear ho
      have hBn : Hid (BB < w.heap.size) := by
        obtain ⟨B2, off2, e2, hB2, _⟩ := TntsAt.get (hL'.out (Below.refl _ w)) hlt
        obtain ⟨rfl, _⟩ : BB = B2 ∧ off = off2 := by simpa using e2
        exact hB2
      have HB := rborne_calls (L.getD k default) b capb B wr (hB'.out hbw)
      have HG : Hid (openT 1 B (L.getD k default) = false → ∀ j, j < k + 1 → openT 1 B (L.getD j default) = false) := fun h j hj => by
        rcases Nat.lt_succ_iff_lt_or_eq.1 hj with h' | rfl
        · exact hall.out j h'
        · exact h
      have HF : Hid (openT 1 B (L.getD k default) = true → keptT L B = (L.getD k default, true)) := fun h => keptT_yes hlt hall.out h
      have HO : Hid (openT 1 B (L.getD k default) = (((L.getD k default).2.2 == 1) && !borneB B (L.getD k default))) := rfl
      clear hall
      generalize L.getD k default = x at d0 d1 d2 HB HG HF HO
      cases hq : (x.2.2 == 1)
      · have HG' : Hid (∀ j, j < k + 1 → openT 1 B (L.getD j default) = false) := HG.out (by rw [HO.out, hq]; rfl)
        clear HG HF HO HB
        go_wp2_with fail
        go_roundw
        case rel => exact ⟨k + 1, by omega, by go_num, hbel, HG'⟩
        case measure => simp [intOf]; omega
      · cases hr : borneB B x
        · have HF' : Hid (keptT L B = (x, true)) := HF.out (by rw [HO.out, hq, hr]; rfl)
          rw [hr] at HB
          clear HG HF HO hr
          go_wp2_with fail
          refine HB.mono ?_
          rintro e w2 ⟨rfl, hb2⟩
          obtain ⟨hDl, ⟨c0, c1, c2⟩, f0, f1, f2⟩ := hD.on (on2 hbel hb2)
          have g0 := (hb2.cell (p := ⟨BB, off + k * 3, none⟩) hBB).trans d0
          have g1 := (hb2.cell (p := ⟨BB, off + k * 3 + 1, none⟩) hBB).trans d1
          have g2 := (hb2.cell (p := ⟨BB, off + k * 3 + 2, none⟩) hBB).trans d2
          have hne : BB ≠ w.heap.size := by have := hBn.out; omega
          clear d0 d1 d2 HB
          go_wp2_with fail
          refine bodyPost_ret (v := .tuple #[.agg #[.string x.1, .string x.2.1, .int .i64 x.2.2], .bool true]) (by simp [results, Try.results16, go_sem, c0, c1, c2, hDl]) rfl ⟨ret_tb (x := x) (by rw [HF'.out]; exact ⟨rfl, rfl⟩), ?_⟩
          exact (((on2 hbw hb2).setCell (Nat.le_refl _) _).setCell (Nat.le_refl _) _).setCell (Nat.le_refl _) _
        · have HG' : Hid (∀ j, j < k + 1 → openT 1 B (L.getD j default) = false) := HG.out (by rw [HO.out, hq, hr]; rfl)
          rw [hr] at HB
          clear HG HF HO hr
          go_wp2_with fail
          refine HB.mono ?_
          rintro e w2 ⟨rfl, hb2⟩
          clear HB
          go_wp2_with fail
          go_roundw
          case rel => exact ⟨k + 1, by omega, by go_num, on2 hbel hb2, HG'⟩
          case measure => simp [intOf]; omega
    · have HK : Hid (keptT L B = (default, false)) := keptT_no (fun j hj => hall.out j (by omega))
      obtain ⟨hDl, ⟨c0, c1, c2⟩, f0, f1, f2⟩ := hD.on hbel
      clear hall
      go_wp2_with fail
      refine bodyPost_ret (v := .tuple #[.agg #[.string ⟨#[]⟩, .string ⟨#[]⟩, .int .i64 0], .bool false]) (by simp [results, Try.results16, go_sem, c0, c1, c2, hDl]) rfl ⟨ret_tb (x := (⟨#[]⟩, ⟨#[]⟩, 0)) (by rw [HK.out]; exact ⟨rfl, rfl⟩), ?_⟩
      exact ((hbw.setCell (Nat.le_refl _) _).setCell (Nat.le_refl _) _).setCell (Nat.le_refl _) _

set_option maxHeartbeats 2000000 in
theorem rShy_calls (a : Option Addr) (cap : Nat) (L : List Tnt) (b : Option Addr) (capb : Nat) (B : List Bear) (w : World) (hL : Hid (TntsAt w a L)) (hB : Hid (BearsAt w b B)) :
    Calls Try.prog 18 #[.slice a L.length cap, .slice b B.length capb] w fun e w' => e = .returned (.int .i64 (shyN L B : Nat)) ∧ Below w.heap.size w w' := by
  have hlen := hL.out.1
  have hL' : Hid (∀ {u : World}, Below w.heap.size w u → TntsAt u a L) := fun h => hL.out.on h
  have hB' : Hid (∀ {u : World}, Below w.heap.size w u → BearsAt u b B) := fun h => hB.out.on h
  clear hL hB
  go_enter Try.func18, Try.ntmps18
  go_wp2_with fail
  go_loopw [5, 6] (fun s i wr => ∃ k : Nat, k ≤ L.length ∧ i = .int .i64 k ∧ s = .int .i64 ((L.take k).countP (openT 2 B) : Nat) ∧ Below w.heap.size w wr) (fun _ i _ => L.length - (intOf i).toNat)
  case atStart => exact ⟨0, Nat.zero_le _, rfl, rfl, Below.refl _ _⟩
  case round =>
    obtain ⟨k, hk, rfl, rfl, hbel⟩ := hrel
    by_cases hlt : k < L.length
    · obtain ⟨BB, off, rfl, hBB, d0, d1, d2, ho⟩ := TntsAt.get (hL'.out hbel) hlt
      clear ho
      have hcs := count_step (p := openT 2 B) hlt
      have hcl : (L.take k).countP (openT 2 B) ≤ k := count_le
      obtain ⟨m, hm⟩ : ∃ m, (L.take k).countP (openT 2 B) = m := ⟨_, rfl⟩
      rw [hm] at hcs hcl ⊢
      have hwr := wrap_nat (n := m) (by omega)
      have HB := rborne_calls (L.getD k default) b capb B wr (hB'.out hbel)
      have HO : Hid (openT 2 B (L.getD k default) = (((L.getD k default).2.2 == 2) && !borneB B (L.getD k default))) := rfl
      have HC : Hid ((L.take (k + 1)).countP (openT 2 B) = m + (if openT 2 B (L.getD k default) then 1 else 0)) := hcs
      clear hcs hm
      generalize L.getD k default = x at d0 d1 d2 HB HO HC
      cases hq : (x.2.2 == 2)
      · have HC' : Hid ((L.take (k + 1)).countP (openT 2 B) = m) := HC.out.trans (by rw [HO.out, hq]; rfl)
        clear HC HO HB
        go_wp2_with fail
        go_roundw
        case rel => exact ⟨k + 1, by omega, by go_num, by rw [HC'.out], hbel⟩
        case measure => simp [intOf]; omega
      · cases hr : borneB B x
        · have HC' : Hid ((L.take (k + 1)).countP (openT 2 B) = m + 1) := HC.out.trans (by rw [HO.out, hq, hr]; rfl)
          rw [hr] at HB
          clear HC HO hr
          go_wp2_with fail
          refine HB.mono ?_
          rintro e w2 ⟨rfl, hb2⟩
          clear HB
          go_wp2_with fail
          go_roundw
          case rel => exact ⟨k + 1, by omega, by go_num, by rw [HC'.out]; rfl, on2 hbel hb2⟩
          case measure => simp [intOf]; omega
        · have HC' : Hid ((L.take (k + 1)).countP (openT 2 B) = m) := HC.out.trans (by rw [HO.out, hq, hr]; rfl)
          rw [hr] at HB
          clear HC HO hr
          go_wp2_with fail
          refine HB.mono ?_
          rintro e w2 ⟨rfl, hb2⟩
          clear HB
          go_wp2_with fail
          go_roundw
          case rel => exact ⟨k + 1, by omega, by go_num, by rw [HC'.out], on2 hbel hb2⟩
          case measure => simp [intOf]; omega
    · have HC : Hid ((L.take k).countP (openT 2 B) = shyN L B) := by rw [Hid, shyN, List.take_of_length_le (by omega)]
      rw [HC.out]
      go_wp2_with fail
      go_ret
      exact ⟨rfl, hbel⟩
end Go.Proofs.Ytgffnkfiecieeaa
