/- quant.Sum, and the document's own, add up all members; they change nothing that was there. Condition: the slice holds what is said of it, and is no longer than memory allows. -/
import Derived.Test.YthnfdbbnmddnhaaDoorResTop
import Derived.Test.YthnfdbbnmddnhaaDoorBox
namespace Go.Proofs.YthnfdbbnmddnhaaDoor
open Go.RowKit
set_option linter.unusedSimpArgs false

/-- A slice of amounts that lies below: nil, or from an address on; member by member what the functions tell. -/
def ResAt (w : World) (v : Value) (len : Nat) (f g h : Nat → Int) : Prop :=
  (v = .slice none 0 0 ∧ len = 0) ∨ ∃ B off cap, v = .slice (some ⟨B, off, none⟩) len cap ∧ B < w.heap.size ∧
    ∀ i, i < len → w.cell? ⟨B, off + i * 3, none⟩ = some (.int .i64 (f i)) ∧ w.cell? ⟨B, off + i * 3 + 1, none⟩ = some (.int .i64 (g i)) ∧ w.cell? ⟨B, off + i * 3 + 2, none⟩ = some (.int .i64 (h i))

def sumI (f : Nat → Int) : Nat → Int
  | 0 => 0
  | k + 1 => addI (sumI f k) (f k)


theorem box_start (w : World) : Box3 ((w.alloc (.cells #[.int .i64 0, .int .i64 0, .int .i64 0] 33)).alloc (.cells #[.int .i64 0, .int .i64 0, .int .i64 0] 33)) (w.heap.size + 1) 0 0 0 := by
  have q := Box3.new (w.alloc (.cells #[.int .i64 0, .int .i64 0, .int .i64 0] 33)) 33 0 0 0
  rwa [World.size_alloc] at q

set_option maxHeartbeats 2000000 in
theorem Sum_some (B off cap len : Nat) (f g h : Nat → Int) (w : World) (hlen : len ≤ 140737488355328) (hB : B < w.heap.size)
    (hc : Hid (∀ i, i < len → w.cell? ⟨B, off + i * 3, none⟩ = some (.int .i64 (f i)) ∧ w.cell? ⟨B, off + i * 3 + 1, none⟩ = some (.int .i64 (g i)) ∧ w.cell? ⟨B, off + i * 3 + 2, none⟩ = some (.int .i64 (h i)))) :
    Calls Tryd.prog 30 #[.slice (some ⟨B, off, none⟩) len cap] w fun e w' => e = .returned (.agg #[.int .i64 (sumI f len), .int .i64 (sumI g len), .int .i64 (sumI h len)]) ∧ Below w.heap.size w w' := by
  go_enter Tryd.func30, Tryd.ntmps30
  go_wp2_with fail
  go_loopw [8] (fun i wr => ∃ k : Nat, k ≤ len ∧ i = .int .i64 k ∧ Box3 wr (w.heap.size + 1) (sumI f k) (sumI g k) (sumI h k) ∧ Box3 wr w.heap.size 0 0 0 ∧ Below w.heap.size w wr) (fun i _ => len - (intOf i).toNat)
  case atStart => exact ⟨0, Nat.zero_le _, rfl, box_start w, (Box3.new w 33 0 0 0).on ((Below.refl _ _).alloc (Nat.le_refl _) _), ((Below.refl _ _).alloc (Nat.le_refl _) _).alloc (by simp) _⟩
  case round =>
    obtain ⟨k, hk, rfl, hX, hR, hbel⟩ := hrel
    by_cases hkl : k < len
    · obtain ⟨c0, c1, c2⟩ := hc.out k hkl
      have d0 := (hbel.cell (p := ⟨B, off + k * 3, none⟩) hB).trans c0
      have d1 := (hbel.cell (p := ⟨B, off + k * 3 + 1, none⟩) hB).trans c1
      have d2 := (hbel.cell (p := ⟨B, off + k * 3 + 2, none⟩) hB).trans c2
      clear c0 c1 c2
      obtain ⟨hlt, ⟨s0, s1, s2⟩, sf0, sf1, sf2⟩ := id hX
      go_wp2_with fail
      refine (Plus_calls _ _ _ _ _ _ _).mono ?_
      rintro e w1 ⟨rfl, hb⟩
      have hb' : Below wr.heap.size wr w1 := ((Below.refl wr.heap.size wr).alloc (Nat.le_refl _) _).trans (hb.mono (by simp))
      have hX1 := hX.on hb'
      have hR1 := hR.on hb'
      have hb1 := hbel.trans (hb'.mono hbel.size)
      clear hb hb' s0 s1 s2 sf0 sf1 sf2 d0 d1 d2 hX hR
      obtain ⟨hlt1, ⟨s0, s1, s2⟩, sf0, sf1, sf2⟩ := id hX1
      go_wp2_with fail
      go_roundw
      case rel => exact ⟨k + 1, by omega, by go_num, hX1.set _ _ _, hR1.other (by omega) _ _ _, below_set3 hb1 (by omega) _ _ _⟩
      case measure => simp [intOf]; omega
    · obtain rfl : k = len := by omega
      obtain ⟨hlt, ⟨s0, s1, s2⟩, sf0, sf1, sf2⟩ := id hX
      obtain ⟨rlt, ⟨r0, r1, r2⟩, rf0, rf1, rf2⟩ := id hR
      clear hX hR
      go_wp2_with fail
      exact bodyPost_ret (v := .agg #[.int .i64 (sumI f k), .int .i64 (sumI g k), .int .i64 (sumI h k)]) (by simp [results, Tryd.results30, go_sem, r0, r1, r2]) rfl ⟨rfl, ((hbel.setCell (by simp) _).setCell (by simp) _).setCell (by simp) _⟩

/-- what the round of the document's Sum keeps -/
def SR (w : World) (B o : Nat) (a b c : Int) (u : World) : Prop := Below w.heap.size w u ∧ u.cell? ⟨B, o, none⟩ = some (.int .i64 a) ∧ u.cell? ⟨B, o + 1, none⟩ = some (.int .i64 b) ∧ u.cell? ⟨B, o + 2, none⟩ = some (.int .i64 c)
theorem SR.on {w u u' : World} {B o : Nat} {a b c : Int} (h : SR w B o a b c u) (hb : Below u.heap.size u u') (hB : B < w.heap.size) : SR w B o a b c u' := by
  obtain ⟨h0, h1, h2, h3⟩ := h
  have hs := h0.size
  exact ⟨h0.trans (hb.mono hs), (hb.cell (by show B < u.heap.size; omega)).trans h1, (hb.cell (by show B < u.heap.size; omega)).trans h2, (hb.cell (by show B < u.heap.size; omega)).trans h3⟩
theorem SR.drew {w u : World} {B o : Nat} {a b c : Int} (h : SR w B o a b c u) : SR w B o a b c u.drew := ⟨h.1.drew, h.2⟩
theorem SR.set3 {w u : World} {B o N : Nat} {a b c x y z : Int} (h : SR w B o a b c u) (hB : B < w.heap.size) (hN : w.heap.size ≤ N) : SR w B o a b c (set3 u N x y z) := by
  obtain ⟨h0, h1, h2, h3⟩ := h
  have e : ∀ i j : Nat, (⟨N, i, none⟩ : Addr) ≠ ⟨B, j, none⟩ := fun i j h => by have := congrArg Addr.block h; simp at this; omega
  refine ⟨below_set3 h0 hN _ _ _, ?_, ?_, ?_⟩
  · unfold Go.Proofs.YthnfdbbnmddnhaaDoor.set3; rw [cell_other (e 2 _), cell_other (e 1 _), cell_other (e 0 _)]; exact h1
  · unfold Go.Proofs.YthnfdbbnmddnhaaDoor.set3; rw [cell_other (e 2 _), cell_other (e 1 _), cell_other (e 0 _)]; exact h2
  · unfold Go.Proofs.YthnfdbbnmddnhaaDoor.set3; rw [cell_other (e 2 _), cell_other (e 1 _), cell_other (e 0 _)]; exact h3

set_option maxHeartbeats 2000000 in
theorem rSum_some (B off cap len : Nat) (f g h : Nat → Int) (w : World) (hlen : len ≤ 140737488355328) (hB : B < w.heap.size)
    (hc : Hid (∀ i, i < len → w.cell? ⟨B, off + i * 3, none⟩ = some (.int .i64 (f i)) ∧ w.cell? ⟨B, off + i * 3 + 1, none⟩ = some (.int .i64 (g i)) ∧ w.cell? ⟨B, off + i * 3 + 2, none⟩ = some (.int .i64 (h i)))) :
    Calls Tryd.prog 31 #[.slice (some ⟨B, off, none⟩) len cap] w fun e w' => e = .returned (.agg #[.int .i64 (sumI f len), .int .i64 (sumI g len), .int .i64 (sumI h len)]) ∧ Below w.heap.size w w' := by
  go_enter Tryd.func31, Tryd.ntmps31
  go_wp2_with fail
  go_loopw [4] (fun i wr => ∃ k : Nat, k ≤ len ∧ i = .int .i64 k ∧ Box3 wr (w.heap.size + 1) (sumI f k) (sumI g k) (sumI h k) ∧ Box3 wr w.heap.size 0 0 0 ∧ Below w.heap.size w wr) (fun i _ => len - (intOf i).toNat)
  case atStart => exact ⟨0, Nat.zero_le _, rfl, box_start w, (Box3.new w 33 0 0 0).on ((Below.refl _ _).alloc (Nat.le_refl _) _), ((Below.refl _ _).alloc (Nat.le_refl _) _).alloc (by simp) _⟩
  case round =>
    obtain ⟨k, hk, rfl, hX, hR, hbel⟩ := hrel
    by_cases hkl : k < len
    · obtain ⟨c0, c1, c2⟩ := hc.out k hkl
      have hSR : SR w B (off + k * 3) (f k) (g k) (h k) wr := ⟨hbel, (hbel.cell (p := ⟨B, off + k * 3, none⟩) hB).trans c0, (hbel.cell (p := ⟨B, off + k * 3 + 1, none⟩) hB).trans c1, (hbel.cell (p := ⟨B, off + k * 3 + 2, none⟩) hB).trans c2⟩
      clear c0 c1 c2
      have b0 : (0 : Int) ≤ (k : Int) := by omega
      have b1 : (k : Int) < (len : Int) := by omega
      obtain ⟨hlt, ⟨s0, s1, s2⟩, sf0, sf1, sf2⟩ := id hX
      go_wp2_with fail
      refine wp_region_noPanic ?_
      refine wp_region_held_drew (S := SR w B (off + k * 3) (f k) (g k) (h k)) (by kernel_rfl) (hSR.drew) (fun hHeld => ?_)
      refine wpAnyH_take (i := 1) (v := ?vr1) rfl (by kernel_rfl) (by kernel_rfl) (by kernel_rfl) (fun _ _ _ h => h) (Or.inl ⟨by rfl, ?hyr1⟩) (by assumption) ?restr1
      case hyr1 => (intro u hu; obtain ⟨_, _, _, _⟩ := hu; go_simp; try with_reducible rfl)
      try simp only [Act.put, List.setIfInBounds_toArray, List.set_cons_zero, List.set_cons_succ, List.getElem_toArray, List.getElem_cons_zero, List.getElem_cons_succ]
      refine wpAnyH_take (i := 2) (v := ?vr2) rfl (by kernel_rfl) (by kernel_rfl) (by kernel_rfl) (fun _ _ _ h => h) (Or.inl ⟨by rfl, ?hyr2⟩) (by assumption) ?restr2
      case hyr2 => (intro u hu; obtain ⟨_, _, _, _⟩ := hu; go_simp; try with_reducible rfl)
      try simp only [Act.put, List.setIfInBounds_toArray, List.set_cons_zero, List.set_cons_succ, List.getElem_toArray, List.getElem_cons_zero, List.getElem_cons_succ]
      refine wpAnyH_take (i := 3) (v := ?vr3) rfl (by kernel_rfl) (by kernel_rfl) (by kernel_rfl) (fun _ _ _ h => h) (Or.inl ⟨by rfl, ?hyr3⟩) (by assumption) ?restr3
      case hyr3 => (intro u hu; obtain ⟨_, _, _, _⟩ := hu; go_simp; try with_reducible rfl)
      try simp only [Act.put, List.setIfInBounds_toArray, List.set_cons_zero, List.set_cons_succ, List.getElem_toArray, List.getElem_cons_zero, List.getElem_cons_succ]
      refine wpAnyH_take (i := 4) (v := ?vr4) rfl (by kernel_rfl) (by kernel_rfl) (by kernel_rfl) (fun _ _ _ h => h) (Or.inl ⟨by rfl, ?hyr4⟩) (by assumption) ?restr4
      case hyr4 => (intro u hu; obtain ⟨_, _, _, _⟩ := hu; go_simp; try with_reducible rfl)
      try simp only [Act.put, List.setIfInBounds_toArray, List.set_cons_zero, List.set_cons_succ, List.getElem_toArray, List.getElem_cons_zero, List.getElem_cons_succ]
      refine wpAnyH_ready (rs := [0]) (by kernel_rfl) (by simp) ?_
      refine AllReadyH.cons rfl (fun K hK => ?_) AllReadyH.nil
      go_simp
      refine hK.out _ _ hHeld (fun hHeld2 => ?_)
      clear hK K hHeld
      have hHeld := hHeld2
      clear hHeld2
      try simp only [Act.put, List.setIfInBounds_toArray, List.set_cons_zero, List.set_cons_succ, List.getElem_toArray, List.getElem_cons_zero, List.getElem_cons_succ]
      refine wpAnyH_ready (rs := [5]) (by kernel_rfl) (by simp) ?_
      refine AllReadyH.cons rfl (fun K hK => ?_) AllReadyH.nil
      go_simp
      refine (rplus_calls _ _ _ _ _ _ _).mono ?_
      rintro e w1 ⟨rfl, hb⟩
      have hX1 := hX.on (u := wr.drew) hb
      have hR1 := hR.on (u := wr.drew) hb
      obtain ⟨hlt1, ⟨s0, s1, s2⟩, sf0, sf1, sf2⟩ := id hX1
      go_wp2_with fail
      refine hK.out _ _ (hHeld.on hb hB) (fun hHeld2 => ?_)
      clear hK K hHeld
      have hHeld := hHeld2
      clear hHeld2
      try simp only [Act.put, List.setIfInBounds_toArray, List.set_cons_zero, List.set_cons_succ, List.getElem_toArray, List.getElem_cons_zero, List.getElem_cons_succ]
      refine wpAnyH_ready (rs := [6]) (by kernel_rfl) (by simp) ?_
      refine AllReadyH.cons rfl (fun K hK => ?_) AllReadyH.nil
      go_simp
      refine hK.out _ _ (hHeld.set3 hB (by omega)) (fun hHeld2 => ?_)
      clear hK K hHeld
      have hHeld := hHeld2
      clear hHeld2
      try simp only [Act.put, List.setIfInBounds_toArray, List.set_cons_zero, List.set_cons_succ, List.getElem_toArray, List.getElem_cons_zero, List.getElem_cons_succ]
      refine wpAnyH_done (by kernel_rfl) ?_ _
      refine NoPanic.normal ?_
      go_wp2_with fail
      go_roundw
      case rel => exact ⟨k + 1, by omega, by go_num, hX1.set _ _ _, hR1.other (by omega) _ _ _, hHeld.1⟩
      case measure => simp [intOf]; omega
    · obtain rfl : k = len := by omega
      obtain ⟨hlt, ⟨s0, s1, s2⟩, sf0, sf1, sf2⟩ := id hX
      obtain ⟨rlt, ⟨r0, r1, r2⟩, rf0, rf1, rf2⟩ := id hR
      clear hX hR
      go_wp2_with fail
      exact bodyPost_ret (v := .agg #[.int .i64 (sumI f k), .int .i64 (sumI g k), .int .i64 (sumI h k)]) (by simp [results, Tryd.results31, go_sem, r0, r1, r2]) rfl ⟨rfl, ((hbel.setCell (by simp) _).setCell (by simp) _).setCell (by simp) _⟩
end Go.Proofs.YthnfdbbnmddnhaaDoor
