/- keyed.put at a key that is there, Heap.Push at any key, Heap.All: the plain functions; a heap and what lies beside it. No condition. -/
import Derived.Test.YtgncpjplofacfaaHHeap
import Derived.Test.YtgncpjplofacfaaHSrtH
import Derived.Test.YtgncpjplofacfaaHCalls
namespace Go.Proofs.Ytgncpjplofacfaa
open Go.RowKit Go.Maps
set_option linter.unusedSimpArgs false

theorem Tells.set {D : DataW Unit} {L : List It} (h : Tells D L) {i : Nat} (hi : i < L.length) {y : It} (e : kl L[i] = kl y) : Tells D (L.set i y) := by
  have hk : ∀ t (ht : t < (L.set i y).length), kl (L.set i y)[t] = kl (L[t]'(by simpa using ht)) := by
    intro t ht
    rw [List.getElem_set]
    split
    · rename_i c; subst c; exact e.symm
    · rfl
  refine ⟨by rw [List.length_set]; exact h.1, fun t ht => ?_, fun k hk' => ?_⟩
  · rw [hk t ht]
    exact h.2.1 t (by simpa using ht)
  · obtain ⟨t, ht, e'⟩ := h.2.2 k hk'
    exact ⟨t, by simpa using ht, by rw [hk t (by simpa using ht)]; exact e'⟩
set_option maxHeartbeats 4000000 in
theorem put_old {F : Where} {w : World} {kb : Nat} {L : List It} (h : HK F w kb L) (hL : L.length < 1000000000000) (y : It) (hy : okI y) (i : Nat) (hi : i < L.length) (hold : kl L[i] = kl y) :
    Calls Try.prog 29 #[.pointer (some ⟨kb, 0, none⟩), vI y] w fun e w' => e = .returned (.bool true) ∧ HK F w' kb (fixL (L.set i y).length (L.set i y) i) ∧ Turns F w w' := by
  obtain ⟨v, mb, D, hk0, ht⟩ := h
  have hk : KAt F (w.alloc (.cells #[.string y.1, .int .i64 y.2.1, .int .i64 y.2.2] 27)).drew kb v mb L.length D L := (hk0.grow (by go_grown)).drew
  have hkl0 : kb < w.heap.size := hk0.lt
  obtain ⟨c, hlk, hat⟩ := hk.look y hy
  have hyes := ht.2.1 i hi
  rw [hold] at hyes
  rw [hyes.2] at hat
  obtain rfl : (i : Int) = c := by simpa using hat
  rw [hyes.1] at hlk
  have HS0 : Hid (PtS kb mb w.heap.size y.1 (.tuple #[.int .i64 (i : Int), .bool true]) (w.alloc (.cells #[.string y.1, .int .i64 y.2.1, .int .i64 y.2.2] 27)).drew) := ⟨hk.c2, by simp [go_sem], hlk⟩
  have HT0 : Hid (Turns F w (w.alloc (.cells #[.string y.1, .int .i64 y.2.1, .int .i64 y.2.2] 27)).drew) := (Turns.alloc _ _ _).trans (Turns.drew _ _)
  obtain ⟨g, cap, hv, hcp, hg, hgk, hgm, hFg, hc⟩ := hk.sl (by omega)
  have HU : Hid (HK F (putI (w.alloc (.cells #[.string y.1, .int .i64 y.2.1, .int .i64 y.2.2] 27)).drew g i y) kb (L.set i y) ∧ Turns F (w.alloc (.cells #[.string y.1, .int .i64 y.2.1, .int .i64 y.2.2] 27)).drew (putI (w.alloc (.cells #[.string y.1, .int .i64 y.2.1, .int .i64 y.2.2] 27)).drew g i y)) := by
    have k := hk.items (g := g) (by rw [hv]; rfl) hi hy
    exact ⟨HK.of k.1 (ht.set hi hold), k.2⟩
  have c0 := hk.c0
  rw [hv] at c0
  have ci := hc i hi
  have HB0 : Hid ((w.alloc (.cells #[.string y.1, .int .i64 y.2.1, .int .i64 y.2.2] 27)).drew.cell? ⟨w.heap.size, 0, none⟩ = some (.string y.1) ∧ (w.alloc (.cells #[.string y.1, .int .i64 y.2.1, .int .i64 y.2.2] 27)).drew.cell? ⟨w.heap.size, 1, none⟩ = some (.int .i64 y.2.1) ∧ (w.alloc (.cells #[.string y.1, .int .i64 y.2.1, .int .i64 y.2.2] 27)).drew.cell? ⟨w.heap.size, 2, none⟩ = some (.int .i64 y.2.2)) := ⟨by simp [go_sem], by simp [go_sem], by simp [go_sem]⟩
  have hgw : ¬ g = w.heap.size := by
    obtain ⟨g', cap', hv', _, hg', _⟩ := hk0.sl (by omega)
    rw [hv] at hv'
    simp at hv'
    omega
  have hgw' : ¬ w.heap.size = g := fun e => hgw e.symm
  have hkw : ¬ kb = w.heap.size := by omega
  have hkw' : ¬ w.heap.size = kb := by omega
  have hii : (i : Int) < (L.length : Int) := by omega
  clear hk hk0 ht hlk hc hat hyes hv
  go_enter Try.func29, Try.ntmps29
  go_wp2_with fail
  refine wp_region_noPanic ?_
  refine wp_region_held_drew (S := PtS kb mb w.heap.size y.1 (.tuple #[.int .i64 (i : Int), .bool true])) (by kernel_rfl) (HS0.out) (fun hHeld => ?_)
  refine wpAnyH_take (i := 0) (v := ?v0) rfl (by kernel_rfl) (by kernel_rfl) (by kernel_rfl) (fun _ _ _ h => h) (Or.inl ⟨by rfl, ?hy0⟩) (by assumption) ?rest0
  case hy0 => (intro u hu; obtain ⟨_, _, _⟩ := hu; go_simp; try with_reducible rfl)
  try simp only [Act.put, List.setIfInBounds_toArray, List.set_cons_zero, List.set_cons_succ, List.getElem_toArray, List.getElem_cons_zero, List.getElem_cons_succ]
  refine wpAnyH_take (i := 1) (v := ?v1) rfl (by kernel_rfl) (by kernel_rfl) (by kernel_rfl) (fun _ _ _ h => h) (Or.inl ⟨by rfl, ?hy1⟩) (by assumption) ?rest1
  case hy1 => (intro u hu; obtain ⟨_, _, _⟩ := hu; go_simp; try with_reducible rfl)
  try simp only [Act.put, List.setIfInBounds_toArray, List.set_cons_zero, List.set_cons_succ, List.getElem_toArray, List.getElem_cons_zero, List.getElem_cons_succ]
  refine wpAnyH_take (i := 2) (v := ?v2) rfl (by kernel_rfl) (by kernel_rfl) (by kernel_rfl) (fun _ _ _ h => h) (Or.inl ⟨by rfl, ?hy2⟩) (by assumption) ?rest2
  case hy2 => (intro u hu; obtain ⟨_, _, _⟩ := hu; go_simp; try with_reducible rfl)
  try simp only [Act.put, List.setIfInBounds_toArray, List.set_cons_zero, List.set_cons_succ, List.getElem_toArray, List.getElem_cons_zero, List.getElem_cons_succ]
  refine wpAnyH_take (i := 3) (v := ?v3) rfl (by kernel_rfl) (by kernel_rfl) (by kernel_rfl) (fun _ _ _ h => h) (Or.inl ⟨by rfl, ?hy3⟩) (by assumption) ?rest3
  case hy3 => (intro u hu; obtain ⟨_, _, _⟩ := hu; go_simp; try with_reducible rfl)
  try simp only [Act.put, List.setIfInBounds_toArray, List.set_cons_zero, List.set_cons_succ, List.getElem_toArray, List.getElem_cons_zero, List.getElem_cons_succ]
  refine wpAnyH_take (i := 4) (v := ?v4) rfl (by kernel_rfl) (by kernel_rfl) (by kernel_rfl) (fun _ _ _ h => h) (Or.inl ⟨by rfl, ?hy4⟩) (by assumption) ?rest4
  case hy4 => (intro u hu; obtain ⟨_, _, _⟩ := hu; go_simp; try with_reducible rfl)
  try simp only [Act.put, List.setIfInBounds_toArray, List.set_cons_zero, List.set_cons_succ, List.getElem_toArray, List.getElem_cons_zero, List.getElem_cons_succ]
  refine wpAnyH_take (i := 5) (v := ?v5) rfl (by kernel_rfl) (by kernel_rfl) (by kernel_rfl) (fun _ _ _ h => h) (Or.inl ⟨by rfl, ?hy5⟩) (by assumption) ?rest5
  case hy5 => (intro u hu; obtain ⟨_, _, _⟩ := hu; go_simp; try with_reducible rfl)
  try simp only [Act.put, List.setIfInBounds_toArray, List.set_cons_zero, List.set_cons_succ, List.getElem_toArray, List.getElem_cons_zero, List.getElem_cons_succ]
  refine wpAnyH_take (i := 6) (v := ?v6) rfl (by kernel_rfl) (by kernel_rfl) (by kernel_rfl) (fun _ _ _ h => h) (Or.inl ⟨by rfl, ?hy6⟩) (by assumption) ?rest6
  case hy6 => (intro u hu; obtain ⟨_, _, _⟩ := hu; go_simp; try with_reducible rfl)
  try simp only [Act.put, List.setIfInBounds_toArray, List.set_cons_zero, List.set_cons_succ, List.getElem_toArray, List.getElem_cons_zero, List.getElem_cons_succ]
  refine wpAnyH_take (i := 7) (v := ?v7) rfl (by kernel_rfl) (by kernel_rfl) (by kernel_rfl) (fun _ _ _ h => h) (Or.inl ⟨by rfl, ?hy7⟩) (by assumption) ?rest7
  case hy7 => (intro u hu; obtain ⟨_, _, _⟩ := hu; go_simp; try with_reducible rfl)
  try simp only [Act.put, List.setIfInBounds_toArray, List.set_cons_zero, List.set_cons_succ, List.getElem_toArray, List.getElem_cons_zero, List.getElem_cons_succ]
  refine wpAnyH_take (i := 8) (v := ?v8) rfl (by kernel_rfl) (by kernel_rfl) (by kernel_rfl) (fun _ _ _ h => h) (Or.inl ⟨by rfl, ?hy8⟩) (by assumption) ?rest8
  case hy8 => (intro u hu; obtain ⟨_, _, _⟩ := hu; go_simp; try with_reducible rfl)
  try simp only [Act.put, List.setIfInBounds_toArray, List.set_cons_zero, List.set_cons_succ, List.getElem_toArray, List.getElem_cons_zero, List.getElem_cons_succ]
  refine wpAnyH_take (i := 9) (v := ?v9) rfl (by kernel_rfl) (by kernel_rfl) (by kernel_rfl) (fun _ _ _ h => h) (Or.inl ⟨by rfl, ?hy9⟩) (by assumption) ?rest9
  case hy9 => (intro u hu; obtain ⟨_, _, _⟩ := hu; go_simp; try with_reducible rfl)
  try simp only [Act.put, List.setIfInBounds_toArray, List.set_cons_zero, List.set_cons_succ, List.getElem_toArray, List.getElem_cons_zero, List.getElem_cons_succ]
  refine wpAnyH_take (i := 10) (v := ?v10) rfl (by kernel_rfl) (by kernel_rfl) (by kernel_rfl) (fun _ _ _ h => h) (Or.inl ⟨by rfl, ?hy10⟩) (by assumption) ?rest10
  case hy10 => (intro u hu; obtain ⟨_, _, _⟩ := hu; go_simp; try with_reducible rfl)
  try simp only [Act.put, List.setIfInBounds_toArray, List.set_cons_zero, List.set_cons_succ, List.getElem_toArray, List.getElem_cons_zero, List.getElem_cons_succ]
  refine wpAnyH_take (i := 11) (v := ?v11) rfl (by kernel_rfl) (by kernel_rfl) (by kernel_rfl) (fun _ _ _ h => h) (Or.inl ⟨by rfl, ?hy11⟩) (by assumption) ?rest11
  case hy11 => (intro u hu; obtain ⟨_, _, _⟩ := hu; go_simp; try with_reducible rfl)
  try simp only [Act.put, List.setIfInBounds_toArray, List.set_cons_zero, List.set_cons_succ, List.getElem_toArray, List.getElem_cons_zero, List.getElem_cons_succ]
  refine wpAnyH_done (by kernel_rfl) ?_ _
  refine NoPanic.normal ?_
  clear hHeld HS0
  go_wp2_with fail
  have b0 := HB0.out.1
  have b1 := HB0.out.2.1
  have b2 := HB0.out.2.2
  have x0 := ci.1.1
  have x1 := ci.1.2.1
  have x2 := ci.1.2.2
  have f0 := ci.2.1
  have f1 := ci.2.2.1
  have f2 := ci.2.2.2
  clear ci HB0
  generalize hW : (w.alloc (.cells #[.string y.1, .int .i64 y.2.1, .int .i64 y.2.2] 27)).drew = W at *
  go_region
  go_wp2_with (go_at_call 38; refine (Fix_calls (HU.out.1.drew) (by rw [List.length_set]; exact hL) i (by rw [List.length_set]; exact hi)).mono ?_; rintro e w1 ⟨rfl, hk1, ht1⟩)
  go_ret
  exact ⟨rfl, hk1, (HT0.out.trans (HU.out.2.trans (Turns.drew _ _))).trans ht1⟩

set_option maxHeartbeats 2000000 in
/-- Heap.Push, whatever the put within does. -/
theorem Push_with {F : Where} {w : World} {hb : Nat} {L L' : List It} {r : Bool} (h : HAt F w hb L) (hF : ∀ b, w.heap.size ≤ b → F b) (y : It) (hne : y.1.toList.isEmpty = false)
    (hput : ∀ (G : Where) (u : World) (kb : Nat), HK G u kb L → (∀ b, u.heap.size ≤ b → G b) → Calls Try.prog 29 #[.pointer (some ⟨kb, 0, none⟩), vI y] u fun e w' => e = .returned (.bool r) ∧ HK G w' kb L' ∧ Turns G u w') :
    Calls Try.prog 10 #[.pointer (some ⟨hb, 0, none⟩), vI y] w fun e w' => e = .returned (.tuple #[.bool r, .int .i64 0]) ∧ HAt F w' hb L' ∧ Turns F w w' := by
  obtain ⟨kb, h1, h2, h3⟩ := h
  have hbl := block_lt h2
  have hG : ∀ b, w.heap.size ≤ b → F b ∧ b ≠ hb := fun b hb' => ⟨hF b hb', by omega⟩
  have H0 : Hid (HK (Nar (fun b => F b ∧ b ≠ hb) w (w.alloc (.cells #[.string y.1, .int .i64 y.2.1, .int .i64 y.2.2] 27))) (w.alloc (.cells #[.string y.1, .int .i64 y.2.1, .int .i64 y.2.2] 27)).drew kb L) := (h3.nar (by go_grown)).drew
  have hbW : Below w.heap.size w (w.alloc (.cells #[.string y.1, .int .i64 y.2.1, .int .i64 y.2.2] 27)) := by go_grown
  have h2' := (hbW.block hb hbl).trans h2
  have HQ : Hid (∀ {u : World}, Turns (Nar (fun b => F b ∧ b ≠ hb) w (w.alloc (.cells #[.string y.1, .int .i64 y.2.1, .int .i64 y.2.2] 27))) (w.alloc (.cells #[.string y.1, .int .i64 y.2.1, .int .i64 y.2.2] 27)).drew u → u.heap[hb]? = some (.cells #[.pointer (some ⟨kb, 0, none⟩)] 52 (0, 0)) ∧ u.heap[w.heap.size]? = some (.cells #[.string y.1, .int .i64 y.2.1, .int .i64 y.2.2] 27 (0, 0))) := by
    intro u hu
    refine ⟨(hu.block hb (Nat.lt_of_lt_of_le hbl hbW.size) (fun hn => hn.elim (fun k => k.1.2 rfl) (fun k => by have := hbW.size; omega))).trans h2', ?_⟩
    exact (hu.block w.heap.size (by simp) (fun hn => hn.elim (fun k => by omega) (fun k => by simp at k; omega))).trans (heap_new w _ _ rfl)
  have HS : Hid (∀ {u : World}, Turns (Nar (fun b => F b ∧ b ≠ hb) w (w.alloc (.cells #[.string y.1, .int .i64 y.2.1, .int .i64 y.2.2] 27))) (w.alloc (.cells #[.string y.1, .int .i64 y.2.1, .int .i64 y.2.2] 27)).drew u → HpS hb kb w.heap.size y u) := by
    intro u hu
    obtain ⟨q1, q2⟩ := HQ.out hu
    exact ⟨by simp [World.cell?, q1], by simp [World.cell?, q2], by simp [World.cell?, q2], by simp [World.cell?, q2]⟩
  have cW : (w.alloc (.cells #[.string y.1, .int .i64 y.2.1, .int .i64 y.2.2] 27)).cell? ⟨hb, 0, none⟩ = some (.pointer (some ⟨kb, 0, none⟩)) := by simp [World.cell?, h2']
  have HW : Hid (Below w.heap.size w (w.alloc (.cells #[.string y.1, .int .i64 y.2.1, .int .i64 y.2.2] 27))) := hbW
  have HP : Hid (∀ (G : Where) (u : World) (kb : Nat), HK G u kb L → (∀ b, u.heap.size ≤ b → G b) → Calls Try.prog 29 #[.pointer (some ⟨kb, 0, none⟩), vI y] u fun e w' => e = .returned (.bool r) ∧ HK G w' kb L' ∧ Turns G u w') := hput
  clear h2 h3 h2' hbW hput
  go_enter Try.func10, Try.ntmps10
  go_wp2_with (go_at_call 28; refine (made_calls cW ⟨_, rfl⟩).mono ?_; rintro e w' ⟨rfl, rfl⟩)
  refine wp_region_noPanic ?_
  refine wp_region_held_drew (S := HpS hb kb w.heap.size y) (by kernel_rfl) (HS.out (Turns.refl _ _)) (fun hHeld => ?_)
  refine wpAnyH_take (i := 0) (v := ?v0) rfl (by kernel_rfl) (by kernel_rfl) (by kernel_rfl) (fun _ _ _ h => h) (Or.inl ⟨by rfl, ?hy0⟩) (by assumption) ?rest0
  case hy0 => (intro u hu; obtain ⟨_, _, _, _⟩ := hu; go_simp; try with_reducible rfl)
  try simp only [Act.put, List.setIfInBounds_toArray, List.set_cons_zero, List.set_cons_succ, List.getElem_toArray, List.getElem_cons_zero, List.getElem_cons_succ]
  refine wpAnyH_take (i := 1) (v := ?v1) rfl (by kernel_rfl) (by kernel_rfl) (by kernel_rfl) (fun _ _ _ h => h) (Or.inl ⟨by rfl, ?hy1⟩) (by assumption) ?rest1
  case hy1 => (intro u hu; obtain ⟨_, _, _, _⟩ := hu; go_simp; try with_reducible rfl)
  try simp only [Act.put, List.setIfInBounds_toArray, List.set_cons_zero, List.set_cons_succ, List.getElem_toArray, List.getElem_cons_zero, List.getElem_cons_succ]
  refine wpAnyH_take (i := 2) (v := ?v2) rfl (by kernel_rfl) (by kernel_rfl) (by kernel_rfl) (fun _ _ _ h => h) (Or.inl ⟨by rfl, ?hy2⟩) (by assumption) ?rest2
  case hy2 => (intro u hu; obtain ⟨_, _, _, _⟩ := hu; go_simp; try with_reducible rfl)
  try simp only [Act.put, List.setIfInBounds_toArray, List.set_cons_zero, List.set_cons_succ, List.getElem_toArray, List.getElem_cons_zero, List.getElem_cons_succ]
  refine wpAnyH_take (i := 3) (v := ?v3) rfl (by kernel_rfl) (by kernel_rfl) (by kernel_rfl) (fun _ _ _ h => h) (Or.inl ⟨by rfl, ?hy3⟩) (by assumption) ?rest3
  case hy3 => (intro u hu; obtain ⟨_, _, _, _⟩ := hu; go_simp; try with_reducible rfl)
  try simp only [Act.put, List.setIfInBounds_toArray, List.set_cons_zero, List.set_cons_succ, List.getElem_toArray, List.getElem_cons_zero, List.getElem_cons_succ]
  refine wpAnyH_take (i := 4) (v := ?v4) rfl (by kernel_rfl) (by kernel_rfl) (by kernel_rfl) (fun _ _ _ h => h) (Or.inl ⟨by rfl, ?hy4⟩) (by assumption) ?rest4
  case hy4 => (intro u hu; obtain ⟨_, _, _, _⟩ := hu; go_simp; try with_reducible rfl)
  try simp only [Act.put, List.setIfInBounds_toArray, List.set_cons_zero, List.set_cons_succ, List.getElem_toArray, List.getElem_cons_zero, List.getElem_cons_succ]
  refine wpAnyH_ready (rs := [5]) (by kernel_rfl) (by simp) ?_
  refine AllReadyH.cons rfl (fun K hK => ?_) AllReadyH.nil
  go_simp
  refine (HP.out _ _ _ H0.out (fun b hb => .inr hb)).mono ?_
  rintro e w1 ⟨rfl, hk1, ht1⟩
  go_wp2_with fail
  refine hK.out _ _ (HS.out ht1) (fun hHeld2 => ?_)
  clear hK K hHeld
  have hHeld := hHeld2
  clear hHeld2
  try simp only [Act.put, List.setIfInBounds_toArray, List.set_cons_zero, List.set_cons_succ, List.getElem_toArray, List.getElem_cons_zero, List.getElem_cons_succ]
  refine wpAnyH_take (i := 6) (v := ?v6) rfl (by kernel_rfl) (by kernel_rfl) (by kernel_rfl) (fun _ _ _ h => h) (Or.inl ⟨by rfl, ?hy6⟩) (by assumption) ?rest6
  case hy6 => (intro u hu; obtain ⟨_, _, _, _⟩ := hu; go_simp; try with_reducible rfl)
  try simp only [Act.put, List.setIfInBounds_toArray, List.set_cons_zero, List.set_cons_succ, List.getElem_toArray, List.getElem_cons_zero, List.getElem_cons_succ]
  refine wpAnyH_take (i := 7) (v := ?v7) rfl (by kernel_rfl) (by kernel_rfl) (by kernel_rfl) (fun _ _ _ h => h) (Or.inl ⟨by rfl, ?hy7⟩) (by assumption) ?rest7
  case hy7 => (intro u hu; obtain ⟨_, _, _, _⟩ := hu; go_simp; try with_reducible rfl)
  try simp only [Act.put, List.setIfInBounds_toArray, List.set_cons_zero, List.set_cons_succ, List.getElem_toArray, List.getElem_cons_zero, List.getElem_cons_succ]
  refine wpAnyH_done (by kernel_rfl) ?_ _
  refine NoPanic.normal ?_
  go_wp2_with fail
  go_ret2
  refine ⟨rfl, ⟨kb, h1, (HQ.out ht1).1, hk1.wide hG HW.out.size⟩, ?_⟩
  exact Turns.weak (Turns.wide (u := (w.alloc (.cells #[.string y.1, .int .i64 y.2.1, .int .i64 y.2.2] 27)).drew) hG HW.out.drew ht1) (fun b _ hf => hf.1)
theorem Push_empty {F : Where} {w : World} {hb : Nat} {L : List It} (h : HAt F w hb L) (y : It) (hne : y.1.toList.isEmpty = true) :
    Calls Try.prog 10 #[.pointer (some ⟨hb, 0, none⟩), vI y] w fun e w' => e = .returned (.tuple #[.bool false, .int .i64 2]) ∧ Below w.heap.size w w' := by
  obtain ⟨kb, h1, h2, h3⟩ := h
  have hbW : Below w.heap.size w (w.alloc (.cells #[.string y.1, .int .i64 y.2.1, .int .i64 y.2.2] 27)) := by go_grown
  have h2' := (hbW.block hb (block_lt h2)).trans h2
  have cW : (w.alloc (.cells #[.string y.1, .int .i64 y.2.1, .int .i64 y.2.2] 27)).cell? ⟨hb, 0, none⟩ = some (.pointer (some ⟨kb, 0, none⟩)) := by simp [World.cell?, h2']
  clear h2 h3 h2' h1 hbW
  go_enter Try.func10, Try.ntmps10
  go_wp2_with (go_at_call 28; refine (made_calls cW ⟨_, rfl⟩).mono ?_; rintro e w' ⟨rfl, rfl⟩)
  go_ret2
  exact ⟨rfl, by go_grown⟩
/-- Keys. -/
def sameK (x y : It) : Bool := x.1.toList == y.1.toList
theorem kl_iff (x y : It) : kl x = kl y ↔ sameK x y = true := by
  unfold kl sameK
  rw [ByteArray.toList_eq, ByteArray.toList_eq]
  simp
theorem sameK_refl (x : It) : sameK x x = true := by simp [sameK]
theorem sameK_symm (x y : It) : sameK x y = sameK y x := by
  cases h : sameK x y <;> cases k : sameK y x <;> simp_all [sameK]
theorem sameK_trans {x y z : It} (h : sameK x y = true) (k : sameK y z = true) : sameK x z = true := by
  simp [sameK] at *; rw [h, k]
/-- No key stands twice. -/
def DK (L : List It) : Prop := L.Pairwise (fun x y => sameK x y = false)
theorem DK.perm {L M : List It} (h : DK L) (p : L.Perm M) : DK M := by
  exact List.Pairwise.perm h p (fun {x y} e => by rw [sameK_symm]; exact e)
theorem Tells.dk {D : DataW Unit} {L : List It} (h : Tells D L) : DK L := by
  unfold DK
  rw [List.pairwise_iff_getElem]
  intro i j hi hj hij
  cases e : sameK L[i] L[j] with
  | false => rfl
  | true => have := h.inj hi hj ((kl_iff _ _).2 e); omega
theorem HAt.dk {F : Where} {w : World} {hb : Nat} {L : List It} (h : HAt F w hb L) : DK L := by
  obtain ⟨_, _, _, _, _, _, _, t⟩ := h
  exact t.dk
theorem HAt.ok {F : Where} {w : World} {hb : Nat} {L : List It} (h : HAt F w hb L) : ∀ x ∈ L, okI x := by
  obtain ⟨_, _, _, _, _, _, k, _⟩ := h
  exact k.ok
/-- A list without a key, and with an entry in the place of its key's. -/
def dropK (L : List It) (k : List UInt8) : List It := L.filter (fun x => !(x.1.toList == k))
def putK (L : List It) (y : It) : List It := dropK L y.1.toList ++ [y]
def hasK (L : List It) (k : List UInt8) : Bool := L.any (fun x => x.1.toList == k)
theorem dropK_none {L : List It} {k : List UInt8} (h : hasK L k = false) : dropK L k = L := by
  unfold dropK
  rw [List.filter_eq_self]
  intro x hx
  unfold hasK at h
  rw [List.any_eq_false] at h
  have := h x hx
  cases e : (x.1.toList == k)
  · rfl
  · exact absurd e this
theorem dropK_at {L : List It} (hd : DK L) {i : Nat} (hi : i < L.length) {k : List UInt8} (e : (L[i].1.toList == k) = true) : dropK L k = L.take i ++ L.drop (i + 1) := by
  have hk : k = L[i].1.toList := by simpa using (beq_iff_eq.1 e).symm
  have hL : L = L.take i ++ L[i] :: L.drop (i + 1) := by rw [← List.drop_eq_getElem_cons hi, List.take_append_drop]
  have hp : ∀ a b : Nat, (ha : a < L.length) → (hb : b < L.length) → a ≠ b → sameK L[a] L[b] = false := by
    intro a b ha hb hne
    have := List.pairwise_iff_getElem.1 hd
    rcases Nat.lt_or_ge a b with c | c
    · exact this a b ha hb c
    · rw [sameK_symm]; exact this b a hb ha (by omega)
  have h1 : ∀ x ∈ L.take i, (!(x.1.toList == k)) = true := by
    intro x hx
    obtain ⟨a, ha, rfl⟩ := List.mem_iff_getElem.1 hx
    rw [List.length_take] at ha
    rw [List.getElem_take, hk]
    have := hp a i (by omega) hi (by omega)
    unfold sameK at this
    rw [this]; rfl
  have h2 : ∀ x ∈ L.drop (i + 1), (!(x.1.toList == k)) = true := by
    intro x hx
    obtain ⟨a, ha, rfl⟩ := List.mem_iff_getElem.1 hx
    rw [List.length_drop] at ha
    rw [List.getElem_drop, hk]
    have := hp (i + 1 + a) i (by omega) hi (by omega)
    unfold sameK at this
    rw [this]; rfl
  unfold dropK
  conv => lhs; rw [hL]
  rw [List.filter_append, List.filter_cons, e, List.filter_eq_self.2 h1]
  simp only [Bool.not_true, Bool.false_eq_true, if_false]
  rw [List.filter_eq_self.2 h2]
theorem hasK_at {L : List It} {k : List UInt8} (h : hasK L k = true) : ∃ i, ∃ hi : i < L.length, (L[i].1.toList == k) = true := by
  unfold hasK at h
  rw [List.any_eq_true] at h
  obtain ⟨x, hx, e⟩ := h
  obtain ⟨i, hi, rfl⟩ := List.mem_iff_getElem.1 hx
  exact ⟨i, hi, e⟩
theorem hasK_of {L : List It} {k : List UInt8} {i : Nat} (hi : i < L.length) (e : (L[i].1.toList == k) = true) : hasK L k = true := by
  unfold hasK
  rw [List.any_eq_true]
  exact ⟨L[i], List.getElem_mem hi, e⟩
theorem set_putK {L : List It} (hd : DK L) {i : Nat} (hi : i < L.length) {y : It} (e : (L[i].1.toList == y.1.toList) = true) : (L.set i y).Perm (putK L y) := by
  unfold putK
  rw [dropK_at hd hi e, List.set_eq_take_append_cons_drop, if_pos hi, List.append_assoc]
  refine List.Perm.append_left _ ?_
  exact (List.perm_append_comm (l₁ := [y])).trans (List.Perm.refl _)
theorem drop_dropK {L M : List It} (hd : DK L) {i : Nat} (hi : i < L.length) {k : List UInt8} (e : (L[i].1.toList == k) = true) (h : (M ++ [at_ L i]).Perm L) : M.Perm (dropK L k) := by
  rw [dropK_at hd hi e]
  have hL : L = L.take i ++ L[i] :: L.drop (i + 1) := by rw [← List.drop_eq_getElem_cons hi, List.take_append_drop]
  rw [at_get hi] at h
  have h2 : (M ++ [L[i]]).Perm ((L.take i ++ L.drop (i + 1)) ++ [L[i]]) := by
    refine h.trans ?_
    conv => lhs; rw [hL]
    rw [List.append_assoc]
    exact List.Perm.append_left _ (List.perm_append_comm (l₁ := [L[i]]))
  exact (List.perm_append_right_iff _).1 h2
/-- Heap.Push at any key. -/
theorem Push_any {F : Where} {w : World} {hb : Nat} {L : List It} (h : HAt F w hb L) (hF : ∀ b, w.heap.size ≤ b → F b) (hL : L.length < 1000000000000) (hh : HeapL L) (y : It) (hy : okI y) (hne : y.1.toList.isEmpty = false) :
    Calls Try.prog 10 #[.pointer (some ⟨hb, 0, none⟩), vI y] w fun e w' => ∃ L', (e = .returned (.tuple #[.bool (hasK L y.1.toList), .int .i64 0]) ∧ HeapL L' ∧ L'.Perm (putK L y)) ∧ HAt F w' hb L' ∧ Turns F w w' := by
  cases hk : hasK L y.1.toList with
  | false =>
    have hnew : ∀ x ∈ L, kl x ≠ kl y := by
      intro x hx e
      obtain ⟨i, hi, rfl⟩ := List.mem_iff_getElem.1 hx
      have := hasK_of hi ((kl_iff _ _).1 e)
      rw [hk] at this; cases this
    have := Push_with (L' := pushL L y) (r := false) h hF y hne (fun G u kb q1 q2 => put_new q1 q2 hL y hy hnew)
    refine this.mono ?_
    rintro e w' ⟨rfl, k1, k2⟩
    have p := pushL_heap hh y
    exact ⟨_, ⟨rfl, p.1, by unfold putK; rw [dropK_none hk]; exact p.2⟩, k1, k2⟩
  | true =>
    obtain ⟨i, hi, e⟩ := hasK_at hk
    have := Push_with (L' := fixL (L.set i y).length (L.set i y) i) (r := true) h hF y hne (fun G u kb q1 q2 => put_old q1 hL y hy i hi ((kl_iff _ _).2 e))
    refine this.mono ?_
    rintro e' w' ⟨rfl, k1, k2⟩
    have p := fix_heap hh hi y
    exact ⟨_, ⟨rfl, p.1, p.2.trans (set_putK h.dk hi e)⟩, k1, k2⟩
/-- Heap.All. -/
theorem All_calls {F : Where} {w : World} {hb : Nat} {L : List It} (h : HAt F w hb L) (hL : L.length < 1000000000) :
    Calls Try.prog 19 #[.pointer (some ⟨hb, 0, none⟩)] w fun e w' => SortedRow w w' L.length e (stabF L) := by
  have hok := h.ok
  obtain ⟨kb, h1, h2, v, mb, D, h3, h4⟩ := h
  obtain ⟨a, cap, hv, hrow, _, _⟩ := row_of_owns (ok := okI) encI_len h3.row (by omega) hok
  have c0 := h3.c0
  rw [hv] at c0
  have c : w.cell? ⟨hb, 0, none⟩ = some (.pointer (some ⟨kb, 0, none⟩)) := by simp [World.cell?, h2]
  have HR : Hid (RowAt encI 3 okI w a L) := hrow
  clear h3 h4 h2 h1 hrow hv hok
  go_enter Try.func19, Try.ntmps19
  go_wp2_with (first
    | (go_at_call 28; refine (made_calls c ⟨_, rfl⟩).mono ?_; rintro e w' ⟨rfl, rfl⟩)
    | (go_at_call 23; refine (Sort_own a L.length cap L _ rfl HR.out hL).mono ?_; rintro e w1 ⟨a1, c1, rfl, H1⟩))
  go_ret
  exact ⟨a1, c1, rfl, H1⟩
end Go.Proofs.Ytgncpjplofacfaa
