/- Heap.Push at a new key, Heap.Pop: the plain functions. No condition. -/
import Derived.Test.YtgncpjplofacfaaHTop
namespace Go.Proofs.Ytgncpjplofacfaa
open Go.RowKit Go.Maps
set_option linter.unusedSimpArgs false

/-- What stays while an entry is put. -/
def HpS (hb kb b : Nat) (y : It) (u : World) : Prop := u.cell? ⟨hb, 0, none⟩ = some (.pointer (some ⟨kb, 0, none⟩)) ∧ u.cell? ⟨b, 0, none⟩ = some (.string y.1) ∧ u.cell? ⟨b, 1, none⟩ = some (.int .i64 y.2.1) ∧ u.cell? ⟨b, 2, none⟩ = some (.int .i64 y.2.2)
set_option maxHeartbeats 2000000 in
theorem Push_new {F : Where} {w : World} {hb : Nat} {L : List It} (h : HAt F w hb L) (hF : ∀ b, w.heap.size ≤ b → F b) (hL : L.length < 1000000000000) (y : It) (hy : okI y) (hne : y.1.toList.isEmpty = false) (hnew : ∀ x ∈ L, kl x ≠ kl y) :
    Calls Try.prog 10 #[.pointer (some ⟨hb, 0, none⟩), vI y] w fun e w' => e = .returned (.tuple #[.bool false, .int .i64 0]) ∧ HAt F w' hb (pushL L y) ∧ Turns F w w' := by
  obtain ⟨kb, h1, h2, h3⟩ := h
  have hbl := block_lt h2
  have hG : ∀ b, w.heap.size ≤ b → F b ∧ b ≠ hb := fun b hb' => ⟨hF b hb', by omega⟩
  have H0 : Hid (HK (Nar (fun b => F b ∧ b ≠ hb) w (w.alloc (.cells #[.string y.1, .int .i64 y.2.1, .int .i64 y.2.2] 27))) (w.alloc (.cells #[.string y.1, .int .i64 y.2.1, .int .i64 y.2.2] 27)).drew kb L) := (h3.nar (by go_grown)).drew
  have hbW : Below w.heap.size w (w.alloc (.cells #[.string y.1, .int .i64 y.2.1, .int .i64 y.2.2] 27)) := by go_grown
  have h2' := (hbW.block hb hbl).trans h2
  have HQ : Hid (∀ {u : World}, Turns (Nar (fun b => F b ∧ b ≠ hb) w (w.alloc (.cells #[.string y.1, .int .i64 y.2.1, .int .i64 y.2.2] 27))) (w.alloc (.cells #[.string y.1, .int .i64 y.2.1, .int .i64 y.2.2] 27)).drew u → u.heap[hb]? = some (.cells #[.pointer (some ⟨kb, 0, none⟩)] 52 (0, 0)) ∧ u.heap[w.heap.size]? = some (.cells #[.string y.1, .int .i64 y.2.1, .int .i64 y.2.2] 27 (0, 0))) := by
    intro u hu
    refine ⟨(hu.block hb (Nat.lt_of_lt_of_le hbl hbW.size) (fun hn => hn.elim (fun k => k.1.2 rfl) (fun k => by have := hbW.size; omega))).trans h2', ?_⟩
    exact (hu.block w.heap.size (by simp) (fun hn => hn.elim (fun k => by omega) (fun k => by simp at k; omega))).trans (heap_new w _ _ rfl)
  have HS : Hid (∀ {u : World}, Turns (Nar (fun b => F b ∧ b ≠ hb) w (w.alloc (.cells #[.string y.1, .int .i64 y.2.1, .int .i64 y.2.2] 27))) (w.alloc (.cells #[.string y.1, .int .i64 y.2.1, .int .i64 y.2.2] 27)).drew u → HpS hb kb w.heap.size y u) := by
    intro u hu
    obtain ⟨q1, q2⟩ := HQ.out hu
    exact ⟨by simp [World.cell?, q1], by simp [World.cell?, q2], by simp [World.cell?, q2], by simp [World.cell?, q2]⟩
  have cW : (w.alloc (.cells #[.string y.1, .int .i64 y.2.1, .int .i64 y.2.2] 27)).cell? ⟨hb, 0, none⟩ = some (.pointer (some ⟨kb, 0, none⟩)) := by simp [World.cell?, h2']
  have HW : Hid (Below w.heap.size w (w.alloc (.cells #[.string y.1, .int .i64 y.2.1, .int .i64 y.2.2] 27))) := hbW
  clear h2 h3 h2' hbW
  go_enter Try.func10, Try.ntmps10
  go_wp2_with (go_at_call 28; refine (made_calls cW ⟨_, rfl⟩).mono ?_; rintro e w' ⟨rfl, rfl⟩)
  refine wp_region_noPanic ?_
  refine wp_region_held_drew (S := HpS hb kb w.heap.size y) (by kernel_rfl) (HS.out (Turns.refl _ _)) (fun hHeld => ?_)
  refine wpAnyH_take (i := 0) (v := ?v0) rfl (by kernel_rfl) (by kernel_rfl) (by kernel_rfl) (fun _ _ _ h => h) (Or.inl ⟨by rfl, ?hy0⟩) (by assumption) ?rest0
  case hy0 => (intro u hu; obtain ⟨_, _, _, _⟩ := hu; go_simp; try with_reducible rfl)
  try simp only [Act.put, List.setIfInBounds_toArray, List.set_cons_zero, List.set_cons_succ, List.getElem_toArray, List.getElem_cons_zero, List.getElem_cons_succ]
  refine wpAnyH_take (i := 1) (v := ?v1) rfl (by kernel_rfl) (by kernel_rfl) (by kernel_rfl) (fun _ _ _ h => h) (Or.inl ⟨by rfl, ?hy1⟩) (by assumption) ?rest1
  case hy1 => (intro u hu; obtain ⟨_, _, _, _⟩ := hu; go_simp; try with_reducible rfl)
  try simp only [Act.put, List.setIfInBounds_toArray, List.set_cons_zero, List.set_cons_succ, List.getElem_toArray, List.getElem_cons_zero, List.getElem_cons_succ]
  refine wpAnyH_take (i := 2) (v := ?v2) rfl (by kernel_rfl) (by kernel_rfl) (by kernel_rfl) (fun _ _ _ h => h) (Or.inl ⟨by rfl, ?hy2⟩) (by assumption) ?rest2
  case hy2 => (intro u hu; obtain ⟨_, _, _, _⟩ := hu; go_simp; try with_reducible rfl)
  try simp only [Act.put, List.setIfInBounds_toArray, List.set_cons_zero, List.set_cons_succ, List.getElem_toArray, List.getElem_cons_zero, List.getElem_cons_succ]
  refine wpAnyH_take (i := 3) (v := ?v3) rfl (by kernel_rfl) (by kernel_rfl) (by kernel_rfl) (fun _ _ _ h => h) (Or.inl ⟨by rfl, ?hy3⟩) (by assumption) ?rest3
  case hy3 => (intro u hu; obtain ⟨_, _, _, _⟩ := hu; go_simp; try with_reducible rfl)
  try simp only [Act.put, List.setIfInBounds_toArray, List.set_cons_zero, List.set_cons_succ, List.getElem_toArray, List.getElem_cons_zero, List.getElem_cons_succ]
  refine wpAnyH_take (i := 4) (v := ?v4) rfl (by kernel_rfl) (by kernel_rfl) (by kernel_rfl) (fun _ _ _ h => h) (Or.inl ⟨by rfl, ?hy4⟩) (by assumption) ?rest4
  case hy4 => (intro u hu; obtain ⟨_, _, _, _⟩ := hu; go_simp; try with_reducible rfl)
  try simp only [Act.put, List.setIfInBounds_toArray, List.set_cons_zero, List.set_cons_succ, List.getElem_toArray, List.getElem_cons_zero, List.getElem_cons_succ]
  refine wpAnyH_ready (rs := [5]) (by kernel_rfl) (by simp) ?_
  refine AllReadyH.cons rfl (fun K hK => ?_) AllReadyH.nil
  go_simp
  refine (put_new H0.out (fun b hb => .inr hb) hL y hy hnew).mono ?_
  rintro e w1 ⟨rfl, hk1, ht1⟩
  go_wp2_with fail
  refine hK.out _ _ (HS.out ht1) (fun hHeld2 => ?_)
  clear hK K hHeld
  have hHeld := hHeld2
  clear hHeld2
  try simp only [Act.put, List.setIfInBounds_toArray, List.set_cons_zero, List.set_cons_succ, List.getElem_toArray, List.getElem_cons_zero, List.getElem_cons_succ]
  refine wpAnyH_take (i := 6) (v := ?v6) rfl (by kernel_rfl) (by kernel_rfl) (by kernel_rfl) (fun _ _ _ h => h) (Or.inl ⟨by rfl, ?hy6⟩) (by assumption) ?rest6
  case hy6 => (intro u hu; obtain ⟨_, _, _, _⟩ := hu; go_simp; try with_reducible rfl)
  try simp only [Act.put, List.setIfInBounds_toArray, List.set_cons_zero, List.set_cons_succ, List.getElem_toArray, List.getElem_cons_zero, List.getElem_cons_succ]
  refine wpAnyH_take (i := 7) (v := ?v7) rfl (by kernel_rfl) (by kernel_rfl) (by kernel_rfl) (fun _ _ _ h => h) (Or.inl ⟨by rfl, ?hy7⟩) (by assumption) ?rest7
  case hy7 => (intro u hu; obtain ⟨_, _, _, _⟩ := hu; go_simp; try with_reducible rfl)
  try simp only [Act.put, List.setIfInBounds_toArray, List.set_cons_zero, List.set_cons_succ, List.getElem_toArray, List.getElem_cons_zero, List.getElem_cons_succ]
  refine wpAnyH_done (by kernel_rfl) ?_ _
  refine NoPanic.normal ?_
  go_wp2_with fail
  go_ret2
  refine ⟨rfl, ⟨kb, h1, (HQ.out ht1).1, hk1.wide hG HW.out.size⟩, ?_⟩
  exact Turns.weak (Turns.wide (u := (w.alloc (.cells #[.string y.1, .int .i64 y.2.1, .int .i64 y.2.2] 27)).drew) hG HW.out.drew ht1) (fun b _ hf => hf.1)

set_option maxHeartbeats 2000000 in
theorem HPop_calls {F : Where} {w : World} {hb : Nat} {L : List It} (h : HAt F w hb L) (hF : ∀ b, w.heap.size ≤ b → F b) (hL : L.length < 1000000000000) (h0 : 0 < L.length) :
    Calls Try.prog 13 #[.pointer (some ⟨hb, 0, none⟩)] w fun e w' => e = .returned (.tuple #[vI (at_ L 0), .int .i64 0]) ∧ HAt F w' hb (lastL L 0).dropLast ∧ Turns F w w' := by
  obtain ⟨kb, h1, h2, h3⟩ := h
  have hbl := block_lt h2
  have hG : ∀ b, w.heap.size ≤ b → F b ∧ b ≠ hb := fun b hb' => ⟨hF b hb', by omega⟩
  have H3 : Hid (HK (fun b => F b ∧ b ≠ hb) w kb L) := h3
  have hbW : Below w.heap.size w (w.alloc (.cells #[.string ⟨#[]⟩, .int .i64 0, .int .i64 0] 27)) := by go_grown
  have h2' := (hbW.block hb hbl).trans h2
  obtain ⟨v, mb, D, hk, _⟩ := h3.grow hbW
  obtain ⟨a, cap, rfl, _⟩ := hk.len
  have k0 := hk.c0
  have k1 := hk.c1
  have hkl := hk.lt
  have cW : (w.alloc (.cells #[.string ⟨#[]⟩, .int .i64 0, .int .i64 0] 27)).cell? ⟨hb, 0, none⟩ = some (.pointer (some ⟨kb, 0, none⟩)) := by simp [World.cell?, h2']
  have HQ : Hid (∀ {u w1 : World}, Below (w.alloc (.cells #[.string ⟨#[]⟩, .int .i64 0, .int .i64 0] 27)).heap.size (w.alloc (.cells #[.string ⟨#[]⟩, .int .i64 0, .int .i64 0] 27)) u → Turns (Nar (fun b => F b ∧ b ≠ hb) w u) u w1 → w1.heap[hb]? = some (.cells #[.pointer (some ⟨kb, 0, none⟩)] 52 (0, 0)) ∧ w1.heap[w.heap.size]? = some (.cells #[.string ⟨#[]⟩, .int .i64 0, .int .i64 0] 27 (0, 0))) := by
    intro u w1 hu ht
    have hs := hu.size
    have hsW : (w.alloc (.cells #[.string ⟨#[]⟩, .int .i64 0, .int .i64 0] 27)).heap.size = w.heap.size + 1 := by simp
    refine ⟨(ht.block hb (by omega) (fun hn => hn.elim (fun k => k.1.2 rfl) (fun k => by omega))).trans ((hu.block hb (by omega)).trans h2'), ?_⟩
    exact (ht.block w.heap.size (by omega) (fun hn => hn.elim (fun k => by omega) (fun k => by omega))).trans ((hu.block w.heap.size (by omega)).trans (heap_new w _ _ rfl))
  have hL0 : ¬ (L.length : Int) = 0 := by omega
  have HW : Hid (Below w.heap.size w (w.alloc (.cells #[.string ⟨#[]⟩, .int .i64 0, .int .i64 0] 27))) := hbW
  clear h2 h3 h2' hbW hk
  go_enter Try.func13, Try.ntmps13
  go_wp2_with (first
    | (go_at_call 28; refine (made_calls cW ⟨_, rfl⟩).mono ?_; rintro e w' ⟨rfl, rfl⟩)
    | (go_at_call 30; refine (Len_calls a L.length cap _ _).mono ?_; rintro e w2 ⟨rfl, hb2⟩; have cW2 := (hb2.cell (p := ⟨hb, 0, none⟩) (by simp; omega)).trans cW)
    | (go_at_call 31; refine (take_calls (H3.out.nar (on2 HW.out hb2)) (fun b hb => .inr hb) hL 0 h0).mono ?_; rintro e w3 ⟨rfl, hk3, ht3⟩; obtain ⟨q1, q2⟩ := HQ.out hb2 ht3; have r0 : w3.cell? ⟨w.heap.size, 0, none⟩ = some (.string ⟨#[]⟩) := (by simp [World.cell?, q2]); have r1 : w3.cell? ⟨w.heap.size, 1, none⟩ = some (.int .i64 0) := (by simp [World.cell?, q2]); have r2 : w3.cell? ⟨w.heap.size, 2, none⟩ = some (.int .i64 0) := (by simp [World.cell?, q2]); have f0 : w3.frozen? ⟨w.heap.size, 0, none⟩ = false := (by simp [World.frozen?, q2]); have f1 : w3.frozen? ⟨w.heap.size, 1, none⟩ = false := (by simp [World.frozen?, q2]); have f2 : w3.frozen? ⟨w.heap.size, 2, none⟩ = false := (by simp [World.frozen?, q2])))
  have hs2 := (on2 HW.out hb2).size
  have hs3 := hb2.size
  have hsW : (w.alloc (.cells #[.string ⟨#[]⟩, .int .i64 0, .int .i64 0] 27)).heap.size = w.heap.size + 1 := by simp
  refine bodyPost_ret (v := .tuple #[vI (at_ L 0), .int .i64 0]) (by simp [results, Try.results13, go_sem, r0, r1, r2]) rfl ⟨rfl, ⟨kb, h1, ?_, HK.wide hG hs2 (hk3.on3 (fun hn => hn.elim (fun k => by omega) (fun k => by omega)))⟩, ?_⟩
  · have hne : hb ≠ w.heap.size := by omega
    rw [heap_setCell_other _ ⟨w.heap.size, 2, none⟩ hb _ hne, heap_setCell_other _ ⟨w.heap.size, 1, none⟩ hb _ hne, heap_setCell_other _ ⟨w.heap.size, 0, none⟩ hb _ hne]
    exact q1
  · exact (Turns.weak (Turns.wide hG (on2 HW.out hb2) ht3) (fun b _ hf => hf.1)).trans (((Turns.set (hF _ (Nat.le_refl _)) _).trans (Turns.set (hF _ (Nat.le_refl _)) _)).trans (Turns.set (hF _ (Nat.le_refl _)) _))
end Go.Proofs.Ytgncpjplofacfaa
