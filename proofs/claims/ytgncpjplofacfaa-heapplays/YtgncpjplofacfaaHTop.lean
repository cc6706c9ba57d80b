/- heap.New, and Heap's Push at a new key, Pop, Len: the plain functions. No condition. -/
import Derived.Test.YtgncpjplofacfaaHTake
import Derived.Laws.EntriesVeiled
namespace Go.Proofs.Ytgncpjplofacfaa
open Go.RowKit Go.Maps
set_option linter.unusedSimpArgs false

/-- A heap. -/
def HAt (F : Where) (w : World) (hb : Nat) (L : List It) : Prop := ∃ kb, F hb ∧ w.heap[hb]? = some (.cells #[.pointer (some ⟨kb, 0, none⟩)] 52 (0, 0)) ∧ HK (fun b => F b ∧ b ≠ hb) w kb L
theorem HAt.weak {F G : Where} {w : World} {hb : Nat} {L : List It} (h : HAt F w hb L) (k : ∀ b, b < w.heap.size → F b → G b) : HAt G w hb L := by
  obtain ⟨kb, h1, h2, h3⟩ := h
  exact ⟨kb, k _ (block_lt h2) h1, h2, h3.weak (fun b hb hf => ⟨k b hb hf.1, hf.2⟩)⟩
theorem HAt.grow {F : Where} {w w' : World} {hb : Nat} {L : List It} (h : HAt F w hb L) (hw : Below w.heap.size w w') : HAt F w' hb L := by
  obtain ⟨kb, h1, h2, h3⟩ := h
  exact ⟨kb, h1, (hw.block hb (block_lt h2)).trans h2, h3.grow hw⟩
theorem newList_calls (a : Option Addr) (n c : Nat) (w : World) : Calls Try.prog 33 #[.slice a n c] w fun e w' => e = .returned (.agg #[.slice a n c, .func (.func 36) #[] #[]]) ∧ Below w.heap.size w w' := by
  go_enter Try.func33, Try.ntmps33
  go_wp2
  refine bodyPost_ret (v := .agg #[.slice a n c, .func (.func 36) #[] #[]]) (by simp [results, Try.results33, go_sem]) rfl ⟨rfl, by go_grown⟩
theorem newKeyed_calls (w : World) : Calls Try.prog 27 #[] w fun e w' => ∃ kb, e = .returned (.pointer (some ⟨kb, 0, none⟩)) ∧ HK (Fresh w) w' kb [] ∧ Below w.heap.size w w' := by
  have hmm := @run_makeMap Try.prog
  go_enter Try.func27, Try.ntmps27
  go_wp2_with (go_at_call 33; refine (newList_calls none 0 0 _).mono ?_; rintro e w1 ⟨rfl, hb1⟩)
  go_ret
  have hs := hb1.size
  refine ⟨_, rfl, ⟨.slice none 0 0, w1.heap.size, .map [], ⟨?_, ?_, ?_, ?_, ?_, ?_, ?_⟩, Tells.nil⟩, on2 hb1 (by go_grown)⟩
  · show w.heap.size ≤ _; omega
  · show w.heap.size ≤ _; omega
  · intro b hb; simp [Value.ownBlock] at hb
  · exact heap_new _ _ _ (by simp)
  · exact ⟨by simp [flatE], .inl ⟨rfl, rfl⟩⟩
  · exact (World.ownsMap_made w1 _ _ _).alloc _
  · intro x hx; simp at hx
theorem New_calls (w : World) : Calls Try.prog 8 #[] w fun e w' => ∃ hb, e = .returned (.pointer (some ⟨hb, 0, none⟩)) ∧ HAt (Fresh w) w' hb [] ∧ Below w.heap.size w w' := by
  go_enter Try.func8, Try.ntmps8
  go_wp2_with (go_at_call 27; refine (newKeyed_calls _).mono ?_; rintro e w1 ⟨kb, rfl, hk1, hb1⟩)
  go_ret
  have hs := hb1.size
  refine ⟨_, rfl, ⟨kb, ?_, heap_new _ _ _ rfl, (hk1.weak (fun b hb hf => ⟨hf, by omega⟩)).grow (by go_grown)⟩, on2 hb1 (by go_grown)⟩
  show w.heap.size ≤ _; omega
theorem made_calls {w : World} {hb : Nat} {v : Value} (h : w.cell? ⟨hb, 0, none⟩ = some v) (hv : ∃ kb, v = .pointer (some ⟨kb, 0, none⟩)) : Calls Try.prog 28 #[.pointer (some ⟨hb, 0, none⟩)] w fun e w' => e = .returned (.bool true) ∧ w' = w := by
  obtain ⟨kb, rfl⟩ := hv
  go_enter Try.func28, Try.ntmps28
  go_wp2
  go_ret
  exact ⟨rfl, rfl⟩
theorem HLen_calls {F : Where} {w : World} {hb : Nat} {L : List It} (h : HAt F w hb L) : Calls Try.prog 20 #[.pointer (some ⟨hb, 0, none⟩)] w fun e w' => e = .returned (.int .i64 (L.length : Int)) ∧ Below w.heap.size w w' := by
  obtain ⟨kb, h1, h2, v, mb, D, h3, h4⟩ := h
  obtain ⟨a, cap, rfl, _⟩ := h3.len
  have c0 := h3.c0
  have c1 := h3.c1
  have c : w.cell? ⟨hb, 0, none⟩ = some (.pointer (some ⟨kb, 0, none⟩)) := by simp [World.cell?, h2]
  clear h3 h4 h2 h1
  go_enter Try.func20, Try.ntmps20
  go_wp2_with (first
    | (go_at_call 28; refine (made_calls c ⟨_, rfl⟩).mono ?_; rintro e w' ⟨rfl, rfl⟩)
    | (go_at_call 30; refine (Len_calls a L.length cap _ _).mono ?_; rintro e w' ⟨rfl, hb1⟩))
  go_ret
  exact ⟨rfl, hb1⟩
end Go.Proofs.Ytgncpjplofacfaa
