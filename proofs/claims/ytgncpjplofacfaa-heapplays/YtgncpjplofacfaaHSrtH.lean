/- heap.Sort: the plain function. Condition: fewer than 1,000,000,000 entries. -/
import Derived.Test.YtgncpjplofacfaaHSrt
namespace Go.Proofs.Ytgncpjplofacfaa
open Go.RowKit Go.Maps
set_option linter.unusedSimpArgs false

theorem LsAt.rowAt {F : Where} {w : World} {g cap : Nat} {L : List It} (h : LsAt F w g cap L) (hb : L.length < 1000000000) : RowAt encI 3 okI w (some ⟨g, 0, none⟩) L := by
  obtain ⟨a, c, e, h1, _⟩ := row_of_owns (ok := okI) encI_len h.row (by omega) h.ok
  obtain ⟨rfl, rfl⟩ : a = some ⟨g, 0, none⟩ ∧ c = cap := by simp at e; exact ⟨e.1.symm, e.2.symm⟩
  exact h1
/-- A sorted list of its own is handed back. -/
def SortedRow (w w' : World) (n : Nat) (e : Ending) (M : List It) : Prop := ∃ a' c', e = .returned (.slice a' n c') ∧ RowAt encI 3 okI w' a' M ∧ Below w.heap.size w w' ∧ (n = 0 ∨ ∃ g, a' = some ⟨g, 0, none⟩ ∧ w.heap.size ≤ g ∧ LsAt (fun b => b = g) w' g c' M)
set_option maxHeartbeats 2000000 in
theorem Sort_own (a : Option Addr) (n cap : Nat) (L : List It) (w : World) (hn : L.length = n) (hL : RowAt encI 3 okI w a L) (hb : n < 1000000000) :
    Calls Try.prog 23 #[.slice a n cap] w fun e w' => SortedRow w w' n e (stabF L) := by
  rcases Nat.eq_zero_or_pos n with h0 | h0
  · subst h0
    have hz : L = [] := List.length_eq_zero_iff.1 hn
    have HL : Hid (RowAt encI 3 okI w a L) := hL
    clear hL
    go_enter Try.func23, Try.ntmps23
    go_wp2_with (first
      | (go_at_call 34; refine (Clone_calls a 0 cap L _ hn HL.out hb).mono ?_; rintro e w1 ⟨⟨v, rfl, ⟨_, a1, c1, rfl⟩ | ⟨h9, _⟩⟩, hb1⟩; rotate_left; exact absurd h9 (Nat.lt_irrefl _))
      | (go_at_call 33; refine (newList_calls a1 0 c1 _).mono ?_; rintro e w2 ⟨rfl, hb2⟩)
      | (go_at_call 35; refine (Stable_zero a1 c1 _ _).mono ?_; rintro e w3 ⟨rfl, hb3⟩; have b0 := (hb3.cell (p := ⟨w2.heap.size, 0, none⟩) (by simp)).trans (show _ = some (Value.slice a1 0 c1) by simp [go_sem])))
    go_ret
    refine ⟨_, _, rfl, ?_, on2 (on2 (on2 hb1 hb2) (by go_grown)) hb3, .inl rfl⟩
    rw [show stabF L = [] from List.length_eq_zero_iff.1 (by rw [stabF_length]; exact hn)]
    exact RowAt.nil _ _
  · have HL : Hid (RowAt encI 3 okI w a L) := hL
    have hne : ¬ L = [] := fun e => by rw [e] at hn; simp at hn; omega
    have HNE : Hid (¬ L = []) := hne
    clear hL hne
    go_enter Try.func23, Try.ntmps23
    go_wp2_with (first
      | (go_at_call 34; refine (Clone_calls a n cap L _ hn HL.out hb).mono ?_; rintro e w1 ⟨⟨v, rfl, ⟨h9, _⟩ | ⟨_, g, c1, rfl, hg, k1⟩⟩, hb1⟩; exact absurd h9 HNE.out; have H1 : Hid (LsAt (fun b => b = g) w1 g c1 L) := k1; clear k1)
      | (go_at_call 33; refine (newList_calls (some ⟨g, 0, none⟩) n c1 _).mono ?_; rintro e w2 ⟨rfl, hb2⟩)
      | (go_at_call 35; refine (Stable_calls (H1.out.grow (on2 hb2 (by go_grown))) hn hb).mono ?_; rintro e w3 ⟨rfl, k3, u3⟩; have hgl := H1.out.lt; have hs2 := hb2.size; have q3 := (u3.block w2.heap.size (by simp) (by show ¬ w2.heap.size = g; omega)).trans (heap_new w2 _ _ rfl); have b0 : w3.cell? ⟨w2.heap.size, 0, none⟩ = some (.slice (some ⟨g, 0, none⟩) n c1) := (by simp [World.cell?, q3])))
    go_ret
    refine ⟨_, _, rfl, k3.rowAt (by rw [stabF_length]; omega), ?_, .inr ⟨g, rfl, hg, k3⟩⟩
    exact Turns.behind (w := w2) (on2 hb1 hb2) ((Turns.below (by go_grown)).trans (u3.weak (fun b _ hf => (show w.heap.size ≤ b by rw [hf]; exact hg))))
theorem Sort_calls (a : Option Addr) (n cap : Nat) (L : List It) (w : World) (hn : L.length = n) (hL : RowAt encI 3 okI w a L) (hb : n < 1000000000) :
    Calls Try.prog 23 #[.slice a n cap] w fun e w' => (∃ a' c', e = .returned (.slice a' n c') ∧ RowAt encI 3 okI w' a' (stabF L)) ∧ Below w.heap.size w w' := by
  refine (Sort_own a n cap L w hn hL hb).mono ?_
  rintro e w' ⟨a', c', h1, h2, h3, _⟩
  exact ⟨⟨a', c', h1, h2⟩, h3⟩
end Go.Proofs.Ytgncpjplofacfaa
