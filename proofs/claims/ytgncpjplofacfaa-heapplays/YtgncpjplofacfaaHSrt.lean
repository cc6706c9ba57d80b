/- slices.Clone, sort.Stable and heap.Sort over entries: the plain function. Condition: fewer than 1,000,000,000 entries. -/
import Derived.Test.YtgncpjplofacfaaHStab
import Derived.Test.YtgncpjplofacfaaHTop
namespace Go.Proofs.Ytgncpjplofacfaa
open Go.RowKit Go.Maps
set_option linter.unusedSimpArgs false

theorem infoI : (Try.prog.info? 27).map (fun i => (i.zero, i.size, i.bytes)) = some (some (.agg #[.string ⟨#[]⟩, .int .i64 0, .int .i64 0]), 3, 32) := by kernel_rfl
set_option maxHeartbeats 2000000 in
theorem Clone_calls (a : Option Addr) (n cap : Nat) (L : List It) (w : World) (hn : L.length = n) (hL : RowAt encI 3 okI w a L) (hb : n < 1000000000) :
    Calls Try.prog 34 #[.slice a n cap] w fun e w' => (∃ v, e = .returned v ∧ ((L = [] ∧ ∃ a' c', v = .slice a' 0 c') ∨ (0 < n ∧ ∃ g c', v = .slice (some ⟨g, 0, none⟩) n c' ∧ w.heap.size ≤ g ∧ LsAt (fun b => b = g) w' g c' L))) ∧ Below w.heap.size w w' := by
  match a with
  | none =>
    have hz := hL.none_nil
    have hE := fun w => Lib.run_eql_slice_nil (P := Try.prog) w 25 27 none n cap 0 0 Try.underlying25
    go_enter Try.func34, Try.ntmps34
    go_wp2_with fail
    go_ret
    exact ⟨⟨_, rfl, .inl ⟨hz, none, 0, rfl⟩⟩, Below.refl _ _⟩
  | some ad =>
    have hE := fun w => Lib.run_eql_slice_nil (P := Try.prog) w 25 27 (some ad) n cap 0 0 Try.underlying25
    have HX : Hid (∀ j y, (flatE encI L)[j]? = some y → (w.alloc (.cells #[] 27)).cell? (ad.add j) = some y) := flatE_cells encI_len (hL.on (by go_grown))
    have HLL : Hid (RowAt encI 3 okI w (some ad) L) := hL
    clear hL
    go_enter Try.func34, Try.ntmps34
    go_wp2_with (at_builtin; go_must (refine own_append (w0 := w) rfl _ _ 25 27 rfl _ 3 32 infoI Try.underlying25 rfl (by decide) (.slice (some ⟨w.heap.size, 0, none⟩) 0 0) 0 [] rfl (Own.start w w 27 3 (Below.refl _ _)) ad n cap (flatE encI L) rfl (by rw [flatE_length encI_len, hn]) HX.out (flatE_one encI_one L) (by unfold maxLen; omega) (by omega) ?_); intro v4 w4 hown4 hnil4)
    go_ret
    rw [Nat.zero_add, List.nil_append] at hown4
    refine ⟨⟨_, rfl, ?_⟩, hown4.1⟩
    rcases Nat.eq_zero_or_pos n with h0 | h0
    · refine .inl ⟨List.length_eq_zero_iff.1 (by omega), ?_⟩
      obtain ⟨_, ⟨e1, _⟩ | ⟨g, c', cur, e1, _⟩⟩ := hown4.2
      · exact ⟨none, 0, e1⟩
      · exact ⟨_, c', by rw [h0] at e1; exact e1⟩
    · refine .inr ⟨h0, ?_⟩
      obtain ⟨q1, ⟨_, e0⟩ | ⟨g, c', cur, e1, hB, hg, q3⟩⟩ := hown4.2
      · omega
      · refine ⟨g, c', e1, hB, ⟨rfl, ?_, HLL.out.2.1⟩⟩
        rw [hn]
        exact ⟨q1, .inr ⟨g, c', cur, rfl, Nat.zero_le _, hg, q3⟩⟩
theorem ins_zero (rv : Value) (w : World) : Calls Try.prog 45 #[.iface 58 rv, .int .i64 0, .int .i64 0] w fun e w' => e = .returned (.tuple #[]) ∧ w' = w := by
  go_enter Try.func45, Try.ntmps45
  go_wp2_with fail
  refine wp_loop_rounds 1 ?_
  rw [rounds_succ]
  go_wp2_with fail
  go_end0
  exact ⟨rfl, rfl⟩
theorem stable_zero (rv : Value) (w : World) : Calls Try.prog 41 #[.iface 58 rv, .int .i64 0] w fun e w' => e = .returned (.tuple #[]) ∧ w' = w := by
  go_enter Try.func41, Try.ntmps41
  go_wp2_with fail
  refine wp_loop_rounds 1 ?_
  rw [rounds_succ]
  go_wp2_with (go_at_call 45; refine (ins_zero rv _).mono ?_; rintro e w' ⟨rfl, rfl⟩)
  refine wp_loop_rounds 1 ?_
  rw [rounds_succ]
  go_wp2_with fail
  go_end0
  exact ⟨rfl, rfl⟩
theorem Stable_zero (a : Option Addr) (c : Nat) (f : Value) (w : World) : Calls Try.prog 35 #[.iface 58 (.agg #[.slice a 0 c, f])] w fun e w' => e = .returned (.tuple #[]) ∧ Below w.heap.size w w' := by
  go_enter Try.func35, Try.ntmps35
  go_wp2_with (first
    | (go_at_call 30; refine (Len_calls a 0 c f _).mono ?_; rintro e w1 ⟨rfl, hb1⟩)
    | (go_at_call 41; refine (stable_zero _ _).mono ?_; rintro e w' ⟨rfl, rfl⟩))
  go_end0
  exact ⟨rfl, hb1⟩
theorem Stable_calls {F : Where} {w : World} {g cap n : Nat} {L : List It} (h : LsAt F w g cap L) (hn : L.length = n) (hL : n < 1000000000) :
    Calls Try.prog 35 #[.iface 58 (Lv g n cap)] w fun e w' => e = .returned (.tuple #[]) ∧ LsAt F w' g cap (stabF L) ∧ Turns F w w' := by
  have HH : Hid (LsAt F w g cap L) := h
  clear h
  go_enter Try.func35, Try.ntmps35
  go_wp2_with (first
    | (go_at_call 30; refine (Len_calls (some ⟨g, 0, none⟩) n cap _ _).mono ?_; rintro e w1 ⟨rfl, hb1⟩)
    | (go_at_call 41; refine (stable_calls (HH.out.grow hb1) hn hL).mono ?_; rintro e w2 ⟨rfl, k2, u2⟩))
  go_end0
  exact ⟨rfl, k2, (Turns.below hb1).trans u2⟩
end Go.Proofs.Ytgncpjplofacfaa
