/- slices.Clone, sort.Stable and heap.Sort over entries: the plain function. Condition: fewer than 1,000,000,000 entries. heap.Sort: the plain function. Condition: fewer than 1,000,000,000 entries. keyed.put at a key that is there, Heap.Push at any key, Heap.All: the plain functions; a heap and what lies beside it. No condition. The document's own sort: what it makes of a list is what the program's sort makes of it. Plain mathematics. No condition. The document's Ahead and Sort; the law's 'same': what they return. Condition: fewer than 1,000,000,000 entries. -/
import Derived.Test.YtbmejaailhjgfaaGreatQ08
import Derived.Test.YtbmejaailhjgfaaGreatQ09
import Derived.Test.YtbmejaailhjgfaaGreatQ10
namespace Go.Proofs.YtbmejaailhjgfaaGreat
open Go.RowKit Go.Maps
set_option linter.unusedSimpArgs false
set_option maxRecDepth 100000

theorem infoI : (Tryz.prog.info? 67).map (fun i => (i.zero, i.size, i.bytes)) = some (some (.agg #[.string ⟨#[]⟩, .int .i64 0, .int .i64 0]), 3, 32) := by kernel_rfl
set_option maxHeartbeats 2000000 in
theorem Clone_calls (a : Option Addr) (n cap : Nat) (L : List It) (w : World) (hn : L.length = n) (hL : RowAt encI 3 okI w a L) (hb : n < 1000000000) :
    Calls Tryz.prog 79 #[.slice a n cap] w fun e w' => (∃ v, e = .returned v ∧ ((L = [] ∧ ∃ a' c', v = .slice a' 0 c') ∨ (0 < n ∧ ∃ g c', v = .slice (some ⟨g, 0, none⟩) n c' ∧ w.heap.size ≤ g ∧ LsAt (fun b => b = g) w' g c' L))) ∧ Below w.heap.size w w' := by
  match a with
  | none =>
    have hz := hL.none_nil
    have hE := fun w => Lib.run_eql_slice_nil (P := Tryz.prog) w 88 67 none n cap 0 0 Tryz.underlying88
    go_enter Tryz.func79, Tryz.ntmps79
    go_wp2_with fail
    go_ret
    exact ⟨⟨_, rfl, .inl ⟨hz, none, 0, rfl⟩⟩, Below.refl _ _⟩
  | some ad =>
    have hE := fun w => Lib.run_eql_slice_nil (P := Tryz.prog) w 88 67 (some ad) n cap 0 0 Tryz.underlying88
    have HX : Hid (∀ j y, (flatE encI L)[j]? = some y → (w.alloc (.cells #[] 67)).cell? (ad.add j) = some y) := flatE_cells encI_len (hL.on (by go_grown))
    have HLL : Hid (RowAt encI 3 okI w (some ad) L) := hL
    clear hL
    go_enter Tryz.func79, Tryz.ntmps79
    go_wp2_with (at_builtin; go_must (refine own_append (w0 := w) rfl _ _ 88 67 rfl _ 3 32 infoI Tryz.underlying88 rfl (by decide) (.slice (some ⟨w.heap.size, 0, none⟩) 0 0) 0 [] rfl (Own.start w w 67 3 (Below.refl _ _)) ad n cap (flatE encI L) rfl (by rw [flatE_length encI_len, hn]) HX.out (flatE_one encI_one L) (by unfold maxLen; omega) (by omega) ?_); intro v4 w4 hown4 hnil4)
    go_ret
    rw [Nat.zero_add, List.nil_append] at hown4
    refine ⟨⟨_, rfl, ?_⟩, hown4.1⟩
    rcases Nat.eq_zero_or_pos n with h0 | h0
    · refine .inl ⟨List.length_eq_zero_iff.1 (by omega), ?_⟩
      obtain ⟨_, ⟨e1, _⟩ | ⟨g, c', cur, e1, _⟩⟩ := hown4.2
      · exact ⟨none, 0, e1⟩
      · exact ⟨_, c', by rw [h0] at e1; exact e1⟩
    · refine .inr ⟨h0, ?_⟩
      obtain ⟨q1, ⟨_, e0⟩ | ⟨g, c', cur, e1, hB, hg, q3⟩⟩ := hown4.2
      · omega
      · refine ⟨g, c', e1, hB, ⟨rfl, ?_, HLL.out.2.1⟩⟩
        rw [hn]
        exact ⟨q1, .inr ⟨g, c', cur, rfl, Nat.zero_le _, hg, q3⟩⟩
theorem ins_zero (rv : Value) (w : World) : Calls Tryz.prog 117 #[.iface 99 rv, .int .i64 0, .int .i64 0] w fun e w' => e = .returned (.tuple #[]) ∧ w' = w := by
  go_enter Tryz.func117, Tryz.ntmps117
  go_wp2_with fail
  refine wp_loop_rounds 1 ?_
  rw [rounds_succ]
  go_wp2_with fail
  go_end0
  exact ⟨rfl, rfl⟩
theorem stable_zero (rv : Value) (w : World) : Calls Tryz.prog 110 #[.iface 99 rv, .int .i64 0] w fun e w' => e = .returned (.tuple #[]) ∧ w' = w := by
  go_enter Tryz.func110, Tryz.ntmps110
  go_wp2_with fail
  refine wp_loop_rounds 1 ?_
  rw [rounds_succ]
  go_wp2_with (go_at_call 117; refine (ins_zero rv _).mono ?_; rintro e w' ⟨rfl, rfl⟩)
  refine wp_loop_rounds 1 ?_
  rw [rounds_succ]
  go_wp2_with fail
  go_end0
  exact ⟨rfl, rfl⟩
theorem Stable_zero (a : Option Addr) (c : Nat) (f : Value) (w : World) : Calls Tryz.prog 92 #[.iface 99 (.agg #[.slice a 0 c, f])] w fun e w' => e = .returned (.tuple #[]) ∧ Below w.heap.size w w' := by
  go_enter Tryz.func92, Tryz.ntmps92
  go_wp2_with (first
    | (go_at_call 58; refine (Len_calls a 0 c f _).mono ?_; rintro e w1 ⟨rfl, hb1⟩)
    | (go_at_call 110; refine (stable_zero _ _).mono ?_; rintro e w' ⟨rfl, rfl⟩))
  go_end0
  exact ⟨rfl, hb1⟩
theorem Stable_calls {F : Where} {w : World} {g cap n : Nat} {L : List It} (h : LsAt F w g cap L) (hn : L.length = n) (hL : n < 1000000000) :
    Calls Tryz.prog 92 #[.iface 99 (Lv g n cap)] w fun e w' => e = .returned (.tuple #[]) ∧ LsAt F w' g cap (stabF L) ∧ Turns F w w' := by
  have HH : Hid (LsAt F w g cap L) := h
  clear h
  go_enter Tryz.func92, Tryz.ntmps92
  go_wp2_with (first
    | (go_at_call 58; refine (Len_calls (some ⟨g, 0, none⟩) n cap _ _).mono ?_; rintro e w1 ⟨rfl, hb1⟩)
    | (go_at_call 110; refine (stable_calls (HH.out.grow hb1) hn hL).mono ?_; rintro e w2 ⟨rfl, k2, u2⟩))
  go_end0
  exact ⟨rfl, k2, (Turns.below hb1).trans u2⟩
end Go.Proofs.YtbmejaailhjgfaaGreat
namespace Go.Proofs.YtbmejaailhjgfaaGreat
open Go.RowKit Go.Maps
set_option linter.unusedSimpArgs false
set_option maxRecDepth 100000

theorem LsAt.rowAt {F : Where} {w : World} {g cap : Nat} {L : List It} (h : LsAt F w g cap L) (hb : L.length < 1000000000) : RowAt encI 3 okI w (some ⟨g, 0, none⟩) L := by
  obtain ⟨a, c, e, h1, _⟩ := row_of_owns (ok := okI) encI_len h.row (by omega) h.ok
  obtain ⟨rfl, rfl⟩ : a = some ⟨g, 0, none⟩ ∧ c = cap := by simp at e; exact ⟨e.1.symm, e.2.symm⟩
  exact h1
/-- A sorted list of its own is handed back. -/
def SortedRow (w w' : World) (n : Nat) (e : Ending) (M : List It) : Prop := ∃ a' c', e = .returned (.slice a' n c') ∧ RowAt encI 3 okI w' a' M ∧ Below w.heap.size w w' ∧ (n = 0 ∨ ∃ g, a' = some ⟨g, 0, none⟩ ∧ w.heap.size ≤ g ∧ LsAt (fun b => b = g) w' g c' M)
set_option maxHeartbeats 2000000 in
theorem Sort_own (a : Option Addr) (n cap : Nat) (L : List It) (w : World) (hn : L.length = n) (hL : RowAt encI 3 okI w a L) (hb : n < 1000000000) :
    Calls Tryz.prog 72 #[.slice a n cap] w fun e w' => SortedRow w w' n e (stabF L) := by
  rcases Nat.eq_zero_or_pos n with h0 | h0
  · subst h0
    have hz : L = [] := List.length_eq_zero_iff.1 hn
    have HL : Hid (RowAt encI 3 okI w a L) := hL
    clear hL
    go_enter Tryz.func72, Tryz.ntmps72
    go_wp2_with (first
      | (go_at_call 79; refine (Clone_calls a 0 cap L _ hn HL.out hb).mono ?_; rintro e w1 ⟨⟨v, rfl, ⟨_, a1, c1, rfl⟩ | ⟨h9, _⟩⟩, hb1⟩; rotate_left; exact absurd h9 (Nat.lt_irrefl _))
      | (go_at_call 73; refine (newList_calls a1 0 c1 _).mono ?_; rintro e w2 ⟨rfl, hb2⟩)
      | (go_at_call 92; refine (Stable_zero a1 c1 _ _).mono ?_; rintro e w3 ⟨rfl, hb3⟩; have b0 := (hb3.cell (p := ⟨w2.heap.size, 0, none⟩) (by simp)).trans (show _ = some (Value.slice a1 0 c1) by simp [go_sem])))
    go_ret
    refine ⟨_, _, rfl, ?_, on2 (on2 (on2 hb1 hb2) (by go_grown)) hb3, .inl rfl⟩
    rw [show stabF L = [] from List.length_eq_zero_iff.1 (by rw [stabF_length]; exact hn)]
    exact RowAt.nil _ _
  · have HL : Hid (RowAt encI 3 okI w a L) := hL
    have hne : ¬ L = [] := fun e => by rw [e] at hn; simp at hn; omega
    have HNE : Hid (¬ L = []) := hne
    clear hL hne
    go_enter Tryz.func72, Tryz.ntmps72
    go_wp2_with (first
      | (go_at_call 79; refine (Clone_calls a n cap L _ hn HL.out hb).mono ?_; rintro e w1 ⟨⟨v, rfl, ⟨h9, _⟩ | ⟨_, g, c1, rfl, hg, k1⟩⟩, hb1⟩; exact absurd h9 HNE.out; have H1 : Hid (LsAt (fun b => b = g) w1 g c1 L) := k1; clear k1)
      | (go_at_call 73; refine (newList_calls (some ⟨g, 0, none⟩) n c1 _).mono ?_; rintro e w2 ⟨rfl, hb2⟩)
      | (go_at_call 92; refine (Stable_calls (H1.out.grow (on2 hb2 (by go_grown))) hn hb).mono ?_; rintro e w3 ⟨rfl, k3, u3⟩; have hgl := H1.out.lt; have hs2 := hb2.size; have q3 := (u3.block w2.heap.size (by simp) (by show ¬ w2.heap.size = g; omega)).trans (heap_new w2 _ _ rfl); have b0 : w3.cell? ⟨w2.heap.size, 0, none⟩ = some (.slice (some ⟨g, 0, none⟩) n c1) := (by simp [World.cell?, q3])))
    go_ret
    refine ⟨_, _, rfl, k3.rowAt (by rw [stabF_length]; omega), ?_, .inr ⟨g, rfl, hg, k3⟩⟩
    exact Turns.behind (w := w2) (on2 hb1 hb2) ((Turns.below (by go_grown)).trans (u3.weak (fun b _ hf => (show w.heap.size ≤ b by rw [hf]; exact hg))))
theorem Sort_calls (a : Option Addr) (n cap : Nat) (L : List It) (w : World) (hn : L.length = n) (hL : RowAt encI 3 okI w a L) (hb : n < 1000000000) :
    Calls Tryz.prog 72 #[.slice a n cap] w fun e w' => (∃ a' c', e = .returned (.slice a' n c') ∧ RowAt encI 3 okI w' a' (stabF L)) ∧ Below w.heap.size w w' := by
  refine (Sort_own a n cap L w hn hL hb).mono ?_
  rintro e w' ⟨a', c', h1, h2, h3, _⟩
  exact ⟨⟨a', c', h1, h2⟩, h3⟩
end Go.Proofs.YtbmejaailhjgfaaGreat
namespace Go.Proofs.YtbmejaailhjgfaaGreat
open Go.RowKit Go.Maps
set_option linter.unusedSimpArgs false
set_option maxRecDepth 100000

theorem Tells.set {D : DataW Unit} {L : List It} (h : Tells D L) {i : Nat} (hi : i < L.length) {y : It} (e : kl L[i] = kl y) : Tells D (L.set i y) := by
  have hk : ∀ t (ht : t < (L.set i y).length), kl (L.set i y)[t] = kl (L[t]'(by simpa using ht)) := by
    intro t ht
    rw [List.getElem_set]
    split
    · rename_i c; subst c; exact e.symm
    · rfl
  refine ⟨by rw [List.length_set]; exact h.1, fun t ht => ?_, fun k hk' => ?_⟩
  · rw [hk t ht]
    exact h.2.1 t (by simpa using ht)
  · obtain ⟨t, ht, e'⟩ := h.2.2 k hk'
    exact ⟨t, by simpa using ht, by rw [hk t (by simpa using ht)]; exact e'⟩
set_option maxHeartbeats 4000000 in
theorem put_old {F : Where} {w : World} {kb : Nat} {L : List It} (h : HK F w kb L) (hL : L.length < 1000000000000) (y : It) (hy : okI y) (i : Nat) (hi : i < L.length) (hold : kl L[i] = kl y) :
    Calls Tryz.prog 74 #[.pointer (some ⟨kb, 0, none⟩), vI y] w fun e w' => e = .returned (.bool true) ∧ HK F w' kb (fixL (L.set i y).length (L.set i y) i) ∧ Turns F w w' := by
  obtain ⟨v, mb, D, hk0, ht⟩ := h
  have hk : KAt F (w.alloc (.cells #[.string y.1, .int .i64 y.2.1, .int .i64 y.2.2] 67)).drew kb v mb L.length D L := (hk0.grow (by go_grown)).drew
  have hkl0 : kb < w.heap.size := hk0.lt
  obtain ⟨c, hlk, hat⟩ := hk.look y hy
  have hyes := ht.2.1 i hi
  rw [hold] at hyes
  rw [hyes.2] at hat
  obtain rfl : (i : Int) = c := by simpa using hat
  rw [hyes.1] at hlk
  have HS0 : Hid (PtS kb mb w.heap.size y.1 (.tuple #[.int .i64 (i : Int), .bool true]) (w.alloc (.cells #[.string y.1, .int .i64 y.2.1, .int .i64 y.2.2] 67)).drew) := ⟨hk.c2, by simp [go_sem], hlk⟩
  have HT0 : Hid (Turns F w (w.alloc (.cells #[.string y.1, .int .i64 y.2.1, .int .i64 y.2.2] 67)).drew) := (Turns.alloc _ _ _).trans (Turns.drew _ _)
  obtain ⟨g, cap, hv, hcp, hg, hgk, hgm, hFg, hc⟩ := hk.sl (by omega)
  have HU : Hid (HK F (putI (w.alloc (.cells #[.string y.1, .int .i64 y.2.1, .int .i64 y.2.2] 67)).drew g i y) kb (L.set i y) ∧ Turns F (w.alloc (.cells #[.string y.1, .int .i64 y.2.1, .int .i64 y.2.2] 67)).drew (putI (w.alloc (.cells #[.string y.1, .int .i64 y.2.1, .int .i64 y.2.2] 67)).drew g i y)) := by
    have k := hk.items (g := g) (by rw [hv]; rfl) hi hy
    exact ⟨HK.of k.1 (ht.set hi hold), k.2⟩
  have c0 := hk.c0
  rw [hv] at c0
  have ci := hc i hi
  have HB0 : Hid ((w.alloc (.cells #[.string y.1, .int .i64 y.2.1, .int .i64 y.2.2] 67)).drew.cell? ⟨w.heap.size, 0, none⟩ = some (.string y.1) ∧ (w.alloc (.cells #[.string y.1, .int .i64 y.2.1, .int .i64 y.2.2] 67)).drew.cell? ⟨w.heap.size, 1, none⟩ = some (.int .i64 y.2.1) ∧ (w.alloc (.cells #[.string y.1, .int .i64 y.2.1, .int .i64 y.2.2] 67)).drew.cell? ⟨w.heap.size, 2, none⟩ = some (.int .i64 y.2.2)) := ⟨by simp [go_sem], by simp [go_sem], by simp [go_sem]⟩
  have hgw : ¬ g = w.heap.size := by
    obtain ⟨g', cap', hv', _, hg', _⟩ := hk0.sl (by omega)
    rw [hv] at hv'
    simp at hv'
    omega
  have hgw' : ¬ w.heap.size = g := fun e => hgw e.symm
  have hkw : ¬ kb = w.heap.size := by omega
  have hkw' : ¬ w.heap.size = kb := by omega
  have hii : (i : Int) < (L.length : Int) := by omega
  clear hk hk0 ht hlk hc hat hyes hv
  go_enter Tryz.func74, Tryz.ntmps74
  go_wp2_with fail
  refine wp_region_noPanic ?_
  refine wp_region_held_drew (S := PtS kb mb w.heap.size y.1 (.tuple #[.int .i64 (i : Int), .bool true])) (by kernel_rfl) (HS0.out) (fun hHeld => ?_)
  refine wpAnyH_take (i := 0) (v := ?v0) rfl (by kernel_rfl) (by kernel_rfl) (by kernel_rfl) (fun _ _ _ h => h) (Or.inl ⟨by rfl, ?hy0⟩) (by assumption) ?rest0
  case hy0 => (intro u hu; obtain ⟨_, _, _⟩ := hu; go_simp; try with_reducible rfl)
  try simp only [Act.put, List.setIfInBounds_toArray, List.set_cons_zero, List.set_cons_succ, List.getElem_toArray, List.getElem_cons_zero, List.getElem_cons_succ]
  refine wpAnyH_take (i := 1) (v := ?v1) rfl (by kernel_rfl) (by kernel_rfl) (by kernel_rfl) (fun _ _ _ h => h) (Or.inl ⟨by rfl, ?hy1⟩) (by assumption) ?rest1
  case hy1 => (intro u hu; obtain ⟨_, _, _⟩ := hu; go_simp; try with_reducible rfl)
  try simp only [Act.put, List.setIfInBounds_toArray, List.set_cons_zero, List.set_cons_succ, List.getElem_toArray, List.getElem_cons_zero, List.getElem_cons_succ]
  refine wpAnyH_take (i := 2) (v := ?v2) rfl (by kernel_rfl) (by kernel_rfl) (by kernel_rfl) (fun _ _ _ h => h) (Or.inl ⟨by rfl, ?hy2⟩) (by assumption) ?rest2
  case hy2 => (intro u hu; obtain ⟨_, _, _⟩ := hu; go_simp; try with_reducible rfl)
  try simp only [Act.put, List.setIfInBounds_toArray, List.set_cons_zero, List.set_cons_succ, List.getElem_toArray, List.getElem_cons_zero, List.getElem_cons_succ]
  refine wpAnyH_take (i := 3) (v := ?v3) rfl (by kernel_rfl) (by kernel_rfl) (by kernel_rfl) (fun _ _ _ h => h) (Or.inl ⟨by rfl, ?hy3⟩) (by assumption) ?rest3
  case hy3 => (intro u hu; obtain ⟨_, _, _⟩ := hu; go_simp; try with_reducible rfl)
  try simp only [Act.put, List.setIfInBounds_toArray, List.set_cons_zero, List.set_cons_succ, List.getElem_toArray, List.getElem_cons_zero, List.getElem_cons_succ]
  refine wpAnyH_take (i := 4) (v := ?v4) rfl (by kernel_rfl) (by kernel_rfl) (by kernel_rfl) (fun _ _ _ h => h) (Or.inl ⟨by rfl, ?hy4⟩) (by assumption) ?rest4
  case hy4 => (intro u hu; obtain ⟨_, _, _⟩ := hu; go_simp; try with_reducible rfl)
  try simp only [Act.put, List.setIfInBounds_toArray, List.set_cons_zero, List.set_cons_succ, List.getElem_toArray, List.getElem_cons_zero, List.getElem_cons_succ]
  refine wpAnyH_take (i := 5) (v := ?v5) rfl (by kernel_rfl) (by kernel_rfl) (by kernel_rfl) (fun _ _ _ h => h) (Or.inl ⟨by rfl, ?hy5⟩) (by assumption) ?rest5
  case hy5 => (intro u hu; obtain ⟨_, _, _⟩ := hu; go_simp; try with_reducible rfl)
  try simp only [Act.put, List.setIfInBounds_toArray, List.set_cons_zero, List.set_cons_succ, List.getElem_toArray, List.getElem_cons_zero, List.getElem_cons_succ]
  refine wpAnyH_take (i := 6) (v := ?v6) rfl (by kernel_rfl) (by kernel_rfl) (by kernel_rfl) (fun _ _ _ h => h) (Or.inl ⟨by rfl, ?hy6⟩) (by assumption) ?rest6
  case hy6 => (intro u hu; obtain ⟨_, _, _⟩ := hu; go_simp; try with_reducible rfl)
  try simp only [Act.put, List.setIfInBounds_toArray, List.set_cons_zero, List.set_cons_succ, List.getElem_toArray, List.getElem_cons_zero, List.getElem_cons_succ]
  refine wpAnyH_take (i := 7) (v := ?v7) rfl (by kernel_rfl) (by kernel_rfl) (by kernel_rfl) (fun _ _ _ h => h) (Or.inl ⟨by rfl, ?hy7⟩) (by assumption) ?rest7
  case hy7 => (intro u hu; obtain ⟨_, _, _⟩ := hu; go_simp; try with_reducible rfl)
  try simp only [Act.put, List.setIfInBounds_toArray, List.set_cons_zero, List.set_cons_succ, List.getElem_toArray, List.getElem_cons_zero, List.getElem_cons_succ]
  refine wpAnyH_take (i := 8) (v := ?v8) rfl (by kernel_rfl) (by kernel_rfl) (by kernel_rfl) (fun _ _ _ h => h) (Or.inl ⟨by rfl, ?hy8⟩) (by assumption) ?rest8
  case hy8 => (intro u hu; obtain ⟨_, _, _⟩ := hu; go_simp; try with_reducible rfl)
  try simp only [Act.put, List.setIfInBounds_toArray, List.set_cons_zero, List.set_cons_succ, List.getElem_toArray, List.getElem_cons_zero, List.getElem_cons_succ]
  refine wpAnyH_take (i := 9) (v := ?v9) rfl (by kernel_rfl) (by kernel_rfl) (by kernel_rfl) (fun _ _ _ h => h) (Or.inl ⟨by rfl, ?hy9⟩) (by assumption) ?rest9
  case hy9 => (intro u hu; obtain ⟨_, _, _⟩ := hu; go_simp; try with_reducible rfl)
  try simp only [Act.put, List.setIfInBounds_toArray, List.set_cons_zero, List.set_cons_succ, List.getElem_toArray, List.getElem_cons_zero, List.getElem_cons_succ]
  refine wpAnyH_take (i := 10) (v := ?v10) rfl (by kernel_rfl) (by kernel_rfl) (by kernel_rfl) (fun _ _ _ h => h) (Or.inl ⟨by rfl, ?hy10⟩) (by assumption) ?rest10
  case hy10 => (intro u hu; obtain ⟨_, _, _⟩ := hu; go_simp; try with_reducible rfl)
  try simp only [Act.put, List.setIfInBounds_toArray, List.set_cons_zero, List.set_cons_succ, List.getElem_toArray, List.getElem_cons_zero, List.getElem_cons_succ]
  refine wpAnyH_take (i := 11) (v := ?v11) rfl (by kernel_rfl) (by kernel_rfl) (by kernel_rfl) (fun _ _ _ h => h) (Or.inl ⟨by rfl, ?hy11⟩) (by assumption) ?rest11
  case hy11 => (intro u hu; obtain ⟨_, _, _⟩ := hu; go_simp; try with_reducible rfl)
  try simp only [Act.put, List.setIfInBounds_toArray, List.set_cons_zero, List.set_cons_succ, List.getElem_toArray, List.getElem_cons_zero, List.getElem_cons_succ]
  refine wpAnyH_done (by kernel_rfl) ?_ _
  refine NoPanic.normal ?_
  clear hHeld HS0
  go_wp2_with fail
  have b0 := HB0.out.1
  have b1 := HB0.out.2.1
  have b2 := HB0.out.2.2
  have x0 := ci.1.1
  have x1 := ci.1.2.1
  have x2 := ci.1.2.2
  have f0 := ci.2.1
  have f1 := ci.2.2.1
  have f2 := ci.2.2.2
  clear ci HB0
  generalize hW : (w.alloc (.cells #[.string y.1, .int .i64 y.2.1, .int .i64 y.2.2] 67)).drew = W at *
  go_region
  go_wp2_with (go_at_call 95; refine (Fix_calls (HU.out.1.drew) (by rw [List.length_set]; exact hL) i (by rw [List.length_set]; exact hi)).mono ?_; rintro e w1 ⟨rfl, hk1, ht1⟩)
  go_ret
  exact ⟨rfl, hk1, (HT0.out.trans (HU.out.2.trans (Turns.drew _ _))).trans ht1⟩

set_option maxHeartbeats 2000000 in
/-- Heap.Push, whatever the put within does. -/
theorem Push_with {F : Where} {w : World} {hb : Nat} {L L' : List It} {r : Bool} (h : HAt F w hb L) (hF : ∀ b, w.heap.size ≤ b → F b) (y : It) (hne : y.1.toList.isEmpty = false)
    (hput : ∀ (G : Where) (u : World) (kb : Nat), HK G u kb L → (∀ b, u.heap.size ≤ b → G b) → Calls Tryz.prog 74 #[.pointer (some ⟨kb, 0, none⟩), vI y] u fun e w' => e = .returned (.bool r) ∧ HK G w' kb L' ∧ Turns G u w') :
    Calls Tryz.prog 56 #[.pointer (some ⟨hb, 0, none⟩), vI y] w fun e w' => e = .returned (.tuple #[.bool r, .int .i64 0]) ∧ HAt F w' hb L' ∧ Turns F w w' := by
  obtain ⟨kb, h1, h2, h3⟩ := h
  have hbl := block_lt h2
  have hG : ∀ b, w.heap.size ≤ b → F b ∧ b ≠ hb := fun b hb' => ⟨hF b hb', by omega⟩
  have H0 : Hid (HK (Nar (fun b => F b ∧ b ≠ hb) w (w.alloc (.cells #[.string y.1, .int .i64 y.2.1, .int .i64 y.2.2] 67))) (w.alloc (.cells #[.string y.1, .int .i64 y.2.1, .int .i64 y.2.2] 67)).drew kb L) := (h3.nar (by go_grown)).drew
  have hbW : Below w.heap.size w (w.alloc (.cells #[.string y.1, .int .i64 y.2.1, .int .i64 y.2.2] 67)) := by go_grown
  have h2' := (hbW.block hb hbl).trans h2
  have HQ : Hid (∀ {u : World}, Turns (Nar (fun b => F b ∧ b ≠ hb) w (w.alloc (.cells #[.string y.1, .int .i64 y.2.1, .int .i64 y.2.2] 67))) (w.alloc (.cells #[.string y.1, .int .i64 y.2.1, .int .i64 y.2.2] 67)).drew u → u.heap[hb]? = some (.cells #[.pointer (some ⟨kb, 0, none⟩)] 94 (0, 0)) ∧ u.heap[w.heap.size]? = some (.cells #[.string y.1, .int .i64 y.2.1, .int .i64 y.2.2] 67 (0, 0))) := by
    intro u hu
    refine ⟨(hu.block hb (Nat.lt_of_lt_of_le hbl hbW.size) (fun hn => hn.elim (fun k => k.1.2 rfl) (fun k => by have := hbW.size; omega))).trans h2', ?_⟩
    exact (hu.block w.heap.size (by simp) (fun hn => hn.elim (fun k => by omega) (fun k => by simp at k; omega))).trans (heap_new w _ _ rfl)
  have HS : Hid (∀ {u : World}, Turns (Nar (fun b => F b ∧ b ≠ hb) w (w.alloc (.cells #[.string y.1, .int .i64 y.2.1, .int .i64 y.2.2] 67))) (w.alloc (.cells #[.string y.1, .int .i64 y.2.1, .int .i64 y.2.2] 67)).drew u → HpS hb kb w.heap.size y u) := by
    intro u hu
    obtain ⟨q1, q2⟩ := HQ.out hu
    exact ⟨by simp [World.cell?, q1], by simp [World.cell?, q2], by simp [World.cell?, q2], by simp [World.cell?, q2]⟩
  have cW : (w.alloc (.cells #[.string y.1, .int .i64 y.2.1, .int .i64 y.2.2] 67)).cell? ⟨hb, 0, none⟩ = some (.pointer (some ⟨kb, 0, none⟩)) := by simp [World.cell?, h2']
  have HW : Hid (Below w.heap.size w (w.alloc (.cells #[.string y.1, .int .i64 y.2.1, .int .i64 y.2.2] 67))) := hbW
  have HP : Hid (∀ (G : Where) (u : World) (kb : Nat), HK G u kb L → (∀ b, u.heap.size ≤ b → G b) → Calls Tryz.prog 74 #[.pointer (some ⟨kb, 0, none⟩), vI y] u fun e w' => e = .returned (.bool r) ∧ HK G w' kb L' ∧ Turns G u w') := hput
  clear h2 h3 h2' hbW hput
  go_enter Tryz.func56, Tryz.ntmps56
  go_wp2_with (go_at_call 57; refine (made_calls cW ⟨_, rfl⟩).mono ?_; rintro e w' ⟨rfl, rfl⟩)
  refine wp_region_noPanic ?_
  refine wp_region_held_drew (S := HpS hb kb w.heap.size y) (by kernel_rfl) (HS.out (Turns.refl _ _)) (fun hHeld => ?_)
  refine wpAnyH_take (i := 0) (v := ?v0) rfl (by kernel_rfl) (by kernel_rfl) (by kernel_rfl) (fun _ _ _ h => h) (Or.inl ⟨by rfl, ?hy0⟩) (by assumption) ?rest0
  case hy0 => (intro u hu; obtain ⟨_, _, _, _⟩ := hu; go_simp; try with_reducible rfl)
  try simp only [Act.put, List.setIfInBounds_toArray, List.set_cons_zero, List.set_cons_succ, List.getElem_toArray, List.getElem_cons_zero, List.getElem_cons_succ]
  refine wpAnyH_take (i := 1) (v := ?v1) rfl (by kernel_rfl) (by kernel_rfl) (by kernel_rfl) (fun _ _ _ h => h) (Or.inl ⟨by rfl, ?hy1⟩) (by assumption) ?rest1
  case hy1 => (intro u hu; obtain ⟨_, _, _, _⟩ := hu; go_simp; try with_reducible rfl)
  try simp only [Act.put, List.setIfInBounds_toArray, List.set_cons_zero, List.set_cons_succ, List.getElem_toArray, List.getElem_cons_zero, List.getElem_cons_succ]
  refine wpAnyH_take (i := 2) (v := ?v2) rfl (by kernel_rfl) (by kernel_rfl) (by kernel_rfl) (fun _ _ _ h => h) (Or.inl ⟨by rfl, ?hy2⟩) (by assumption) ?rest2
  case hy2 => (intro u hu; obtain ⟨_, _, _, _⟩ := hu; go_simp; try with_reducible rfl)
  try simp only [Act.put, List.setIfInBounds_toArray, List.set_cons_zero, List.set_cons_succ, List.getElem_toArray, List.getElem_cons_zero, List.getElem_cons_succ]
  refine wpAnyH_take (i := 3) (v := ?v3) rfl (by kernel_rfl) (by kernel_rfl) (by kernel_rfl) (fun _ _ _ h => h) (Or.inl ⟨by rfl, ?hy3⟩) (by assumption) ?rest3
  case hy3 => (intro u hu; obtain ⟨_, _, _, _⟩ := hu; go_simp; try with_reducible rfl)
  try simp only [Act.put, List.setIfInBounds_toArray, List.set_cons_zero, List.set_cons_succ, List.getElem_toArray, List.getElem_cons_zero, List.getElem_cons_succ]
  refine wpAnyH_take (i := 4) (v := ?v4) rfl (by kernel_rfl) (by kernel_rfl) (by kernel_rfl) (fun _ _ _ h => h) (Or.inl ⟨by rfl, ?hy4⟩) (by assumption) ?rest4
  case hy4 => (intro u hu; obtain ⟨_, _, _, _⟩ := hu; go_simp; try with_reducible rfl)
  try simp only [Act.put, List.setIfInBounds_toArray, List.set_cons_zero, List.set_cons_succ, List.getElem_toArray, List.getElem_cons_zero, List.getElem_cons_succ]
  refine wpAnyH_ready (rs := [5]) (by kernel_rfl) (by simp) ?_
  refine AllReadyH.cons rfl (fun K hK => ?_) AllReadyH.nil
  go_simp
  refine (HP.out _ _ _ H0.out (fun b hb => .inr hb)).mono ?_
  rintro e w1 ⟨rfl, hk1, ht1⟩
  go_wp2_with fail
  refine hK.out _ _ (HS.out ht1) (fun hHeld2 => ?_)
  clear hK K hHeld
  have hHeld := hHeld2
  clear hHeld2
  try simp only [Act.put, List.setIfInBounds_toArray, List.set_cons_zero, List.set_cons_succ, List.getElem_toArray, List.getElem_cons_zero, List.getElem_cons_succ]
  refine wpAnyH_take (i := 6) (v := ?v6) rfl (by kernel_rfl) (by kernel_rfl) (by kernel_rfl) (fun _ _ _ h => h) (Or.inl ⟨by rfl, ?hy6⟩) (by assumption) ?rest6
  case hy6 => (intro u hu; obtain ⟨_, _, _, _⟩ := hu; go_simp; try with_reducible rfl)
  try simp only [Act.put, List.setIfInBounds_toArray, List.set_cons_zero, List.set_cons_succ, List.getElem_toArray, List.getElem_cons_zero, List.getElem_cons_succ]
  refine wpAnyH_take (i := 7) (v := ?v7) rfl (by kernel_rfl) (by kernel_rfl) (by kernel_rfl) (fun _ _ _ h => h) (Or.inl ⟨by rfl, ?hy7⟩) (by assumption) ?rest7
  case hy7 => (intro u hu; obtain ⟨_, _, _, _⟩ := hu; go_simp; try with_reducible rfl)
  try simp only [Act.put, List.setIfInBounds_toArray, List.set_cons_zero, List.set_cons_succ, List.getElem_toArray, List.getElem_cons_zero, List.getElem_cons_succ]
  refine wpAnyH_done (by kernel_rfl) ?_ _
  refine NoPanic.normal ?_
  go_wp2_with fail
  go_ret2
  refine ⟨rfl, ⟨kb, h1, (HQ.out ht1).1, hk1.wide hG HW.out.size⟩, ?_⟩
  exact Turns.weak (Turns.wide (u := (w.alloc (.cells #[.string y.1, .int .i64 y.2.1, .int .i64 y.2.2] 67)).drew) hG HW.out.drew ht1) (fun b _ hf => hf.1)
theorem Push_empty {F : Where} {w : World} {hb : Nat} {L : List It} (h : HAt F w hb L) (y : It) (hne : y.1.toList.isEmpty = true) :
    Calls Tryz.prog 56 #[.pointer (some ⟨hb, 0, none⟩), vI y] w fun e w' => e = .returned (.tuple #[.bool false, .int .i64 2]) ∧ Below w.heap.size w w' := by
  obtain ⟨kb, h1, h2, h3⟩ := h
  have hbW : Below w.heap.size w (w.alloc (.cells #[.string y.1, .int .i64 y.2.1, .int .i64 y.2.2] 67)) := by go_grown
  have h2' := (hbW.block hb (block_lt h2)).trans h2
  have cW : (w.alloc (.cells #[.string y.1, .int .i64 y.2.1, .int .i64 y.2.2] 67)).cell? ⟨hb, 0, none⟩ = some (.pointer (some ⟨kb, 0, none⟩)) := by simp [World.cell?, h2']
  clear h2 h3 h2' h1 hbW
  go_enter Tryz.func56, Tryz.ntmps56
  go_wp2_with (go_at_call 57; refine (made_calls cW ⟨_, rfl⟩).mono ?_; rintro e w' ⟨rfl, rfl⟩)
  go_ret2
  exact ⟨rfl, by go_grown⟩
/-- Keys. -/
def sameK (x y : It) : Bool := x.1.toList == y.1.toList
theorem kl_iff (x y : It) : kl x = kl y ↔ sameK x y = true := by
  unfold kl sameK
  rw [ByteArray.toList_eq, ByteArray.toList_eq]
  simp
theorem sameK_refl (x : It) : sameK x x = true := by simp [sameK]
theorem sameK_symm (x y : It) : sameK x y = sameK y x := by
  cases h : sameK x y <;> cases k : sameK y x <;> simp_all [sameK]
theorem sameK_trans {x y z : It} (h : sameK x y = true) (k : sameK y z = true) : sameK x z = true := by
  simp [sameK] at *; rw [h, k]
/-- No key stands twice. -/
def DK (L : List It) : Prop := L.Pairwise (fun x y => sameK x y = false)
theorem DK.perm {L M : List It} (h : DK L) (p : L.Perm M) : DK M := by
  exact List.Pairwise.perm h p (fun {x y} e => by rw [sameK_symm]; exact e)
theorem Tells.dk {D : DataW Unit} {L : List It} (h : Tells D L) : DK L := by
  unfold DK
  rw [List.pairwise_iff_getElem]
  intro i j hi hj hij
  cases e : sameK L[i] L[j] with
  | false => rfl
  | true => have := h.inj hi hj ((kl_iff _ _).2 e); omega
theorem HAt.dk {F : Where} {w : World} {hb : Nat} {L : List It} (h : HAt F w hb L) : DK L := by
  obtain ⟨_, _, _, _, _, _, _, t⟩ := h
  exact t.dk
theorem HAt.ok {F : Where} {w : World} {hb : Nat} {L : List It} (h : HAt F w hb L) : ∀ x ∈ L, okI x := by
  obtain ⟨_, _, _, _, _, _, k, _⟩ := h
  exact k.ok
/-- A list without a key, and with an entry in the place of its key's. -/
def dropK (L : List It) (k : List UInt8) : List It := L.filter (fun x => !(x.1.toList == k))
def putK (L : List It) (y : It) : List It := dropK L y.1.toList ++ [y]
def hasK (L : List It) (k : List UInt8) : Bool := L.any (fun x => x.1.toList == k)
theorem dropK_none {L : List It} {k : List UInt8} (h : hasK L k = false) : dropK L k = L := by
  unfold dropK
  rw [List.filter_eq_self]
  intro x hx
  unfold hasK at h
  rw [List.any_eq_false] at h
  have := h x hx
  cases e : (x.1.toList == k)
  · rfl
  · exact absurd e this
theorem dropK_at {L : List It} (hd : DK L) {i : Nat} (hi : i < L.length) {k : List UInt8} (e : (L[i].1.toList == k) = true) : dropK L k = L.take i ++ L.drop (i + 1) := by
  have hk : k = L[i].1.toList := by simpa using (beq_iff_eq.1 e).symm
  have hL : L = L.take i ++ L[i] :: L.drop (i + 1) := by rw [← List.drop_eq_getElem_cons hi, List.take_append_drop]
  have hp : ∀ a b : Nat, (ha : a < L.length) → (hb : b < L.length) → a ≠ b → sameK L[a] L[b] = false := by
    intro a b ha hb hne
    have := List.pairwise_iff_getElem.1 hd
    rcases Nat.lt_or_ge a b with c | c
    · exact this a b ha hb c
    · rw [sameK_symm]; exact this b a hb ha (by omega)
  have h1 : ∀ x ∈ L.take i, (!(x.1.toList == k)) = true := by
    intro x hx
    obtain ⟨a, ha, rfl⟩ := List.mem_iff_getElem.1 hx
    rw [List.length_take] at ha
    rw [List.getElem_take, hk]
    have := hp a i (by omega) hi (by omega)
    unfold sameK at this
    rw [this]; rfl
  have h2 : ∀ x ∈ L.drop (i + 1), (!(x.1.toList == k)) = true := by
    intro x hx
    obtain ⟨a, ha, rfl⟩ := List.mem_iff_getElem.1 hx
    rw [List.length_drop] at ha
    rw [List.getElem_drop, hk]
    have := hp (i + 1 + a) i (by omega) hi (by omega)
    unfold sameK at this
    rw [this]; rfl
  unfold dropK
  conv => lhs; rw [hL]
  rw [List.filter_append, List.filter_cons, e, List.filter_eq_self.2 h1]
  simp only [Bool.not_true, Bool.false_eq_true, if_false]
  rw [List.filter_eq_self.2 h2]
theorem hasK_at {L : List It} {k : List UInt8} (h : hasK L k = true) : ∃ i, ∃ hi : i < L.length, (L[i].1.toList == k) = true := by
  unfold hasK at h
  rw [List.any_eq_true] at h
  obtain ⟨x, hx, e⟩ := h
  obtain ⟨i, hi, rfl⟩ := List.mem_iff_getElem.1 hx
  exact ⟨i, hi, e⟩
theorem hasK_of {L : List It} {k : List UInt8} {i : Nat} (hi : i < L.length) (e : (L[i].1.toList == k) = true) : hasK L k = true := by
  unfold hasK
  rw [List.any_eq_true]
  exact ⟨L[i], List.getElem_mem hi, e⟩
theorem set_putK {L : List It} (hd : DK L) {i : Nat} (hi : i < L.length) {y : It} (e : (L[i].1.toList == y.1.toList) = true) : (L.set i y).Perm (putK L y) := by
  unfold putK
  rw [dropK_at hd hi e, List.set_eq_take_append_cons_drop, if_pos hi, List.append_assoc]
  refine List.Perm.append_left _ ?_
  exact (List.perm_append_comm (l₁ := [y])).trans (List.Perm.refl _)
theorem drop_dropK {L M : List It} (hd : DK L) {i : Nat} (hi : i < L.length) {k : List UInt8} (e : (L[i].1.toList == k) = true) (h : (M ++ [at_ L i]).Perm L) : M.Perm (dropK L k) := by
  rw [dropK_at hd hi e]
  have hL : L = L.take i ++ L[i] :: L.drop (i + 1) := by rw [← List.drop_eq_getElem_cons hi, List.take_append_drop]
  rw [at_get hi] at h
  have h2 : (M ++ [L[i]]).Perm ((L.take i ++ L.drop (i + 1)) ++ [L[i]]) := by
    refine h.trans ?_
    conv => lhs; rw [hL]
    rw [List.append_assoc]
    exact List.Perm.append_left _ (List.perm_append_comm (l₁ := [L[i]]))
  exact (List.perm_append_right_iff _).1 h2
/-- Heap.Push at any key. -/
theorem Push_any {F : Where} {w : World} {hb : Nat} {L : List It} (h : HAt F w hb L) (hF : ∀ b, w.heap.size ≤ b → F b) (hL : L.length < 1000000000000) (hh : HeapL L) (y : It) (hy : okI y) (hne : y.1.toList.isEmpty = false) :
    Calls Tryz.prog 56 #[.pointer (some ⟨hb, 0, none⟩), vI y] w fun e w' => ∃ L', (e = .returned (.tuple #[.bool (hasK L y.1.toList), .int .i64 0]) ∧ HeapL L' ∧ L'.Perm (putK L y)) ∧ HAt F w' hb L' ∧ Turns F w w' := by
  cases hk : hasK L y.1.toList with
  | false =>
    have hnew : ∀ x ∈ L, kl x ≠ kl y := by
      intro x hx e
      obtain ⟨i, hi, rfl⟩ := List.mem_iff_getElem.1 hx
      have := hasK_of hi ((kl_iff _ _).1 e)
      rw [hk] at this; cases this
    have := Push_with (L' := pushL L y) (r := false) h hF y hne (fun G u kb q1 q2 => put_new q1 q2 hL y hy hnew)
    refine this.mono ?_
    rintro e w' ⟨rfl, k1, k2⟩
    have p := pushL_heap hh y
    exact ⟨_, ⟨rfl, p.1, by unfold putK; rw [dropK_none hk]; exact p.2⟩, k1, k2⟩
  | true =>
    obtain ⟨i, hi, e⟩ := hasK_at hk
    have := Push_with (L' := fixL (L.set i y).length (L.set i y) i) (r := true) h hF y hne (fun G u kb q1 q2 => put_old q1 hL y hy i hi ((kl_iff _ _).2 e))
    refine this.mono ?_
    rintro e' w' ⟨rfl, k1, k2⟩
    have p := fix_heap hh hi y
    exact ⟨_, ⟨rfl, p.1, p.2.trans (set_putK h.dk hi e)⟩, k1, k2⟩
/-- Heap.All. -/
theorem All_calls {F : Where} {w : World} {hb : Nat} {L : List It} (h : HAt F w hb L) (hL : L.length < 1000000000) :
    Calls Tryz.prog 53 #[.pointer (some ⟨hb, 0, none⟩)] w fun e w' => SortedRow w w' L.length e (stabF L) := by
  have hok := h.ok
  obtain ⟨kb, h1, h2, v, mb, D, h3, h4⟩ := h
  obtain ⟨a, cap, hv, hrow, _, _⟩ := row_of_owns (ok := okI) encI_len h3.row (by omega) hok
  have c0 := h3.c0
  rw [hv] at c0
  have c : w.cell? ⟨hb, 0, none⟩ = some (.pointer (some ⟨kb, 0, none⟩)) := by simp [World.cell?, h2]
  have HR : Hid (RowAt encI 3 okI w a L) := hrow
  clear h3 h4 h2 h1 hrow hv hok
  go_enter Tryz.func53, Tryz.ntmps53
  go_wp2_with (first
    | (go_at_call 57; refine (made_calls c ⟨_, rfl⟩).mono ?_; rintro e w' ⟨rfl, rfl⟩)
    | (go_at_call 72; refine (Sort_own a L.length cap L _ rfl HR.out hL).mono ?_; rintro e w1 ⟨a1, c1, rfl, H1⟩))
  go_ret
  exact ⟨a1, c1, rfl, H1⟩
end Go.Proofs.YtbmejaailhjgfaaGreat
namespace Go.Proofs.YtbmejaailhjgfaaGreat
set_option linter.unusedSimpArgs false
set_option maxRecDepth 100000

/-- Entry x behind the first k. -/
def insAt (A : List It) (k : Nat) (x : It) : List It := A.take k ++ [x] ++ A.drop k
theorem insAt_length {A : List It} {k : Nat} {x : It} (h : k ≤ A.length) : (insAt A k x).length = A.length + 1 := by
  simp [insAt]; omega
theorem insAt_perm {A : List It} {k : Nat} {x : It} : (insAt A k x).Perm (A ++ [x]) := by
  have h1 : (insAt A k x).Perm (A.take k ++ A.drop k ++ [x]) := by
    unfold insAt
    rw [List.append_assoc, List.append_assoc]
    exact List.Perm.append_left _ List.perm_append_comm
  rwa [List.take_append_drop] at h1
theorem at_insAt {A : List It} {k : Nat} {x : It} (h : k ≤ A.length) (i : Nat) : at_ (insAt A k x) i = if i < k then at_ A i else if i = k then x else at_ A (i - 1) := by
  unfold at_ insAt
  have hl : (A.take k).length = k := by rw [List.length_take]; omega
  simp only [List.getD_eq_getElem?_getD]
  by_cases c1 : i < k
  · rw [if_pos c1, List.append_assoc, List.getElem?_append_left (by rw [hl]; exact c1), List.getElem?_take, if_pos c1]
  · rw [if_neg c1, List.append_assoc, List.getElem?_append_right (by rw [hl]; omega), hl]
    by_cases c2 : i = k
    · subst c2
      rw [if_pos rfl, Nat.sub_self]; rfl
    · rw [if_neg c2, show i - k = (i - 1 - k) + 1 by omega, List.singleton_append, List.getElem?_cons_succ, List.getElem?_drop, show k + (i - 1 - k) = i - 1 by omega]
theorem insAt_srt {A : List It} {k : Nat} {x : It} (hA : Srt A 0 A.length) (hk : k ≤ A.length) (hgt : ∀ j, k ≤ j → j < A.length → ahead x (at_ A j) = true) (hle : k = 0 ∨ ahead x (at_ A (k - 1)) = false) : Srt (insAt A k x) 0 (insAt A k x).length := by
  intro i j _ h2 h3
  rw [insAt_length hk] at h3
  rw [at_insAt hk i, at_insAt hk j]
  have low : ∀ t, t < k → nl (at_ A t) x := by
    intro t ht
    rcases hle with h | h
    · omega
    · exact nl_trans (hA t (k - 1) (Nat.zero_le _) (by omega) (by omega)) h
  by_cases c1 : i < k
  · rw [if_pos c1]
    by_cases d1 : j < k
    · rw [if_pos d1]; exact hA i j (Nat.zero_le _) h2 (by omega)
    · rw [if_neg d1]
      by_cases d2 : j = k
      · rw [if_pos d2]; exact low i c1
      · rw [if_neg d2]; exact hA i (j - 1) (Nat.zero_le _) (by omega) (by omega)
  · rw [if_neg c1, if_neg (show ¬ j < k by omega)]
    by_cases c2 : i = k
    · rw [if_pos c2]
      by_cases d2 : j = k
      · rw [if_pos d2]; exact nl_self _
      · rw [if_neg d2]; exact nl_of (hgt (j - 1) (by omega) (by omega))
    · rw [if_neg c2, if_neg (show ¬ j = k by omega)]; exact hA _ _ (Nat.zero_le _) (by omega) (by omega)
/-- A sorted list with L's entries is what the sort makes of it. -/
theorem srt_stab {A L : List It} (hp : A.Perm L) (hs : Srt A 0 A.length) : A = stabF L :=
  srt_one (hp.trans (stabF_perm L).symm) hs (by have := stabF_srt L; rw [stabF_length]; exact this)
end Go.Proofs.YtbmejaailhjgfaaGreat
namespace Go.Proofs.YtbmejaailhjgfaaGreat
open Go.RowKit Go.Maps
set_option linter.unusedSimpArgs false

theorem rAhead_calls (a b : It) (w : World) : Calls Tryz.prog 60 #[vI a, vI b] w fun e w' => e = .returned (.bool (ahead a b)) ∧ Below w.heap.size w w' := by
  obtain ⟨ak, ar, ac⟩ := a
  obtain ⟨bk, br, bc⟩ := b
  go_enter Tryz.func60, Tryz.ntmps60
  by_cases h1 : ar = br
  · by_cases h2 : ac = bc
    · have HF : Hid (ahead (ak, ar, ac) (bk, br, bc) = Op.bytesLess ak.toList bk.toList) := by simp [Hid, ahead, h1, h2]
      go_wp2
      go_ret
      exact ⟨retb HF.out.symm, by go_grown⟩
    · have HF : Hid (ahead (ak, ar, ac) (bk, br, bc) = decide (ac < bc)) := by simp [Hid, ahead, h1, h2]
      go_wp2
      go_ret
      exact ⟨retb HF.out.symm, by go_grown⟩
  · have HF : Hid (ahead (ak, ar, ac) (bk, br, bc) = decide (br < ar)) := by simp [Hid, ahead, h1]
    go_wp2
    go_ret
    exact ⟨retb HF.out.symm, by go_grown⟩
theorem rAhead_as (a b : It) (w : World) {r : Bool} (h : ahead a b = r) : Calls Tryz.prog 60 #[vI a, vI b] w fun e w' => e = .returned (.bool r) ∧ Below w.heap.size w w' := by
  subst h; exact rAhead_calls a b w
/-- An append to one's own row, with what it leaves. -/
theorem append_rowK {α : Type} [Inhabited α] {enc : α → List Value} {k : Nat} {ok : α → Prop} (hk : ∀ x, (enc x).length = k) (h1 : ∀ x, ∀ u ∈ enc x, u.oneCell' = true) {o : Oper} {a : Act} {K : Act → World → Prop} {Q : Exit → Act → World → Prop} {w0 u : World} (s x : Operand) (t e : TypeId)
    (ho : o.op = .call { callee := .builtin .append, args := #[s, x], argTypes := #[t, t] }) (z : Value) (bytes : Nat) (hinfo : (Tryz.prog.info? e).map (fun i => (i.zero, i.size, i.bytes)) = some (some z, k, bytes)) (ht : Tryz.prog.underlying t = some (.slice e)) (hzs : z.cells.size = k) (hk0 : 0 < k) (hby : 1 ≤ bytes)
    (v : Value) (A : List α) (hs : a.eval s = v) (hown : Own w0 u e k v A.length (flatE enc A))
    (ad : Addr) (n capc : Nat) (N : List α) (hn : N.length = n) (hx : a.eval x = .slice (some ad) n capc) (hN : RowAt enc k ok u (some ad) N) (hb : (A.length + N.length) * bytes ≤ 140737488355328)
    (h : ∀ v' u', Own w0 u' e k v' (A ++ N).length (flatE enc (A ++ N)) → u.grownBy u' v.ownBlock → K (a.put o.dst v') u') : o.wp Tryz.prog a u K Q := by
  subst hn
  obtain ⟨i0, hi, hz0, hz1, hz2⟩ := info_parts hinfo
  have hm : (A.length + N.length) * 1 ≤ (A.length + N.length) * bytes := Nat.mul_le_mul_left _ hby
  refine wp_append_own (w := u) s x t ho w0.heap.size e i0 z k bytes ht hi hz0 hz1 hz2 hzs hk0 v A.length (flatE enc A) hs hown.2 ad N.length capc (flatE enc N) hx (flatE_length hk N) (flatE_cells hk hN) (flatE_one h1 N) (by unfold maxLen; omega) hb hown.1.size ?_
  intro v' u' ho' hg hn
  refine h v' u' ⟨hown.row hg, ?_⟩ hg
  rw [List.length_append, flatE_append]
  exact ho'
theorem row_kept {u u' : World} {E : Nat} {N : List It} {r : Option Nat} (h : RowAt encI 3 okI u (some ⟨E, 0, none⟩) N) (hN : N ≠ []) (hg : u.grownBy u' r) (hr : some E ≠ r) : RowAt encI 3 okI u' (some ⟨E, 0, none⟩) N := by
  obtain ⟨h1, h2, h3⟩ := h
  obtain ⟨B, off, e, hB, hc⟩ := h3 hN
  obtain ⟨rfl, rfl⟩ : E = B ∧ 0 = off := by simpa using e
  have hk := hg.block E hB hr
  refine ⟨h1, h2, fun _ => ⟨E, 0, rfl, Nat.lt_of_lt_of_le hB hg.size, fun i hi j v hv => ?_⟩⟩
  rw [World.cell?_of_block (w := u) (w' := u') hk]
  exact hc i hi j v hv
theorem row_one (u : World) (x : It) (hx : okI x) : RowAt encI 3 okI (u.alloc (.cells #[.string x.1, .int .i64 x.2.1, .int .i64 x.2.2] 67)) (some ⟨u.heap.size, 0, none⟩) [x] := by
  refine ⟨by simp, fun y hy => by rw [List.mem_singleton.1 hy]; exact hx, fun _ => ⟨u.heap.size, 0, rfl, by simp, fun i hi j v hv => ?_⟩⟩
  obtain rfl : i = 0 := by simp at hi; omega
  have hd : ([x] : List It).getD 0 default = x := rfl
  rw [hd] at hv
  have hj : j < 3 := by
    have := (List.getElem?_eq_some_iff.1 hv).1
    rwa [encI_len] at this
  have := heap_new u (.cells #[.string x.1, .int .i64 x.2.1, .int .i64 x.2.2] 67) _ rfl
  generalize u.alloc (.cells #[.string x.1, .int .i64 x.2.1, .int .i64 x.2.2] 67) = u' at this ⊢
  simp only [World.cell?, this]
  match j, hj with
  | 0, _ => simpa [encI] using hv
  | 1, _ => simpa [encI] using hv
  | 2, _ => simpa [encI] using hv
/-- The cells of one entry of a row. -/
theorem RowAt.three {w : World} {a : Option Addr} {L : List It} (h : RowAt encI 3 okI w a L) {i : Nat} (hi : i < L.length) : ∃ B off, a = some ⟨B, off, none⟩ ∧ B < w.heap.size ∧ w.cell? ⟨B, off + i * 3, none⟩ = some (.string (at_ L i).1) ∧ w.cell? ⟨B, off + i * 3 + 1, none⟩ = some (.int .i64 (at_ L i).2.1) ∧ w.cell? ⟨B, off + i * 3 + 2, none⟩ = some (.int .i64 (at_ L i).2.2) ∧ okI (at_ L i) := by
  obtain ⟨B, off, e, hB, hc, ho⟩ := h.get hi
  exact ⟨B, off, e, hB, hc 0 _ rfl, hc 1 _ rfl, hc 2 _ rfl, ho⟩
/-- What stays: an entry's cells, and all that was there. -/
def RS (w : World) (B off j : Nat) (x : It) (u : World) : Prop := Below w.heap.size w u ∧ u.cell? ⟨B, off + j * 3, none⟩ = some (.string x.1) ∧ u.cell? ⟨B, off + j * 3 + 1, none⟩ = some (.int .i64 x.2.1) ∧ u.cell? ⟨B, off + j * 3 + 2, none⟩ = some (.int .i64 x.2.2)
def RS2 (w : World) (B off j : Nat) (x : It) (g t : Nat) (y : It) (u : World) : Prop := RS w B off j x u ∧ u.cell? ⟨g, t * 3, none⟩ = some (.string y.1) ∧ u.cell? ⟨g, t * 3 + 1, none⟩ = some (.int .i64 y.2.1) ∧ u.cell? ⟨g, t * 3 + 2, none⟩ = some (.int .i64 y.2.2)
end Go.Proofs.YtbmejaailhjgfaaGreat
