/- maps.Clone, keyed.clone, Heap.Clone: the plain functions. Condition: fewer than 1,000,000,000 entries. -/
import Derived.Test.YtgncpjplofacfaaHGets
import Derived.Shelf.SlMaps.Clone
namespace Go.Proofs.Ytgncpjplofacfaa
open Go.RowKit Go.Maps
set_option linter.unusedSimpArgs false

set_option maxHeartbeats 2000000 in
theorem mClone_calls (b : Nat) (es : Array MapEntry) (clock : Nat) (w : World) (hb : w.heap[b]? = some (.map es clock)) :
    Calls Try.prog 40 #[.map (some b)] w fun e w' => e = .returned (.map (some w.heap.size)) ∧ w' = w.alloc (.map es clock) := by
  have hq := fun w => run_eql_map_nil_sl (P := Try.prog) w 59 _ _ (some b) Try.underlying59
  go_enter Try.func40, Try.ntmps40
  go_wp2
  rw [run_callFunc_extern Try.func44 (by kernel_rfl) (by kernel_rfl) (by kernel_rfl) (e := Extern.MapsClone.clone) (by kernel_rfl), run_maps_clone_sl w 59 hb]
  simp only [Result.andThen]
  rw [Oper.upon_value]
  go_wp2
  rw [run_typeAssert_map_sl _ 59 _ _ _ _ Try.underlying59]
  simp only [Result.andThen]
  rw [Oper.upon_value]
  go_wp2
  go_ret
  exact ⟨rfl, rfl⟩
set_option maxHeartbeats 2000000 in
theorem Clone_own (a : Option Addr) (n cap : Nat) (L : List It) (w : World) (hn : L.length = n) (hL : RowAt encI 3 okI w a L) (hb : n < 1000000000) :
    Calls Try.prog 34 #[.slice a n cap] w fun e w' => ∃ a' c', e = .returned (.slice a' n c') ∧ Own w w' 27 3 (.slice a' n c') n (flatE encI L) := by
  match a with
  | none =>
    have hz := hL.none_nil
    have HN0 : Hid (n = 0) := by rw [Hid, ← hn, hz]; rfl
    have HZ : Hid (L = []) := hz
    clear hz
    have hE := fun w => Lib.run_eql_slice_nil (P := Try.prog) w 25 27 none n cap 0 0 Try.underlying25
    go_enter Try.func34, Try.ntmps34
    go_wp2_with fail
    go_ret
    rw [HN0.out, HZ.out]
    exact ⟨none, 0, rfl, Below.refl _ _, by simp [flatE], .inl ⟨rfl, rfl⟩⟩
  | some ad =>
    have hE := fun w => Lib.run_eql_slice_nil (P := Try.prog) w 25 27 (some ad) n cap 0 0 Try.underlying25
    have HX : Hid (∀ j y, (flatE encI L)[j]? = some y → (w.alloc (.cells #[] 27)).cell? (ad.add j) = some y) := flatE_cells encI_len (hL.on (by go_grown))
    clear hL
    go_enter Try.func34, Try.ntmps34
    go_wp2_with (at_builtin; go_must (refine own_append (w0 := w) rfl _ _ 25 27 rfl _ 3 32 infoI Try.underlying25 rfl (by decide) (.slice (some ⟨w.heap.size, 0, none⟩) 0 0) 0 [] rfl (Own.start w w 27 3 (Below.refl _ _)) ad n cap (flatE encI L) rfl (by rw [flatE_length encI_len, hn]) HX.out (flatE_one encI_one L) (by unfold maxLen; omega) (by omega) ?_); intro v4 w4 hown4 hnil4)
    go_ret
    rw [Nat.zero_add, List.nil_append] at hown4
    obtain ⟨_, ⟨e1, e2⟩ | ⟨g, c', cur, e1, _⟩⟩ := id hown4.2
    · subst e1
      rw [e2] at hown4 ⊢
      exact ⟨_, _, rfl, hown4⟩
    · subst e1
      exact ⟨_, _, rfl, hown4⟩
def ClS (w : World) (kb : Nat) (v : Value) (mb : Nat) (u : World) : Prop := Below w.heap.size w u ∧ u.cell? ⟨kb, 0, none⟩ = some v ∧ u.cell? ⟨kb, 2, none⟩ = some (.map (some mb))
set_option maxHeartbeats 4000000 in
theorem kclone_calls {F : Where} {w : World} {kb : Nat} {L : List It} (h : HK F w kb L) (hL : L.length < 1000000000) :
    Calls Try.prog 32 #[.pointer (some ⟨kb, 0, none⟩)] w fun e w' => ∃ kb', e = .returned (.pointer (some ⟨kb', 0, none⟩)) ∧ HK (Fresh w) w' kb' L ∧ Below w.heap.size w w' := by
  obtain ⟨v, mb, D, hk, t⟩ := h
  obtain ⟨a, cap, hv, hrow, _, _⟩ := row_of_owns (ok := okI) encI_len hk.row (by omega) hk.ok
  subst hv
  have c0 := hk.c0
  have c2 := hk.c2
  have hkl := hk.lt
  obtain ⟨es, ck, hmb, hmr⟩ := id hk.map
  have hml := block_lt hmb
  have HS : Hid (∀ {u : World}, Below w.heap.size w u → ClS w kb (.slice a L.length cap) mb u) := fun hb => ⟨hb, (hb.cell hkl).trans c0, (hb.cell hkl).trans c2⟩
  have HM : Hid (∀ {u : World}, Below w.heap.size w u → u.heap[mb]? = some (.map es ck)) := fun hb => (hb.block mb hml).trans hmb
  have HR : Hid (RowAt encI 3 okI w a L) := hrow
  have HMR : Hid (∀ (u : World) (b : Nat), u.heap[b]? = some (.map es ck) → u.ownsMap Try.prog 9 (plainElem Try.prog 3) b L.length D) := fun u b hb => ⟨es, ck, hb, hmr⟩
  have HT : Hid (Tells D L) := t
  have HOK : Hid (∀ x ∈ L, okI x) := hk.ok
  clear c0 c2 hmb hrow hk t
  go_enter Try.func32, Try.ntmps32
  go_wp2_with fail
  refine wp_region_noPanic ?_
  refine wp_region_held_drew (S := ClS w kb (.slice a L.length cap) mb) (by kernel_rfl) (HS.out (Below.refl _ _).drew) (fun hHeld => ?_)
  refine wpAnyH_take (i := 0) (v := ?v0) rfl (by kernel_rfl) (by kernel_rfl) (by kernel_rfl) (fun _ _ _ h => h) (Or.inl ⟨by rfl, ?hy0⟩) (by assumption) ?rest0
  case hy0 => (intro u hu; obtain ⟨_, _, _⟩ := hu; go_simp; try with_reducible rfl)
  try simp only [Act.put, List.setIfInBounds_toArray, List.set_cons_zero, List.set_cons_succ, List.getElem_toArray, List.getElem_cons_zero, List.getElem_cons_succ]
  refine wpAnyH_take (i := 1) (v := ?v1) rfl (by kernel_rfl) (by kernel_rfl) (by kernel_rfl) (fun _ _ _ h => h) (Or.inl ⟨by rfl, ?hy1⟩) (by assumption) ?rest1
  case hy1 => (intro u hu; obtain ⟨_, _, _⟩ := hu; go_simp; try with_reducible rfl)
  try simp only [Act.put, List.setIfInBounds_toArray, List.set_cons_zero, List.set_cons_succ, List.getElem_toArray, List.getElem_cons_zero, List.getElem_cons_succ]
  refine wpAnyH_take (i := 2) (v := ?v2) rfl (by kernel_rfl) (by kernel_rfl) (by kernel_rfl) (fun _ _ _ h => h) (Or.inl ⟨by rfl, ?hy2⟩) (by assumption) ?rest2
  case hy2 => (intro u hu; obtain ⟨_, _, _⟩ := hu; go_simp; try with_reducible rfl)
  try simp only [Act.put, List.setIfInBounds_toArray, List.set_cons_zero, List.set_cons_succ, List.getElem_toArray, List.getElem_cons_zero, List.getElem_cons_succ]
  refine wpAnyH_take (i := 3) (v := ?v3) rfl (by kernel_rfl) (by kernel_rfl) (by kernel_rfl) (fun _ _ _ h => h) (Or.inl ⟨by rfl, ?hy3⟩) (by assumption) ?rest3
  case hy3 => (intro u hu; obtain ⟨_, _, _⟩ := hu; go_simp; try with_reducible rfl)
  try simp only [Act.put, List.setIfInBounds_toArray, List.set_cons_zero, List.set_cons_succ, List.getElem_toArray, List.getElem_cons_zero, List.getElem_cons_succ]
  refine wpAnyH_take (i := 4) (v := ?v4) rfl (by kernel_rfl) (by kernel_rfl) (by kernel_rfl) (fun _ _ _ h => h) (Or.inl ⟨by rfl, ?hy4⟩) (by assumption) ?rest4
  case hy4 => (intro u hu; obtain ⟨_, _, _⟩ := hu; go_simp; try with_reducible rfl)
  try simp only [Act.put, List.setIfInBounds_toArray, List.set_cons_zero, List.set_cons_succ, List.getElem_toArray, List.getElem_cons_zero, List.getElem_cons_succ]
  refine wpAnyH_take (i := 7) (v := ?v7) rfl (by kernel_rfl) (by kernel_rfl) (by kernel_rfl) (fun _ _ _ h => h) (Or.inl ⟨by rfl, ?hy7⟩) (by assumption) ?rest7
  case hy7 => (intro u hu; obtain ⟨_, _, _⟩ := hu; go_simp; try with_reducible rfl)
  try simp only [Act.put, List.setIfInBounds_toArray, List.set_cons_zero, List.set_cons_succ, List.getElem_toArray, List.getElem_cons_zero, List.getElem_cons_succ]
  refine wpAnyH_take (i := 8) (v := ?v8) rfl (by kernel_rfl) (by kernel_rfl) (by kernel_rfl) (fun _ _ _ h => h) (Or.inl ⟨by rfl, ?hy8⟩) (by assumption) ?rest8
  case hy8 => (intro u hu; obtain ⟨_, _, _⟩ := hu; go_simp; try with_reducible rfl)
  try simp only [Act.put, List.setIfInBounds_toArray, List.set_cons_zero, List.set_cons_succ, List.getElem_toArray, List.getElem_cons_zero, List.getElem_cons_succ]
  refine wpAnyH_take (i := 9) (v := ?v9) rfl (by kernel_rfl) (by kernel_rfl) (by kernel_rfl) (fun _ _ _ h => h) (Or.inl ⟨by rfl, ?hy9⟩) (by assumption) ?rest9
  case hy9 => (intro u hu; obtain ⟨_, _, _⟩ := hu; go_simp; try with_reducible rfl)
  try simp only [Act.put, List.setIfInBounds_toArray, List.set_cons_zero, List.set_cons_succ, List.getElem_toArray, List.getElem_cons_zero, List.getElem_cons_succ]
  refine wpAnyH_take (i := 10) (v := ?v10) rfl (by kernel_rfl) (by kernel_rfl) (by kernel_rfl) (fun _ _ _ h => h) (Or.inl ⟨by rfl, ?hy10⟩) (by assumption) ?rest10
  case hy10 => (intro u hu; obtain ⟨_, _, _⟩ := hu; go_simp; try with_reducible rfl)
  try simp only [Act.put, List.setIfInBounds_toArray, List.set_cons_zero, List.set_cons_succ, List.getElem_toArray, List.getElem_cons_zero, List.getElem_cons_succ]
  refine wpAnyH_ready (rs := [5]) (by kernel_rfl) (by simp) ?_
  refine AllReadyH.cons rfl (fun K hK => ?_) AllReadyH.nil
  go_simp
  refine (Clone_own a L.length cap L _ rfl (HR.out.on (Below.refl _ _).drew) hL).mono ?_
  rintro e w1 ⟨a2, c2, rfl, hO1⟩
  have HO : Hid (Own w.drew w1 27 3 (.slice a2 L.length c2) L.length (flatE encI L)) := hO1
  have HB0 : Hid (Below w.heap.size w w.drew) := (Below.refl _ _).drew
  have HB1 : Hid (Below w.heap.size w w1) := on2 HB0.out hO1.1
  clear hO1
  go_wp2_with fail
  refine hK.out _ _ (HS.out HB1.out) (fun hHeld2 => ?_)
  clear hK K hHeld
  have hHeld := hHeld2
  clear hHeld2
  try simp only [Act.put, List.setIfInBounds_toArray, List.set_cons_zero, List.set_cons_succ, List.getElem_toArray, List.getElem_cons_zero, List.getElem_cons_succ]
  refine wpAnyH_ready (rs := [6]) (by kernel_rfl) (by simp) ?_
  refine AllReadyH.cons rfl (fun K hK => ?_) AllReadyH.nil
  go_simp
  refine (newList_calls a2 L.length c2 _).mono ?_
  rintro e w3 ⟨rfl, hb3⟩
  have HB4 : Hid (Below w1.heap.size w1 w3) := hb3
  have HB3 : Hid (Below w.heap.size w w3) := on2 HB1.out hb3
  clear hb3
  go_wp2_with fail
  refine hK.out _ _ (HS.out HB3.out) (fun hHeld2 => ?_)
  clear hK K hHeld
  have hHeld := hHeld2
  clear hHeld2
  try simp only [Act.put, List.setIfInBounds_toArray, List.set_cons_zero, List.set_cons_succ, List.getElem_toArray, List.getElem_cons_zero, List.getElem_cons_succ]
  refine wpAnyH_ready (rs := [11]) (by kernel_rfl) (by simp) ?_
  refine AllReadyH.cons rfl (fun K hK => ?_) AllReadyH.nil
  go_simp
  refine (mClone_calls mb es ck _ (HM.out HB3.out)).mono ?_
  rintro e w4 ⟨rfl, rfl⟩
  go_wp2_with fail
  refine hK.out _ _ (HS.out (on2 HB3.out ((Below.refl _ _).alloc (Nat.le_refl _) _))) (fun hHeld2 => ?_)
  clear hK K hHeld
  have hHeld := hHeld2
  clear hHeld2
  try simp only [Act.put, List.setIfInBounds_toArray, List.set_cons_zero, List.set_cons_succ, List.getElem_toArray, List.getElem_cons_zero, List.getElem_cons_succ]
  refine wpAnyH_take (i := 12) (v := ?v12) rfl (by kernel_rfl) (by kernel_rfl) (by kernel_rfl) (fun _ _ _ h => h) (Or.inl ⟨by rfl, ?hy12⟩) (by assumption) ?rest12
  case hy12 => (intro u hu; obtain ⟨_, _, _⟩ := hu; go_simp; try with_reducible rfl)
  try simp only [Act.put, List.setIfInBounds_toArray, List.set_cons_zero, List.set_cons_succ, List.getElem_toArray, List.getElem_cons_zero, List.getElem_cons_succ]
  refine wpAnyH_ready (rs := [13]) (by kernel_rfl) (by simp) ?_
  refine AllReadyH.cons rfl (fun K hK => ?_) AllReadyH.nil
  go_simp
  refine hK.out _ _ (HS.out (on2 (on2 HB3.out ((Below.refl _ _).alloc (Nat.le_refl _) _)) ((Below.refl _ _).alloc (Nat.le_refl _) _))) (fun hHeld2 => ?_)
  clear hK K hHeld
  have hHeld := hHeld2
  clear hHeld2
  try simp only [Act.put, List.setIfInBounds_toArray, List.set_cons_zero, List.set_cons_succ, List.getElem_toArray, List.getElem_cons_zero, List.getElem_cons_succ]
  refine wpAnyH_take (i := 14) (v := ?v14) rfl (by kernel_rfl) (by kernel_rfl) (by kernel_rfl) (fun _ _ _ h => h) (Or.inl ⟨by rfl, ?hy14⟩) (by assumption) ?rest14
  case hy14 => (intro u hu; obtain ⟨_, _, _⟩ := hu; go_simp; try with_reducible rfl)
  try simp only [Act.put, List.setIfInBounds_toArray, List.set_cons_zero, List.set_cons_succ, List.getElem_toArray, List.getElem_cons_zero, List.getElem_cons_succ]
  refine wpAnyH_done (by kernel_rfl) ?_ _
  refine NoPanic.normal ?_
  have hbx := hHeld.1
  clear hHeld HS
  go_wp2_with fail
  go_ret
  refine ⟨_, rfl, ⟨.slice a2 L.length c2, w3.heap.size, D, ⟨?_, ?_, ?_, ?_, ?_, ?_, HOK.out⟩, HT.out⟩, hbx⟩
  · show w.heap.size ≤ _
    have h1 := HB3.out.size; simp; omega
  · exact HB3.out.size
  · intro b hb
    obtain ⟨_, ⟨e1, _⟩ | ⟨g, c', cur, e1, hB, _⟩⟩ := HO.out.2
    · rw [e1] at hb; simp [Value.ownBlock] at hb
    · rw [e1] at hb
      simp [Value.ownBlock] at hb
      subst hb
      exact Nat.le_trans HB0.out.size hB
  · exact heap_new _ _ _ (by simp)
  · obtain ⟨q1, q2⟩ := (HO.out.on (on2 HB4.out (show Below w3.heap.size w3 ((w3.alloc (.map es ck)).alloc (.cells #[.slice a2 L.length c2, .func (.func 36) #[] #[], .map (some w3.heap.size)] 61)) by go_grown))).2
    refine ⟨q1, ?_⟩
    rcases q2 with q2 | ⟨g, c', cur, e1, hB, q3⟩
    · exact .inl q2
    · exact .inr ⟨g, c', cur, e1, Nat.zero_le _, q3⟩
  · refine HMR.out _ _ ?_
    exact (Below.heap_alloc _ _ _ (by simp)).trans (heap_new w3 _ _ rfl)
theorem HClone_calls {F : Where} {w : World} {hb : Nat} {L : List It} (h : HAt F w hb L) (hL : L.length < 1000000000) :
    Calls Try.prog 18 #[.pointer (some ⟨hb, 0, none⟩)] w fun e w' => ∃ hb', e = .returned (.pointer (some ⟨hb', 0, none⟩)) ∧ HAt (Fresh w) w' hb' L ∧ Below w.heap.size w w' := by
  obtain ⟨kb, h1, h2, h3⟩ := h
  have c : w.cell? ⟨hb, 0, none⟩ = some (.pointer (some ⟨kb, 0, none⟩)) := by simp [World.cell?, h2]
  have H3 : Hid (HK (fun b => F b ∧ b ≠ hb) w kb L) := h3
  clear h1 h2 h3
  go_enter Try.func18, Try.ntmps18
  go_wp2_with (first
    | (go_at_call 28; refine (made_calls c ⟨_, rfl⟩).mono ?_; rintro e w' ⟨rfl, rfl⟩)
    | (go_at_call 32; refine (kclone_calls H3.out hL).mono ?_; rintro e w1 ⟨kb', rfl, hk1, hb1⟩))
  go_ret
  have hs := hb1.size
  refine ⟨_, rfl, ⟨kb', ?_, heap_new _ _ _ rfl, (hk1.weak (fun b hb hf => ⟨hf, by omega⟩)).grow (by go_grown)⟩, on2 hb1 (by go_grown)⟩
  exact hs
end Go.Proofs.Ytgncpjplofacfaa
