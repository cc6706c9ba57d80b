/- keyed.Push: an entry is laid behind the others, and the map tells it. No condition. -/
import Derived.Test.YtgncpjplofacfaaHSwap
import Derived.Deep.RegionLaw
namespace Go.Proofs.Ytgncpjplofacfaa
open Go.RowKit Go.Maps
set_option linter.unusedSimpArgs false

section
variable {F : Where} {w u : World} {kb : Nat} {v : Value} {mb n : Nat} {D : DataW Unit} {L : List It}
/-- An entry is appended to the row, whatever the region. -/
theorem items_append_wp {o : Oper} {a : Act} {K : Act → World → Prop} {Q : Exit → Act → World → Prop} (h : KAt F u kb v mb n D L) (s x : Operand)
    (ho : o.op = .call { callee := .builtin .append, args := #[s, x], argTypes := #[25, 25] }) (hs : a.eval s = v) (ad : Addr) (c : Nat) (hx : a.eval x = .slice (some ad) 1 c) (y : It)
    (hcells : ∀ j z, (encI y)[j]? = some z → u.cell? (ad.add j) = some z) (hL : L.length < 1099511627776)
    (hK : ∀ g c' u', u'.ownsRow 0 27 3 (.slice (some ⟨g, 0, none⟩) (L.length + 1) c') (L.length + 1) (flatE encI (L ++ [y])) → u.grownBy u' v.ownBlock → ((Value.slice (some ⟨g, 0, none⟩) (L.length + 1) c').ownBlock = v.ownBlock ∨ (Value.slice (some ⟨g, 0, none⟩) (L.length + 1) c').ownBlock = some u.heap.size) → K (a.put o.dst (.slice (some ⟨g, 0, none⟩) (L.length + 1) c')) u') : o.wp Try.prog a u K Q := by
  have hinfo : (Try.prog.info? 27).map (fun i => (i.zero, i.size, i.bytes)) = some (some (.agg #[.string ⟨#[]⟩, .int .i64 0, .int .i64 0]), 3, 32) := by kernel_rfl
  obtain ⟨i0, hi, hz0, hz1, hz2⟩ := info_parts hinfo
  obtain ⟨v', u', hr, h2, h3, h4, h5⟩ := run_append_own_at (P := Try.prog) u 0 25 o.type 27 i0 _ 3 32 Try.underlying25 hi hz0 hz1 hz2 (by rfl) (by omega) v L.length (flatE encI L) h.row ad 1 c (encI y) (by rw [encI_len]) hcells (encI_one y) (by unfold maxLen; omega) (by omega) (Nat.zero_le _)
  unfold Oper.wp execOp
  simp only [ho, resolve, invoke, builtin, Sem.run_bind, Sem.run_pure, Result.andThen_ok, List.map_toArray, List.map_cons, List.map_nil, hs, hx, hr]
  have h2' : u'.ownsRow 0 27 3 v' (L.length + 1) (flatE encI (L ++ [y])) := by
    rw [flatE_append]
    simpa [flatE] using h2
  have hs2 := h2'
  obtain ⟨_, ⟨_, h0⟩ | ⟨g, cap, cur, rfl, _⟩⟩ := hs2
  · omega
  · exact hK g cap u' h2' h3 h5
theorem KAt.kept_cells {u' : World} (h : KAt F u kb v mb n D L) (h2 : u.grownBy u' v.ownBlock) : u'.cell? ⟨kb, 0, none⟩ = some v ∧ u'.frozen? ⟨kb, 0, none⟩ = false := by
  have hk : u'.heap[kb]? = u.heap[kb]? := h2.block kb h.lt (fun e => by
    obtain ⟨_, ⟨rfl, _⟩ | ⟨g, cap, cur, rfl, _, hg, _⟩⟩ := h.row
    · simp [Value.ownBlock] at e
    · obtain rfl : kb = g := by simpa [Value.ownBlock] using e
      rw [h.own] at hg; simp at hg)
  rw [h.own] at hk
  exact ⟨by simp [World.cell?, hk], by simp [World.frozen?, hk]⟩
/-- The struct's slice is the new one. -/
theorem KAt.appended {u' : World} {v' : Value} {y : It} (h : KAt F u kb v mb n D L) (hF : ∀ b, u.heap.size ≤ b → F b) (hy : okI y) (h1 : u'.ownsRow 0 27 3 v' (L.length + 1) (flatE encI (L ++ [y]))) (h2 : u.grownBy u' v.ownBlock) (h3 : v'.ownBlock = v.ownBlock ∨ v'.ownBlock = some u.heap.size) :
    KAt F (u'.setCell ⟨kb, 0, none⟩ v') kb v' mb n D (L ++ [y]) ∧ Turns F u (u'.setCell ⟨kb, 0, none⟩ v') := by
  have hvk : ∀ b, v.ownBlock = some b → b ≠ kb ∧ b ≠ mb := fun b hb => by
    obtain ⟨_, ⟨rfl, _⟩ | ⟨g, cap, cur, rfl, _, hg, _⟩⟩ := h.row
    · simp [Value.ownBlock] at hb
    · obtain rfl : g = b := by simpa [Value.ownBlock] using hb
      refine ⟨fun e => ?_, fun e => ?_⟩
      · rw [e, h.own] at hg; simp at hg
      · obtain ⟨es, c, q1, _⟩ := h.map
        rw [e, q1] at hg; cases hg
  have hk : u'.heap[kb]? = u.heap[kb]? := h2.block kb h.lt (fun e => (hvk kb e.symm).1 rfl)
  have hm : u'.heap[mb]? = u.heap[mb]? := h2.block mb h.map.lt (fun e => (hvk mb e.symm).2 rfl)
  have hfr : ∀ b, v'.ownBlock = some b → F b := fun b hb => by
    rcases h3 with e | e
    · exact h.fr b (by rw [← e]; exact hb)
    · rw [e] at hb
      exact hF b (by simp at hb; omega)
  have hv' : ∀ b, v'.ownBlock = some b → b ≠ kb := fun b hb => by
    rcases h3 with e | e
    · exact (hvk b (by rw [← e]; exact hb)).1
    · rw [e] at hb
      have := h.lt
      simp at hb; omega
  refine ⟨⟨h.fk, h.fm, hfr, ?_, ?_, ?_, ?_⟩, ?_⟩
  · rw [heap_setCell_same u' kb 0 _ _ v' (hk.trans h.own)]; rfl
  · obtain ⟨q1, q2 | ⟨g, cap, cur, hv, hB, hg, q3⟩⟩ := h1
    · exact absurd q2.2 (by omega)
    · refine ⟨by simpa using q1, .inr ⟨g, cap, cur, by simpa using hv, hB, ?_, by simpa using q3⟩⟩
      rw [heap_setCell_other u' ⟨kb, 0, none⟩ g v' (hv' g (by rw [hv]; rfl))]; exact hg
  · obtain ⟨es, c, q1, q2⟩ := h.map
    exact ⟨es, c, by rw [heap_setCell_other u' ⟨kb, 0, none⟩ mb v' h.apart, hm]; exact q1, q2⟩
  · intro z hz
    rcases List.mem_append.1 hz with hz | hz
    · exact h.ok z hz
    · rw [List.mem_singleton.1 hz]; exact hy
  · exact (Turns.grown h2 h.fr).trans (Turns.set h.fk v')
end
/-- What stays while the new entry's place is told. -/
def PuS (kb mb b : Nat) (v : Value) (k : ByteArray) (u : World) : Prop := u.cell? ⟨kb, 0, none⟩ = some v ∧ u.cell? ⟨kb, 2, none⟩ = some (.map (some mb)) ∧ u.cell? ⟨b, 0, none⟩ = some (.string k)
set_option maxHeartbeats 4000000 in
theorem kPush_at {F : Where} {w : World} {kb mb n len cap : Nat} {a : Option Addr} {D : DataW Unit} {L : List It} (h : KAt F w kb (.slice a len cap) mb n D L) (hF : ∀ b, w.heap.size ≤ b → F b) (hlen : len = L.length) (hn : n < 4611686018427387904) (hL : L.length < 1099511627776) (y : It) (hy : okI y) :
    Calls Try.prog 68 #[.pointer (some ⟨kb, 0, none⟩), .iface 27 (vI y)] w fun e w' => e = .returned (.tuple #[]) ∧
      (∃ v, KAt F w' kb v mb (n + 1) (D.put (kl y) (.lit (.int .i64 (L.length : Int)))) (L ++ [y])) ∧ Turns F w w' := by
  have hkb := h.lt
  have hmb := h.map.lt
  subst hlen
  have hta : ∀ W, Sem.run Try.prog (Instr.typeAssert (.iface 27 (vI y)) 20 27 false) W = .ok (vI y) W := fun _ => by kernel_rfl
  go_enter Try.func68, Try.ntmps68
  go_wp2_with fail
  have HK0 : Hid (KAt F (w.alloc (.cells #[.string y.1, .int .i64 y.2.1, .int .i64 y.2.2] 27)).drew kb (.slice a L.length cap) mb n D L) := (h.grow (by go_grown)).drew
  have Own1 : Hid ((w.alloc (.cells #[.string y.1, .int .i64 y.2.1, .int .i64 y.2.2] 27)).drew.ownsMap Try.prog 9 (plainElem Try.prog 3) mb n D) := HK0.out.map
  have HS0 : Hid (PuS kb mb w.heap.size (.slice a L.length cap) y.1 (w.alloc (.cells #[.string y.1, .int .i64 y.2.1, .int .i64 y.2.2] 27)).drew) := ⟨HK0.out.c0, HK0.out.c2, by simp [go_sem]⟩
  have HB : Hid (∀ {u : World}, (w.alloc (.cells #[.string y.1, .int .i64 y.2.1, .int .i64 y.2.2] 27)).drew.mapTurned u mb → u.heap[w.heap.size]? = some (.cells #[.string y.1, .int .i64 y.2.1, .int .i64 y.2.2] 27 (0, 0))) := by
    intro u hu
    rw [hu.grown.block w.heap.size (by simp) (fun e => by simp at e; omega)]
    exact heap_new w _ _ rfl
  have HS2 : Hid (∀ {u : World} {D' : DataW Unit}, u.ownsMap Try.prog 9 (plainElem Try.prog 3) mb (n + 1) D' → (w.alloc (.cells #[.string y.1, .int .i64 y.2.1, .int .i64 y.2.2] 27)).drew.mapTurned u mb → PuS kb mb w.heap.size (.slice a L.length cap) y.1 u) := by
    intro u D' h1 h2
    have k := HK0.out.mapped h1 h2
    have q := HB.out h2
    exact ⟨k.c0, k.c2, by simp [World.cell?, q]⟩
  have HT0 : Hid (Turns F w (w.alloc (.cells #[.string y.1, .int .i64 y.2.1, .int .i64 y.2.2] 27)).drew) := (Turns.alloc _ _ _).trans (Turns.drew _ _)
  clear h hta
  refine wp_region_noPanic ?_
  refine wp_region_held_drew (S := PuS kb mb w.heap.size (.slice a L.length cap) y.1) (by kernel_rfl) (HS0.out) (fun hHeld => ?_)
  refine wpAnyH_take (i := 0) (v := ?v0) rfl (by kernel_rfl) (by kernel_rfl) (by kernel_rfl) (fun _ _ _ h => h) (Or.inl ⟨by rfl, ?hy0⟩) (by assumption) ?rest0
  case hy0 => (intro u hu; obtain ⟨_, _, _⟩ := hu; go_simp; try with_reducible rfl)
  try simp only [Act.put, List.setIfInBounds_toArray, List.set_cons_zero, List.set_cons_succ, List.getElem_toArray, List.getElem_cons_zero, List.getElem_cons_succ]
  refine wpAnyH_take (i := 1) (v := ?v1) rfl (by kernel_rfl) (by kernel_rfl) (by kernel_rfl) (fun _ _ _ h => h) (Or.inl ⟨by rfl, ?hy1⟩) (by assumption) ?rest1
  case hy1 => (intro u hu; obtain ⟨_, _, _⟩ := hu; go_simp; try with_reducible rfl)
  try simp only [Act.put, List.setIfInBounds_toArray, List.set_cons_zero, List.set_cons_succ, List.getElem_toArray, List.getElem_cons_zero, List.getElem_cons_succ]
  refine wpAnyH_take (i := 2) (v := ?v2) rfl (by kernel_rfl) (by kernel_rfl) (by kernel_rfl) (fun _ _ _ h => h) (Or.inl ⟨by rfl, ?hy2⟩) (by assumption) ?rest2
  case hy2 => (intro u hu; obtain ⟨_, _, _⟩ := hu; go_simp; try with_reducible rfl)
  try simp only [Act.put, List.setIfInBounds_toArray, List.set_cons_zero, List.set_cons_succ, List.getElem_toArray, List.getElem_cons_zero, List.getElem_cons_succ]
  refine wpAnyH_take (i := 3) (v := ?v3) rfl (by kernel_rfl) (by kernel_rfl) (by kernel_rfl) (fun _ _ _ h => h) (Or.inl ⟨by rfl, ?hy3⟩) (by assumption) ?rest3
  case hy3 => (intro u hu; obtain ⟨_, _, _⟩ := hu; go_simp; try with_reducible rfl)
  try simp only [Act.put, List.setIfInBounds_toArray, List.set_cons_zero, List.set_cons_succ, List.getElem_toArray, List.getElem_cons_zero, List.getElem_cons_succ]
  refine wpAnyH_take (i := 4) (v := ?v4) rfl (by kernel_rfl) (by kernel_rfl) (by kernel_rfl) (fun _ _ _ h => h) (Or.inl ⟨by rfl, ?hy4⟩) (by assumption) ?rest4
  case hy4 => (intro u hu; obtain ⟨_, _, _⟩ := hu; go_simp; try with_reducible rfl)
  try simp only [Act.put, List.setIfInBounds_toArray, List.set_cons_zero, List.set_cons_succ, List.getElem_toArray, List.getElem_cons_zero, List.getElem_cons_succ]
  refine wpAnyH_take (i := 5) (v := ?v5) rfl (by kernel_rfl) (by kernel_rfl) (by kernel_rfl) (fun _ _ _ h => h) (Or.inl ⟨by rfl, ?hy5⟩) (by assumption) ?rest5
  case hy5 => (intro u hu; obtain ⟨_, _, _⟩ := hu; go_simp; try with_reducible rfl)
  try simp only [Act.put, List.setIfInBounds_toArray, List.set_cons_zero, List.set_cons_succ, List.getElem_toArray, List.getElem_cons_zero, List.getElem_cons_succ]
  refine wpAnyH_take (i := 6) (v := ?v6) rfl (by kernel_rfl) (by kernel_rfl) (by kernel_rfl) (fun _ _ _ h => h) (Or.inl ⟨by rfl, ?hy6⟩) (by assumption) ?rest6
  case hy6 => (intro u hu; obtain ⟨_, _, _⟩ := hu; go_simp; try with_reducible rfl)
  try simp only [Act.put, List.setIfInBounds_toArray, List.set_cons_zero, List.set_cons_succ, List.getElem_toArray, List.getElem_cons_zero, List.getElem_cons_succ]
  refine wpAnyH_take (i := 7) (v := ?v7) rfl (by kernel_rfl) (by kernel_rfl) (by kernel_rfl) (fun _ _ _ h => h) (Or.inl ⟨by rfl, ?hy7⟩) (by assumption) ?rest7
  case hy7 => (intro u hu; obtain ⟨_, _, _⟩ := hu; go_simp; try with_reducible rfl)
  try simp only [Act.put, List.setIfInBounds_toArray, List.set_cons_zero, List.set_cons_succ, List.getElem_toArray, List.getElem_cons_zero, List.getElem_cons_succ]
  refine wpAnyH_take (i := 8) (v := ?v8) rfl (by kernel_rfl) (by kernel_rfl) (by kernel_rfl) (fun _ _ _ h => h) (Or.inl ⟨by rfl, ?hy8⟩) (by assumption) ?rest8
  case hy8 => (intro u hu; obtain ⟨_, _, _⟩ := hu; go_simp; try with_reducible rfl)
  try simp only [Act.put, List.setIfInBounds_toArray, List.set_cons_zero, List.set_cons_succ, List.getElem_toArray, List.getElem_cons_zero, List.getElem_cons_succ]
  refine wpAnyH_take (i := 9) (v := ?v9) rfl (by kernel_rfl) (by kernel_rfl) (by kernel_rfl) (fun _ _ _ h => h) (Or.inl ⟨by rfl, ?hy9⟩) (by assumption) ?rest9
  case hy9 => (intro u hu; obtain ⟨_, _, _⟩ := hu; go_simp; try with_reducible rfl)
  try simp only [Act.put, List.setIfInBounds_toArray, List.set_cons_zero, List.set_cons_succ, List.getElem_toArray, List.getElem_cons_zero, List.getElem_cons_succ]
  refine wpAnyH_take (i := 10) (v := ?v10) rfl (by kernel_rfl) (by kernel_rfl) (by kernel_rfl) (fun _ _ _ h => h) (Or.inl ⟨by rfl, ?hy10⟩) (by assumption) ?rest10
  case hy10 => (intro u hu; obtain ⟨_, _, _⟩ := hu; go_simp; try with_reducible rfl)
  try simp only [Act.put, List.setIfInBounds_toArray, List.set_cons_zero, List.set_cons_succ, List.getElem_toArray, List.getElem_cons_zero, List.getElem_cons_succ]
  refine wpAnyH_take (i := 11) (v := ?v11) rfl (by kernel_rfl) (by kernel_rfl) (by kernel_rfl) (fun _ _ _ h => h) (Or.inl ⟨by rfl, ?hy11⟩) (by assumption) ?rest11
  case hy11 => (intro u hu; obtain ⟨_, _, _⟩ := hu; go_simp; try with_reducible rfl)
  try simp only [Act.put, List.setIfInBounds_toArray, List.set_cons_zero, List.set_cons_succ, List.getElem_toArray, List.getElem_cons_zero, List.getElem_cons_succ]
  refine wpAnyH_ready (rs := [12]) (by kernel_rfl) (by simp) ?_
  refine AllReadyH.cons rfl (fun K hK => ?_) AllReadyH.nil
  refine map_put_wp (.tmp 10) (.tmp 12) (.tmp 18) rfl (by simp [Act.eval, Act.put]) y hy (by simp [Act.eval, Act.put]) (L.length : Int) (WalkArith.wf_i64 (by omega)) (by simp [Act.eval, Act.put]) Own1.out (by unfold maxLen; omega) ?_
  intro w2 hown2 hturn2
  refine hK.out _ _ (HS2.out hown2 hturn2) (fun hHeld2 => ?_)
  clear hK K hHeld
  have hHeld := hHeld2
  clear hHeld2
  try simp only [Act.put, List.setIfInBounds_toArray, List.set_cons_zero, List.set_cons_succ, List.getElem_toArray, List.getElem_cons_zero, List.getElem_cons_succ]
  refine wpAnyH_done (by kernel_rfl) ?_ _
  refine NoPanic.normal ?_
  have HK2 : Hid (KAt F w2 kb (.slice a L.length cap) mb (n + 1) (D.put (kl y) (.lit (.int .i64 (L.length : Int)))) L) := HK0.out.mapped hown2 hturn2
  have HT2 : Hid (Turns F w w2) := HT0.out.trans (Turns.map hturn2 HK0.out.fm)
  have hbox := HB.out hturn2
  have b0 : w2.cell? ⟨w.heap.size, 0, none⟩ = some (.string y.1) := by simp [World.cell?, hbox]
  have b1 : w2.cell? ⟨w.heap.size, 1, none⟩ = some (.int .i64 y.2.1) := by simp [World.cell?, hbox]
  have b2 : w2.cell? ⟨w.heap.size, 2, none⟩ = some (.int .i64 y.2.2) := by simp [World.cell?, hbox]
  have c0 := HK2.out.c0
  have c0a : (w2.alloc (.cells #[.string y.1, .int .i64 y.2.1, .int .i64 y.2.2] 27)).cell? ⟨kb, 0, none⟩ = some (.slice a L.length cap) := (HK2.out.grow (by go_grown)).c0
  have hF2 : Hid (∀ b, w2.heap.size ≤ b → F b) := fun b hb => hF b (Nat.le_trans HT2.out.size hb)
  clear HK0 Own1 HS0 HB HS2 HT0 hown2 hturn2 hHeld hbox hF
  go_wp2_with fail
  go_region_law (refine items_append_wp (HK2.out.grow (by go_grown)) (.tmp 24) (.tmp 26) rfl (by simp [Act.eval, Act.put]) ⟨w2.heap.size, 0, none⟩ 1 (by simp [Act.eval, Act.put]) y (one_cells w2 (encI y) 27) hL ?_; intro g3 c3 u3 q1 q2 q3; have q4 := KAt.kept_cells (HK2.out.grow (by go_grown)) q2; obtain ⟨q5, q6⟩ := q4)
  all_goals go_end0
  all_goals exact ⟨rfl, ⟨_, (KAt.appended (HK2.out.grow (by go_grown)) (fun b hb => hF2.out b (by simp at hb; omega)) hy q1 q2 q3).1⟩, HT2.out.trans (((Turns.alloc _ _ _).trans (Turns.drew _ _)).trans (KAt.appended (HK2.out.grow (by go_grown)) (fun b hb => hF2.out b (by simp at hb; omega)) hy q1 q2 q3).2)⟩
theorem kPush {F : Where} {w : World} {kb : Nat} {L : List It} (h : HK F w kb L) (hF : ∀ b, w.heap.size ≤ b → F b) (hL : L.length < 1099511627776) (y : It) (hy : okI y) (hnew : ∀ x ∈ L, kl x ≠ kl y) :
    Calls Try.prog 68 #[.pointer (some ⟨kb, 0, none⟩), .iface 27 (vI y)] w fun e w' => e = .returned (.tuple #[]) ∧ HK F w' kb (L ++ [y]) ∧ Turns F w w' := by
  obtain ⟨v, mb, D, h, t⟩ := h
  obtain ⟨a, cap, rfl, _⟩ := h.len
  refine (kPush_at h hF rfl (by omega) hL y hy).mono ?_
  rintro e w' ⟨rfl, ⟨v', h1⟩, h2⟩
  refine ⟨rfl, HK.of h1 (t.snoc h.tidy ?_), h2⟩
  cases hh : Maps.has D (kl y)
  · rfl
  · obtain ⟨i, hi, e⟩ := t.2.2 _ hh
    exact absurd e (hnew _ (List.getElem_mem hi))
end Go.Proofs.Ytgncpjplofacfaa
