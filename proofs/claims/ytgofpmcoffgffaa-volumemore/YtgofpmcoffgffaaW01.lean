/- A row of one's own within a stretch of blocks; a state whose six lists are rows of its own, each in a stretch of its own. Plain facts on worlds. No condition. base.terms gives a slice of its own, what it asks copied too, that holds the same. Condition: the slice holds what is said of it. -/
import Derived.Test.YtgofpmcoffgffaaQ03
import Derived.Test.YtgofpmcoffgffaaQ05
import Derived.Test.YtgofpmcoffgffaaQ04
namespace Go.Proofs.Ytgofpmcoffgffaa
open Go.RowKit
set_option linter.unusedSimpArgs false
set_option maxRecDepth 100000

abbrev Btw (lo hi : Nat) : Where := fun b => lo ≤ b ∧ b < hi
section
variable {α : Type} [Inhabited α] {R : Rep α} {k : Nat}
def RowI (R : Rep α) (k : Nat) (lo hi : Nat) (u : World) (e : TypeId) (v : Value) (L : List α) : Prop :=
  ∃ xs, u.ownsRow lo e k v L.length xs ∧ Chunks R k (fun b => Btw lo hi b ∧ v.ownBlock ≠ some b) u xs L ∧ ∀ b, v.ownBlock = some b → Btw lo hi b
theorem RowI.of (hR : Firm R k) {X u : World} {e : TypeId} {v : Value} {L : List α} (h : Row R k (Fresh X) X u e v L) : RowI R k X.heap.size u.heap.size u e v L := by
  obtain ⟨xs, h1, h2⟩ := h
  exact ⟨xs, h1.2, h2.weak hR (fun b hb h => ⟨⟨h.1, hb⟩, h.2⟩), fun b hb => h1.2.lt b hb⟩
theorem RowI.kept (hR : Firm R k) {lo hi : Nat} {u u' : World} {e : TypeId} {v : Value} {L : List α} (h : RowI R k lo hi u e v L) (hk : Kept (Btw lo hi) u u') : RowI R k lo hi u' e v L := by
  obtain ⟨xs, h1, h2, h3⟩ := h
  refine ⟨xs, ?_, h2.kept hR ⟨hk.1, fun b ha hb => hk.2 b ha.1 hb⟩, h3⟩
  obtain ⟨hl, h0 | ⟨g, cap, cur, rfl, hg, hh, r⟩⟩ := h1
  · exact ⟨hl, .inl h0⟩
  · exact ⟨hl, .inr ⟨g, cap, cur, rfl, hg, (hk.2 g (h3 g rfl) (Array.getElem?_eq_some_iff.1 hh).1).trans hh, r⟩⟩
theorem RowI.sl (hR : Firm R k) {bytes lo hi : Nat} {u : World} {e : TypeId} {v : Value} {L : List α} (h : RowI R k lo hi u e v L) (hb : L.length * bytes ≤ 140737488351232) : ∃ a cap, v = .slice a L.length cap ∧ SlAt R k bytes (Btw lo hi) u a L.length cap L := by
  obtain ⟨xs, h1, h2, h3⟩ := h
  obtain ⟨a, cap, e1, h4⟩ := sl_of_owns (bytes := bytes) hR h1 h2 hb
  refine ⟨a, cap, e1, h4.weak hR (fun b _ hb => ?_)⟩
  rcases hb with hb | hb
  · exact hb.1
  · exact h3 b hb
theorem RowI.row {lo hi : Nat} {w0 u : World} {e : TypeId} {v : Value} {L : List α} (h : RowI R k lo hi u e v L) (hb : Below w0.heap.size w0 u) (hl : w0.heap.size ≤ lo) : Row R k (Btw lo hi) w0 u e v L := by
  obtain ⟨xs, h1, h2, _⟩ := h
  exact ⟨xs, ⟨hb, Go.Joins.ownsRow_le h1 hl⟩, h2⟩
theorem Stays.addI {W u : World} {G : World → Prop} (hG : Stays W G) (hg : G u) (hR : Firm R k) {lo hi : Nat} {e : TypeId} {v : Value} {L : List α} (h : RowI R k lo hi u e v L) (hlo : W.heap.size ≤ lo) (hhi : hi ≤ u.heap.size) :
    ∃ G', Stays W G' ∧ G' u ∧ (∀ z, G' z → G z) ∧ ∀ z, G' z → RowI R k lo hi z e v L ∧ hi ≤ z.heap.size :=
  ⟨fun z => G z ∧ RowI R k lo hi z e v L ∧ hi ≤ z.heap.size, fun z z' h hk => ⟨hG z z' h.1 hk, h.2.1.kept hR ⟨hk.1, fun b ha hb => hk.2 b (Nat.le_trans hlo ha.1) hb⟩, Nat.le_trans h.2.2 hk.1⟩, ⟨hg, h, hhi⟩, fun _ h => h.1, fun _ h => h.2⟩
end
/-- A state whose lists are rows of its own. -/
structure StO (w0 u : World) (c0 c1 c2 c3 c4 c5 d0 d1 d2 d3 d4 d5 : Nat) (v0 v1 v2 v3 v4 v5 : Value) (x : StateD) : Prop where
  f : w0.heap.size ≤ c0
  o : c0 ≤ d0 ∧ d0 ≤ c1 ∧ c1 ≤ d1 ∧ d1 ≤ c2 ∧ c2 ≤ d2 ∧ d2 ≤ c3 ∧ c3 ≤ d3 ∧ d3 ≤ c4 ∧ c4 ≤ d4 ∧ d4 ≤ c5 ∧ c5 ≤ d5
  p : RowI RPod 16 c0 d0 u 33 v0 x.1
  n : RowI RNode 9 c1 d1 u 36 v1 x.2.1
  v : RowI RVolume 5 c2 d2 u 59 v2 x.2.2.1
  c : RowI RClaim 4 c3 d3 u 57 v3 x.2.2.2.1
  k : RowI RClass 2 c4 d4 u 65 v4 x.2.2.2.2.1
  b : RowI RBudget 3 c5 d5 u 95 v5 x.2.2.2.2.2
theorem StO.kept {w0 u u' : World} {c0 c1 c2 c3 c4 c5 d0 d1 d2 d3 d4 d5 : Nat} {v0 v1 v2 v3 v4 v5 : Value} {x : StateD} (h : StO w0 u c0 c1 c2 c3 c4 c5 d0 d1 d2 d3 d4 d5 v0 v1 v2 v3 v4 v5 x) (hk : Kept (Btw c0 d5) u u') : StO w0 u' c0 c1 c2 c3 c4 c5 d0 d1 d2 d3 d4 d5 v0 v1 v2 v3 v4 v5 x := by
  have ho := h.o
  have kk : ∀ lo hi, c0 ≤ lo → hi ≤ d5 → Kept (Btw lo hi) u u' := fun lo hi h1 h2 => ⟨hk.1, fun b ha hb => hk.2 b ⟨Nat.le_trans h1 ha.1, Nat.lt_of_lt_of_le ha.2 h2⟩ hb⟩
  exact ⟨h.f, h.o, h.p.kept RPod.firm (kk _ _ (by omega) (by omega)), h.n.kept RNode.firm (kk _ _ (by omega) (by omega)), h.v.kept RVolume.firm (kk _ _ (by omega) (by omega)), h.c.kept RClaim.firm (kk _ _ (by omega) (by omega)), h.k.kept RClass.firm (kk _ _ (by omega) (by omega)), h.b.kept RBudget.firm (kk _ _ (by omega) (by omega))⟩
/-- What base.State hands back. -/
def StOut (w : World) (x : StateD) (e : Ending) (w' : World) : Prop := ∃ c0 c1 c2 c3 c4 c5 d0 d1 d2 d3 d4 d5 v0 v1 v2 v3 v4 v5, e = .returned (.agg #[v0, v1, v2, v3, v4, v5]) ∧ StO w w' c0 c1 c2 c3 c4 c5 d0 d1 d2 d3 d4 d5 v0 v1 v2 v3 v4 v5 x ∧ d5 ≤ w'.heap.size ∧ RState (Fresh w) w' [v0, v1, v2, v3, v4, v5] x ∧ Below w.heap.size w w'
end Go.Proofs.Ytgofpmcoffgffaa
namespace Go.Proofs.Ytgofpmcoffgffaa
open Go.RowKit
set_option linter.unusedSimpArgs false

theorem infoTerm : (Try.prog.info? 154).map (fun i => (i.zero, i.size, i.bytes)) = some (some (.agg #[.slice none 0 0, .string ⟨#[]⟩]), 2, 40) := by kernel_rfl
/-- The row's place holds what it held, and nothing that was there has turned. -/
def TmS (w : World) (D off k : Nat) (h : Hd) (s : ByteArray) (u : World) : Prop :=
  Below w.heap.size w u ∧ u.cell? ⟨D, off + k * 2, none⟩ = some (.slice h.1 h.2.1 h.2.2) ∧ u.cell? ⟨D, off + k * 2 + 1, none⟩ = some (.string s)

set_option maxHeartbeats 2000000 in
theorem terms_copy (a : Option Addr) (n cap : Nat) (A : Where) (L : List TermD) (w : World) (hL : Hid (SlAt RTerm 2 40 A w a n cap L)) : Calls Try.prog 51 #[.slice a n cap] w fun e w' => ∃ a' cap', e = .returned (.slice a' n cap') ∧ SlAt RTerm 2 40 (Fresh w) w' a' n cap' L ∧ Below w.heap.size w w' := by
  have hlen := hL.out.len (by decide)
  have hn : Hid (L.length = n) := hL.out.1
  have hbb : Hid (n * 40 ≤ 140737488351232) := hL.out.2.2.2.1
  have HR0 : Hid (Row RTerm 2 (Fresh w) w (w.alloc (.cells #[] 154)) 154 (.slice (some ⟨w.heap.size, 0, none⟩) 0 0) (L.take 0)) := Row.start _ w w _ (Below.refl _ _)
  go_enter Try.func51, Try.ntmps51
  go_wp2_with fail
  go_loopw [3, 4] (fun s i wr => ∃ k : Nat, k ≤ n ∧ i = .int .i64 k ∧ Hid (Row RTerm 2 (Fresh w) w wr 154 s (L.take k))) (fun _ i _ => n - (intOf i).toNat)
  case atStart => exact ⟨0, Nat.zero_le _, rfl, HR0⟩
  case round =>
    obtain ⟨k, hk, rfl, hrow⟩ := hrel
    by_cases hlt : k < n
    · have hltz : (k : Int) < (n : Int) := by omega
      have hkl : Hid (k < L.length) := by rw [Hid, hn.out]; exact hlt
      have hbw : Below w.heap.size w wr := hrow.out.below
      obtain ⟨D, off, rfl, hD, _, cs, hr, hv⟩ := hL.out.get hlt
      obtain ⟨h0, rfl, hT, hs⟩ := hr.out
      have d0 := hv 0 _ rfl
      have d1 := hv 1 _ rfl
      rw [Nat.add_zero] at d0
      have HT : Hid (L.take k ++ [L.getD k default] = L.take (k + 1)) := take_at hkl.out
      have HS : Hid (∀ {u : World}, Below w.heap.size w u → TmS w D off k h0 (L.getD k default).2 u) := fun hb => ⟨hb, (hb.cell hD).trans d0, (hb.cell hD).trans d1⟩
      have HC := Reqs_copy h0.1 h0.2.1 h0.2.2 A (L.getD k default).1 wr.drew (hT.on RReq.firm hbw.drew)
      have HLb : Hid (((L.take k).length + 1) * 40 ≤ 140737488355328) := by
        have := bytes_le hbb.out hlt
        rw [Hid, List.length_take, hn.out, Nat.min_eq_left (by omega)]
        exact this
      clear hr hT hv d0 d1
      generalize L.getD k default = x at hs HT HS HC
      go_wp2_with fail
      refine wp_region_noPanic ?_
      refine wp_region_held_drew (S := TmS w D off k h0 x.2) (by kernel_rfl) (HS.out hbw.drew) (fun hHeld => ?_)
      refine wpAnyH_take (i := 0) (v := ?v0) rfl (by kernel_rfl) (by kernel_rfl) (by kernel_rfl) (fun _ _ _ h => h) (Or.inl ⟨by rfl, ?hy0⟩) (by assumption) ?rest0
      case hy0 => (intro u hu; obtain ⟨_, _, _⟩ := hu; go_simp; try with_reducible rfl)
      try simp only [Act.put, List.setIfInBounds_toArray, List.set_cons_zero, List.set_cons_succ, List.getElem_toArray, List.getElem_cons_zero, List.getElem_cons_succ]
      refine wpAnyH_take (i := 1) (v := ?v1) rfl (by kernel_rfl) (by kernel_rfl) (by kernel_rfl) (fun _ _ _ h => h) (Or.inl ⟨by rfl, ?hy1⟩) (by assumption) ?rest1
      case hy1 => (intro u hu; obtain ⟨_, _, _⟩ := hu; go_simp; try with_reducible rfl)
      try simp only [Act.put, List.setIfInBounds_toArray, List.set_cons_zero, List.set_cons_succ, List.getElem_toArray, List.getElem_cons_zero, List.getElem_cons_succ]
      refine wpAnyH_take (i := 2) (v := ?v2) rfl (by kernel_rfl) (by kernel_rfl) (by kernel_rfl) (fun _ _ _ h => h) (Or.inl ⟨by rfl, ?hy2⟩) (by assumption) ?rest2
      case hy2 => (intro u hu; obtain ⟨_, _, _⟩ := hu; go_simp; try with_reducible rfl)
      try simp only [Act.put, List.setIfInBounds_toArray, List.set_cons_zero, List.set_cons_succ, List.getElem_toArray, List.getElem_cons_zero, List.getElem_cons_succ]
      refine wpAnyH_take (i := 3) (v := ?v3) rfl (by kernel_rfl) (by kernel_rfl) (by kernel_rfl) (fun _ _ _ h => h) (Or.inl ⟨by rfl, ?hy3⟩) (by assumption) ?rest3
      case hy3 => (intro u hu; obtain ⟨_, _, _⟩ := hu; go_simp; try with_reducible rfl)
      try simp only [Act.put, List.setIfInBounds_toArray, List.set_cons_zero, List.set_cons_succ, List.getElem_toArray, List.getElem_cons_zero, List.getElem_cons_succ]
      refine wpAnyH_take (i := 4) (v := ?v4) rfl (by kernel_rfl) (by kernel_rfl) (by kernel_rfl) (fun _ _ _ h => h) (Or.inl ⟨by rfl, ?hy4⟩) (by assumption) ?rest4
      case hy4 => (intro u hu; obtain ⟨_, _, _⟩ := hu; go_simp; try with_reducible rfl)
      try simp only [Act.put, List.setIfInBounds_toArray, List.set_cons_zero, List.set_cons_succ, List.getElem_toArray, List.getElem_cons_zero, List.getElem_cons_succ]
      refine wpAnyH_take (i := 5) (v := ?v5) rfl (by kernel_rfl) (by kernel_rfl) (by kernel_rfl) (fun _ _ _ h => h) (Or.inl ⟨by rfl, ?hy5⟩) (by assumption) ?rest5
      case hy5 => (intro u hu; obtain ⟨_, _, _⟩ := hu; go_simp; try with_reducible rfl)
      try simp only [Act.put, List.setIfInBounds_toArray, List.set_cons_zero, List.set_cons_succ, List.getElem_toArray, List.getElem_cons_zero, List.getElem_cons_succ]
      refine wpAnyH_take (i := 7) (v := ?v7) rfl (by kernel_rfl) (by kernel_rfl) (by kernel_rfl) (fun _ _ _ h => h) (Or.inl ⟨by rfl, ?hy7⟩) (by assumption) ?rest7
      case hy7 => (intro u hu; obtain ⟨_, _, _⟩ := hu; go_simp; try with_reducible rfl)
      try simp only [Act.put, List.setIfInBounds_toArray, List.set_cons_zero, List.set_cons_succ, List.getElem_toArray, List.getElem_cons_zero, List.getElem_cons_succ]
      refine wpAnyH_take (i := 8) (v := ?v8) rfl (by kernel_rfl) (by kernel_rfl) (by kernel_rfl) (fun _ _ _ h => h) (Or.inl ⟨by rfl, ?hy8⟩) (by assumption) ?rest8
      case hy8 => (intro u hu; obtain ⟨_, _, _⟩ := hu; go_simp; try with_reducible rfl)
      try simp only [Act.put, List.setIfInBounds_toArray, List.set_cons_zero, List.set_cons_succ, List.getElem_toArray, List.getElem_cons_zero, List.getElem_cons_succ]
      refine wpAnyH_take (i := 9) (v := ?v9) rfl (by kernel_rfl) (by kernel_rfl) (by kernel_rfl) (fun _ _ _ h => h) (Or.inl ⟨by rfl, ?hy9⟩) (by assumption) ?rest9
      case hy9 => (intro u hu; obtain ⟨_, _, _⟩ := hu; go_simp; try with_reducible rfl)
      try simp only [Act.put, List.setIfInBounds_toArray, List.set_cons_zero, List.set_cons_succ, List.getElem_toArray, List.getElem_cons_zero, List.getElem_cons_succ]
      refine wpAnyH_take (i := 10) (v := ?v10) rfl (by kernel_rfl) (by kernel_rfl) (by kernel_rfl) (fun _ _ _ h => h) (Or.inl ⟨by rfl, ?hy10⟩) (by assumption) ?rest10
      case hy10 => (intro u hu; obtain ⟨_, _, _⟩ := hu; go_simp; try with_reducible rfl)
      try simp only [Act.put, List.setIfInBounds_toArray, List.set_cons_zero, List.set_cons_succ, List.getElem_toArray, List.getElem_cons_zero, List.getElem_cons_succ]
      refine wpAnyH_take (i := 11) (v := ?v11) rfl (by kernel_rfl) (by kernel_rfl) (by kernel_rfl) (fun _ _ _ h => h) (Or.inl ⟨by rfl, ?hy11⟩) (by assumption) ?rest11
      case hy11 => (intro u hu; obtain ⟨_, _, _⟩ := hu; go_simp; try with_reducible rfl)
      try simp only [Act.put, List.setIfInBounds_toArray, List.set_cons_zero, List.set_cons_succ, List.getElem_toArray, List.getElem_cons_zero, List.getElem_cons_succ]
      refine wpAnyH_ready (rs := [6]) (by kernel_rfl) (by simp) ?_
      refine AllReadyH.cons rfl (fun K hK => ?_) AllReadyH.nil
      go_simp
      refine (HC).mono ?_
      rintro e w5 ⟨a5, c5, rfl, hS5, hb5⟩
      have hb6 : Below wr.heap.size wr (w5.alloc (.cells #[.slice a5 h0.2.1 c5, .string x.2] 154)) := ((Below.refl _ wr).drew.trans (hb5.mono (Nat.le_refl _))).alloc hb5.size _
      have HR6 := hrow.out.on RTerm.firm hb6
      have HE : RTerm (fun b => Fresh w b ∧ Value.ownBlock u3 ≠ some b) (w5.alloc (.cells #[.slice a5 h0.2.1 c5, .string x.2] 154)) [.slice a5 h0.2.1 c5, .string x.2] x := RTerm.mk (h0 := (a5, h0.2.1, c5)) ((hS5.kept RReq.firm (Kept.alloc _ _ _)).weak RReq.firm (fun b _ hb => hrow.out.apart (u' := wr.drew) (Nat.le_refl _) b hb)) hs
      have HCh := chunk_one RTerm.firm HE
      have HX := one_cells w5 [.slice a5 h0.2.1 c5, .string x.2] 154
      go_wp2_with fail
      refine hK.out _ _ (HS.out (on2 hHeld.1 hb5)) (fun hHeld2 => ?_)
      clear hK K hHeld
      have hHeld := hHeld2
      clear hHeld2
      try simp only [Act.put, List.setIfInBounds_toArray, List.set_cons_zero, List.set_cons_succ, List.getElem_toArray, List.getElem_cons_zero, List.getElem_cons_succ]
      refine wpAnyH_take (i := 12) (v := ?v12) rfl (by kernel_rfl) (by kernel_rfl) (by kernel_rfl) (fun _ _ _ h => h) (Or.inl ⟨by rfl, ?hy12⟩) (by assumption) ?rest12
      case hy12 => (intro u hu; obtain ⟨_, _, _⟩ := hu; go_simp; try with_reducible rfl)
      try simp only [Act.put, List.setIfInBounds_toArray, List.set_cons_zero, List.set_cons_succ, List.getElem_toArray, List.getElem_cons_zero, List.getElem_cons_succ]
      refine wpAnyH_ready (rs := [13]) (by kernel_rfl) (by simp) ?_
      refine AllReadyH.cons rfl (fun K hK => ?_) AllReadyH.nil
      go_simp
      refine hK.out _ _ (HS.out (on2 hHeld.1 ((Below.refl _ _).alloc (Nat.le_refl _) _))) (fun hHeld2 => ?_)
      clear hK K hHeld
      have hHeld := hHeld2
      clear hHeld2
      try simp only [Act.put, List.setIfInBounds_toArray, List.set_cons_zero, List.set_cons_succ, List.getElem_toArray, List.getElem_cons_zero, List.getElem_cons_succ]
      refine wpAnyH_ready (rs := [14]) (by kernel_rfl) (by simp) ?_
      refine AllReadyH.cons rfl (fun K hK => ?_) AllReadyH.nil
      refine row_append_wp RTerm.firm (A := Fresh w) (w0 := w) _ _ 29 154 rfl _ 40 infoTerm Try.underlying29 rfl (by decide) (by decide) u3 (L.take k) rfl HR6 ⟨w5.heap.size, 0, none⟩ 1 1 _ [x] rfl rfl HCh HX (by simp [Value.oneCell']) HLb.out ?_
      intro v6 w6 hrow6 hg6
      refine hK.out _ _ (HS.out hrow6.below) (fun hHeld2 => ?_)
      clear hK K hHeld
      have hHeld := hHeld2
      clear hHeld2
      try simp only [Act.put, List.setIfInBounds_toArray, List.set_cons_zero, List.set_cons_succ, List.getElem_toArray, List.getElem_cons_zero, List.getElem_cons_succ]
      refine wpAnyH_take (i := 15) (v := ?v15) rfl (by kernel_rfl) (by kernel_rfl) (by kernel_rfl) (fun _ _ _ h => h) (Or.inl ⟨by rfl, ?hy15⟩) (by assumption) ?rest15
      case hy15 => (intro u hu; obtain ⟨_, _, _⟩ := hu; go_simp; try with_reducible rfl)
      try simp only [Act.put, List.setIfInBounds_toArray, List.set_cons_zero, List.set_cons_succ, List.getElem_toArray, List.getElem_cons_zero, List.getElem_cons_succ]
      refine wpAnyH_done (by kernel_rfl) ?_ _
      refine NoPanic.normal ?_
      rw [HT.out] at hrow6
      have hrow6' : Hid (Row RTerm 2 (Fresh w) w w6 154 v6 (L.take (k + 1))) := hrow6
      go_wp2_with fail
      go_roundw
      case rel => exact ⟨k + 1, by omega, by go_num, hrow6'⟩
      case measure => simp [intOf]; omega
    · have hk' : L.take k = L := List.take_of_length_le (by rw [hn.out]; omega)
      obtain ⟨a', cap', e1, h2⟩ := hrow.out.slF (bytes := 40) RTerm.firm (by rw [hk', hn.out]; exact hbb.out)
      rw [hk', hn.out] at e1 h2
      have hb9 := hrow.out.below
      have h2' : Hid (SlAt RTerm 2 40 (Fresh w) wr a' n cap' L) := h2
      clear h2 hrow
      subst e1
      go_wp2_with fail
      go_ret
      exact ⟨a', cap', rfl, h2'.out, hb9⟩
end Go.Proofs.Ytgofpmcoffgffaa
