/- Steps of a region that draws its order and whose last operation (number n) waits for all others: what holds up to that one need not hold behind it. Plain facts on the model's walks. No condition. A row of one's own, and the blocks of struct variables beside it; an append of a whole slice, empty or not; facts that stay while a variable's block is written. Plain facts on worlds. No condition. The domain of a key that labels have. Condition: the labels lie as is said of them. 'm[d] += by' on a map whose keys are labels: the entry is laid first, in whatever order. Plain facts on worlds. No condition. -/
import Derived.Test.YtfnafgmengefaaaGreatDoorQ09
import Derived.StillTail
import Derived.Test.YtfnafgmengefaaaGreatDoorQ04
import Derived.Deep.MidRow
import Derived.WideKeyEntry
namespace Go.Proofs.YtfnafgmengefaaaGreatDoor
open Go.RowKit
set_option linter.unusedSimpArgs false

section
variable {P : Program} {md : Region.Mode} {ops : Array Oper} {Q : Exit → Act → World → Prop} {S : World → Prop} {oi : Oper} {d n fuel : Nat} {listed : Array Bool} {a : Act} {w : World}
/-- Whatever order is picked; S holds behind every operation before the n-th. -/
def wpAnyN (P : Program) (md : Region.Mode) (ops : Array Oper) (Q : Exit → Act → World → Prop) (S : World → Prop) (n : Nat) : Nat → Array Bool → Act → World → Prop
  | 0, listed, a, w => Region.ready md ops listed = [] ∧ Q .normal a w
  | fuel + 1, listed, a, w =>
    (Region.ready md ops listed = [] → Q .normal a w) ∧
    ∀ i ∈ Region.ready md ops listed, wpOp P ops Q i (fun a' w' => (i < n → S w') ∧ wpAnyN P md ops Q S n fuel (listed.setIfInBounds i true) a' w') a w
theorem wpAny_of_N : ∀ (fuel : Nat) (listed : Array Bool) (a : Act) (w : World), wpAnyN P md ops Q S n fuel listed a w → wpAny P md ops Q fuel listed a w
  | 0, _, _, _, h => h
  | fuel + 1, _, _, _, h => ⟨h.1, fun i hi => wpOp_mono (fun a' w' h' => wpAny_of_N fuel _ a' w' h'.2) (h.2 i hi)⟩
theorem wpAnyN_first {i : Nat} {v : Value} (hi : ops[i]? = some oi) (hsel : ∀ (j : Nat) (o : Oper) cs b, ops[j]? = some o → o.op ≠ .select cs b)
    (hQ : ∀ c a w, Q (.panic c) (a.put oi.dst v) w → Q (.panic c) a w)
    (hs : Region.sinkB md ops n = true) (hc : Region.chainB md ops n = true) (hn : n < ops.size) (hin : i < n) :
    ∀ (fuel : Nat) (listed : Array Bool) (a : Act) (w : World), HeadInv md ops n listed →
      (∀ j oj, ops[j]? = some oj → j ≠ i → listed.getD j true = false → (∀ e ∈ oj.after, Region.binds md e = true → e.on ≠ i) → oi.apart ops oj = true) →
      i ∈ Region.ready md ops listed → YieldsIf P ops S oi v a → S w →
      wpAnyN P md ops Q S n fuel (listed.setIfInBounds i true) (a.put oi.dst v) w → wpAnyN P md ops Q S n (fuel + 1) listed a w := by
  intro fuel
  induction fuel with
  | zero =>
    intro listed a w _ _ hr hy hS H
    refine ⟨fun h => (by rw [h] at hr; cases hr), fun j hj => ?_⟩
    by_cases hji : j = i
    · subst hji; exact hy.wpOp hi hS ⟨fun _ => hS, H⟩
    · have := ready_mono hj hji
      rw [H.1] at this
      cases this
  | succ fuel ih =>
    intro listed a w inv hfree hr hy hS H
    have hun := (mem_ready.1 hr).1
    refine ⟨fun h => (by rw [h] at hr; cases hr), fun j hj => ?_⟩
    have hjn : j < n := by
      rcases Nat.lt_or_ge j n with h | h
      · exact h
      · exact absurd hj (tail_waits hs hc hn inv _ i rfl hin hun j h)
    by_cases hji : j = i
    · subst hji; exact hy.wpOp hi hS ⟨fun _ => hS, H⟩
    · have h1 := H.2 j (ready_mono hj hji)
      obtain ⟨hjun, oj, hoj, hall⟩ := mem_ready.1 hj
      have hnot : ∀ e ∈ oj.after, Region.binds md e = true → e.on ≠ i := fun e he hb heq => by
        have h1 := hall e he hb
        rw [heq, getD_both hun] at h1
        cases h1
      have h2 := wpOp_putIf hoj (hfree j oj hoj hji hjun hnot) (fun cs b => hsel i oi cs b hi) (fun cs b => hsel j oj cs b hoj) hQ hy h1
      have hfree' : ∀ k ok, ops[k]? = some ok → k ≠ i → (listed.setIfInBounds j true).getD k true = false →
          (∀ e ∈ ok.after, Region.binds md e = true → e.on ≠ i) → oi.apart ops ok = true := fun k ok hk hki hun hno => by
        refine hfree k ok hk hki ?_ hno
        by_cases hjk : j = k
        · subst hjk; exact hjun
        · rw [getD_set_ne true hjk] at hun; exact hun
      refine wpOp_mono (fun a' w' h3 => ⟨h3.2.1, ih (listed.setIfInBounds j true) a' w' (inv.set hj hjn) hfree' (ready_mono hr (Ne.symm hji)) h3.1 (h3.2.1 hjn) ?_⟩) h2
      rw [Array.setIfInBounds_comm _ _ hji]
      exact h3.2.2
/-- The walk, with what is known of those that have come up. -/
def wN (P : Program) (md : Region.Mode) (ops : Array Oper) (Q : Exit → Act → World → Prop) (S : World → Prop) (n fuel : Nat) (listed : Array Bool) (a : Act) (w : World) : Prop :=
  Region.sinkB md ops n = true → Region.chainB md ops n = true → n < ops.size → HeadInv md ops n listed → wpAnyN P md ops Q S n fuel listed a w
theorem uq (i : Nat) (v : Value) (hy : YieldsIf P ops S oi v a) (h : wN P md ops (NoPanic Q) S n fuel (listed.setIfInBounds i true) (a.put (some d) v) w)
    (hi : ops[i]? = some oi := by rfl) (hd : oi.dst = some d := by rfl) (hb : (decide (i < n) && (Region.noSelect ops && (Region.free md ops listed i && (Region.ready md ops listed).contains i))) = true := by kernel_rfl) (hS : S w := by assumption) : wN P md ops (NoPanic Q) S n (fuel + 1) listed a w := by
  intro hs hc hn inv
  simp only [Bool.and_eq_true, decide_eq_true_eq] at hb
  obtain ⟨b1, b2, b3, b4⟩ := hb
  have hr : i ∈ Region.ready md ops listed := by simpa using b4
  exact wpAnyN_first hi (Region.noSelect_spec b2) (fun _ _ _ h => h) hs hc hn b1 fuel listed a w inv (Region.free_spec hi b3) hr hy hS (hd ▸ h hs hc hn (inv.set hr b1))
theorem uk (i : Nat) {v : Value} (hy : ∀ u, S u → (execOp a.eval oi).run P u = .ok (.value v) u) (h : wN P md ops (NoPanic Q) S n fuel (listed.setIfInBounds i true) (a.put (some d) v) w)
    (hi : ops[i]? = some oi := by rfl) (hd : oi.dst = some d := by rfl) (hb : (decide (i < n) && (Region.noSelect ops && (Region.free md ops listed i && (Region.ready md ops listed).contains i))) = true := by kernel_rfl) (hw : Region.wanted oi (yielded ops a.tmps) = true := by rfl) (hS : S w := by assumption) : wN P md ops (NoPanic Q) S n (fuel + 1) listed a w :=
  uq i v (.inl ⟨hw, hy⟩) h hi hd hb hS
theorem un (i : Nat) (h : wN P md ops (NoPanic Q) S n fuel (listed.setIfInBounds i true) (a.put (some d) undef) w)
    (hi : ops[i]? = some oi := by rfl) (hd : oi.dst = some d := by rfl) (hb : (decide (i < n) && (Region.noSelect ops && (Region.free md ops listed i && (Region.ready md ops listed).contains i))) = true := by kernel_rfl) (hw : Region.wanted oi (yielded ops a.tmps) = false := by rfl) (hS : S w := by assumption) : wN P md ops (NoPanic Q) S n (fuel + 1) listed a w :=
  uq i undef (.inr ⟨hw, rfl⟩) h hi hd hb hS
/-- Operation i alone may come up; it writes slot d. -/
theorem ur (i : Nat) (h : ∀ K' : Act → World → Prop, Shut (∀ v w, S w → (S w → wN P md ops Q S n fuel (listed.setIfInBounds i true) (a.put (some d) v) w) → K' (a.put oi.dst v) w) → if Region.wanted oi (yielded ops a.tmps) = true then Oper.wp P oi a w K' Q else K' (a.put oi.dst undef) w)
    (hi : ops[i]? = some oi := by rfl) (hd : oi.dst = some d := by rfl) (hr : Region.ready md ops listed = [i] := by kernel_rfl) (hin : i < n := by decide) : wN P md ops Q S n (fuel + 1) listed a w := by
  intro hs hc hn inv
  have hir : i ∈ Region.ready md ops listed := by rw [hr]; simp
  refine ⟨fun h0 => (by rw [hr] at h0; cases h0), fun j hj => ?_⟩
  obtain rfl : j = i := by rw [hr] at hj; simpa using hj
  exact wpOp_step hi (fun K' hK => h K' (fun v w h1 h2 => hK _ w ⟨fun _ => h1, hd ▸ h2 h1 hs hc hn (inv.set hir hin)⟩))
/-- Either of two may come up. -/
theorem ub (i j : Nat) {oj : Oper} {e : Nat} (h : ∀ K' : Act → World → Prop, Shut (∀ v w, S w → (S w → wN P md ops Q S n fuel (listed.setIfInBounds i true) (a.put (some d) v) w) → K' (a.put oi.dst v) w) → if Region.wanted oi (yielded ops a.tmps) = true then Oper.wp P oi a w K' Q else K' (a.put oi.dst undef) w)
    (h' : ∀ K' : Act → World → Prop, Shut (∀ v w, S w → (S w → wN P md ops Q S n fuel (listed.setIfInBounds j true) (a.put (some e) v) w) → K' (a.put oj.dst v) w) → if Region.wanted oj (yielded ops a.tmps) = true then Oper.wp P oj a w K' Q else K' (a.put oj.dst undef) w)
    (hi : ops[i]? = some oi := by rfl) (hd : oi.dst = some d := by rfl) (hj : ops[j]? = some oj := by rfl) (he : oj.dst = some e := by rfl) (hr : Region.ready md ops listed = [i, j] := by kernel_rfl) (hin : i < n ∧ j < n := by decide) : wN P md ops Q S n (fuel + 1) listed a w := by
  intro hs hc hn inv
  have hir : i ∈ Region.ready md ops listed := by rw [hr]; simp
  have hjr : j ∈ Region.ready md ops listed := by rw [hr]; simp
  refine ⟨fun h0 => (by rw [hr] at h0; cases h0), fun k hk => ?_⟩
  have hk' : k = i ∨ k = j := by rw [hr] at hk; simpa using hk
  rcases hk' with rfl | rfl
  · exact wpOp_step hi (fun K' hK => h K' (fun v w h1 h2 => hK _ w ⟨fun _ => h1, hd ▸ h2 h1 hs hc hn (inv.set hir hin.1)⟩))
  · exact wpOp_step hj (fun K' hK => h' K' (fun v w h1 h2 => hK _ w ⟨fun _ => h1, he ▸ h2 h1 hs hc hn (inv.set hjr hin.2)⟩))
/-- The last operation. -/
theorem uz (i : Nat) (h : ∀ K' : Act → World → Prop, Shut (∀ w, Q .normal a w → K' a w) → if Region.wanted oi (yielded ops a.tmps) = true then Oper.wp P oi a w K' Q else K' (a.put oi.dst undef) w)
    (hi : ops[i]? = some oi := by rfl) (hr : Region.ready md ops listed = [i] := by kernel_rfl) (hr' : Region.ready md ops (listed.setIfInBounds i true) = [] := by kernel_rfl) (hin : n ≤ i := by decide) : wN P md ops Q S n (fuel + 1) listed a w := by
  intro _ _ _ _
  refine ⟨fun h0 => (by rw [hr] at h0; cases h0), fun j hj => ?_⟩
  obtain rfl : j = i := by rw [hr] at hj; simpa using hj
  refine wpOp_step hi (fun K' hK => h K' (fun w h1 => hK _ w ⟨fun h2 => absurd h2 (by omega), ?_⟩))
  cases fuel with
  | zero => exact ⟨hr', h1⟩
  | succ f => exact ⟨fun _ => h1, by rw [hr']; simp⟩
/-- Either of two may come up (S holds to the end). -/
theorem tb (i j : Nat) {oj : Oper} {e : Nat} (h : ∀ K' : Act → World → Prop, Shut (∀ v w, S w → (S w → wpAnyH P md ops Q S fuel (listed.setIfInBounds i true) (a.put (some d) v) w) → K' (a.put oi.dst v) w) → if Region.wanted oi (yielded ops a.tmps) = true then Oper.wp P oi a w K' Q else K' (a.put oi.dst undef) w)
    (h' : ∀ K' : Act → World → Prop, Shut (∀ v w, S w → (S w → wpAnyH P md ops Q S fuel (listed.setIfInBounds j true) (a.put (some e) v) w) → K' (a.put oj.dst v) w) → if Region.wanted oj (yielded ops a.tmps) = true then Oper.wp P oj a w K' Q else K' (a.put oj.dst undef) w)
    (hi : ops[i]? = some oi := by rfl) (hd : oi.dst = some d := by rfl) (hj : ops[j]? = some oj := by rfl) (he : oj.dst = some e := by rfl) (hr : Region.ready md ops listed = [i, j] := by kernel_rfl) : wpAnyH P md ops Q S (fuel + 1) listed a w :=
  wpAnyH_ready hr (by simp) (AllReadyH.cons hi (fun K' hK => h K' (fun v w h1 h2 => hK.out _ w h1 (fun h3 => hd ▸ h2 h3))) (AllReadyH.cons hj (fun K' hK => h' K' (fun v w h1 h2 => hK.out _ w h1 (fun h3 => he ▸ h2 h3))) AllReadyH.nil))
/-- The beginning. -/
theorem u0 (n : Nat) (S : World → Prop) {id : Nat} (hS : S w.drew) (h : S w.drew → wN P .any ops (NoPanic Q) S n ops.size (Array.replicate ops.size false) a w.drew)
    (hm : P.follows .mixedOrders = true := by kernel_rfl) (hb : (Region.sinkB .any ops n && (Region.chainB .any ops n && decide (n < ops.size))) = true := by kernel_rfl) : (Code.region id ops true).wp P Q a w := by
  simp only [Bool.and_eq_true, decide_eq_true_eq] at hb
  refine wp_region_noPanic (wp_region_any hm (wpAny_of_N (S := S) (n := n) _ _ _ _ (h hS hb.1 hb.2.1 hb.2.2 ⟨by simp, fun j oj _ hl => ?_, fun t _ ht => by simp [ht]⟩)))
  rw [getD_replicate_false] at hl
  cases hl
end
end Go.Proofs.YtfnafgmengefaaaGreatDoor
namespace Go.Proofs.YtfnafgmengefaaaGreatDoor
open Go.RowKit
set_option linter.unusedSimpArgs false

/-- The same store in both worlds, below. -/
theorem below_both {w u : World} (h : Below w.heap.size w u) {p : Addr} (hp : p.block < w.heap.size) (x : Value) : Below (w.setCell p x).heap.size (w.setCell p x) (u.setCell p x) := by
  refine ⟨h.os, h.tape, h.output, by simpa using h.size, fun k hk => ?_⟩
  have hk' : k < w.heap.size := by simpa using hk
  by_cases e : k = p.block
  · subst e
    have := h.block p.block hp
    simp only [World.setCell, Array.getElem?_modify, if_true]
    rw [this]
  · rw [Below.heap_setCell _ _ _ _ e, Below.heap_setCell _ _ _ _ e]
    exact h.block k hk'
section
variable {α : Type} [Inhabited α] {R : Rep α} {k : Nat}
theorem Row.both (hR : Firm R k) {A : Where} {w u : World} {e : TypeId} {v : Value} {L : List α} (h : Row R k A w u e v L) {p : Addr} (hp : p.block < w.heap.size) (hA : ¬ A p.block) (x : Value) : Row R k A (w.setCell p x) (u.setCell p x) e v L := by
  obtain ⟨xs, h1, h2⟩ := h
  refine ⟨xs, ⟨below_both h1.1 hp x, ?_⟩, h2.kept hR (Kept.set (fun h => hA h.1) _)⟩
  have := ownsRow_setCell_below h1.2 hp x
  simpa using this
theorem Fresh.setCell (w : World) (p : Addr) (x : Value) : Fresh (w.setCell p x) = Fresh w := by funext b; simp [Fresh]
theorem Row.bothF (hR : Firm R k) {w u : World} {e : TypeId} {v : Value} {L : List α} (h : Row R k (Fresh w) w u e v L) {p : Addr} (hp : p.block < w.heap.size) (x : Value) : Row R k (Fresh (w.setCell p x)) (w.setCell p x) (u.setCell p x) e v L := by
  rw [Fresh.setCell]; exact h.both hR hp (Fresh.not hp) x
/-- What lies in a slice, or in none, ready to be appended. -/
def Src (R : Rep α) (k : Nat) (A : Where) (u : World) (a : Option Addr) (m : Nat) (N : List α) : Prop :=
  N.length = m ∧ ((a = none ∧ N = []) ∨ ∃ ad xs, a = some ad ∧ Chunks R k A u xs N ∧ (∀ j y, xs[j]? = some y → u.cell? (ad.add j) = some y) ∧ ∀ y ∈ xs, y.oneCell' = true)
theorem SlAt.src (hR : Firm R k) {bytes : Nat} {A : Where} {u : World} {a : Option Addr} {m c : Nat} {N : List α} (h : SlAt R k bytes A u a m c N) : Src R k A u a m N := by
  cases a with
  | none => obtain ⟨_, _, h3⟩ := sl_none h; exact ⟨h.1, .inl ⟨rfl, h3⟩⟩
  | some ad => obtain ⟨xs, h1, h2, h3⟩ := h.chunks hR; exact ⟨h.1, .inr ⟨ad, xs, rfl, h1, h2, h3⟩⟩
theorem Src.flat (hF : Flat R) {A A' : Where} {u : World} {a : Option Addr} {m : Nat} {N : List α} (h : Src R k A u a m N) : Src R k A' u a m N := by
  obtain ⟨h1, h2⟩ := h
  refine ⟨h1, ?_⟩
  rcases h2 with h2 | ⟨ad, xs, e, h3, h4, h5⟩
  · exact .inl h2
  · exact .inr ⟨ad, xs, e, h3.flat hF, h4, h5⟩
theorem Src.weak (hR : Firm R k) {A A' : Where} {u : World} {a : Option Addr} {m : Nat} {N : List α} (h : Src R k A u a m N) (hA : ∀ b, b < u.heap.size → A b → A' b) : Src R k A' u a m N := by
  obtain ⟨h1, h2⟩ := h
  refine ⟨h1, ?_⟩
  rcases h2 with h2 | ⟨ad, xs, e, h3, h4, h5⟩
  · exact .inl h2
  · exact .inr ⟨ad, xs, e, h3.weak hR hA, h4, h5⟩
/-- An append of what lies in a slice, or in none, to one's own row, whatever the region. -/
theorem row_appendS_wp (hR : Firm R k) {o : Oper} {a : Act} {K : Act → World → Prop} {Q : Exit → Act → World → Prop} {A : Where} {w0 u : World} (s x : Operand) (t e : TypeId)
    (ho : o.op = .call { callee := .builtin .append, args := #[s, x], argTypes := #[t, t] }) (z : Value) (bytes : Nat) (hinfo : (Tryz.prog.info? e).map (fun i => (i.zero, i.size, i.bytes)) = some (some z, k, bytes)) (ht : Tryz.prog.underlying t = some (.slice e)) (hzs : z.cells.size = k) (hk0 : 0 < k) (hby : 1 ≤ bytes)
    (v : Value) (L : List α) (hs : a.eval s = v) (hrow : Row R k A w0 u e v L)
    (ad : Option Addr) (m c : Nat) (N : List α) (hx : a.eval x = .slice ad m c) (hN : Src R k (fun b => A b ∧ v.ownBlock ≠ some b) u ad m N) (hb : (L.length + N.length) * bytes ≤ 140737488355328)
    (h : ∀ v' u', Row R k A w0 u' e v' (L ++ N) → u.grownBy u' v.ownBlock → K (a.put o.dst v') u') : o.wp Tryz.prog a u K Q := by
  obtain ⟨hm, hN⟩ := hN
  rcases hN with ⟨rfl, rfl⟩ | ⟨ad, xs, rfl, h1, h2, h3⟩
  · obtain rfl : m = 0 := by simpa using hm.symm
    obtain ⟨i0, hi, hz0, hz1, hz2⟩ := info_parts hinfo
    have hr : ∀ ty, (Builtin.append_ #[t, t] ty #[v, .slice none 0 c]).run Tryz.prog u = .ok v u := by
      intro ty
      obtain ⟨xs, hown, _⟩ := hrow
      rcases hown.2.2 with ⟨rfl, _⟩ | ⟨g, cap, cur, rfl, _, hg, hnc, _⟩
      · simp [Builtin.append_, run_underlying ht, sizeOf, typeInfo, hi, Builtin.lenOf, Builtin.firstCells, loadCells, loadCellsFrom]
      · simp [Builtin.append_, run_underlying ht, sizeOf, typeInfo, hi, Builtin.lenOf, Builtin.firstCells, loadCells, loadCellsFrom, hnc, storeCells]
    unfold Oper.wp execOp
    simp only [ho, resolve, invoke, builtin, Sem.run_bind, Sem.run_pure, Result.andThen_ok, List.map_toArray, List.map_cons, List.map_nil, hs, hx, hr]
    exact h v u (by simpa using hrow) ⟨rfl, rfl, rfl, Nat.le_refl _, fun _ _ _ => rfl⟩
  · exact row_append_wp hR s x t e ho z bytes hinfo ht hzs hk0 hby v L hs hrow ad m c xs N hm hx h1 h2 h3 hb h
theorem row_appendS (hR : Firm R k) {ops : Array Oper} {rest : List Oper} {o : Oper} {a : Act} {Q : Exit → Act → World → Prop} {A : Where} {w0 u : World} (hgd : Region.wanted o (yielded ops a.tmps) = true) (s x : Operand) (t e : TypeId)
    (ho : o.op = .call { callee := .builtin .append, args := #[s, x], argTypes := #[t, t] }) (z : Value) (bytes : Nat) (hinfo : (Tryz.prog.info? e).map (fun i => (i.zero, i.size, i.bytes)) = some (some z, k, bytes)) (ht : Tryz.prog.underlying t = some (.slice e)) (hzs : z.cells.size = k) (hk0 : 0 < k) (hby : 1 ≤ bytes)
    (v : Value) (L : List α) (hs : a.eval s = v) (hrow : Row R k A w0 u e v L)
    (ad : Option Addr) (m c : Nat) (N : List α) (hx : a.eval x = .slice ad m c) (hN : Src R k (fun b => A b ∧ v.ownBlock ≠ some b) u ad m N) (hb : (L.length + N.length) * bytes ≤ 140737488355328)
    (h : ∀ v' u', Row R k A w0 u' e v' (L ++ N) → u.grownBy u' v.ownBlock → wpList Tryz.prog ops Q rest (a.put o.dst v') u') : wpList Tryz.prog ops Q (o :: rest) a u :=
  BigFrame.wpList_want hgd (fun _ hK => row_appendS_wp hR s x t e ho z bytes hinfo ht hzs hk0 hby v L hs hrow ad m c N hx hN hb (fun v' u' h2 h3 => hK _ _ (h v' u' h2 h3)))
end
theorem BoxL.range {u : World} {D : Nat} {cs : List Value} (h : BoxL u D cs) : u.rangeAt D 0 cs := fun j v hj => by rw [Nat.zero_add]; exact (h.2 j v hj).1
theorem BoxL.there {u : World} {D : Nat} {cs : List Value} (h : BoxL u D cs) : u.there D 0 cs.length := fun j hj => by
  have := h.2 j cs[j] (List.getElem?_eq_getElem hj)
  rw [Nat.zero_add, this.1, this.2]
  exact ⟨rfl, rfl⟩
/-- What stays true while nothing that has come since W is turned. -/
def Stays (W : World) (G : World → Prop) : Prop := ∀ u u', G u → Kept (Fresh W) u u' → G u'
theorem Stays.none (W : World) : Stays W (fun _ => True) := fun _ _ _ _ => trivial
theorem Stays.add {α : Type} [Inhabited α] {R : Rep α} {k bytes : Nat} {W u : World} {G : World → Prop} (hG : Stays W G) (hg : G u) (hR : Firm R k) {a : Option Addr} {n c : Nat} {L : List α} (hs : SlAt R k bytes (Fresh W) u a n c L) :
    ∃ G', Stays W G' ∧ G' u ∧ (∀ v, G' v → G v) ∧ ∀ v, G' v → SlAt R k bytes (Fresh W) v a n c L :=
  ⟨fun v => G v ∧ SlAt R k bytes (Fresh W) v a n c L, fun _ _ h k => ⟨hG _ _ h.1 k, h.2.kept hR k⟩, ⟨hg, hs⟩, fun _ h => h.1, fun _ h => h.2⟩
end Go.Proofs.YtfnafgmengefaaaGreatDoor
namespace Go.Proofs.YtfnafgmengefaaaGreatDoor
open Go.RowKit
set_option linter.unusedSimpArgs false
set_option maxRecDepth 100000

theorem Get_sl (a : Option Addr) (n cap : Nat) (A : Where) (L : List Lab) (key : ByteArray) (w : World) (hL : Hid (SlAt RLabel 2 32 A w a n cap L)) : Calls Tryz.prog 80 #[.slice a n cap, .string key] w fun e w' => e = .returned (.tuple #[.string (getL L key).1, .bool (getL L key).2]) ∧ Below w.heap.size w w' := by
  have h := Get_calls a cap L key w (labs_of hL.out)
  rw [hL.out.1] at h
  exact h
set_option maxHeartbeats 2000000 in
theorem domain_calls (a : Option Addr) (n cap : Nat) (A : Where) (L : List Lab) (key : ByteArray) (w : World) (hL : Hid (SlAt RLabel 2 32 A w a n cap L)) : Calls Tryz.prog 59 #[.slice a n cap, .string key] w fun e w' => e = .returned (.tuple #[.agg #[.string key, .string (getL L key).1], .bool (getL L key).2]) ∧ Below w.heap.size w w' := by
  have HG : Hid (∀ u, Below w.heap.size w u → Calls Tryz.prog 80 #[.slice a n cap, .string key] u fun e w' => e = .returned (.tuple #[.string (getL L key).1, .bool (getL L key).2]) ∧ Below u.heap.size u w') := fun u hb => Get_sl a n cap A L key u (hL.out.on RLabel.firm hb)
  clear hL
  generalize (getL L key).1 = v at HG
  generalize (getL L key).2 = t at HG
  go_enter Tryz.func59, Tryz.ntmps59
  go_wp2_with fail
  refine (HG.out _ (by go_grown)).mono ?_
  rintro e w1 ⟨rfl, hb1⟩
  have hb : Below w.heap.size w w1 := on2 (by go_grown) hb1
  have q := (BoxL.new w 55 [.string ⟨#[]⟩, .string ⟨#[]⟩]).on hb1
  have c0 := q.2 0 _ rfl
  have c1 := q.2 1 _ rfl
  have hlt : w.heap.size < w1.heap.size := q.1
  have q1 := q.set 0 (.string key) (by simp)
  have q2 := q1.set 1 (.string v) (by simp)
  have E0 : Hid _ := ((q1.2 0 (.string key) rfl).1)
  have E1 : Hid _ := ((q2.2 1 (.string v) rfl).1)
  clear q1 q2
  obtain ⟨c0, f0⟩ := c0
  obtain ⟨c1, f1⟩ := c1
  clear HG q hb1
  go_wp2_with fail
  refine bodyPost_ret (v := .tuple #[.agg #[.string key, .string v], .bool t]) (by simp [results, Tryz.results59, go_sem, hlt, E0.out, E1.out, Result.andThen]) rfl ⟨rfl, ?_⟩
  exact (hb.setCell (Nat.le_refl _) _).setCell (Nat.le_refl _) _
end Go.Proofs.YtfnafgmengefaaaGreatDoor
namespace Go.Proofs.YtfnafgmengefaaaGreatDoor
open Go.RowKit Go.Maps Go.ChangeMaps
set_option linter.unusedSimpArgs false
set_option maxRecDepth 100000

theorem lawK : WideMaps.KeyLaw Tryz.prog 55 := deep_law_laid laidOut8 (m := 2) (by omega) rowLab (by kernel_rfl) wideLab
theorem setBlock_self {w : World} {b : Nat} {o : Obj} (h : w.heap[b]? = some o) : setBlock w b o = w := by
  unfold setBlock
  have e : w.heap.setIfInBounds b o = w.heap := by
    apply Array.ext_getElem?
    intro i
    by_cases hi : b = i
    · subst hi
      rw [h]
      have := (Array.getElem?_eq_some_iff.1 h).1
      simp [this]
    · simp [Array.getElem?_setIfInBounds, hi]
  rw [e]
theorem setBlock_twice (w : World) (b : Nat) (o p : Obj) : setBlock (setBlock w b o) b p = setBlock w b p := by simp [setBlock]
theorem setBlock_grown {w : World} {b : Nat} {es : Array MapEntry} {ck : Nat} (hb : w.heap[b]? = some (.map es ck)) (es' : Array MapEntry) (ck' : Nat) : w.grownBy (setBlock w b (.map es' ck')) (some b) :=
  World.mapTurned.grown ⟨es, ck, es', ck', hb, rfl⟩
abbrev LabV (d : Lab) : Value := .agg #[.string d.1, .string d.2]
abbrev OwnsL (w : World) (mb n : Nat) (D : DataW Unit) : Prop := w.ownsMap Tryz.prog 55 (plainElem Tryz.prog 3) mb n D
/-- The entry is laid; what stands at the key is told as before; the store then is as a plain one. -/
theorem ent_run {w : World} {mb n : Nat} {D : DataW Unit} (h : OwnsL w mb n D) (t : TypeId) (ht : Tryz.prog.underlying t = some (.map 55 3)) {K : Value} {kl : Lit} (hk : keyOf Tryz.prog 55 K = some kl) {c0 : Int} (hat : D.atKey kl (.lit (.int .i64 0)) = .lit (.int .i64 c0)) (hn : n < 140737488355328) :
    ∃ (v0 : Value) (st : Int) (u1 : World), (Instr.mapEntry t (.map (some mb)) K).run Tryz.prog w = .ok (.tuple #[v0, .int .i64 st]) u1 ∧ w.grownBy u1 (some mb) ∧
      (Instr.lookup t (.map (some mb)) K false).run Tryz.prog u1 = .ok (.int .i64 c0) u1 ∧
      ∀ c, (Lit.int .i64 c).wf = true → ∃ w', (Instr.entryStore t (.map (some mb)) (.int .i64 st) (.int .i64 c)).run Tryz.prog u1 = .ok () w' ∧ OwnsL w' mb (n + 1) (D.put kl (.lit (.int .i64 c))) ∧ w.grownBy w' (some mb) := by
  have hown := h
  have hnm : n < maxLen := Nat.lt_of_lt_of_le hn maxLen_is
  obtain ⟨c1, hrun, hat1, _⟩ := hown.lookup_int lawL ht Tryz.underlying3 (zeroI8 w) hk
  obtain rfl : c0 = c1 := by rw [hat] at hat1; simpa using hat1
  obtain ⟨es, clock, hb, F, hs, hD⟩ := h
  obtain ⟨v0, st, es1, clock1, hme, _, hst⟩ := WideElems.entry_then_store lawK ht (fun u => zeroI8 u) hb F hk
  have hu1 : (setBlock w mb (.map es1 clock1)).heap[mb]? = some (.map es1 clock1) := heap_setBlock_same hb _
  refine ⟨v0, st, setBlock w mb (.map es1 clock1), hme, setBlock_grown hb _ _, ?_, fun c hc => ?_⟩
  · rcases lawL.find w hk es.toList F.keys with ⟨h1, h2⟩ | ⟨j, e0, h1, h2, h3⟩
    · have hme' : (Instr.mapEntry t (.map (some mb)) K).run Tryz.prog w = .ok (.tuple #[.int .i64 0, goInt clock]) (setBlock w mb (.map (es.push ⟨K, .int .i64 0, clock⟩) (clock + 1))) := by
        simp [Instr.mapEntry, run_underlying ht, MapKept.run_getObj_map hb, lawL.check w false hk, h1, zeroI8, MapKept.run_setObj_map _ hb, Result.andThen, setBlock]
      have hup : (Instr.mapUpdate t (.map (some mb)) K (.int .i64 0)).run Tryz.prog w = .ok () (setBlock w mb (.map (es.push ⟨K, .int .i64 0, clock⟩) (clock + 1))) := by
        simp [Instr.mapUpdate, run_underlying ht, MapKept.run_getObj_map hb, lawL.check w false hk, h1, MapKept.run_setObj_map _ hb, Result.andThen, setBlock]
      have hlk : (Instr.lookup t (.map (some mb)) K false).run Tryz.prog w = .ok (.int .i64 0) w := by
        simp [Instr.lookup, run_underlying ht, MapKept.run_getObj_map hb, lawL.check w _ hk, h1, zeroI8, Result.andThen]
      rw [hlk] at hrun
      obtain rfl : (0 : Int) = c0 := by simpa using hrun
      rw [hme] at hme'
      have hw : setBlock w mb (.map es1 clock1) = setBlock w mb (.map (es.push ⟨K, .int .i64 0, clock⟩) (clock + 1)) := by
        injection hme'
      obtain ⟨w', hu', hown', _⟩ := hown.update lawL ht hnm hk (plainElem_int (H := Unit) Tryz.underlying3 (q := .i64) (a := 0) (by decide))
      rw [hup] at hu'
      have hw' : setBlock w mb (.map (es.push ⟨K, .int .i64 0, clock⟩) (clock + 1)) = w' := by injection hu'
      rw [hw, hw']
      obtain ⟨c2, hr2, ha2, _⟩ := hown'.lookup_int lawL ht Tryz.underlying3 (zeroI8 w') hk
      rw [atKey_put_same hown.isMap (lawL.key hk)] at ha2
      obtain rfl : (0 : Int) = c2 := by simpa using ha2
      exact hr2
    · have hj : es[j]? = some e0 := by simpa using h2
      have hsame : es.modify j (fun e => { e with key := K }) = es := by
        apply Array.ext'
        rw [Array.toList_modify, modify_eq_set _ _ _ _ h2]
        have : ({ e0 with key := K } : MapEntry) = e0 := by rw [← h3]
        rw [this]
        exact WideElems.set_self _ _ _ h2
      have hme' : (Instr.mapEntry t (.map (some mb)) K).run Tryz.prog w = .ok (.tuple #[e0.val, goInt e0.born]) (setBlock w mb (.map es clock)) := by
        simp [Instr.mapEntry, run_underlying ht, MapKept.run_getObj_map hb, lawL.check w false hk, h1, hj, h3, lawL.stays w hk, hsame, MapKept.run_setObj_map _ hb, Result.andThen, setBlock]
      rw [hme] at hme'
      have hw : setBlock w mb (.map es1 clock1) = setBlock w mb (.map es clock) := by injection hme'
      rw [hw, setBlock_self hb]
      exact hrun
  · obtain ⟨es', clock', he, hu⟩ := hst _ (.int .i64 c) hu1
    obtain ⟨w', hu', hown', hg'⟩ := hown.update lawL ht hnm hk (plainElem_int (H := Unit) Tryz.underlying3 hc)
    rw [hu] at hu'
    have hw' : setBlock w mb (.map es' clock') = w' := by injection hu'
    rw [setBlock_twice, hw'] at he
    exact ⟨w', he, hown', hg'⟩
/-- f with the count at d another one. -/
def setF (f : Lab → Int) (d : Lab) (c : Int) : Lab → Int := fun e => if sEq e.1 d.1 && sEq e.2 d.2 then c else f e
theorem eqF {e d : Lab} : (sEq e.1 d.1 && sEq e.2 d.2) = true ↔ e = d := by
  rw [Bool.and_eq_true, sEq_iff, sEq_iff]
  exact ⟨fun h => Prod.ext h.1 h.2, fun h => by subst h; exact ⟨rfl, rfl⟩⟩
theorem setF_same (f : Lab → Int) (d : Lab) (c : Int) : setF f d c d = c := by unfold setF; rw [if_pos (eqF.2 rfl)]
theorem setF_other {f : Lab → Int} {d e : Lab} {c : Int} (h : e ≠ d) : setF f d c e = f e := by unfold setF; rw [if_neg (fun k => h (eqF.1 k))]
theorem TellsF.put {D : DataW Unit} {f : Lab → Int} (hm : IsMap D) (h : TellsF D f) {d : Lab} (hd : okL d) {c : Int} (hc : c ≠ 0) : TellsF (D.put (kL d) (.lit (.int .i64 c))) (setF f d c) := by
  refine ⟨fun e he => ?_, fun k hk => ?_⟩
  · by_cases q : e = d
    · subst q; rw [has_put_same hm (kL_is _), atKey_put_same hm (kL_is _), setF_same]; simp [hc]
    · have hne : kL e ≠ kL d := fun x => q (kL_inj he hd x)
      rw [has_put_other hne, atKey_put_other hne, setF_other q]
      exact h.1 e he
  · by_cases q : k = kL d
    · exact ⟨d, hd, q.symm⟩
    · rw [has_put_other q] at hk; exact h.2 k hk
theorem TellsF.del {D : DataW Unit} {f : Lab → Int} (h : TellsF D f) {d : Lab} (hd : okL d) (c : DataW Unit) : TellsF ((D.put (kL d) c).del (kL d)) (setF f d 0) := by
  refine ⟨fun e he => ?_, fun k hk => ?_⟩
  · by_cases q : e = d
    · subst q; rw [has_del_same, atKey_del_same, setF_same]; simp
    · have hne : kL e ≠ kL d := fun x => q (kL_inj he hd x)
      rw [has_del_other hne, atKey_del_other hne, has_put_other hne, atKey_put_other hne, setF_other q]
      exact h.1 e he
  · by_cases q : k = kL d
    · exact ⟨d, hd, q.symm⟩
    · rw [has_del_other q, has_put_other q] at hk; exact h.2 k hk
end Go.Proofs.YtfnafgmengefaaaGreatDoor
