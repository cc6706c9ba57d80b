/- Steps of a region that draws its order and whose last operation (number n) waits for all others: what holds up to that one need not hold behind it. Plain facts on the model's walks. No condition. Heap.Peek, Get, Drop, and Pop where there is nothing: the plain functions. No condition. maps.Clone, keyed.clone, Heap.Clone: the plain functions. Condition: fewer than 1,000,000,000 entries. What a heap answers, by a sorted list; the document's Put and Drop, the law's 'found'. Condition: fewer than 1,000,000,000 entries. -/
import Derived.Test.YtpombhiffpbedaaQ12
import Derived.StillTail
import Derived.Shelf.SlMaps.Clone
namespace Go.Proofs.Ytpombhiffpbedaa
open Go.RowKit
set_option linter.unusedSimpArgs false

section
variable {P : Program} {md : Region.Mode} {ops : Array Oper} {Q : Exit → Act → World → Prop} {S : World → Prop} {oi : Oper} {d n fuel : Nat} {listed : Array Bool} {a : Act} {w : World}
/-- Whatever order is picked; S holds behind every operation before the n-th. -/
def wpAnyN (P : Program) (md : Region.Mode) (ops : Array Oper) (Q : Exit → Act → World → Prop) (S : World → Prop) (n : Nat) : Nat → Array Bool → Act → World → Prop
  | 0, listed, a, w => Region.ready md ops listed = [] ∧ Q .normal a w
  | fuel + 1, listed, a, w =>
    (Region.ready md ops listed = [] → Q .normal a w) ∧
    ∀ i ∈ Region.ready md ops listed, wpOp P ops Q i (fun a' w' => (i < n → S w') ∧ wpAnyN P md ops Q S n fuel (listed.setIfInBounds i true) a' w') a w
theorem wpAny_of_N : ∀ (fuel : Nat) (listed : Array Bool) (a : Act) (w : World), wpAnyN P md ops Q S n fuel listed a w → wpAny P md ops Q fuel listed a w
  | 0, _, _, _, h => h
  | fuel + 1, _, _, _, h => ⟨h.1, fun i hi => wpOp_mono (fun a' w' h' => wpAny_of_N fuel _ a' w' h'.2) (h.2 i hi)⟩
theorem wpAnyN_first {i : Nat} {v : Value} (hi : ops[i]? = some oi) (hsel : ∀ (j : Nat) (o : Oper) cs b, ops[j]? = some o → o.op ≠ .select cs b)
    (hQ : ∀ c a w, Q (.panic c) (a.put oi.dst v) w → Q (.panic c) a w)
    (hs : Region.sinkB md ops n = true) (hc : Region.chainB md ops n = true) (hn : n < ops.size) (hin : i < n) :
    ∀ (fuel : Nat) (listed : Array Bool) (a : Act) (w : World), HeadInv md ops n listed →
      (∀ j oj, ops[j]? = some oj → j ≠ i → listed.getD j true = false → (∀ e ∈ oj.after, Region.binds md e = true → e.on ≠ i) → oi.apart ops oj = true) →
      i ∈ Region.ready md ops listed → YieldsIf P ops S oi v a → S w →
      wpAnyN P md ops Q S n fuel (listed.setIfInBounds i true) (a.put oi.dst v) w → wpAnyN P md ops Q S n (fuel + 1) listed a w := by
  intro fuel
  induction fuel with
  | zero =>
    intro listed a w _ _ hr hy hS H
    refine ⟨fun h => (by rw [h] at hr; cases hr), fun j hj => ?_⟩
    by_cases hji : j = i
    · subst hji; exact hy.wpOp hi hS ⟨fun _ => hS, H⟩
    · have := ready_mono hj hji
      rw [H.1] at this
      cases this
  | succ fuel ih =>
    intro listed a w inv hfree hr hy hS H
    have hun := (mem_ready.1 hr).1
    refine ⟨fun h => (by rw [h] at hr; cases hr), fun j hj => ?_⟩
    have hjn : j < n := by
      rcases Nat.lt_or_ge j n with h | h
      · exact h
      · exact absurd hj (tail_waits hs hc hn inv _ i rfl hin hun j h)
    by_cases hji : j = i
    · subst hji; exact hy.wpOp hi hS ⟨fun _ => hS, H⟩
    · have h1 := H.2 j (ready_mono hj hji)
      obtain ⟨hjun, oj, hoj, hall⟩ := mem_ready.1 hj
      have hnot : ∀ e ∈ oj.after, Region.binds md e = true → e.on ≠ i := fun e he hb heq => by
        have h1 := hall e he hb
        rw [heq, getD_both hun] at h1
        cases h1
      have h2 := wpOp_putIf hoj (hfree j oj hoj hji hjun hnot) (fun cs b => hsel i oi cs b hi) (fun cs b => hsel j oj cs b hoj) hQ hy h1
      have hfree' : ∀ k ok, ops[k]? = some ok → k ≠ i → (listed.setIfInBounds j true).getD k true = false →
          (∀ e ∈ ok.after, Region.binds md e = true → e.on ≠ i) → oi.apart ops ok = true := fun k ok hk hki hun hno => by
        refine hfree k ok hk hki ?_ hno
        by_cases hjk : j = k
        · subst hjk; exact hjun
        · rw [getD_set_ne true hjk] at hun; exact hun
      refine wpOp_mono (fun a' w' h3 => ⟨h3.2.1, ih (listed.setIfInBounds j true) a' w' (inv.set hj hjn) hfree' (ready_mono hr (Ne.symm hji)) h3.1 (h3.2.1 hjn) ?_⟩) h2
      rw [Array.setIfInBounds_comm _ _ hji]
      exact h3.2.2
/-- The walk, with what is known of those that have come up. -/
def wN (P : Program) (md : Region.Mode) (ops : Array Oper) (Q : Exit → Act → World → Prop) (S : World → Prop) (n fuel : Nat) (listed : Array Bool) (a : Act) (w : World) : Prop :=
  Region.sinkB md ops n = true → Region.chainB md ops n = true → n < ops.size → HeadInv md ops n listed → wpAnyN P md ops Q S n fuel listed a w
theorem uq (i : Nat) (v : Value) (hy : YieldsIf P ops S oi v a) (h : wN P md ops (NoPanic Q) S n fuel (listed.setIfInBounds i true) (a.put (some d) v) w)
    (hi : ops[i]? = some oi := by rfl) (hd : oi.dst = some d := by rfl) (hb : (decide (i < n) && (Region.noSelect ops && (Region.free md ops listed i && (Region.ready md ops listed).contains i))) = true := by kernel_rfl) (hS : S w := by assumption) : wN P md ops (NoPanic Q) S n (fuel + 1) listed a w := by
  intro hs hc hn inv
  simp only [Bool.and_eq_true, decide_eq_true_eq] at hb
  obtain ⟨b1, b2, b3, b4⟩ := hb
  have hr : i ∈ Region.ready md ops listed := by simpa using b4
  exact wpAnyN_first hi (Region.noSelect_spec b2) (fun _ _ _ h => h) hs hc hn b1 fuel listed a w inv (Region.free_spec hi b3) hr hy hS (hd ▸ h hs hc hn (inv.set hr b1))
theorem uk (i : Nat) {v : Value} (hy : ∀ u, S u → (execOp a.eval oi).run P u = .ok (.value v) u) (h : wN P md ops (NoPanic Q) S n fuel (listed.setIfInBounds i true) (a.put (some d) v) w)
    (hi : ops[i]? = some oi := by rfl) (hd : oi.dst = some d := by rfl) (hb : (decide (i < n) && (Region.noSelect ops && (Region.free md ops listed i && (Region.ready md ops listed).contains i))) = true := by kernel_rfl) (hw : Region.wanted oi (yielded ops a.tmps) = true := by rfl) (hS : S w := by assumption) : wN P md ops (NoPanic Q) S n (fuel + 1) listed a w :=
  uq i v (.inl ⟨hw, hy⟩) h hi hd hb hS
theorem un (i : Nat) (h : wN P md ops (NoPanic Q) S n fuel (listed.setIfInBounds i true) (a.put (some d) undef) w)
    (hi : ops[i]? = some oi := by rfl) (hd : oi.dst = some d := by rfl) (hb : (decide (i < n) && (Region.noSelect ops && (Region.free md ops listed i && (Region.ready md ops listed).contains i))) = true := by kernel_rfl) (hw : Region.wanted oi (yielded ops a.tmps) = false := by rfl) (hS : S w := by assumption) : wN P md ops (NoPanic Q) S n (fuel + 1) listed a w :=
  uq i undef (.inr ⟨hw, rfl⟩) h hi hd hb hS
/-- Operation i alone may come up; it writes slot d. -/
theorem ur (i : Nat) (h : ∀ K' : Act → World → Prop, Shut (∀ v w, S w → (S w → wN P md ops Q S n fuel (listed.setIfInBounds i true) (a.put (some d) v) w) → K' (a.put oi.dst v) w) → if Region.wanted oi (yielded ops a.tmps) = true then Oper.wp P oi a w K' Q else K' (a.put oi.dst undef) w)
    (hi : ops[i]? = some oi := by rfl) (hd : oi.dst = some d := by rfl) (hr : Region.ready md ops listed = [i] := by kernel_rfl) (hin : i < n := by decide) : wN P md ops Q S n (fuel + 1) listed a w := by
  intro hs hc hn inv
  have hir : i ∈ Region.ready md ops listed := by rw [hr]; simp
  refine ⟨fun h0 => (by rw [hr] at h0; cases h0), fun j hj => ?_⟩
  obtain rfl : j = i := by rw [hr] at hj; simpa using hj
  exact wpOp_step hi (fun K' hK => h K' (fun v w h1 h2 => hK _ w ⟨fun _ => h1, hd ▸ h2 h1 hs hc hn (inv.set hir hin)⟩))
/-- Either of two may come up. -/
theorem ub (i j : Nat) {oj : Oper} {e : Nat} (h : ∀ K' : Act → World → Prop, Shut (∀ v w, S w → (S w → wN P md ops Q S n fuel (listed.setIfInBounds i true) (a.put (some d) v) w) → K' (a.put oi.dst v) w) → if Region.wanted oi (yielded ops a.tmps) = true then Oper.wp P oi a w K' Q else K' (a.put oi.dst undef) w)
    (h' : ∀ K' : Act → World → Prop, Shut (∀ v w, S w → (S w → wN P md ops Q S n fuel (listed.setIfInBounds j true) (a.put (some e) v) w) → K' (a.put oj.dst v) w) → if Region.wanted oj (yielded ops a.tmps) = true then Oper.wp P oj a w K' Q else K' (a.put oj.dst undef) w)
    (hi : ops[i]? = some oi := by rfl) (hd : oi.dst = some d := by rfl) (hj : ops[j]? = some oj := by rfl) (he : oj.dst = some e := by rfl) (hr : Region.ready md ops listed = [i, j] := by kernel_rfl) (hin : i < n ∧ j < n := by decide) : wN P md ops Q S n (fuel + 1) listed a w := by
  intro hs hc hn inv
  have hir : i ∈ Region.ready md ops listed := by rw [hr]; simp
  have hjr : j ∈ Region.ready md ops listed := by rw [hr]; simp
  refine ⟨fun h0 => (by rw [hr] at h0; cases h0), fun k hk => ?_⟩
  have hk' : k = i ∨ k = j := by rw [hr] at hk; simpa using hk
  rcases hk' with rfl | rfl
  · exact wpOp_step hi (fun K' hK => h K' (fun v w h1 h2 => hK _ w ⟨fun _ => h1, hd ▸ h2 h1 hs hc hn (inv.set hir hin.1)⟩))
  · exact wpOp_step hj (fun K' hK => h' K' (fun v w h1 h2 => hK _ w ⟨fun _ => h1, he ▸ h2 h1 hs hc hn (inv.set hjr hin.2)⟩))
/-- The last operation. -/
theorem uz (i : Nat) (h : ∀ K' : Act → World → Prop, Shut (∀ w, Q .normal a w → K' a w) → if Region.wanted oi (yielded ops a.tmps) = true then Oper.wp P oi a w K' Q else K' (a.put oi.dst undef) w)
    (hi : ops[i]? = some oi := by rfl) (hr : Region.ready md ops listed = [i] := by kernel_rfl) (hr' : Region.ready md ops (listed.setIfInBounds i true) = [] := by kernel_rfl) (hin : n ≤ i := by decide) : wN P md ops Q S n (fuel + 1) listed a w := by
  intro _ _ _ _
  refine ⟨fun h0 => (by rw [hr] at h0; cases h0), fun j hj => ?_⟩
  obtain rfl : j = i := by rw [hr] at hj; simpa using hj
  refine wpOp_step hi (fun K' hK => h K' (fun w h1 => hK _ w ⟨fun h2 => absurd h2 (by omega), ?_⟩))
  cases fuel with
  | zero => exact ⟨hr', h1⟩
  | succ f => exact ⟨fun _ => h1, by rw [hr']; simp⟩
/-- Either of two may come up (S holds to the end). -/
theorem tb (i j : Nat) {oj : Oper} {e : Nat} (h : ∀ K' : Act → World → Prop, Shut (∀ v w, S w → (S w → wpAnyH P md ops Q S fuel (listed.setIfInBounds i true) (a.put (some d) v) w) → K' (a.put oi.dst v) w) → if Region.wanted oi (yielded ops a.tmps) = true then Oper.wp P oi a w K' Q else K' (a.put oi.dst undef) w)
    (h' : ∀ K' : Act → World → Prop, Shut (∀ v w, S w → (S w → wpAnyH P md ops Q S fuel (listed.setIfInBounds j true) (a.put (some e) v) w) → K' (a.put oj.dst v) w) → if Region.wanted oj (yielded ops a.tmps) = true then Oper.wp P oj a w K' Q else K' (a.put oj.dst undef) w)
    (hi : ops[i]? = some oi := by rfl) (hd : oi.dst = some d := by rfl) (hj : ops[j]? = some oj := by rfl) (he : oj.dst = some e := by rfl) (hr : Region.ready md ops listed = [i, j] := by kernel_rfl) : wpAnyH P md ops Q S (fuel + 1) listed a w :=
  wpAnyH_ready hr (by simp) (AllReadyH.cons hi (fun K' hK => h K' (fun v w h1 h2 => hK.out _ w h1 (fun h3 => hd ▸ h2 h3))) (AllReadyH.cons hj (fun K' hK => h' K' (fun v w h1 h2 => hK.out _ w h1 (fun h3 => he ▸ h2 h3))) AllReadyH.nil))
/-- The beginning. -/
theorem u0 (n : Nat) (S : World → Prop) {id : Nat} (hS : S w.drew) (h : S w.drew → wN P .any ops (NoPanic Q) S n ops.size (Array.replicate ops.size false) a w.drew)
    (hm : P.follows .mixedOrders = true := by kernel_rfl) (hb : (Region.sinkB .any ops n && (Region.chainB .any ops n && decide (n < ops.size))) = true := by kernel_rfl) : (Code.region id ops true).wp P Q a w := by
  simp only [Bool.and_eq_true, decide_eq_true_eq] at hb
  refine wp_region_noPanic (wp_region_any hm (wpAny_of_N (S := S) (n := n) _ _ _ _ (h hS hb.1 hb.2.1 hb.2.2 ⟨by simp, fun j oj _ hl => ?_, fun t _ ht => by simp [ht]⟩)))
  rw [getD_replicate_false] at hl
  cases hl
end
end Go.Proofs.Ytpombhiffpbedaa
namespace Go.Proofs.Ytpombhiffpbedaa
open Go.RowKit Go.Maps
set_option linter.unusedSimpArgs false
set_option maxRecDepth 100000

/-- The entry that is none. -/
def zI : It := (⟨#[]⟩, 0, 0)
theorem three_sets {w u : World} (h : Below w.heap.size w u) (p q r : Value) : Below w.heap.size w (((u.setCell ⟨w.heap.size, 0, none⟩ p).setCell ⟨w.heap.size, 1, none⟩ q).setCell ⟨w.heap.size, 2, none⟩ r) :=
  ((h.setCell (p := ⟨w.heap.size, 0, none⟩) (Nat.le_refl _) p).setCell (p := ⟨w.heap.size, 1, none⟩) (Nat.le_refl _) q).setCell (p := ⟨w.heap.size, 2, none⟩) (Nat.le_refl _) r
theorem Pop_none {F : Where} {w : World} {hb : Nat} (h : HAt F w hb []) :
    Calls Try.prog 101 #[.pointer (some ⟨hb, 0, none⟩)] w fun e w' => e = .returned (.tuple #[vI zI, .int .i64 5]) ∧ Below w.heap.size w w' := by
  obtain ⟨kb, h1, h2, h3⟩ := h
  have hbl := block_lt h2
  have hbW : Below w.heap.size w (w.alloc (.cells #[.string ⟨#[]⟩, .int .i64 0, .int .i64 0] 62)) := by go_grown
  have h2' := (hbW.block hb hbl).trans h2
  obtain ⟨v, mb, D, hk, _⟩ := h3.grow hbW
  obtain ⟨a, cap, rfl, _⟩ := hk.len
  have k0 := hk.c0
  have k1 := hk.c1
  have cW : (w.alloc (.cells #[.string ⟨#[]⟩, .int .i64 0, .int .i64 0] 62)).cell? ⟨hb, 0, none⟩ = some (.pointer (some ⟨kb, 0, none⟩)) := by simp [World.cell?, h2']
  clear h1 h2 h3 h2' hbW hk
  go_enter Try.func101, Try.ntmps101
  go_wp2_with (first
    | (go_at_call 37; refine (made_calls cW ⟨_, rfl⟩).mono ?_; rintro e w' ⟨rfl, rfl⟩)
    | (go_at_call 38; refine (Len_calls a 0 cap _ _).mono ?_; rintro e w2 ⟨rfl, hb2⟩; have r0 := (hb2.cell (p := ⟨w.heap.size, 0, none⟩) (by simp)).trans (show _ = some (Value.string ⟨#[]⟩) by simp [go_sem]); have r1 := (hb2.cell (p := ⟨w.heap.size, 1, none⟩) (by simp)).trans (show _ = some (Value.int .i64 0) by simp [go_sem]); have r2 := (hb2.cell (p := ⟨w.heap.size, 2, none⟩) (by simp)).trans (show _ = some (Value.int .i64 0) by simp [go_sem]); have f0 := (hb2.frozen (p := ⟨w.heap.size, 0, none⟩) (by simp)).trans (show _ = false by simp [go_sem]); have f1 := (hb2.frozen (p := ⟨w.heap.size, 1, none⟩) (by simp)).trans (show _ = false by simp [go_sem]); have f2 := (hb2.frozen (p := ⟨w.heap.size, 2, none⟩) (by simp)).trans (show _ = false by simp [go_sem])))
  refine bodyPost_ret (v := .tuple #[vI zI, .int .i64 5]) (by simp [results, Try.results101, go_sem, r0, r1, r2, zI]) rfl ⟨rfl, ?_⟩
  exact three_sets (on2 (by go_grown) hb2) _ _ _
theorem Peek_none {F : Where} {w : World} {hb : Nat} (h : HAt F w hb []) :
    Calls Try.prog 26 #[.pointer (some ⟨hb, 0, none⟩)] w fun e w' => e = .returned (.tuple #[vI zI, .int .i64 5]) ∧ Below w.heap.size w w' := by
  obtain ⟨kb, h1, h2, h3⟩ := h
  have hbl := block_lt h2
  have hbW : Below w.heap.size w (w.alloc (.cells #[.string ⟨#[]⟩, .int .i64 0, .int .i64 0] 62)) := by go_grown
  have h2' := (hbW.block hb hbl).trans h2
  obtain ⟨v, mb, D, hk, _⟩ := h3.grow hbW
  obtain ⟨a, cap, rfl, _⟩ := hk.len
  have k0 := hk.c0
  have k1 := hk.c1
  have cW : (w.alloc (.cells #[.string ⟨#[]⟩, .int .i64 0, .int .i64 0] 62)).cell? ⟨hb, 0, none⟩ = some (.pointer (some ⟨kb, 0, none⟩)) := by simp [World.cell?, h2']
  clear h1 h2 h3 h2' hbW hk
  go_enter Try.func26, Try.ntmps26
  go_wp2_with (first
    | (go_at_call 37; refine (made_calls cW ⟨_, rfl⟩).mono ?_; rintro e w' ⟨rfl, rfl⟩)
    | (go_at_call 38; refine (Len_calls a 0 cap _ _).mono ?_; rintro e w2 ⟨rfl, hb2⟩; have r0 := (hb2.cell (p := ⟨w.heap.size, 0, none⟩) (by simp)).trans (show _ = some (Value.string ⟨#[]⟩) by simp [go_sem]); have r1 := (hb2.cell (p := ⟨w.heap.size, 1, none⟩) (by simp)).trans (show _ = some (Value.int .i64 0) by simp [go_sem]); have r2 := (hb2.cell (p := ⟨w.heap.size, 2, none⟩) (by simp)).trans (show _ = some (Value.int .i64 0) by simp [go_sem]); have f0 := (hb2.frozen (p := ⟨w.heap.size, 0, none⟩) (by simp)).trans (show _ = false by simp [go_sem]); have f1 := (hb2.frozen (p := ⟨w.heap.size, 1, none⟩) (by simp)).trans (show _ = false by simp [go_sem]); have f2 := (hb2.frozen (p := ⟨w.heap.size, 2, none⟩) (by simp)).trans (show _ = false by simp [go_sem])))
  refine bodyPost_ret (v := .tuple #[vI zI, .int .i64 5]) (by simp [results, Try.results26, go_sem, r0, r1, r2, zI]) rfl ⟨rfl, ?_⟩
  exact three_sets (on2 (by go_grown) hb2) _ _ _
set_option maxHeartbeats 2000000 in
theorem Peek_some {F : Where} {w : World} {hb : Nat} {L : List It} (h : HAt F w hb L) (h0 : 0 < L.length) :
    Calls Try.prog 26 #[.pointer (some ⟨hb, 0, none⟩)] w fun e w' => e = .returned (.tuple #[vI (at_ L 0), .int .i64 0]) ∧ Below w.heap.size w w' := by
  obtain ⟨kb, h1, h2, h3⟩ := h
  have hbl := block_lt h2
  have hbW : Below w.heap.size w (w.alloc (.cells #[.string ⟨#[]⟩, .int .i64 0, .int .i64 0] 62)) := by go_grown
  have h2' := (hbW.block hb hbl).trans h2
  obtain ⟨v0, mb0, D0, hk0, _⟩ := h3
  have hk := hk0.grow hbW
  have hkl := hk0.lt
  obtain ⟨g, cap, rfl, _, hg, _, _, _, hc⟩ := hk0.sl h0
  have k0 := hk.c0
  have k1 := hk.c1
  have x0 := (hc 0 h0).1.1
  have x1 := (hc 0 h0).1.2.1
  have x2 := (hc 0 h0).1.2.2
  rw [← at_get h0] at x0 x1 x2
  generalize at_ L 0 = x at *
  rw [Nat.zero_mul] at x0 x1 x2
  rw [Nat.zero_add] at x1 x2
  have cW : (w.alloc (.cells #[.string ⟨#[]⟩, .int .i64 0, .int .i64 0] 62)).cell? ⟨hb, 0, none⟩ = some (.pointer (some ⟨kb, 0, none⟩)) := by simp [World.cell?, h2']
  have hL0 : ¬ (L.length : Int) = 0 := by omega
  have hLp : (0 : Int) < (L.length : Int) := by omega
  have HC : Hid (∀ {u : World}, Below (w.alloc (.cells #[.string ⟨#[]⟩, .int .i64 0, .int .i64 0] 62)).heap.size (w.alloc (.cells #[.string ⟨#[]⟩, .int .i64 0, .int .i64 0] 62)) u → (u.cell? ⟨hb, 0, none⟩ = some (.pointer (some ⟨kb, 0, none⟩)) ∧ u.cell? ⟨kb, 0, none⟩ = some (.slice (some ⟨g, 0, none⟩) L.length cap)) ∧ (u.cell? ⟨g, 0, none⟩ = some (.string x.1) ∧ u.cell? ⟨g, 1, none⟩ = some (.int .i64 x.2.1) ∧ u.cell? ⟨g, 2, none⟩ = some (.int .i64 x.2.2))) := by
    intro u hu
    have hb0 := on2 hbW hu
    refine ⟨⟨(hu.cell (by simp; omega)).trans cW, (hu.cell (by simp; omega)).trans k0⟩, (hb0.cell hg).trans x0, (hb0.cell hg).trans x1, (hb0.cell hg).trans x2⟩
  have hgn : ¬ w.heap.size = g := by omega
  have hgn2 : ¬ g = w.heap.size := by omega
  clear h1 h2 hk hk0 h2' hbW hc x0 x1 x2
  go_enter Try.func26, Try.ntmps26
  go_wp2_with (first
    | (go_at_call 37; refine (made_calls cW ⟨_, rfl⟩).mono ?_; rintro e w' ⟨rfl, rfl⟩)
    | (go_at_call 38; refine (Len_calls (some ⟨g, 0, none⟩) L.length cap _ _).mono ?_; rintro e w2 ⟨rfl, hb2⟩; obtain ⟨⟨a0, a1⟩, b0, b1, b2⟩ := HC.out hb2; have r0 := (hb2.cell (p := ⟨w.heap.size, 0, none⟩) (by simp)).trans (show _ = some (Value.string ⟨#[]⟩) by simp [go_sem]); have r1 := (hb2.cell (p := ⟨w.heap.size, 1, none⟩) (by simp)).trans (show _ = some (Value.int .i64 0) by simp [go_sem]); have r2 := (hb2.cell (p := ⟨w.heap.size, 2, none⟩) (by simp)).trans (show _ = some (Value.int .i64 0) by simp [go_sem]); have f0 := (hb2.frozen (p := ⟨w.heap.size, 0, none⟩) (by simp)).trans (show _ = false by simp [go_sem]); have f1 := (hb2.frozen (p := ⟨w.heap.size, 1, none⟩) (by simp)).trans (show _ = false by simp [go_sem]); have f2 := (hb2.frozen (p := ⟨w.heap.size, 2, none⟩) (by simp)).trans (show _ = false by simp [go_sem])))
  refine bodyPost_ret (v := .tuple #[vI x, .int .i64 0]) (by simp [results, Try.results26, go_sem, r0, r1, r2]) rfl ⟨rfl, ?_⟩
  exact three_sets (on2 (by go_grown) hb2) _ _ _
/-- The key is looked up: there. -/
theorem KAt.there {F : Where} {w : World} {kb : Nat} {v : Value} {mb n : Nat} {D : DataW Unit} {L : List It} (h : KAt F w kb v mb n D L) (t : Tells D L) (s : ByteArray) (hs : s.size ≤ 140737488355328) {i : Nat} (hi : i < L.length) (e : (L[i].1.toList == s.toList) = true) :
    Sem.run Try.prog (Instr.lookup 84 (.map (some mb)) (.string s) true) w = .ok (.tuple #[.int .i64 (i : Int), .bool true]) w := by
  obtain ⟨c, hlk, hat⟩ := h.look (s, 0, 0) hs
  have hk : kl L[i] = kl (s, 0, 0) := (kl_iff _ _).2 e
  have hy := t.2.1 i hi
  rw [hk] at hy
  rw [hy.2] at hat
  obtain rfl : (i : Int) = c := by simpa using hat
  rw [hy.1] at hlk
  exact hlk
/-- The key is looked up: not there. -/
theorem KAt.lacks {F : Where} {w : World} {kb : Nat} {v : Value} {mb n : Nat} {D : DataW Unit} {L : List It} (h : KAt F w kb v mb n D L) (t : Tells D L) (s : ByteArray) (hs : s.size ≤ 140737488355328) (e : hasK L s.toList = false) :
    ∃ c, Sem.run Try.prog (Instr.lookup 84 (.map (some mb)) (.string s) true) w = .ok (.tuple #[.int .i64 c, .bool false]) w := by
  obtain ⟨c, hlk, _⟩ := h.look (s, 0, 0) hs
  have hno : Maps.has D (kl (s, 0, 0)) = false := by
    cases hh : Maps.has D (kl (s, 0, 0))
    · rfl
    · obtain ⟨i, hi, e'⟩ := t.2.2 _ hh
      have := hasK_of hi ((kl_iff _ _).1 e')
      rw [e] at this; cases this
  rw [hno] at hlk
  exact ⟨c, hlk⟩
theorem Drop_none {F : Where} {w : World} {hb : Nat} {L : List It} (h : HAt F w hb L) (s : ByteArray) (hs : s.size ≤ 140737488355328) (e : hasK L s.toList = false) :
    Calls Try.prog 39 #[.pointer (some ⟨hb, 0, none⟩), .string s] w fun e w' => e = .returned (.tuple #[vI zI, .int .i64 5]) ∧ Below w.heap.size w w' := by
  obtain ⟨kb, h1, h2, h3⟩ := h
  have hbl := block_lt h2
  have hbW : Below w.heap.size w (w.alloc (.cells #[.string ⟨#[]⟩, .int .i64 0, .int .i64 0] 62)) := by go_grown
  have h2' := (hbW.block hb hbl).trans h2
  obtain ⟨v, mb, D, hk, t⟩ := h3.grow hbW
  have k2 := hk.c2
  obtain ⟨c, hlk⟩ := hk.lacks t s hs e
  have cW : (w.alloc (.cells #[.string ⟨#[]⟩, .int .i64 0, .int .i64 0] 62)).cell? ⟨hb, 0, none⟩ = some (.pointer (some ⟨kb, 0, none⟩)) := by simp [World.cell?, h2']
  clear h1 h2 h3 h2' hbW hk t e
  go_enter Try.func39, Try.ntmps39
  go_wp2_with (go_at_call 37; refine (made_calls cW ⟨_, rfl⟩).mono ?_; rintro e w' ⟨rfl, rfl⟩)
  refine bodyPost_ret (v := .tuple #[vI zI, .int .i64 5]) (by simp [results, Try.results39, go_sem, zI]) rfl ⟨rfl, ?_⟩
  go_grown
set_option maxHeartbeats 2000000 in
theorem Drop_some {F : Where} {w : World} {hb : Nat} {L : List It} (h : HAt F w hb L) (hF : ∀ b, w.heap.size ≤ b → F b) (hL : L.length < 1000000000000) (s : ByteArray) (hs : s.size ≤ 140737488355328) (i : Nat) (hi : i < L.length) (e : (L[i].1.toList == s.toList) = true) :
    Calls Try.prog 39 #[.pointer (some ⟨hb, 0, none⟩), .string s] w fun e w' => e = .returned (.tuple #[vI (at_ L i), .int .i64 0]) ∧ HAt F w' hb (lastL L i).dropLast ∧ Turns F w w' := by
  obtain ⟨kb, h1, h2, h3⟩ := h
  have hbl := block_lt h2
  have hG : ∀ b, w.heap.size ≤ b → F b ∧ b ≠ hb := fun b hb' => ⟨hF b hb', by omega⟩
  have H3 : Hid (HK (fun b => F b ∧ b ≠ hb) w kb L) := h3
  have hbW : Below w.heap.size w (w.alloc (.cells #[.string ⟨#[]⟩, .int .i64 0, .int .i64 0] 62)) := by go_grown
  have h2' := (hbW.block hb hbl).trans h2
  obtain ⟨v, mb, D, hk, t⟩ := h3.grow hbW
  have k2 := hk.c2
  have hlk := hk.there t s hs hi e
  have cW : (w.alloc (.cells #[.string ⟨#[]⟩, .int .i64 0, .int .i64 0] 62)).cell? ⟨hb, 0, none⟩ = some (.pointer (some ⟨kb, 0, none⟩)) := by simp [World.cell?, h2']
  have HQ : Hid (∀ {w1 : World}, Turns (Nar (fun b => F b ∧ b ≠ hb) w (w.alloc (.cells #[.string ⟨#[]⟩, .int .i64 0, .int .i64 0] 62))) (w.alloc (.cells #[.string ⟨#[]⟩, .int .i64 0, .int .i64 0] 62)) w1 → w1.heap[hb]? = some (.cells #[.pointer (some ⟨kb, 0, none⟩)] 77 (0, 0)) ∧ w1.heap[w.heap.size]? = some (.cells #[.string ⟨#[]⟩, .int .i64 0, .int .i64 0] 62 (0, 0))) := by
    intro w1 ht
    have hsW : (w.alloc (.cells #[.string ⟨#[]⟩, .int .i64 0, .int .i64 0] 62)).heap.size = w.heap.size + 1 := by simp
    refine ⟨(ht.block hb (by omega) (fun hn => hn.elim (fun k => k.1.2 rfl) (fun k => by omega))).trans h2', ?_⟩
    exact (ht.block w.heap.size (by omega) (fun hn => hn.elim (fun k => by omega) (fun k => by omega))).trans (heap_new w _ _ rfl)
  have HW : Hid (Below w.heap.size w (w.alloc (.cells #[.string ⟨#[]⟩, .int .i64 0, .int .i64 0] 62))) := hbW
  clear h2 h3 h2' hbW hk t e
  go_enter Try.func39, Try.ntmps39
  go_wp2_with (first
    | (go_at_call 37; refine (made_calls cW ⟨_, rfl⟩).mono ?_; rintro e w' ⟨rfl, rfl⟩)
    | (go_at_call 49; refine (take_calls (H3.out.nar HW.out) (fun b hb => .inr hb) hL i hi).mono ?_; rintro e w3 ⟨rfl, hk3, ht3⟩; obtain ⟨q1, q2⟩ := HQ.out ht3; have r0 : w3.cell? ⟨w.heap.size, 0, none⟩ = some (.string ⟨#[]⟩) := (by simp [World.cell?, q2]); have r1 : w3.cell? ⟨w.heap.size, 1, none⟩ = some (.int .i64 0) := (by simp [World.cell?, q2]); have r2 : w3.cell? ⟨w.heap.size, 2, none⟩ = some (.int .i64 0) := (by simp [World.cell?, q2]); have f0 : w3.frozen? ⟨w.heap.size, 0, none⟩ = false := (by simp [World.frozen?, q2]); have f1 : w3.frozen? ⟨w.heap.size, 1, none⟩ = false := (by simp [World.frozen?, q2]); have f2 : w3.frozen? ⟨w.heap.size, 2, none⟩ = false := (by simp [World.frozen?, q2])))
  have hs2 := HW.out.size
  have hsW : (w.alloc (.cells #[.string ⟨#[]⟩, .int .i64 0, .int .i64 0] 62)).heap.size = w.heap.size + 1 := by simp
  refine bodyPost_ret (v := .tuple #[vI (at_ L i), .int .i64 0]) (by simp [results, Try.results39, go_sem, r0, r1, r2]) rfl ⟨rfl, ⟨kb, h1, ?_, HK.wide hG hs2 (hk3.on3 (fun hn => hn.elim (fun k => by omega) (fun k => by omega)))⟩, ?_⟩
  · have hne : hb ≠ w.heap.size := by omega
    rw [heap_setCell_other _ ⟨w.heap.size, 2, none⟩ hb _ hne, heap_setCell_other _ ⟨w.heap.size, 1, none⟩ hb _ hne, heap_setCell_other _ ⟨w.heap.size, 0, none⟩ hb _ hne]
    exact q1
  · exact (Turns.weak (Turns.wide hG HW.out ht3) (fun b _ hf => hf.1)).trans (((Turns.set (hF _ (Nat.le_refl _)) _).trans (Turns.set (hF _ (Nat.le_refl _)) _)).trans (Turns.set (hF _ (Nat.le_refl _)) _))
end Go.Proofs.Ytpombhiffpbedaa
namespace Go.Proofs.Ytpombhiffpbedaa
open Go.RowKit Go.Maps
set_option linter.unusedSimpArgs false
set_option maxRecDepth 100000

set_option maxHeartbeats 2000000 in
theorem Clone_own (a : Option Addr) (n cap : Nat) (L : List It) (w : World) (hn : L.length = n) (hL : RowAt encI 3 okI w a L) (hb : n < 1000000000) :
    Calls Try.prog 54 #[.slice a n cap] w fun e w' => ∃ a' c', e = .returned (.slice a' n c') ∧ Own w w' 62 3 (.slice a' n c') n (flatE encI L) := by
  match a with
  | none =>
    have hz := hL.none_nil
    have HN0 : Hid (n = 0) := by rw [Hid, ← hn, hz]; rfl
    have HZ : Hid (L = []) := hz
    clear hz
    have hE := fun w => Lib.run_eql_slice_nil (P := Try.prog) w 71 62 none n cap 0 0 Try.underlying71
    go_enter Try.func54, Try.ntmps54
    go_wp2_with fail
    go_ret
    rw [HN0.out, HZ.out]
    exact ⟨none, 0, rfl, Below.refl _ _, by simp [flatE], .inl ⟨rfl, rfl⟩⟩
  | some ad =>
    have hE := fun w => Lib.run_eql_slice_nil (P := Try.prog) w 71 62 (some ad) n cap 0 0 Try.underlying71
    have HX : Hid (∀ j y, (flatE encI L)[j]? = some y → (w.alloc (.cells #[] 62)).cell? (ad.add j) = some y) := flatE_cells encI_len (hL.on (by go_grown))
    clear hL
    go_enter Try.func54, Try.ntmps54
    go_wp2_with (at_builtin; go_must (refine own_append (w0 := w) rfl _ _ 71 62 rfl _ 3 32 infoI Try.underlying71 rfl (by decide) (.slice (some ⟨w.heap.size, 0, none⟩) 0 0) 0 [] rfl (Own.start w w 62 3 (Below.refl _ _)) ad n cap (flatE encI L) rfl (by rw [flatE_length encI_len, hn]) HX.out (flatE_one encI_one L) (by unfold maxLen; omega) (by omega) ?_); intro v4 w4 hown4 hnil4)
    go_ret
    rw [Nat.zero_add, List.nil_append] at hown4
    obtain ⟨_, ⟨e1, e2⟩ | ⟨g, c', cur, e1, _⟩⟩ := id hown4.2
    · subst e1
      rw [e2] at hown4 ⊢
      exact ⟨_, _, rfl, hown4⟩
    · subst e1
      exact ⟨_, _, rfl, hown4⟩
def ClS (w : World) (kb : Nat) (v : Value) (mb : Nat) (u : World) : Prop := Below w.heap.size w u ∧ u.cell? ⟨kb, 0, none⟩ = some v ∧ u.cell? ⟨kb, 2, none⟩ = some (.map (some mb))
end Go.Proofs.Ytpombhiffpbedaa
namespace Go.Proofs.Ytpombhiffpbedaa
open Go.RowKit Go.Maps
set_option linter.unusedSimpArgs false

/-- The first entry of a key. -/
def fnd (L : List It) (k : List UInt8) : It × Int := match L.find? (fun x => x.1.toList == k) with
  | some x => (x, 0)
  | none => (zI, 5)
theorem fnd_noneH {L : List It} {k : List UInt8} (h : hasK L k = false) : fnd L k = (zI, 5) := by
  unfold fnd
  have : L.find? (fun x => x.1.toList == k) = none := by
    rw [List.find?_eq_none]
    unfold hasK at h
    rw [List.any_eq_false] at h
    exact h
  rw [this]
theorem fnd_at {L : List It} {k : List UInt8} (hd : DK L) {i : Nat} (hi : i < L.length) (e : (L[i].1.toList == k) = true) : fnd L k = (L[i], 0) := by
  unfold fnd
  cases hf : L.find? (fun x => x.1.toList == k) with
  | none =>
    rw [List.find?_eq_none] at hf
    exact absurd e (hf _ (List.getElem_mem hi))
  | some x =>
    have hx := List.mem_of_find?_eq_some hf
    have hp := List.find?_some hf
    obtain ⟨j, hj, rfl⟩ := List.mem_iff_getElem.1 hx
    have : j = i := by
      have hpw := List.pairwise_iff_getElem.1 hd
      have hk : sameK L[j] L[i] = true := by
        unfold sameK
        rw [beq_iff_eq.1 e, beq_iff_eq.1 hp]; simp
      rcases Nat.lt_trichotomy j i with c | c | c
      · have := hpw j i hj hi c; rw [hk] at this; cases this
      · exact c
      · have := hpw i j hi hj c; rw [sameK_symm, hk] at this; cases this
    subst this
    rfl
theorem hasK_perm {A B : List It} (h : A.Perm B) (k : List UInt8) : hasK A k = hasK B k := by
  unfold hasK
  rw [Bool.eq_iff_iff, List.any_eq_true, List.any_eq_true]
  exact ⟨fun ⟨x, hx, e⟩ => ⟨x, h.mem_iff.1 hx, e⟩, fun ⟨x, hx, e⟩ => ⟨x, h.mem_iff.2 hx, e⟩⟩
theorem fnd_perm {A B : List It} (h : A.Perm B) (hd : DK A) (k : List UInt8) : fnd A k = fnd B k := by
  cases hk : hasK A k with
  | false => rw [fnd_noneH hk, fnd_noneH (by rw [← hasK_perm h]; exact hk)]
  | true =>
    obtain ⟨i, hi, e⟩ := hasK_at hk
    have hm := h.mem_iff.1 (List.getElem_mem hi)
    obtain ⟨j, hj, ej⟩ := List.mem_iff_getElem.1 hm
    rw [fnd_at hd hi e, fnd_at (hd.perm h) hj (by rw [ej]; exact e), ej]
theorem fnd_ok {A : List It} (h : ∀ x ∈ A, okI x) (k : List UInt8) : okI (fnd A k).1 := by
  unfold fnd
  split
  · rename_i x hx; exact h x (List.mem_of_find?_eq_some hx)
  · simp [zI, okI, ByteArray.size]
/-- What comes ahead of all. -/
def hdI (L : List It) : It × Int := if L.length = 0 then (zI, 5) else (at_ L 0, 0)
/-- A sorted list and a heap with the same entries. -/
structure Like (l A : List It) : Prop where
  hh : HeapL A
  pm : l.Perm A
  sr : Srt l 0 l.length
theorem Like.len {l A : List It} (h : Like l A) : l.length = A.length := h.pm.length_eq
theorem Like.stab {l A : List It} (h : Like l A) : stabF A = l := (srt_stab h.pm h.sr).symm
theorem Like.nil : Like [] [] := ⟨fun k h1 h2 => by simp at h2, List.Perm.refl _, fun i j h1 h2 h3 => by simp at h3⟩
theorem Like.head {l A : List It} (h : Like l A) (h0 : 0 < l.length) : at_ l 0 = at_ A 0 := by
  have hA : 0 < A.length := by rw [← h.len]; exact h0
  have m1 : at_ A 0 ∈ l := h.pm.mem_iff.2 (by rw [at_get hA]; exact List.getElem_mem hA)
  have m2 : at_ l 0 ∈ A := h.pm.mem_iff.1 (by rw [at_get h0]; exact List.getElem_mem h0)
  obtain ⟨i, hi, ei⟩ := List.mem_iff_getElem.1 m1
  obtain ⟨j, hj, ej⟩ := List.mem_iff_getElem.1 m2
  have r1 := h.sr 0 i (Nat.le_refl _) (Nat.zero_le _) hi
  have r2 := HeapN.root h.hh (j + 1) j (by omega) hj
  rw [at_get hi, ei] at r1
  rw [at_get hj, ej] at r2
  exact nl_eq r1 r2
theorem Like.hd {l A : List It} (h : Like l A) : hdI l = hdI A := by
  unfold hdI
  rw [h.len]
  split
  · rfl
  · rename_i c; rw [h.head (by rw [h.len]; omega)]
theorem srt_filter {l : List It} (p : It → Bool) (h : Srt l 0 l.length) : Srt (l.filter p) 0 (l.filter p).length := by
  have hs : l.Pairwise nl := by
    rw [List.pairwise_iff_getElem]
    intro i j hi hj hij
    have := h i j (Nat.zero_le _) (by omega) hj
    rwa [at_get hi, at_get hj] at this
  have hf := List.Pairwise.filter p hs
  intro i j _ h2 h3
  rcases Nat.lt_or_ge i j with c | c
  · have := List.pairwise_iff_getElem.1 hf i j (by omega) h3 c
    rwa [at_get (by omega), at_get h3]
  · rw [show i = j by omega]; exact nl_self _
theorem srt_stabF (L : List It) : Srt (stabF L) 0 (stabF L).length := by have := stabF_srt L; rw [stabF_length]; exact this
theorem Like.put {l A A' : List It} (h : Like l A) (y : It) (h1 : HeapL A') (h2 : A'.Perm (putK A y)) : Like (stabF (putK l y)) A' :=
  ⟨h1, (stabF_perm _).trans ((putK_perm h.pm y).trans h2.symm), srt_stabF _⟩
theorem Like.drop {l A A' : List It} (h : Like l A) (k : List UInt8) (h1 : HeapL A') (h2 : A'.Perm (dropK A k)) : Like (dropK l k) A' :=
  ⟨h1, (h.pm.filter _).trans h2.symm, srt_filter _ h.sr⟩
theorem Like.pop {l A A' : List It} (h : Like l A) (h0 : 0 < l.length) (h1 : HeapL A') (h2 : (A' ++ [at_ A 0]).Perm A) : Like (l.drop 1) A' := by
  have e : l = at_ l 0 :: l.drop 1 := by
    rw [at_get h0]
    have := List.drop_eq_getElem_cons (l := l) (i := 0) h0
    simpa using this
  refine ⟨h1, ?_, ?_⟩
  · have p : (at_ l 0 :: l.drop 1).Perm (at_ l 0 :: A') := by
      rw [← e]
      refine h.pm.trans (h2.symm.trans ?_)
      rw [h.head h0]
      exact List.perm_append_comm
    exact (List.perm_cons _).1 p
  · intro i j _ k2 k3
    have hl : (l.drop 1).length = l.length - 1 := by simp
    rw [hl] at k3
    have ea : ∀ t, t < l.length - 1 → at_ (l.drop 1) t = at_ l (1 + t) := fun t ht => by
      rw [at_get (by omega), at_get (by omega), List.getElem_drop]
    rw [ea i (by omega), ea j k3]
    exact h.sr _ _ (Nat.zero_le _) (by omega) (by omega)
theorem putK_length (A : List It) (y : It) : (putK A y).length ≤ A.length + 1 := by
  unfold putK dropK
  rw [List.length_append]
  have := List.length_filter_le (fun x : It => !(x.1.toList == y.1.toList)) A
  simp; omega
theorem dropK_length (A : List It) (k : List UInt8) : (dropK A k).length ≤ A.length := List.length_filter_le _ _

section
variable {w0 u : World} {hb : Nat} {A : List It} {K : Where}
theorem Peek_step (h : Hpk w0 u hb A K) : Calls Try.prog 26 #[.pointer (some ⟨hb, 0, none⟩)] u fun e w' => e = .returned (.tuple #[vI (hdI A).1, .int .i64 (hdI A).2]) ∧ Below u.heap.size u w' := by
  obtain ⟨F, k1, _⟩ := h
  unfold hdI
  split
  · rename_i c
    obtain rfl : A = [] := List.length_eq_zero_iff.1 c
    exact Peek_none k1
  · exact Peek_some k1 (by omega)
theorem PopE_step (h : Hpk w0 u hb A K) (hs : w0.heap.size ≤ u.heap.size) (hK : ∀ b, K b → b < u.heap.size) (hL : A.length < 1000000000000) (hh : HeapL A) :
    Calls Try.prog 101 #[.pointer (some ⟨hb, 0, none⟩)] u fun e w' => ∃ A', (e = .returned (.tuple #[vI (hdI A).1, .int .i64 (hdI A).2]) ∧ HeapL A' ∧ A'.length ≤ A.length ∧ (A.length = 0 → A' = []) ∧ (0 < A.length → (A' ++ [at_ A 0]).Perm A)) ∧ Hpk w0 w' hb A' K ∧ Turns (fun b => w0.heap.size ≤ b ∧ ¬ K b) u w' := by
  by_cases c : A.length = 0
  · obtain rfl : A = [] := List.length_eq_zero_iff.1 c
    obtain ⟨F, k1, k2⟩ := h
    refine (Pop_none k1).mono ?_
    rintro e w' ⟨rfl, hb'⟩
    exact ⟨[], ⟨by simp [hdI], hh, Nat.le_refl _, fun _ => rfl, fun q => by simp at q⟩, Hpk.grow ⟨F, k1, k2⟩ hb', Turns.below hb'⟩
  · refine (Pop_step h hs hK hL hh (by omega)).mono ?_
    rintro e w' ⟨A', ⟨rfl, q1, q2⟩, q3, q4⟩
    refine ⟨A', ⟨by simp [hdI, c], q1, ?_, fun q => absurd q c, fun _ => q2⟩, q3, q4⟩
    have := q2.length_eq
    simp at this
    omega
theorem Drop_step (h : Hpk w0 u hb A K) (hsz : w0.heap.size ≤ u.heap.size) (hK : ∀ b, K b → b < u.heap.size) (hL : A.length < 1000000000000) (hh : HeapL A) (s : ByteArray) (hs : s.size ≤ 140737488355328) :
    Calls Try.prog 39 #[.pointer (some ⟨hb, 0, none⟩), .string s] u fun e w' => ∃ A', (e = .returned (.tuple #[vI (fnd A s.toList).1, .int .i64 (fnd A s.toList).2]) ∧ HeapL A' ∧ A'.Perm (dropK A s.toList)) ∧ Hpk w0 w' hb A' K ∧ Turns (fun b => w0.heap.size ≤ b ∧ ¬ K b) u w' := by
  have hd := h.dk
  cases hk : hasK A s.toList with
  | false =>
    obtain ⟨F, k1, k2⟩ := h
    rw [fnd_noneH hk]
    refine (Drop_none k1 s hs hk).mono ?_
    rintro e w' ⟨rfl, hb'⟩
    exact ⟨A, ⟨rfl, hh, by rw [dropK_none hk]⟩, Hpk.grow ⟨F, k1, k2⟩ hb', Turns.below hb'⟩
  | true =>
    obtain ⟨i, hi, e⟩ := hasK_at hk
    rw [fnd_at hd hi e]
    refine h.call (P := fun e' A' => e' = .returned (.tuple #[vI A[i], .int .i64 0]) ∧ HeapL A' ∧ A'.Perm (dropK A s.toList)) hsz hK (fun F k1 k2 => ?_)
    refine (Drop_some k1 k2 hL s hs i hi e).mono ?_
    rintro e' w' ⟨rfl, q1, q2⟩
    have p := lastL_heap hh hi
    exact ⟨_, ⟨by rw [at_get hi], p.1, drop_dropK hd hi e p.2⟩, q1, q2⟩
theorem PushE_step (h : Hpk w0 u hb A K) (hs : w0.heap.size ≤ u.heap.size) (hK : ∀ b, K b → b < u.heap.size) (hL : A.length < 1000000000000) (hh : HeapL A) (y : It) (hy : okI y) (he : y.1.toList.isEmpty = false) :
    Calls Try.prog 36 #[.pointer (some ⟨hb, 0, none⟩), vI y] u fun e w' => ∃ A', (e = .returned (.tuple #[.bool (hasK A y.1.toList), .int .i64 0]) ∧ HeapL A' ∧ A'.Perm (putK A y)) ∧ Hpk w0 w' hb A' K ∧ Turns (fun b => w0.heap.size ≤ b ∧ ¬ K b) u w' :=
  h.call (P := fun e A' => e = .returned (.tuple #[.bool (hasK A y.1.toList), .int .i64 0]) ∧ HeapL A' ∧ A'.Perm (putK A y)) hs hK (fun _ k1 k2 => Push_any k1 k2 hL hh y hy he)
theorem PushN_step (h : Hpk w0 u hb A K) (y : It) (he : y.1.toList.isEmpty = true) :
    Calls Try.prog 36 #[.pointer (some ⟨hb, 0, none⟩), vI y] u fun e w' => e = .returned (.tuple #[.bool false, .int .i64 2]) ∧ Below u.heap.size u w' := by
  obtain ⟨F, k1, _⟩ := h
  exact Push_empty k1 y he
end
theorem dropK_snoc (L : List It) (j : Nat) (hj : j < L.length) (k : List UInt8) : dropK (L.take (j + 1)) k = if ((at_ L j).1.toList == k) = true then dropK (L.take j) k else dropK (L.take j) k ++ [at_ L j] := by
  rw [List.take_succ_eq_append_getElem hj, ← at_get hj]
  unfold dropK
  rw [List.filter_append]
  split
  · rename_i h; simp [h]
  · rename_i h; simp [h]
theorem hasK_snoc (L : List It) (j : Nat) (hj : j < L.length) (k : List UInt8) : hasK (L.take (j + 1)) k = (hasK (L.take j) k || ((at_ L j).1.toList == k)) := by
  rw [List.take_succ_eq_append_getElem hj, ← at_get hj]
  unfold hasK
  simp
theorem own_parts {w w' : World} {e : TypeId} {k g n c : Nat} {xs : List Value} (h : Own w w' e k (.slice (some ⟨g, 0, none⟩) n c) n xs) : w.heap.size ≤ g ∧ g < w'.heap.size ∧ n ≤ c := by
  obtain ⟨_, ⟨e1, _⟩ | ⟨g', c', cur, e1, hB, hg, hcp, _⟩⟩ := h.2
  · cases e1
  · obtain ⟨rfl, rfl⟩ : g = g' ∧ c = c' := by simpa using e1
    exact ⟨hB, block_lt hg, hcp⟩
end Go.Proofs.Ytpombhiffpbedaa
