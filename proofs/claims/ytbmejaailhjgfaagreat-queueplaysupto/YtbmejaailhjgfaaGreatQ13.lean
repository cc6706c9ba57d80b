/- Steps of a region that draws its order and whose last operation (number n) waits for all others: what holds up to that one need not hold behind it. Plain facts on the model's walks. No condition. Heap.Peek, Get, Drop, and Pop where there is nothing: the plain functions. No condition. maps.Clone, keyed.clone, Heap.Clone: the plain functions. Condition: fewer than 1,000,000,000 entries. -/
import Derived.Test.YtbmejaailhjgfaaGreatQ12
import Derived.StillTail
import Derived.Shelf.SlMaps.Clone
namespace Go.Proofs.YtbmejaailhjgfaaGreat
open Go.RowKit
set_option linter.unusedSimpArgs false

section
variable {P : Program} {md : Region.Mode} {ops : Array Oper} {Q : Exit → Act → World → Prop} {S : World → Prop} {oi : Oper} {d n fuel : Nat} {listed : Array Bool} {a : Act} {w : World}
/-- Whatever order is picked; S holds behind every operation before the n-th. -/
def wpAnyN (P : Program) (md : Region.Mode) (ops : Array Oper) (Q : Exit → Act → World → Prop) (S : World → Prop) (n : Nat) : Nat → Array Bool → Act → World → Prop
  | 0, listed, a, w => Region.ready md ops listed = [] ∧ Q .normal a w
  | fuel + 1, listed, a, w =>
    (Region.ready md ops listed = [] → Q .normal a w) ∧
    ∀ i ∈ Region.ready md ops listed, wpOp P ops Q i (fun a' w' => (i < n → S w') ∧ wpAnyN P md ops Q S n fuel (listed.setIfInBounds i true) a' w') a w
theorem wpAny_of_N : ∀ (fuel : Nat) (listed : Array Bool) (a : Act) (w : World), wpAnyN P md ops Q S n fuel listed a w → wpAny P md ops Q fuel listed a w
  | 0, _, _, _, h => h
  | fuel + 1, _, _, _, h => ⟨h.1, fun i hi => wpOp_mono (fun a' w' h' => wpAny_of_N fuel _ a' w' h'.2) (h.2 i hi)⟩
theorem wpAnyN_first {i : Nat} {v : Value} (hi : ops[i]? = some oi) (hsel : ∀ (j : Nat) (o : Oper) cs b, ops[j]? = some o → o.op ≠ .select cs b)
    (hQ : ∀ c a w, Q (.panic c) (a.put oi.dst v) w → Q (.panic c) a w)
    (hs : Region.sinkB md ops n = true) (hc : Region.chainB md ops n = true) (hn : n < ops.size) (hin : i < n) :
    ∀ (fuel : Nat) (listed : Array Bool) (a : Act) (w : World), HeadInv md ops n listed →
      (∀ j oj, ops[j]? = some oj → j ≠ i → listed.getD j true = false → (∀ e ∈ oj.after, Region.binds md e = true → e.on ≠ i) → oi.apart ops oj = true) →
      i ∈ Region.ready md ops listed → YieldsIf P ops S oi v a → S w →
      wpAnyN P md ops Q S n fuel (listed.setIfInBounds i true) (a.put oi.dst v) w → wpAnyN P md ops Q S n (fuel + 1) listed a w := by
  intro fuel
  induction fuel with
  | zero =>
    intro listed a w _ _ hr hy hS H
    refine ⟨fun h => (by rw [h] at hr; cases hr), fun j hj => ?_⟩
    by_cases hji : j = i
    · subst hji; exact hy.wpOp hi hS ⟨fun _ => hS, H⟩
    · have := ready_mono hj hji
      rw [H.1] at this
      cases this
  | succ fuel ih =>
    intro listed a w inv hfree hr hy hS H
    have hun := (mem_ready.1 hr).1
    refine ⟨fun h => (by rw [h] at hr; cases hr), fun j hj => ?_⟩
    have hjn : j < n := by
      rcases Nat.lt_or_ge j n with h | h
      · exact h
      · exact absurd hj (tail_waits hs hc hn inv _ i rfl hin hun j h)
    by_cases hji : j = i
    · subst hji; exact hy.wpOp hi hS ⟨fun _ => hS, H⟩
    · have h1 := H.2 j (ready_mono hj hji)
      obtain ⟨hjun, oj, hoj, hall⟩ := mem_ready.1 hj
      have hnot : ∀ e ∈ oj.after, Region.binds md e = true → e.on ≠ i := fun e he hb heq => by
        have h1 := hall e he hb
        rw [heq, getD_both hun] at h1
        cases h1
      have h2 := wpOp_putIf hoj (hfree j oj hoj hji hjun hnot) (fun cs b => hsel i oi cs b hi) (fun cs b => hsel j oj cs b hoj) hQ hy h1
      have hfree' : ∀ k ok, ops[k]? = some ok → k ≠ i → (listed.setIfInBounds j true).getD k true = false →
          (∀ e ∈ ok.after, Region.binds md e = true → e.on ≠ i) → oi.apart ops ok = true := fun k ok hk hki hun hno => by
        refine hfree k ok hk hki ?_ hno
        by_cases hjk : j = k
        · subst hjk; exact hjun
        · rw [getD_set_ne true hjk] at hun; exact hun
      refine wpOp_mono (fun a' w' h3 => ⟨h3.2.1, ih (listed.setIfInBounds j true) a' w' (inv.set hj hjn) hfree' (ready_mono hr (Ne.symm hji)) h3.1 (h3.2.1 hjn) ?_⟩) h2
      rw [Array.setIfInBounds_comm _ _ hji]
      exact h3.2.2
/-- The walk, with what is known of those that have come up. -/
def wN (P : Program) (md : Region.Mode) (ops : Array Oper) (Q : Exit → Act → World → Prop) (S : World → Prop) (n fuel : Nat) (listed : Array Bool) (a : Act) (w : World) : Prop :=
  Region.sinkB md ops n = true → Region.chainB md ops n = true → n < ops.size → HeadInv md ops n listed → wpAnyN P md ops Q S n fuel listed a w
theorem uq (i : Nat) (v : Value) (hy : YieldsIf P ops S oi v a) (h : wN P md ops (NoPanic Q) S n fuel (listed.setIfInBounds i true) (a.put (some d) v) w)
    (hi : ops[i]? = some oi := by rfl) (hd : oi.dst = some d := by rfl) (hb : (decide (i < n) && (Region.noSelect ops && (Region.free md ops listed i && (Region.ready md ops listed).contains i))) = true := by kernel_rfl) (hS : S w := by assumption) : wN P md ops (NoPanic Q) S n (fuel + 1) listed a w := by
  intro hs hc hn inv
  simp only [Bool.and_eq_true, decide_eq_true_eq] at hb
  obtain ⟨b1, b2, b3, b4⟩ := hb
  have hr : i ∈ Region.ready md ops listed := by simpa using b4
  exact wpAnyN_first hi (Region.noSelect_spec b2) (fun _ _ _ h => h) hs hc hn b1 fuel listed a w inv (Region.free_spec hi b3) hr hy hS (hd ▸ h hs hc hn (inv.set hr b1))
theorem uk (i : Nat) {v : Value} (hy : ∀ u, S u → (execOp a.eval oi).run P u = .ok (.value v) u) (h : wN P md ops (NoPanic Q) S n fuel (listed.setIfInBounds i true) (a.put (some d) v) w)
    (hi : ops[i]? = some oi := by rfl) (hd : oi.dst = some d := by rfl) (hb : (decide (i < n) && (Region.noSelect ops && (Region.free md ops listed i && (Region.ready md ops listed).contains i))) = true := by kernel_rfl) (hw : Region.wanted oi (yielded ops a.tmps) = true := by rfl) (hS : S w := by assumption) : wN P md ops (NoPanic Q) S n (fuel + 1) listed a w :=
  uq i v (.inl ⟨hw, hy⟩) h hi hd hb hS
theorem un (i : Nat) (h : wN P md ops (NoPanic Q) S n fuel (listed.setIfInBounds i true) (a.put (some d) undef) w)
    (hi : ops[i]? = some oi := by rfl) (hd : oi.dst = some d := by rfl) (hb : (decide (i < n) && (Region.noSelect ops && (Region.free md ops listed i && (Region.ready md ops listed).contains i))) = true := by kernel_rfl) (hw : Region.wanted oi (yielded ops a.tmps) = false := by rfl) (hS : S w := by assumption) : wN P md ops (NoPanic Q) S n (fuel + 1) listed a w :=
  uq i undef (.inr ⟨hw, rfl⟩) h hi hd hb hS
/-- Operation i alone may come up; it writes slot d. -/
theorem ur (i : Nat) (h : ∀ K' : Act → World → Prop, Shut (∀ v w, S w → (S w → wN P md ops Q S n fuel (listed.setIfInBounds i true) (a.put (some d) v) w) → K' (a.put oi.dst v) w) → if Region.wanted oi (yielded ops a.tmps) = true then Oper.wp P oi a w K' Q else K' (a.put oi.dst undef) w)
    (hi : ops[i]? = some oi := by rfl) (hd : oi.dst = some d := by rfl) (hr : Region.ready md ops listed = [i] := by kernel_rfl) (hin : i < n := by decide) : wN P md ops Q S n (fuel + 1) listed a w := by
  intro hs hc hn inv
  have hir : i ∈ Region.ready md ops listed := by rw [hr]; simp
  refine ⟨fun h0 => (by rw [hr] at h0; cases h0), fun j hj => ?_⟩
  obtain rfl : j = i := by rw [hr] at hj; simpa using hj
  exact wpOp_step hi (fun K' hK => h K' (fun v w h1 h2 => hK _ w ⟨fun _ => h1, hd ▸ h2 h1 hs hc hn (inv.set hir hin)⟩))
/-- Either of two may come up. -/
theorem ub (i j : Nat) {oj : Oper} {e : Nat} (h : ∀ K' : Act → World → Prop, Shut (∀ v w, S w → (S w → wN P md ops Q S n fuel (listed.setIfInBounds i true) (a.put (some d) v) w) → K' (a.put oi.dst v) w) → if Region.wanted oi (yielded ops a.tmps) = true then Oper.wp P oi a w K' Q else K' (a.put oi.dst undef) w)
    (h' : ∀ K' : Act → World → Prop, Shut (∀ v w, S w → (S w → wN P md ops Q S n fuel (listed.setIfInBounds j true) (a.put (some e) v) w) → K' (a.put oj.dst v) w) → if Region.wanted oj (yielded ops a.tmps) = true then Oper.wp P oj a w K' Q else K' (a.put oj.dst undef) w)
    (hi : ops[i]? = some oi := by rfl) (hd : oi.dst = some d := by rfl) (hj : ops[j]? = some oj := by rfl) (he : oj.dst = some e := by rfl) (hr : Region.ready md ops listed = [i, j] := by kernel_rfl) (hin : i < n ∧ j < n := by decide) : wN P md ops Q S n (fuel + 1) listed a w := by
  intro hs hc hn inv
  have hir : i ∈ Region.ready md ops listed := by rw [hr]; simp
  have hjr : j ∈ Region.ready md ops listed := by rw [hr]; simp
  refine ⟨fun h0 => (by rw [hr] at h0; cases h0), fun k hk => ?_⟩
  have hk' : k = i ∨ k = j := by rw [hr] at hk; simpa using hk
  rcases hk' with rfl | rfl
  · exact wpOp_step hi (fun K' hK => h K' (fun v w h1 h2 => hK _ w ⟨fun _ => h1, hd ▸ h2 h1 hs hc hn (inv.set hir hin.1)⟩))
  · exact wpOp_step hj (fun K' hK => h' K' (fun v w h1 h2 => hK _ w ⟨fun _ => h1, he ▸ h2 h1 hs hc hn (inv.set hjr hin.2)⟩))
/-- The last operation. -/
theorem uz (i : Nat) (h : ∀ K' : Act → World → Prop, Shut (∀ w, Q .normal a w → K' a w) → if Region.wanted oi (yielded ops a.tmps) = true then Oper.wp P oi a w K' Q else K' (a.put oi.dst undef) w)
    (hi : ops[i]? = some oi := by rfl) (hr : Region.ready md ops listed = [i] := by kernel_rfl) (hr' : Region.ready md ops (listed.setIfInBounds i true) = [] := by kernel_rfl) (hin : n ≤ i := by decide) : wN P md ops Q S n (fuel + 1) listed a w := by
  intro _ _ _ _
  refine ⟨fun h0 => (by rw [hr] at h0; cases h0), fun j hj => ?_⟩
  obtain rfl : j = i := by rw [hr] at hj; simpa using hj
  refine wpOp_step hi (fun K' hK => h K' (fun w h1 => hK _ w ⟨fun h2 => absurd h2 (by omega), ?_⟩))
  cases fuel with
  | zero => exact ⟨hr', h1⟩
  | succ f => exact ⟨fun _ => h1, by rw [hr']; simp⟩
/-- Either of two may come up (S holds to the end). -/
theorem tb (i j : Nat) {oj : Oper} {e : Nat} (h : ∀ K' : Act → World → Prop, Shut (∀ v w, S w → (S w → wpAnyH P md ops Q S fuel (listed.setIfInBounds i true) (a.put (some d) v) w) → K' (a.put oi.dst v) w) → if Region.wanted oi (yielded ops a.tmps) = true then Oper.wp P oi a w K' Q else K' (a.put oi.dst undef) w)
    (h' : ∀ K' : Act → World → Prop, Shut (∀ v w, S w → (S w → wpAnyH P md ops Q S fuel (listed.setIfInBounds j true) (a.put (some e) v) w) → K' (a.put oj.dst v) w) → if Region.wanted oj (yielded ops a.tmps) = true then Oper.wp P oj a w K' Q else K' (a.put oj.dst undef) w)
    (hi : ops[i]? = some oi := by rfl) (hd : oi.dst = some d := by rfl) (hj : ops[j]? = some oj := by rfl) (he : oj.dst = some e := by rfl) (hr : Region.ready md ops listed = [i, j] := by kernel_rfl) : wpAnyH P md ops Q S (fuel + 1) listed a w :=
  wpAnyH_ready hr (by simp) (AllReadyH.cons hi (fun K' hK => h K' (fun v w h1 h2 => hK.out _ w h1 (fun h3 => hd ▸ h2 h3))) (AllReadyH.cons hj (fun K' hK => h' K' (fun v w h1 h2 => hK.out _ w h1 (fun h3 => he ▸ h2 h3))) AllReadyH.nil))
/-- The beginning. -/
theorem u0 (n : Nat) (S : World → Prop) {id : Nat} (hS : S w.drew) (h : S w.drew → wN P .any ops (NoPanic Q) S n ops.size (Array.replicate ops.size false) a w.drew)
    (hm : P.follows .mixedOrders = true := by kernel_rfl) (hb : (Region.sinkB .any ops n && (Region.chainB .any ops n && decide (n < ops.size))) = true := by kernel_rfl) : (Code.region id ops true).wp P Q a w := by
  simp only [Bool.and_eq_true, decide_eq_true_eq] at hb
  refine wp_region_noPanic (wp_region_any hm (wpAny_of_N (S := S) (n := n) _ _ _ _ (h hS hb.1 hb.2.1 hb.2.2 ⟨by simp, fun j oj _ hl => ?_, fun t _ ht => by simp [ht]⟩)))
  rw [getD_replicate_false] at hl
  cases hl
end
end Go.Proofs.YtbmejaailhjgfaaGreat
namespace Go.Proofs.YtbmejaailhjgfaaGreat
open Go.RowKit Go.Maps
set_option linter.unusedSimpArgs false
set_option maxRecDepth 100000

/-- The entry that is none. -/
def zI : It := (⟨#[]⟩, 0, 0)
theorem three_sets {w u : World} (h : Below w.heap.size w u) (p q r : Value) : Below w.heap.size w (((u.setCell ⟨w.heap.size, 0, none⟩ p).setCell ⟨w.heap.size, 1, none⟩ q).setCell ⟨w.heap.size, 2, none⟩ r) :=
  ((h.setCell (p := ⟨w.heap.size, 0, none⟩) (Nat.le_refl _) p).setCell (p := ⟨w.heap.size, 1, none⟩) (Nat.le_refl _) q).setCell (p := ⟨w.heap.size, 2, none⟩) (Nat.le_refl _) r
theorem Pop_none {F : Where} {w : World} {hb : Nat} (h : HAt F w hb []) :
    Calls Tryz.prog 140 #[.pointer (some ⟨hb, 0, none⟩)] w fun e w' => e = .returned (.tuple #[vI zI, .int .i64 5]) ∧ Below w.heap.size w w' := by
  obtain ⟨kb, h1, h2, h3⟩ := h
  have hbl := block_lt h2
  have hbW : Below w.heap.size w (w.alloc (.cells #[.string ⟨#[]⟩, .int .i64 0, .int .i64 0] 67)) := by go_grown
  have h2' := (hbW.block hb hbl).trans h2
  obtain ⟨v, mb, D, hk, _⟩ := h3.grow hbW
  obtain ⟨a, cap, rfl, _⟩ := hk.len
  have k0 := hk.c0
  have k1 := hk.c1
  have cW : (w.alloc (.cells #[.string ⟨#[]⟩, .int .i64 0, .int .i64 0] 67)).cell? ⟨hb, 0, none⟩ = some (.pointer (some ⟨kb, 0, none⟩)) := by simp [World.cell?, h2']
  clear h1 h2 h3 h2' hbW hk
  go_enter Tryz.func140, Tryz.ntmps140
  go_wp2_with (first
    | (go_at_call 57; refine (made_calls cW ⟨_, rfl⟩).mono ?_; rintro e w' ⟨rfl, rfl⟩)
    | (go_at_call 58; refine (Len_calls a 0 cap _ _).mono ?_; rintro e w2 ⟨rfl, hb2⟩; have r0 := (hb2.cell (p := ⟨w.heap.size, 0, none⟩) (by simp)).trans (show _ = some (Value.string ⟨#[]⟩) by simp [go_sem]); have r1 := (hb2.cell (p := ⟨w.heap.size, 1, none⟩) (by simp)).trans (show _ = some (Value.int .i64 0) by simp [go_sem]); have r2 := (hb2.cell (p := ⟨w.heap.size, 2, none⟩) (by simp)).trans (show _ = some (Value.int .i64 0) by simp [go_sem]); have f0 := (hb2.frozen (p := ⟨w.heap.size, 0, none⟩) (by simp)).trans (show _ = false by simp [go_sem]); have f1 := (hb2.frozen (p := ⟨w.heap.size, 1, none⟩) (by simp)).trans (show _ = false by simp [go_sem]); have f2 := (hb2.frozen (p := ⟨w.heap.size, 2, none⟩) (by simp)).trans (show _ = false by simp [go_sem])))
  refine bodyPost_ret (v := .tuple #[vI zI, .int .i64 5]) (by simp [results, Tryz.results140, go_sem, r0, r1, r2, zI]) rfl ⟨rfl, ?_⟩
  exact three_sets (on2 (by go_grown) hb2) _ _ _
theorem Peek_none {F : Where} {w : World} {hb : Nat} (h : HAt F w hb []) :
    Calls Tryz.prog 37 #[.pointer (some ⟨hb, 0, none⟩)] w fun e w' => e = .returned (.tuple #[vI zI, .int .i64 5]) ∧ Below w.heap.size w w' := by
  obtain ⟨kb, h1, h2, h3⟩ := h
  have hbl := block_lt h2
  have hbW : Below w.heap.size w (w.alloc (.cells #[.string ⟨#[]⟩, .int .i64 0, .int .i64 0] 67)) := by go_grown
  have h2' := (hbW.block hb hbl).trans h2
  obtain ⟨v, mb, D, hk, _⟩ := h3.grow hbW
  obtain ⟨a, cap, rfl, _⟩ := hk.len
  have k0 := hk.c0
  have k1 := hk.c1
  have cW : (w.alloc (.cells #[.string ⟨#[]⟩, .int .i64 0, .int .i64 0] 67)).cell? ⟨hb, 0, none⟩ = some (.pointer (some ⟨kb, 0, none⟩)) := by simp [World.cell?, h2']
  clear h1 h2 h3 h2' hbW hk
  go_enter Tryz.func37, Tryz.ntmps37
  go_wp2_with (first
    | (go_at_call 57; refine (made_calls cW ⟨_, rfl⟩).mono ?_; rintro e w' ⟨rfl, rfl⟩)
    | (go_at_call 58; refine (Len_calls a 0 cap _ _).mono ?_; rintro e w2 ⟨rfl, hb2⟩; have r0 := (hb2.cell (p := ⟨w.heap.size, 0, none⟩) (by simp)).trans (show _ = some (Value.string ⟨#[]⟩) by simp [go_sem]); have r1 := (hb2.cell (p := ⟨w.heap.size, 1, none⟩) (by simp)).trans (show _ = some (Value.int .i64 0) by simp [go_sem]); have r2 := (hb2.cell (p := ⟨w.heap.size, 2, none⟩) (by simp)).trans (show _ = some (Value.int .i64 0) by simp [go_sem]); have f0 := (hb2.frozen (p := ⟨w.heap.size, 0, none⟩) (by simp)).trans (show _ = false by simp [go_sem]); have f1 := (hb2.frozen (p := ⟨w.heap.size, 1, none⟩) (by simp)).trans (show _ = false by simp [go_sem]); have f2 := (hb2.frozen (p := ⟨w.heap.size, 2, none⟩) (by simp)).trans (show _ = false by simp [go_sem])))
  refine bodyPost_ret (v := .tuple #[vI zI, .int .i64 5]) (by simp [results, Tryz.results37, go_sem, r0, r1, r2, zI]) rfl ⟨rfl, ?_⟩
  exact three_sets (on2 (by go_grown) hb2) _ _ _
set_option maxHeartbeats 2000000 in
theorem Peek_some {F : Where} {w : World} {hb : Nat} {L : List It} (h : HAt F w hb L) (h0 : 0 < L.length) :
    Calls Tryz.prog 37 #[.pointer (some ⟨hb, 0, none⟩)] w fun e w' => e = .returned (.tuple #[vI (at_ L 0), .int .i64 0]) ∧ Below w.heap.size w w' := by
  obtain ⟨kb, h1, h2, h3⟩ := h
  have hbl := block_lt h2
  have hbW : Below w.heap.size w (w.alloc (.cells #[.string ⟨#[]⟩, .int .i64 0, .int .i64 0] 67)) := by go_grown
  have h2' := (hbW.block hb hbl).trans h2
  obtain ⟨v0, mb0, D0, hk0, _⟩ := h3
  have hk := hk0.grow hbW
  have hkl := hk0.lt
  obtain ⟨g, cap, rfl, _, hg, _, _, _, hc⟩ := hk0.sl h0
  have k0 := hk.c0
  have k1 := hk.c1
  have x0 := (hc 0 h0).1.1
  have x1 := (hc 0 h0).1.2.1
  have x2 := (hc 0 h0).1.2.2
  rw [← at_get h0] at x0 x1 x2
  generalize at_ L 0 = x at *
  rw [Nat.zero_mul] at x0 x1 x2
  rw [Nat.zero_add] at x1 x2
  have cW : (w.alloc (.cells #[.string ⟨#[]⟩, .int .i64 0, .int .i64 0] 67)).cell? ⟨hb, 0, none⟩ = some (.pointer (some ⟨kb, 0, none⟩)) := by simp [World.cell?, h2']
  have hL0 : ¬ (L.length : Int) = 0 := by omega
  have hLp : (0 : Int) < (L.length : Int) := by omega
  have HC : Hid (∀ {u : World}, Below (w.alloc (.cells #[.string ⟨#[]⟩, .int .i64 0, .int .i64 0] 67)).heap.size (w.alloc (.cells #[.string ⟨#[]⟩, .int .i64 0, .int .i64 0] 67)) u → (u.cell? ⟨hb, 0, none⟩ = some (.pointer (some ⟨kb, 0, none⟩)) ∧ u.cell? ⟨kb, 0, none⟩ = some (.slice (some ⟨g, 0, none⟩) L.length cap)) ∧ (u.cell? ⟨g, 0, none⟩ = some (.string x.1) ∧ u.cell? ⟨g, 1, none⟩ = some (.int .i64 x.2.1) ∧ u.cell? ⟨g, 2, none⟩ = some (.int .i64 x.2.2))) := by
    intro u hu
    have hb0 := on2 hbW hu
    refine ⟨⟨(hu.cell (by simp; omega)).trans cW, (hu.cell (by simp; omega)).trans k0⟩, (hb0.cell hg).trans x0, (hb0.cell hg).trans x1, (hb0.cell hg).trans x2⟩
  have hgn : ¬ w.heap.size = g := by omega
  have hgn2 : ¬ g = w.heap.size := by omega
  clear h1 h2 hk hk0 h2' hbW hc x0 x1 x2
  go_enter Tryz.func37, Tryz.ntmps37
  go_wp2_with (first
    | (go_at_call 57; refine (made_calls cW ⟨_, rfl⟩).mono ?_; rintro e w' ⟨rfl, rfl⟩)
    | (go_at_call 58; refine (Len_calls (some ⟨g, 0, none⟩) L.length cap _ _).mono ?_; rintro e w2 ⟨rfl, hb2⟩; obtain ⟨⟨a0, a1⟩, b0, b1, b2⟩ := HC.out hb2; have r0 := (hb2.cell (p := ⟨w.heap.size, 0, none⟩) (by simp)).trans (show _ = some (Value.string ⟨#[]⟩) by simp [go_sem]); have r1 := (hb2.cell (p := ⟨w.heap.size, 1, none⟩) (by simp)).trans (show _ = some (Value.int .i64 0) by simp [go_sem]); have r2 := (hb2.cell (p := ⟨w.heap.size, 2, none⟩) (by simp)).trans (show _ = some (Value.int .i64 0) by simp [go_sem]); have f0 := (hb2.frozen (p := ⟨w.heap.size, 0, none⟩) (by simp)).trans (show _ = false by simp [go_sem]); have f1 := (hb2.frozen (p := ⟨w.heap.size, 1, none⟩) (by simp)).trans (show _ = false by simp [go_sem]); have f2 := (hb2.frozen (p := ⟨w.heap.size, 2, none⟩) (by simp)).trans (show _ = false by simp [go_sem])))
  refine bodyPost_ret (v := .tuple #[vI x, .int .i64 0]) (by simp [results, Tryz.results37, go_sem, r0, r1, r2]) rfl ⟨rfl, ?_⟩
  exact three_sets (on2 (by go_grown) hb2) _ _ _
/-- The key is looked up: there. -/
theorem KAt.there {F : Where} {w : World} {kb : Nat} {v : Value} {mb n : Nat} {D : DataW Unit} {L : List It} (h : KAt F w kb v mb n D L) (t : Tells D L) (s : ByteArray) (hs : s.size ≤ 140737488355328) {i : Nat} (hi : i < L.length) (e : (L[i].1.toList == s.toList) = true) :
    Sem.run Tryz.prog (Instr.lookup 100 (.map (some mb)) (.string s) true) w = .ok (.tuple #[.int .i64 (i : Int), .bool true]) w := by
  obtain ⟨c, hlk, hat⟩ := h.look (s, 0, 0) hs
  have hk : kl L[i] = kl (s, 0, 0) := (kl_iff _ _).2 e
  have hy := t.2.1 i hi
  rw [hk] at hy
  rw [hy.2] at hat
  obtain rfl : (i : Int) = c := by simpa using hat
  rw [hy.1] at hlk
  exact hlk
/-- The key is looked up: not there. -/
theorem KAt.lacks {F : Where} {w : World} {kb : Nat} {v : Value} {mb n : Nat} {D : DataW Unit} {L : List It} (h : KAt F w kb v mb n D L) (t : Tells D L) (s : ByteArray) (hs : s.size ≤ 140737488355328) (e : hasK L s.toList = false) :
    ∃ c, Sem.run Tryz.prog (Instr.lookup 100 (.map (some mb)) (.string s) true) w = .ok (.tuple #[.int .i64 c, .bool false]) w := by
  obtain ⟨c, hlk, _⟩ := h.look (s, 0, 0) hs
  have hno : Maps.has D (kl (s, 0, 0)) = false := by
    cases hh : Maps.has D (kl (s, 0, 0))
    · rfl
    · obtain ⟨i, hi, e'⟩ := t.2.2 _ hh
      have := hasK_of hi ((kl_iff _ _).1 e')
      rw [e] at this; cases this
  rw [hno] at hlk
  exact ⟨c, hlk⟩
theorem Drop_none {F : Where} {w : World} {hb : Nat} {L : List It} (h : HAt F w hb L) (s : ByteArray) (hs : s.size ≤ 140737488355328) (e : hasK L s.toList = false) :
    Calls Tryz.prog 59 #[.pointer (some ⟨hb, 0, none⟩), .string s] w fun e w' => e = .returned (.tuple #[vI zI, .int .i64 5]) ∧ Below w.heap.size w w' := by
  obtain ⟨kb, h1, h2, h3⟩ := h
  have hbl := block_lt h2
  have hbW : Below w.heap.size w (w.alloc (.cells #[.string ⟨#[]⟩, .int .i64 0, .int .i64 0] 67)) := by go_grown
  have h2' := (hbW.block hb hbl).trans h2
  obtain ⟨v, mb, D, hk, t⟩ := h3.grow hbW
  have k2 := hk.c2
  obtain ⟨c, hlk⟩ := hk.lacks t s hs e
  have cW : (w.alloc (.cells #[.string ⟨#[]⟩, .int .i64 0, .int .i64 0] 67)).cell? ⟨hb, 0, none⟩ = some (.pointer (some ⟨kb, 0, none⟩)) := by simp [World.cell?, h2']
  clear h1 h2 h3 h2' hbW hk t e
  go_enter Tryz.func59, Tryz.ntmps59
  go_wp2_with (go_at_call 57; refine (made_calls cW ⟨_, rfl⟩).mono ?_; rintro e w' ⟨rfl, rfl⟩)
  refine bodyPost_ret (v := .tuple #[vI zI, .int .i64 5]) (by simp [results, Tryz.results59, go_sem, zI]) rfl ⟨rfl, ?_⟩
  go_grown
set_option maxHeartbeats 2000000 in
theorem Drop_some {F : Where} {w : World} {hb : Nat} {L : List It} (h : HAt F w hb L) (hF : ∀ b, w.heap.size ≤ b → F b) (hL : L.length < 1000000000000) (s : ByteArray) (hs : s.size ≤ 140737488355328) (i : Nat) (hi : i < L.length) (e : (L[i].1.toList == s.toList) = true) :
    Calls Tryz.prog 59 #[.pointer (some ⟨hb, 0, none⟩), .string s] w fun e w' => e = .returned (.tuple #[vI (at_ L i), .int .i64 0]) ∧ HAt F w' hb (lastL L i).dropLast ∧ Turns F w w' := by
  obtain ⟨kb, h1, h2, h3⟩ := h
  have hbl := block_lt h2
  have hG : ∀ b, w.heap.size ≤ b → F b ∧ b ≠ hb := fun b hb' => ⟨hF b hb', by omega⟩
  have H3 : Hid (HK (fun b => F b ∧ b ≠ hb) w kb L) := h3
  have hbW : Below w.heap.size w (w.alloc (.cells #[.string ⟨#[]⟩, .int .i64 0, .int .i64 0] 67)) := by go_grown
  have h2' := (hbW.block hb hbl).trans h2
  obtain ⟨v, mb, D, hk, t⟩ := h3.grow hbW
  have k2 := hk.c2
  have hlk := hk.there t s hs hi e
  have cW : (w.alloc (.cells #[.string ⟨#[]⟩, .int .i64 0, .int .i64 0] 67)).cell? ⟨hb, 0, none⟩ = some (.pointer (some ⟨kb, 0, none⟩)) := by simp [World.cell?, h2']
  have HQ : Hid (∀ {w1 : World}, Turns (Nar (fun b => F b ∧ b ≠ hb) w (w.alloc (.cells #[.string ⟨#[]⟩, .int .i64 0, .int .i64 0] 67))) (w.alloc (.cells #[.string ⟨#[]⟩, .int .i64 0, .int .i64 0] 67)) w1 → w1.heap[hb]? = some (.cells #[.pointer (some ⟨kb, 0, none⟩)] 94 (0, 0)) ∧ w1.heap[w.heap.size]? = some (.cells #[.string ⟨#[]⟩, .int .i64 0, .int .i64 0] 67 (0, 0))) := by
    intro w1 ht
    have hsW : (w.alloc (.cells #[.string ⟨#[]⟩, .int .i64 0, .int .i64 0] 67)).heap.size = w.heap.size + 1 := by simp
    refine ⟨(ht.block hb (by omega) (fun hn => hn.elim (fun k => k.1.2 rfl) (fun k => by omega))).trans h2', ?_⟩
    exact (ht.block w.heap.size (by omega) (fun hn => hn.elim (fun k => by omega) (fun k => by omega))).trans (heap_new w _ _ rfl)
  have HW : Hid (Below w.heap.size w (w.alloc (.cells #[.string ⟨#[]⟩, .int .i64 0, .int .i64 0] 67))) := hbW
  clear h2 h3 h2' hbW hk t e
  go_enter Tryz.func59, Tryz.ntmps59
  go_wp2_with (first
    | (go_at_call 57; refine (made_calls cW ⟨_, rfl⟩).mono ?_; rintro e w' ⟨rfl, rfl⟩)
    | (go_at_call 75; refine (take_calls (H3.out.nar HW.out) (fun b hb => .inr hb) hL i hi).mono ?_; rintro e w3 ⟨rfl, hk3, ht3⟩; obtain ⟨q1, q2⟩ := HQ.out ht3; have r0 : w3.cell? ⟨w.heap.size, 0, none⟩ = some (.string ⟨#[]⟩) := (by simp [World.cell?, q2]); have r1 : w3.cell? ⟨w.heap.size, 1, none⟩ = some (.int .i64 0) := (by simp [World.cell?, q2]); have r2 : w3.cell? ⟨w.heap.size, 2, none⟩ = some (.int .i64 0) := (by simp [World.cell?, q2]); have f0 : w3.frozen? ⟨w.heap.size, 0, none⟩ = false := (by simp [World.frozen?, q2]); have f1 : w3.frozen? ⟨w.heap.size, 1, none⟩ = false := (by simp [World.frozen?, q2]); have f2 : w3.frozen? ⟨w.heap.size, 2, none⟩ = false := (by simp [World.frozen?, q2])))
  have hs2 := HW.out.size
  have hsW : (w.alloc (.cells #[.string ⟨#[]⟩, .int .i64 0, .int .i64 0] 67)).heap.size = w.heap.size + 1 := by simp
  refine bodyPost_ret (v := .tuple #[vI (at_ L i), .int .i64 0]) (by simp [results, Tryz.results59, go_sem, r0, r1, r2]) rfl ⟨rfl, ⟨kb, h1, ?_, HK.wide hG hs2 (hk3.on3 (fun hn => hn.elim (fun k => by omega) (fun k => by omega)))⟩, ?_⟩
  · have hne : hb ≠ w.heap.size := by omega
    rw [heap_setCell_other _ ⟨w.heap.size, 2, none⟩ hb _ hne, heap_setCell_other _ ⟨w.heap.size, 1, none⟩ hb _ hne, heap_setCell_other _ ⟨w.heap.size, 0, none⟩ hb _ hne]
    exact q1
  · exact (Turns.weak (Turns.wide hG HW.out ht3) (fun b _ hf => hf.1)).trans (((Turns.set (hF _ (Nat.le_refl _)) _).trans (Turns.set (hF _ (Nat.le_refl _)) _)).trans (Turns.set (hF _ (Nat.le_refl _)) _))
end Go.Proofs.YtbmejaailhjgfaaGreat
namespace Go.Proofs.YtbmejaailhjgfaaGreat
open Go.RowKit Go.Maps
set_option linter.unusedSimpArgs false
set_option maxRecDepth 100000

set_option maxHeartbeats 2000000 in
theorem mClone_calls (b : Nat) (es : Array MapEntry) (clock : Nat) (w : World) (hb : w.heap[b]? = some (.map es clock)) :
    Calls Tryz.prog 80 #[.map (some b)] w fun e w' => e = .returned (.map (some w.heap.size)) ∧ w' = w.alloc (.map es clock) := by
  have hq := fun w => run_eql_map_nil_sl (P := Tryz.prog) w 100 _ _ (some b) Tryz.underlying100
  go_enter Tryz.func80, Tryz.ntmps80
  go_wp2
  rw [run_callFunc_extern Tryz.func69 (by kernel_rfl) (by kernel_rfl) (by kernel_rfl) (e := Extern.MapsClone.clone) (by kernel_rfl), run_maps_clone_sl w 100 hb]
  simp only [Result.andThen]
  rw [Oper.upon_value]
  go_wp2
  rw [run_typeAssert_map_sl _ 100 _ _ _ _ Tryz.underlying100]
  simp only [Result.andThen]
  rw [Oper.upon_value]
  go_wp2
  go_ret
  exact ⟨rfl, rfl⟩
set_option maxHeartbeats 2000000 in
theorem Clone_own (a : Option Addr) (n cap : Nat) (L : List It) (w : World) (hn : L.length = n) (hL : RowAt encI 3 okI w a L) (hb : n < 1000000000) :
    Calls Tryz.prog 79 #[.slice a n cap] w fun e w' => ∃ a' c', e = .returned (.slice a' n c') ∧ Own w w' 67 3 (.slice a' n c') n (flatE encI L) := by
  match a with
  | none =>
    have hz := hL.none_nil
    have HN0 : Hid (n = 0) := by rw [Hid, ← hn, hz]; rfl
    have HZ : Hid (L = []) := hz
    clear hz
    have hE := fun w => Lib.run_eql_slice_nil (P := Tryz.prog) w 88 67 none n cap 0 0 Tryz.underlying88
    go_enter Tryz.func79, Tryz.ntmps79
    go_wp2_with fail
    go_ret
    rw [HN0.out, HZ.out]
    exact ⟨none, 0, rfl, Below.refl _ _, by simp [flatE], .inl ⟨rfl, rfl⟩⟩
  | some ad =>
    have hE := fun w => Lib.run_eql_slice_nil (P := Tryz.prog) w 88 67 (some ad) n cap 0 0 Tryz.underlying88
    have HX : Hid (∀ j y, (flatE encI L)[j]? = some y → (w.alloc (.cells #[] 67)).cell? (ad.add j) = some y) := flatE_cells encI_len (hL.on (by go_grown))
    clear hL
    go_enter Tryz.func79, Tryz.ntmps79
    go_wp2_with (at_builtin; go_must (refine own_append (w0 := w) rfl _ _ 88 67 rfl _ 3 32 infoI Tryz.underlying88 rfl (by decide) (.slice (some ⟨w.heap.size, 0, none⟩) 0 0) 0 [] rfl (Own.start w w 67 3 (Below.refl _ _)) ad n cap (flatE encI L) rfl (by rw [flatE_length encI_len, hn]) HX.out (flatE_one encI_one L) (by unfold maxLen; omega) (by omega) ?_); intro v4 w4 hown4 hnil4)
    go_ret
    rw [Nat.zero_add, List.nil_append] at hown4
    obtain ⟨_, ⟨e1, e2⟩ | ⟨g, c', cur, e1, _⟩⟩ := id hown4.2
    · subst e1
      rw [e2] at hown4 ⊢
      exact ⟨_, _, rfl, hown4⟩
    · subst e1
      exact ⟨_, _, rfl, hown4⟩
def ClS (w : World) (kb : Nat) (v : Value) (mb : Nat) (u : World) : Prop := Below w.heap.size w u ∧ u.cell? ⟨kb, 0, none⟩ = some v ∧ u.cell? ⟨kb, 2, none⟩ = some (.map (some mb))
set_option maxHeartbeats 4000000 in
theorem kclone_calls {F : Where} {w : World} {kb : Nat} {L : List It} (h : HK F w kb L) (hL : L.length < 1000000000) :
    Calls Tryz.prog 68 #[.pointer (some ⟨kb, 0, none⟩)] w fun e w' => ∃ kb', e = .returned (.pointer (some ⟨kb', 0, none⟩)) ∧ HK (Fresh w) w' kb' L ∧ Below w.heap.size w w' := by
  obtain ⟨v, mb, D, hk, t⟩ := h
  obtain ⟨a, cap, hv, hrow, _, _⟩ := row_of_owns (ok := okI) encI_len hk.row (by omega) hk.ok
  subst hv
  have c0 := hk.c0
  have c2 := hk.c2
  have hkl := hk.lt
  obtain ⟨es, ck, hmb, hmr⟩ := id hk.map
  have hml := block_lt hmb
  have HS : Hid (∀ {u : World}, Below w.heap.size w u → ClS w kb (.slice a L.length cap) mb u) := fun hb => ⟨hb, (hb.cell hkl).trans c0, (hb.cell hkl).trans c2⟩
  have HM : Hid (∀ {u : World}, Below w.heap.size w u → u.heap[mb]? = some (.map es ck)) := fun hb => (hb.block mb hml).trans hmb
  have HR : Hid (RowAt encI 3 okI w a L) := hrow
  have HMR : Hid (∀ (u : World) (b : Nat), u.heap[b]? = some (.map es ck) → u.ownsMap Tryz.prog 9 (plainElem Tryz.prog 3) b L.length D) := fun u b hb => ⟨es, ck, hb, hmr⟩
  have HT : Hid (Tells D L) := t
  have HOK : Hid (∀ x ∈ L, okI x) := hk.ok
  clear c0 c2 hmb hrow hk t
  go_enter Tryz.func68, Tryz.ntmps68
  go_wp2_with fail
  refine wp_region_noPanic ?_
  refine wp_region_held_drew (S := ClS w kb (.slice a L.length cap) mb) (by kernel_rfl) (HS.out (Below.refl _ _).drew) (fun hHeld => ?_)
  refine wpAnyH_take (i := 0) (v := ?v0) rfl (by kernel_rfl) (by kernel_rfl) (by kernel_rfl) (fun _ _ _ h => h) (Or.inl ⟨by rfl, ?hy0⟩) (by assumption) ?rest0
  case hy0 => (intro u hu; obtain ⟨_, _, _⟩ := hu; go_simp; try with_reducible rfl)
  try simp only [Act.put, List.setIfInBounds_toArray, List.set_cons_zero, List.set_cons_succ, List.getElem_toArray, List.getElem_cons_zero, List.getElem_cons_succ]
  refine wpAnyH_take (i := 1) (v := ?v1) rfl (by kernel_rfl) (by kernel_rfl) (by kernel_rfl) (fun _ _ _ h => h) (Or.inl ⟨by rfl, ?hy1⟩) (by assumption) ?rest1
  case hy1 => (intro u hu; obtain ⟨_, _, _⟩ := hu; go_simp; try with_reducible rfl)
  try simp only [Act.put, List.setIfInBounds_toArray, List.set_cons_zero, List.set_cons_succ, List.getElem_toArray, List.getElem_cons_zero, List.getElem_cons_succ]
  refine wpAnyH_take (i := 2) (v := ?v2) rfl (by kernel_rfl) (by kernel_rfl) (by kernel_rfl) (fun _ _ _ h => h) (Or.inl ⟨by rfl, ?hy2⟩) (by assumption) ?rest2
  case hy2 => (intro u hu; obtain ⟨_, _, _⟩ := hu; go_simp; try with_reducible rfl)
  try simp only [Act.put, List.setIfInBounds_toArray, List.set_cons_zero, List.set_cons_succ, List.getElem_toArray, List.getElem_cons_zero, List.getElem_cons_succ]
  refine wpAnyH_take (i := 3) (v := ?v3) rfl (by kernel_rfl) (by kernel_rfl) (by kernel_rfl) (fun _ _ _ h => h) (Or.inl ⟨by rfl, ?hy3⟩) (by assumption) ?rest3
  case hy3 => (intro u hu; obtain ⟨_, _, _⟩ := hu; go_simp; try with_reducible rfl)
  try simp only [Act.put, List.setIfInBounds_toArray, List.set_cons_zero, List.set_cons_succ, List.getElem_toArray, List.getElem_cons_zero, List.getElem_cons_succ]
  refine wpAnyH_take (i := 4) (v := ?v4) rfl (by kernel_rfl) (by kernel_rfl) (by kernel_rfl) (fun _ _ _ h => h) (Or.inl ⟨by rfl, ?hy4⟩) (by assumption) ?rest4
  case hy4 => (intro u hu; obtain ⟨_, _, _⟩ := hu; go_simp; try with_reducible rfl)
  try simp only [Act.put, List.setIfInBounds_toArray, List.set_cons_zero, List.set_cons_succ, List.getElem_toArray, List.getElem_cons_zero, List.getElem_cons_succ]
  refine wpAnyH_take (i := 7) (v := ?v7) rfl (by kernel_rfl) (by kernel_rfl) (by kernel_rfl) (fun _ _ _ h => h) (Or.inl ⟨by rfl, ?hy7⟩) (by assumption) ?rest7
  case hy7 => (intro u hu; obtain ⟨_, _, _⟩ := hu; go_simp; try with_reducible rfl)
  try simp only [Act.put, List.setIfInBounds_toArray, List.set_cons_zero, List.set_cons_succ, List.getElem_toArray, List.getElem_cons_zero, List.getElem_cons_succ]
  refine wpAnyH_take (i := 8) (v := ?v8) rfl (by kernel_rfl) (by kernel_rfl) (by kernel_rfl) (fun _ _ _ h => h) (Or.inl ⟨by rfl, ?hy8⟩) (by assumption) ?rest8
  case hy8 => (intro u hu; obtain ⟨_, _, _⟩ := hu; go_simp; try with_reducible rfl)
  try simp only [Act.put, List.setIfInBounds_toArray, List.set_cons_zero, List.set_cons_succ, List.getElem_toArray, List.getElem_cons_zero, List.getElem_cons_succ]
  refine wpAnyH_take (i := 9) (v := ?v9) rfl (by kernel_rfl) (by kernel_rfl) (by kernel_rfl) (fun _ _ _ h => h) (Or.inl ⟨by rfl, ?hy9⟩) (by assumption) ?rest9
  case hy9 => (intro u hu; obtain ⟨_, _, _⟩ := hu; go_simp; try with_reducible rfl)
  try simp only [Act.put, List.setIfInBounds_toArray, List.set_cons_zero, List.set_cons_succ, List.getElem_toArray, List.getElem_cons_zero, List.getElem_cons_succ]
  refine wpAnyH_take (i := 10) (v := ?v10) rfl (by kernel_rfl) (by kernel_rfl) (by kernel_rfl) (fun _ _ _ h => h) (Or.inl ⟨by rfl, ?hy10⟩) (by assumption) ?rest10
  case hy10 => (intro u hu; obtain ⟨_, _, _⟩ := hu; go_simp; try with_reducible rfl)
  try simp only [Act.put, List.setIfInBounds_toArray, List.set_cons_zero, List.set_cons_succ, List.getElem_toArray, List.getElem_cons_zero, List.getElem_cons_succ]
  refine wpAnyH_ready (rs := [5]) (by kernel_rfl) (by simp) ?_
  refine AllReadyH.cons rfl (fun K hK => ?_) AllReadyH.nil
  go_simp
  refine (Clone_own a L.length cap L _ rfl (HR.out.on (Below.refl _ _).drew) hL).mono ?_
  rintro e w1 ⟨a2, c2, rfl, hO1⟩
  have HO : Hid (Own w.drew w1 67 3 (.slice a2 L.length c2) L.length (flatE encI L)) := hO1
  have HB0 : Hid (Below w.heap.size w w.drew) := (Below.refl _ _).drew
  have HB1 : Hid (Below w.heap.size w w1) := on2 HB0.out hO1.1
  clear hO1
  go_wp2_with fail
  refine hK.out _ _ (HS.out HB1.out) (fun hHeld2 => ?_)
  clear hK K hHeld
  have hHeld := hHeld2
  clear hHeld2
  try simp only [Act.put, List.setIfInBounds_toArray, List.set_cons_zero, List.set_cons_succ, List.getElem_toArray, List.getElem_cons_zero, List.getElem_cons_succ]
  refine wpAnyH_ready (rs := [6]) (by kernel_rfl) (by simp) ?_
  refine AllReadyH.cons rfl (fun K hK => ?_) AllReadyH.nil
  go_simp
  refine (newList_calls a2 L.length c2 _).mono ?_
  rintro e w3 ⟨rfl, hb3⟩
  have HB4 : Hid (Below w1.heap.size w1 w3) := hb3
  have HB3 : Hid (Below w.heap.size w w3) := on2 HB1.out hb3
  clear hb3
  go_wp2_with fail
  refine hK.out _ _ (HS.out HB3.out) (fun hHeld2 => ?_)
  clear hK K hHeld
  have hHeld := hHeld2
  clear hHeld2
  try simp only [Act.put, List.setIfInBounds_toArray, List.set_cons_zero, List.set_cons_succ, List.getElem_toArray, List.getElem_cons_zero, List.getElem_cons_succ]
  refine wpAnyH_ready (rs := [11]) (by kernel_rfl) (by simp) ?_
  refine AllReadyH.cons rfl (fun K hK => ?_) AllReadyH.nil
  go_simp
  refine (mClone_calls mb es ck _ (HM.out HB3.out)).mono ?_
  rintro e w4 ⟨rfl, rfl⟩
  go_wp2_with fail
  refine hK.out _ _ (HS.out (on2 HB3.out ((Below.refl _ _).alloc (Nat.le_refl _) _))) (fun hHeld2 => ?_)
  clear hK K hHeld
  have hHeld := hHeld2
  clear hHeld2
  try simp only [Act.put, List.setIfInBounds_toArray, List.set_cons_zero, List.set_cons_succ, List.getElem_toArray, List.getElem_cons_zero, List.getElem_cons_succ]
  refine wpAnyH_take (i := 12) (v := ?v12) rfl (by kernel_rfl) (by kernel_rfl) (by kernel_rfl) (fun _ _ _ h => h) (Or.inl ⟨by rfl, ?hy12⟩) (by assumption) ?rest12
  case hy12 => (intro u hu; obtain ⟨_, _, _⟩ := hu; go_simp; try with_reducible rfl)
  try simp only [Act.put, List.setIfInBounds_toArray, List.set_cons_zero, List.set_cons_succ, List.getElem_toArray, List.getElem_cons_zero, List.getElem_cons_succ]
  refine wpAnyH_ready (rs := [13]) (by kernel_rfl) (by simp) ?_
  refine AllReadyH.cons rfl (fun K hK => ?_) AllReadyH.nil
  go_simp
  refine hK.out _ _ (HS.out (on2 (on2 HB3.out ((Below.refl _ _).alloc (Nat.le_refl _) _)) ((Below.refl _ _).alloc (Nat.le_refl _) _))) (fun hHeld2 => ?_)
  clear hK K hHeld
  have hHeld := hHeld2
  clear hHeld2
  try simp only [Act.put, List.setIfInBounds_toArray, List.set_cons_zero, List.set_cons_succ, List.getElem_toArray, List.getElem_cons_zero, List.getElem_cons_succ]
  refine wpAnyH_take (i := 14) (v := ?v14) rfl (by kernel_rfl) (by kernel_rfl) (by kernel_rfl) (fun _ _ _ h => h) (Or.inl ⟨by rfl, ?hy14⟩) (by assumption) ?rest14
  case hy14 => (intro u hu; obtain ⟨_, _, _⟩ := hu; go_simp; try with_reducible rfl)
  try simp only [Act.put, List.setIfInBounds_toArray, List.set_cons_zero, List.set_cons_succ, List.getElem_toArray, List.getElem_cons_zero, List.getElem_cons_succ]
  refine wpAnyH_done (by kernel_rfl) ?_ _
  refine NoPanic.normal ?_
  have hbx := hHeld.1
  clear hHeld HS
  go_wp2_with fail
  go_ret
  refine ⟨_, rfl, ⟨.slice a2 L.length c2, w3.heap.size, D, ⟨?_, ?_, ?_, ?_, ?_, ?_, HOK.out⟩, HT.out⟩, hbx⟩
  · show w.heap.size ≤ _
    have h1 := HB3.out.size; simp; omega
  · exact HB3.out.size
  · intro b hb
    obtain ⟨_, ⟨e1, _⟩ | ⟨g, c', cur, e1, hB, _⟩⟩ := HO.out.2
    · rw [e1] at hb; simp [Value.ownBlock] at hb
    · rw [e1] at hb
      simp [Value.ownBlock] at hb
      subst hb
      exact Nat.le_trans HB0.out.size hB
  · exact heap_new _ _ _ (by simp)
  · obtain ⟨q1, q2⟩ := (HO.out.on (on2 HB4.out (show Below w3.heap.size w3 ((w3.alloc (.map es ck)).alloc (.cells #[.slice a2 L.length c2, .func (.func 93) #[] #[], .map (some w3.heap.size)] 102)) by go_grown))).2
    refine ⟨q1, ?_⟩
    rcases q2 with q2 | ⟨g, c', cur, e1, hB, q3⟩
    · exact .inl q2
    · exact .inr ⟨g, c', cur, e1, Nat.zero_le _, q3⟩
  · refine HMR.out _ _ ?_
    exact (Below.heap_alloc _ _ _ (by simp)).trans (heap_new w3 _ _ rfl)
theorem HClone_calls {F : Where} {w : World} {hb : Nat} {L : List It} (h : HAt F w hb L) (hL : L.length < 1000000000) :
    Calls Tryz.prog 47 #[.pointer (some ⟨hb, 0, none⟩)] w fun e w' => ∃ hb', e = .returned (.pointer (some ⟨hb', 0, none⟩)) ∧ HAt (Fresh w) w' hb' L ∧ Below w.heap.size w w' := by
  obtain ⟨kb, h1, h2, h3⟩ := h
  have c : w.cell? ⟨hb, 0, none⟩ = some (.pointer (some ⟨kb, 0, none⟩)) := by simp [World.cell?, h2]
  have H3 : Hid (HK (fun b => F b ∧ b ≠ hb) w kb L) := h3
  clear h1 h2 h3
  go_enter Tryz.func47, Tryz.ntmps47
  go_wp2_with (first
    | (go_at_call 57; refine (made_calls c ⟨_, rfl⟩).mono ?_; rintro e w' ⟨rfl, rfl⟩)
    | (go_at_call 68; refine (kclone_calls H3.out hL).mono ?_; rintro e w1 ⟨kb', rfl, hk1, hb1⟩))
  go_ret
  have hs := hb1.size
  refine ⟨_, rfl, ⟨kb', ?_, heap_new _ _ _ rfl, (hk1.weak (fun b hb hf => ⟨hf, by omega⟩)).grow (by go_grown)⟩, on2 hb1 (by go_grown)⟩
  exact hs
end Go.Proofs.YtbmejaailhjgfaaGreat
