/- Steps of a region that draws its order and whose last operation (number n) waits for all others: what holds up to that one need not hold behind it. Plain facts on the model's walks. No condition. The document's call: a call is noted. Condition: the frame lies as is said of it, and the calls are not too many. The document's unreserve. Condition: the frame lies as is said of it, and the calls are not too many. -/
import Derived.Test.YtoacbobchngooaaDoorQ06
import Derived.StillTail
namespace Go.Proofs.YtoacbobchngooaaDoor
open Go.RowKit
set_option linter.unusedSimpArgs false

section
variable {P : Program} {md : Region.Mode} {ops : Array Oper} {Q : Exit → Act → World → Prop} {S : World → Prop} {oi : Oper} {d n fuel : Nat} {listed : Array Bool} {a : Act} {w : World}
/-- Whatever order is picked; S holds behind every operation before the n-th. -/
def wpAnyN (P : Program) (md : Region.Mode) (ops : Array Oper) (Q : Exit → Act → World → Prop) (S : World → Prop) (n : Nat) : Nat → Array Bool → Act → World → Prop
  | 0, listed, a, w => Region.ready md ops listed = [] ∧ Q .normal a w
  | fuel + 1, listed, a, w =>
    (Region.ready md ops listed = [] → Q .normal a w) ∧
    ∀ i ∈ Region.ready md ops listed, wpOp P ops Q i (fun a' w' => (i < n → S w') ∧ wpAnyN P md ops Q S n fuel (listed.setIfInBounds i true) a' w') a w
theorem wpAny_of_N : ∀ (fuel : Nat) (listed : Array Bool) (a : Act) (w : World), wpAnyN P md ops Q S n fuel listed a w → wpAny P md ops Q fuel listed a w
  | 0, _, _, _, h => h
  | fuel + 1, _, _, _, h => ⟨h.1, fun i hi => wpOp_mono (fun a' w' h' => wpAny_of_N fuel _ a' w' h'.2) (h.2 i hi)⟩
theorem wpAnyN_first {i : Nat} {v : Value} (hi : ops[i]? = some oi) (hsel : ∀ (j : Nat) (o : Oper) cs b, ops[j]? = some o → o.op ≠ .select cs b)
    (hQ : ∀ c a w, Q (.panic c) (a.put oi.dst v) w → Q (.panic c) a w)
    (hs : Region.sinkB md ops n = true) (hc : Region.chainB md ops n = true) (hn : n < ops.size) (hin : i < n) :
    ∀ (fuel : Nat) (listed : Array Bool) (a : Act) (w : World), HeadInv md ops n listed →
      (∀ j oj, ops[j]? = some oj → j ≠ i → listed.getD j true = false → (∀ e ∈ oj.after, Region.binds md e = true → e.on ≠ i) → oi.apart ops oj = true) →
      i ∈ Region.ready md ops listed → YieldsIf P ops S oi v a → S w →
      wpAnyN P md ops Q S n fuel (listed.setIfInBounds i true) (a.put oi.dst v) w → wpAnyN P md ops Q S n (fuel + 1) listed a w := by
  intro fuel
  induction fuel with
  | zero =>
    intro listed a w _ _ hr hy hS H
    refine ⟨fun h => (by rw [h] at hr; cases hr), fun j hj => ?_⟩
    by_cases hji : j = i
    · subst hji; exact hy.wpOp hi hS ⟨fun _ => hS, H⟩
    · have := ready_mono hj hji
      rw [H.1] at this
      cases this
  | succ fuel ih =>
    intro listed a w inv hfree hr hy hS H
    have hun := (mem_ready.1 hr).1
    refine ⟨fun h => (by rw [h] at hr; cases hr), fun j hj => ?_⟩
    have hjn : j < n := by
      rcases Nat.lt_or_ge j n with h | h
      · exact h
      · exact absurd hj (tail_waits hs hc hn inv _ i rfl hin hun j h)
    by_cases hji : j = i
    · subst hji; exact hy.wpOp hi hS ⟨fun _ => hS, H⟩
    · have h1 := H.2 j (ready_mono hj hji)
      obtain ⟨hjun, oj, hoj, hall⟩ := mem_ready.1 hj
      have hnot : ∀ e ∈ oj.after, Region.binds md e = true → e.on ≠ i := fun e he hb heq => by
        have h1 := hall e he hb
        rw [heq, getD_both hun] at h1
        cases h1
      have h2 := wpOp_putIf hoj (hfree j oj hoj hji hjun hnot) (fun cs b => hsel i oi cs b hi) (fun cs b => hsel j oj cs b hoj) hQ hy h1
      have hfree' : ∀ k ok, ops[k]? = some ok → k ≠ i → (listed.setIfInBounds j true).getD k true = false →
          (∀ e ∈ ok.after, Region.binds md e = true → e.on ≠ i) → oi.apart ops ok = true := fun k ok hk hki hun hno => by
        refine hfree k ok hk hki ?_ hno
        by_cases hjk : j = k
        · subst hjk; exact hjun
        · rw [getD_set_ne true hjk] at hun; exact hun
      refine wpOp_mono (fun a' w' h3 => ⟨h3.2.1, ih (listed.setIfInBounds j true) a' w' (inv.set hj hjn) hfree' (ready_mono hr (Ne.symm hji)) h3.1 (h3.2.1 hjn) ?_⟩) h2
      rw [Array.setIfInBounds_comm _ _ hji]
      exact h3.2.2
/-- The walk, with what is known of those that have come up. -/
def wN (P : Program) (md : Region.Mode) (ops : Array Oper) (Q : Exit → Act → World → Prop) (S : World → Prop) (n fuel : Nat) (listed : Array Bool) (a : Act) (w : World) : Prop :=
  Region.sinkB md ops n = true → Region.chainB md ops n = true → n < ops.size → HeadInv md ops n listed → wpAnyN P md ops Q S n fuel listed a w
theorem uq (i : Nat) (v : Value) (hy : YieldsIf P ops S oi v a) (h : wN P md ops (NoPanic Q) S n fuel (listed.setIfInBounds i true) (a.put (some d) v) w)
    (hi : ops[i]? = some oi := by rfl) (hd : oi.dst = some d := by rfl) (hb : (decide (i < n) && (Region.noSelect ops && (Region.free md ops listed i && (Region.ready md ops listed).contains i))) = true := by kernel_rfl) (hS : S w := by assumption) : wN P md ops (NoPanic Q) S n (fuel + 1) listed a w := by
  intro hs hc hn inv
  simp only [Bool.and_eq_true, decide_eq_true_eq] at hb
  obtain ⟨b1, b2, b3, b4⟩ := hb
  have hr : i ∈ Region.ready md ops listed := by simpa using b4
  exact wpAnyN_first hi (Region.noSelect_spec b2) (fun _ _ _ h => h) hs hc hn b1 fuel listed a w inv (Region.free_spec hi b3) hr hy hS (hd ▸ h hs hc hn (inv.set hr b1))
theorem uk (i : Nat) {v : Value} (hy : ∀ u, S u → (execOp a.eval oi).run P u = .ok (.value v) u) (h : wN P md ops (NoPanic Q) S n fuel (listed.setIfInBounds i true) (a.put (some d) v) w)
    (hi : ops[i]? = some oi := by rfl) (hd : oi.dst = some d := by rfl) (hb : (decide (i < n) && (Region.noSelect ops && (Region.free md ops listed i && (Region.ready md ops listed).contains i))) = true := by kernel_rfl) (hw : Region.wanted oi (yielded ops a.tmps) = true := by rfl) (hS : S w := by assumption) : wN P md ops (NoPanic Q) S n (fuel + 1) listed a w :=
  uq i v (.inl ⟨hw, hy⟩) h hi hd hb hS
theorem un (i : Nat) (h : wN P md ops (NoPanic Q) S n fuel (listed.setIfInBounds i true) (a.put (some d) undef) w)
    (hi : ops[i]? = some oi := by rfl) (hd : oi.dst = some d := by rfl) (hb : (decide (i < n) && (Region.noSelect ops && (Region.free md ops listed i && (Region.ready md ops listed).contains i))) = true := by kernel_rfl) (hw : Region.wanted oi (yielded ops a.tmps) = false := by rfl) (hS : S w := by assumption) : wN P md ops (NoPanic Q) S n (fuel + 1) listed a w :=
  uq i undef (.inr ⟨hw, rfl⟩) h hi hd hb hS
/-- Operation i alone may come up; it writes slot d. -/
theorem ur (i : Nat) (h : ∀ K' : Act → World → Prop, Shut (∀ v w, S w → (S w → wN P md ops Q S n fuel (listed.setIfInBounds i true) (a.put (some d) v) w) → K' (a.put oi.dst v) w) → if Region.wanted oi (yielded ops a.tmps) = true then Oper.wp P oi a w K' Q else K' (a.put oi.dst undef) w)
    (hi : ops[i]? = some oi := by rfl) (hd : oi.dst = some d := by rfl) (hr : Region.ready md ops listed = [i] := by kernel_rfl) (hin : i < n := by decide) : wN P md ops Q S n (fuel + 1) listed a w := by
  intro hs hc hn inv
  have hir : i ∈ Region.ready md ops listed := by rw [hr]; simp
  refine ⟨fun h0 => (by rw [hr] at h0; cases h0), fun j hj => ?_⟩
  obtain rfl : j = i := by rw [hr] at hj; simpa using hj
  exact wpOp_step hi (fun K' hK => h K' (fun v w h1 h2 => hK _ w ⟨fun _ => h1, hd ▸ h2 h1 hs hc hn (inv.set hir hin)⟩))
/-- Either of two may come up. -/
theorem ub (i j : Nat) {oj : Oper} {e : Nat} (h : ∀ K' : Act → World → Prop, Shut (∀ v w, S w → (S w → wN P md ops Q S n fuel (listed.setIfInBounds i true) (a.put (some d) v) w) → K' (a.put oi.dst v) w) → if Region.wanted oi (yielded ops a.tmps) = true then Oper.wp P oi a w K' Q else K' (a.put oi.dst undef) w)
    (h' : ∀ K' : Act → World → Prop, Shut (∀ v w, S w → (S w → wN P md ops Q S n fuel (listed.setIfInBounds j true) (a.put (some e) v) w) → K' (a.put oj.dst v) w) → if Region.wanted oj (yielded ops a.tmps) = true then Oper.wp P oj a w K' Q else K' (a.put oj.dst undef) w)
    (hi : ops[i]? = some oi := by rfl) (hd : oi.dst = some d := by rfl) (hj : ops[j]? = some oj := by rfl) (he : oj.dst = some e := by rfl) (hr : Region.ready md ops listed = [i, j] := by kernel_rfl) (hin : i < n ∧ j < n := by decide) : wN P md ops Q S n (fuel + 1) listed a w := by
  intro hs hc hn inv
  have hir : i ∈ Region.ready md ops listed := by rw [hr]; simp
  have hjr : j ∈ Region.ready md ops listed := by rw [hr]; simp
  refine ⟨fun h0 => (by rw [hr] at h0; cases h0), fun k hk => ?_⟩
  have hk' : k = i ∨ k = j := by rw [hr] at hk; simpa using hk
  rcases hk' with rfl | rfl
  · exact wpOp_step hi (fun K' hK => h K' (fun v w h1 h2 => hK _ w ⟨fun _ => h1, hd ▸ h2 h1 hs hc hn (inv.set hir hin.1)⟩))
  · exact wpOp_step hj (fun K' hK => h' K' (fun v w h1 h2 => hK _ w ⟨fun _ => h1, he ▸ h2 h1 hs hc hn (inv.set hjr hin.2)⟩))
/-- The last operation. -/
theorem uz (i : Nat) (h : ∀ K' : Act → World → Prop, Shut (∀ w, Q .normal a w → K' a w) → if Region.wanted oi (yielded ops a.tmps) = true then Oper.wp P oi a w K' Q else K' (a.put oi.dst undef) w)
    (hi : ops[i]? = some oi := by rfl) (hr : Region.ready md ops listed = [i] := by kernel_rfl) (hr' : Region.ready md ops (listed.setIfInBounds i true) = [] := by kernel_rfl) (hin : n ≤ i := by decide) : wN P md ops Q S n (fuel + 1) listed a w := by
  intro _ _ _ _
  refine ⟨fun h0 => (by rw [hr] at h0; cases h0), fun j hj => ?_⟩
  obtain rfl : j = i := by rw [hr] at hj; simpa using hj
  refine wpOp_step hi (fun K' hK => h K' (fun w h1 => hK _ w ⟨fun h2 => absurd h2 (by omega), ?_⟩))
  cases fuel with
  | zero => exact ⟨hr', h1⟩
  | succ f => exact ⟨fun _ => h1, by rw [hr']; simp⟩
/-- Either of two may come up (S holds to the end). -/
theorem tb (i j : Nat) {oj : Oper} {e : Nat} (h : ∀ K' : Act → World → Prop, Shut (∀ v w, S w → (S w → wpAnyH P md ops Q S fuel (listed.setIfInBounds i true) (a.put (some d) v) w) → K' (a.put oi.dst v) w) → if Region.wanted oi (yielded ops a.tmps) = true then Oper.wp P oi a w K' Q else K' (a.put oi.dst undef) w)
    (h' : ∀ K' : Act → World → Prop, Shut (∀ v w, S w → (S w → wpAnyH P md ops Q S fuel (listed.setIfInBounds j true) (a.put (some e) v) w) → K' (a.put oj.dst v) w) → if Region.wanted oj (yielded ops a.tmps) = true then Oper.wp P oj a w K' Q else K' (a.put oj.dst undef) w)
    (hi : ops[i]? = some oi := by rfl) (hd : oi.dst = some d := by rfl) (hj : ops[j]? = some oj := by rfl) (he : oj.dst = some e := by rfl) (hr : Region.ready md ops listed = [i, j] := by kernel_rfl) : wpAnyH P md ops Q S (fuel + 1) listed a w :=
  wpAnyH_ready hr (by simp) (AllReadyH.cons hi (fun K' hK => h K' (fun v w h1 h2 => hK.out _ w h1 (fun h3 => hd ▸ h2 h3))) (AllReadyH.cons hj (fun K' hK => h' K' (fun v w h1 h2 => hK.out _ w h1 (fun h3 => he ▸ h2 h3))) AllReadyH.nil))
/-- The beginning. -/
theorem u0 (n : Nat) (S : World → Prop) {id : Nat} (hS : S w.drew) (h : S w.drew → wN P .any ops (NoPanic Q) S n ops.size (Array.replicate ops.size false) a w.drew)
    (hm : P.follows .mixedOrders = true := by kernel_rfl) (hb : (Region.sinkB .any ops n && (Region.chainB .any ops n && decide (n < ops.size))) = true := by kernel_rfl) : (Code.region id ops true).wp P Q a w := by
  simp only [Bool.and_eq_true, decide_eq_true_eq] at hb
  refine wp_region_noPanic (wp_region_any hm (wpAny_of_N (S := S) (n := n) _ _ _ _ (h hS hb.1 hb.2.1 hb.2.2 ⟨by simp, fun j oj _ hl => ?_, fun t _ ht => by simp [ht]⟩)))
  rw [getD_replicate_false] at hl
  cases hl
end
end Go.Proofs.YtoacbobchngooaaDoor
namespace Go.Proofs.YtoacbobchngooaaDoor
open Go.RowKit Go.Maps
set_option linter.unusedSimpArgs false
set_option maxRecDepth 100000

theorem want_yesF {c : Prop} [Decidable c] {A B : Prop} (h : c) (k : A) : if c then A else B := by rw [if_pos h]; exact k
/-- What a call of the document's frame leaves. -/
def RfO (w u : World) (p : Nat) (la : Option Addr) (n lc : Nat) (b c : Value) (Q : Where) (f : FrD) (w' : World) : Prop :=
  ∃ c', RfE w w' p la n lc b c' Q f ∧ Turns (DF p b c) u w' ∧ (c'.ownBlock = c.ownBlock ∨ ∀ x, c'.ownBlock = some x → u.heap.size ≤ x)
set_option maxHeartbeats 4000000 in
theorem rcall_calls {w u : World} {p : Nat} {la : Option Addr} {n lc : Nat} {b c : Value} {Q : Where} {f : FrD} (h : RfE w u p la n lc b c Q f) {i : Nat} (hi : i < n) {pt : Int} (hp : 1 ≤ pt ∧ pt ≤ 5) (hC : f.2.2.length ≤ 1000000000) :
    Calls Tryd.prog 36 #[.pointer (some ⟨p, 0, none⟩), .int .i64 (i : Int), .int .i64 pt] u fun e w' => e = .returned (.tuple #[]) ∧ RfO w u p la n lc b c Q (f.1, f.2.1, f.2.2 ++ [callS (f.1.getD i default).1 pt]) w' := by
  obtain ⟨D, off, sa, sn, sc, rfl, hD, hv, hsz, _⟩ := h.plug hi
  have hQD : Q D := by
    obtain ⟨D', off', e, _, hq, _⟩ := h.sl.2.2.2.2 (by omega)
    have e1 : D = D' := by simpa using congrArg (Option.map Addr.block) e
    rw [e1]; exact hq
  obtain ⟨x, hx⟩ : ∃ x, x = (f.1.getD i default).1 := ⟨_, rfl⟩
  rw [← hx] at hsz
  rw [← hx]
  have hs0 := hv 0 _ rfl
  rw [Nat.add_zero, ← hx] at hs0
  obtain ⟨ca, cm, cc, rfl⟩ := h.rc.headG
  have HC : Hid (∀ z, Kept (fun y => y = p ∨ Q y) u z → z.cell? ⟨p, 0, none⟩ = some (.slice (some ⟨D, off, none⟩) n lc) ∧ z.cell? ⟨p, 2, none⟩ = some (.slice ca cm cc) ∧ z.cell? ⟨D, off + i * 7, none⟩ = some (.string x)) := fun z hz => ⟨(hz.cell (p := ⟨p, 0, none⟩) (.inl rfl) h.box.1).trans h.cells.1.1, (hz.cell (p := ⟨p, 2, none⟩) (.inl rfl) h.box.1).trans h.cells.1.2.2, (hz.cell (p := ⟨D, off + i * 7, none⟩) (.inr hQD) hD).trans hs0⟩
  have Hh : Hid (RfE w u p (some ⟨D, off, none⟩) n lc b (.slice ca cm cc) Q f) := h
  have HNp : Hid (∀ k, (Value.slice ca cm cc).ownBlock = some k → ¬ (k = p ∨ Q k)) := fun k e hk => hk.elim (fun e2 => h.nc (by rw [← e2]; exact e)) (fun q => (h.nq k q).2.2.2 e)
  have hiz : (i : Int) < (n : Int) := by omega
  have hlb : f.2.2.length + 1 ≤ 1000000001 := by omega
  have hx1 : ¬ 9223372036854775807 < x.size + 1 := by omega
  have hx2 : ¬ 9223372036854775807 < x.size + 1 + (digS pt).size := by rw [dig_size hp]; omega
  clear hs0 hv hD hQD hx h
  go_enter Tryd.func36, Tryd.ntmps36
  go_upto_region 0 with fail
  --M1
  have hb0 : Below u.heap.size u u.drew := (Below.refl _ _).drew
  refine u0 21 (fun z => Kept (fun y => y = p ∨ Q y) u z) (Kept.below hb0) (fun hHeld => ?_)
  have Hd0 : Hid (Below u.heap.size u u.drew) := hb0
  generalize hwd : u.drew = wd at hHeld Hd0 ⊢
  clear hwd hb0
  try go_frame
  refine' uk 0 ?_ ?_; rotate_left
  · intro z hz; obtain ⟨f0, f1, f2⟩ := HC.out z hz; clear hz; go_simp; try with_reducible rfl
  try go_frame
  refine' uk 1 ?_ ?_; rotate_left
  · intro z hz; obtain ⟨f0, f1, f2⟩ := HC.out z hz; clear hz; go_simp; try with_reducible rfl
  try go_frame
  refine' uk 2 ?_ ?_; rotate_left
  · intro z hz; obtain ⟨f0, f1, f2⟩ := HC.out z hz; clear hz; go_simp; try with_reducible rfl
  try go_frame
  refine' uk 3 ?_ ?_; rotate_left
  · intro z hz; obtain ⟨f0, f1, f2⟩ := HC.out z hz; clear hz; go_simp; try with_reducible rfl
  try go_frame
  refine' uk 4 ?_ ?_; rotate_left
  · intro z hz; obtain ⟨f0, f1, f2⟩ := HC.out z hz; clear hz; go_simp; try with_reducible rfl
  try go_frame
  refine' uk 5 ?_ ?_; rotate_left
  · intro z hz; obtain ⟨f0, f1, f2⟩ := HC.out z hz; clear hz; go_simp; try with_reducible rfl
  try go_frame
  refine' uk 6 ?_ ?_; rotate_left
  · intro z hz; obtain ⟨f0, f1, f2⟩ := HC.out z hz; clear hz; go_simp; try with_reducible rfl
  try go_frame
  refine' uk 7 ?_ ?_; rotate_left
  · intro z hz; obtain ⟨f0, f1, f2⟩ := HC.out z hz; clear hz; go_simp; try with_reducible rfl
  try go_frame
  refine' uk 8 ?_ ?_; rotate_left
  · intro z hz; obtain ⟨f0, f1, f2⟩ := HC.out z hz; clear hz; go_simp; try with_reducible rfl
  try go_frame
  refine' uk 9 ?_ ?_; rotate_left
  · intro z hz; obtain ⟨f0, f1, f2⟩ := HC.out z hz; clear hz; go_simp; try with_reducible rfl
  try go_frame
  refine' uk 10 ?_ ?_; rotate_left
  · intro z hz; obtain ⟨f0, f1, f2⟩ := HC.out z hz; clear hz; go_simp; try with_reducible rfl
  try go_frame
  refine' uk 11 ?_ ?_; rotate_left
  · intro z hz; obtain ⟨f0, f1, f2⟩ := HC.out z hz; clear hz; go_simp; try with_reducible rfl
  try go_frame
  refine' uk 12 ?_ ?_; rotate_left
  · intro z hz; obtain ⟨f0, f1, f2⟩ := HC.out z hz; clear hz; go_simp; try with_reducible rfl
  try go_frame
  refine' uk 13 ?_ ?_; rotate_left
  · intro z hz; clear hz; go_simp; try with_reducible rfl
  try go_frame
  refine' uk 14 ?_ ?_; rotate_left
  · intro z hz; clear hz; go_simp; try with_reducible rfl
  try go_frame
  --M2
  have hA := ritoa_calls pt wd (by omega) (by omega)
  have hdg : (⟨(Lib.decDigits pt.toNat).toArray⟩ : ByteArray) = digS pt := rfl
  rw [hdg] at hA
  clear hdg
  refine ur 15 (fun K hK => ?_)
  go_simp
  refine hA.mono ?_
  rintro e w5 ⟨rfl, b5⟩
  clear hA
  have Hd : Hid (Below u.heap.size u w5) := on2 Hd0.out b5
  go_wp2_with fail
  refine hK.out _ _ (Kept.below Hd.out) (fun hHeld2 => ?_)
  clear hK K hHeld b5 Hd0; have hHeld := hHeld2; clear hHeld2
  try go_frame
  refine' uk 16 ?_ ?_; rotate_left
  · intro z hz; clear hz; go_simp; try with_reducible rfl
  try go_frame
  --M3
  obtain ⟨y, hy⟩ : ∃ y, y = x ++ ({ data := #[58] } : ByteArray) ++ digS pt := ⟨_, rfl⟩
  have hyc : callS x pt = y := by rw [hy]; rfl
  have hys : y.size ≤ 281474976710656 := by rw [← hyc, call_size x hp]; omega
  rw [hyc]
  clear hyc
  rw [← hy]
  clear hy
  refine ur 17 (fun K hK => ?_)
  go_simp
  obtain ⟨W3, hW3⟩ : ∃ Z, Z = w5.alloc (.cells #[.string y] 9) := ⟨_, rfl⟩
  have b3 : Below w5.heap.size w5 W3 := by rw [hW3]; exact (Below.refl _ _).alloc (Nat.le_refl _) _
  have q3 : BoxL W3 w5.heap.size [.string y] := by rw [hW3]; exact BoxL.new w5 9 _
  rw [← hW3]
  clear hW3
  refine hK.out _ _ (hHeld.trans (Kept.below b3)) (fun hHeld2 => ?_)
  clear hK K hHeld; have hHeld := hHeld2; clear hHeld2
  try go_frame
  --M4
  refine ur 18 (fun K hK => ?_)
  refine want_yesF (by rfl) (row_appendP_wp RTxt.firm (A := fun _ => False) (w0 := w) _ _ 37 9 rfl _ 16 infoStrF Tryd.underlying37 rfl (by decide) (by decide) (.slice ca cm cc) f.2.2 rfl ((Hh.out.rc.on RTxt.firm Hd.out).on RTxt.firm b3) (some ⟨w5.heap.size, 0, none⟩) 1 1 [y] rfl (src_boxG RTxt.firm q3 ⟨rfl, hys⟩) (by rw [List.length_singleton]; omega) ?_)
  intro v4 w4 hrow4 hg4 hw4
  obtain ⟨v4a, v4n, v4c, rfl⟩ := hrow4.headG
  have k4 : Kept (fun y => (Value.slice ca cm cc).ownBlock ≠ some y) u w4 := (Kept.below Hd.out).trans ((Kept.below b3).trans (Kept.grown hg4 (fun k e hk => hk e)))
  have t4 : Turns (DF p b (.slice ca cm cc)) u w4 := (Turns.below (on2 Hd.out b3)).trans (Turns.grown hg4 (fun k e => .inr (.inr e)))
  refine hK.out _ _ (hHeld.trans (Kept.grown hg4 (fun k e hk => HNp.out k e hk))) (fun hHeld2 => ?_)
  clear hK K hHeld; have hHeld := hHeld2; clear hHeld2
  try go_frame
  refine' uk 19 ?_ ?_; rotate_left
  · intro z hz; clear hz; go_simp; try with_reducible rfl
  try go_frame
  refine' uk 20 ?_ ?_; rotate_left
  · intro z hz; clear hz; go_simp; try with_reducible rfl
  try go_frame
  refine uz 21 (fun K hK => ?_)
  have hwn : (Value.slice v4a v4n v4c).ownBlock = (Value.slice ca cm cc).ownBlock ∨ ∀ x, (Value.slice v4a v4n v4c).ownBlock = some x → u.heap.size ≤ x := hw4.imp id (fun e x hx => by rw [e] at hx; injection hx with hx; have h1 := b3.size; have h2 := Hd.out.size; omega)
  have hN := Hh.out.newC k4 hrow4 hwn
  have hbx := Hh.out.box.kept k4 Hh.out.nc
  have d0 := (hbx.2 2 _ rfl).1
  have d1 := (hbx.2 2 _ rfl).2
  go_simp
  --M5
  obtain ⟨W5, hW5⟩ : ∃ Z, Z = w4.setCell ⟨p, 2, none⟩ (.slice v4a v4n v4c) := ⟨_, rfl⟩
  rw [← hW5]
  rw [← hW5] at hN
  have H5 : Hid (RfO w u p (some ⟨D, off, none⟩) n lc b (.slice ca cm cc) Q (f.1, f.2.1, f.2.2 ++ [y]) W5) := ⟨_, hN, by rw [hW5]; exact t4.trans (Turns.set (p := ⟨p, 2, none⟩) (.inl rfl) _), hwn⟩
  refine hK.out _ (NoPanic.normal ?_)
  clear hK K hHeld hN d0 d1 hW5 k4 t4 hrow4 hg4 hw4 b3 q3 Hd hbx hwn
  --M6
  go_wp2_with fail
  go_end0
  exact ⟨rfl, H5.out⟩
end Go.Proofs.YtoacbobchngooaaDoor
namespace Go.Proofs.YtoacbobchngooaaDoor
open Go.RowKit Go.Maps
set_option linter.unusedSimpArgs false
set_option maxRecDepth 100000

theorem RfO.trans {w u : World} {p : Nat} {la : Option Addr} {n lc : Nat} {b c : Value} {Q : Where} {f : FrD} {g : FrD} {w1 w2 : World} {c1 : Value} (_h1 : RfE w w1 p la n lc b c1 Q f) (t1 : Turns (DF p b c) u w1) (o1 : c1.ownBlock = c.ownBlock ∨ ∀ x, c1.ownBlock = some x → u.heap.size ≤ x) (h2 : RfO w w1 p la n lc b c1 Q g w2) : RfO w u p la n lc b c Q g w2 := by
  obtain ⟨c2, e2, t2, o2⟩ := h2
  have hs := t1.size
  refine ⟨c2, e2, ?_, ?_⟩
  · have k1 : Turns (fun x => DF p b c x ∨ u.heap.size ≤ x) u w1 := t1.weak (fun x _ hx => .inl hx)
    have k2 : Turns (fun x => DF p b c x ∨ u.heap.size ≤ x) w1 w2 := t2.weak (fun x _ hx => by
      rcases hx with hx | hx | hx
      · exact .inl (.inl hx)
      · exact .inl (.inr (.inl hx))
      · rcases o1 with o1 | o1
        · rw [o1] at hx; exact .inl (.inr (.inr hx))
        · exact .inr (o1 x hx))
    exact (k1.trans k2).weak (fun x hx hf => hf.elim id (fun q => by omega))
  · rcases o2 with o2 | o2
    · rw [o2]; exact o1
    · exact .inr (fun x hx => Nat.le_trans hs (o2 x hx))
theorem RfO.refl {w u : World} {p : Nat} {la : Option Addr} {n lc : Nat} {b c : Value} {Q : Where} {f : FrD} (h : RfE w u p la n lc b c Q f) : RfO w u p la n lc b c Q f u := ⟨c, h, Turns.refl _ _, .inl rfl⟩
def unresTo (L : List PlugD) (m j : Nat) : List ByteArray := ((L.take m).reverse.take j).map fun x => callS x.1 5
theorem unresTo_zero (L : List PlugD) (m : Nat) : unresTo L m 0 = [] := by unfold unresTo; simp
theorem unresTo_all (L : List PlugD) {m : Nat} (hm : m ≤ L.length) : unresTo L m m = unresP L m := by
  unfold unresTo unresP; rw [List.take_of_length_le (by rw [List.length_reverse, List.length_take]; omega)]
theorem unresTo_step (L : List PlugD) {m j : Nat} (hm : m ≤ L.length) (hj : j < m) : unresTo L m (j + 1) = unresTo L m j ++ [callS (L.getD (m - 1 - j) default).1 5] := by
  have hl : (L.take m).reverse.length = m := by rw [List.length_reverse, List.length_take]; omega
  unfold unresTo
  rw [take_snocF (by rw [hl]; exact hj), List.map_append]
  congr 1
  have e : (L.take m).reverse.getD j default = L.getD (m - 1 - j) default := by
    rw [List.getD_eq_getElem?_getD, List.getElem?_reverse (by rw [List.length_take]; omega), List.length_take, Nat.min_eq_left hm, List.getElem?_take, if_pos (by omega), ← List.getD_eq_getElem?_getD]
  rw [e]; rfl
theorem unresTo_len (L : List PlugD) (m j : Nat) : (unresTo L m j).length ≤ j := by unfold unresTo; rw [List.length_map, List.length_take]; exact Nat.min_le_left _ _
set_option maxHeartbeats 4000000 in
theorem runres_calls {w u : World} {p : Nat} {la : Option Addr} {n lc : Nat} {b c : Value} {Q : Where} {f : FrD} (h : RfE w u p la n lc b c Q f) {m : Nat} (hm : m ≤ n) (hC : f.2.2.length + m ≤ 1000000000) :
    Calls Tryd.prog 35 #[.pointer (some ⟨p, 0, none⟩), .int .i64 (m : Int)] u fun e w' => e = .returned (.tuple #[]) ∧ RfO w u p la n lc b c Q (f.1, f.2.1, f.2.2 ++ unresP f.1 m) w' := by
  have hnl : Hid (f.1.length = n) := h.sl.1
  have hnb : n < 100000000000000000 := by have := h.sl.2.2.2.1; omega
  have H0 : Hid (RfO w u p la n lc b c Q (f.1, f.2.1, f.2.2 ++ unresTo f.1 m 0) u) := by rw [unresTo_zero, List.append_nil]; exact RfO.refl h
  clear h
  go_enter Tryd.func35, Tryd.ntmps35
  go_wp2_with fail
  --M1
  go_loopw [4] (fun i z => ∃ j : Nat, j ≤ m ∧ i = .int .i64 ((m : Int) - 1 - (j : Int)) ∧ Hid (RfO w u p la n lc b c Q (f.1, f.2.1, f.2.2 ++ unresTo f.1 m j) z)) (fun i _ => (intOf i + 1).toNat)
  case atStart => exact ⟨0, Nat.zero_le _, by simp, H0⟩
  case round =>
    clear H0
    obtain ⟨j, hj, rfl, hrun⟩ := hrel
    by_cases hlt : j < m
    · have hk : (m : Int) - 1 - (j : Int) = ((m - 1 - j : Nat) : Int) := by omega
      obtain ⟨c1, h1, t1, o1⟩ := hrun.out
      obtain ⟨k, hkk⟩ : ∃ k, k = m - 1 - j := ⟨_, rfl⟩
      have hkn : k < n := by omega
      have hkz : (0 : Int) ≤ (k : Int) := by omega
      have hA := rcall_calls h1 hkn (pt := 5) (by decide) (by have h3 := unresTo_len f.1 m j; show (f.2.2 ++ unresTo f.1 m j).length ≤ 1000000000; rw [List.length_append]; omega)
      have HN : Hid (f.2.2 ++ unresTo f.1 m j ++ [callS (f.1.getD k default).1 5] = f.2.2 ++ unresTo f.1 m (j + 1)) := by rw [Hid, hkk, unresTo_step f.1 (by rw [hnl.out]; exact hm) hlt, List.append_assoc]
      have H1 : Hid (RfE w wr p la n lc b c1 Q (f.1, f.2.1, f.2.2 ++ unresTo f.1 m j) ∧ Turns (DF p b c) u wr ∧ (c1.ownBlock = c.ownBlock ∨ ∀ x, c1.ownBlock = some x → u.heap.size ≤ x)) := ⟨h1, t1, o1⟩
      rw [← hkk] at hk
      rw [hk]
      have HK : Hid ((m : Int) - 1 - (j : Int) = (k : Int)) := hk
      clear h1 t1 o1 hrun hk hkk
      --M2
      go_wp2_with fail
      refine hA.mono ?_
      rintro e w5 ⟨rfl, h5⟩
      have HE : Hid (RfO w u p la n lc b c Q (f.1, f.2.1, f.2.2 ++ unresTo f.1 m (j + 1)) w5) := by rw [← HN.out]; exact RfO.trans H1.out.1 H1.out.2.1 H1.out.2.2 h5
      clear hA h5 H1 HN
      go_wp2_with fail
      --M3
      go_roundw
      case rel => exact ⟨j + 1, by omega, by have := HK.out; congr 1; omega, HE⟩
      case measure => have := HK.out; simp [intOf]; try omega
    · have hj2 : j = m := by omega
      have HE : Hid (RfO w u p la n lc b c Q (f.1, f.2.1, f.2.2 ++ unresP f.1 m) wr) := by have h := hrun.out; rw [hj2, unresTo_all f.1 (by rw [hnl.out]; exact hm)] at h; exact h
      have hk : (m : Int) - 1 - (j : Int) = -1 := by omega
      rw [hk]
      clear hrun hj2 hk
      go_wp2_with fail
      go_end0
      exact ⟨rfl, HE.out⟩
end Go.Proofs.YtoacbobchngooaaDoor
