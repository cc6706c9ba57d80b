/- slices.All at picks: an iterator that gives each pick, with its place, in order. Condition: the list lies as is said of it. A region in a round of a range over a function, walked as anywhere: what holds of its operations without a fence holds in the round, where no operation is a defer statement and the fence asks nothing. Plain facts on the model's walks. No condition. Picks done one behind the other, in plain words: what applyP and undoP come to, from the front. Plain mathematics. No condition. What stays true while picks are done: the state's rows, the tables and the boxes, as they lie; and one step. Plain facts on worlds. No condition. A drawn region where three operations may come up, each writing a slot. Plain facts on the model's walks. No condition. -/
import Derived.RangeFuncNested
import Derived.RangeFuncBound
import Derived.RangeFuncCalls
import Derived.RangeFuncLeaves
import Derived.RangeFuncWrites
import Derived.Shelf.Abstract
import Derived.Shelf.RegionOpen
import Derived.WalkKit
import Derived.OwnWalkIn
import Derived.TacticsInMore
import Derived.LoopNIn
import Derived.LoopIn
import Derived.Test.YtmnldngojgldiaaGreatQ16
import Derived.Test.YtmnldngojgldiaaGreatQ06
import Derived.Test.YtmnldngojgldiaaGreatQ14
import Derived.OrdersIn
import Derived.TacticsIn
import Derived.Test.YtmnldngojgldiaaGreatQ08
import Derived.Test.YtmnldngojgldiaaGreatQ15
import Derived.Test.YtmnldngojgldiaaGreatQ09
namespace Go.Proofs.YtmnldngojgldiaaGreat
open Go.RowKit Go.Shelf Go.Maps
set_option linter.unusedSimpArgs false
set_option maxRecDepth 100000
attribute [local go_sem] Oper.semAt_some

/-- A pick whose names are no longer than a text may be. -/
abbrev PickS := {p : PickD // p.1.size ≤ 140737488355328 ∧ p.2.size ≤ 140737488355328}
def pk0 : PickS := ⟨(⟨#[]⟩, ⟨#[]⟩), by simp [ByteArray.size]⟩
theorem getD_val (L : List PickS) {k : Nat} (h : k < L.length) : (L.map Subtype.val).getD k default = (L.getD k pk0).1 := by
  rw [List.getD_eq_getElem?_getD, List.getD_eq_getElem?_getD, List.getElem?_map, List.getElem?_eq_getElem h]; rfl
/-- What has come when k rounds are over. -/
def upto10 (L : List PickS) (k : Nat) : List (Nat × PickS) := (List.range k).map (fun j => (j, L.getD j pk0))
theorem upto10_succ (L : List PickS) (k : Nat) : upto10 L (k + 1) = upto10 L k ++ [(k, L.getD k pk0)] := by simp [upto10, List.range_succ]
theorem upto10_len (L : List PickS) (k : Nat) : (upto10 L k).length = k := by simp [upto10]
abbrev encP (x : Nat × PickS) : Array Value := #[.int .i64 (x.1 : Int), .agg #[.string x.2.1.1, .string x.2.1.2]]
theorem RLabel.two10 {A : Where} {w : World} {cs : List Value} {x : PickD} (h : RLabel A w cs x) : cs = [.string x.1, .string x.2] := by
  obtain ⟨a, b, rfl, h1, h2⟩ := h
  rw [h1.1, h2.1]; rfl
set_option maxHeartbeats 4000000 in
theorem all1_in (F : Fence) (n : Nat) (h8 : F.fn 38) (hro : F.round = none) (hn : 1 ≤ n) (l Bs n₀ : Nat) (a : Option Addr) (len cap : Nat) (L : List PickS) (J Jx : List (Nat × PickS) → World → Prop)
    (hY : ∀ pre x W, J pre W → pre.length < len → YieldAt F (n - 1) Tryz.prog l (encP x) W fun e W' =>
      (e = .returned (.bool true) ∧ J (pre ++ [x]) W' ∧ Below n₀ W W') ∨ (e = .returned (.bool false) ∧ Jx (pre ++ [x]) W'))
    (W : World) (hn₀ : n₀ ≤ W.heap.size) (hJ : AbidesFrom W.heap.size J) (hBs : W.cell? ⟨Bs, 0, none⟩ = some (.slice a len cap)) (hL : SlAt RLabel 2 32 (fun b => b < n₀) W a len cap (L.map Subtype.val)) (h0 : J [] W) :
    CallsIn F n Tryz.prog 38 #[.func (.yield l) #[] #[], .pointer (some ⟨Bs, 0, none⟩)] W fun e W' => (∃ v, e = .returned v) ∧
      ((∃ ys, ys = upto10 L len ∧ J ys W') ∨ (∃ pre, (∃ k, k ≤ len ∧ pre = upto10 L k) ∧ Jx pre W')) := by
  have hlen := hL.len (by decide)
  refine callsIn_of_wp Tryz.func38 rfl h8 ?_ hro
  simp only [Tryz.ntmps38, List.size_toArray, List.length_cons, List.length_nil, Nat.reduceAdd, Nat.reduceSub, Array.replicate_succ, Array.replicate_zero, List.push_toArray, List.append_toArray, List.nil_append, List.cons_append]
  gi_wp2
  gi_loopw [7] (fun i wr => ∃ k : Nat, k ≤ len ∧ i = .int .i64 k ∧ J (upto10 L k) wr ∧ Below n₀ W wr ∧ W.heap.size ≤ wr.heap.size)
    (fun i _ => len - (intOf i).toNat)
  case atStart => exact ⟨0, Nat.zero_le _, rfl, h0, Below.refl _ _, Nat.le_refl _⟩
  case round =>
    obtain ⟨k, hk, rfl, hJs, hnx, hsw⟩ := hrel
    by_cases hlt : k < len
    · obtain ⟨B, off, rfl, hB, hBn, cs, hr, hv⟩ := hL.get hlt
      rw [getD_val L (by have := hL.1; rw [List.length_map] at this; omega)] at hr
      have e2 := hr.two10
      subst e2
      have d0 : wr.cell? ⟨B, off + k * 2, none⟩ = some (.string (L.getD k pk0).1.1) := (hnx.cell (p := ⟨B, off + k * 2, none⟩) hBn).trans (hv 0 _ rfl)
      have d1 : wr.cell? ⟨B, off + k * 2 + 1, none⟩ = some (.string (L.getD k pk0).1.2) := (hnx.cell (p := ⟨B, off + k * 2 + 1, none⟩) hBn).trans (hv 1 _ rfl)
      have HU : Hid (upto10 L (k + 1) = upto10 L k ++ [(k, L.getD k pk0)]) := upto10_succ L k
      generalize L.getD k pk0 = x at d0 d1 HU
      have hBw : B < wr.heap.size := by omega
      have bV : Below wr.heap.size wr (wr.alloc (.cells #[.string x.1.1, .string x.1.2] 39)) := (Below.refl _ _).alloc (Nat.le_refl _) _
      have hJV := hJ _ wr (wr.alloc (.cells #[.string x.1.1, .string x.1.2] 39)) none hJs (World.grownBy_alloc wr _ none) (fun r e => by cases e)
      obtain ⟨fn, tmps, assign, body, hy, hR⟩ := hY _ (k, x) _ hJV (by rw [upto10_len]; exact hlt)
      have hwn : n₀ ≤ wr.heap.size := Nat.le_trans hn₀ hsw
      gi_wp2
      refine hR.mono ?_
      rintro e W3 (⟨rfl, hJ3, hk3⟩ | ⟨rfl, hJx3⟩)
      · gi_wp2
        go_roundw
        case rel => exact ⟨k + 1, by omega, by simp, by rw [HU.out]; exact hJ3, hnx.trans ((bV.mono hwn).trans hk3), Nat.le_trans hsw (Nat.le_trans bV.size hk3.size)⟩
        case measure => simp [intOf]; omega
      · gi_wp2
        refine bodyPost_ret (results_none rfl _ _ _) rfl ?_
        exact ⟨⟨_, rfl⟩, .inr ⟨_, ⟨k + 1, by omega, HU.out.symm⟩, hJx3⟩⟩
    · obtain rfl : k = len := by omega
      gi_wp2
      go_end0
      exact ⟨⟨_, rfl⟩, .inl ⟨_, rfl, hJs⟩⟩
set_option maxHeartbeats 1000000 in
/-- slices.All(picks): the list is boxed; the function value captures the box. -/
theorem all_in (F : Fence) (n : Nat) (h5 : F.fn 16) (hro : F.round = none) (a : Option Addr) (len cap : Nat) (w : World) :
    CallsIn F n Tryz.prog 16 #[.slice a len cap] w fun e w' => e = .returned (.func (.func 38) #[] #[.pointer (some ⟨w.heap.size, 0, none⟩)]) ∧ w' = w.alloc (.cells #[.slice a len cap] 30) := by
  refine callsIn_of_wp Tryz.func16 rfl h5 ?_ hro
  simp only [Tryz.ntmps16, List.size_toArray, List.length_cons, List.length_nil, Nat.reduceAdd, Nat.reduceSub, Array.replicate_succ, Array.replicate_zero, List.push_toArray, List.append_toArray, List.nil_append, List.cons_append]
  gi_wp2
  go_ret
  exact ⟨rfl, rfl⟩
/-- It gives each pick, in order; or a beginning of them. -/
theorem all_stops (F : Fence) (n : Nat) (h8 : F.fn 38) (hro : F.round = none) (hn : 1 ≤ n) (Bs n₀ : Nat) (a : Option Addr) (len cap : Nat) (L : List PickS) (w : World) (hBs : Bs < w.heap.size) (hn₀ : n₀ ≤ w.heap.size)
    (hc : w.cell? ⟨Bs, 0, none⟩ = some (.slice a len cap)) (hL : SlAt RLabel 2 32 (fun b => b < n₀) w a len cap (L.map Subtype.val)) :
    SeqStopsK F n Tryz.prog 38 #[.pointer (some ⟨Bs, 0, none⟩)] encP (Below n₀) (fun ys => ys = upto10 L len) (fun pre => ∃ k, k ≤ len ∧ pre = upto10 L k) len w := fun l J Jx W hW hJ _ hY h0 => by
  have hc' := (hW.cell (p := ⟨Bs, 0, none⟩) hBs).trans hc
  exact all1_in F n h8 hro hn l Bs n₀ a len cap L J Jx hY W (Nat.le_trans hn₀ hW.size) hJ hc' (hL.on RLabel.firm hW) h0
/-- Picks that lie somewhere are no longer than texts may be. -/
theorem picks_S {A : Where} {w : World} {a : Option Addr} {n c : Nat} {L : List PickD} (h : SlAt RLabel 2 32 A w a n c L) : ∃ L' : List PickS, L'.map Subtype.val = L := by
  have hm : ∀ p ∈ L, p.1.size ≤ 140737488355328 ∧ p.2.size ≤ 140737488355328 := by
    intro p hp
    obtain ⟨i, hi, rfl⟩ := List.getElem_of_mem hp
    obtain ⟨B, off, _, _, _, cs, hr, _⟩ := h.get (i := i) (by have := h.1; omega)
    obtain ⟨a, b, rfl, h1, h2⟩ := hr
    have e : L.getD i default = L[i] := by rw [List.getD_eq_getElem?_getD, List.getElem?_eq_getElem hi]; rfl
    rw [e] at h1 h2
    exact ⟨h1.2, h2.2⟩
  exact ⟨L.attach.map (fun p => ⟨p.1, hm p.1 p.2⟩), by simp only [List.map_map, Function.comp_def]; exact List.attach_map_subtype_val L⟩
theorem upto10_take (L : List PickS) (k : Nat) (hk : k ≤ L.length) : (upto10 L k).map (fun x => x.2.1) = (L.map Subtype.val).take k := by
  apply List.ext_getElem?
  intro j
  unfold upto10
  rw [List.map_map, List.getElem?_map, List.getElem?_take]
  by_cases hj : j < k
  · have : j < L.length := by omega
    simp [hj, this]
  · simp [hj]
end Go.Proofs.YtmnldngojgldiaaGreat
namespace Go.Proofs.YtmnldngojgldiaaGreat
open Go.RowKit
set_option linter.unusedSimpArgs false

section
variable {P : Program} {md : Region.Mode} {ops : Array Oper} {Q : Exit → Act → World → Prop} {S : World → Prop} {l n : Nat}

theorem calls_round {f : FuncId} {args : Array Value} {w : World} {R : Ending → World → Prop} (h : Calls P f args w R) : CallsIn (Fence.wide.inRound l) n P f args w R :=
  CallsIn.inRound l (callsIn_wide.2 h)

theorem rows_round {row : String} {args : Array Value} {w : World} {R : Value → World → Prop} (h : Rows P row args w R) : RowsIn (Fence.wide.inRound l) n P row args w R :=
  fun c cs _ => let ⟨v, w', r, s⟩ := h c cs; ⟨v, w', r, stepsIn_wide.2 s⟩

theorem oper_round {o : Oper} {a : Act} {w : World} {K : Act → World → Prop} (hd : ∀ c, o.op ≠ .defer c) (h : o.wp P a w K Q) : o.wpIn (Fence.wide.inRound l) n P a w K Q := by
  refine ⟨fun _ _ => trivial, ?_⟩
  rw [Oper.semAt_eq _ _ _ hd]
  unfold Oper.wp at h
  generalize (execOp a.eval o).run P w = r at h
  have hn : (Fence.wide.inRound l).depth.isSome = true → 1 ≤ n := fun h => by simp [Fence.wide] at h
  cases r with
  | ok x w' =>
    cases x <;> simp only [Oper.upon, Oper.uponIn] at h ⊢ <;>
      first
        | exact h
        | exact ⟨hn, calls_round h⟩
        | exact ⟨hn, rows_round h⟩
        | exact h.elim
  | halt x w' => cases x <;> simp only [Oper.upon, Oper.uponIn] at h ⊢ <;> exact h

theorem op_round {i : Nat} {a : Act} {w : World} {K : Act → World → Prop} (hL : ¬ LetsOut Q) (hd : ∀ o ∈ ops, ∀ c, o.op ≠ .defer c) (h : wpOp P ops Q i K a w) : wpOpIn (Fence.wide.inRound l) n P ops Q i K a w := by
  unfold wpOp at h
  unfold wpOpIn
  split
  · rename_i ho; simpa [ho] using h
  · rename_i o ho
    simp only [ho] at h
    split
    · rename_i hw; simp only [hw, if_true] at h
      exact oper_round (hd o (Array.mem_of_getElem? ho)) (h.resolve_right fun x => hL x.2)
    · rename_i hw; simp only [hw] at h
      exact ⟨fun _ _ => trivial, h⟩

theorem any_round (hL : ¬ LetsOut Q) (hd : ∀ o ∈ ops, ∀ c, o.op ≠ .defer c) : ∀ (fuel : Nat) (listed : Array Bool) (a : Act) (w : World), wpAny P md ops Q fuel listed a w → wpAnyIn (Fence.wide.inRound l) n P md ops Q fuel listed a w
  | 0, _, _, _, h => h
  | fuel + 1, _, _, _, h => ⟨h.1, fun i hi => wpOpIn_mono (fun a' w' h' => any_round hL hd fuel _ a' w' h') (op_round hL hd (h.2 i hi))⟩

/-- No operation is a defer statement, said so that it is reckoned. -/
def noDefer (ops : Array Oper) : Bool := ops.all fun o => match o.op with | .defer _ => false | _ => true

theorem noDefer_of (h : noDefer ops = true) : ∀ o ∈ ops, ∀ c, o.op ≠ .defer c := by
  intro o ho c hc
  have := Array.all_eq_true_iff_forall_mem.1 h o ho
  rw [hc] at this
  exact absurd this (by simp)

theorem no_out_noPanic (hL : ¬ LetsOut Q) : ¬ LetsOut (NoPanic Q) := by
  rintro ⟨a, w, h⟩
  exact hL ⟨a, w, h⟩

/-- The beginning of a region in a round. -/
theorem t0R {id : Nat} {a : Act} {w : World} (S : World → Prop) (hL : ¬ LetsOut Q) (hS : S w.drew) (h : S w.drew → wpAnyH P .any ops (NoPanic Q) S ops.size (Array.replicate ops.size false) a w.drew) (hm : P.follows .mixedOrders = true := by kernel_rfl) (hd : noDefer ops = true := by kernel_rfl) : (Code.region id ops true).wpIn (Fence.wide.inRound l) n P Q a w := by
  refine wpIn_mono (Q := NoPanic Q) (wpIn_region_any hm (any_round (no_out_noPanic hL) (noDefer_of hd) _ _ _ _ (wpAny_of_held _ _ _ _ (h hS)))) NoPanic.imp
end
end Go.Proofs.YtmnldngojgldiaaGreat
namespace Go.Proofs.YtmnldngojgldiaaGreat
set_option linter.unusedSimpArgs false

def stepD (ok : ClaimD → VolumeD → Bool) (tc tv : ClaimD → VolumeD → ByteArray) (st : VC) (pk : PickD) : Except Int VC :=
  match fI (cNs st.2) pk.1, fI (vNs st.1) pk.2 with
  | some c, some v => if ok (st.2.getD c default) (st.1.getD v default) = true then .ok (st.1.set v (setCl (st.1.getD v default) (tv (st.2.getD c default) (st.1.getD v default))), st.2.set c (setVo (st.2.getD c default) (tc (st.2.getD c default) (st.1.getD v default)))) else .error 2
  | _, _ => .error 5
def runD (f : VC → PickD → Except Int VC) : VC → List PickD → Except Int VC
  | st, [] => .ok st
  | st, pk :: r => match f st pk with
    | .ok st' => runD f st' r
    | .error e => .error e
theorem runD_snoc (f : VC → PickD → Except Int VC) (p : PickD) : ∀ (L : List PickD) (st : VC), runD f st (L ++ [p]) = match runD f st L with | .ok st' => f st' p | .error e => .error e
  | [], st => by simp only [List.nil_append, runD]; cases f st p <;> rfl
  | q :: r, st => by
    simp only [List.cons_append, runD]
    cases f st q with
    | ok st' => exact runD_snoc f p r st'
    | error e => rfl
theorem runD_front (f : VC → PickD → Except Int VC) (M : List PickD) {e : Int} : ∀ (L : List PickD) (st : VC), runD f st L = .error e → runD f st (L ++ M) = .error e
  | [], st, h => by cases h
  | q :: r, st, h => by
    simp only [List.cons_append, runD] at h ⊢
    cases hq : f st q with
    | ok st' => rw [hq] at h; exact runD_front f M r st' h
    | error e' => rw [hq] at h; exact h
theorem runD_take {f : VC → PickD → Except Int VC} {L : List PickD} {st : VC} {e : Int} {k : Nat} (h : runD f st (L.take k) = .error e) : runD f st L = .error e := by
  have := runD_front f (L.drop k) _ _ h
  rwa [List.take_append_drop] at this
theorem runD_apply : ∀ (L : List PickD) (st : VC), runD stepA st L = applyP st L
  | [], _ => rfl
  | q :: r, st => by
    simp only [runD, applyP]
    cases stepA st q with
    | ok st' => exact runD_apply r st'
    | error e => rfl
theorem runD_undo : ∀ (L : List PickD) (st : VC), runD stepU st L.reverse = undoP st L
  | [], _ => rfl
  | q :: r, st => by
    rw [List.reverse_cons, runD_snoc, runD_undo r st]
    simp only [undoP]
    cases undoP st r <;> rfl
theorem stepD_A : stepD okA (fun _ v => v.1) (fun c _ => c.1) = stepA := rfl
theorem stepD_U : stepD okU (fun _ _ => B0) (fun _ _ => B0) = stepU := rfl
theorem stepD_no {ok : ClaimD → VolumeD → Bool} {tc tv : ClaimD → VolumeD → ByteArray} {st : VC} {pk : PickD} (h : fI (cNs st.2) pk.1 = none ∨ fI (vNs st.1) pk.2 = none) : stepD ok tc tv st pk = .error 5 := by
  unfold stepD
  rcases h with h | h
  · rw [h]
  · rw [h]; cases fI (cNs st.2) pk.1 <;> rfl
theorem stepD_not {ok : ClaimD → VolumeD → Bool} {tc tv : ClaimD → VolumeD → ByteArray} {st : VC} {pk : PickD} {c v : Nat} (h1 : fI (cNs st.2) pk.1 = some c) (h2 : fI (vNs st.1) pk.2 = some v) (h3 : ok (st.2.getD c default) (st.1.getD v default) = false) : stepD ok tc tv st pk = .error 2 := by
  unfold stepD
  rw [h1, h2]
  simp only [h3]
  rfl
theorem stepD_yes {ok : ClaimD → VolumeD → Bool} {tc tv : ClaimD → VolumeD → ByteArray} {st : VC} {pk : PickD} {c v : Nat} (h1 : fI (cNs st.2) pk.1 = some c) (h2 : fI (vNs st.1) pk.2 = some v) (h3 : ok (st.2.getD c default) (st.1.getD v default) = true) : stepD ok tc tv st pk = .ok (st.1.set v (setCl (st.1.getD v default) (tv (st.2.getD c default) (st.1.getD v default))), st.2.set c (setVo (st.2.getD c default) (tc (st.2.getD c default) (st.1.getD v default)))) := by
  unfold stepD
  rw [h1, h2]
  simp only [h3]
  rfl
theorem stepD_len {ok : ClaimD → VolumeD → Bool} {tc tv : ClaimD → VolumeD → ByteArray} {st st' : VC} {pk : PickD} (h : stepD ok tc tv st pk = .ok st') : st'.1.length = st.1.length ∧ st'.2.length = st.2.length := by
  unfold stepD at h
  split at h
  · split at h
    · injection h with h
      subst h
      simp
    · cases h
  · cases h
theorem runD_len {ok : ClaimD → VolumeD → Bool} {tc tv : ClaimD → VolumeD → ByteArray} : ∀ {L : List PickD} {st st' : VC}, runD (stepD ok tc tv) st L = .ok st' → st'.1.length = st.1.length ∧ st'.2.length = st.2.length
  | [], st, st', h => by injection h with h; subst h; exact ⟨rfl, rfl⟩
  | p :: r, st, st', h => by
    simp only [runD] at h
    cases hq : stepD ok tc tv st p with
    | ok s => rw [hq] at h; have h1 := runD_len h; have h2 := stepD_len hq; exact ⟨h1.1.trans h2.1, h1.2.trans h2.2⟩
    | error e => rw [hq] at h; cases h
end Go.Proofs.YtmnldngojgldiaaGreat
namespace Go.Proofs.YtmnldngojgldiaaGreat
open Go.RowKit Go.Maps
set_option linter.unusedSimpArgs false

abbrev Z6 : List Value := [.slice none 0 0, .slice none 0 0, .slice none 0 0, .slice none 0 0, .slice none 0 0, .slice none 0 0]
/-- Where all lies. -/
def DnF (w : World) (n2 nV : Nat) (g0 g1 g2 g3 g4 g5 : Value) (X Y mc mv : Nat) : Prop :=
  (∀ g ∈ [g0, g1, g2, g3, g4, g5], ∀ b, g.ownBlock = some b → w.heap.size + 4 ≤ b ∧ b < n2) ∧ (∀ b, g2.ownBlock = some b → g0.ownBlock ≠ some b ∧ g1.ownBlock ≠ some b ∧ g3.ownBlock ≠ some b ∧ g4.ownBlock ≠ some b ∧ g5.ownBlock ≠ some b) ∧ (∀ b, g3.ownBlock = some b → g0.ownBlock ≠ some b ∧ g1.ownBlock ≠ some b ∧ g2.ownBlock ≠ some b ∧ g4.ownBlock ≠ some b ∧ g5.ownBlock ≠ some b) ∧ w.heap.size + 4 ≤ n2 ∧ (n2 ≤ X ∧ X < nV) ∧ (n2 ≤ Y ∧ Y < nV) ∧ (n2 ≤ mc ∧ mc < nV) ∧ (n2 ≤ mv ∧ mv < nV)
/-- The rows that stay, the tables and the boxes. -/
def DnI (m : Nat) (w : World) (g0 g1 g2 g3 g4 g5 : Value) (x : StateD) (X Y mc mv : Nat) (fd : Nat) (st : VC) (W : World) : Prop :=
  DnR m w W g2 g3 st ∧ (Row RPod 16 (fun b => b < m) w W 61 g0 x.1 ∧ Row RNode 9 (fun b => b < m) w W 64 g1 x.2.1 ∧ Row RClass 2 (fun b => b < m) w W 46 g4 (sKs x) ∧ Row RBudget 3 (fun b => b < m) w W 79 g5 x.2.2.2.2.2) ∧
  (NmAt W mc (cNs st.2) ∧ NmAt W mv (vNs st.1)) ∧ (BoxL W X [g3, .map (some mc)] ∧ BoxL W Y [g2, .map (some mv)]) ∧ (BoxL W w.heap.size [g0, g1, g2, g3, g4, g5] ∧ BoxL W (w.heap.size + 1) [.func (.func fd) #[] #[]]) ∧ Below w.heap.size w W
/-- A state in rows of its own, with those volumes and claims. -/
def DnS (m : Nat) (w u : World) (g0 g1 g2 g3 g4 g5 : Value) (x : StateD) (st : VC) : Prop :=
  DnR m w u g2 g3 st ∧ (Row RPod 16 (fun b => b < m) w u 61 g0 x.1 ∧ Row RNode 9 (fun b => b < m) w u 64 g1 x.2.1 ∧ Row RClass 2 (fun b => b < m) w u 46 g4 (sKs x) ∧ Row RBudget 3 (fun b => b < m) w u 79 g5 x.2.2.2.2.2) ∧ Below w.heap.size w u
/-- The variables of the answer. -/
def DnB (w W : World) : Prop := BoxL W (w.heap.size + 1 + 1) Z6 ∧ BoxL W (w.heap.size + 1 + 1 + 1) [.int .i64 0]

theorem BoxL.cells {u : World} {D : Nat} {c : Value} {cs : List Value} (h : BoxL u D (c :: cs)) {o : Obj} (ho : u.heap[D]? = some o) : o.isCells = true := by
  have h1 := (h.2 0 c rfl).1
  cases o <;> first | rfl | (exfalso; simp [World.cell?, ho] at h1)

section
variable {m : Nat} {w W W' : World} {n2 nV : Nat} {g0 g1 g2 g3 g4 g5 : Value} {x : StateD} {X Y mc mv fd : Nat} {st : VC}

theorem DnF.lo (F : DnF w n2 nV g0 g1 g2 g3 g4 g5 X Y mc mv) (hm : m ≤ w.heap.size) {g : Value} (hg : g ∈ [g0, g1, g2, g3, g4, g5]) {b : Nat} (hb : b < m ∨ g.ownBlock = some b) : b < nV := by
  have h4 := F.2.2.2.1; have hX := F.2.2.2.2.1
  rcases hb with hb | hb
  · omega
  · have := F.1 g hg b hb; omega
theorem DnI.kept (F : DnF w n2 nV g0 g1 g2 g3 g4 g5 X Y mc mv) (h : DnI m w g0 g1 g2 g3 g4 g5 x X Y mc mv fd st W) (hb : Below w.heap.size w W') (hk : Kept (fun b => b < nV) W W') : DnI m w g0 g1 g2 g3 g4 g5 x X Y mc mv fd st W' := by
  obtain ⟨⟨hV, hC, hne, hm⟩, ⟨r0, r1, r4, r5⟩, ⟨m1, m2⟩, ⟨z1, z2⟩, ⟨z3, z4⟩, hB⟩ := h
  have h4 := F.2.2.2.1
  have hX := F.2.2.2.2.1
  exact ⟨⟨hV.keptX RVolume.firm hb (hk.weak (fun b h => F.lo hm (by simp) h)), hC.keptX RClaim.firm hb (hk.weak (fun b h => F.lo hm (by simp) h)), hne, hm⟩,
    ⟨r0.keptX RPod.firm hb (hk.weak (fun b h => F.lo hm (by simp) h)), r1.keptX RNode.firm hb (hk.weak (fun b h => F.lo hm (by simp) h)), r4.keptX RClass.firm hb (hk.weak (fun b h => F.lo hm (by simp) h)), r5.keptX RBudget.firm hb (hk.weak (fun b h => F.lo hm (by simp) h))⟩,
    ⟨m1.kept hk F.2.2.2.2.2.2.1.2, m2.kept hk F.2.2.2.2.2.2.2.2⟩, ⟨z1.kept hk hX.2, z2.kept hk F.2.2.2.2.2.1.2⟩, ⟨z3.kept hk (by omega), z4.kept hk (by omega)⟩, hb⟩
theorem DnI.on (F : DnF w n2 nV g0 g1 g2 g3 g4 g5 X Y mc mv) (h : DnI m w g0 g1 g2 g3 g4 g5 x X Y mc mv fd st W) (hb : Below W.heap.size W W') : DnI m w g0 g1 g2 g3 g4 g5 x X Y mc mv fd st W' :=
  h.kept F (on2 h.2.2.2.2.2 hb) (Kept.below hb)
theorem DnB.kept (F : DnF w n2 nV g0 g1 g2 g3 g4 g5 X Y mc mv) (h : DnB w W) (hk : Kept (fun b => b < nV) W W') : DnB w W' := by
  have h4 := F.2.2.2.1
  have hX := F.2.2.2.2.1
  exact ⟨h.1.kept hk (by omega), h.2.kept hk (by omega)⟩
theorem DnB.on (h : DnB w W) (hb : Below W.heap.size W W') : DnB w W' := ⟨h.1.on hb, h.2.on hb⟩
/-- A step: what it wants, and what it leaves. -/
theorem DnI.step (F : DnF w n2 nV g0 g1 g2 g3 g4 g5 X Y mc mv) (h : DnI m w g0 g1 g2 g3 g4 g5 x X Y mc mv fd st W) {c v : Nat} (hc : c < st.2.length) (hv : v < st.1.length) :
    ∃ Bc capc Bv capv cs vs A A', g3 = .slice (some ⟨Bc, 0, none⟩) st.2.length capc ∧ g2 = .slice (some ⟨Bv, 0, none⟩) st.1.length capv ∧
      RClaim A W cs (st.2.getD c default) ∧ RVolume A' W vs (st.1.getD v default) ∧ W.rangeAt Bc (c * 4) cs ∧ W.rangeAt Bv (v * 5) vs ∧ Bc < W.heap.size ∧ Bv < W.heap.size ∧ Bc ≠ Bv ∧
      W.frozen? ⟨Bc, c * 4 + 3, none⟩ = false ∧ W.frozen? ⟨Bv, v * 5 + 4, none⟩ = false ∧ w.heap.size + 4 ≤ Bc ∧ Bc < nV ∧ w.heap.size + 4 ≤ Bv ∧ Bv < nV ∧
      ∀ z s s', Below W.heap.size W z → s.size ≤ 140737488355328 → s'.size ≤ 140737488355328 →
        DnI m w g0 g1 g2 g3 g4 g5 x X Y mc mv fd (st.1.set v (setCl (st.1.getD v default) s'), st.2.set c (setVo (st.2.getD c default) s)) ((z.setCell ⟨Bc, c * 4 + 3, none⟩ (.string s)).setCell ⟨Bv, v * 5 + 4, none⟩ (.string s')) ∧
        Kept (fun b => b ≠ Bc ∧ b ≠ Bv) z ((z.setCell ⟨Bc, c * 4 + 3, none⟩ (.string s)).setCell ⟨Bv, v * 5 + 4, none⟩ (.string s')) := by
  have hm := h.1.2.2.2
  have hz2 : ∀ z, Below W.heap.size W z → DnI m w g0 g1 g2 g3 g4 g5 x X Y mc mv fd st z := fun z hz => h.on F hz
  obtain ⟨hD, _, _, _, _, hB⟩ := h
  obtain ⟨Bc, capc, Bv, capv, cs, vs, A, A', rfl, rfl, q1, q2, q3, q4, q5, q6, q7, q8, q9, q10, q11, hS⟩ := hD.step hc hv
  have h4 := F.2.2.2.1
  have hX := F.2.2.2.2.1
  have hY := F.2.2.2.2.2.1
  have hmc := F.2.2.2.2.2.2.1
  have hmv := F.2.2.2.2.2.2.2
  have b3 := F.1 _ (by simp : Value.slice (some ⟨Bc, 0, none⟩) st.2.length capc ∈ _) Bc rfl
  have b2 := F.1 _ (by simp : Value.slice (some ⟨Bv, 0, none⟩) st.1.length capv ∈ _) Bv rfl
  have e2 := F.2.1 Bv rfl
  have e3 := F.2.2.1 Bc rfl
  refine ⟨Bc, capc, Bv, capv, cs, vs, A, A', rfl, rfl, q1, q2, q3, q4, q5, q6, q7, q8, q9, b3.1, by omega, b2.1, by omega, fun z s s' hz hs hs' => ?_⟩
  obtain ⟨t1, t2, t3⟩ := hS z s s' hz hs hs'
  obtain ⟨_, ⟨r0, r1, r4, r5⟩, ⟨m1, m2⟩, ⟨z1, z2⟩, ⟨z3, z4⟩, _⟩ := hz2 z hz
  refine ⟨⟨t1, ⟨r0.keptX RPod.firm t3 (t2.weak (fun b h => ?_)), r1.keptX RNode.firm t3 (t2.weak (fun b h => ?_)), r4.keptX RClass.firm t3 (t2.weak (fun b h => ?_)), r5.keptX RBudget.firm t3 (t2.weak (fun b h => ?_))⟩, ⟨?_, ?_⟩, ⟨z1.kept t2 ⟨by omega, by omega⟩, z2.kept t2 ⟨by omega, by omega⟩⟩, ⟨z3.kept t2 ⟨by omega, by omega⟩, z4.kept t2 ⟨by omega, by omega⟩⟩, t3⟩, t2⟩
  · exact ⟨fun e => by subst e; exact h.elim (fun h => by omega) e3.1, fun e => by subst e; exact h.elim (fun h => by omega) e2.1⟩
  · exact ⟨fun e => by subst e; exact h.elim (fun h => by omega) e3.2.1, fun e => by subst e; exact h.elim (fun h => by omega) e2.2.1⟩
  · exact ⟨fun e => by subst e; exact h.elim (fun h => by omega) e3.2.2.2.1, fun e => by subst e; exact h.elim (fun h => by omega) e2.2.2.2.1⟩
  · exact ⟨fun e => by subst e; exact h.elim (fun h => by omega) e3.2.2.2.2, fun e => by subst e; exact h.elim (fun h => by omega) e2.2.2.2.2⟩
  · rw [show cNs (st.2.set c (setVo (st.2.getD c default) s)) = cNs st.2 from names_set Prod.fst _ _ _ rfl hc]
    exact m1.kept t2 ⟨by omega, by omega⟩
  · rw [show vNs (st.1.set v (setCl (st.1.getD v default) s')) = vNs st.1 from names_set Prod.fst _ _ _ rfl hv]
    exact m2.kept t2 ⟨by omega, by omega⟩
theorem DnI.toS (F : DnF w n2 nV g0 g1 g2 g3 g4 g5 X Y mc mv) (h : DnI m w g0 g1 g2 g3 g4 g5 x X Y mc mv fd st W) (hb : Below w.heap.size w W') (hk : Kept (fun b => (b ≠ w.heap.size + 1 + 1 ∧ b ≠ w.heap.size + 1 + 1 + 1) ∧ b < nV) W W') : DnS m w W' g0 g1 g2 g3 g4 g5 x st := by
  obtain ⟨⟨hV, hC, hne, hm⟩, ⟨r0, r1, r4, r5⟩, _⟩ := h
  have lo : ∀ g ∈ [g0, g1, g2, g3, g4, g5], ∀ b, (b < m ∨ g.ownBlock = some b) → (b ≠ w.heap.size + 1 + 1 ∧ b ≠ w.heap.size + 1 + 1 + 1) ∧ b < nV := by
    intro g hg b hb
    refine ⟨?_, F.lo hm hg hb⟩
    rcases hb with hb | hb
    · omega
    · have := F.1 g hg b hb; omega
  exact ⟨⟨hV.keptX RVolume.firm hb (hk.weak (lo _ (by simp))), hC.keptX RClaim.firm hb (hk.weak (lo _ (by simp))), hne, hm⟩,
    ⟨r0.keptX RPod.firm hb (hk.weak (lo _ (by simp))), r1.keptX RNode.firm hb (hk.weak (lo _ (by simp))), r4.keptX RClass.firm hb (hk.weak (lo _ (by simp))), r5.keptX RBudget.firm hb (hk.weak (lo _ (by simp)))⟩, hb⟩
theorem keepsFrom_kept {Bc Bv : Nat} (hb : Kept (fun b => b ≠ Bc ∧ b ≠ Bv) W W') (h1 : Bc < nV) (h2 : Bv < nV) : KeepsFrom nV W W' :=
  ⟨hb.1, fun k _ hk ho _ => (hb.2 k ⟨by omega, by omega⟩ (Array.getElem?_eq_some_iff.1 ho).1).trans ho⟩
theorem keepsFrom_below (hb : Below W.heap.size W W') : KeepsFrom nV W W' :=
  ⟨hb.size, fun k _ _ ho _ => (hb.block k (Array.getElem?_eq_some_iff.1 ho).1).trans ho⟩
end
end Go.Proofs.YtmnldngojgldiaaGreat
namespace Go.Proofs.YtmnldngojgldiaaGreat
open Go.RowKit
set_option linter.unusedSimpArgs false

section
variable {P : Program} {md : Region.Mode} {ops : Array Oper} {Q : Exit → Act → World → Prop} {S : World → Prop} {oi : Oper} {d fuel : Nat} {listed : Array Bool} {a : Act} {w : World}
/-- Operations i, j and q alone may come up. -/
theorem t3b (i j q : Nat) {oj oq : Oper} {e f : Nat}
    (h : ∀ K' : Act → World → Prop, Shut (∀ v w, S w → (S w → wpAnyH P md ops Q S fuel (listed.setIfInBounds i true) (a.put (some d) v) w) → K' (a.put oi.dst v) w) → if Region.wanted oi (yielded ops a.tmps) = true then Oper.wp P oi a w K' Q else K' (a.put oi.dst undef) w)
    (h2 : ∀ K' : Act → World → Prop, Shut (∀ v w, S w → (S w → wpAnyH P md ops Q S fuel (listed.setIfInBounds j true) (a.put (some e) v) w) → K' (a.put oj.dst v) w) → if Region.wanted oj (yielded ops a.tmps) = true then Oper.wp P oj a w K' Q else K' (a.put oj.dst undef) w)
    (h3 : ∀ K' : Act → World → Prop, Shut (∀ v w, S w → (S w → wpAnyH P md ops Q S fuel (listed.setIfInBounds q true) (a.put (some f) v) w) → K' (a.put oq.dst v) w) → if Region.wanted oq (yielded ops a.tmps) = true then Oper.wp P oq a w K' Q else K' (a.put oq.dst undef) w)
    (hi : ops[i]? = some oi := by rfl) (hd : oi.dst = some d := by rfl) (hj : ops[j]? = some oj := by rfl) (he : oj.dst = some e := by rfl) (hq : ops[q]? = some oq := by rfl) (hf : oq.dst = some f := by rfl) (hr : Region.ready md ops listed = [i, j, q] := by kernel_rfl) : wpAnyH P md ops Q S (fuel + 1) listed a w :=
  wpAnyH_ready hr (by simp) (AllReadyH.cons hi (fun K' hK => h K' (fun v w h1 h2 => hK.out _ w h1 (fun h3 => hd ▸ h2 h3)))
    (AllReadyH.cons hj (fun K' hK => h2 K' (fun v w h1 h2 => hK.out _ w h1 (fun h3 => he ▸ h2 h3)))
      (AllReadyH.cons hq (fun K' hK => h3 K' (fun v w h1 h2 => hK.out _ w h1 (fun h3 => hf ▸ h2 h3))) AllReadyH.nil)))
end
end Go.Proofs.YtmnldngojgldiaaGreat
