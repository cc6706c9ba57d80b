/- The program's iterator over changes of a kind behind a cursor, as a contract: it gives each of them, in order, or a beginning of them. Condition: the log lies as is said of it. -/
import Derived.Test.YtnlmipgmakmbiaaWSift
namespace Go.Proofs.Ytnlmipgmakmbiaa
open Go.RowKit Go.Shelf
set_option linter.unusedSimpArgs false
set_option maxRecDepth 100000
attribute [local go_sem] Oper.semAt_some

abbrev encC (x : Ch) : Array Value := #[.agg (chC x.1 x.2).toArray]
/-- All have come. -/
def AllC (k v : Int) (L ys : List Ch) : Prop := ys = restW k v L
/-- Some have come. -/
def SomeC (k v : Int) (L : List Ch) (len : Nat) (pre : List Ch) : Prop := ∃ j, j ≤ len ∧ pre = restW k v (L.take j)
theorem grown_below13 {w w' : World} (h : Below w.heap.size w w') : w.grownBy w' none := ⟨h.os, h.tape, h.output, h.size, fun k hk _ => h.block k hk⟩
theorem rest_snoc {L : List Ch} {j : Nat} (h : j < L.length) (k v : Int) : restW k v (L.take (j + 1)) = if fitB k v (L.getD j default) = true then restW k v (L.take j) ++ [L.getD j default] else restW k v (L.take j) := by
  unfold restW
  rw [← take_at13 h, List.filter_append, List.filter_cons, List.filter_nil]
  show _ ++ (if fitB k v (L.getD j default) = true then _ else _) = _
  split <;> simp
theorem rest_take_le (k v : Int) (L : List Ch) (j : Nat) : (restW k v (L.take j)).length ≤ j := by
  unfold restW
  have := List.length_filter_le (fun c : Ch => decide (c.2 = k) && decide (v < c.1)) (L.take j)
  rw [List.length_take] at this
  omega
set_option maxHeartbeats 8000000 in
theorem sift1_in (n : Nat) (hn : 2 ≤ n) (l Bl Bf Bk Bs : Nat) (A : Where) (a : Option Addr) (len cap : Nat) (L : List Ch) (k v : Int) (J Jx : List Ch → World → Prop)
    (hY : ∀ pre x W, J pre W → pre.length < len → YieldAt Fence.wide (n - 1) Try.prog l (encC x) W fun e W' =>
      (e = .returned (.bool true) ∧ J (pre ++ [x]) W' ∧ Kept A W W') ∨ (e = .returned (.bool false) ∧ Jx (pre ++ [x]) W'))
    (W : World) (hJ : AbidesFrom W.heap.size J) (hBl : W.cell? ⟨Bl, 0, none⟩ = some (.slice a len cap)) (hBf : W.cell? ⟨Bf, 0, none⟩ = some (.func (.func 32) #[] #[.pointer (some ⟨Bk, 0, none⟩), .pointer (some ⟨Bs, 0, none⟩)]))
    (hBk : W.cell? ⟨Bk, 0, none⟩ = some (.int .i64 k)) (hBs : W.cell? ⟨Bs, 0, none⟩ = some (.int .i64 v)) (lf : A Bf ∧ Bf < W.heap.size) (lk : A Bk ∧ Bk < W.heap.size) (ls : A Bs ∧ Bs < W.heap.size)
    (hL : Hid (SlAt RCh 42 640 A W a len cap L)) (h0 : J [] W) :
    CallsIn Fence.wide n Try.prog 31 #[.func (.yield l) #[] #[], .pointer (some ⟨Bl, 0, none⟩), .pointer (some ⟨Bf, 0, none⟩)] W fun e W' => (∃ v, e = .returned v) ∧
      ((∃ ys, AllC k v L ys ∧ J ys W') ∨ (∃ pre, SomeC k v L len pre ∧ Jx pre W')) := by
  have hlen := hL.out.len (by decide)
  have Hll : Hid (L.length = len) := hL.out.1
  refine callsIn_of_wp Try.func31 rfl trivial ?_ rfl
  simp only [Try.ntmps31, List.size_toArray, List.length_cons, List.length_nil, Nat.reduceAdd, Nat.reduceSub, Array.replicate_succ, Array.replicate_zero, List.push_toArray, List.append_toArray, List.nil_append, List.cons_append]
  gi_wp2
  --M0
  gi_loopw [8] (fun i wr => ∃ j : Nat, j ≤ len ∧ i = .int .i64 j ∧ J (restW k v (L.take j)) wr ∧ Kept A W wr ∧ W.heap.size ≤ wr.heap.size)
    (fun i _ => len - (intOf i).toNat)
  case atStart => exact ⟨0, Nat.zero_le _, rfl, h0, Kept.refl _ _, Nat.le_refl _⟩
  case round =>
    obtain ⟨j, hj, rfl, hJs, hnx, hsw⟩ := hrel
    by_cases hge : len ≤ j
    · obtain rfl : j = len := by omega
      have e1 : L.take j = L := List.take_of_length_le (by rw [Hll.out]; omega)
      rw [e1] at hJs
      have hltz : ¬ ((j : Int) < (j : Int)) := by omega
      gi_wp2
      go_end0
      exact ⟨⟨_, rfl⟩, .inl ⟨_, rfl, hJs⟩⟩
    · have hlt : j < len := by omega
      have hltz : (j : Int) < (len : Int) := by omega
      obtain ⟨B, off, rfl, hB, hBn, cs, hr, hv⟩ := hL.out.get hlt
      obtain rfl : cs = chC (L.getD j default).1 (L.getD j default).2 := hr
      have HS : Hid (restW k v (L.take (j + 1)) = if fitB k v (L.getD j default) = true then restW k v (L.take j) ++ [L.getD j default] else restW k v (L.take j)) := rest_snoc (by rw [Hll.out]; exact hlt) k v
      have HRL : Hid ((restW k v (L.take j)).length < len) := by have := rest_take_le k v L j; rw [Hid]; omega
      have HQ : Hid (wr.rangeAt B (off + j * 42) (chC (L.getD j default).1 (L.getD j default).2)) := fun i y hi => (hnx.cell (p := ⟨B, off + j * 42 + i, none⟩) hBn hB).trans (hv i y hi)
      generalize L.getD j default = x at HS HQ
      have HI : Hid ((Try.prog.info? 76).map (·.size) = some (chC x.1 x.2).length) := sizeCh
      have HI2 : Hid ((Try.prog.info? 76).map (·.size) = some (chC x.1 x.2).toArray.size) := sizeCh
      have HZ3 : Hid ((wr.alloc (.cells chZ.toArray 76)).there wr.heap.size 0 (chC x.1 x.2).toArray.size) := (BoxL.new wr 76 chZ).there
      obtain ⟨W3, hW3⟩ : ∃ W, W = (wr.alloc (.cells chZ.toArray 76)).setCells wr.heap.size 0 (chC x.1 x.2) := ⟨_, rfl⟩
      have B3 : Below wr.heap.size wr W3 := by rw [hW3]; exact below_setCells ((Below.refl _ _).alloc (Nat.le_refl _) _) (Nat.le_refl _)
      have HQ3 : Hid (∀ z, Below W3.heap.size W3 z → z.rangeAt wr.heap.size 0 (chC x.1 x.2)) := by
        have h1 := World.rangeAt_setCells_same _ wr.heap.size 0 (chC x.1 x.2) HZ3.out
        have h2 : wr.heap.size < W3.heap.size := by rw [hW3]; exact Nat.lt_of_lt_of_le (by simp) (kept_setCells (A := fun _ => False) (b := wr.heap.size) (fun h => h) (vs := chC x.1 x.2) (o := 0)).1
        rw [← hW3] at h1
        exact fun z hz i y hi => (hz.cell (p := ⟨wr.heap.size, 0 + i, none⟩) h2).trans (h1 i y hi)
      have HQ3a := HQ3.out W3 (Below.refl _ _)
      have HQ3a : Hid (W3.rangeAt wr.heap.size 0 (chC x.1 x.2)) := HQ3a
      have HW3 : Hid ((wr.alloc (.cells chZ.toArray 76)).setCells wr.heap.size 0 (chC x.1 x.2).toArray.toList = W3) := hW3.symm
      have hb3 : Kept A W W3 := hnx.trans (Kept.below B3)
      have f3 : W3.cell? ⟨Bf, 0, none⟩ = some (.func (.func 32) #[] #[.pointer (some ⟨Bk, 0, none⟩), .pointer (some ⟨Bs, 0, none⟩)]) := (hb3.cell (p := ⟨Bf, 0, none⟩) lf.1 lf.2).trans hBf
      have hC := come1_calls x Bk Bs k v W3 ((hb3.cell (p := ⟨Bk, 0, none⟩) lk.1 lk.2).trans hBk) ((hb3.cell (p := ⟨Bs, 0, none⟩) ls.1 ls.2).trans hBs) (Nat.lt_of_lt_of_le lk.2 hb3.1) (Nat.lt_of_lt_of_le ls.2 hb3.1)
      clear hW3 hv
      --M1
      gi_wp2_with (first | (refine loadIn13 rfl 76 _ rfl B (off + j * 42) (by go_simp) (chC x.1 x.2) _ HQ.out Try.underlying76 rfl HI.out ?_) | (refine storeIn13 rfl 76 _ _ rfl wr.heap.size 0 (chC x.1 x.2).toArray rfl rfl HZ3.out HI2.out (by simp [Value.oneCell']) ?_; refine wlin13 HW3.out ?_) | (refine loadIn13 rfl 76 _ rfl wr.heap.size 0 rfl (chC x.1 x.2) _ HQ3a.out Try.underlying76 rfl HI.out ?_) | fail)
      --M2
      refine ⟨trivial, fun _ => by omega, ?_⟩
      refine (callsIn_wide.2 hC).mono ?_
      rintro e W4 ⟨rfl, hW4⟩
      have b4 : Below W3.heap.size W3 W4 := by rw [hW4]; exact (Below.refl _ _).alloc (Nat.le_refl _) _
      have HQ4 : Hid (W4.rangeAt wr.heap.size 0 (chC x.1 x.2)) := HQ3.out W4 b4
      have hb4 : Kept A W W4 := hb3.trans (Kept.below b4)
      have hJ4 := hJ _ wr W4 none hJs (grown_below13 (on2 B3 b4)) (fun r e => by cases e)
      have hs4 : W.heap.size ≤ W4.heap.size := Nat.le_trans hsw (on2 B3 b4).size
      clear hC hW4 HQ3 HQ3a HW3 HZ3 HQ b4 B3 hb3 f3
      cases hf : fitB k v x with
      | false =>
        have hE : restW k v (L.take (j + 1)) = restW k v (L.take j) := by rw [HS.out, hf]; rfl
        rw [← hE] at hJ4
        clear hE HS hf
        gi_wp2
        refine ⟨fun _ h => (by cases h), ?_⟩
        gi_wp2
        --M3
        go_roundw
        case rel => exact ⟨j + 1, by omega, by simp, hJ4, hb4, hs4⟩
        case measure => simp [intOf]; omega
      | true =>
        have hE : restW k v (L.take (j + 1)) = restW k v (L.take j) ++ [x] := by rw [HS.out, hf]; rfl
        have HE : Hid (restW k v (L.take (j + 1)) = restW k v (L.take j) ++ [x]) := hE
        clear hE HS hf
        obtain ⟨fn, tmps, assign, body, hy, hR⟩ := hY _ x W4 hJ4 HRL.out
        --M4
        gi_wp2_with (first | (refine loadIn13 rfl 76 _ rfl wr.heap.size 0 rfl (chC x.1 x.2) _ HQ4.out Try.underlying76 rfl HI.out ?_) | fail)
        --M5
        refine ⟨fun _ => (by omega), ?_⟩
        refine hR.mono ?_
        rintro e W5 (⟨rfl, hJ5, hk5⟩ | ⟨rfl, hJx5⟩)
        · rw [← HE.out] at hJ5
          gi_wp2
          go_roundw
          case rel => exact ⟨j + 1, by omega, by simp, hJ5, hb4.trans hk5, Nat.le_trans hs4 hk5.1⟩
          case measure => simp [intOf]; omega
        · rw [← HE.out] at hJx5
          gi_wp2
          refine bodyPost_ret (results_none rfl _ _ _) rfl ?_
          exact ⟨⟨_, rfl⟩, .inr ⟨_, ⟨j + 1, by omega, rfl⟩, hJx5⟩⟩
/-- It gives each, in order; or a beginning of them. -/
theorem sift_stops (n : Nat) (hn : 2 ≤ n) (Bl Bf Bk Bs : Nat) (A : Where) (a : Option Addr) (len cap : Nat) (L : List Ch) (k v : Int) (w : World) (hBl : w.cell? ⟨Bl, 0, none⟩ = some (.slice a len cap)) (hBf : w.cell? ⟨Bf, 0, none⟩ = some (.func (.func 32) #[] #[.pointer (some ⟨Bk, 0, none⟩), .pointer (some ⟨Bs, 0, none⟩)]))
    (hBk : w.cell? ⟨Bk, 0, none⟩ = some (.int .i64 k)) (hBs : w.cell? ⟨Bs, 0, none⟩ = some (.int .i64 v)) (ll : Bl < w.heap.size) (lf : A Bf ∧ Bf < w.heap.size) (lk : A Bk ∧ Bk < w.heap.size) (ls : A Bs ∧ Bs < w.heap.size) (hL : SlAt RCh 42 640 A w a len cap L) :
    SeqStopsK Fence.wide n Try.prog 31 #[.pointer (some ⟨Bl, 0, none⟩), .pointer (some ⟨Bf, 0, none⟩)] encC (Kept A) (AllC k v L) (SomeC k v L len) len w := fun l J Jx W hW hJ _ hY h0 =>
  sift1_in n hn l Bl Bf Bk Bs A a len cap L k v J Jx hY W hJ ((hW.cell (p := ⟨Bl, 0, none⟩) ll).trans hBl) ((hW.cell (p := ⟨Bf, 0, none⟩) lf.2).trans hBf) ((hW.cell (p := ⟨Bk, 0, none⟩) lk.2).trans hBk) ((hW.cell (p := ⟨Bs, 0, none⟩) ls.2).trans hBs) ⟨lf.1, Nat.lt_of_lt_of_le lf.2 hW.size⟩ ⟨lk.1, Nat.lt_of_lt_of_le lk.2 hW.size⟩ ⟨ls.1, Nat.lt_of_lt_of_le ls.2 hW.size⟩ (hL.on RCh.firm hW) h0
end Go.Proofs.Ytnlmipgmakmbiaa
