/- The program's watcher: Behind. Condition: the watcher and the log lie as is said of them. -/
import Derived.Test.YtnlmipgmakmbiaaWSif1
namespace Go.Proofs.Ytnlmipgmakmbiaa
open Go.RowKit Go.Shelf
set_option linter.unusedSimpArgs false
set_option maxRecDepth 100000
attribute [local go_sem] Oper.semAt_some

/-- Where an iterator's boxes lie behind those of the caller. -/
structure ItAt (w : World) (b : Nat) (a : Option Addr) (n cap : Nat) (k v : Int) (z : World) : Prop where
  l : z.cell? ⟨b + 2, 0, none⟩ = some (.slice a n cap)
  f : z.cell? ⟨b + 3, 0, none⟩ = some (.func (.func 32) #[] #[.pointer (some ⟨b, 0, none⟩), .pointer (some ⟨b + 1, 0, none⟩)])
  k : z.cell? ⟨b, 0, none⟩ = some (.int .i64 k)
  v : z.cell? ⟨b + 1, 0, none⟩ = some (.int .i64 v)
  s : z.heap.size = b + 4
  b : Below b w z
theorem ItAt.new (w : World) (a : Option Addr) (n cap : Nat) (k v : Int) (t1 t2 t3 t4 : TypeId) : ItAt w w.heap.size a n cap k v ((((w.alloc (.cells #[.int .i64 k] t1)).alloc (.cells #[.int .i64 v] t2)).alloc (.cells #[.slice a n cap] t3)).alloc (.cells #[.func (.func 32) #[] #[.pointer (some ⟨w.heap.size, 0, none⟩), .pointer (some ⟨w.heap.size + 1, 0, none⟩)]] t4)) := by
  obtain ⟨W1, h1⟩ : ∃ W, W = w.alloc (.cells #[.int .i64 k] t1) := ⟨_, rfl⟩
  obtain ⟨W2, h2⟩ : ∃ W, W = W1.alloc (.cells #[.int .i64 v] t2) := ⟨_, rfl⟩
  obtain ⟨W3, h3⟩ : ∃ W, W = W2.alloc (.cells #[.slice a n cap] t3) := ⟨_, rfl⟩
  obtain ⟨W4, h4⟩ : ∃ W, W = W3.alloc (.cells #[.func (.func 32) #[] #[.pointer (some ⟨w.heap.size, 0, none⟩), .pointer (some ⟨w.heap.size + 1, 0, none⟩)]] t4) := ⟨_, rfl⟩
  rw [← h1, ← h2, ← h3, ← h4]
  have b1 : Below w.heap.size w W1 := by rw [h1]; exact (Below.refl _ _).alloc (Nat.le_refl _) _
  have b2 : Below W1.heap.size W1 W2 := by rw [h2]; exact (Below.refl _ _).alloc (Nat.le_refl _) _
  have b3 : Below W2.heap.size W2 W3 := by rw [h3]; exact (Below.refl _ _).alloc (Nat.le_refl _) _
  have b4 : Below W3.heap.size W3 W4 := by rw [h4]; exact (Below.refl _ _).alloc (Nat.le_refl _) _
  have s1 : W1.heap.size = w.heap.size + 1 := by rw [h1, World.size_alloc]
  have s2 : W2.heap.size = w.heap.size + 2 := by rw [h2, World.size_alloc, s1]
  have s3 : W3.heap.size = w.heap.size + 3 := by rw [h3, World.size_alloc, s2]
  have s4 : W4.heap.size = w.heap.size + 4 := by rw [h4, World.size_alloc, s3]
  have q1 : BoxL W1 w.heap.size [.int .i64 k] := by rw [h1]; exact BoxL.new w _ _
  have q2 : BoxL W2 (w.heap.size + 1) [.int .i64 v] := by rw [h2, ← s1]; exact BoxL.new W1 _ _
  have q3 : BoxL W3 (w.heap.size + 2) [.slice a n cap] := by rw [h3, ← s2]; exact BoxL.new W2 _ _
  have q4 : BoxL W4 (w.heap.size + 3) [.func (.func 32) #[] #[.pointer (some ⟨w.heap.size, 0, none⟩), .pointer (some ⟨w.heap.size + 1, 0, none⟩)]] := by rw [h4, ← s3]; exact BoxL.new W3 _ _
  exact ⟨((q3.on b4).2 0 _ rfl).1, (q4.2 0 _ rfl).1, ((((q1.on b2).on b3).on b4).2 0 _ rfl).1, (((q2.on b3).on b4).2 0 _ rfl).1, s4, on2 b1 (on2 b2 (on2 b3 b4))⟩
theorem keptK_b13 {A : Where} {m : Nat} (h : ∀ b, A b → b < m) (W : World) (l : Nat) (o o' : Obj) (hl : m ≤ l) (_ : W.heap[l]? = some o) (_ : o.isCells = false) (_ : o.isWalk = false) : Kept A W (W.putObj l o') :=
  Kept.grown (grownBy_putObj' W l _) (fun k e hk => by cases e; have := h _ hk; omega)
set_option maxHeartbeats 8000000 in
theorem pBehind_calls (p : Nat) (At : List Int) (Off : List Bool) (k : Int) (a : Option Addr) (m cap : Nat) (A : Where) (L : List Ch) (u : World) (h : PWt u p At Off) (hL : SlAt RCh 42 640 A u a m cap L) : Calls Try.prog 22 #[.pointer (some ⟨p, 0, none⟩), .int .i64 k, .slice a m cap] u fun e u' => e = .returned (.tuple #[.int .i64 (if knB k = true then ((restW k (At.getD k.toNat default) L).length : Int) else 0), .int .i64 (if knB k = true then 0 else 2)]) ∧ Below u.heap.size u u' := by
  have hC := of_calls13 p u k h.mark
  cases hk : knB k with
  | false =>
    rw [hk] at hC
    clear h hL
    go_enter Try.func22, Try.ntmps22
    go_wp2_with fail
    refine hC.mono ?_
    rintro e u1 ⟨rfl, rfl⟩
    clear hC
    go_wp2_with fail
    go_ret2
    exact ⟨rfl, Below.refl _ _⟩
  | true =>
    obtain ⟨k1, k2⟩ := kn_iff.1 hk
    obtain ⟨i, rfl⟩ : ∃ i : Nat, k = (i : Int) := ⟨k.toNat, by omega⟩
    have hi : i < 7 := by omega
    rw [hk] at hC
    simp only [if_true, Int.toNat_natCast] at hC ⊢
    have Hh : Hid (PWt u p At Off) := h
    obtain ⟨v, hv⟩ : ∃ v, v = At.getD i default := ⟨_, rfl⟩
    rw [← hv]
    obtain ⟨W1, hW1⟩ : ∃ W, W = u.alloc (.cells #[.int .i64 0] 3) := ⟨_, rfl⟩
    have b1 : Below u.heap.size u W1 := by rw [hW1]; exact (Below.refl _ _).alloc (Nat.le_refl _) _
    have s1 : Hid (W1.heap.size = u.heap.size + 1) := by rw [hW1, Hid, World.size_alloc]
    have q1 : Hid (BoxL W1 u.heap.size [.int .i64 0]) := by rw [hW1]; exact BoxL.new u _ _
    have hb1 : Hid (Below u.heap.size u W1) := b1
    have d0 : W1.cell? ⟨p, 1 + i * 2, none⟩ = some (.int .i64 v) := by rw [hv]; exact ((h.on b1).seen hi).1
    have HL : Hid (SlAt RCh 42 640 A u a m cap L) := hL
    have HW1 : Hid (u.alloc (.cells #[.int .i64 0] 3) = W1) := hW1.symm
    have hC2 := come_calls (i : Int) v W1
    rw [s1.out] at hC2
    clear h hL hv hW1 b1
    refine (callsIn_wide (n := 9)).1 ?_
    refine callsIn_of_wp_marks Try.func22 rfl trivial ?_
    refine (wpIn_wide (n := 9)).2 ?_
    simp only [Try.ntmps22, List.size_toArray, List.length_cons, List.length_nil, Nat.reduceAdd, Nat.reduceSub, Array.replicate_succ, Array.replicate_zero, List.push_toArray, List.append_toArray, List.nil_append, List.cons_append]
    go_wp2_with fail
    refine hC.mono ?_
    rintro e u1 ⟨rfl, rfl⟩
    clear hC
    go_upto_region 5 with fail
    rw [HW1.out]
    go_wp2_with fail
    --M1
    refine hC2.mono ?_
    rintro e w2 ⟨rfl, hw2⟩
    have Hw2 : Hid (w2 = (W1.alloc (.cells #[.int .i64 (i : Int)] 3)).alloc (.cells #[.int .i64 v] 3)) := hw2
    have s2 : w2.heap.size = u1.heap.size + 1 + 2 := by rw [hw2, World.size_alloc, World.size_alloc, s1.out]
    have hC3 := sift_calls a m cap _ w2 #[.pointer (some ⟨u1.heap.size + 1, 0, none⟩), .pointer (some ⟨u1.heap.size + 1 + 1, 0, none⟩)] rfl
    rw [s2] at hC3
    clear hC2 hw2 s2
    go_wp2_with fail
    --M2
    refine hC3.mono ?_
    rintro e wc ⟨rfl, hwc⟩
    clear hC3
    have hIt : Hid (ItAt W1 (u1.heap.size + 1) a m cap (i : Int) v wc) := by
      have h9 := ItAt.new W1 a m cap (i : Int) v 3 3 28 91
      rw [s1.out] at h9
      rw [hwc, Hw2.out]; exact h9
    clear Hw2 hwc
    go_wp2_with fail
    --M3
    have hws : wc.heap.size = u1.heap.size + 1 + 4 := hIt.out.s
    have hbc : Below u1.heap.size u1 wc := on2 hb1.out (by have h9 := hIt.out.b; rw [← s1.out] at h9; exact h9)
    have hqc : BoxL wc u1.heap.size [.int .i64 0] := q1.out.on (by have h9 := hIt.out.b; rw [← s1.out] at h9; exact h9)
    have hsq := sift_stops 8 (by decide) (u1.heap.size + 1 + 2) (u1.heap.size + 1 + 2 + 1) (u1.heap.size + 1) (u1.heap.size + 1 + 1) (fun b => b < wc.heap.size ∧ b ≠ u1.heap.size) a m cap L (i : Int) v wc hIt.out.l hIt.out.f hIt.out.k hIt.out.v (by omega) ⟨⟨by omega, by omega⟩, by omega⟩ ⟨⟨by omega, by omega⟩, by omega⟩ ⟨⟨by omega, by omega⟩, by omega⟩ ((HL.out.weak RCh.firm (fun b hb _ => (⟨by omega, by omega⟩ : b < wc.heap.size ∧ b ≠ u1.heap.size))).on RCh.firm hbc)
    have Hws : Hid (wc.heap.size = u1.heap.size + 1 + 4) := hws
    have Hml : Hid (m * 640 ≤ 140737488351232) := HL.out.2.2.2.1
    clear hws hIt s1 q1 hb1 HW1 HL d0
    refine (wpIn_wide (n := 9)).1 ?_
    refine wpIn_rangeFunc_ownG rfl (by decide) (gf := 31) (lb := #[.pointer (some ⟨u1.heap.size + 1 + 2, 0, none⟩), .pointer (some ⟨u1.heap.size + 1 + 2 + 1, 0, none⟩)]) rfl trivial (enters_of Try.func31 (by kernel_rfl) rfl) hsq Kept.trans (keptK_b13 (fun b hb => hb.1)) (Below.refl _ _) (fun _ => rfl)
      (fun pre W => BoxL W u1.heap.size [.int .i64 (pre.length : Int)] ∧ Below u1.heap.size u1 W)
      (fun _ _ _ => False) ?own (fun _ _ _ _ _ h _ _ => h) ⟨hqc, hbc⟩
      (fun x => { tmps := #[.pointer (some ⟨p, 0, none⟩), .int .i64 (i : Int), .slice a m cap, undef, undef, undef, .int .i64 0, .int .i64 0, .pointer (some ⟨p, 1 + i * 2, none⟩), .int .i64 0, .pointer (some ⟨u1.heap.size, 0, none⟩), .tuple #[.pointer (some ⟨p, 1 + i * 2, none⟩), .int .i64 0], .pointer (some ⟨p, 0, none⟩), .int .i64 (i : Int), .tuple #[.pointer (some ⟨p, 1 + i * 2, none⟩), .int .i64 0], .pointer (some ⟨p, 1 + i * 2, none⟩), .int .i64 0, .int .i64 0, .bool false, undef, .slice a m cap, .int .i64 (i : Int), .pointer (some ⟨p, 1 + i * 2, none⟩), .pointer (some ⟨p, 1 + i * 2, none⟩), .pointer (some ⟨p, 1 + i * 2, none⟩), .int .i64 v, .func (.func 32) #[] #[.pointer (some ⟨u1.heap.size + 1, 0, none⟩), .pointer (some ⟨u1.heap.size + 1 + 1, 0, none⟩)], .func (.func 31) #[] #[.pointer (some ⟨u1.heap.size + 1 + 2, 0, none⟩), .pointer (some ⟨u1.heap.size + 1 + 2 + 1, 0, none⟩)], .agg (chC x.1 x.2).toArray, undef, undef, undef], defers := [] })
      ?assign ?body ?done ?stop
    case own =>
      rintro pre W W' row ⟨h1, h2⟩ hg hr
      have := Hws.out
      exact ⟨h1.kept (A := fun b => b < wc.heap.size) (Kept.grown hg (fun k e hk => by have := (hr k e).1; omega)) (by omega), h2.grown hg h2.size (fun k e => by have := (hr k e).1; omega)⟩
    case stop => rintro D c pre W _ _ h _; exact h.elim
    case assign =>
      intro l x W K hK
      gi_wp2
      simpa using hK
    case body =>
      rintro l pre x W ⟨hq, hb⟩ hlt
      obtain ⟨c0, c1⟩ := hq.2 0 _ rfl
      have hpl : pre.length < 1000000000000 := by have := Hml.out; omega
      have hE : (((pre ++ [x]).length : Nat) : Int) = (pre.length : Int) + 1 := by simp
      have HN : Hid (KeepsFrom wc.heap.size W (W.setCell ⟨u1.heap.size, 0, none⟩ (.int .i64 ((pre.length : Int) + 1))) ∧ Kept (fun b => b < wc.heap.size ∧ b ≠ u1.heap.size) W (W.setCell ⟨u1.heap.size, 0, none⟩ (.int .i64 ((pre.length : Int) + 1))) ∧ BoxL (W.setCell ⟨u1.heap.size, 0, none⟩ (.int .i64 ((pre.length : Int) + 1))) u1.heap.size [.int .i64 ((pre.length : Int) + 1)] ∧ Below u1.heap.size u1 (W.setCell ⟨u1.heap.size, 0, none⟩ (.int .i64 ((pre.length : Int) + 1)))) :=
        ⟨(KeepsOthers.setCell _ _ _).from _, Kept.set (p := ⟨u1.heap.size, 0, none⟩) (fun h => h.2 rfl) _, hq.set 0 _ (by simp), hb.setCell (p := ⟨u1.heap.size, 0, none⟩) (Nat.le_refl _) _⟩
      have HE : Hid ((((pre ++ [x]).length : Nat) : Int) = (pre.length : Int) + 1) := hE
      clear hq hb hE
      --M4
      gi_wp2
      --M5
      refine ⟨HN.out.1, HN.out.2.1, ?_, HN.out.2.2.2⟩
      rw [HE.out]
      exact HN.out.2.2.1
    case done =>
      rintro D ys W hD hS ⟨hq, hb⟩ hK
      obtain ⟨c0, c1⟩ := hq.2 0 _ rfl
      have HS : Hid (ys = restW (i : Int) v L) := hS
      have bD : Below u1.heap.size u1 (W.putObj D (.deferred none)) := hb.trans (belowK_b (w := wc) hbc.size W D _ _ hD hK rfl rfl)
      have HD : Hid (Below u1.heap.size u1 (W.putObj D (.deferred none))) := bD
      have HT : Hid ((Instr.takeDeferred D).run Try.prog W = .ok [] (W.putObj D (.deferred none))) := run_takeDeferred hK
      clear hq hb hK bD hS hsq hqc hbc
      --M6
      go_wp2_with fail
      --M7
      refine ⟨by simp, .inl ⟨D, _, rfl, HT.out, ?_⟩⟩
      refine ⟨.tuple #[.int .i64 (ys.length : Int), .int .i64 0], by simp [results, Try.results22, go_sem], ?_⟩
      rw [HS.out]
      exact ⟨rfl, HD.out⟩
end Go.Proofs.Ytnlmipgmakmbiaa
