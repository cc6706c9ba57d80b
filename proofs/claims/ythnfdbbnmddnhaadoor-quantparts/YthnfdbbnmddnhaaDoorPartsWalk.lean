/- The walk of the law QuantParts: amounts of several things are reckoned member by member; the chapter's examples come out. Condition of the inner walk: the slice holds what is said of it and is no longer than memory allows. -/
import Derived.Test.YthnfdbbnmddnhaaDoorSum
import Derived.WalkSpells
import Derived.Test.YthnfdbbnmddnhaaDoorFitsWalk
namespace Go.Proofs.YthnfdbbnmddnhaaDoor.quantParts
open Go.ChangeShapes Go.WideShapes Go.ChangeAt Go.RowKit
set_option linter.unusedSimpArgs false

set_option maxHeartbeats 400000 in
theorem Sum_nil (w : World) : Calls Tryd.prog 30 #[.slice none 0 0] w fun e w' => e = .returned (.agg #[.int .i64 0, .int .i64 0, .int .i64 0]) ∧ Below w.heap.size w w' := by
  go_enter Tryd.func30, Tryd.ntmps30
  go_wp2_with fail
  refine wp_loop_rounds 1 ?_
  rw [rounds_succ]
  go_wp2_with fail
  exact bodyPost_ret (v := .agg #[.int .i64 0, .int .i64 0, .int .i64 0]) (by simp [results, Tryd.results30, go_sem]) rfl ⟨rfl, by go_grown⟩
set_option maxHeartbeats 400000 in
theorem rSum_nil (w : World) : Calls Tryd.prog 31 #[.slice none 0 0] w fun e w' => e = .returned (.agg #[.int .i64 0, .int .i64 0, .int .i64 0]) ∧ Below w.heap.size w w' := by
  go_enter Tryd.func31, Tryd.ntmps31
  go_wp2_with fail
  refine wp_loop_rounds 1 ?_
  rw [rounds_succ]
  go_wp2_with fail
  exact bodyPost_ret (v := .agg #[.int .i64 0, .int .i64 0, .int .i64 0]) (by simp [results, Tryd.results31, go_sem]) rfl ⟨rfl, by go_grown⟩


/-- What stands through the law: the two boxes, and the copy in block G. -/
def SP (w : World) (G len : Nat) (a b c x y z : Int) (f g h : Nat → Int) (u : World) : Prop :=
  w.heap.size + 1 < u.heap.size ∧ Below w.heap.size w u ∧ Holds3 u w.heap.size a b c ∧ Holds3 u (w.heap.size + 1) x y z ∧ w.heap.size ≤ G ∧ G < u.heap.size ∧ (∀ i, i < len → u.cell? ⟨G, 0 + i * 3, none⟩ = some (.int .i64 (f i)) ∧ u.cell? ⟨G, 0 + i * 3 + 1, none⟩ = some (.int .i64 (g i)) ∧ u.cell? ⟨G, 0 + i * 3 + 2, none⟩ = some (.int .i64 (h i)))
section
variable {w u u' : World} {G B off len k : Nat} {a b c x y z : Int} {f g h : Nat → Int}
theorem SP.on (s : SP w G len a b c x y z f g h u) (hb : Below u.heap.size u u') : SP w G len a b c x y z f g h u' := by
  obtain ⟨s0, s1, s2, s3, s4, s5, s6⟩ := s
  have hs := hb.size
  exact ⟨by omega, s1.trans (hb.mono s1.size), quantFits.Holds3.on s2 hb (by omega), quantFits.Holds3.on s3 hb (by omega), s4, by omega, fun i hi => ⟨(hb.cell s5).trans (s6 i hi).1, (hb.cell s5).trans (s6 i hi).2.1, (hb.cell s5).trans (s6 i hi).2.2⟩⟩
theorem SP.drew (s : SP w G len a b c x y z f g h u) : SP w G len a b c x y z f g h u.drew := ⟨s.1, s.2.1.drew, s.2.2⟩
theorem SP.own (s : SP w G len a b c x y z f g h u) : Hid (∀ i, i < len → u.cell? ⟨G, 0 + i * 3, none⟩ = some (.int .i64 (f i)) ∧ u.cell? ⟨G, 0 + i * 3 + 1, none⟩ = some (.int .i64 (g i)) ∧ u.cell? ⟨G, 0 + i * 3 + 2, none⟩ = some (.int .i64 (h i))) := s.2.2.2.2.2.2
theorem SP.lB (s : SP w G len a b c x y z f g h u) (hB : B < w.heap.size) : B < u.heap.size := Nat.lt_of_lt_of_le hB s.2.1.size
theorem SP.lC (s : SP w G len a b c x y z f g h u) (hB : B < w.heap.size) (hc : Hid (∀ i, i < len → w.cell? ⟨B, off + i * 3, none⟩ = some (.int .i64 (f i)) ∧ w.cell? ⟨B, off + i * 3 + 1, none⟩ = some (.int .i64 (g i)) ∧ w.cell? ⟨B, off + i * 3 + 2, none⟩ = some (.int .i64 (h i)))) : Hid (∀ i, i < len → u.cell? ⟨B, off + i * 3, none⟩ = some (.int .i64 (f i)) ∧ u.cell? ⟨B, off + i * 3 + 1, none⟩ = some (.int .i64 (g i)) ∧ u.cell? ⟨B, off + i * 3 + 2, none⟩ = some (.int .i64 (h i))) :=
  fun i hi => ⟨(s.2.1.cell hB).trans (hc.out i hi).1, (s.2.1.cell hB).trans (hc.out i hi).2.1, (s.2.1.cell hB).trans (hc.out i hi).2.2⟩
/-- and in a round of the last loop: element k of the copy and of the argument -/
def SK (w : World) (G B off len k : Nat) (a b c x y z : Int) (f g h : Nat → Int) (u : World) : Prop :=
  SP w G len a b c x y z f g h u ∧ u.cell? ⟨G, k * 3, none⟩ = some (.int .i64 (f k)) ∧ u.cell? ⟨G, k * 3 + 1, none⟩ = some (.int .i64 (g k)) ∧ u.cell? ⟨G, k * 3 + 2, none⟩ = some (.int .i64 (h k)) ∧
    u.cell? ⟨B, off + k * 3, none⟩ = some (.int .i64 (f k)) ∧ u.cell? ⟨B, off + k * 3 + 1, none⟩ = some (.int .i64 (g k)) ∧ u.cell? ⟨B, off + k * 3 + 2, none⟩ = some (.int .i64 (h k))
theorem SK.start (s : SP w G len a b c x y z f g h u) (hB : B < w.heap.size) (hc : Hid (∀ i, i < len → w.cell? ⟨B, off + i * 3, none⟩ = some (.int .i64 (f i)) ∧ w.cell? ⟨B, off + i * 3 + 1, none⟩ = some (.int .i64 (g i)) ∧ w.cell? ⟨B, off + i * 3 + 2, none⟩ = some (.int .i64 (h i)))) (hk : k < len) : SK w G B off len k a b c x y z f g h u.drew := by
  have h1 := s.own.out k hk
  have h2 := (s.lC hB hc).out k hk
  simp only [Nat.zero_add] at h1
  exact ⟨s.drew, h1.1, h1.2.1, h1.2.2, h2.1, h2.2.1, h2.2.2⟩
end

/-- The cells of a slice of amounts, one behind the other. -/
def flat (len : Nat) (f g h : Nat → Int) : List Value := (List.range (len * 3)).map fun j => .int .i64 (if j % 3 = 0 then f (j / 3) else if j % 3 = 1 then g (j / 3) else h (j / 3))
theorem flat_length (len : Nat) (f g h : Nat → Int) : (flat len f g h).length = len * 3 := by simp [flat]
theorem flat_at {len : Nat} {f g h : Nat → Int} {j : Nat} (hj : j < len * 3) : (flat len f g h)[j]? = some (.int .i64 (if j % 3 = 0 then f (j / 3) else if j % 3 = 1 then g (j / 3) else h (j / 3))) := by
  simp [flat, hj]
theorem flat_one {len : Nat} {f g h : Nat → Int} : ∀ u ∈ flat len f g h, u.oneCell' = true := by
  intro u hu
  simp only [flat, List.mem_map] at hu
  obtain ⟨j, _, rfl⟩ := hu
  rfl
theorem flat_cells {w : World} {B off len : Nat} {f g h : Nat → Int} (hc : Hid (∀ i, i < len → w.cell? ⟨B, off + i * 3, none⟩ = some (.int .i64 (f i)) ∧ w.cell? ⟨B, off + i * 3 + 1, none⟩ = some (.int .i64 (g i)) ∧ w.cell? ⟨B, off + i * 3 + 2, none⟩ = some (.int .i64 (h i)))) : ∀ j u, (flat len f g h)[j]? = some u → w.cell? ((⟨B, off, none⟩ : Addr).add j) = some u := by
  intro j u hj
  have hl : j < len * 3 := by
    have := (List.getElem?_eq_some_iff.1 hj).1
    rwa [flat_length] at this
  rw [flat_at hl] at hj
  obtain rfl := Option.some.inj hj
  have ha : (⟨B, off, none⟩ : Addr).add j = ⟨B, off + j, none⟩ := by unfold Addr.add; split <;> simp_all
  rw [ha]
  obtain ⟨c0, c1, c2⟩ := hc.out (j / 3) (by omega)
  by_cases h0 : j % 3 = 0
  · rw [if_pos h0, show off + j = off + j / 3 * 3 by omega]; exact c0
  · by_cases h1 : j % 3 = 1
    · rw [if_neg h0, if_pos h1, show off + j = off + j / 3 * 3 + 1 by omega]; exact c1
    · rw [if_neg h0, if_neg h1, show off + j = off + j / 3 * 3 + 2 by omega]; exact c2
theorem flat_owned {w : World} {base len : Nat} {v : Value} {f g h : Nat → Int} (ho : w.ownsRow base 33 3 v len (flat len f g h)) (hv : v ≠ .slice none 0 0) :
    ∃ G cap, v = .slice (some ⟨G, 0, none⟩) len cap ∧ base ≤ G ∧ G < w.heap.size ∧ (∀ i, i < len → w.cell? ⟨G, 0 + i * 3, none⟩ = some (.int .i64 (f i)) ∧ w.cell? ⟨G, 0 + i * 3 + 1, none⟩ = some (.int .i64 (g i)) ∧ w.cell? ⟨G, 0 + i * 3 + 2, none⟩ = some (.int .i64 (h i))) := by
  obtain ⟨_, h0 | ⟨G, cap, cur, hv', hb, hg, _, _, hsz, htk⟩⟩ := ho
  · exact absurd h0.1 hv
  · refine ⟨G, cap, hv', hb, ?_, fun i hi => ?_⟩
    · rcases Nat.lt_or_ge G w.heap.size with h1 | h1
      · exact h1
      · rw [Array.getElem?_eq_none h1] at hg; cases hg
    · have hcell : ∀ j, j < len * 3 → w.cell? ⟨G, j, none⟩ = (flat len f g h)[j]? := by
        intro j hj
        have e1 : w.cell? ⟨G, j, none⟩ = cur[j]? := by simp [World.cell?, hg]
        rw [e1, ← htk, List.getElem?_take, if_pos hj, Array.getElem?_toList]
      have q0 := hcell (i * 3) (by omega)
      have q1 := hcell (i * 3 + 1) (by omega)
      have q2 := hcell (i * 3 + 2) (by omega)
      rw [flat_at (by omega)] at q0 q1 q2
      rw [if_pos (by omega), show i * 3 / 3 = i by omega] at q0
      rw [if_neg (by omega), if_pos (by omega), show (i * 3 + 1) / 3 = i by omega] at q1
      rw [if_neg (by omega), if_neg (by omega), show (i * 3 + 2) / 3 = i by omega] at q2
      simp only [Nat.zero_add]
      exact ⟨q0, q1, q2⟩

theorem heap_new (u : World) (o : Obj) (n : Nat) (hn : u.heap.size = n) : (u.alloc o).heap[n]? = some o := by
  subst hn
  exact (MapKept.heap_alloc u o).1
theorem infoRes : (Tryd.prog.info? 33).map (fun i => (i.zero, i.size, i.bytes)) = some (some (.agg #[.int .i64 0, .int .i64 0, .int .i64 0]), 3, 24) := by kernel_rfl

set_option maxHeartbeats 2000000 in
theorem walk_some (a b c x y z : Int) (B off cap len : Nat) (f g h : Nat → Int) (w : World) (ht : Tab w) (hlen : len ≤ 5864062014805) (hB : B < w.heap.size) (hc : Hid (∀ i, i < len → w.cell? ⟨B, off + i * 3, none⟩ = some (.int .i64 (f i)) ∧ w.cell? ⟨B, off + i * 3 + 1, none⟩ = some (.int .i64 (g i)) ∧ w.cell? ⟨B, off + i * 3 + 2, none⟩ = some (.int .i64 (h i)))) :
    Calls Tryd.prog 5 #[.agg #[.int .i64 a, .int .i64 b, .int .i64 c], .agg #[.int .i64 x, .int .i64 y, .int .i64 z], .slice (some ⟨B, off, none⟩) len cap] w fun e w' => e = .returned (.bool true) ∧ Below w.heap.size w w' := by
  obtain ⟨i0, hi, hz0, hz1, hz2⟩ := info_parts infoRes
  have hW : Below w.heap.size w (((w.alloc (.cells #[.int .i64 a, .int .i64 b, .int .i64 c] 33)).alloc (.cells #[.int .i64 x, .int .i64 y, .int .i64 z] 33)).alloc (.cells #[] 33)) := by go_grown
  have HO : Hid ((((w.alloc (.cells #[.int .i64 a, .int .i64 b, .int .i64 c] 33)).alloc (.cells #[.int .i64 x, .int .i64 y, .int .i64 z] 33)).alloc (.cells #[] 33)).ownsRow (w.heap.size + 1 + 1) 33 3 (.slice (some ⟨w.heap.size + 1 + 1, 0, none⟩) 0 0) 0 []) :=
    ⟨rfl, .inr ⟨w.heap.size + 1 + 1, 0, #[], rfl, Nat.le_refl _, heap_new _ _ _ (by simp), Nat.le_refl _, by unfold maxLen; omega, rfl, rfl⟩⟩
  have hnews := flat_cells (w := (((w.alloc (.cells #[.int .i64 a, .int .i64 b, .int .i64 c] 33)).alloc (.cells #[.int .i64 x, .int .i64 y, .int .i64 z] 33)).alloc (.cells #[] 33))) (f := f) (g := g) (h := h) (B := B) (off := off) (len := len) (fun i hi => ⟨(hW.cell hB).trans (hc.out i hi).1, (hW.cell hB).trans (hc.out i hi).2.1, (hW.cell hB).trans (hc.out i hi).2.2⟩)
  have HNW : Hid (∀ j u, (flat len f g h)[j]? = some u → (((w.alloc (.cells #[.int .i64 a, .int .i64 b, .int .i64 c] 33)).alloc (.cells #[.int .i64 x, .int .i64 y, .int .i64 z] 33)).alloc (.cells #[] 33)).cell? ((⟨B, off, none⟩ : Addr).add j) = some u) := hnews
  clear hnews hW
  go_enter Tryd.func5, Tryd.ntmps5
  go_wp2_with (at_builtin; go_must (refine wpList_append_own _ rfl _ _ 34 rfl (w.heap.size + 1 + 1) 33 i0 (.agg #[.int .i64 0, .int .i64 0, .int .i64 0]) 3 24 Tryd.underlying34 hi hz0 hz1 hz2 rfl (by decide) _ _ _ rfl HO.out ⟨B, off, none⟩ len cap (flat len f g h) rfl (flat_length _ _ _ _) HNW.out flat_one (by unfold maxLen; omega) (by omega) (by simp) ?_); intro v' w1 hown1 hgrow hnil)
  have hrow : ∀ k, some (w.heap.size + 1 + 1) = some k → w.heap.size + 1 + 1 ≤ k := fun k hk => by cases hk; exact Nat.le_refl _
  have hb1 : Below (w.heap.size + 1 + 1) (((w.alloc (.cells #[.int .i64 a, .int .i64 b, .int .i64 c] 33)).alloc (.cells #[.int .i64 x, .int .i64 y, .int .i64 z] 33)).alloc (.cells #[] 33)) w1 := (Below.refl _ _).grown hgrow (by simp) hrow
  have hv : v' ≠ .slice none 0 0 := by
    intro h
    have q : Value.slice (some ⟨w.heap.size + 1 + 1, 0, none⟩) 0 0 = Value.slice none 0 0 := (hnil.1 h).1
    cases q
  simp only [Nat.zero_add, List.nil_append] at hown1
  obtain ⟨G, cap2, hv2, hG, hGl, hGc⟩ := flat_owned hown1 hv
  have hSP : SP w G len a b c x y z f g h w1 := by
    refine ⟨?_, ?_, ⟨?_, ?_, ?_⟩, ⟨?_, ?_, ?_⟩, by omega, hGl, hGc⟩
    · have := hb1.size
      simp at this
      omega
    · have h0 : Below w.heap.size w (((w.alloc (.cells #[.int .i64 a, .int .i64 b, .int .i64 c] 33)).alloc (.cells #[.int .i64 x, .int .i64 y, .int .i64 z] 33)).alloc (.cells #[] 33)) := by go_grown
      exact h0.trans (hb1.mono (by omega))
    · exact (hb1.cell (by show w.heap.size < w.heap.size + 1 + 1; omega)).trans (by simp [go_sem])
    · exact (hb1.cell (by show w.heap.size < w.heap.size + 1 + 1; omega)).trans (by simp [go_sem])
    · exact (hb1.cell (by show w.heap.size < w.heap.size + 1 + 1; omega)).trans (by simp [go_sem])
    · exact (hb1.cell (by show w.heap.size + 1 < w.heap.size + 1 + 1; omega)).trans (by simp [go_sem])
    · exact (hb1.cell (by show w.heap.size + 1 < w.heap.size + 1 + 1; omega)).trans (by simp [go_sem])
    · exact (hb1.cell (by show w.heap.size + 1 < w.heap.size + 1 + 1; omega)).trans (by simp [go_sem])
  clear hb1 hrow hv hown1 hnil hgrow hG hGl hGc HO HNW hi hz0 hz1 hz2
  rw [hv2]
  clear hv2
  refine wp_region_noPanic ?_
  refine wp_region_held_drew (S := SP w G len a b c x y z f g h) (by kernel_rfl) (hSP.drew) (fun hHeld => ?_)
  refine wpAnyH_take (i := 0) (v := ?vp0) rfl (by kernel_rfl) (by kernel_rfl) (by kernel_rfl) (fun _ _ _ h => h) (Or.inl ⟨by rfl, ?hyp0⟩) (by assumption) ?restp0
  case hyp0 => (intro u hu; obtain ⟨_, _, ⟨_, _, _⟩, ⟨_, _, _⟩, _, _, _⟩ := hu; go_simp; try with_reducible rfl)
  try simp only [Act.put, List.setIfInBounds_toArray, List.set_cons_zero, List.set_cons_succ, List.getElem_toArray, List.getElem_cons_zero, List.getElem_cons_succ]
  refine wpAnyH_take (i := 1) (v := ?vp1) rfl (by kernel_rfl) (by kernel_rfl) (by kernel_rfl) (fun _ _ _ h => h) (Or.inl ⟨by rfl, ?hyp1⟩) (by assumption) ?restp1
  case hyp1 => (intro u hu; obtain ⟨_, _, ⟨_, _, _⟩, ⟨_, _, _⟩, _, _, _⟩ := hu; go_simp; try with_reducible rfl)
  try simp only [Act.put, List.setIfInBounds_toArray, List.set_cons_zero, List.set_cons_succ, List.getElem_toArray, List.getElem_cons_zero, List.getElem_cons_succ]
  refine wpAnyH_take (i := 3) (v := ?vp3) rfl (by kernel_rfl) (by kernel_rfl) (by kernel_rfl) (fun _ _ _ h => h) (Or.inl ⟨by rfl, ?hyp3⟩) (by assumption) ?restp3
  case hyp3 => (intro u hu; obtain ⟨_, _, ⟨_, _, _⟩, ⟨_, _, _⟩, _, _, _⟩ := hu; go_simp; try with_reducible rfl)
  try simp only [Act.put, List.setIfInBounds_toArray, List.set_cons_zero, List.set_cons_succ, List.getElem_toArray, List.getElem_cons_zero, List.getElem_cons_succ]
  refine wpAnyH_take (i := 4) (v := ?vp4) rfl (by kernel_rfl) (by kernel_rfl) (by kernel_rfl) (fun _ _ _ h => h) (Or.inl ⟨by rfl, ?hyp4⟩) (by assumption) ?restp4
  case hyp4 => (intro u hu; obtain ⟨_, _, ⟨_, _, _⟩, ⟨_, _, _⟩, _, _, _⟩ := hu; go_simp; try with_reducible rfl)
  try simp only [Act.put, List.setIfInBounds_toArray, List.set_cons_zero, List.set_cons_succ, List.getElem_toArray, List.getElem_cons_zero, List.getElem_cons_succ]
  refine wpAnyH_ready (rs := [2]) (by kernel_rfl) (by simp) ?_
  refine AllReadyH.cons rfl (fun K hK => ?_) AllReadyH.nil
  go_simp
  refine (Plus_calls _ _ _ _ _ _ _).mono ?_
  rintro e w2 ⟨rfl, hb2⟩
  go_wp2_with fail
  refine hK.out _ _ (hHeld.on hb2) (fun hHeld2 => ?_)
  clear hK K hHeld
  have hHeld := hHeld2
  clear hHeld2
  try simp only [Act.put, List.setIfInBounds_toArray, List.set_cons_zero, List.set_cons_succ, List.getElem_toArray, List.getElem_cons_zero, List.getElem_cons_succ]
  refine wpAnyH_ready (rs := [5]) (by kernel_rfl) (by simp) ?_
  refine AllReadyH.cons rfl (fun K hK => ?_) AllReadyH.nil
  go_simp
  refine (rplus_calls _ _ _ _ _ _ _).mono ?_
  rintro e w3 ⟨rfl, hb2⟩
  go_wp2_with fail
  refine hK.out _ _ (hHeld.on hb2) (fun hHeld2 => ?_)
  clear hK K hHeld
  have hHeld := hHeld2
  clear hHeld2
  try simp only [Act.put, List.setIfInBounds_toArray, List.set_cons_zero, List.set_cons_succ, List.getElem_toArray, List.getElem_cons_zero, List.getElem_cons_succ]
  refine wpAnyH_take (i := 6) (v := ?vp6) rfl (by kernel_rfl) (by kernel_rfl) (by kernel_rfl) (fun _ _ _ h => h) (Or.inl ⟨by rfl, ?hyp6⟩) (by assumption) ?restp6
  case hyp6 => (intro u hu; obtain ⟨_, _, ⟨_, _, _⟩, ⟨_, _, _⟩, _, _, _⟩ := hu; go_simp; try with_reducible rfl)
  try simp only [Act.put, List.setIfInBounds_toArray, List.set_cons_zero, List.set_cons_succ, List.getElem_toArray, List.getElem_cons_zero, List.getElem_cons_succ]
  refine wpAnyH_take (i := 7) (v := ?vp7) rfl (by kernel_rfl) (by kernel_rfl) (by kernel_rfl) (fun _ _ _ h => h) (Or.inl ⟨by rfl, ?hyp7⟩) (by assumption) ?restp7
  case hyp7 => (intro u hu; obtain ⟨_, _, ⟨_, _, _⟩, ⟨_, _, _⟩, _, _, _⟩ := hu; go_simp; try with_reducible rfl)
  try simp only [Act.put, List.setIfInBounds_toArray, List.set_cons_zero, List.set_cons_succ, List.getElem_toArray, List.getElem_cons_zero, List.getElem_cons_succ]
  refine wpAnyH_take (i := 8) (v := ?vp8) rfl (by kernel_rfl) (by kernel_rfl) (by kernel_rfl) (fun _ _ _ h => h) (Or.inl ⟨by rfl, ?hyp8⟩) (by assumption) ?restp8
  case hyp8 => (intro u hu; obtain ⟨_, _, ⟨_, _, _⟩, ⟨_, _, _⟩, _, _, _⟩ := hu; go_simp; try with_reducible rfl)
  try simp only [Act.put, List.setIfInBounds_toArray, List.set_cons_zero, List.set_cons_succ, List.getElem_toArray, List.getElem_cons_zero, List.getElem_cons_succ]
  refine wpAnyH_take (i := 9) (v := ?vp9) rfl (by kernel_rfl) (by kernel_rfl) (by kernel_rfl) (fun _ _ _ h => h) (Or.inl ⟨by rfl, ?hyp9⟩) (by assumption) ?restp9
  case hyp9 => (intro u hu; obtain ⟨_, _, ⟨_, _, _⟩, ⟨_, _, _⟩, _, _, _⟩ := hu; go_simp; try with_reducible rfl)
  try simp only [Act.put, List.setIfInBounds_toArray, List.set_cons_zero, List.set_cons_succ, List.getElem_toArray, List.getElem_cons_zero, List.getElem_cons_succ]
  refine wpAnyH_take (i := 11) (v := ?vp11) rfl (by kernel_rfl) (by kernel_rfl) (by kernel_rfl) (fun _ _ _ h => h) (Or.inl ⟨by rfl, ?hyp11⟩) (by assumption) ?restp11
  case hyp11 => (intro u hu; obtain ⟨_, _, ⟨_, _, _⟩, ⟨_, _, _⟩, _, _, _⟩ := hu; go_simp; try with_reducible rfl)
  try simp only [Act.put, List.setIfInBounds_toArray, List.set_cons_zero, List.set_cons_succ, List.getElem_toArray, List.getElem_cons_zero, List.getElem_cons_succ]
  refine wpAnyH_take (i := 12) (v := ?vp12) rfl (by kernel_rfl) (by kernel_rfl) (by kernel_rfl) (fun _ _ _ h => h) (Or.inl ⟨by rfl, ?hyp12⟩) (by assumption) ?restp12
  case hyp12 => (intro u hu; obtain ⟨_, _, ⟨_, _, _⟩, ⟨_, _, _⟩, _, _, _⟩ := hu; go_simp; try with_reducible rfl)
  try simp only [Act.put, List.setIfInBounds_toArray, List.set_cons_zero, List.set_cons_succ, List.getElem_toArray, List.getElem_cons_zero, List.getElem_cons_succ]
  refine wpAnyH_ready (rs := [10]) (by kernel_rfl) (by simp) ?_
  refine AllReadyH.cons rfl (fun K hK => ?_) AllReadyH.nil
  go_simp
  refine (Minus_calls _ _ _ _ _ _ _).mono ?_
  rintro e w4 ⟨rfl, hb2⟩
  go_wp2_with fail
  refine hK.out _ _ (hHeld.on hb2) (fun hHeld2 => ?_)
  clear hK K hHeld
  have hHeld := hHeld2
  clear hHeld2
  try simp only [Act.put, List.setIfInBounds_toArray, List.set_cons_zero, List.set_cons_succ, List.getElem_toArray, List.getElem_cons_zero, List.getElem_cons_succ]
  refine wpAnyH_ready (rs := [13]) (by kernel_rfl) (by simp) ?_
  refine AllReadyH.cons rfl (fun K hK => ?_) AllReadyH.nil
  go_simp
  refine (rminus_calls _ _ _ _ _ _ _).mono ?_
  rintro e w5 ⟨rfl, hb2⟩
  go_wp2_with fail
  refine hK.out _ _ (hHeld.on hb2) (fun hHeld2 => ?_)
  clear hK K hHeld
  have hHeld := hHeld2
  clear hHeld2
  try simp only [Act.put, List.setIfInBounds_toArray, List.set_cons_zero, List.set_cons_succ, List.getElem_toArray, List.getElem_cons_zero, List.getElem_cons_succ]
  refine wpAnyH_take (i := 14) (v := ?vp14) rfl (by kernel_rfl) (by kernel_rfl) (by kernel_rfl) (fun _ _ _ h => h) (Or.inl ⟨by rfl, ?hyp14⟩) (by assumption) ?restp14
  case hyp14 => (intro u hu; obtain ⟨_, _, ⟨_, _, _⟩, ⟨_, _, _⟩, _, _, _⟩ := hu; go_simp; try with_reducible rfl)
  try simp only [Act.put, List.setIfInBounds_toArray, List.set_cons_zero, List.set_cons_succ, List.getElem_toArray, List.getElem_cons_zero, List.getElem_cons_succ]
  refine wpAnyH_take (i := 15) (v := ?vp15) rfl (by kernel_rfl) (by kernel_rfl) (by kernel_rfl) (fun _ _ _ h => h) (Or.inl ⟨by rfl, ?hyp15⟩) (by assumption) ?restp15
  case hyp15 => (intro u hu; obtain ⟨_, _, ⟨_, _, _⟩, ⟨_, _, _⟩, _, _, _⟩ := hu; go_simp; try with_reducible rfl)
  try simp only [Act.put, List.setIfInBounds_toArray, List.set_cons_zero, List.set_cons_succ, List.getElem_toArray, List.getElem_cons_zero, List.getElem_cons_succ]
  refine wpAnyH_take (i := 16) (v := ?vp16) rfl (by kernel_rfl) (by kernel_rfl) (by kernel_rfl) (fun _ _ _ h => h) (Or.inl ⟨by rfl, ?hyp16⟩) (by assumption) ?restp16
  case hyp16 => (intro u hu; obtain ⟨_, _, ⟨_, _, _⟩, ⟨_, _, _⟩, _, _, _⟩ := hu; go_simp; try with_reducible rfl)
  try simp only [Act.put, List.setIfInBounds_toArray, List.set_cons_zero, List.set_cons_succ, List.getElem_toArray, List.getElem_cons_zero, List.getElem_cons_succ]
  refine wpAnyH_take (i := 17) (v := ?vp17) rfl (by kernel_rfl) (by kernel_rfl) (by kernel_rfl) (fun _ _ _ h => h) (Or.inl ⟨by rfl, ?hyp17⟩) (by assumption) ?restp17
  case hyp17 => (intro u hu; obtain ⟨_, _, ⟨_, _, _⟩, ⟨_, _, _⟩, _, _, _⟩ := hu; go_simp; try with_reducible rfl)
  try simp only [Act.put, List.setIfInBounds_toArray, List.set_cons_zero, List.set_cons_succ, List.getElem_toArray, List.getElem_cons_zero, List.getElem_cons_succ]
  refine wpAnyH_take (i := 18) (v := ?vp18) rfl (by kernel_rfl) (by kernel_rfl) (by kernel_rfl) (fun _ _ _ h => h) (Or.inl ⟨by rfl, ?hyp18⟩) (by assumption) ?restp18
  case hyp18 => (intro u hu; obtain ⟨_, _, ⟨_, _, _⟩, ⟨_, _, _⟩, _, _, _⟩ := hu; go_simp; try with_reducible rfl)
  try simp only [Act.put, List.setIfInBounds_toArray, List.set_cons_zero, List.set_cons_succ, List.getElem_toArray, List.getElem_cons_zero, List.getElem_cons_succ]
  refine wpAnyH_take (i := 20) (v := ?vp20) rfl (by kernel_rfl) (by kernel_rfl) (by kernel_rfl) (fun _ _ _ h => h) (Or.inl ⟨by rfl, ?hyp20⟩) (by assumption) ?restp20
  case hyp20 => (intro u hu; obtain ⟨_, _, ⟨_, _, _⟩, ⟨_, _, _⟩, _, _, _⟩ := hu; go_simp; try with_reducible rfl)
  try simp only [Act.put, List.setIfInBounds_toArray, List.set_cons_zero, List.set_cons_succ, List.getElem_toArray, List.getElem_cons_zero, List.getElem_cons_succ]
  refine wpAnyH_take (i := 21) (v := ?vp21) rfl (by kernel_rfl) (by kernel_rfl) (by kernel_rfl) (fun _ _ _ h => h) (Or.inl ⟨by rfl, ?hyp21⟩) (by assumption) ?restp21
  case hyp21 => (intro u hu; obtain ⟨_, _, ⟨_, _, _⟩, ⟨_, _, _⟩, _, _, _⟩ := hu; go_simp; try with_reducible rfl)
  try simp only [Act.put, List.setIfInBounds_toArray, List.set_cons_zero, List.set_cons_succ, List.getElem_toArray, List.getElem_cons_zero, List.getElem_cons_succ]
  refine wpAnyH_ready (rs := [19]) (by kernel_rfl) (by simp) ?_
  refine AllReadyH.cons rfl (fun K hK => ?_) AllReadyH.nil
  go_simp
  refine (Fits_calls _ _ _ _ _ _ _).mono ?_
  rintro e w6 ⟨rfl, hb2⟩
  go_wp2_with fail
  refine hK.out _ _ (hHeld.on hb2) (fun hHeld2 => ?_)
  clear hK K hHeld
  have hHeld := hHeld2
  clear hHeld2
  try simp only [Act.put, List.setIfInBounds_toArray, List.set_cons_zero, List.set_cons_succ, List.getElem_toArray, List.getElem_cons_zero, List.getElem_cons_succ]
  refine wpAnyH_ready (rs := [22]) (by kernel_rfl) (by simp) ?_
  refine AllReadyH.cons rfl (fun K hK => ?_) AllReadyH.nil
  go_simp
  refine (rfits_calls _ _ _ _ _ _ _).mono ?_
  rintro e w7 ⟨rfl, hb2⟩
  go_wp2_with fail
  refine hK.out _ _ (hHeld.on hb2) (fun hHeld2 => ?_)
  clear hK K hHeld
  have hHeld := hHeld2
  clear hHeld2
  try simp only [Act.put, List.setIfInBounds_toArray, List.set_cons_zero, List.set_cons_succ, List.getElem_toArray, List.getElem_cons_zero, List.getElem_cons_succ]
  refine wpAnyH_take (i := 23) (v := ?vp23) rfl (by kernel_rfl) (by kernel_rfl) (by kernel_rfl) (fun _ _ _ h => h) (Or.inl ⟨by rfl, ?hyp23⟩) (by assumption) ?restp23
  case hyp23 => (intro u hu; obtain ⟨_, _, ⟨_, _, _⟩, ⟨_, _, _⟩, _, _, _⟩ := hu; go_simp; try with_reducible rfl)
  try simp only [Act.put, List.setIfInBounds_toArray, List.set_cons_zero, List.set_cons_succ, List.getElem_toArray, List.getElem_cons_zero, List.getElem_cons_succ]
  refine wpAnyH_take (i := 24) (v := ?vp24) rfl (by kernel_rfl) (by kernel_rfl) (by kernel_rfl) (fun _ _ _ h => h) (Or.inl ⟨by rfl, ?hyp24⟩) (by assumption) ?restp24
  case hyp24 => (intro u hu; obtain ⟨_, _, ⟨_, _, _⟩, ⟨_, _, _⟩, _, _, _⟩ := hu; go_simp; try with_reducible rfl)
  try simp only [Act.put, List.setIfInBounds_toArray, List.set_cons_zero, List.set_cons_succ, List.getElem_toArray, List.getElem_cons_zero, List.getElem_cons_succ]
  refine wpAnyH_take (i := 25) (v := ?vp25) rfl (by kernel_rfl) (by kernel_rfl) (by kernel_rfl) (fun _ _ _ h => h) (Or.inl ⟨by rfl, ?hyp25⟩) (by assumption) ?restp25
  case hyp25 => (intro u hu; obtain ⟨_, _, ⟨_, _, _⟩, ⟨_, _, _⟩, _, _, _⟩ := hu; go_simp; try with_reducible rfl)
  try simp only [Act.put, List.setIfInBounds_toArray, List.set_cons_zero, List.set_cons_succ, List.getElem_toArray, List.getElem_cons_zero, List.getElem_cons_succ]
  refine wpAnyH_take (i := 26) (v := ?vp26) rfl (by kernel_rfl) (by kernel_rfl) (by kernel_rfl) (fun _ _ _ h => h) (Or.inl ⟨by rfl, ?hyp26⟩) (by assumption) ?restp26
  case hyp26 => (intro u hu; obtain ⟨_, _, ⟨_, _, _⟩, ⟨_, _, _⟩, _, _, _⟩ := hu; go_simp; try with_reducible rfl)
  try simp only [Act.put, List.setIfInBounds_toArray, List.set_cons_zero, List.set_cons_succ, List.getElem_toArray, List.getElem_cons_zero, List.getElem_cons_succ]
  refine wpAnyH_take (i := 28) (v := ?vp28) rfl (by kernel_rfl) (by kernel_rfl) (by kernel_rfl) (fun _ _ _ h => h) (Or.inl ⟨by rfl, ?hyp28⟩) (by assumption) ?restp28
  case hyp28 => (intro u hu; obtain ⟨_, _, ⟨_, _, _⟩, ⟨_, _, _⟩, _, _, _⟩ := hu; go_simp; try with_reducible rfl)
  try simp only [Act.put, List.setIfInBounds_toArray, List.set_cons_zero, List.set_cons_succ, List.getElem_toArray, List.getElem_cons_zero, List.getElem_cons_succ]
  refine wpAnyH_ready (rs := [27]) (by kernel_rfl) (by simp) ?_
  refine AllReadyH.cons rfl (fun K hK => ?_) AllReadyH.nil
  go_simp
  refine (Sum_some _ _ _ _ f g h _ (by omega) hHeld.2.2.2.2.2.1 hHeld.own).mono ?_
  rintro e w8 ⟨rfl, hb2⟩
  go_wp2_with fail
  refine hK.out _ _ (hHeld.on hb2) (fun hHeld2 => ?_)
  clear hK K hHeld
  have hHeld := hHeld2
  clear hHeld2
  try simp only [Act.put, List.setIfInBounds_toArray, List.set_cons_zero, List.set_cons_succ, List.getElem_toArray, List.getElem_cons_zero, List.getElem_cons_succ]
  refine wpAnyH_ready (rs := [29]) (by kernel_rfl) (by simp) ?_
  refine AllReadyH.cons rfl (fun K hK => ?_) AllReadyH.nil
  go_simp
  refine (rSum_some _ _ _ _ f g h _ (by omega) (hHeld.lB hB) (hHeld.lC hB hc)).mono ?_
  rintro e w9 ⟨rfl, hb2⟩
  go_wp2_with fail
  refine hK.out _ _ (hHeld.on hb2) (fun hHeld2 => ?_)
  clear hK K hHeld
  have hHeld := hHeld2
  clear hHeld2
  try simp only [Act.put, List.setIfInBounds_toArray, List.set_cons_zero, List.set_cons_succ, List.getElem_toArray, List.getElem_cons_zero, List.getElem_cons_succ]
  refine wpAnyH_take (i := 30) (v := ?vp30) rfl (by kernel_rfl) (by kernel_rfl) (by kernel_rfl) (fun _ _ _ h => h) (Or.inl ⟨by rfl, ?hyp30⟩) (by assumption) ?restp30
  case hyp30 => (intro u hu; obtain ⟨_, _, ⟨_, _, _⟩, ⟨_, _, _⟩, _, _, _⟩ := hu; go_simp; try with_reducible rfl)
  try simp only [Act.put, List.setIfInBounds_toArray, List.set_cons_zero, List.set_cons_succ, List.getElem_toArray, List.getElem_cons_zero, List.getElem_cons_succ]
  refine wpAnyH_take (i := 31) (v := ?vp31) rfl (by kernel_rfl) (by kernel_rfl) (by kernel_rfl) (fun _ _ _ h => h) (Or.inl ⟨by rfl, ?hyp31⟩) (by assumption) ?restp31
  case hyp31 => (intro u hu; obtain ⟨_, _, ⟨_, _, _⟩, ⟨_, _, _⟩, _, _, _⟩ := hu; go_simp; try with_reducible rfl)
  try simp only [Act.put, List.setIfInBounds_toArray, List.set_cons_zero, List.set_cons_succ, List.getElem_toArray, List.getElem_cons_zero, List.getElem_cons_succ]
  refine wpAnyH_take (i := 32) (v := ?vp32) rfl (by kernel_rfl) (by kernel_rfl) (by kernel_rfl) (fun _ _ _ h => h) (Or.inl ⟨by rfl, ?hyp32⟩) (by assumption) ?restp32
  case hyp32 => (intro u hu; obtain ⟨_, _, ⟨_, _, _⟩, ⟨_, _, _⟩, _, _, _⟩ := hu; go_simp; try with_reducible rfl)
  try simp only [Act.put, List.setIfInBounds_toArray, List.set_cons_zero, List.set_cons_succ, List.getElem_toArray, List.getElem_cons_zero, List.getElem_cons_succ]
  refine wpAnyH_done (by kernel_rfl) ?_ _
  refine NoPanic.normal ?_
  have hS9 := hHeld
  clear hHeld hSP
  go_wp2_with fail
  go_loopw [9] (fun i wr => ∃ k : Nat, k ≤ len ∧ i = .int .i64 k ∧ SP w G len a b c x y z f g h wr) (fun i _ => len - (intOf i).toNat)
  case atStart => exact ⟨0, Nat.zero_le _, rfl, hS9⟩
  case round =>
    obtain ⟨k, hk, rfl, hS⟩ := hrel
    by_cases hkl : k < len
    · have b0 : (0 : Int) ≤ (k : Int) := by omega
      have b1 : (k : Int) < (len : Int) := by omega
      go_wp2_with fail
      refine wp_region_noPanic ?_
      refine wp_region_held_drew (S := SK w G B off len k a b c x y z f g h) (by kernel_rfl) (SK.start hS hB hc hkl) (fun hHeld => ?_)
      refine wpAnyH_take (i := 0) (v := ?vq0) rfl (by kernel_rfl) (by kernel_rfl) (by kernel_rfl) (fun _ _ _ h => h) (Or.inl ⟨by rfl, ?hyq0⟩) (by assumption) ?restq0
      case hyq0 => (intro u hu; obtain ⟨_, _, _, _, _, _, _⟩ := hu; go_simp; try with_reducible rfl)
      try simp only [Act.put, List.setIfInBounds_toArray, List.set_cons_zero, List.set_cons_succ, List.getElem_toArray, List.getElem_cons_zero, List.getElem_cons_succ]
      refine wpAnyH_take (i := 1) (v := ?vq1) rfl (by kernel_rfl) (by kernel_rfl) (by kernel_rfl) (fun _ _ _ h => h) (Or.inl ⟨by rfl, ?hyq1⟩) (by assumption) ?restq1
      case hyq1 => (intro u hu; obtain ⟨_, _, _, _, _, _, _⟩ := hu; go_simp; try with_reducible rfl)
      try simp only [Act.put, List.setIfInBounds_toArray, List.set_cons_zero, List.set_cons_succ, List.getElem_toArray, List.getElem_cons_zero, List.getElem_cons_succ]
      refine wpAnyH_take (i := 2) (v := ?vq2) rfl (by kernel_rfl) (by kernel_rfl) (by kernel_rfl) (fun _ _ _ h => h) (Or.inl ⟨by rfl, ?hyq2⟩) (by assumption) ?restq2
      case hyq2 => (intro u hu; obtain ⟨_, _, _, _, _, _, _⟩ := hu; go_simp; try with_reducible rfl)
      try simp only [Act.put, List.setIfInBounds_toArray, List.set_cons_zero, List.set_cons_succ, List.getElem_toArray, List.getElem_cons_zero, List.getElem_cons_succ]
      refine wpAnyH_take (i := 3) (v := ?vq3) rfl (by kernel_rfl) (by kernel_rfl) (by kernel_rfl) (fun _ _ _ h => h) (Or.inl ⟨by rfl, ?hyq3⟩) (by assumption) ?restq3
      case hyq3 => (intro u hu; obtain ⟨_, _, _, _, _, _, _⟩ := hu; go_simp; try with_reducible rfl)
      try simp only [Act.put, List.setIfInBounds_toArray, List.set_cons_zero, List.set_cons_succ, List.getElem_toArray, List.getElem_cons_zero, List.getElem_cons_succ]
      refine wpAnyH_take (i := 4) (v := ?vq4) rfl (by kernel_rfl) (by kernel_rfl) (by kernel_rfl) (fun _ _ _ h => h) (Or.inl ⟨by rfl, ?hyq4⟩) (by assumption) ?restq4
      case hyq4 => (intro u hu; obtain ⟨_, _, _, _, _, _, _⟩ := hu; go_simp; try with_reducible rfl)
      try simp only [Act.put, List.setIfInBounds_toArray, List.set_cons_zero, List.set_cons_succ, List.getElem_toArray, List.getElem_cons_zero, List.getElem_cons_succ]
      refine wpAnyH_take (i := 5) (v := ?vq5) rfl (by kernel_rfl) (by kernel_rfl) (by kernel_rfl) (fun _ _ _ h => h) (Or.inl ⟨by rfl, ?hyq5⟩) (by assumption) ?restq5
      case hyq5 => (intro u hu; obtain ⟨_, _, _, _, _, _, _⟩ := hu; go_simp; try with_reducible rfl)
      try simp only [Act.put, List.setIfInBounds_toArray, List.set_cons_zero, List.set_cons_succ, List.getElem_toArray, List.getElem_cons_zero, List.getElem_cons_succ]
      refine wpAnyH_take (i := 6) (v := ?vq6) rfl (by kernel_rfl) (by kernel_rfl) (by kernel_rfl) (fun _ _ _ h => h) (Or.inl ⟨by rfl, ?hyq6⟩) (by assumption) ?restq6
      case hyq6 => (intro u hu; obtain ⟨_, _, _, _, _, _, _⟩ := hu; go_simp; try with_reducible rfl)
      try simp only [Act.put, List.setIfInBounds_toArray, List.set_cons_zero, List.set_cons_succ, List.getElem_toArray, List.getElem_cons_zero, List.getElem_cons_succ]
      refine wpAnyH_take (i := 7) (v := ?vq7) rfl (by kernel_rfl) (by kernel_rfl) (by kernel_rfl) (fun _ _ _ h => h) (Or.inl ⟨by rfl, ?hyq7⟩) (by assumption) ?restq7
      case hyq7 => (intro u hu; obtain ⟨_, _, _, _, _, _, _⟩ := hu; go_simp; try with_reducible rfl)
      try simp only [Act.put, List.setIfInBounds_toArray, List.set_cons_zero, List.set_cons_succ, List.getElem_toArray, List.getElem_cons_zero, List.getElem_cons_succ]
      refine wpAnyH_take (i := 8) (v := ?vq8) rfl (by kernel_rfl) (by kernel_rfl) (by kernel_rfl) (fun _ _ _ h => h) (Or.inl ⟨by rfl, ?hyq8⟩) (by assumption) ?restq8
      case hyq8 => (intro u hu; obtain ⟨_, _, _, _, _, _, _⟩ := hu; go_simp; try with_reducible rfl)
      try simp only [Act.put, List.setIfInBounds_toArray, List.set_cons_zero, List.set_cons_succ, List.getElem_toArray, List.getElem_cons_zero, List.getElem_cons_succ]
      refine wpAnyH_done (by kernel_rfl) ?_ _
      refine NoPanic.normal ?_
      go_wp2_with fail
      go_roundw
      case rel => exact ⟨k + 1, by omega, by go_num, hHeld.1⟩
      case measure => simp [intOf]; omega
    · obtain rfl : k = len := by omega
      go_wp2_with fail
      refine (works_calls _ (ht.on hS.2.1)).mono ?_
      rintro e w10 ⟨rfl, hb10⟩
      go_wp2_with fail
      go_ret
      exact ⟨rfl, hS.2.1.trans (hb10.mono hS.2.1.size)⟩
end Go.Proofs.YthnfdbbnmddnhaaDoor.quantParts
