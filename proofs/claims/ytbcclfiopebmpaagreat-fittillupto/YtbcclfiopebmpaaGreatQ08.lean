/- fit.visitOf. Condition: the arguments lie as is said of them. fit.reasons: the list of reasons, and what each of its functions answers. No condition. fit.Check answers the first reason. Condition: the arguments lie as is said of them. How many pods alike find room, as plain reckoning. No condition. fit.times. Condition: both are amounts. How many like a visit's pod could come. Condition: the argument lies as is said of it, and one may come. fit.Most answers how many may come. Condition: the arguments lie as is said of them, and the node's number of pods is a number of Go's. -/
import Derived.Test.YtbcclfiopebmpaaGreatQ07
import Derived.Test.YtbcclfiopebmpaaGreatQ05
import Derived.Laws.EntriesVeiled
import Derived.Test.YtbcclfiopebmpaaGreatQ06
import Derived.Laws.Cover1
import Derived.Lib.MinMax
namespace Go.Proofs.YtbcclfiopebmpaaGreat
open Go.RowKit
set_option linter.unusedSimpArgs false
set_option maxRecDepth 100000

theorem sizePod7 : (Tryz.prog.info? 33).map (·.size) = some 16 := by kernel_rfl
theorem sizeInfo7 : (Tryz.prog.info? 44).map (·.size) = some 15 := by kernel_rfl
theorem wpl_w {P : Program} {ops : Array Oper} {Q : Exit → Act → World → Prop} {rest : List Oper} {a : Act} {u W : World} (h : W = u) (k : wpList P ops Q rest a W) : wpList P ops Q rest a u := h ▸ k
theorem want_yes7 {c : Prop} [Decidable c] {A B : Prop} (h : c) (k : A) : if c then A else B := by rw [if_pos h]; exact k
/-- A whole struct is read, where its guard says so. -/
theorem load_w7 {ops : Array Oper} {rest : List Oper} {op : Oper} {a : Act} {w : World} {Q : Exit → Act → World → Prop} (hgd : Region.wanted op (yielded ops a.tmps) = true) (ty : TypeId) (x : Operand) (ho : op.op = .load ty x)
    (b o : Nat) (hx : a.eval x = .pointer (some ⟨b, o, none⟩)) (cs : List Value) (d : TypeDesc) (hc : w.rangeAt b o cs)
    (hu : Tryz.prog.underlying ty = some d) (hd : d.isRow = true) (hi : (Tryz.prog.info? ty).map (·.size) = some cs.length)
    (h : wpList Tryz.prog ops Q rest (a.put op.dst (.agg cs.toArray)) w) : wpList Tryz.prog ops Q (op :: rest) a w :=
  BigFrame.wpList_want hgd (fun _ hK => wp_load_mid ty x ho b o hx cs d hc hu hd hi (hK _ _ h))
theorem at_w7 {K : Act → World → Prop} {a : Act} {u W : World} (h : W = u) (k : K a W) : K a u := h ▸ k
theorem box_over {u : World} {D : Nat} {zs cs : List Value} (hb : BoxL u D zs) (hl : zs.length = cs.length) : BoxL (u.setCells D 0 cs) D cs := by
  have hth : u.there D 0 cs.length := hl ▸ hb.there
  have hr := World.rangeAt_setCells_same u D 0 cs hth
  have ht2 := World.there_setCells hth D 0 cs
  refine ⟨Nat.lt_of_lt_of_le hb.1 (kept_setCells (A := fun _ => False) (b := D) (fun h => h) (vs := cs) (o := 0) (u := u)).1, fun j v hj => ?_⟩
  have h1 := hr j v hj
  have h2 := (ht2 j (List.getElem?_eq_some_iff.1 hj).1).2
  rw [Nat.zero_add] at h1 h2
  exact ⟨h1, h2⟩
theorem RPod.litW {A : Where} {w : World} {cs : List Value} {q : PodD} (h : RPod A w cs q) : ∃ v0 v1 v2 v6 v7 v8 v9 v10 v11 v12 v13 v14 v15 : Value, cs = [v0, v1, v2, .int .i64 (pWant q).1, .int .i64 (pWant q).2.1, .int .i64 (pWant q).2.2, v6, v7, v8, v9, v10, v11, v12, v13, v14, v15] := by
  obtain ⟨_, _, _, _, _, _, _, _, _, rfl, _⟩ := h.out
  exact ⟨_, _, _, _, _, _, _, _, _, _, _, _, _, rfl⟩
theorem RInfo.lit7 {A : Where} {w : World} {cs : List Value} {q : InfoD} (h : RInfo A w cs q) : ∃ f0 f1 f2 f3 f4 f5 f6 f7 f8 f9 f10 f11 f12 f13 f14 : Value, cs = [f0, f1, f2, f3, f4, f5, f6, f7, f8, f9, f10, f11, f12, f13, f14] := by
  obtain ⟨_, _, _, _, _, rfl, _⟩ := h.out
  exact ⟨_, _, _, _, _, _, _, _, _, _, _, _, _, _, _, rfl⟩
theorem sum_one7 (a : Int) : sumI (fun _ => a) 1 = clampI a := by
  simp only [sumI, addI]
  rw [show clampI 0 = 0 from rfl, Int.zero_add, clampI_clampI]
def VoS (w : World) (P I : List Value) (u : World) : Prop := BoxL u w.heap.size P ∧ BoxL u (w.heap.size + 1) I
set_option maxHeartbeats 8000000 in
theorem visitOf_calls (ds cs : List Value) (A : Where) (y : PodD) (x : InfoD) (w : World) (h : Hid (RPod A w ds y)) (h' : Hid (RInfo A w cs x)) : Calls Tryz.prog 16 #[.agg ds.toArray, .agg cs.toArray] w fun e w' => ∃ vs, e = .returned (.agg vs.toArray) ∧ RVisit A w' vs (y, x, wantP y, freeP x) ∧ Below w.heap.size w w' := by
  have HP : Hid (∀ u, Below w.heap.size w u → RPod A u ds y) := fun u hb => RPod.firm.kept h.out (Kept.below hb)
  have HI : Hid (∀ u, Below w.heap.size w u → RInfo A u cs x) := fun u hb => RInfo.firm.kept h'.out (Kept.below hb)
  have HOP := RPod.firm.one h.out
  have HOI := RInfo.firm.one h'.out
  obtain ⟨v0, v1, v2, v6, v7, v8, v9, v10, v11, v12, v13, v14, v15, rfl⟩ := h.out.litW
  obtain ⟨f0, f1, f2, f3, f4, f5, f6, f7, f8, f9, f10, f11, f12, f13, f14, rfl⟩ := h'.out.lit7
  have hwant : Hid (wantP y = (clampI (pWant y).1, clampI (pWant y).2.1, clampI (pWant y).2.2)) := rfl
  rw [hwant.out]
  generalize pWant y = wt at HP HOP
  obtain ⟨wa, wb, wc⟩ := wt
  simp only at HP HOP ⊢
  have hO : Hid ((([v0, v1, v2, .int .i64 wa, .int .i64 wb, .int .i64 wc, v6, v7, v8, v9, v10, v11, v12, v13, v14, v15, f0, f1, f2, f3, f4, f5, f6, f7, f8, f9, f10, f11, f12, f13, f14, .int .i64 (clampI wa), .int .i64 (clampI wb), .int .i64 (clampI wc), .int .i64 (freeP x).1, .int .i64 (freeP x).2.1, .int .i64 (freeP x).2.2] : List Value).toArray).all (·.oneCell') = true) := by
    refine all_oneCell_toArray (fun v hv => ?_)
    rw [show [v0, v1, v2, .int .i64 wa, .int .i64 wb, .int .i64 wc, v6, v7, v8, v9, v10, v11, v12, v13, v14, v15, f0, f1, f2, f3, f4, f5, f6, f7, f8, f9, f10, f11, f12, f13, f14, .int .i64 (clampI wa), .int .i64 (clampI wb), .int .i64 (clampI wc), .int .i64 (freeP x).1, .int .i64 (freeP x).2.1, .int .i64 (freeP x).2.2] = [v0, v1, v2, .int .i64 wa, .int .i64 wb, .int .i64 wc, v6, v7, v8, v9, v10, v11, v12, v13, v14, v15] ++ ([f0, f1, f2, f3, f4, f5, f6, f7, f8, f9, f10, f11, f12, f13, f14] ++ [.int .i64 (clampI wa), .int .i64 (clampI wb), .int .i64 (clampI wc), .int .i64 (freeP x).1, .int .i64 (freeP x).2.1, .int .i64 (freeP x).2.2]) from rfl] at hv
    rcases List.mem_append.1 hv with hv | hv
    · exact HOP v hv
    · rcases List.mem_append.1 hv with hv | hv
      · exact HOI v hv
      · simp only [List.mem_cons, List.not_mem_nil, or_false] at hv
        rcases hv with rfl | rfl | rfl | rfl | rfl | rfl <;> rfl
  clear h h' HOP HOI
  have HFr := fun u hb => Free_calls [f0, f1, f2, f3, f4, f5, f6, f7, f8, f9, f10, f11, f12, f13, f14] A x u (HI.out u hb)
  have HM : Hid (∀ u, Below w.heap.size w u → RVisit A u [v0, v1, v2, .int .i64 wa, .int .i64 wb, .int .i64 wc, v6, v7, v8, v9, v10, v11, v12, v13, v14, v15, f0, f1, f2, f3, f4, f5, f6, f7, f8, f9, f10, f11, f12, f13, f14, .int .i64 (clampI wa), .int .i64 (clampI wb), .int .i64 (clampI wc), .int .i64 (freeP x).1, .int .i64 (freeP x).2.1, .int .i64 (freeP x).2.2] (y, x, (clampI wa, clampI wb, clampI wc), freeP x)) := fun u hb => RVisit.mk (HP.out u hb) (HI.out u hb)
  generalize freeP x = fr at HFr hO HM
  obtain ⟨fa, fb, fc⟩ := fr
  simp only at HFr hO HM
  have HFr' : Hid (∀ u, Below w.heap.size w u → Calls Tryz.prog 27 #[.agg #[f0, f1, f2, f3, f4, f5, f6, f7, f8, f9, f10, f11, f12, f13, f14]] u fun e w' => e = .returned (.agg #[.int .i64 fa, .int .i64 fb, .int .i64 fc]) ∧ Below u.heap.size u w') := fun u hb => HFr u hb
  clear HFr HI HP
  obtain ⟨W3, hW3⟩ : ∃ W3, W3 = ((w.alloc (.cells #[v0, v1, v2, .int .i64 wa, .int .i64 wb, .int .i64 wc, v6, v7, v8, v9, v10, v11, v12, v13, v14, v15] 33)).alloc (.cells #[f0, f1, f2, f3, f4, f5, f6, f7, f8, f9, f10, f11, f12, f13, f14] 44)).alloc (.cells #[.string ⟨#[]⟩, .int .i64 0, .slice none 0 0, .int .i64 0, .int .i64 0, .int .i64 0, .slice none 0 0, .slice none 0 0, .slice none 0 0, .slice none 0 0, .slice none 0 0, .slice none 0 0, .slice none 0 0, .slice none 0 0, .string ⟨#[]⟩, .string ⟨#[]⟩, .string ⟨#[]⟩, .slice none 0 0, .slice none 0 0, .bool false, .int .i64 0, .int .i64 0, .int .i64 0, .int .i64 0, .int .i64 0, .slice none 0 0, .int .i64 0, .int .i64 0, .int .i64 0, .slice none 0 0, .slice none 0 0, .int .i64 0, .int .i64 0, .int .i64 0, .int .i64 0, .int .i64 0, .int .i64 0] 57) := ⟨_, rfl⟩
  have B3 : Hid (Below w.heap.size w W3) := by rw [Hid, hW3]; go_grown
  have HS : Hid (∀ u, Below W3.heap.size W3 u → VoS w [v0, v1, v2, .int .i64 wa, .int .i64 wb, .int .i64 wc, v6, v7, v8, v9, v10, v11, v12, v13, v14, v15] [f0, f1, f2, f3, f4, f5, f6, f7, f8, f9, f10, f11, f12, f13, f14] u) := fun u hb => by
    have h1 := ((BoxL.new w 33 [v0, v1, v2, .int .i64 wa, .int .i64 wb, .int .i64 wc, v6, v7, v8, v9, v10, v11, v12, v13, v14, v15]).on ((Below.refl _ _).alloc (Nat.le_refl _) (.cells #[f0, f1, f2, f3, f4, f5, f6, f7, f8, f9, f10, f11, f12, f13, f14] 44))).on ((Below.refl _ _).alloc (Nat.le_refl _) (.cells #[.string ⟨#[]⟩, .int .i64 0, .slice none 0 0, .int .i64 0, .int .i64 0, .int .i64 0, .slice none 0 0, .slice none 0 0, .slice none 0 0, .slice none 0 0, .slice none 0 0, .slice none 0 0, .slice none 0 0, .slice none 0 0, .string ⟨#[]⟩, .string ⟨#[]⟩, .string ⟨#[]⟩, .slice none 0 0, .slice none 0 0, .bool false, .int .i64 0, .int .i64 0, .int .i64 0, .int .i64 0, .int .i64 0, .slice none 0 0, .int .i64 0, .int .i64 0, .int .i64 0, .slice none 0 0, .slice none 0 0, .int .i64 0, .int .i64 0, .int .i64 0, .int .i64 0, .int .i64 0, .int .i64 0] 57))
    have h2 := (BoxL.new (w.alloc (.cells #[v0, v1, v2, .int .i64 wa, .int .i64 wb, .int .i64 wc, v6, v7, v8, v9, v10, v11, v12, v13, v14, v15] 33)) 44 [f0, f1, f2, f3, f4, f5, f6, f7, f8, f9, f10, f11, f12, f13, f14]).on ((Below.refl _ _).alloc (Nat.le_refl _) (.cells #[.string ⟨#[]⟩, .int .i64 0, .slice none 0 0, .int .i64 0, .int .i64 0, .int .i64 0, .slice none 0 0, .slice none 0 0, .slice none 0 0, .slice none 0 0, .slice none 0 0, .slice none 0 0, .slice none 0 0, .slice none 0 0, .string ⟨#[]⟩, .string ⟨#[]⟩, .string ⟨#[]⟩, .slice none 0 0, .slice none 0 0, .bool false, .int .i64 0, .int .i64 0, .int .i64 0, .int .i64 0, .int .i64 0, .slice none 0 0, .int .i64 0, .int .i64 0, .int .i64 0, .slice none 0 0, .slice none 0 0, .int .i64 0, .int .i64 0, .int .i64 0, .int .i64 0, .int .i64 0, .int .i64 0] 57))
    rw [hW3] at hb
    exact ⟨h1.on hb, by simpa using h2.on hb⟩
  have HZ : Hid (∀ u, Below W3.heap.size W3 u → BoxL u (w.heap.size + 1 + 1) [.string ⟨#[]⟩, .int .i64 0, .slice none 0 0, .int .i64 0, .int .i64 0, .int .i64 0, .slice none 0 0, .slice none 0 0, .slice none 0 0, .slice none 0 0, .slice none 0 0, .slice none 0 0, .slice none 0 0, .slice none 0 0, .string ⟨#[]⟩, .string ⟨#[]⟩, .string ⟨#[]⟩, .slice none 0 0, .slice none 0 0, .bool false, .int .i64 0, .int .i64 0, .int .i64 0, .int .i64 0, .int .i64 0, .slice none 0 0, .int .i64 0, .int .i64 0, .int .i64 0, .slice none 0 0, .slice none 0 0, .int .i64 0, .int .i64 0, .int .i64 0, .int .i64 0, .int .i64 0, .int .i64 0]) := fun u hb => by
    have h1 := BoxL.new ((w.alloc (.cells #[v0, v1, v2, .int .i64 wa, .int .i64 wb, .int .i64 wc, v6, v7, v8, v9, v10, v11, v12, v13, v14, v15] 33)).alloc (.cells #[f0, f1, f2, f3, f4, f5, f6, f7, f8, f9, f10, f11, f12, f13, f14] 44)) 57 [.string ⟨#[]⟩, .int .i64 0, .slice none 0 0, .int .i64 0, .int .i64 0, .int .i64 0, .slice none 0 0, .slice none 0 0, .slice none 0 0, .slice none 0 0, .slice none 0 0, .slice none 0 0, .slice none 0 0, .slice none 0 0, .string ⟨#[]⟩, .string ⟨#[]⟩, .string ⟨#[]⟩, .slice none 0 0, .slice none 0 0, .bool false, .int .i64 0, .int .i64 0, .int .i64 0, .int .i64 0, .int .i64 0, .slice none 0 0, .int .i64 0, .int .i64 0, .int .i64 0, .slice none 0 0, .slice none 0 0, .int .i64 0, .int .i64 0, .int .i64 0, .int .i64 0, .int .i64 0, .int .i64 0]
    rw [hW3] at hb
    simpa using h1.on hb
  have hiP : (Tryz.prog.info? 33).map (·.size) = some ([v0, v1, v2, .int .i64 wa, .int .i64 wb, .int .i64 wc, v6, v7, v8, v9, v10, v11, v12, v13, v14, v15] : List Value).length := sizePod7
  have hiI : (Tryz.prog.info? 44).map (·.size) = some ([f0, f1, f2, f3, f4, f5, f6, f7, f8, f9, f10, f11, f12, f13, f14] : List Value).length := sizeInfo7
  have hsz : Hid (w.heap.size + 2 < W3.heap.size) := by rw [Hid, hW3]; simp
  go_enter Tryz.func16, Tryz.ntmps16
  go_wp2_with fail
  rw [← hW3]
  clear hW3
  refine wp_region_noPanic ?_
  refine wp_region_held_drew (S := VoS w [v0, v1, v2, .int .i64 wa, .int .i64 wb, .int .i64 wc, v6, v7, v8, v9, v10, v11, v12, v13, v14, v15] [f0, f1, f2, f3, f4, f5, f6, f7, f8, f9, f10, f11, f12, f13, f14]) (by kernel_rfl) (HS.out _ (Below.refl _ _).drew) (fun hHeld => ?_)
  refine tq 0 (.agg ([v0, v1, v2, .int .i64 wa, .int .i64 wb, .int .i64 wc, v6, v7, v8, v9, v10, v11, v12, v13, v14, v15] : List Value).toArray) (yieldsIf_load_mid rfl 33 _ rfl w.heap.size 0 rfl [v0, v1, v2, .int .i64 wa, .int .i64 wb, .int .i64 wc, v6, v7, v8, v9, v10, v11, v12, v13, v14, v15] _ (fun u hu => hu.1.range) Tryz.underlying33 rfl hiP) ?_
  try go_frame
  refine tq 1 (.agg ([f0, f1, f2, f3, f4, f5, f6, f7, f8, f9, f10, f11, f12, f13, f14] : List Value).toArray) (yieldsIf_load_mid rfl 44 _ rfl (w.heap.size + 1) 0 rfl [f0, f1, f2, f3, f4, f5, f6, f7, f8, f9, f10, f11, f12, f13, f14] _ (fun u hu => hu.2.range) Tryz.underlying44 rfl hiI) ?_
  try go_frame
  refine tq 6 (.agg ([f0, f1, f2, f3, f4, f5, f6, f7, f8, f9, f10, f11, f12, f13, f14] : List Value).toArray) (yieldsIf_load_mid rfl 44 _ rfl (w.heap.size + 1) 0 rfl [f0, f1, f2, f3, f4, f5, f6, f7, f8, f9, f10, f11, f12, f13, f14] _ (fun u hu => hu.2.range) Tryz.underlying44 rfl hiI) ?_
  try go_frame
  refine' tk 2 ?_ ?_; rotate_left
  · intro u hu; clear hu; go_simp; try with_reducible rfl
  try go_frame
  refine' tk 3 ?_ ?_; rotate_left
  · intro u hu; have c3 := (hu.1.2 3 _ rfl).1; have c4 := (hu.1.2 4 _ rfl).1; have c5 := (hu.1.2 5 _ rfl).1; clear hu; go_simp; try with_reducible rfl
  try go_frame
  refine tr 4 (fun K hK => ?_)
  go_simp
  obtain ⟨u1, hu1⟩ : ∃ u1, u1 = (W3.alloc (.cells #[.int .i64 wa, .int .i64 wb, .int .i64 wc] 24)).drew := ⟨_, rfl⟩
  have d1 : Below W3.heap.size W3 u1 := by rw [hu1]; exact ((Below.refl _ _).alloc (Nat.le_refl _) _).drew
  have hS1 := Sum_some W3.heap.size 0 1 1 (fun _ => wa) (fun _ => wb) (fun _ => wc) u1 (by decide) (by rw [hu1]; simp) (fun i hi => by
    obtain rfl : i = 0 := by omega
    rw [hu1]; exact ⟨by simp [go_sem], by simp [go_sem], by simp [go_sem]⟩)
  rw [sum_one7, sum_one7, sum_one7] at hS1
  refine hK.out _ _ (HS.out _ (hu1 ▸ d1)) (fun hHeld2 => ?_)
  rw [← hu1] at hHeld2 ⊢
  clear hu1
  clear hK K hHeld; have hHeld := hHeld2; clear hHeld2
  try go_frame
  refine tr 5 (fun K hK => ?_)
  go_simp
  refine hS1.mono ?_
  rintro e u2 ⟨rfl, hb2⟩
  have d2 := on2 d1 hb2
  clear hS1
  go_wp2_with fail
  refine hK.out _ _ (HS.out _ d2) (fun hHeld2 => ?_)
  clear hK K hHeld; have hHeld := hHeld2; clear hHeld2
  try go_frame
  refine tr 7 (fun K hK => ?_)
  go_simp
  refine (HFr'.out u2 (on2 B3.out d2)).mono ?_
  rintro e u3 ⟨rfl, hb3⟩
  have d3 := on2 d2 hb3
  go_wp2_with fail
  refine hK.out _ _ (HS.out _ d3) (fun hHeld2 => ?_)
  clear hK K hHeld; have hHeld := hHeld2; clear hHeld2
  try go_frame
  refine' tk 8 ?_ ?_; rotate_left
  · intro u hu; clear hu; go_simp; try with_reducible rfl
  try go_frame
  have hZ3 := HZ.out u3 d3
  obtain ⟨W4, hW4⟩ : ∃ W4, W4 = u3.setCells (w.heap.size + 1 + 1) 0 [v0, v1, v2, .int .i64 wa, .int .i64 wb, .int .i64 wc, v6, v7, v8, v9, v10, v11, v12, v13, v14, v15, f0, f1, f2, f3, f4, f5, f6, f7, f8, f9, f10, f11, f12, f13, f14, .int .i64 (clampI wa), .int .i64 (clampI wb), .int .i64 (clampI wc), .int .i64 fa, .int .i64 fb, .int .i64 fc] := ⟨_, rfl⟩
  have hX4 : BoxL W4 (w.heap.size + 1 + 1) [v0, v1, v2, .int .i64 wa, .int .i64 wb, .int .i64 wc, v6, v7, v8, v9, v10, v11, v12, v13, v14, v15, f0, f1, f2, f3, f4, f5, f6, f7, f8, f9, f10, f11, f12, f13, f14, .int .i64 (clampI wa), .int .i64 (clampI wb), .int .i64 (clampI wc), .int .i64 fa, .int .i64 fb, .int .i64 fc] := by rw [hW4]; exact box_over hZ3 rfl
  have HB4 : Hid (Below w.heap.size w W4) := by rw [Hid, hW4]; exact below_setCells (on2 B3.out d3) (by omega)
  have hk4 : Kept (fun b => b ≠ w.heap.size + 1 + 1) u3 W4 := by rw [hW4]; exact kept_setCells (fun h => h rfl)
  have HV4 : Hid (RVisit A W4 [v0, v1, v2, .int .i64 wa, .int .i64 wb, .int .i64 wc, v6, v7, v8, v9, v10, v11, v12, v13, v14, v15, f0, f1, f2, f3, f4, f5, f6, f7, f8, f9, f10, f11, f12, f13, f14, .int .i64 (clampI wa), .int .i64 (clampI wb), .int .i64 (clampI wc), .int .i64 fa, .int .i64 fb, .int .i64 fc] (y, x, (clampI wa, clampI wb, clampI wc), (fa, fb, fc))) := HM.out _ HB4.out
  have hS4 : VoS w [v0, v1, v2, .int .i64 wa, .int .i64 wb, .int .i64 wc, v6, v7, v8, v9, v10, v11, v12, v13, v14, v15] [f0, f1, f2, f3, f4, f5, f6, f7, f8, f9, f10, f11, f12, f13, f14] W4 := ⟨(HS.out _ d3).1.kept hk4 (by omega), (HS.out _ d3).2.kept hk4 (by omega)⟩
  have HRG : Hid (W4.rangeAt (w.heap.size + 1 + 1) 0 [v0, v1, v2, .int .i64 wa, .int .i64 wb, .int .i64 wc, v6, v7, v8, v9, v10, v11, v12, v13, v14, v15, f0, f1, f2, f3, f4, f5, f6, f7, f8, f9, f10, f11, f12, f13, f14, .int .i64 (clampI wa), .int .i64 (clampI wb), .int .i64 (clampI wc), .int .i64 fa, .int .i64 fb, .int .i64 fc]) := hX4.range
  have hT3 : u3.there (w.heap.size + 1 + 1) 0 ([v0, v1, v2, .int .i64 wa, .int .i64 wb, .int .i64 wc, v6, v7, v8, v9, v10, v11, v12, v13, v14, v15, f0, f1, f2, f3, f4, f5, f6, f7, f8, f9, f10, f11, f12, f13, f14, .int .i64 (clampI wa), .int .i64 (clampI wb), .int .i64 (clampI wc), .int .i64 fa, .int .i64 fb, .int .i64 fc] : List Value).toArray.size := hZ3.there
  have hE4 : W4 = u3.setCells (w.heap.size + 1 + 1) 0 ([v0, v1, v2, .int .i64 wa, .int .i64 wb, .int .i64 wc, v6, v7, v8, v9, v10, v11, v12, v13, v14, v15, f0, f1, f2, f3, f4, f5, f6, f7, f8, f9, f10, f11, f12, f13, f14, .int .i64 (clampI wa), .int .i64 (clampI wb), .int .i64 (clampI wc), .int .i64 fa, .int .i64 fb, .int .i64 fc] : List Value).toArray.toList := hW4
  clear hW4 hk4 hX4 hZ3 HM
  refine ts 9 (fun K hK => ?_)
  refine want_yes7 (by rfl) (wp_store_mid 57 _ _ rfl (w.heap.size + 1 + 1) 0 ([v0, v1, v2, .int .i64 wa, .int .i64 wb, .int .i64 wc, v6, v7, v8, v9, v10, v11, v12, v13, v14, v15, f0, f1, f2, f3, f4, f5, f6, f7, f8, f9, f10, f11, f12, f13, f14, .int .i64 (clampI wa), .int .i64 (clampI wb), .int .i64 (clampI wc), .int .i64 fa, .int .i64 fb, .int .i64 fc] : List Value).toArray rfl rfl hT3 sizeVisit hO.out ?_)
  refine at_w7 hE4 ?_
  refine hK.out _ _ hS4 (fun hHeld2 => ?_)
  clear hK K hHeld hE4 hT3
  refine wpAnyH_done (by kernel_rfl) ?_ _
  refine NoPanic.normal ?_
  go_wp2_with fail
  refine bodyPost_ret (v := .agg ([v0, v1, v2, .int .i64 wa, .int .i64 wb, .int .i64 wc, v6, v7, v8, v9, v10, v11, v12, v13, v14, v15, f0, f1, f2, f3, f4, f5, f6, f7, f8, f9, f10, f11, f12, f13, f14, .int .i64 (clampI wa), .int .i64 (clampI wb), .int .i64 (clampI wc), .int .i64 fa, .int .i64 fb, .int .i64 fc] : List Value).toArray) (res_cell (p := 4) (ty := 57) rfl _ _ (w.heap.size + 1 + 1) [v0, v1, v2, .int .i64 wa, .int .i64 wb, .int .i64 wc, v6, v7, v8, v9, v10, v11, v12, v13, v14, v15, f0, f1, f2, f3, f4, f5, f6, f7, f8, f9, f10, f11, f12, f13, f14, .int .i64 (clampI wa), .int .i64 (clampI wb), .int .i64 (clampI wc), .int .i64 fa, .int .i64 fb, .int .i64 fc] _ rfl HRG.out Tryz.underlying57 rfl sizeVisit) rfl ⟨[v0, v1, v2, .int .i64 wa, .int .i64 wb, .int .i64 wc, v6, v7, v8, v9, v10, v11, v12, v13, v14, v15, f0, f1, f2, f3, f4, f5, f6, f7, f8, f9, f10, f11, f12, f13, f14, .int .i64 (clampI wa), .int .i64 (clampI wb), .int .i64 (clampI wc), .int .i64 fa, .int .i64 fb, .int .i64 fc], rfl, HV4.out, HB4.out⟩
end Go.Proofs.YtbcclfiopebmpaaGreat
namespace Go.Proofs.YtbcclfiopebmpaaGreat
open Go.RowKit
set_option linter.unusedSimpArgs false
set_option maxRecDepth 100000

abbrev reaC : List Value := [.int .i64 1, .func (.func 28) #[] #[], .int .i64 2, .func (.func 29) #[] #[], .int .i64 3, .func (.func 30) #[] #[], .int .i64 4, .func (.func 31) #[] #[], .int .i64 5, .func (.func 32) #[] #[], .int .i64 6, .func (.func 33) #[] #[], .int .i64 7, .func (.func 34) #[] #[], .int .i64 8, .func (.func 35) #[] #[]]
set_option maxHeartbeats 2000000 in
theorem reasons_calls (w : World) : Calls Tryz.prog 17 #[] w fun e w' => e = .returned (.slice (some ⟨w.heap.size, 0, none⟩) 8 8) ∧ BoxL w' w.heap.size reaC ∧ Below w.heap.size w w' := by
  have hb : Hid (BoxL (w.alloc (.cells #[.int .i64 1, .func (.func 28) #[] #[], .int .i64 2, .func (.func 29) #[] #[], .int .i64 3, .func (.func 30) #[] #[], .int .i64 4, .func (.func 31) #[] #[], .int .i64 5, .func (.func 32) #[] #[], .int .i64 6, .func (.func 33) #[] #[], .int .i64 7, .func (.func 34) #[] #[], .int .i64 8, .func (.func 35) #[] #[]] 63)) w.heap.size reaC) := BoxL.new w 63 reaC
  have hg : Hid (Below w.heap.size w (w.alloc (.cells #[.int .i64 1, .func (.func 28) #[] #[], .int .i64 2, .func (.func 29) #[] #[], .int .i64 3, .func (.func 30) #[] #[], .int .i64 4, .func (.func 31) #[] #[], .int .i64 5, .func (.func 32) #[] #[], .int .i64 6, .func (.func 33) #[] #[], .int .i64 7, .func (.func 34) #[] #[], .int .i64 8, .func (.func 35) #[] #[]] 63))) := by rw [Hid]; go_grown
  go_enter Tryz.func17, Tryz.ntmps17
  go_wp2_with fail
  go_ret
  exact ⟨rfl, hb.out, hg.out⟩
def reaB (y : PodD) (x : InfoD) (k : Nat) : Bool := ((whyR y x).getD k default).2
/-- Reason k: its number, its function, what that answers. -/
def ReaAt (k g : Nat) : Prop :=
  reaC[k * 2]? = some (.int .i64 ((k + 1 : Nat) : Int)) ∧ reaC[k * 2 + 1]? = some (.func (.func g) #[] #[]) ∧ (∀ args w, (callFunc g args).run Tryz.prog w = .ok (.enter g args) w) ∧
  ∀ (cs : List Value) (A : Where) (y : PodD) (x : InfoD) (u : World), RVisit A u cs (y, x, wantP y, freeP x) → Calls Tryz.prog g #[.agg cs.toArray] u fun e w' => e = .returned (.bool (reaB y x k)) ∧ Below u.heap.size u w'
theorem reason_at {k : Nat} (hk : k < 8) : ∃ g, ReaAt k g := by
  obtain rfl | rfl | rfl | rfl | rfl | rfl | rfl | rfl : k = 0 ∨ k = 1 ∨ k = 2 ∨ k = 3 ∨ k = 4 ∨ k = 5 ∨ k = 6 ∨ k = 7 := by omega
  · exact ⟨28, rfl, rfl, enters_of Tryz.func28 (by kernel_rfl) rfl, fun cs A y x u h => off_calls cs A _ u h⟩
  · exact ⟨29, rfl, rfl, enters_of Tryz.func29 (by kernel_rfl) rfl, fun cs A y x u h => keptOff_calls cs A _ u h⟩
  · exact ⟨30, rfl, rfl, enters_of Tryz.func30 (by kernel_rfl) rfl, fun cs A y x u h => asksElse_calls cs A _ u h⟩
  · exact ⟨31, rfl, rfl, enters_of Tryz.func31 (by kernel_rfl) rfl, fun cs A y x u h => clashes_calls cs A _ u h⟩
  · exact ⟨32, rfl, rfl, enters_of Tryz.func32 (by kernel_rfl) rfl, fun cs A y x u h => full_calls cs A _ u h⟩
  · exact ⟨33, rfl, rfl, enters_of Tryz.func33 (by kernel_rfl) rfl, fun cs A y x u h => lacksCPU_calls cs A _ u h⟩
  · exact ⟨34, rfl, rfl, enters_of Tryz.func34 (by kernel_rfl) rfl, fun cs A y x u h => lacksMem_calls cs A _ u h⟩
  · exact ⟨35, rfl, rfl, enters_of Tryz.func35 (by kernel_rfl) rfl, fun cs A y x u h => lacksDisk_calls cs A _ u h⟩
end Go.Proofs.YtbcclfiopebmpaaGreat
namespace Go.Proofs.YtbcclfiopebmpaaGreat
open Go.RowKit
set_option linter.unusedSimpArgs false
set_option maxRecDepth 100000

theorem why1_at {y : PodD} {x : InfoD} {k : Nat} (hk : k < 8) (hn : ∀ j, j < k → reaB y x j = false) (hy : reaB y x k = true) : why1 y x = ((k + 1 : Nat) : Int) := by
  simp only [reaB, whyR, why1, whyL, yes] at *
  obtain rfl | rfl | rfl | rfl | rfl | rfl | rfl | rfl : k = 0 ∨ k = 1 ∨ k = 2 ∨ k = 3 ∨ k = 4 ∨ k = 5 ∨ k = 6 ∨ k = 7 := by omega
  · simp at hy; simp [hy]
  · have n0 := hn 0 (by omega); simp at n0 hy; simp [n0, hy]
  · have n0 := hn 0 (by omega); have n1 := hn 1 (by omega); simp at n0 n1 hy; simp [n0, n1, hy]
  · have n0 := hn 0 (by omega); have n1 := hn 1 (by omega); have n2 := hn 2 (by omega); simp at n0 n1 n2 hy; simp [n0, n1, n2, hy]
  · have n0 := hn 0 (by omega); have n1 := hn 1 (by omega); have n2 := hn 2 (by omega); have n3 := hn 3 (by omega); simp at n0 n1 n2 n3 hy; simp [n0, n1, n2, n3, hy]
  · have n0 := hn 0 (by omega); have n1 := hn 1 (by omega); have n2 := hn 2 (by omega); have n3 := hn 3 (by omega); have n4 := hn 4 (by omega); simp at n0 n1 n2 n3 n4 hy; simp [n0, n1, n2, n3, n4, hy]
  · have n0 := hn 0 (by omega); have n1 := hn 1 (by omega); have n2 := hn 2 (by omega); have n3 := hn 3 (by omega); have n4 := hn 4 (by omega); have n5 := hn 5 (by omega); simp at n0 n1 n2 n3 n4 n5 hy; simp [n0, n1, n2, n3, n4, n5, hy]
  · have n0 := hn 0 (by omega); have n1 := hn 1 (by omega); have n2 := hn 2 (by omega); have n3 := hn 3 (by omega); have n4 := hn 4 (by omega); have n5 := hn 5 (by omega); have n6 := hn 6 (by omega); simp at n0 n1 n2 n3 n4 n5 n6 hy; simp [n0, n1, n2, n3, n4, n5, n6, hy]
theorem why1_no {y : PodD} {x : InfoD} (hn : ∀ j, j < 8 → reaB y x j = false) : why1 y x = 0 := by
  have n0 := hn 0 (by omega); have n1 := hn 1 (by omega); have n2 := hn 2 (by omega); have n3 := hn 3 (by omega); have n4 := hn 4 (by omega); have n5 := hn 5 (by omega); have n6 := hn 6 (by omega); have n7 := hn 7 (by omega)
  simp only [reaB, whyR, why1, whyL, yes] at *
  simp at n0 n1 n2 n3 n4 n5 n6 n7
  simp [n0, n1, n2, n3, n4, n5, n6, n7]
set_option maxHeartbeats 8000000 in
theorem FCheck_calls (ds cs : List Value) (A : Where) (y : PodD) (x : InfoD) (w : World) (h : Hid (RPod A w ds y)) (h' : Hid (RInfo A w cs x)) : Calls Tryz.prog 12 #[.agg ds.toArray, .agg cs.toArray] w fun e w' => e = .returned (.int .i64 (why1 y x)) ∧ Below w.heap.size w w' := by
  have hiP : (Tryz.prog.info? 33).map (·.size) = some ds.length := by rw [RPod.firm.len h.out]; exact sizePod7
  have hiI : (Tryz.prog.info? 44).map (·.size) = some cs.length := by rw [RInfo.firm.len h'.out]; exact sizeInfo7
  obtain ⟨W2, hW2⟩ : ∃ W2, W2 = (w.alloc (.cells ds.toArray 33)).alloc (.cells cs.toArray 44) := ⟨_, rfl⟩
  have B2 : Hid (Below w.heap.size w W2) := by rw [Hid, hW2]; go_grown
  have HX : Hid (BoxL W2 w.heap.size ds) := by rw [hW2]; exact (BoxL.new w 33 ds).on ((Below.refl _ _).alloc (Nat.le_refl _) _)
  have HY : Hid (BoxL W2 (w.heap.size + 1) cs) := by have h1 := BoxL.new (w.alloc (.cells ds.toArray 33)) 44 cs; rw [Hid, hW2]; simpa using h1
  have hV := visitOf_calls ds cs A y x W2 (RPod.firm.kept h.out (Kept.below B2.out)) (RInfo.firm.kept h'.out (Kept.below B2.out))
  have HW2 : Hid (W2 = (w.alloc (.cells ds.toArray 33)).alloc (.cells cs.toArray 44)) := hW2
  clear h h' hW2
  go_enter Tryz.func12, Tryz.ntmps12
  go_wp2_with (first | (refine wpl_w HW2.out ?_; refine wpList_load_mid rfl 33 _ rfl w.heap.size 0 rfl ds _ HX.out.range Tryz.underlying33 rfl hiP ?_) | (refine wpList_load_mid rfl 44 _ rfl (w.heap.size + 1) 0 rfl cs _ HY.out.range Tryz.underlying44 rfl hiI ?_) | fail)
  clear HW2
  refine hV.mono ?_
  clear hV
  rintro e w3 ⟨vs, rfl, hv, hb3⟩
  have hl : vs.length = 37 := RVisit.firm.len hv
  have hiV : (Tryz.prog.info? 57).map (·.size) = some vs.toArray.size := by have e : vs.toArray.size = 37 := (by simp [hl]); rw [e]; exact sizeVisit
  have hiV' : (Tryz.prog.info? 57).map (·.size) = some vs.length := by rw [hl]; exact sizeVisit
  have HO : Hid (vs.toArray.all (·.oneCell') = true) := all_oneCell_toArray (RVisit.firm.one hv)
  have HT : Hid ((w3.alloc (.cells #[.string ⟨#[]⟩, .int .i64 0, .slice none 0 0, .int .i64 0, .int .i64 0, .int .i64 0, .slice none 0 0, .slice none 0 0, .slice none 0 0, .slice none 0 0, .slice none 0 0, .slice none 0 0, .slice none 0 0, .slice none 0 0, .string ⟨#[]⟩, .string ⟨#[]⟩, .string ⟨#[]⟩, .slice none 0 0, .slice none 0 0, .bool false, .int .i64 0, .int .i64 0, .int .i64 0, .int .i64 0, .int .i64 0, .slice none 0 0, .int .i64 0, .int .i64 0, .int .i64 0, .slice none 0 0, .slice none 0 0, .int .i64 0, .int .i64 0, .int .i64 0, .int .i64 0, .int .i64 0, .int .i64 0] 57)).there w3.heap.size 0 vs.toArray.size) := by have e : vs.toArray.size = 37 := (by simp [hl]); rw [Hid, e]; exact (BoxL.new w3 57 [.string ⟨#[]⟩, .int .i64 0, .slice none 0 0, .int .i64 0, .int .i64 0, .int .i64 0, .slice none 0 0, .slice none 0 0, .slice none 0 0, .slice none 0 0, .slice none 0 0, .slice none 0 0, .slice none 0 0, .slice none 0 0, .string ⟨#[]⟩, .string ⟨#[]⟩, .string ⟨#[]⟩, .slice none 0 0, .slice none 0 0, .bool false, .int .i64 0, .int .i64 0, .int .i64 0, .int .i64 0, .int .i64 0, .slice none 0 0, .int .i64 0, .int .i64 0, .int .i64 0, .slice none 0 0, .slice none 0 0, .int .i64 0, .int .i64 0, .int .i64 0, .int .i64 0, .int .i64 0, .int .i64 0]).there
  obtain ⟨W4, hW4⟩ : ∃ W4, W4 = (w3.alloc (.cells #[.string ⟨#[]⟩, .int .i64 0, .slice none 0 0, .int .i64 0, .int .i64 0, .int .i64 0, .slice none 0 0, .slice none 0 0, .slice none 0 0, .slice none 0 0, .slice none 0 0, .slice none 0 0, .slice none 0 0, .slice none 0 0, .string ⟨#[]⟩, .string ⟨#[]⟩, .string ⟨#[]⟩, .slice none 0 0, .slice none 0 0, .bool false, .int .i64 0, .int .i64 0, .int .i64 0, .int .i64 0, .int .i64 0, .slice none 0 0, .int .i64 0, .int .i64 0, .int .i64 0, .slice none 0 0, .slice none 0 0, .int .i64 0, .int .i64 0, .int .i64 0, .int .i64 0, .int .i64 0, .int .i64 0] 57)).setCells w3.heap.size 0 vs := ⟨_, rfl⟩
  have HX4 : Hid (BoxL W4 w3.heap.size vs) := by rw [hW4]; exact box_over (BoxL.new w3 57 [.string ⟨#[]⟩, .int .i64 0, .slice none 0 0, .int .i64 0, .int .i64 0, .int .i64 0, .slice none 0 0, .slice none 0 0, .slice none 0 0, .slice none 0 0, .slice none 0 0, .slice none 0 0, .slice none 0 0, .slice none 0 0, .string ⟨#[]⟩, .string ⟨#[]⟩, .string ⟨#[]⟩, .slice none 0 0, .slice none 0 0, .bool false, .int .i64 0, .int .i64 0, .int .i64 0, .int .i64 0, .int .i64 0, .slice none 0 0, .int .i64 0, .int .i64 0, .int .i64 0, .slice none 0 0, .slice none 0 0, .int .i64 0, .int .i64 0, .int .i64 0, .int .i64 0, .int .i64 0, .int .i64 0]) (by rw [hl]; rfl)
  have B4 : Hid (Below w3.heap.size w3 W4) := by rw [Hid, hW4]; exact below_setCells ((Below.refl _ _).alloc (Nat.le_refl _) _) (Nat.le_refl _)
  have HW4 : Hid (W4 = (w3.alloc (.cells #[.string ⟨#[]⟩, .int .i64 0, .slice none 0 0, .int .i64 0, .int .i64 0, .int .i64 0, .slice none 0 0, .slice none 0 0, .slice none 0 0, .slice none 0 0, .slice none 0 0, .slice none 0 0, .slice none 0 0, .slice none 0 0, .string ⟨#[]⟩, .string ⟨#[]⟩, .string ⟨#[]⟩, .slice none 0 0, .slice none 0 0, .bool false, .int .i64 0, .int .i64 0, .int .i64 0, .int .i64 0, .int .i64 0, .slice none 0 0, .int .i64 0, .int .i64 0, .int .i64 0, .slice none 0 0, .slice none 0 0, .int .i64 0, .int .i64 0, .int .i64 0, .int .i64 0, .int .i64 0, .int .i64 0] 57)).setCells w3.heap.size 0 vs.toArray.toList) := by rw [Hid, hW4]
  have HV4 : Hid (∀ u, Below W4.heap.size W4 u → RVisit A u vs (y, x, wantP y, freeP x)) := fun u hb => RVisit.firm.kept hv (Kept.below (on2 B4.out hb))
  have B04 : Hid (Below w.heap.size w W4) := on2 (on2 B2.out hb3) B4.out
  clear hW4 hv hb3 HX HY B2 hl
  go_wp2_with (first | (refine wpList_store_mid rfl 57 _ _ rfl w3.heap.size 0 vs.toArray rfl rfl HT.out hiV HO.out ?_; refine wpl_w HW4.out ?_) | fail)
  refine (reasons_calls W4).mono ?_
  rintro e w5 ⟨rfl, hR, hb5⟩
  have B5 : Hid (Below W4.heap.size W4 w5) := hb5
  have HR : Hid (BoxL w5 W4.heap.size reaC) := hR
  clear hR hb5 HW4 HO HT
  go_wp2_with fail
  go_loopw [13] (fun i wr => ∃ k : Nat, k ≤ 8 ∧ i = .int .i64 k ∧ Below w5.heap.size w5 wr ∧ Hid (∀ j, j < k → reaB y x j = false)) (fun i _ => 8 - (intOf i).toNat)
  case atStart => exact ⟨0, Nat.zero_le _, rfl, Below.refl _ _, fun j hj => absurd hj (Nat.not_lt_zero _)⟩
  case round =>
    obtain ⟨k, hk, rfl, hbel, hall⟩ := hrel
    by_cases hlt : k < 8
    ·
      obtain ⟨g, hg⟩ := reason_at hlt
      obtain ⟨hq0, hq1, hge, hgc⟩ := hg
      have hbw : Below W4.heap.size W4 wr := on2 B5.out hbel
      have HC : Hid (∀ u, Below wr.heap.size wr u → Calls Tryz.prog g #[.agg vs.toArray] u fun e w' => e = .returned (.bool (reaB y x k)) ∧ Below u.heap.size u w') := fun u hb => hgc vs A y x u (HV4.out u (on2 hbw hb))
      have c0 := ((HR.out.on hbel).2 _ _ hq0).1
      have c1 := ((HR.out.on hbel).2 _ _ hq1).1
      clear hgc hq0 hq1
      have hbx : Hid (∀ u, Below wr.heap.size wr u → BoxL u w3.heap.size vs) := fun u hb => (HX4.out.on hbw).on hb
      have hne : Hid (W4.heap.size < wr.heap.size) := Nat.lt_of_lt_of_le HR.out.1 hbel.size
      cases hm : reaB y x k
      · have HG : Hid (∀ j, j < k + 1 → reaB y x j = false) := fun j hj => by
          rcases Nat.lt_succ_iff_lt_or_eq.1 hj with h | rfl
          · exact hall.out j h
          · exact hm
        rw [hm] at HC
        clear hm hall
        go_wp2_with (first | (refine wpList_load_mid rfl 57 _ rfl w3.heap.size 0 rfl vs _ (hbx.out _ (by go_grown)).range Tryz.underlying57 rfl hiV' ?_) | fail)
        refine (HC.out _ (by go_grown)).mono ?_
        rintro e w6 ⟨rfl, hb6⟩
        have hb' : Below w5.heap.size w5 w6 := on2 hbel (on2 (by go_grown) hb6)
        clear HC c0 c1 hb6 hbel hbx
        go_wp2_with fail
        go_roundw
        case rel => exact ⟨k + 1, by omega, by go_num, hb', HG⟩
        case measure => simp [intOf]; omega
      · have HF : Hid (why1 y x = ((k + 1 : Nat) : Int)) := why1_at hlt hall.out hm
        rw [hm] at HC
        clear hm hall
        go_wp2_with (first | (refine wpList_load_mid rfl 57 _ rfl w3.heap.size 0 rfl vs _ (hbx.out _ (by go_grown)).range Tryz.underlying57 rfl hiV' ?_) | fail)
        have q0 : BoxL (wr.alloc (.cells #[.int .i64 ((k + 1 : Nat) : Int), .func (.func g) #[] #[]] 63)) wr.heap.size [.int .i64 ((k + 1 : Nat) : Int), .func (.func g) #[] #[]] := BoxL.new wr 63 _
        refine (HC.out _ (by go_grown)).mono ?_
        rintro e w6 ⟨rfl, hb6⟩
        have hb' : Below w.heap.size w w6 := on2 (on2 B04.out B5.out) (on2 hbel (on2 (by go_grown) hb6))
        have z0 := ((q0.on hb6).2 0 _ rfl).1
        clear HC c0 c1 hb6 hbel hbx
        go_wp2_with fail
        go_ret
        exact ⟨ret_int HF.out.symm, hb'⟩
    · have HF : Hid (why1 y x = 0) := why1_no (fun j hj => hall.out j (by omega))
      go_wp2_with fail
      go_ret
      exact ⟨ret_int HF.out.symm, on2 (on2 B04.out B5.out) hbel⟩
end Go.Proofs.YtbcclfiopebmpaaGreat
namespace Go.Proofs.YtbcclfiopebmpaaGreat
open Go.RowKit
set_option linter.unusedSimpArgs false

def itI (w u : Int) : Nat → Int
  | 0 => u
  | n + 1 => addI (itI w u n) w
theorem itI_clamp (w u : Int) (n : Nat) : clampI (itI w u n) = if 1125899906842624 < clampI u + n * clampI w then 1125899906842624 else clampI u + n * clampI w := by
  have hu0 := clampI_ge u
  have hu1 := clampI_le u
  have hw := clampI_ge w
  induction n with
  | zero => simp only [itI]; rw [if_neg (by simp; omega)]; simp
  | succ n ih =>
    simp only [itI]
    rw [clampI_addI, addI_def, ih]
    have e : ((n + 1 : Nat) : Int) * clampI w = n * clampI w + clampI w := by rw [Int.natCast_add, Int.add_mul]; simp
    rw [e]
    have hy : 0 ≤ (n : Int) * clampI w := Int.mul_nonneg (by omega) hw
    generalize (n : Int) * clampI w = y at *
    split <;> split <;> (try split) <;> omega
theorem lack_iff (g u w : Int) (n : Nat) (h0 : ¬ subI g u < clampI w) : ¬ (subI g (itI w u n) < clampI w) ↔ (clampI w = 0 ∨ (n : Int) < subI g u / clampI w) := by
  have hw := clampI_ge w
  rcases Int.lt_or_eq_of_le hw with hp | hz
  · have hg := clampI_le g
    have hn : ¬ (clampI w = 0) := by omega
    rw [subI_def, itI_clamp, subI_def] at *
    have hy : 0 ≤ (n : Int) * clampI w := Int.mul_nonneg (by omega) hw
    by_cases hgu : clampI g < clampI u
    · rw [if_pos hgu] at h0; omega
    · rw [if_neg hgu] at h0 ⊢
      have hd : ((n : Int) < (clampI g - clampI u) / clampI w) ↔ (n : Int) * clampI w + clampI w ≤ clampI g - clampI u := by
        rw [← Int.add_one_le_iff, Int.le_ediv_iff_mul_le hp, Int.add_mul, Int.one_mul]
      rw [hd]
      have hu0 := clampI_ge u
      generalize (n : Int) * clampI w = y at *
      constructor
      · intro h
        right
        split at h <;> split at h <;> omega
      · rintro (h | h)
        · omega
        · split <;> split <;> omega
  · constructor
    · intro _; left; omega
    · intro _; have := subI_ge g (itI w u n); omega
def timesD (want free : Int) : Int := if want = 0 then 9223372036854775807 else free / want
def roomP (p : PodD) (i : InfoD) : Int :=
  if pPorts p = [] then min (i.1.2.2.2.2.2.1 - (i.2.1.length : Int)) (min (timesD (wantP p).1 (freeP i).1) (min (timesD (wantP p).2.1 (freeP i).2.1) (timesD (wantP p).2.2 (freeP i).2.2))) else 1
def itR (w u : ResD) (n : Nat) : ResD := (itI w.1 u.1 n, itI w.2.1 u.2.1 n, itI w.2.2 u.2.2 n)
theorem itR_succ (w u : ResD) (n : Nat) : itR w u (n + 1) = plusR (itR w u n) w := rfl
/-- j is i with n more that want what p wants. -/
def Like (p : PodD) (i : InfoD) (n : Nat) (j : InfoD) : Prop :=
  j.1 = i.1 ∧ j.2.1.length = i.2.1.length + n ∧ j.2.2.1 = itR (pWant p) i.2.2.1 n ∧ ∀ q, hasB iEq j.2.2.2.1 q = (hasB iEq i.2.2.2.1 q || (decide (0 < n) && hasB iEq (pPorts p) q))
theorem Like.zero (p : PodD) (i : InfoD) : Like p i 0 i := ⟨rfl, rfl, rfl, by simp⟩
theorem yes_nil {l : List (Int × Bool)} : yes l = [] ↔ ∀ x ∈ l, x.2 = false := by
  simp [yes, List.map_eq_nil_iff, List.filter_eq_nil_iff]
theorem why_nil (p : PodD) (i : InfoD) : whyL p i = [] ↔ (offB i = false ∧ kepB p i = false ∧ askB p i = false ∧ clashP i p = false ∧ cntB i = false ∧ cpuB p i = false ∧ memB p i = false ∧ dskB p i = false) := by
  rw [whyL, yes_nil]; simp [whyR]
theorem yes_pos : ∀ {l : List (Int × Bool)}, (∀ x ∈ l, x.1 ≠ 0) → ((yes l).headD 0 = 0 ↔ yes l = [])
  | [], _ => by simp [yes]
  | (a, b) :: l, h => by
    cases b
    · have := yes_pos (l := l) (fun x hx => h x (List.mem_cons_of_mem _ hx))
      simpa [yes] using this
    · have := h (a, true) (by simp)
      simp [yes]; exact this
theorem why1_nil (p : PodD) (i : InfoD) : why1 p i = 0 ↔ whyL p i = [] := yes_pos (by simp [whyR])
theorem any_or (V W : List Int) (L : List Int) (b : Bool) (hV : (L.any fun q => hasB iEq V q) = false) (hb : b = true → (L.any fun q => hasB iEq W q) = false) : (L.any fun q => (hasB iEq V q || (b && hasB iEq W q))) = false := by
  rw [List.any_eq_false] at *
  intro x hx
  have h1 := hV x hx
  cases b
  · simpa using h1
  · have h2 := hb rfl x hx
    simp at h1 h2 ⊢; exact ⟨h1, h2⟩
theorem has_self {L : List Int} (h : L ≠ []) : (L.any fun q => hasB iEq L q) = true := by
  obtain ⟨x, L, rfl⟩ := List.exists_cons_of_ne_nil h
  simp [hasB, iEq]
theorem clash_like {p : PodD} {i j : InfoD} {n : Nat} (h : Like p i n j) (hc : clashP i p = false) : clashP j p = false ↔ (n = 0 ∨ pPorts p = []) := by
  obtain ⟨_, _, _, hq⟩ := h
  have e : clashP j p = (pPorts p).any fun q => (hasB iEq i.2.2.2.1 q || (decide (0 < n) && hasB iEq (pPorts p) q)) := by
    unfold clashP; congr 1; funext q; exact hq q
  rw [e]
  constructor
  · intro hf
    rcases Nat.eq_zero_or_pos n with h0 | h0
    · exact Or.inl h0
    · right
      rcases Decidable.em (pPorts p = []) with hn | hn
      · exact hn
      · exfalso
        have := has_self hn
        rw [List.any_eq_true] at this
        obtain ⟨x, hx, hh⟩ := this
        have h2 := (List.any_eq_false.1 hf) x hx
        simp [h0, hh] at h2
  · rintro (rfl | hn)
    · simpa [clashP] using hc
    · rw [hn]; rfl
theorem cnt_like {p : PodD} {i j : InfoD} {n : Nat} (h : Like p i n j) : cntB j = false ↔ (n : Int) < i.1.2.2.2.2.2.1 - (i.2.1.length : Int) := by
  obtain ⟨h1, h2, _, _⟩ := h
  unfold cntB
  rw [h1, h2]
  simp only [decide_eq_false_iff_not, Int.not_le]
  omega
theorem times_iff {g u w : Int} {n : Nat} (hn : n ≤ 1000) (h0 : ¬ subI g u < clampI w) : decide (subI g (itI w u n) < clampI w) = false ↔ (n : Int) < timesD (clampI w) (subI g u) := by
  rw [decide_eq_false_iff_not, lack_iff g u w n h0, timesD]
  split
  · rename_i h; constructor
    · intro _; omega
    · intro _; exact Or.inl h
  · rename_i h; constructor
    · rintro (h2 | h2)
      · exact absurd h2 h
      · exact h2
    · exact Or.inr
/-- One more finds room just below the room that there is. -/
theorem room_iff {p : PodD} {i j : InfoD} {n : Nat} (h : Like p i n j) (hn : n ≤ 1000) (h0 : why1 p i = 0) : why1 p j = 0 ↔ (n : Int) < roomP p i := by
  rw [why1_nil, why_nil] at *
  obtain ⟨a1, a2, a3, a4, a5, a6, a7, a8⟩ := h0
  have e1 : offB j = offB i := by unfold offB; rw [h.1]
  have e2 : kepB p j = kepB p i := by unfold kepB; rw [h.1]
  have e3 : askB p j = askB p i := by unfold askB; rw [h.1]
  rw [e1, e2, e3, a1, a2, a3, clash_like h a4, cnt_like h]
  have c5 : (0 : Int) < i.1.2.2.2.2.2.1 - (i.2.1.length : Int) := (cnt_like (Like.zero p i)).1 a5
  have h3 := h.2.2.1
  simp only [cpuB, memB, dskB, freeP, minusR, wantP, h3, h.1, itR, roomP] at *
  rw [times_iff hn (of_decide_eq_false a6), times_iff hn (of_decide_eq_false a7), times_iff hn (of_decide_eq_false a8)]
  have b6 := (times_iff (n := 0) (by omega) (of_decide_eq_false a6)).1 a6
  have b7 := (times_iff (n := 0) (by omega) (of_decide_eq_false a7)).1 a7
  have b8 := (times_iff (n := 0) (by omega) (of_decide_eq_false a8)).1 a8
  by_cases hp : pPorts p = []
  · rw [if_pos hp]; simp only [hp, or_true, true_and]
    simp only [Int.lt_min, and_assoc]
  · rw [if_neg hp]; simp only [hp, or_false, true_and]
    constructor
    · rintro ⟨rfl, _⟩; decide
    · intro hlt
      have : n = 0 := by omega
      subst this
      exact ⟨rfl, c5, b6, b7, b8⟩
end Go.Proofs.YtbcclfiopebmpaaGreat
namespace Go.Proofs.YtbcclfiopebmpaaGreat
open Go.RowKit
set_option linter.unusedSimpArgs false
set_option maxRecDepth 100000

theorem times_calls (a b : Int) (w : World) (ha : Hid (0 ≤ a)) (hb : Hid (0 ≤ b)) (ha1 : Hid (a ≤ 1125899906842624)) (hb1 : Hid (b ≤ 1125899906842624)) : Calls Tryz.prog 36 #[.int .i64 a, .int .i64 b] w fun e w' => e = .returned (.int .i64 (timesD a b)) ∧ w' = w := by
  by_cases h0 : a = 0
  · subst h0
    have hE : Hid (timesD 0 b = 9223372036854775807) := rfl
    rw [hE.out]
    go_enter Tryz.func36, Tryz.ntmps36
    go_wp2
    go_ret
    exact ⟨rfl, rfl⟩
  · have hE : Hid (timesD a b = b / a) := by rw [Hid, timesD, if_neg h0]
    have hq : Int.tdiv b a = b / a := Int.tdiv_eq_ediv_of_nonneg hb.out
    have hz : (a == 0) = false := by simpa using h0
    have hlo : 0 ≤ b / a := Int.ediv_nonneg hb.out ha.out
    have hhi : b / a ≤ b := Int.ediv_le_self _ hb.out
    have hw : IntKind.i64.wrap (b / a) = b / a := by
      have := hb1.out
      generalize b / a = q at hlo hhi
      simp [IntKind.wrap, IntKind.bits, IntKind.signed]; omega
    rw [hE.out]
    go_enter Tryz.func36, Tryz.ntmps36
    go_wp2
    go_ret
    exact ⟨rfl, rfl⟩
end Go.Proofs.YtbcclfiopebmpaaGreat
namespace Go.Proofs.YtbcclfiopebmpaaGreat
open Go.RowKit
set_option linter.unusedSimpArgs false
set_option maxRecDepth 100000

theorem min4 (ts : Array TypeId) (t : TypeId) (a b c d : Int) (w : World) : (Builtin.min_ ts t #[.int .i64 a, .int .i64 b, .int .i64 c, .int .i64 d]).run Tryz.prog w = .ok (.int .i64 (min (min (min a b) c) d)) w := by
  have e : ∀ x y : Int, (if y < x then y else x) = min x y := fun x y => by rw [Int.min_def]; split <;> split <;> omega
  simp [Builtin.min_, Builtin.min2, e]
theorem min3 (ts : Array TypeId) (t : TypeId) (a b c : Int) (w : World) : (Builtin.min_ ts t #[.int .i64 a, .int .i64 b, .int .i64 c]).run Tryz.prog w = .ok (.int .i64 (min (min a b) c)) w := by
  have e : ∀ x y : Int, (if y < x then y else x) = min x y := fun x y => by rw [Int.min_def]; split <;> split <;> omega
  simp [Builtin.min_, Builtin.min2, e]
theorem want_rng (p : PodD) : ((0 ≤ (wantP p).1 ∧ (wantP p).1 ≤ 1125899906842624) ∧ (0 ≤ (wantP p).2.1 ∧ (wantP p).2.1 ≤ 1125899906842624) ∧ (0 ≤ (wantP p).2.2 ∧ (wantP p).2.2 ≤ 1125899906842624)) := ⟨⟨clampI_ge _, clampI_le _⟩, ⟨clampI_ge _, clampI_le _⟩, clampI_ge _, clampI_le _⟩
theorem free_rng (i : InfoD) : ((0 ≤ (freeP i).1 ∧ (freeP i).1 ≤ 1125899906842624) ∧ (0 ≤ (freeP i).2.1 ∧ (freeP i).2.1 ≤ 1125899906842624) ∧ (0 ≤ (freeP i).2.2 ∧ (freeP i).2.2 ≤ 1125899906842624)) := ⟨⟨subI_ge _ _, subI_le _ _⟩, ⟨subI_ge _ _, subI_le _ _⟩, subI_ge _ _, subI_le _ _⟩
set_option maxHeartbeats 4000000 in
theorem room_calls (cs : List Value) (A : Where) (y : PodD) (x : InfoD) (w : World) (h : Hid (RVisit A w cs (y, x, wantP y, freeP x))) (hr : Hid (0 < x.1.2.2.2.2.2.1 - (x.2.1.length : Int) ∧ x.1.2.2.2.2.2.1 ≤ 9223372036854775807)) : Calls Tryz.prog 21 #[.agg cs.toArray] w fun e w' => e = .returned (.int .i64 (roomP y x)) ∧ Below w.heap.size w w' := by
  obtain ⟨⟨ra, rb⟩, ⟨rc, rd⟩, re, rf⟩ := want_rng y
  obtain ⟨⟨sa, sb⟩, ⟨sc, sd⟩, se, sf⟩ := free_rng x
  unfold roomP
  generalize wantP y = W at h ra rb rc rd re rf
  generalize freeP x = V at h sa sb sc sd se sf
  obtain ⟨wa, wb, wc⟩ := W
  obtain ⟨fa, fb, fc⟩ := V
  simp only at ra rb rc rd re rf sa sb sc sd se sf
  obtain ⟨ds, is, rfl, hp, hi⟩ := h.out.out
  obtain ⟨g2, g6, g7, g8, g9, g10, g11, g12, g13, rfl, _, p2, p6, p7, p8, p9, _⟩ := hp.out
  obtain ⟨h1, h2, h9, h13, h14, rfl, _, i1, i2, i9, _⟩ := hi.out
  simp only [List.cons_append, List.nil_append]
  have Ra : Hid (0 ≤ wa) := ra
  have Rb : Hid (wa ≤ 1125899906842624) := rb
  have Rc : Hid (0 ≤ wb) := rc
  have Rd : Hid (wb ≤ 1125899906842624) := rd
  have Re : Hid (0 ≤ wc) := re
  have Rf : Hid (wc ≤ 1125899906842624) := rf
  have Sa : Hid (0 ≤ fa) := sa
  have Sb : Hid (fa ≤ 1125899906842624) := sb
  have Sc : Hid (0 ≤ fb) := sc
  have Sd : Hid (fb ≤ 1125899906842624) := sd
  have Se : Hid (0 ≤ fc) := se
  have Sf : Hid (fc ≤ 1125899906842624) := sf
  have hwr : IntKind.i64.wrap (x.1.2.2.2.2.2.1 - (h9.2.1 : Int)) = x.1.2.2.2.2.2.1 - (h9.2.1 : Int) := by
    have := hr.out; rw [i9.1] at this
    generalize x.1.2.2.2.2.2.1 = q at this ⊢
    simp [IntKind.wrap, IntKind.bits, IntKind.signed]; omega
  have h9e : Hid ((x.2.1.length : Int) = (h9.2.1 : Int)) := by rw [Hid, i9.1]
  have h4 := min4
  have p9l : (pPorts y).length = g9.2.1 := p9.1
  by_cases hpp : pPorts y = []
  · have g0 : g9.2.1 = 0 := by rw [← p9l, hpp]; rfl
    rw [if_pos hpp, h9e.out]
    clear h hp hi p2 p6 p7 p8 p9 i1 i2 i9 hpp p9l h9e hr ra rb rc rd re rf sa sb sc sd se sf
    go_enter Tryz.func21, Tryz.ntmps21
    go_wp2_with fail
    go_big_quiet (exact Calls.quiet_of_same (times_calls _ _ _ (by assumption) (by assumption) (by assumption) (by assumption)))
    go_wp2_with fail
    go_ret
    exact ⟨rfl, below_drewN ((Below.refl _ _).alloc (Nat.le_refl _) _) _⟩
  · have g0 : 0 < g9.2.1 := by rw [← p9l]; exact List.length_pos_iff.2 hpp
    have g1 : decide ((0 : Int) < (g9.2.1 : Int)) = true := by simp; exact g0
    rw [if_neg hpp]
    clear h hp hi p2 p6 p7 p8 p9 i1 i2 i9 hpp p9l h9e hr ra rb rc rd re rf sa sb sc sd se sf hwr
    go_enter Tryz.func21, Tryz.ntmps21
    go_wp2
    go_ret
    exact ⟨rfl, by go_grown⟩
end Go.Proofs.YtbcclfiopebmpaaGreat
namespace Go.Proofs.YtbcclfiopebmpaaGreat
open Go.RowKit
set_option linter.unusedSimpArgs false
set_option maxRecDepth 100000

def mostP (y : PodD) (x : InfoD) (lim : Int) : Int := if why1 y x = 0 then min (max lim 0) (min 1000 (roomP y x)) else 0
set_option maxHeartbeats 8000000 in
theorem FMost_calls (ds cs : List Value) (A : Where) (y : PodD) (x : InfoD) (lim : Int) (w : World) (h : Hid (RPod A w ds y)) (h' : Hid (RInfo A w cs x)) (hr : Hid (x.1.2.2.2.2.2.1 ≤ 9223372036854775807)) : Calls Tryz.prog 11 #[.agg ds.toArray, .agg cs.toArray, .int .i64 lim] w fun e w' => e = .returned (.int .i64 (mostP y x lim)) ∧ Below w.heap.size w w' := by
  have hiP : (Tryz.prog.info? 33).map (·.size) = some ds.length := by rw [RPod.firm.len h.out]; exact sizePod7
  have hiI : (Tryz.prog.info? 44).map (·.size) = some cs.length := by rw [RInfo.firm.len h'.out]; exact sizeInfo7
  obtain ⟨W2, hW2⟩ : ∃ W2, W2 = (w.alloc (.cells ds.toArray 33)).alloc (.cells cs.toArray 44) := ⟨_, rfl⟩
  have B2 : Hid (Below w.heap.size w W2) := by rw [Hid, hW2]; go_grown
  have HX : Hid (∀ u, Below W2.heap.size W2 u → BoxL u w.heap.size ds) := fun u hb => BoxL.on (by rw [hW2]; exact (BoxL.new w 33 ds).on ((Below.refl _ _).alloc (Nat.le_refl _) _)) hb
  have HY : Hid (∀ u, Below W2.heap.size W2 u → BoxL u (w.heap.size + 1) cs) := fun u hb => BoxL.on (by have h1 := BoxL.new (w.alloc (.cells ds.toArray 33)) 44 cs; rw [hW2]; simpa using h1) hb
  have HP : Hid (∀ u, Below w.heap.size w u → RPod A u ds y) := fun u hb => RPod.firm.kept h.out (Kept.below hb)
  have HI : Hid (∀ u, Below w.heap.size w u → RInfo A u cs x) := fun u hb => RInfo.firm.kept h'.out (Kept.below hb)
  have HW2 : Hid (W2 = (w.alloc (.cells ds.toArray 33)).alloc (.cells cs.toArray 44)) := hW2
  have hC := FCheck_calls ds cs A y x W2 (HP.out _ B2.out) (HI.out _ B2.out)
  have h3 := min3
  clear h h' hW2
  go_enter Tryz.func11, Tryz.ntmps11
  go_wp2_with (first | (refine wpl_w HW2.out ?_; refine wpList_load_mid rfl 33 _ rfl w.heap.size 0 rfl ds _ (HX.out _ (Below.refl _ _)).range Tryz.underlying33 rfl hiP ?_) | (refine wpList_load_mid rfl 44 _ rfl (w.heap.size + 1) 0 rfl cs _ (HY.out _ (Below.refl _ _)).range Tryz.underlying44 rfl hiI ?_) | fail)
  refine hC.mono ?_
  rintro e w3 ⟨rfl, hb3⟩
  have B3 : Hid (Below W2.heap.size W2 w3) := hb3
  clear hC hb3 HW2
  by_cases h0 : why1 y x = 0
  · have HE : Hid (mostP y x lim = min (max lim 0) (min 1000 (roomP y x))) := by rw [Hid, mostP, if_pos h0]
    have HR : Hid (0 < x.1.2.2.2.2.2.1 - (x.2.1.length : Int) ∧ x.1.2.2.2.2.2.1 ≤ 9223372036854775807) := by
      refine ⟨?_, hr.out⟩
      have := ((why_nil y x).1 ((why1_nil y x).1 h0)).2.2.2.2.1
      exact (cnt_like (Like.zero y x)).1 this
    rw [h0]
    clear h0 hr
    go_wp2_with (first | (refine wpList_load_mid rfl 33 _ rfl w.heap.size 0 rfl ds _ (HX.out _ B3.out).range Tryz.underlying33 rfl hiP ?_) | (refine wpList_load_mid rfl 44 _ rfl (w.heap.size + 1) 0 rfl cs _ (HY.out _ B3.out).range Tryz.underlying44 rfl hiI ?_) | fail)
    refine (visitOf_calls ds cs A y x w3 (HP.out _ (on2 B2.out B3.out)) (HI.out _ (on2 B2.out B3.out))).mono ?_
    rintro e w4 ⟨vs, rfl, hv, hb4⟩
    have hM := room_calls vs A y x w4 hv HR
    have B4 : Hid (Below w.heap.size w w4) := on2 (on2 B2.out B3.out) hb4
    clear hv hb4
    go_wp2_with fail
    refine hM.mono ?_
    rintro e w5 ⟨rfl, hb5⟩
    have hb := on2 B4.out hb5
    clear hM hb5
    generalize roomP y x = rm at HE
    go_wp2_with fail
    go_ret
    exact ⟨ret_int HE.out.symm, hb⟩
  · have HE : Hid (mostP y x lim = 0) := by rw [Hid, mostP, if_neg h0]
    have hz : (why1 y x == 0) = false := by simpa using h0
    have hb : Below w.heap.size w w3 := on2 B2.out B3.out
    generalize why1 y x = q at h0 hz
    go_wp2_with fail
    go_ret
    exact ⟨ret_int HE.out.symm, hb⟩
end Go.Proofs.YtbcclfiopebmpaaGreat
