/- The chapter's example: it works. No condition. Arguments as they come in, whatever their type: read off memory, they lie as said. No condition beyond the row's own reach. Arguments of layer 14 as they come in. No condition beyond the row's own reach. -/
import Derived.Test.YtpombhiffpbedaaGreatQ17
import Derived.Test.YtpombhiffpbedaaGreatQ01
import Derived.Test.YtpombhiffpbedaaGreatQ12
import Derived.Test.YtpombhiffpbedaaGreatQ04
namespace Go.Proofs.YtpombhiffpbedaaGreat
open Go.RowKit Go.Maps
set_option linter.unusedSimpArgs false
set_option maxRecDepth 100000

def sA : ByteArray := ⟨#[97]⟩
def sB : ByteArray := ⟨#[98]⟩
def sC : ByteArray := ⟨#[99]⟩
def eA : EnD := ((sA, 1, 0, 0, 0), 1)
def eB : EnD := ((sB, 5, 1, 0, 0), 1)
def eC : EnD := ((sC, 1, 2, 0, 0), 1)
theorem pop_w1 {x : WtD} {er : Int} {S' : List EnD} (h : PopO [eA, eB, eC] x er S') : x = (sB, 5, 1, 1, 0) ∧ er = 0 ∧ S' = [eA, eC] := by
  rcases h with ⟨h0, _⟩ | ⟨e, he, hp, ha, rfl, rfl, rfl⟩
  · exact absurd (congrArg List.length h0) (by decide +kernel)
  · simp only [List.mem_cons, List.not_mem_nil, or_false] at he
    rcases he with rfl | rfl | rfl
    · exact absurd (ha eB (by simp) rfl (by decide +kernel)) (by decide +kernel)
    · exact ⟨rfl, rfl, by decide +kernel⟩
    · exact absurd (ha eB (by simp) rfl (by decide +kernel)) (by decide +kernel)
theorem pop_w2 {x : WtD} {er : Int} {S' : List EnD} (h : PopO [eA, eC] x er S') : x = (sA, 1, 0, 1, 0) ∧ er = 0 ∧ S' = [eC] := by
  rcases h with ⟨h0, _⟩ | ⟨e, he, hp, ha, rfl, rfl, rfl⟩
  · exact absurd (congrArg List.length h0) (by decide +kernel)
  · simp only [List.mem_cons, List.not_mem_nil, or_false] at he
    rcases he with rfl | rfl
    · exact ⟨rfl, rfl, by decide +kernel⟩
    · exact absurd (ha eA (by simp) rfl (by decide +kernel)) (by decide +kernel)
theorem okL (a b : Nat) (h : a < 10 ∧ b < 1000000000) : b < 1000000000 := h.2
set_option maxHeartbeats 16000000 in
theorem works14_calls (w : World) : Calls Tryz.prog 32 #[] w fun e w' => e = .returned (.bool true) ∧ Below w.heap.size w w' := by
  have hN := ynew_calls w
  go_enter Tryz.func32, Tryz.ntmps32
  go_wp2_with fail
  refine hN.mono ?_
  rintro e w1 ⟨p, rfl, h1, b1⟩
  clear hN
  have t1 : Turns (Fresh w) w w1 := Turns.below b1
  have hC := yadd_calls h1 (fun b hb => Nat.le_trans t1.size hb) sA (by show sA.size ≤ 140737488355328; decide +kernel) 1 (by decide) ⟨by decide, by decide⟩
  rw [show agY [] sA = 0 by decide +kernel, addL_0, show addN 0 0 = 1 by decide +kernel] at hC
  go_wp2_with fail
  --M1
  refine hC.mono ?_
  rintro e w2 ⟨rfl, h2, k2⟩
  have t2 := t1.trans k2
  clear hC h1 t1 k2 b1
  have hC := yadd_calls h2 (fun b hb => Nat.le_trans t2.size hb) sB (by show sB.size ≤ 140737488355328; decide +kernel) 5 (by decide) ⟨by decide, by decide⟩
  rw [show agY ([] ++ [((sA, 1, 0, 0, 0), 1)]) sB = 0 by decide +kernel, addL_0, show addN 1 0 = 2 by decide +kernel] at hC
  go_wp2_with fail
  refine hC.mono ?_
  rintro e w3 ⟨rfl, h3, k3⟩
  have t3 := t2.trans k3
  clear hC h2 t2 k3
  have hC := yadd_calls h3 (fun b hb => Nat.le_trans t3.size hb) sC (by show sC.size ≤ 140737488355328; decide +kernel) 1 (by decide) ⟨by decide, by decide⟩
  rw [show agY ([] ++ [((sA, 1, 0, 0, 0), 1)] ++ [((sB, 5, 1, 0, 0), 1)]) sC = 0 by decide +kernel, addL_0, show addN 2 0 = 3 by decide +kernel] at hC
  go_wp2_with fail
  refine hC.mono ?_
  rintro e w4 ⟨rfl, h4, k4⟩
  have t4 := t3.trans k4
  clear hC h3 t3 k4
  have h4 : QA (Fresh w) w4 p [eA, eB, eC] 3 [] := h4
  have hC := ypop_calls h4 (fun b hb => Nat.le_trans t4.size hb) (by decide) (by decide +kernel)
  go_wp2_with fail
  refine hC.mono ?_
  rintro e w5 ⟨x, er, S', rfl, ho, h5, k5⟩
  obtain ⟨rfl, rfl, rfl⟩ := pop_w1 ho
  have t5 := t4.trans k5
  clear hC h4 t4 k5 ho
  go_wp2_with fail
  obtain ⟨W6, hW6⟩ : ∃ Z, Z = w5.alloc (.cells #[.string sB, .int .i64 5, .int .i64 1, .int .i64 1, .int .i64 0] 31) := ⟨_, rfl⟩
  have a6 : Below w5.heap.size w5 W6 := by rw [hW6]; exact (Below.refl _ _).alloc (Nat.le_refl _) _
  have q6 : BoxL W6 w5.heap.size [.string sB, .int .i64 5, .int .i64 1, .int .i64 1, .int .i64 0] := by rw [hW6]; exact BoxL.new w5 31 _
  have h6 := (h5.weak (G := fun b => Fresh w b ∧ b ≠ w5.heap.size) (fun b hb hf => ⟨hf, by omega⟩)).on a6
  have t6 := t5.trans (Turns.below a6)
  have hF6 : ∀ b, W6.heap.size ≤ b → Fresh w b ∧ b ≠ w5.heap.size := fun b hb => ⟨Nat.le_trans t6.size hb, by have := q6.1; omega⟩
  have hC := ypop_calls h6 hF6 (by decide) (by decide +kernel)
  rw [← hW6]
  clear hW6 a6 h5 t5
  --M2
  refine hC.mono ?_
  rintro e w7 ⟨x, er, S', rfl, ho, h7, k7⟩
  obtain ⟨rfl, rfl, rfl⟩ := pop_w2 ho
  have t7 := t6.trans (k7.weak (fun b _ hf => hf.1))
  have q7 := k7.box q6 (fun hf => hf.2 rfl)
  clear hC h6 t6 k7 ho q6 hF6
  have hF7 : Hid (w5.heap.size < w7.heap.size) := q7.1
  have HX7 : Hid (BoxL w7 w5.heap.size [.string sB, .int .i64 5, .int .i64 1, .int .i64 1, .int .i64 0]) := q7
  have HT7 : Hid (Turns (Fresh w) w w7) := t7
  clear q7 t7
  go_upto_region 8 with fail
  obtain ⟨W8, hW8⟩ : ∃ Z, Z = w7.alloc (.cells #[.string sA, .int .i64 1, .int .i64 0, .int .i64 1, .int .i64 0] 31) := ⟨_, rfl⟩
  have a8 : Below w7.heap.size w7 W8 := by rw [hW8]; exact (Below.refl _ _).alloc (Nat.le_refl _) _
  have q8 : BoxL W8 w7.heap.size [.string sA, .int .i64 1, .int .i64 0, .int .i64 1, .int .i64 0] := by rw [hW8]; exact BoxL.new w7 31 _
  have h8 := (h7.weak (G := fun b => (Fresh w b ∧ b ≠ w5.heap.size) ∧ b ≠ w7.heap.size) (fun b hb hf => ⟨hf, by omega⟩)).on a8
  have t8 := HT7.out.trans (Turns.below a8)
  have hF8 : ∀ b, W8.heap.size ≤ b → (Fresh w b ∧ b ≠ w5.heap.size) ∧ b ≠ w7.heap.size := fun b hb => ⟨⟨Nat.le_trans t8.size hb, by have := q8.1; have := hF7.out; omega⟩, by have := q8.1; omega⟩
  have hC := yback_calls h8 hF8 (sA, 1, 0, 1, 0) (by show sA.size ≤ 140737488355328; decide +kernel) (by decide) 3 true (by decide)
  rw [show bkY [eC] (sA, 1, 0, 1, 0).1 3 = 0 by decide +kernel, addL_0, show backE (sA, 1, 0, 1, 0) 3 true = ((sA, 1, 0, 1, 4), 2) by decide +kernel] at hC
  rw [← hW8]
  have HX8 : Hid (W8.rangeAt w7.heap.size 0 [.string sA, .int .i64 1, .int .i64 0, .int .i64 1, .int .i64 0]) := q8.range
  have q8b := HX7.out.on a8
  clear hW8 a8 h7 HT7 HX7 hF7
  --M3
  go_wp2_with (first | (refine wpList_load_mid rfl 31 _ rfl w7.heap.size 0 rfl [.string sA, .int .i64 1, .int .i64 0, .int .i64 1, .int .i64 0] _ HX8.out Tryz.underlying31 rfl (by kernel_rfl) ?_) | fail)
  refine hC.mono ?_
  rintro e w9 ⟨rfl, h9, k9⟩
  have t9 := t8.trans (k9.weak (fun b _ hf => hf.1.1))
  have q9 := k9.box q8 (fun hf => hf.2 rfl)
  have q9b := k9.box q8b (fun hf => hf.1.2 rfl)
  have hF9 : ∀ b, w9.heap.size ≤ b → (Fresh w b ∧ b ≠ w5.heap.size) ∧ b ≠ w7.heap.size := fun b hb => hF8 b (Nat.le_trans k9.size hb)
  clear hC h8 t8 k9 q8 q8b hF8 HX8
  have hC := ytick_calls h9 hF9 3 (by decide)
  rw [show tkN ([eC] ++ [((sA, 1, 0, 1, 4), 2)]) 3 = 0 by decide +kernel, show tkL ([eC] ++ [((sA, 1, 0, 1, 4), 2)]) 3 = [eC, ((sA, 1, 0, 1, 4), 2)] by decide +kernel, show nowE 3 = 0 by decide +kernel] at hC
  have HQ9 : Hid (BoxL w9 w7.heap.size [.string sA, .int .i64 1, .int .i64 0, .int .i64 1, .int .i64 0] ∧ BoxL w9 w5.heap.size [.string sB, .int .i64 5, .int .i64 1, .int .i64 1, .int .i64 0] ∧ Turns (Fresh w) w w9 ∧ ∀ b, w9.heap.size ≤ b → (Fresh w b ∧ b ≠ w5.heap.size) ∧ b ≠ w7.heap.size) := ⟨q9, q9b, t9, hF9⟩
  clear h9 t9 q9 q9b hF9
  go_wp2_with fail
  refine hC.mono ?_
  rintro e w10 ⟨rfl, h10, k10⟩
  have hC := ytick_calls h10 (fun b hb => HQ9.out.2.2.2 b (Nat.le_trans k10.size hb)) 4 (by decide)
  rw [show tkN [eC, ((sA, 1, 0, 1, 4), 2)] 4 = 1 by decide +kernel, show nowE 4 = 0 by decide +kernel] at hC
  have HQ10 : Hid (BoxL w10 w7.heap.size [.string sA, .int .i64 1, .int .i64 0, .int .i64 1, .int .i64 0] ∧ BoxL w10 w5.heap.size [.string sB, .int .i64 5, .int .i64 1, .int .i64 1, .int .i64 0] ∧ Turns (Fresh w) w w10) := ⟨k10.box HQ9.out.1 (fun hf => hf.2 rfl), k10.box HQ9.out.2.1 (fun hf => hf.1.2 rfl), HQ9.out.2.2.1.trans (k10.weak (fun b _ hf => hf.1.1))⟩
  clear h10 k10 HQ9
  go_wp2_with fail
  refine hC.mono ?_
  rintro e w11 ⟨rfl, h11, k11⟩
  have q11 := k11.box HQ10.out.1 (fun hf => hf.2 rfl)
  have q11b := k11.box HQ10.out.2.1 (fun hf => hf.1.2 rfl)
  have HT11 : Hid (Turns (Fresh w) w w11) := HQ10.out.2.2.trans (k11.weak (fun b _ hf => hf.1.1))
  have d0 : w11.cell? ⟨w5.heap.size, 0, none⟩ = some (.string sB) := (q11b.2 0 _ rfl).1
  have d1 : w11.cell? ⟨w7.heap.size, 0, none⟩ = some (.string sA) := (q11.2 0 _ rfl).1
  have d2 : w11.cell? ⟨w7.heap.size, 3, none⟩ = some (.int .i64 1) := (q11.2 3 _ rfl).1
  have hD := ydelay_calls 3 (by decide) w11
  rw [show delayY 3 = 4 by decide +kernel] at hD
  have e1 : (sB.toList == [98]) = true := by decide +kernel
  have e2 : (sA.toList == [97]) = true := by decide +kernel
  clear hC h11 k11 HQ10 q11 q11b
  go_wp2_with fail
  --M4
  refine hD.mono ?_
  rintro e w12 ⟨rfl, hw12⟩
  obtain rfl := hw12.symm
  go_wp2_with fail
  go_ret
  exact ⟨rfl, Turns.behind (Below.refl _ _) HT11.out⟩
end Go.Proofs.YtpombhiffpbedaaGreat
namespace Go.Proofs.YtpombhiffpbedaaGreat
open Go.ChangeShapes Go.WideShapes Go.ChangeAt Go.RowKit

/-- What is read as of that type lies as said. -/
def Opens {α : Type} (R : Rep α) (t : TypeId) : Prop :=
  ∀ {H : Type} {enc : TypeId × Value → H} {W : World} {base n : Nat} {sp : Nat → Bool} {held : Bool} {cs : List Value} {x : DataW H × List MemPlace},
    DataW.trod enc Tryz.prog W base sp held n t cs = some x → Light x.1 t → ∃ y, R (fun _ => True) W cs y
theorem opens_str : Opens RStr 9 := by
  intro H enc W base n sp held cs x h hl
  obtain ⟨s, hs, rfl, _⟩ := DataW.trod_string Tryz.underlying9 h
  refine ⟨s, hs, ?_⟩
  have := hl s.data.toList.length (by simp [DataW.weights])
  simp at this
  omega
theorem opens_int : Opens RInt 3 := by
  intro H enc W base n sp held cs x h _
  obtain ⟨e, e1, _, _⟩ := DataW.trod_int Tryz.underlying3 h
  exact ⟨e, e1⟩
theorem opens_bool : Opens RBool 4 := by
  intro H enc W base n sp held cs x h _
  obtain ⟨b, b1, _⟩ := DataW.trod_bool Tryz.underlying4 h
  exact ⟨b, b1⟩
theorem opens_slice {α : Type} [Inhabited α] {R : Rep α} {k bytes : Nat} {t e : TypeId} (hR : Firm R k) (hu : Tryz.prog.underlying t = some (.slice e)) (ck : Tryz.prog.cellsOf e = k) (bk : Tryz.prog.bytesOf e = bytes) (hk0 : 0 < k) (hE : Opens R e) : Opens (RSl R k bytes) t := by
  intro H enc W base n sp held cs x h hl
  rcases Go.Deep.open_slice hu h with ⟨hv, _⟩ | ⟨a, len, cap, m, nn, D, Pl, hv, _, hlc, _, hm, rfl, hel⟩
  · exact ⟨[], none, 0, 0, hv, SlAt.nil _ _ _ _ (fun _ => rfl)⟩
  · obtain ⟨w1, w2⟩ := light_slice hu hl
    simp only [List.length_map, List.length_range, bk] at w1
    have hml : len ≤ m := by rw [hm]; split <;> omega
    rw [ck] at hel
    have each : ∀ i, i < len → ∃ y : α, ∃ cs, R (fun _ => True) W cs y ∧ ∀ j u, cs[j]? = some u → W.cell? ((a.add (i * k)).add j) = some u := fun i hi => by
      obtain ⟨cs', h1, h2⟩ := hel i (by omega)
      obtain ⟨y, hy⟩ := hE h2 (w2 _ (List.mem_map.2 ⟨i, List.mem_range.2 hi, rfl⟩))
      obtain ⟨_, _, hcell⟩ := World.cells?_some h1
      refine ⟨y, cs', hy, fun j u hj => ?_⟩
      have hjk : j < k := by
        have := (List.getElem?_eq_some_iff.1 hj).1
        rwa [hR.len hy] at this
      rw [hcell j hjk, hj]
    obtain ⟨f, hf⟩ := Go.Deep.choose_lt each
    refine ⟨(List.range len).map f, some a, len, cap, hv, by simp, hlc, (fun h => by cases h), w1, fun hpos => ?_⟩
    obtain ⟨B, off, spot⟩ := a
    obtain ⟨cs0, hr0, hc0⟩ := hf 0 hpos
    have hex : ∃ u, cs0[0]? = some u := by
      cases e : cs0 with
      | nil => have := hR.len hr0; rw [e] at this; simp at this; omega
      | cons u r => exact ⟨u, rfl⟩
    obtain ⟨u0, hu0⟩ := hex
    have hc0 := hc0 0 u0 hu0
    have hsp : spot = none := by
      have := World.cell?_spot hc0
      simpa [Addr.add] using this
    subst hsp
    rw [add_lit, add_lit] at hc0
    refine ⟨B, off, rfl, addr_lt hc0, trivial, fun i hi => ?_⟩
    obtain ⟨cs, hr, hc⟩ := hf i hi
    refine ⟨cs, by rw [getD_range f len i hi]; exact hr, fun j u hj => ?_⟩
    have := hc j u hj
    rwa [add_lit, add_lit] at this
/-- The same of a struct's fields from a place on. -/
def OpensFs {α : Type} (fs : List Field) (off total : Nat) (R : Rep α) : Prop :=
  ∀ {H : Type} {enc : TypeId × Value → H} {W : World} {base n : Nat} {sp : Nat → Bool} {held : Bool} {cs : List Value}, cs.length = total →
    (∀ (j : Nat) (f : Field), fs[j]? = some f → ∃ d, DataW.trod enc Tryz.prog W base sp held n f.type ((cs.drop f.offset).take (Tryz.prog.cellsOf f.type)) = some d ∧ Light d.1 f.type) → ∃ y, R (fun _ => True) W (cs.drop off) y
theorem opensFs_last {α : Type} {R : Rep α} {f : Field} {off total : Nat} (ho : f.offset = off) (ht : off + Tryz.prog.cellsOf f.type = total) (h : Opens R f.type) : OpensFs [f] off total R := by
  intro H enc W base n sp held cs hl hf
  obtain ⟨d, h1, h2⟩ := hf 0 f rfl
  rw [ho, List.take_of_length_le (by rw [List.length_drop]; omega)] at h1
  exact h h1 h2
theorem opensFs_cons {α β : Type} {R : Rep α} {S : Rep β} {f : Field} {fs : List Field} {off m total : Nat} (ho : f.offset = off) (hm : off + Tryz.prog.cellsOf f.type = m) (h : Opens R f.type) (hs : OpensFs fs m total S) : OpensFs (f :: fs) off total (RPair R S) := by
  intro H enc W base n sp held cs hl hf
  obtain ⟨d, h1, h2⟩ := hf 0 f rfl
  rw [ho] at h1
  obtain ⟨y, hy⟩ := h h1 h2
  obtain ⟨z, hz⟩ := hs (cs := cs) hl (fun j g hg => hf (j + 1) g (by simpa using hg))
  refine ⟨(y, z), (cs.drop off).take (Tryz.prog.cellsOf f.type), cs.drop m, ?_, hy, hz⟩
  rw [← hm, ← List.drop_drop]
  exact (List.take_append_drop _ _).symm
theorem opens_struct {α : Type} {R : Rep α} {t : TypeId} {fs : Array Field} {total : Nat} (hu : Tryz.prog.underlying t = some (.struct fs)) (hc : Tryz.prog.cellsOf t = total) (h : OpensFs fs.toList 0 total R) : Opens R t := by
  intro H enc W base n sp held cs x hx hl
  obtain ⟨xs, m, _, rfl, hlen, hxs, hf⟩ := DataW.trod_struct hu hx
  have := h (enc := enc) (W := W) (base := base) (n := m) (sp := sp) (held := held) (cs := cs) (by rw [hlen, hc]) (fun j f hj => by
    have hj' : fs[j]? = some f := by simpa using hj
    have h1 := hf j f hj'
    have hlt : j < xs.length := by
      have := (Array.getElem?_eq_some_iff.1 hj').1
      omega
    have h2 : xs[j]? = some xs[j] := List.getElem?_eq_getElem hlt
    rw [h2] at h1
    refine ⟨xs[j], h1, light_struct hu hl (j := j) (by simp [hj']) (by simp [h2])⟩)
  simpa using this
theorem arg_agg {P : Program} {t : TypeId} {fs : Array Field} (hu : P.underlying t = some (.struct fs)) {H : Type} {enc : TypeId × Value → H} {W : World} {base b0 : Nat} {r : Reach} {sp : Nat → Bool} {held : Bool} {v : Value} {d : DataW H} {p : List MemPlace}
    (hv : Value.okWide P W r b0 t v) (hd : DataW.Trod enc P W base sp held t v d p) : ∃ (cs : Array Value) (fuel : Nat), v = .agg cs ∧ DataW.trod enc P W base sp held fuel t cs.toList = some (d, p) := by
  obtain ⟨cs, rfl, _⟩ := okWide_struct hu hv
  obtain ⟨fuel, hf⟩ := hd
  exact ⟨cs, fuel, rfl, hf⟩
set_option maxRecDepth 100000 in
/-- A struct that is handed in. -/
theorem opens_arg {α : Type} {R : Rep α} {t : TypeId} {fs : Array Field} (hu : Tryz.prog.underlying t = some (.struct fs)) (h : Opens R t) {H : Type} {enc : TypeId × Value → H} {W : World} {base b0 : Nat} {r : Reach} {sp : Nat → Bool} {held : Bool} {v : Value} {d : DataW H} {p : List MemPlace}
    (hv : Value.okWide Tryz.prog W r b0 t v) (hd : DataW.Trod enc Tryz.prog W base sp held t v d p) (hl : Light d t) : ∃ cs y, v = .agg cs ∧ R (fun _ => True) W cs.toList y := by
  obtain ⟨cs, fuel, e, hf⟩ := arg_agg hu hv hd
  obtain ⟨y, hy⟩ := h hf hl
  exact ⟨cs, y, e, hy⟩
end Go.Proofs.YtpombhiffpbedaaGreat
namespace Go.Proofs.YtpombhiffpbedaaGreat
open Go.ChangeShapes Go.WideShapes Go.ChangeAt Go.RowKit
set_option linter.unusedSimpArgs false

/-- A number of Go's. -/
def RIW : Rep Int := fun _ _ cs n => cs = [.int .i64 n] ∧ -9223372036854775808 ≤ n ∧ n ≤ 9223372036854775807
theorem opens_IW : Opens RIW 3 := by
  intro H enc W base n sp held cs x h _
  obtain ⟨e, e1, _, hw⟩ := DataW.trod_int Tryz.underlying3 h
  refine ⟨e, e1, ?_⟩
  simp [Lit.wf, IntKind.max, IntKind.min, IntKind.bits, IntKind.signed] at hw
  omega
def RWtB : Rep WtD := RPair RStr (RPair RInt (RPair RInt (RPair RIW RInt)))
theorem opens_WtB : Opens RWtB 31 := opens_struct (total := 5) Tryz.underlying31 (by kernel_rfl) (opensFs_cons (m := 1) rfl (by kernel_rfl) opens_str (opensFs_cons (m := 2) rfl (by kernel_rfl) opens_int (opensFs_cons (m := 3) rfl (by kernel_rfl) opens_int (opensFs_cons (m := 4) rfl (by kernel_rfl) opens_IW (opensFs_last rfl (by kernel_rfl) opens_int)))))
/-- What waits, as a whole. -/
def WtOk (x : WtD) : Prop := okS x.1 ∧ -9223372036854775808 ≤ x.2.2.2.1 ∧ x.2.2.2.1 ≤ 9223372036854775807
theorem RWtB.all {A : Where} {w : World} {cs : List Value} {x : WtD} (h : RWtB A w cs x) : cs = wtC x ∧ WtOk x := by
  obtain ⟨c0, d0, rfl, ⟨rfl, h0⟩, c1, d1, rfl, rfl, c2, d2, rfl, rfl, c3, d3, rfl, ⟨rfl, h3, h4⟩, h5⟩ := h
  obtain rfl : d3 = [.int .i64 x.2.2.2.2] := h5
  exact ⟨rfl, h0, h3, h4⟩
end Go.Proofs.YtpombhiffpbedaaGreat
