/- Arguments as they come in, with a bound on what they hold: no more than the reading's bulk. No condition beyond the row's own reach. -/
import Derived.Test.YtnlmipgmakmbiaaDTypesO
import Derived.Test.YtnlmipgmakmbiaaIOfP
import Derived.Test.YtnlmipgmakmbiaaRows
namespace Go.Proofs.Ytnlmipgmakmbiaa
open Go.ChangeShapes Go.WideShapes Go.ChangeAt Go.RowKit
set_option linter.unusedSimpArgs false

/-- What is read as of that type lies as said, and is no greater than its bulk. -/
def OpensM {α : Type} (R : Rep α) (m : α → Nat) (t : TypeId) : Prop :=
  ∀ {H : Type} {enc : TypeId × Value → H} {W : World} {base n : Nat} {sp : Nat → Bool} {held : Bool} {cs : List Value} {x : DataW H × List MemPlace},
    DataW.trod enc Try.prog W base sp held n t cs = some x → Light x.1 t → ∃ y, R (fun _ => True) W cs y ∧ m y ≤ Rows.uptoBulk x.1
theorem bulk_pos {H : Type} (d : DataW H) : 1 ≤ Rows.uptoBulk d := by
  match d with
  | .lit l => cases l <;> simp [Rows.uptoBulk]
  | .nil => simp [Rows.uptoBulk]
  | .ptr _ => simp [Rows.uptoBulk]
  | .slice _ _ => simp [Rows.uptoBulk]
  | .agg _ => simp [Rows.uptoBulk]
  | .iface _ _ => simp [Rows.uptoBulk]
  | .map _ => simp [Rows.uptoBulk]
  | .held _ => simp [Rows.uptoBulk]
theorem Opens.m {α : Type} {R : Rep α} {t : TypeId} (h : Opens R t) : OpensM R (fun _ => 1) t := by
  intro H enc W base n sp held cs x hx hl
  obtain ⟨y, hy⟩ := h hx hl
  exact ⟨y, hy, bulk_pos _⟩
theorem sum_bulk {α H : Type} (m : α → Nat) (f : Nat → α) (D : Nat → DataW H) : ∀ l : List Nat, (∀ i ∈ l, m (f i) ≤ Rows.uptoBulk (D i)) → sumBy m (l.map f) ≤ Rows.uptoBulkAll (l.map D)
  | [], _ => by simp [sumBy, Rows.uptoBulkAll]
  | i :: l, h => by
    have := sum_bulk m f D l (fun j hj => h j (List.mem_cons_of_mem _ hj))
    have h0 := h i List.mem_cons_self
    simp only [sumBy, List.map_cons, List.sum_cons, Rows.uptoBulkAll] at this ⊢
    omega
theorem opensM_slice {α : Type} [Inhabited α] {R : Rep α} {m : α → Nat} {k bytes : Nat} {t e : TypeId} (hR : Firm R k) (hu : Try.prog.underlying t = some (.slice e)) (ck : Try.prog.cellsOf e = k) (bk : Try.prog.bytesOf e = bytes) (hk0 : 0 < k) (hE : OpensM R m e) : OpensM (RSl R k bytes) (sumBy m) t := by
  intro H enc W base n sp held cs x h hl
  rcases Go.Deep.open_slice hu h with ⟨hv, _⟩ | ⟨a, len, cap, mm, nn, D, Pl, hv, _, hlc, _, hm, rfl, hel⟩
  · exact ⟨[], ⟨none, 0, 0, hv, SlAt.nil _ _ _ _ (fun _ => rfl)⟩, by simp [sumBy]⟩
  · obtain ⟨w1, w2⟩ := light_slice hu hl
    simp only [List.length_map, List.length_range, bk] at w1
    have hml : len ≤ mm := by rw [hm]; split <;> omega
    rw [ck] at hel
    have each : ∀ i, i < len → ∃ y : α, (∃ cs, R (fun _ => True) W cs y ∧ ∀ j u, cs[j]? = some u → W.cell? ((a.add (i * k)).add j) = some u) ∧ m y ≤ Rows.uptoBulk (D i) := fun i hi => by
      obtain ⟨cs', h1, h2⟩ := hel i (by omega)
      obtain ⟨y, hy, hm⟩ := hE h2 (w2 _ (List.mem_map.2 ⟨i, List.mem_range.2 hi, rfl⟩))
      obtain ⟨_, _, hcell⟩ := World.cells?_some h1
      refine ⟨y, ⟨cs', hy, fun j u hj => ?_⟩, hm⟩
      have hjk : j < k := by
        have := (List.getElem?_eq_some_iff.1 hj).1
        rwa [hR.len hy] at this
      rw [hcell j hjk, hj]
    obtain ⟨f, hf⟩ := Go.Deep.choose_lt each
    refine ⟨(List.range len).map f, ⟨some a, len, cap, hv, by simp, hlc, (fun h => by cases h), w1, fun hpos => ?_⟩, ?_⟩
    · obtain ⟨B, off, spot⟩ := a
      obtain ⟨cs0, hr0, hc0⟩ := (hf 0 hpos).1
      have hex : ∃ u, cs0[0]? = some u := by
        cases e : cs0 with
        | nil => have := hR.len hr0; rw [e] at this; simp at this; omega
        | cons u r => exact ⟨u, rfl⟩
      obtain ⟨u0, hu0⟩ := hex
      have hc0 := hc0 0 u0 hu0
      have hsp : spot = none := by
        have := World.cell?_spot hc0
        simpa [Addr.add] using this
      subst hsp
      rw [add_lit, add_lit] at hc0
      refine ⟨B, off, rfl, addr_lt hc0, trivial, fun i hi => ?_⟩
      obtain ⟨cs, hr, hc⟩ := (hf i hi).1
      refine ⟨cs, by rw [getD_range f len i hi]; exact hr, fun j u hj => ?_⟩
      have := hc j u hj
      rwa [add_lit, add_lit] at this
    · have := sum_bulk m f D (List.range len) (fun i hi => (hf i (List.mem_range.1 hi)).2)
      simp only [Rows.uptoBulk]
      omega
def OpensFsM {α : Type} (fs : List Field) (off total : Nat) (R : Rep α) (m : α → Nat) : Prop :=
  ∀ {H : Type} {enc : TypeId × Value → H} {W : World} {base n : Nat} {sp : Nat → Bool} {held : Bool} {cs : List Value} {ds : List (DataW H)}, cs.length = total → ds.length = fs.length →
    (∀ (j : Nat) (f : Field), fs[j]? = some f → ∃ d, DataW.trod enc Try.prog W base sp held n f.type ((cs.drop f.offset).take (Try.prog.cellsOf f.type)) = some d ∧ Light d.1 f.type ∧ ds[j]? = some d.1) → ∃ y, R (fun _ => True) W (cs.drop off) y ∧ m y ≤ Rows.uptoBulkAll ds
theorem opensFsM_last {α : Type} {R : Rep α} {m : α → Nat} {f : Field} {off total : Nat} (ho : f.offset = off) (ht : off + Try.prog.cellsOf f.type = total) (h : OpensM R m f.type) : OpensFsM [f] off total R m := by
  intro H enc W base n sp held cs ds hl hd hf
  obtain ⟨d, h1, h2, h3⟩ := hf 0 f rfl
  rw [ho, List.take_of_length_le (by rw [List.length_drop]; omega)] at h1
  obtain ⟨y, hy, hm⟩ := h h1 h2
  refine ⟨y, hy, ?_⟩
  cases ds with
  | nil => simp at hd
  | cons d0 r => simp at h3; subst h3; simp only [Rows.uptoBulkAll]; omega
theorem opensFsM_cons {α β : Type} {R : Rep α} {S : Rep β} {m1 : α → Nat} {m2 : β → Nat} {f : Field} {fs : List Field} {off mm total : Nat} (ho : f.offset = off) (hm : off + Try.prog.cellsOf f.type = mm) (h : OpensM R m1 f.type) (hs : OpensFsM fs mm total S m2) : OpensFsM (f :: fs) off total (RPair R S) (fun x => m1 x.1 + m2 x.2) := by
  intro H enc W base n sp held cs ds hl hd hf
  obtain ⟨d, h1, h2, h3⟩ := hf 0 f rfl
  rw [ho] at h1
  obtain ⟨y, hy, hm1⟩ := h h1 h2
  cases ds with
  | nil => simp at hd
  | cons d0 r =>
    obtain ⟨z, hz, hm2⟩ := hs (cs := cs) (ds := r) hl (by simpa using hd) (fun j g hg => by have := hf (j + 1) g (by simpa using hg); simpa using this)
    refine ⟨(y, z), ⟨(cs.drop off).take (Try.prog.cellsOf f.type), cs.drop mm, ?_, hy, hz⟩, ?_⟩
    · rw [← hm, ← List.drop_drop]
      exact (List.take_append_drop _ _).symm
    · simp at h3; subst h3; simp only [Rows.uptoBulkAll]; omega
theorem opensM_struct {α : Type} {R : Rep α} {m : α → Nat} {t : TypeId} {fs : Array Field} {total : Nat} (hu : Try.prog.underlying t = some (.struct fs)) (hc : Try.prog.cellsOf t = total) (h : OpensFsM fs.toList 0 total R m) : OpensM R m t := by
  intro H enc W base n sp held cs x hx hl
  obtain ⟨xs, mm, _, rfl, hlen, hxs, hf⟩ := DataW.trod_struct hu hx
  have := h (enc := enc) (W := W) (base := base) (n := mm) (sp := sp) (held := held) (cs := cs) (ds := xs.map (·.1)) (by rw [hlen, hc]) (by simp [hxs]) (fun j f hj => by
    have hj' : fs[j]? = some f := by simpa using hj
    have h1 := hf j f hj'
    have hlt : j < xs.length := by
      have := (Array.getElem?_eq_some_iff.1 hj').1
      omega
    have h2 : xs[j]? = some xs[j] := List.getElem?_eq_getElem hlt
    rw [h2] at h1
    refine ⟨xs[j], h1, light_struct hu hl (j := j) (by simp [hj']) (by simp [h2]), by simp [h2]⟩)
  obtain ⟨y, hy, hm⟩ := this
  refine ⟨y, by simpa using hy, ?_⟩
  simp only [Rows.uptoBulk]
  omega
end Go.Proofs.Ytnlmipgmakmbiaa
