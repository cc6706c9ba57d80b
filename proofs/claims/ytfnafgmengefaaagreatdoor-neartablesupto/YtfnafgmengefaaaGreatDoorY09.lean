/- Arguments of layer 8 as they come in, with a bound on what they hold. No condition beyond the row's own reach. Arguments of layer 8 as they come in, with how long what is written of them is. No condition beyond the row's own reach. -/
import Derived.Test.YtfnafgmengefaaaGreatDoorQ28
import Derived.Test.YtfnafgmengefaaaGreatDoorQ18
import Derived.Test.YtfnafgmengefaaaGreatDoorQ22
import Derived.Lib.ItoaLen
namespace Go.Proofs.YtfnafgmengefaaaGreatDoor
open Go.ChangeShapes Go.WideShapes Go.ChangeAt Go.RowKit
set_option linter.unusedSimpArgs false

def sumBy {α : Type} (f : α → Nat) (L : List α) : Nat := (L.map f).sum
/-- What is read as of that type lies as said, and is no greater than its bulk. -/
def OpensM {α : Type} (R : Rep α) (m : α → Nat) (t : TypeId) : Prop :=
  ∀ {H : Type} {enc : TypeId × Value → H} {W : World} {base n : Nat} {sp : Nat → Bool} {held : Bool} {cs : List Value} {x : DataW H × List MemPlace},
    DataW.trod enc Tryz.prog W base sp held n t cs = some x → Light x.1 t → ∃ y, R (fun _ => True) W cs y ∧ m y ≤ Rows.uptoBulk x.1
theorem bulk_pos {H : Type} (d : DataW H) : 1 ≤ Rows.uptoBulk d := by
  match d with
  | .lit l => cases l <;> simp [Rows.uptoBulk]
  | .nil => simp [Rows.uptoBulk]
  | .ptr _ => simp [Rows.uptoBulk]
  | .slice _ _ => simp [Rows.uptoBulk]
  | .agg _ => simp [Rows.uptoBulk]
  | .iface _ _ => simp [Rows.uptoBulk]
  | .map _ => simp [Rows.uptoBulk]
  | .held _ => simp [Rows.uptoBulk]
theorem Opens.m {α : Type} {R : Rep α} {t : TypeId} (h : Opens R t) : OpensM R (fun _ => 1) t := by
  intro H enc W base n sp held cs x hx hl
  obtain ⟨y, hy⟩ := h hx hl
  exact ⟨y, hy, bulk_pos _⟩
theorem sum_bulk {α H : Type} (m : α → Nat) (f : Nat → α) (D : Nat → DataW H) : ∀ l : List Nat, (∀ i ∈ l, m (f i) ≤ Rows.uptoBulk (D i)) → sumBy m (l.map f) ≤ Rows.uptoBulkAll (l.map D)
  | [], _ => by simp [sumBy, Rows.uptoBulkAll]
  | i :: l, h => by
    have := sum_bulk m f D l (fun j hj => h j (List.mem_cons_of_mem _ hj))
    have h0 := h i List.mem_cons_self
    simp only [sumBy, List.map_cons, List.sum_cons, Rows.uptoBulkAll] at this ⊢
    omega
theorem opensM_slice {α : Type} [Inhabited α] {R : Rep α} {m : α → Nat} {k bytes : Nat} {t e : TypeId} (hR : Firm R k) (hu : Tryz.prog.underlying t = some (.slice e)) (ck : Tryz.prog.cellsOf e = k) (bk : Tryz.prog.bytesOf e = bytes) (hk0 : 0 < k) (hE : OpensM R m e) : OpensM (RSl R k bytes) (sumBy m) t := by
  intro H enc W base n sp held cs x h hl
  rcases Go.Deep.open_slice hu h with ⟨hv, _⟩ | ⟨a, len, cap, mm, nn, D, Pl, hv, _, hlc, _, hm, rfl, hel⟩
  · exact ⟨[], ⟨none, 0, 0, hv, SlAt.nil _ _ _ _ (fun _ => rfl)⟩, by simp [sumBy]⟩
  · obtain ⟨w1, w2⟩ := light_slice hu hl
    simp only [List.length_map, List.length_range, bk] at w1
    have hml : len ≤ mm := by rw [hm]; split <;> omega
    rw [ck] at hel
    have each : ∀ i, i < len → ∃ y : α, (∃ cs, R (fun _ => True) W cs y ∧ ∀ j u, cs[j]? = some u → W.cell? ((a.add (i * k)).add j) = some u) ∧ m y ≤ Rows.uptoBulk (D i) := fun i hi => by
      obtain ⟨cs', h1, h2⟩ := hel i (by omega)
      obtain ⟨y, hy, hm⟩ := hE h2 (w2 _ (List.mem_map.2 ⟨i, List.mem_range.2 hi, rfl⟩))
      obtain ⟨_, _, hcell⟩ := World.cells?_some h1
      refine ⟨y, ⟨cs', hy, fun j u hj => ?_⟩, hm⟩
      have hjk : j < k := by
        have := (List.getElem?_eq_some_iff.1 hj).1
        rwa [hR.len hy] at this
      rw [hcell j hjk, hj]
    obtain ⟨f, hf⟩ := Go.Deep.choose_lt each
    refine ⟨(List.range len).map f, ⟨some a, len, cap, hv, by simp, hlc, (fun h => by cases h), w1, fun hpos => ?_⟩, ?_⟩
    · obtain ⟨B, off, spot⟩ := a
      obtain ⟨cs0, hr0, hc0⟩ := (hf 0 hpos).1
      have hex : ∃ u, cs0[0]? = some u := by
        cases e : cs0 with
        | nil => have := hR.len hr0; rw [e] at this; simp at this; omega
        | cons u r => exact ⟨u, rfl⟩
      obtain ⟨u0, hu0⟩ := hex
      have hc0 := hc0 0 u0 hu0
      have hsp : spot = none := by
        have := World.cell?_spot hc0
        simpa [Addr.add] using this
      subst hsp
      rw [add_lit, add_lit] at hc0
      refine ⟨B, off, rfl, addr_lt hc0, trivial, fun i hi => ?_⟩
      obtain ⟨cs, hr, hc⟩ := (hf i hi).1
      refine ⟨cs, by rw [getD_range f len i hi]; exact hr, fun j u hj => ?_⟩
      have := hc j u hj
      rwa [add_lit, add_lit] at this
    · have := sum_bulk m f D (List.range len) (fun i hi => (hf i (List.mem_range.1 hi)).2)
      simp only [Rows.uptoBulk]
      omega
def OpensFsM {α : Type} (fs : List Field) (off total : Nat) (R : Rep α) (m : α → Nat) : Prop :=
  ∀ {H : Type} {enc : TypeId × Value → H} {W : World} {base n : Nat} {sp : Nat → Bool} {held : Bool} {cs : List Value} {ds : List (DataW H)}, cs.length = total → ds.length = fs.length →
    (∀ (j : Nat) (f : Field), fs[j]? = some f → ∃ d, DataW.trod enc Tryz.prog W base sp held n f.type ((cs.drop f.offset).take (Tryz.prog.cellsOf f.type)) = some d ∧ Light d.1 f.type ∧ ds[j]? = some d.1) → ∃ y, R (fun _ => True) W (cs.drop off) y ∧ m y ≤ Rows.uptoBulkAll ds
theorem opensFsM_last {α : Type} {R : Rep α} {m : α → Nat} {f : Field} {off total : Nat} (ho : f.offset = off) (ht : off + Tryz.prog.cellsOf f.type = total) (h : OpensM R m f.type) : OpensFsM [f] off total R m := by
  intro H enc W base n sp held cs ds hl hd hf
  obtain ⟨d, h1, h2, h3⟩ := hf 0 f rfl
  rw [ho, List.take_of_length_le (by rw [List.length_drop]; omega)] at h1
  obtain ⟨y, hy, hm⟩ := h h1 h2
  refine ⟨y, hy, ?_⟩
  cases ds with
  | nil => simp at hd
  | cons d0 r => simp at h3; subst h3; simp only [Rows.uptoBulkAll]; omega
theorem opensFsM_cons {α β : Type} {R : Rep α} {S : Rep β} {m1 : α → Nat} {m2 : β → Nat} {f : Field} {fs : List Field} {off mm total : Nat} (ho : f.offset = off) (hm : off + Tryz.prog.cellsOf f.type = mm) (h : OpensM R m1 f.type) (hs : OpensFsM fs mm total S m2) : OpensFsM (f :: fs) off total (RPair R S) (fun x => m1 x.1 + m2 x.2) := by
  intro H enc W base n sp held cs ds hl hd hf
  obtain ⟨d, h1, h2, h3⟩ := hf 0 f rfl
  rw [ho] at h1
  obtain ⟨y, hy, hm1⟩ := h h1 h2
  cases ds with
  | nil => simp at hd
  | cons d0 r =>
    obtain ⟨z, hz, hm2⟩ := hs (cs := cs) (ds := r) hl (by simpa using hd) (fun j g hg => by have := hf (j + 1) g (by simpa using hg); simpa using this)
    refine ⟨(y, z), ⟨(cs.drop off).take (Tryz.prog.cellsOf f.type), cs.drop mm, ?_, hy, hz⟩, ?_⟩
    · rw [← hm, ← List.drop_drop]
      exact (List.take_append_drop _ _).symm
    · simp at h3; subst h3; simp only [Rows.uptoBulkAll]; omega
theorem opensM_struct {α : Type} {R : Rep α} {m : α → Nat} {t : TypeId} {fs : Array Field} {total : Nat} (hu : Tryz.prog.underlying t = some (.struct fs)) (hc : Tryz.prog.cellsOf t = total) (h : OpensFsM fs.toList 0 total R m) : OpensM R m t := by
  intro H enc W base n sp held cs x hx hl
  obtain ⟨xs, mm, _, rfl, hlen, hxs, hf⟩ := DataW.trod_struct hu hx
  have := h (enc := enc) (W := W) (base := base) (n := mm) (sp := sp) (held := held) (cs := cs) (ds := xs.map (·.1)) (by rw [hlen, hc]) (by simp [hxs]) (fun j f hj => by
    have hj' : fs[j]? = some f := by simpa using hj
    have h1 := hf j f hj'
    have hlt : j < xs.length := by
      have := (Array.getElem?_eq_some_iff.1 hj').1
      omega
    have h2 : xs[j]? = some xs[j] := List.getElem?_eq_getElem hlt
    rw [h2] at h1
    refine ⟨xs[j], h1, light_struct hu hl (j := j) (by simp [hj']) (by simp [h2]), by simp [h2]⟩)
  obtain ⟨y, hy, hm⟩ := this
  refine ⟨y, by simpa using hy, ?_⟩
  simp only [Rows.uptoBulk]
  omega

theorem opensM_terms8 : OpensM (RSl RTerm 2 40) (sumBy (fun _ => 1)) 29 := opensM_slice RTerm.firm Tryz.underlying29 (by kernel_rfl) (by kernel_rfl) (by decide) (Opens.m opens_Term)
def mPod (x : PodD) : Nat := 1 + (1 + (1 + (1 + (1 + (1 + (1 + (1 + (sumBy (fun _ => 1) (pNear x) + (sumBy (fun _ => 1) (pApart x) + (1 + (1 + (1 + 1))))))))))))
set_option maxHeartbeats 1000000 in
theorem opensM_Pod : OpensM RPod mPod 33 := by
  intro H enc W base n sp held cs x hx hl
  obtain ⟨y, hy, hm⟩ := (opensM_struct (total := 16) Tryz.underlying33 (by kernel_rfl) (opensFsM_cons (mm := 1) rfl (by kernel_rfl) (Opens.m opens_str) (opensFsM_cons (mm := 2) rfl (by kernel_rfl) (Opens.m opens_int) (opensFsM_cons (mm := 3) rfl (by kernel_rfl) (Opens.m opens_s_Label) (opensFsM_cons (mm := 6) rfl (by kernel_rfl) (Opens.m opens_Res) (opensFsM_cons (mm := 7) rfl (by kernel_rfl) (Opens.m opens_s_Bear) (opensFsM_cons (mm := 8) rfl (by kernel_rfl) (Opens.m opens_s_Req) (opensFsM_cons (mm := 9) rfl (by kernel_rfl) (Opens.m opens_s_Prefer) (opensFsM_cons (mm := 10) rfl (by kernel_rfl) (Opens.m opens_s_int) (opensFsM_cons (mm := 11) rfl (by kernel_rfl) opensM_terms8 (opensFsM_cons (mm := 12) rfl (by kernel_rfl) opensM_terms8 (opensFsM_cons (mm := 13) rfl (by kernel_rfl) (Opens.m opens_s_Spread) (opensFsM_cons (mm := 14) rfl (by kernel_rfl) (Opens.m opens_s_str) (opensFsM_cons (mm := 15) rfl (by kernel_rfl) (Opens.m opens_str) (opensFsM_last rfl (by kernel_rfl) (Opens.m opens_str)))))))))))))))) hx hl
  exact ⟨y, hy, hm⟩
theorem opensM_Placed : OpensM RPlaced (fun x => mPod x.1 + 1) 41 := by
  intro H enc W base n sp held cs x hx hl
  exact (opensM_struct (total := 17) Tryz.underlying41 (by kernel_rfl) (opensFsM_cons (mm := 16) rfl (by kernel_rfl) opensM_Pod (opensFsM_last rfl (by kernel_rfl) (Opens.m opens_s_Label)))) hx hl
theorem opensM_s_Label : OpensM (RSl RLabel 2 32) (fun _ => 1) 22 := Opens.m opens_s_Label
theorem opensM_s_Placed : OpensM (RSl RPlaced 17 320) (sumBy fun x => mPod x.1 + 1) 34 := opensM_slice RPlaced.firm Tryz.underlying34 (by kernel_rfl) (by kernel_rfl) (by decide) opensM_Placed
theorem sum_one8 {α : Type} : ∀ L : List α, sumBy (fun _ => 1) L = L.length
  | [] => rfl
  | _ :: L => by have := sum_one8 L; simp only [sumBy, List.map_cons, List.sum_cons, List.length_cons] at this ⊢; omega
theorem mPod_le (p : PodD) : (pNear p).length ≤ mPod p ∧ (pApart p).length + 1 ≤ mPod p := by unfold mPod; rw [sum_one8, sum_one8]; omega
theorem mPl_le : ∀ L : List PlacedD, cost L ≤ sumBy (fun x => mPod x.1 + 1) L ∧ L.length ≤ sumBy (fun x => mPod x.1 + 1) L
  | [] => ⟨Nat.le_refl _, Nat.le_refl _⟩
  | x :: L => by
    have h1 := mPl_le L
    have h2 := mPod_le x.1
    unfold cost sumBy at *
    simp only [List.map_cons, List.sum_cons, List.length_cons]
    omega
set_option maxRecDepth 100000 in
theorem opensM_arg {α : Type} {R : Rep α} {m : α → Nat} {t : TypeId} {fs : Array Field} (hu : Tryz.prog.underlying t = some (.struct fs)) (h : OpensM R m t) {H : Type} {enc : TypeId × Value → H} {W : World} {base b0 : Nat} {r : Reach} {sp : Nat → Bool} {held : Bool} {v : Value} {d : DataW H} {p : List MemPlace}
    (hv : Value.okWide Tryz.prog W r b0 t v) (hd : DataW.Trod enc Tryz.prog W base sp held t v d p) (hl : Light d t) : ∃ cs y, v = .agg cs ∧ R (fun _ => True) W cs.toList y ∧ m y ≤ Rows.uptoBulk d := by
  obtain ⟨cs, fuel, e, hf⟩ := arg_agg hu hv hd
  obtain ⟨y, hy, hm⟩ := h hf hl
  exact ⟨cs, y, e, hy, hm⟩
end Go.Proofs.YtfnafgmengefaaaGreatDoor
namespace Go.Proofs.YtfnafgmengefaaaGreatDoor
open Go.ChangeShapes Go.WideShapes Go.ChangeAt Go.RowKit
set_option linter.unusedSimpArgs false

/-- What is read as of that type lies as said, is a thing of Go's, and is written no longer than its bulk lets it. -/
def OpensK {α : Type} (R : Rep α) (e : α → List UInt8) (ok : α → Prop) (t : TypeId) : Prop :=
  ∀ {H : Type} {enc : TypeId × Value → H} {W : World} {base n : Nat} {sp : Nat → Bool} {held : Bool} {cs : List Value} {x : DataW H × List MemPlace},
    DataW.trod enc Tryz.prog W base sp held n t cs = some x → Light x.1 t → ∃ y, R (fun _ => True) W cs y ∧ (e y).length ≤ 64 * Rows.uptoBulk x.1 ∧ ok y
theorem eN_len {n : Int} (h : oN n) : (eN n).length ≤ 22 := by
  have := Lib.itoa_length_le n h.1 h.2
  unfold eN; rw [List.length_append]; simp only [List.length_cons, List.length_nil]; omega
theorem eN_pos (n : Int) : 1 ≤ (eN n).length := by unfold eN; rw [List.length_append]; simp
theorem opensK_int : OpensK RInt eN oN 3 := by
  intro H enc W base n sp held cs x h _
  obtain ⟨e, e1, _, hw⟩ := DataW.trod_int Tryz.underlying3 h
  have hk : oN e := by
    simp [Lit.wf, IntKind.max, IntKind.min, IntKind.bits, IntKind.signed] at hw
    unfold oN; omega
  have h1 := eN_len hk
  have h2 := bulk_pos x.1
  exact ⟨e, e1, by omega, hk⟩
theorem opensK_bool : OpensK RBool eB (fun _ => True) 4 := by
  intro H enc W base n sp held cs x h _
  obtain ⟨b, b1, _⟩ := DataW.trod_bool Tryz.underlying4 h
  have h2 := bulk_pos x.1
  exact ⟨b, b1, by cases b <;> simp [eB] <;> omega, trivial⟩
theorem opensK_str : OpensK RStr eS (fun _ => True) 9 := by
  intro H enc W base n sp held cs x h hl
  obtain ⟨s, hs, rfl, _⟩ := DataW.trod_string Tryz.underlying9 h
  have hz : s.size ≤ 140737488355328 := by
    have := hl s.data.toList.length (by simp [DataW.weights])
    simp at this
    have e : s.data.size = s.size := rfl
    omega
  refine ⟨s, ⟨hs, hz⟩, ?_, trivial⟩
  have h1 := eN_len (n := (s.size : Int)) (by unfold oN; omega)
  have e : s.data.size = s.size := rfl
  simp only [eS, List.length_append, Array.length_toList, Rows.uptoBulk]
  omega
theorem sum_bulkK {α H : Type} (m : α → Nat) (f : Nat → α) (D : Nat → DataW H) : ∀ l : List Nat, (∀ i ∈ l, m (f i) ≤ 64 * Rows.uptoBulk (D i)) → sumBy m (l.map f) ≤ 64 * Rows.uptoBulkAll (l.map D)
  | [], _ => by simp [sumBy, Rows.uptoBulkAll]
  | i :: l, h => by
    have := sum_bulkK m f D l (fun j hj => h j (List.mem_cons_of_mem _ hj))
    have h0 := h i List.mem_cons_self
    simp only [sumBy, List.map_cons, List.sum_cons, Rows.uptoBulkAll] at this ⊢
    omega
theorem flat_len {α : Type} (f : α → List UInt8) : ∀ L : List α, (L.flatMap f).length = sumBy (fun x => (f x).length) L
  | [] => rfl
  | x :: L => by rw [List.flatMap_cons, List.length_append, flat_len f L]; simp [sumBy]
theorem opensK_slice {α : Type} [Inhabited α] {R : Rep α} {ee : α → List UInt8} {ok : α → Prop} {k bytes : Nat} {t e : TypeId} (hR : Firm R k) (hu : Tryz.prog.underlying t = some (.slice e)) (ck : Tryz.prog.cellsOf e = k) (bk : Tryz.prog.bytesOf e = bytes) (hk0 : 0 < k) (hby : 1 ≤ bytes) (hE : OpensK R ee ok e) : OpensK (RSl R k bytes) (eL ee) (fun L => ∀ x ∈ L, ok x) t := by
  intro H enc W base n sp held cs x h hl
  rcases Go.Deep.open_slice hu h with ⟨hv, _⟩ | ⟨a, len, cap, mm, nn, D, Pl, hv, _, hlc, _, hm, rfl, hel⟩
  · exact ⟨[], ⟨none, 0, 0, hv, SlAt.nil _ _ _ _ (fun _ => rfl)⟩, (by have h1 := eN_len (n := 0) (by unfold oN; omega); have h2 := bulk_pos x.1; simp only [eL, List.flatMap_nil, List.append_nil, List.length_nil]; have h3 : ((0 : Nat) : Int) = 0 := rfl; rw [h3]; omega), fun x hx => by cases hx⟩
  · obtain ⟨w1, w2⟩ := light_slice hu hl
    simp only [List.length_map, List.length_range, bk] at w1
    have hml : len ≤ mm := by rw [hm]; split <;> omega
    rw [ck] at hel
    have each : ∀ i, i < len → ∃ y : α, (∃ cs, R (fun _ => True) W cs y ∧ ∀ j u, cs[j]? = some u → W.cell? ((a.add (i * k)).add j) = some u) ∧ ((ee y).length ≤ 64 * Rows.uptoBulk (D i) ∧ ok y) := fun i hi => by
      obtain ⟨cs', h1, h2⟩ := hel i (by omega)
      obtain ⟨y, hy, hm⟩ := hE h2 (w2 _ (List.mem_map.2 ⟨i, List.mem_range.2 hi, rfl⟩))
      obtain ⟨_, _, hcell⟩ := World.cells?_some h1
      refine ⟨y, ⟨cs', hy, fun j u hj => ?_⟩, hm⟩
      have hjk : j < k := by
        have := (List.getElem?_eq_some_iff.1 hj).1
        rwa [hR.len hy] at this
      rw [hcell j hjk, hj]
    obtain ⟨f, hf⟩ := Go.Deep.choose_lt each
    refine ⟨(List.range len).map f, ⟨some a, len, cap, hv, by simp, hlc, (fun h => by cases h), w1, fun hpos => ?_⟩, ?_, ?_⟩
    · obtain ⟨B, off, spot⟩ := a
      obtain ⟨cs0, hr0, hc0⟩ := (hf 0 hpos).1
      have hex : ∃ u, cs0[0]? = some u := by
        cases e : cs0 with
        | nil => have := hR.len hr0; rw [e] at this; simp at this; omega
        | cons u r => exact ⟨u, rfl⟩
      obtain ⟨u0, hu0⟩ := hex
      have hc0 := hc0 0 u0 hu0
      have hsp : spot = none := by
        have := World.cell?_spot hc0
        simpa [Addr.add] using this
      subst hsp
      rw [add_lit, add_lit] at hc0
      refine ⟨B, off, rfl, addr_lt hc0, trivial, fun i hi => ?_⟩
      obtain ⟨cs, hr, hc⟩ := (hf i hi).1
      refine ⟨cs, by rw [getD_range f len i hi]; exact hr, fun j u hj => ?_⟩
      have := hc j u hj
      rwa [add_lit, add_lit] at this
    · have h1 := sum_bulkK (fun y => (ee y).length) f D (List.range len) (fun i hi => (hf i (List.mem_range.1 hi)).2.1)
      have h2 : len < 9223372036854775807 := by
        have h4 := Nat.mul_le_mul_left len (show 1 ≤ bytes from hby)
        omega
      have h3 := eN_len (n := (len : Int)) (by unfold oN; omega)
      simp only [eL, List.length_append, flat_len, List.length_map, List.length_range, Rows.uptoBulk]
      omega
    · intro y hy
      obtain ⟨i, hi, rfl⟩ := List.mem_map.1 hy
      exact (hf i (List.mem_range.1 hi)).2.2
def OpensFsK {α : Type} (fs : List Field) (off total : Nat) (R : Rep α) (ee : α → List UInt8) (ok : α → Prop) : Prop :=
  ∀ {H : Type} {enc : TypeId × Value → H} {W : World} {base n : Nat} {sp : Nat → Bool} {held : Bool} {cs : List Value} {ds : List (DataW H)}, cs.length = total → ds.length = fs.length →
    (∀ (j : Nat) (f : Field), fs[j]? = some f → ∃ d, DataW.trod enc Tryz.prog W base sp held n f.type ((cs.drop f.offset).take (Tryz.prog.cellsOf f.type)) = some d ∧ Light d.1 f.type ∧ ds[j]? = some d.1) → ∃ y, R (fun _ => True) W (cs.drop off) y ∧ (ee y).length ≤ 64 * Rows.uptoBulkAll ds ∧ ok y
theorem opensFsK_last {α : Type} {R : Rep α} {ee : α → List UInt8} {ok : α → Prop} {f : Field} {off total : Nat} (ho : f.offset = off) (ht : off + Tryz.prog.cellsOf f.type = total) (h : OpensK R ee ok f.type) : OpensFsK [f] off total R ee ok := by
  intro H enc W base n sp held cs ds hl hd hf
  obtain ⟨d, h1, h2, h3⟩ := hf 0 f rfl
  rw [ho, List.take_of_length_le (by rw [List.length_drop]; omega)] at h1
  obtain ⟨y, hy, hm⟩ := h h1 h2
  refine ⟨y, hy, ?_, hm.2⟩
  cases ds with
  | nil => simp at hd
  | cons d0 r => simp at h3; subst h3; have := hm.1; simp only [Rows.uptoBulkAll]; omega
theorem opensFsK_cons {α β : Type} {R : Rep α} {S : Rep β} {e1 : α → List UInt8} {o1 : α → Prop} {e2 : β → List UInt8} {o2 : β → Prop} {f : Field} {fs : List Field} {off mm total : Nat} (ho : f.offset = off) (hm : off + Tryz.prog.cellsOf f.type = mm) (h : OpensK R e1 o1 f.type) (hs : OpensFsK fs mm total S e2 o2) : OpensFsK (f :: fs) off total (RPair R S) (fun x => e1 x.1 ++ e2 x.2) (fun x => o1 x.1 ∧ o2 x.2) := by
  intro H enc W base n sp held cs ds hl hd hf
  obtain ⟨d, h1, h2, h3⟩ := hf 0 f rfl
  rw [ho] at h1
  obtain ⟨y, hy, hm1⟩ := h h1 h2
  cases ds with
  | nil => simp at hd
  | cons d0 r =>
    obtain ⟨z, hz, hm2⟩ := hs (cs := cs) (ds := r) hl (by simpa using hd) (fun j g hg => by have := hf (j + 1) g (by simpa using hg); simpa using this)
    refine ⟨(y, z), ⟨(cs.drop off).take (Tryz.prog.cellsOf f.type), cs.drop mm, ?_, hy, hz⟩, ?_, hm1.2, hm2.2⟩
    · rw [← hm, ← List.drop_drop]
      exact (List.take_append_drop _ _).symm
    · simp at h3; subst h3; have a1 := hm1.1; have a2 := hm2.1; simp only [Rows.uptoBulkAll, List.length_append]; omega
theorem opensK_struct {α : Type} {R : Rep α} {ee : α → List UInt8} {ok : α → Prop} {t : TypeId} {fs : Array Field} {total : Nat} (hu : Tryz.prog.underlying t = some (.struct fs)) (hc : Tryz.prog.cellsOf t = total) (h : OpensFsK fs.toList 0 total R ee ok) : OpensK R ee ok t := by
  intro H enc W base n sp held cs x hx hl
  obtain ⟨xs, mm, _, rfl, hlen, hxs, hf⟩ := DataW.trod_struct hu hx
  have := h (enc := enc) (W := W) (base := base) (n := mm) (sp := sp) (held := held) (cs := cs) (ds := xs.map (·.1)) (by rw [hlen, hc]) (by simp [hxs]) (fun j f hj => by
    have hj' : fs[j]? = some f := by simpa using hj
    have h1 := hf j f hj'
    have hlt : j < xs.length := by
      have := (Array.getElem?_eq_some_iff.1 hj').1
      omega
    have h2 : xs[j]? = some xs[j] := List.getElem?_eq_getElem hlt
    rw [h2] at h1
    refine ⟨xs[j], h1, light_struct hu hl (j := j) (by simp [hj']) (by simp [h2]), by simp [h2]⟩)
  obtain ⟨y, hy, hm⟩ := this
  refine ⟨y, by simpa using hy, ?_, hm.2⟩
  have := hm.1
  simp only [Rows.uptoBulk]
  omega
theorem opensK_Label : OpensK RLabel eLab (fun _ => True) 55 := by
  intro H enc W base n sp held cs x hx hl
  obtain ⟨y, hy, hm, hk⟩ := (opensK_struct (total := 2) Tryz.underlying55 (by kernel_rfl) (opensFsK_cons (mm := 1) rfl (by kernel_rfl) opensK_str (opensFsK_last rfl (by kernel_rfl) opensK_str))) hx hl
  exact ⟨y, hy, hm, trivial⟩
theorem opensK_s_str : OpensK (RSl RStr 1 16) (eL eS) (fun L => ∀ x ∈ L, (fun _ => True) x) 31 := opensK_slice RStr.firm Tryz.underlying31 (by kernel_rfl) (by kernel_rfl) (by decide) (by decide) opensK_str
theorem opensK_Req : OpensK RReq eReq okReq 108 := by
  intro H enc W base n sp held cs x hx hl
  obtain ⟨y, hy, hm, hk⟩ := (opensK_struct (total := 3) Tryz.underlying108 (by kernel_rfl) (opensFsK_cons (mm := 1) rfl (by kernel_rfl) opensK_str (opensFsK_cons (mm := 2) rfl (by kernel_rfl) opensK_int (opensFsK_last rfl (by kernel_rfl) opensK_s_str)))) hx hl
  exact ⟨y, hy, hm, hk.2.1⟩
def eRes (x : ResD) : List UInt8 := eN x.1 ++ (eN x.2.1 ++ eN x.2.2)
def okRes (x : ResD) : Prop := oN x.1 ∧ (oN x.2.1 ∧ oN x.2.2)
theorem opensK_Res : OpensK RRes eRes okRes 24 := by
  intro H enc W base n sp held cs x hx hl
  obtain ⟨y, hy, hm, hk⟩ := (opensK_struct (total := 3) Tryz.underlying24 (by kernel_rfl) (opensFsK_cons (mm := 1) rfl (by kernel_rfl) opensK_int (opensFsK_cons (mm := 2) rfl (by kernel_rfl) opensK_int (opensFsK_last rfl (by kernel_rfl) opensK_int)))) hx hl
  exact ⟨y, hy, hm, hk⟩
theorem opensK_Bear : OpensK RBear eBear okBear 92 := by
  intro H enc W base n sp held cs x hx hl
  obtain ⟨y, hy, hm, hk⟩ := (opensK_struct (total := 4) Tryz.underlying92 (by kernel_rfl) (opensFsK_cons (mm := 1) rfl (by kernel_rfl) opensK_str (opensFsK_cons (mm := 2) rfl (by kernel_rfl) opensK_str (opensFsK_cons (mm := 3) rfl (by kernel_rfl) opensK_bool (opensFsK_last rfl (by kernel_rfl) opensK_int))))) hx hl
  exact ⟨y, hy, hm, hk.2.2.2⟩
theorem opensK_s_Req : OpensK (RSl RReq 3 48) (eL eReq) (fun L => ∀ x ∈ L, okReq x) 26 := opensK_slice RReq.firm Tryz.underlying26 (by kernel_rfl) (by kernel_rfl) (by decide) (by decide) opensK_Req
theorem opensK_Term : OpensK RTerm eTerm okTerm 80 := by
  intro H enc W base n sp held cs x hx hl
  obtain ⟨y, hy, hm, hk⟩ := (opensK_struct (total := 2) Tryz.underlying80 (by kernel_rfl) (opensFsK_cons (mm := 1) rfl (by kernel_rfl) opensK_s_Req (opensFsK_last rfl (by kernel_rfl) opensK_str))) hx hl
  exact ⟨y, hy, hm, hk.1⟩
theorem opensK_Prefer : OpensK RPrefer ePrefer okPrefer 72 := by
  intro H enc W base n sp held cs x hx hl
  obtain ⟨y, hy, hm, hk⟩ := (opensK_struct (total := 2) Tryz.underlying72 (by kernel_rfl) (opensFsK_cons (mm := 1) rfl (by kernel_rfl) opensK_s_Req (opensFsK_last rfl (by kernel_rfl) opensK_int))) hx hl
  exact ⟨y, hy, hm, hk⟩
theorem opensK_Spread : OpensK RSpread eSpread okSpread 76 := by
  intro H enc W base n sp held cs x hx hl
  obtain ⟨y, hy, hm, hk⟩ := (opensK_struct (total := 4) Tryz.underlying76 (by kernel_rfl) (opensFsK_cons (mm := 1) rfl (by kernel_rfl) opensK_str (opensFsK_cons (mm := 2) rfl (by kernel_rfl) opensK_int (opensFsK_cons (mm := 3) rfl (by kernel_rfl) opensK_int (opensFsK_last rfl (by kernel_rfl) opensK_s_Req))))) hx hl
  exact ⟨y, hy, hm, hk.2⟩
theorem opensK_s_Label : OpensK (RSl RLabel 2 32) (eL eLab) (fun L => ∀ x ∈ L, (fun _ => True) x) 22 := opensK_slice RLabel.firm Tryz.underlying22 (by kernel_rfl) (by kernel_rfl) (by decide) (by decide) opensK_Label
theorem opensK_s_Bear : OpensK (RSl RBear 4 48) (eL eBear) (fun L => ∀ x ∈ L, okBear x) 25 := opensK_slice RBear.firm Tryz.underlying25 (by kernel_rfl) (by kernel_rfl) (by decide) (by decide) opensK_Bear
theorem opensK_s_Prefer : OpensK (RSl RPrefer 2 32) (eL ePrefer) (fun L => ∀ x ∈ L, okPrefer x) 27 := opensK_slice RPrefer.firm Tryz.underlying27 (by kernel_rfl) (by kernel_rfl) (by decide) (by decide) opensK_Prefer
theorem opensK_s_int : OpensK (RSl RInt 1 8) (eL eN) (fun L => ∀ x ∈ L, oN x) 28 := opensK_slice RInt.firm Tryz.underlying28 (by kernel_rfl) (by kernel_rfl) (by decide) (by decide) opensK_int
theorem opensK_s_Term : OpensK (RSl RTerm 2 40) (eL eTerm) (fun L => ∀ x ∈ L, okTerm x) 29 := opensK_slice RTerm.firm Tryz.underlying29 (by kernel_rfl) (by kernel_rfl) (by decide) (by decide) opensK_Term
theorem opensK_s_Spread : OpensK (RSl RSpread 4 56) (eL eSpread) (fun L => ∀ x ∈ L, okSpread x) 30 := opensK_slice RSpread.firm Tryz.underlying30 (by kernel_rfl) (by kernel_rfl) (by decide) (by decide) opensK_Spread
set_option maxHeartbeats 1000000 in
theorem opensK_Pod : OpensK RPod ePod okPod 33 := by
  intro H enc W base n sp held cs x hx hl
  obtain ⟨y, hy, hm, hk⟩ := (opensK_struct (total := 16) Tryz.underlying33 (by kernel_rfl) (opensFsK_cons (mm := 1) rfl (by kernel_rfl) opensK_str (opensFsK_cons (mm := 2) rfl (by kernel_rfl) opensK_int (opensFsK_cons (mm := 3) rfl (by kernel_rfl) opensK_s_Label (opensFsK_cons (mm := 6) rfl (by kernel_rfl) opensK_Res (opensFsK_cons (mm := 7) rfl (by kernel_rfl) opensK_s_Bear (opensFsK_cons (mm := 8) rfl (by kernel_rfl) opensK_s_Req (opensFsK_cons (mm := 9) rfl (by kernel_rfl) opensK_s_Prefer (opensFsK_cons (mm := 10) rfl (by kernel_rfl) opensK_s_int (opensFsK_cons (mm := 11) rfl (by kernel_rfl) opensK_s_Term (opensFsK_cons (mm := 12) rfl (by kernel_rfl) opensK_s_Term (opensFsK_cons (mm := 13) rfl (by kernel_rfl) opensK_s_Spread (opensFsK_cons (mm := 14) rfl (by kernel_rfl) opensK_s_str (opensFsK_cons (mm := 15) rfl (by kernel_rfl) opensK_str (opensFsK_last rfl (by kernel_rfl) opensK_str))))))))))))))) hx hl
  exact ⟨y, hy, (by simpa only [ePod, eRes, List.length_append, Nat.add_assoc] using hm), hk.2.1, hk.2.2.2.1.1, hk.2.2.2.1.2.1, hk.2.2.2.1.2.2, hk.2.2.2.2.1, hk.2.2.2.2.2.1, hk.2.2.2.2.2.2.1, hk.2.2.2.2.2.2.2.1, hk.2.2.2.2.2.2.2.2.1, hk.2.2.2.2.2.2.2.2.2.1, hk.2.2.2.2.2.2.2.2.2.2.1⟩
def okPl (x : PlacedD) : Prop := okPod x.1
theorem opensK_Placed : OpensK RPlaced ePlaced okPl 41 := by
  intro H enc W base n sp held cs x hx hl
  obtain ⟨y, hy, hm, hk⟩ := (opensK_struct (total := 17) Tryz.underlying41 (by kernel_rfl) (opensFsK_cons (mm := 16) rfl (by kernel_rfl) opensK_Pod (opensFsK_last rfl (by kernel_rfl) opensK_s_Label))) hx hl
  exact ⟨y, hy, hm, hk.1⟩
theorem opensK_s_Placed : OpensK (RSl RPlaced 17 320) (eL ePlaced) (fun L => ∀ x ∈ L, okPl x) 34 := opensK_slice RPlaced.firm Tryz.underlying34 (by kernel_rfl) (by kernel_rfl) (by decide) (by decide) opensK_Placed
/-- One of the law's acts. -/
abbrev ActD := Int × PlacedD × List Lab
def RAct : Rep ActD := RPair RInt (RPair RPlaced (RSl RLabel 2 32))
theorem RAct.firm : Firm RAct 19 := Firm.pair RInt.firm (Firm.pair RPlaced.firm (RSl.firm RLabel.firm))
def eAct (x : ActD) : List UInt8 := eN x.1 ++ (ePlaced x.2.1 ++ eL eLab x.2.2)
def okAct (x : ActD) : Prop := okPl x.2.1
theorem opensK_Act : OpensK RAct eAct okAct 49 := by
  intro H enc W base n sp held cs x hx hl
  obtain ⟨y, hy, hm, hk⟩ := (opensK_struct (total := 19) Tryz.underlying49 (by kernel_rfl) (opensFsK_cons (mm := 1) rfl (by kernel_rfl) opensK_int (opensFsK_cons (mm := 18) rfl (by kernel_rfl) opensK_Placed (opensFsK_last rfl (by kernel_rfl) opensK_s_Label)))) hx hl
  exact ⟨y, hy, hm, hk.2.1⟩
theorem opensK_s_Act : OpensK (RSl RAct 19 352) (eL eAct) (fun L => ∀ x ∈ L, okAct x) 45 := opensK_slice RAct.firm Tryz.underlying45 (by kernel_rfl) (by kernel_rfl) (by decide) (by decide) opensK_Act
theorem eL_len {α : Type} (f : α → List UInt8) (L : List α) : (eL f L).length = (eN (L.length : Int)).length + sumBy (fun x => (f x).length) L := by unfold eL; rw [List.length_append, flat_len]
theorem sum_ge {α : Type} (m : α → Nat) (h : ∀ x, 1 ≤ m x) : ∀ L : List α, L.length ≤ sumBy m L
  | [] => Nat.le_refl _
  | x :: L => by have h1 := sum_ge m h L; have h2 := h x; simp only [sumBy, List.map_cons, List.sum_cons, List.length_cons] at h1 ⊢; omega
theorem sum_mem {α : Type} (m : α → Nat) {x : α} : ∀ {L : List α}, x ∈ L → m x ≤ sumBy m L
  | y :: L, h => by
    simp only [sumBy, List.map_cons, List.sum_cons]
    rcases List.mem_cons.1 h with rfl | h
    · omega
    · have := sum_mem m h; simp only [sumBy] at this; omega
theorem eTerm_pos (t : TermD) : 1 ≤ (eTerm t).length := by
  unfold eTerm; rw [List.length_append, eL_len]; have := eN_pos (t.1.length : Int); omega
theorem ePod_near (p : PodD) : (pNear p).length + (pApart p).length + 1 ≤ (ePod p).length := by
  unfold ePod
  simp only [List.length_append, eL_len eTerm]
  have h1 := sum_ge (fun t => (eTerm t).length) eTerm_pos (pNear p)
  have h2 := sum_ge (fun t => (eTerm t).length) eTerm_pos (pApart p)
  have h3 := eN_pos p.2.1
  have e1 : pNear p = p.2.2.2.2.2.2.2.2.1 := rfl
  have e2 : pApart p = p.2.2.2.2.2.2.2.2.2.1 := rfl
  rw [e1] at h1 ⊢; rw [e2] at h2 ⊢
  omega
theorem ePl_cost (x : PlacedD) : 1 + (pApart x.1).length ≤ (ePlaced x).length := by
  have h := ePod_near x.1
  unfold ePlaced; rw [List.length_append]; omega
theorem ePl_list (L : List PlacedD) : cost L ≤ (eL ePlaced L).length ∧ L.length ≤ (eL ePlaced L).length ∧ ∀ x ∈ L, (ePlaced x).length ≤ (eL ePlaced L).length := by
  rw [eL_len]
  refine ⟨?_, ?_, fun x hx => ?_⟩
  · have : ∀ M : List PlacedD, cost M ≤ sumBy (fun x => (ePlaced x).length) M := by
      intro M
      induction M with
      | nil => exact Nat.le_refl _
      | cons x M ih =>
        have := ePl_cost x
        unfold cost at *
        simp only [sumBy, List.map_cons, List.sum_cons] at ih ⊢
        omega
    have := this L
    omega
  · have := sum_ge (fun x => (ePlaced x).length) (fun x => by have := ePl_cost x; omega) L
    omega
  · have := sum_mem (fun x => (ePlaced x).length) hx
    omega
set_option maxRecDepth 100000 in
theorem opensK_arg {α : Type} {R : Rep α} {ee : α → List UInt8} {ok : α → Prop} {t : TypeId} {fs : Array Field} (hu : Tryz.prog.underlying t = some (.struct fs)) (h : OpensK R ee ok t) {H : Type} {enc : TypeId × Value → H} {W : World} {base b0 : Nat} {r : Reach} {sp : Nat → Bool} {held : Bool} {v : Value} {d : DataW H} {p : List MemPlace}
    (hv : Value.okWide Tryz.prog W r b0 t v) (hd : DataW.Trod enc Tryz.prog W base sp held t v d p) (hl : Light d t) : ∃ cs y, v = .agg cs ∧ R (fun _ => True) W cs.toList y ∧ (ee y).length ≤ 64 * Rows.uptoBulk d ∧ ok y := by
  obtain ⟨cs, fuel, e, hf⟩ := arg_agg hu hv hd
  obtain ⟨y, hy, hm⟩ := h hf hl
  exact ⟨cs, y, e, hy, hm⟩
end Go.Proofs.YtfnafgmengefaaaGreatDoor
