/- Arguments of the program's struct types, as they come in. No condition beyond the row's own reach. Arguments as they come in, with a bound on what they hold: no more than the reading's bulk. No condition beyond the row's own reach. Pods as they come in, with a bound on their ports and claims. No condition beyond the row's own reach. What comes in is little: so is what is made of it. Plain. No condition. An info that is handed in lies as is said. No condition. An info that is handed in, with how much it holds. No condition. Names of pods, lists turned; which of so many is meant. Condition: as each says. As many pods as are told find room: plain. No condition. The document's own Itoa returns the digits, and changes nothing that was there. Condition: an amount. -/
import Derived.Test.YtbcclfiopebmpaaGreatQ02
import Derived.Test.YtbcclfiopebmpaaGreatQ11
import Derived.Test.YtbcclfiopebmpaaGreatQ05
import Derived.Test.YtbcclfiopebmpaaGreatRows
import Derived.Test.YtbcclfiopebmpaaGreatQ06
import Derived.Test.YtbcclfiopebmpaaGreatQ08
import Derived.Lib.ItoaLen
import Derived.Lib.AppendIntMem
namespace Go.Proofs.YtbcclfiopebmpaaGreat
open Go.ChangeShapes Go.WideShapes Go.ChangeAt Go.RowKit

theorem opens_Label : Opens RLabel 152 := opens_struct (total := 2) Tryz.underlying152 (by kernel_rfl) (opensFs_cons (m := 1) rfl (by kernel_rfl) opens_str (opensFs_last rfl (by kernel_rfl) opens_str))
theorem opens_s_str : Opens (RSl RStr 1 16) 31 := opens_slice RStr.firm Tryz.underlying31 (by kernel_rfl) (by kernel_rfl) (by decide) opens_str
theorem opens_Req : Opens RReq 105 := opens_struct (total := 3) Tryz.underlying105 (by kernel_rfl) (opensFs_cons (m := 1) rfl (by kernel_rfl) opens_str (opensFs_cons (m := 2) rfl (by kernel_rfl) opens_int (opensFs_last rfl (by kernel_rfl) opens_s_str)))
theorem opens_Res : Opens RRes 24 := opens_struct (total := 3) Tryz.underlying24 (by kernel_rfl) (opensFs_cons (m := 1) rfl (by kernel_rfl) opens_int (opensFs_cons (m := 2) rfl (by kernel_rfl) opens_int (opensFs_last rfl (by kernel_rfl) opens_int)))
theorem opens_Taint : Opens RTaint 88 := opens_struct (total := 3) Tryz.underlying88 (by kernel_rfl) (opensFs_cons (m := 1) rfl (by kernel_rfl) opens_str (opensFs_cons (m := 2) rfl (by kernel_rfl) opens_str (opensFs_last rfl (by kernel_rfl) opens_int)))
theorem opens_Bear : Opens RBear 148 := opens_struct (total := 4) Tryz.underlying148 (by kernel_rfl) (opensFs_cons (m := 1) rfl (by kernel_rfl) opens_str (opensFs_cons (m := 2) rfl (by kernel_rfl) opens_str (opensFs_cons (m := 3) rfl (by kernel_rfl) opens_bool (opensFs_last rfl (by kernel_rfl) opens_int))))
theorem opens_s_Req : Opens (RSl RReq 3 48) 26 := opens_slice RReq.firm Tryz.underlying26 (by kernel_rfl) (by kernel_rfl) (by decide) opens_Req
theorem opens_Term : Opens RTerm 180 := opens_struct (total := 2) Tryz.underlying180 (by kernel_rfl) (opensFs_cons (m := 1) rfl (by kernel_rfl) opens_s_Req (opensFs_last rfl (by kernel_rfl) opens_str))
theorem opens_Prefer : Opens RPrefer 178 := opens_struct (total := 2) Tryz.underlying178 (by kernel_rfl) (opensFs_cons (m := 1) rfl (by kernel_rfl) opens_s_Req (opensFs_last rfl (by kernel_rfl) opens_int))
theorem opens_Spread : Opens RSpread 182 := opens_struct (total := 4) Tryz.underlying182 (by kernel_rfl) (opensFs_cons (m := 1) rfl (by kernel_rfl) opens_str (opensFs_cons (m := 2) rfl (by kernel_rfl) opens_int (opensFs_cons (m := 3) rfl (by kernel_rfl) opens_int (opensFs_last rfl (by kernel_rfl) opens_s_Req))))
theorem opens_s_Label : Opens (RSl RLabel 2 32) 22 := opens_slice RLabel.firm Tryz.underlying22 (by kernel_rfl) (by kernel_rfl) (by decide) opens_Label
theorem opens_s_Bear : Opens (RSl RBear 4 48) 25 := opens_slice RBear.firm Tryz.underlying25 (by kernel_rfl) (by kernel_rfl) (by decide) opens_Bear
theorem opens_s_Prefer : Opens (RSl RPrefer 2 32) 27 := opens_slice RPrefer.firm Tryz.underlying27 (by kernel_rfl) (by kernel_rfl) (by decide) opens_Prefer
theorem opens_s_int : Opens (RSl RInt 1 8) 28 := opens_slice RInt.firm Tryz.underlying28 (by kernel_rfl) (by kernel_rfl) (by decide) opens_int
theorem opens_s_Term : Opens (RSl RTerm 2 40) 29 := opens_slice RTerm.firm Tryz.underlying29 (by kernel_rfl) (by kernel_rfl) (by decide) opens_Term
theorem opens_s_Spread : Opens (RSl RSpread 4 56) 30 := opens_slice RSpread.firm Tryz.underlying30 (by kernel_rfl) (by kernel_rfl) (by decide) opens_Spread
theorem opens_Pod : Opens RPod 33 := opens_struct (total := 16) Tryz.underlying33 (by kernel_rfl) (opensFs_cons (m := 1) rfl (by kernel_rfl) opens_str (opensFs_cons (m := 2) rfl (by kernel_rfl) opens_int (opensFs_cons (m := 3) rfl (by kernel_rfl) opens_s_Label (opensFs_cons (m := 6) rfl (by kernel_rfl) opens_Res (opensFs_cons (m := 7) rfl (by kernel_rfl) opens_s_Bear (opensFs_cons (m := 8) rfl (by kernel_rfl) opens_s_Req (opensFs_cons (m := 9) rfl (by kernel_rfl) opens_s_Prefer (opensFs_cons (m := 10) rfl (by kernel_rfl) opens_s_int (opensFs_cons (m := 11) rfl (by kernel_rfl) opens_s_Term (opensFs_cons (m := 12) rfl (by kernel_rfl) opens_s_Term (opensFs_cons (m := 13) rfl (by kernel_rfl) opens_s_Spread (opensFs_cons (m := 14) rfl (by kernel_rfl) opens_s_str (opensFs_cons (m := 15) rfl (by kernel_rfl) opens_str (opensFs_last rfl (by kernel_rfl) opens_str))))))))))))))
theorem opens_s_Taint : Opens (RSl RTaint 3 40) 34 := opens_slice RTaint.firm Tryz.underlying34 (by kernel_rfl) (by kernel_rfl) (by decide) opens_Taint
theorem opens_Node : Opens RNode 36 := opens_struct (total := 9) Tryz.underlying36 (by kernel_rfl) (opensFs_cons (m := 1) rfl (by kernel_rfl) opens_str (opensFs_cons (m := 2) rfl (by kernel_rfl) opens_s_Label (opensFs_cons (m := 3) rfl (by kernel_rfl) opens_s_Taint (opensFs_cons (m := 4) rfl (by kernel_rfl) opens_bool (opensFs_cons (m := 7) rfl (by kernel_rfl) opens_Res (opensFs_cons (m := 8) rfl (by kernel_rfl) opens_int (opensFs_last rfl (by kernel_rfl) opens_int)))))))
theorem opens_s_Pod : Opens (RSl RPod 16 296) 37 := opens_slice RPod.firm Tryz.underlying37 (by kernel_rfl) (by kernel_rfl) (by decide) opens_Pod
end Go.Proofs.YtbcclfiopebmpaaGreat
namespace Go.Proofs.YtbcclfiopebmpaaGreat
open Go.ChangeShapes Go.WideShapes Go.ChangeAt Go.RowKit
set_option linter.unusedSimpArgs false

/-- What is read as of that type lies as said, and is no greater than its bulk. -/
def OpensM {α : Type} (R : Rep α) (m : α → Nat) (t : TypeId) : Prop :=
  ∀ {H : Type} {enc : TypeId × Value → H} {W : World} {base n : Nat} {sp : Nat → Bool} {held : Bool} {cs : List Value} {x : DataW H × List MemPlace},
    DataW.trod enc Tryz.prog W base sp held n t cs = some x → Light x.1 t → ∃ y, R (fun _ => True) W cs y ∧ m y ≤ Rows.uptoBulk x.1
theorem bulk_pos {H : Type} (d : DataW H) : 1 ≤ Rows.uptoBulk d := by
  match d with
  | .lit l => cases l <;> simp [Rows.uptoBulk]
  | .nil => simp [Rows.uptoBulk]
  | .ptr _ => simp [Rows.uptoBulk]
  | .slice _ _ => simp [Rows.uptoBulk]
  | .agg _ => simp [Rows.uptoBulk]
  | .iface _ _ => simp [Rows.uptoBulk]
  | .map _ => simp [Rows.uptoBulk]
  | .held _ => simp [Rows.uptoBulk]
theorem Opens.m {α : Type} {R : Rep α} {t : TypeId} (h : Opens R t) : OpensM R (fun _ => 1) t := by
  intro H enc W base n sp held cs x hx hl
  obtain ⟨y, hy⟩ := h hx hl
  exact ⟨y, hy, bulk_pos _⟩
theorem sum_bulk {α H : Type} (m : α → Nat) (f : Nat → α) (D : Nat → DataW H) : ∀ l : List Nat, (∀ i ∈ l, m (f i) ≤ Rows.uptoBulk (D i)) → sumBy m (l.map f) ≤ Rows.uptoBulkAll (l.map D)
  | [], _ => by simp [sumBy, Rows.uptoBulkAll]
  | i :: l, h => by
    have := sum_bulk m f D l (fun j hj => h j (List.mem_cons_of_mem _ hj))
    have h0 := h i List.mem_cons_self
    simp only [sumBy, List.map_cons, List.sum_cons, Rows.uptoBulkAll] at this ⊢
    omega
theorem opensM_slice {α : Type} [Inhabited α] {R : Rep α} {m : α → Nat} {k bytes : Nat} {t e : TypeId} (hR : Firm R k) (hu : Tryz.prog.underlying t = some (.slice e)) (ck : Tryz.prog.cellsOf e = k) (bk : Tryz.prog.bytesOf e = bytes) (hk0 : 0 < k) (hE : OpensM R m e) : OpensM (RSl R k bytes) (sumBy m) t := by
  intro H enc W base n sp held cs x h hl
  rcases Go.Deep.open_slice hu h with ⟨hv, _⟩ | ⟨a, len, cap, mm, nn, D, Pl, hv, _, hlc, _, hm, rfl, hel⟩
  · exact ⟨[], ⟨none, 0, 0, hv, SlAt.nil _ _ _ _ (fun _ => rfl)⟩, by simp [sumBy]⟩
  · obtain ⟨w1, w2⟩ := light_slice hu hl
    simp only [List.length_map, List.length_range, bk] at w1
    have hml : len ≤ mm := by rw [hm]; split <;> omega
    rw [ck] at hel
    have each : ∀ i, i < len → ∃ y : α, (∃ cs, R (fun _ => True) W cs y ∧ ∀ j u, cs[j]? = some u → W.cell? ((a.add (i * k)).add j) = some u) ∧ m y ≤ Rows.uptoBulk (D i) := fun i hi => by
      obtain ⟨cs', h1, h2⟩ := hel i (by omega)
      obtain ⟨y, hy, hm⟩ := hE h2 (w2 _ (List.mem_map.2 ⟨i, List.mem_range.2 hi, rfl⟩))
      obtain ⟨_, _, hcell⟩ := World.cells?_some h1
      refine ⟨y, ⟨cs', hy, fun j u hj => ?_⟩, hm⟩
      have hjk : j < k := by
        have := (List.getElem?_eq_some_iff.1 hj).1
        rwa [hR.len hy] at this
      rw [hcell j hjk, hj]
    obtain ⟨f, hf⟩ := Go.Deep.choose_lt each
    refine ⟨(List.range len).map f, ⟨some a, len, cap, hv, by simp, hlc, (fun h => by cases h), w1, fun hpos => ?_⟩, ?_⟩
    · obtain ⟨B, off, spot⟩ := a
      obtain ⟨cs0, hr0, hc0⟩ := (hf 0 hpos).1
      have hex : ∃ u, cs0[0]? = some u := by
        cases e : cs0 with
        | nil => have := hR.len hr0; rw [e] at this; simp at this; omega
        | cons u r => exact ⟨u, rfl⟩
      obtain ⟨u0, hu0⟩ := hex
      have hc0 := hc0 0 u0 hu0
      have hsp : spot = none := by
        have := World.cell?_spot hc0
        simpa [Addr.add] using this
      subst hsp
      rw [add_lit, add_lit] at hc0
      refine ⟨B, off, rfl, addr_lt hc0, trivial, fun i hi => ?_⟩
      obtain ⟨cs, hr, hc⟩ := (hf i hi).1
      refine ⟨cs, by rw [getD_range f len i hi]; exact hr, fun j u hj => ?_⟩
      have := hc j u hj
      rwa [add_lit, add_lit] at this
    · have := sum_bulk m f D (List.range len) (fun i hi => (hf i (List.mem_range.1 hi)).2)
      simp only [Rows.uptoBulk]
      omega
def OpensFsM {α : Type} (fs : List Field) (off total : Nat) (R : Rep α) (m : α → Nat) : Prop :=
  ∀ {H : Type} {enc : TypeId × Value → H} {W : World} {base n : Nat} {sp : Nat → Bool} {held : Bool} {cs : List Value} {ds : List (DataW H)}, cs.length = total → ds.length = fs.length →
    (∀ (j : Nat) (f : Field), fs[j]? = some f → ∃ d, DataW.trod enc Tryz.prog W base sp held n f.type ((cs.drop f.offset).take (Tryz.prog.cellsOf f.type)) = some d ∧ Light d.1 f.type ∧ ds[j]? = some d.1) → ∃ y, R (fun _ => True) W (cs.drop off) y ∧ m y ≤ Rows.uptoBulkAll ds
theorem opensFsM_last {α : Type} {R : Rep α} {m : α → Nat} {f : Field} {off total : Nat} (ho : f.offset = off) (ht : off + Tryz.prog.cellsOf f.type = total) (h : OpensM R m f.type) : OpensFsM [f] off total R m := by
  intro H enc W base n sp held cs ds hl hd hf
  obtain ⟨d, h1, h2, h3⟩ := hf 0 f rfl
  rw [ho, List.take_of_length_le (by rw [List.length_drop]; omega)] at h1
  obtain ⟨y, hy, hm⟩ := h h1 h2
  refine ⟨y, hy, ?_⟩
  cases ds with
  | nil => simp at hd
  | cons d0 r => simp at h3; subst h3; simp only [Rows.uptoBulkAll]; omega
theorem opensFsM_cons {α β : Type} {R : Rep α} {S : Rep β} {m1 : α → Nat} {m2 : β → Nat} {f : Field} {fs : List Field} {off mm total : Nat} (ho : f.offset = off) (hm : off + Tryz.prog.cellsOf f.type = mm) (h : OpensM R m1 f.type) (hs : OpensFsM fs mm total S m2) : OpensFsM (f :: fs) off total (RPair R S) (fun x => m1 x.1 + m2 x.2) := by
  intro H enc W base n sp held cs ds hl hd hf
  obtain ⟨d, h1, h2, h3⟩ := hf 0 f rfl
  rw [ho] at h1
  obtain ⟨y, hy, hm1⟩ := h h1 h2
  cases ds with
  | nil => simp at hd
  | cons d0 r =>
    obtain ⟨z, hz, hm2⟩ := hs (cs := cs) (ds := r) hl (by simpa using hd) (fun j g hg => by have := hf (j + 1) g (by simpa using hg); simpa using this)
    refine ⟨(y, z), ⟨(cs.drop off).take (Tryz.prog.cellsOf f.type), cs.drop mm, ?_, hy, hz⟩, ?_⟩
    · rw [← hm, ← List.drop_drop]
      exact (List.take_append_drop _ _).symm
    · simp at h3; subst h3; simp only [Rows.uptoBulkAll]; omega
theorem opensM_struct {α : Type} {R : Rep α} {m : α → Nat} {t : TypeId} {fs : Array Field} {total : Nat} (hu : Tryz.prog.underlying t = some (.struct fs)) (hc : Tryz.prog.cellsOf t = total) (h : OpensFsM fs.toList 0 total R m) : OpensM R m t := by
  intro H enc W base n sp held cs x hx hl
  obtain ⟨xs, mm, _, rfl, hlen, hxs, hf⟩ := DataW.trod_struct hu hx
  have := h (enc := enc) (W := W) (base := base) (n := mm) (sp := sp) (held := held) (cs := cs) (ds := xs.map (·.1)) (by rw [hlen, hc]) (by simp [hxs]) (fun j f hj => by
    have hj' : fs[j]? = some f := by simpa using hj
    have h1 := hf j f hj'
    have hlt : j < xs.length := by
      have := (Array.getElem?_eq_some_iff.1 hj').1
      omega
    have h2 : xs[j]? = some xs[j] := List.getElem?_eq_getElem hlt
    rw [h2] at h1
    refine ⟨xs[j], h1, light_struct hu hl (j := j) (by simp [hj']) (by simp [h2]), by simp [h2]⟩)
  obtain ⟨y, hy, hm⟩ := this
  refine ⟨y, by simpa using hy, ?_⟩
  simp only [Rows.uptoBulk]
  omega
end Go.Proofs.YtbcclfiopebmpaaGreat
namespace Go.Proofs.YtbcclfiopebmpaaGreat
open Go.ChangeShapes Go.WideShapes Go.ChangeAt Go.RowKit
set_option linter.unusedSimpArgs false

theorem opensM_ints : OpensM (RSl RInt 1 8) (sumBy (fun _ => 1)) 28 := opensM_slice RInt.firm Tryz.underlying28 (by kernel_rfl) (by kernel_rfl) (by decide) (Opens.m opens_int)
theorem opensM_strs : OpensM (RSl RStr 1 16) (sumBy (fun _ => 1)) 31 := opensM_slice RStr.firm Tryz.underlying31 (by kernel_rfl) (by kernel_rfl) (by decide) (Opens.m opens_str)
def mPod (x : PodD) : Nat := 1 + (1 + (1 + (1 + (1 + (1 + (1 + (sumBy (fun _ => 1) (pPorts x) + (1 + (1 + (1 + (sumBy (fun _ => 1) (pClaims x) + (1 + 1))))))))))))

set_option maxHeartbeats 1000000 in
theorem opensM_Pod : OpensM RPod mPod 33 := by
  intro H enc W base n sp held cs x hx hl
  obtain ⟨y, hy, hm⟩ := (opensM_struct (total := 16) Tryz.underlying33 (by kernel_rfl) (opensFsM_cons (mm := 1) rfl (by kernel_rfl) (Opens.m opens_str) (opensFsM_cons (mm := 2) rfl (by kernel_rfl) (Opens.m opens_int) (opensFsM_cons (mm := 3) rfl (by kernel_rfl) (Opens.m opens_s_Label) (opensFsM_cons (mm := 6) rfl (by kernel_rfl) (Opens.m opens_Res) (opensFsM_cons (mm := 7) rfl (by kernel_rfl) (Opens.m opens_s_Bear) (opensFsM_cons (mm := 8) rfl (by kernel_rfl) (Opens.m opens_s_Req) (opensFsM_cons (mm := 9) rfl (by kernel_rfl) (Opens.m opens_s_Prefer) (opensFsM_cons (mm := 10) rfl (by kernel_rfl) opensM_ints (opensFsM_cons (mm := 11) rfl (by kernel_rfl) (Opens.m opens_s_Term) (opensFsM_cons (mm := 12) rfl (by kernel_rfl) (Opens.m opens_s_Term) (opensFsM_cons (mm := 13) rfl (by kernel_rfl) (Opens.m opens_s_Spread) (opensFsM_cons (mm := 14) rfl (by kernel_rfl) opensM_strs (opensFsM_cons (mm := 15) rfl (by kernel_rfl) (Opens.m opens_str) (opensFsM_last rfl (by kernel_rfl) (Opens.m opens_str)))))))))))))))) hx hl
  exact ⟨y, hy, hm⟩
theorem opensM_s_Pod : OpensM (RSl RPod 16 296) (sumBy mPod) 37 := opensM_slice RPod.firm Tryz.underlying37 (by kernel_rfl) (by kernel_rfl) (by decide) opensM_Pod
theorem sum_one {α : Type} : ∀ L : List α, sumBy (fun _ => 1) L = L.length
  | [] => rfl
  | _ :: L => by have := sum_one L; simp only [sumBy, List.map_cons, List.sum_cons, List.length_cons] at this ⊢; omega
theorem sumBy_le {α : Type} {f g : α → Nat} (h : ∀ x, f x ≤ g x) : ∀ L : List α, sumBy f L ≤ sumBy g L
  | [] => by simp [sumBy]
  | x :: L => by
    have := sumBy_le h L
    have := h x
    simp only [sumBy, List.map_cons, List.sum_cons] at *
    omega
/-- What is read is little: its ports and claims fit. -/
theorem fits_of {L : List PodD} (h : sumBy mPod L ≤ 1048576) : FitsP L := by
  have h1 : sumBy (fun p => (pPorts p).length) L ≤ sumBy mPod L := sumBy_le (fun p => by unfold mPod; rw [sum_one]; omega) L
  have h2 : sumBy (fun p => (pClaims p).length) L ≤ sumBy mPod L := sumBy_le (fun p => by unfold mPod; rw [sum_one, sum_one]; omega) L
  exact ⟨by omega, by omega⟩
set_option maxRecDepth 100000 in
/-- A struct that is handed in. -/
theorem opensM_arg {α : Type} {R : Rep α} {m : α → Nat} {t : TypeId} {fs : Array Field} (hu : Tryz.prog.underlying t = some (.struct fs)) (h : OpensM R m t) {H : Type} {enc : TypeId × Value → H} {W : World} {base b0 : Nat} {r : Reach} {sp : Nat → Bool} {held : Bool} {v : Value} {d : DataW H} {p : List MemPlace}
    (hv : Value.okWide Tryz.prog W r b0 t v) (hd : DataW.Trod enc Tryz.prog W base sp held t v d p) (hl : Light d t) : ∃ cs y, v = .agg cs ∧ R (fun _ => True) W cs.toList y ∧ m y ≤ Rows.uptoBulk d := by
  obtain ⟨cs, fuel, e, hf⟩ := arg_agg hu hv hd
  obtain ⟨y, hy, hm⟩ := h hf hl
  exact ⟨cs, y, e, hy, hm⟩
end Go.Proofs.YtbcclfiopebmpaaGreat
namespace Go.Proofs.YtbcclfiopebmpaaGreat
open Go.RowKit
set_option linter.unusedSimpArgs false

theorem len_sum (L : List PodD) : L.length ≤ sumBy mPod L := by
  have := sumBy_le (f := fun _ => 1) (g := mPod) (fun p => by unfold mPod; omega) L
  rwa [sum_one] at this
theorem ports_sum (L : List PodD) : sumBy (fun p => (pPorts p).length) L ≤ sumBy mPod L := sumBy_le (fun p => by unfold mPod; rw [sum_one]; omega) L
theorem claims_sum (L : List PodD) : sumBy (fun p => (pClaims p).length) L ≤ sumBy mPod L := sumBy_le (fun p => by unfold mPod; rw [sum_one, sum_one]; omega) L
/-- The lists of an info are no longer than so. -/
def Small (i : InfoD) (c : Nat) : Prop := i.2.1.length ≤ c ∧ i.2.2.2.1.length ≤ c ∧ i.2.2.2.2.length ≤ c
theorem small_of (n : NodeD) (L : List PodD) : Small (ofP n L) (sumBy mPod L) := by
  obtain ⟨h1, h2, h3⟩ := acc_len L L.length (Nat.le_refl _)
  rw [List.take_of_length_le (Nat.le_refl _)] at h1 h2 h3
  refine ⟨?_, ?_, ?_⟩
  · exact Nat.le_trans (sortB_len _ _ _) (Nat.le_trans h1 (len_sum L))
  · exact Nat.le_trans (sortB_len _ _ _) (Nat.le_trans h2 (ports_sum L))
  · exact Nat.le_trans (sortB_len _ _ _) (Nat.le_trans h3 (claims_sum L))
theorem small_add {i : InfoD} {c : Nat} (h : Small i c) (p : PodD) : Small (addP i p) (c + mPod p) := by
  obtain ⟨h1, h2, h3⟩ := h
  have e1 : (pPorts p).length ≤ mPod p := by unfold mPod; rw [sum_one]; omega
  have e2 : (pClaims p).length ≤ mPod p := by unfold mPod; rw [sum_one, sum_one]; omega
  have e3 : 1 ≤ mPod p := by unfold mPod; omega
  refine ⟨?_, ?_, ?_⟩
  · refine Nat.le_trans (sortB_len _ _ _) ?_; rw [List.length_append, List.length_singleton]; omega
  · refine Nat.le_trans (sortB_len _ _ _) ?_; rw [List.length_append]; omega
  · refine Nat.le_trans (sortB_len _ _ _) ?_; rw [List.length_append]; omega
theorem fitsA_of {i : InfoD} {c : Nat} (h : Small i c) (p : PodD) (hc : c + mPod p ≤ 8388608) : FitsA i p := by
  obtain ⟨h1, h2, h3⟩ := h
  have e1 : (pPorts p).length ≤ mPod p := by unfold mPod; rw [sum_one]; omega
  have e2 : (pClaims p).length ≤ mPod p := by unfold mPod; rw [sum_one, sum_one]; omega
  exact ⟨by omega, by omega, by omega⟩
theorem small_fold {n : NodeD} : ∀ (P : List PodD) {i : InfoD} {c : Nat}, Small i c → Small (P.foldl addP i) (c + sumBy mPod P)
  | [], i, c, h => by simpa [sumBy] using h
  | p :: P, i, c, h => by
    have := small_fold (n := n) P (small_add h p)
    rw [List.foldl_cons]
    have e : c + sumBy mPod (p :: P) = c + mPod p + sumBy mPod P := by simp only [sumBy, List.map_cons, List.sum_cons]; omega
    rw [e]; exact this
end Go.Proofs.YtbcclfiopebmpaaGreat
namespace Go.Proofs.YtbcclfiopebmpaaGreat
open Go.RowKit
set_option linter.unusedSimpArgs false

theorem opens_Info : Opens RInfo 44 := opens_struct (total := 15) Tryz.underlying44 (by kernel_rfl) (opensFs_cons (m := 9) rfl (by kernel_rfl) opens_Node (opensFs_cons (m := 10) rfl (by kernel_rfl) opens_s_str (opensFs_cons (m := 13) rfl (by kernel_rfl) opens_Res (opensFs_cons (m := 14) rfl (by kernel_rfl) opens_s_int (opensFs_last rfl (by kernel_rfl) opens_s_str)))))
/-- A number of Go's. -/
def RIntB : Rep Int := fun _ _ cs n => cs = [.int .i64 n] ∧ n ≤ 9223372036854775807
theorem opens_intB : Opens RIntB 3 := by
  intro H enc W base n sp held cs x h _
  obtain ⟨e, e1, _, hw⟩ := DataW.trod_int Tryz.underlying3 h
  refine ⟨e, e1, ?_⟩
  simp [Lit.wf, IntKind.max, IntKind.min, IntKind.bits, IntKind.signed] at hw
  omega
def RNodeB : Rep NodeD := RPair RStr (RPair (RSl RLabel 2 32) (RPair (RSl RTaint 3 40) (RPair RBool (RPair RRes (RPair RIntB RInt)))))
theorem RNodeB.node {A : Where} {w : World} {cs : List Value} {x : NodeD} (h : RNodeB A w cs x) : RNode A w cs x ∧ x.2.2.2.2.2.1 ≤ 9223372036854775807 := by
  obtain ⟨c0, d0, e0, h0, c1, d1, e1, h1, c2, d2, e2, h2, c3, d3, e3, h3, c4, d4, e4, h4, c5, d5, e5, h5, h6⟩ := h
  exact ⟨⟨c0, d0, e0, h0, c1, d1, e1, h1, c2, d2, e2, h2, c3, d3, e3, h3, c4, d4, e4, h4, c5, d5, e5, h5.1, h6⟩, h5.2⟩
theorem opens_NodeB : Opens RNodeB 36 := opens_struct (total := 9) Tryz.underlying36 (by kernel_rfl) (opensFs_cons (m := 1) rfl (by kernel_rfl) opens_str (opensFs_cons (m := 2) rfl (by kernel_rfl) opens_s_Label (opensFs_cons (m := 3) rfl (by kernel_rfl) opens_s_Taint (opensFs_cons (m := 4) rfl (by kernel_rfl) opens_bool (opensFs_cons (m := 7) rfl (by kernel_rfl) opens_Res (opensFs_cons (m := 8) rfl (by kernel_rfl) opens_intB (opensFs_last rfl (by kernel_rfl) opens_int)))))))
def RInfoB : Rep InfoD := RPair RNodeB (RPair (RSl RStr 1 16) (RPair RRes (RPair (RSl RInt 1 8) (RSl RStr 1 16))))
theorem RInfoB.info {A : Where} {w : World} {cs : List Value} {x : InfoD} (h : RInfoB A w cs x) : RInfo A w cs x ∧ x.1.2.2.2.2.2.1 ≤ 9223372036854775807 := by
  obtain ⟨c, d, e, hn, hr⟩ := h
  exact ⟨⟨c, d, e, hn.node.1, hr⟩, hn.node.2⟩
end Go.Proofs.YtbcclfiopebmpaaGreat
namespace Go.Proofs.YtbcclfiopebmpaaGreat
open Go.RowKit
set_option linter.unusedSimpArgs false

def mInfo (x : InfoD) : Nat := 1 + (sumBy (fun _ => 1) x.2.1 + (1 + (sumBy (fun _ => 1) x.2.2.2.1 + 1)))
theorem opensM_InfoB : OpensM RInfoB mInfo 44 := by
  intro H enc W base n sp held cs x hx hl
  obtain ⟨y, hy, hm⟩ := (opensM_struct (total := 15) Tryz.underlying44 (by kernel_rfl) (opensFsM_cons (mm := 9) rfl (by kernel_rfl) (Opens.m opens_NodeB) (opensFsM_cons (mm := 10) rfl (by kernel_rfl) opensM_strs (opensFsM_cons (mm := 13) rfl (by kernel_rfl) (Opens.m opens_Res) (opensFsM_cons (mm := 14) rfl (by kernel_rfl) opensM_ints (opensFsM_last rfl (by kernel_rfl) (Opens.m opens_s_str))))))) hx hl
  exact ⟨y, hy, hm⟩
theorem mInfo_le {x : InfoD} {c : Nat} (h : mInfo x ≤ c) : x.2.1.length ≤ c ∧ x.2.2.2.1.length ≤ c := by
  unfold mInfo at h
  rw [sum_one, sum_one] at h
  exact ⟨by omega, by omega⟩
theorem mPod_ports {y : PodD} {c : Nat} (h : mPod y ≤ c) : (pPorts y).length ≤ c := by
  unfold mPod at h
  rw [sum_one, sum_one] at h
  omega
end Go.Proofs.YtbcclfiopebmpaaGreat
namespace Go.Proofs.YtbcclfiopebmpaaGreat
open Go.RowKit
set_option linter.unusedSimpArgs false
set_option maxRecDepth 100000

def nmL (L : List PodD) : List ByteArray := L.map (·.1)
theorem nm_succ (L : List PodD) {k : Nat} (hk : k < L.length) : nmL (L.take (k + 1)) = nmL (L.take k) ++ [(L.getD k default).1] := by
  rw [← take_at hk]; simp [nmL]
theorem nodup_snoc {V : List ByteArray} {s : ByteArray} (h : V.Nodup) (hs : hasB sEq V s = false) : (V ++ [s]).Nodup := by
  rw [List.nodup_append]
  refine ⟨h, by simp, fun a ha b hb => ?_⟩
  simp only [List.mem_singleton] at hb
  subst hb
  rintro rfl
  rw [(hasS_iff V a).2 ha] at hs
  cases hs
theorem Row.slO {α : Type} [Inhabited α] {R : Rep α} {k : Nat} (hR : Firm R k) {bytes : Nat} {A : Where} {w0 u : World} {e : TypeId} {v : Value} {L : List α} (h : Row R k A w0 u e v L) (hb : L.length * bytes ≤ 140737488351232) :
    ∃ a cap, v = .slice a L.length cap ∧ SlAt R k bytes (fun b => A b ∨ v.ownBlock = some b) u a L.length cap L := by
  obtain ⟨xs, h1, h2⟩ := h
  obtain ⟨a, cap, e1, h3⟩ := sl_of_owns (bytes := bytes) hR h1.2 h2 hb
  exact ⟨a, cap, e1, h3.weak hR (fun b _ hb => by rcases hb with hb | hb; exact .inl hb.1; exact .inr hb)⟩
theorem sumBy_perm {P L : List PodD} (h : P.Perm L) : sumBy mPod P = sumBy mPod L := by
  unfold sumBy; exact (h.map mPod).sum_nat
def dropA (a : Option Addr) (cap t : Nat) : Option Addr := match a with | none => none | some ad => if cap = t then some ad else some (ad.add (t * 16))
theorem sl_dropA {A : Where} {u : World} {a : Option Addr} {n cap t : Nat} {L : List PodD} (h : SlAt RPod 16 296 A u a n cap L) (ht : t ≤ n) : SlAt RPod 16 296 A u (dropA a cap t) (n - t) (cap - t) (L.drop t) := by
  have hl := h.1
  by_cases hn : n - t = 0
  · have hd : L.drop t = [] := List.drop_eq_nil_of_le (by omega)
    rw [hn, hd]
    refine SlAt.nil _ _ _ _ (fun e => ?_)
    cases a with
    | none => have := h.2.2.1 rfl; omega
    | some ad => simp only [dropA] at e; split at e <;> cases e
  · obtain ⟨B, off, rfl, _⟩ := h.2.2.2.2 (by omega)
    have hc : ¬ cap = t := by have := h.2.1; omega
    have e : dropA (some ⟨B, off, none⟩) cap t = some ⟨B, off + t * 16, none⟩ := by simp only [dropA, hc, if_false]; rw [add_lit]
    rw [e]
    exact h.drop ht
set_option maxHeartbeats 1000000 in
theorem Among_calls (n : Int) (m : Nat) (hm : 0 < m) (hml : m ≤ 140737488355328) (w : World) : Calls Tryz.prog 7 #[.int .i64 n, .int .i64 m] w fun e w' => (∃ k : Nat, e = .returned (.int .i64 k) ∧ k < m) ∧ w' = w := by
  have hw : IntKind.u64.wrap (m : Int) = (m : Int) := by simp [IntKind.wrap, IntKind.bits, IntKind.signed]; omega
  have hz : ((m : Int) == 0) = false := by rw [beq_eq_false_iff_ne]; omega
  have hz' : ¬ (m : Int) = 0 := by omega
  generalize hr : IntKind.u64.wrap n = r
  have hr0 : 0 ≤ r := by rw [← hr]; simp [IntKind.wrap, IntKind.bits, IntKind.signed]; omega
  have h1 : 0 ≤ r % (m : Int) := Int.emod_nonneg _ (by omega)
  have h2 : r % (m : Int) < (m : Int) := Int.emod_lt_of_pos _ (by omega)
  have h3 : r.tmod (m : Int) = r % (m : Int) := Int.tmod_eq_emod_of_nonneg hr0
  go_enter Tryz.func7, Tryz.ntmps7
  go_wp2
  go_ret
  refine ⟨⟨(r % (m : Int)).toNat, ?_, by omega⟩, rfl⟩
  rw [Int.toNat_of_nonneg h1]
  rfl
end Go.Proofs.YtbcclfiopebmpaaGreat
namespace Go.Proofs.YtbcclfiopebmpaaGreat
open Go.RowKit
set_option linter.unusedSimpArgs false

theorem insB_new {s : ByteArray} : ∀ {L : List ByteArray}, s ∉ L → (insB sLt sEq L s).length = L.length + 1
  | [], _ => by simp [insB]
  | x :: xs, h => by
    have ih := insB_new (s := s) (L := xs) (fun hm => h (List.mem_cons_of_mem _ hm))
    have hx : ¬ sEq x s = true := fun e => h (by rw [(sEq_iff x s).1 e]; exact List.mem_cons_self ..)
    simp only [insB]
    split
    · simp [ih]
    · try rw [if_neg hx]
      simp
theorem sort_snoc {L : List ByteArray} (hL : UpB sLt L) {s : ByteArray} (hs : hasB sEq L s = false) : (sortB sLt sEq (L ++ [s])).length = L.length + 1 := by
  have e1 : sortB sLt sEq (L ++ [s]) = insB sLt sEq (sortB sLt sEq L) s := by unfold sortB; rw [List.foldl_append]; rfl
  have e2 : sortB sLt sEq L = L := UpB.one ordS _ _ (UpB.sort ordS L) hL (fun x => mem_sorted x L)
  rw [e1, e2]
  exact insB_new (fun hm => by rw [(hasS_iff L s).2 hm] at hs; cases hs)
theorem most_rng (y : PodD) (x : InfoD) (t : Nat) : 0 ≤ mostP y x t ∧ mostP y x t ≤ t := by
  unfold mostP
  split
  · rename_i h0
    have := (room_iff (Like.zero y x) (by omega) h0).1 h0
    constructor <;> omega
  · constructor <;> omega
/-- Below the number told: one finds room. -/
theorem till_in {y : PodD} {x j : InfoD} {n t : Nat} (h : Like y x n j) (ht : t < 40) (hn : (n : Int) < mostP y x t) : why1 y j = 0 := by
  unfold mostP at hn
  split at hn
  · rename_i h0
    exact (room_iff h (by omega) h0).2 (by omega)
  · omega
/-- At the number told: one more does not, unless no more were asked for. -/
theorem till_end {y : PodD} {x j : InfoD} {n t : Nat} (h : Like y x n j) (h0 : n = 0 → j = x) (ht : t < 40) (hn : (n : Int) = mostP y x t) (hne : ¬ (n : Int) = t) : ¬ why1 y j = 0 := by
  unfold mostP at hn
  split at hn
  · rename_i hz
    rw [room_iff h (by omega) hz]
    omega
  · rename_i hz
    have : n = 0 := by omega
    rw [h0 this]
    exact hz
theorem has_sorted (L : List Int) (q : Int) : hasB iEq (sortB iLt iEq L) q = hasB iEq L q := by
  have e := mem_sortB (lt := iLt) (eq := iEq) (fun a b h => (iEq_iff a b).1 h) q L
  rw [Bool.eq_iff_iff, hasB_iff iEq_iff, hasB_iff iEq_iff]
  exact e
/-- What the loop knows behind n rounds. -/
structure TillI (y : PodD) (x : InfoD) (c n : Nat) (j : InfoD) : Prop where
  like : Like y x n j
  zero : n = 0 → j = x
  up : UpB sLt j.2.1
  small : Small j (c + n * mPod y)
theorem TillI.start (y : PodD) (nd : NodeD) (L : List PodD) : TillI y (ofP nd L) (sumBy mPod L) 0 (ofP nd L) :=
  ⟨Like.zero _ _, fun _ => rfl, UpB.sort ordS _, by simpa using small_of nd L⟩
theorem TillI.step {y : PodD} {x j : InfoD} {c n : Nat} (h : TillI y x c n j) {s : ByteArray} (hs : hasB sEq j.2.1 s = false) : TillI y x c (n + 1) (addP j (s, y.2)) := by
  obtain ⟨⟨h1, h2, h3, h4⟩, _, h6, h7⟩ := h
  refine ⟨⟨h1, ?_, ?_, fun q => ?_⟩, fun e => by omega, UpB.sort ordS _, ?_⟩
  · show (sortB sLt sEq (j.2.1 ++ [s])).length = _
    rw [sort_snoc h6 hs, h2]; omega
  · show plusR j.2.2.1 (pWant (s, y.2)) = _
    rw [itR_succ, ← h3]; rfl
  · show hasB iEq (sortB iLt iEq (j.2.2.2.1 ++ pPorts (s, y.2))) q = _
    have e : pPorts (s, y.2) = pPorts y := rfl
    rw [has_sorted, e]
    have e2 : hasB iEq (j.2.2.2.1 ++ pPorts y) q = (hasB iEq j.2.2.2.1 q || hasB iEq (pPorts y) q) := by simp [hasB]
    rw [e2, h4 q]
    cases hasB iEq x.2.2.2.1 q <;> cases hasB iEq (pPorts y) q <;> simp
  · have := small_add h7 (s, y.2)
    have e : mPod (s, y.2) = mPod y := rfl
    rw [e] at this
    have e3 : c + (n + 1) * mPod y = c + n * mPod y + mPod y := by rw [Nat.add_mul]; omega
    rw [e3]; exact this
theorem fitsA_big {i : InfoD} {c : Nat} (h : Small i c) (p : PodD) (hc : c + mPod p ≤ 1000000000) : FitsA i p := by
  obtain ⟨h1, h2, h3⟩ := h
  have e1 : (pPorts p).length ≤ mPod p := by unfold mPod; rw [sum_one]; omega
  have e2 : (pClaims p).length ≤ mPod p := by unfold mPod; rw [sum_one, sum_one]; omega
  exact ⟨by omega, by omega, by omega⟩
theorem TillI.fits {y : PodD} {x j : InfoD} {c n : Nat} (h : TillI y x c n j) (hn : n ≤ 40) (hc : c + mPod y ≤ 1048576) (s : ByteArray) : FitsA j (s, y.2) := by
  refine fitsA_big h.small (s, y.2) ?_
  have e : mPod (s, y.2) = mPod y := rfl
  rw [e]
  have : n * mPod y ≤ 40 * mPod y := Nat.mul_le_mul_right _ hn
  omega
end Go.Proofs.YtbcclfiopebmpaaGreat
namespace Go.Proofs.YtbcclfiopebmpaaGreat
open Go.RowKit
set_option maxRecDepth 100000

theorem ret_str {a b : ByteArray} (h : a = b) : Ending.returned (.string a) = .returned (.string b) := by rw [h]
theorem itoa_nat {n : Int} (h : 0 ≤ n) : Lib.itoa n = Lib.decDigits n.toNat := by unfold Lib.itoa; rw [if_neg (by omega)]
def decZ (m : Nat) : List UInt8 := if m = 0 then [] else Lib.decDigits m
theorem decZ_zero : decZ 0 = [] := rfl
theorem decDigits_step (u : Nat) (h : ¬ u < 10) : Lib.decDigits u = Lib.decDigits (u / 10) ++ [UInt8.ofNat (48 + u % 10)] := by
  rw [Lib.decDigits, dif_neg h]
theorem decZ_step (m : Nat) (h : m ≠ 0) : decZ m = decZ (m / 10) ++ [UInt8.ofNat (48 + m % 10)] := by
  unfold decZ
  rw [if_neg h]
  by_cases h10 : m < 10
  · rw [if_pos (by omega), Lib.decDigits_one h10, Nat.mod_eq_of_lt h10]
    rfl
  · rw [if_neg (by omega), decDigits_step m h10]

theorem bytes_cons (c : UInt8) (l : List UInt8) : ({ data := #[c] } ++ { data := l.toArray } : ByteArray) = { data := (c :: l).toArray } := by
  apply ByteArray.ext
  simp
theorem dig_int (m : Nat) : 48 + (m : Int) % 10 = ((UInt8.ofNat (48 + m % 10)).toNat : Int) := by
  rw [UInt8.toNat_ofNat']
  omega

theorem conv_one (w : World) (v : Int) (c : UInt8) (hv : v = (c.toNat : Int)) :
    Sem.run Tryz.prog (convert 68 9 (Value.slice (some { block := w.heap.size, off := 0 }) 1 1)) (w.alloc (Obj.cells #[Value.int IntKind.u8 v] 5)) =
      .ok (.string ⟨#[c]⟩) (w.alloc (Obj.cells #[Value.int IntKind.u8 v] 5)) := by
  refine run_convert_bytes_back _ 68 9 5 ⟨w.heap.size, 0, none⟩ 1 [c] Tryz.underlying68 Tryz.underlying5 Tryz.underlying9 ?_
  intro j hj
  obtain rfl : j = 0 := by simpa using hj
  show (w.alloc _).cell? ⟨w.heap.size, 0, none⟩ = _
  rw [World.cell?_alloc_new, hv]
  rfl

set_option maxHeartbeats 1000000 in
theorem itoa_calls (n : Int) (w : World) (h0 : 0 < n) (h1 : n ≤ 1125899906842624) : Calls Tryz.prog 13 #[.int .i64 n] w fun e w' => e = .returned (.string ⟨(Lib.decDigits n.toNat).toArray⟩) ∧ Below w.heap.size w w' := by
  have e0 : (n == 0) = false := by rw [beq_eq_false_iff_ne]; omega
  have e1 : decide (n < 0) = false := by simp; omega
  have HL : Hid ((Lib.decDigits n.toNat).length ≤ 21) := by
    have h := Lib.itoa_length_le n (by omega) (by omega)
    rw [itoa_nat (by omega)] at h
    exact h
  go_enter Tryz.func13, Tryz.ntmps13
  go_wp2
  go_loopw [0, 3] (fun v s wr => ∃ (m : Nat) (l : List UInt8), v = .int .i64 m ∧ s = .string ⟨l.toArray⟩ ∧ m ≤ 1125899906842624 ∧ Hid (decZ m ++ l = Lib.decDigits n.toNat) ∧ l.length ≤ 21 ∧ Below w.heap.size w wr) (fun v _ _ => (intOf v).toNat)
  case atStart =>
    refine ⟨n.toNat, [], ?_, rfl, by omega, ?_, by simp, Below.refl _ _⟩
    · rw [Int.toNat_of_nonneg (by omega)]
    · unfold Hid decZ
      rw [if_neg (by omega), List.append_nil]
  case round =>
    obtain ⟨m, l, rfl, rfl, hm, hdec, hl, hbel⟩ := hrel
    by_cases hz : m = 0
    · subst hz
      have HD : Hid (l = Lib.decDigits n.toNat) := hdec
      go_wp2
      go_ret
      exact ⟨ret_str (by rw [HD.out]), hbel⟩
    · have z0 : ((m : Int) != 0) = true := by rw [bne_iff_ne]; omega
      obtain ⟨c, Hc, hci⟩ : ∃ c : UInt8, Hid (c = UInt8.ofNat (48 + m % 10)) ∧ 48 + (m : Int) % 10 = (c.toNat : Int) := ⟨_, rfl, dig_int m⟩
      have hc := conv_one wr (48 + (m : Int) % 10) c hci
      clear hci
      have HS : Hid (decZ (m / 10) ++ (c :: l) = Lib.decDigits n.toNat) := by
        have h := hdec.out
        rw [decZ_step m hz, ← Hc.out, List.append_assoc] at h
        exact h
      have hl' : (c :: l).length ≤ 21 := by
        have h := congrArg List.length HS.out
        rw [List.length_append] at h
        have := HL.out
        omega
      go_wp2
      exact ⟨⟨m / 10, c :: l, by go_num, congrArg Value.string (bytes_cons c l), by omega, HS, hl', hbel.alloc hbel.size _⟩, by simp [intOf]; omega⟩

theorem itoa_zero (w : World) : Calls Tryz.prog 13 #[.int .i64 0] w fun e w' => e = .returned (.string ⟨(Lib.decDigits 0).toArray⟩) ∧ w' = w := by
  have HD : Hid (Lib.decDigits 0 = [48]) := Lib.decDigits_one (by omega)
  go_enter Tryz.func13, Tryz.ntmps13
  go_wp2
  go_ret
  exact ⟨ret_str (by rw [HD.out]), rfl⟩
theorem ritoa_calls (n : Int) (w : World) (h0 : 0 ≤ n) (h1 : n ≤ 1125899906842624) : Calls Tryz.prog 13 #[.int .i64 n] w fun e w' => e = .returned (.string ⟨(Lib.decDigits n.toNat).toArray⟩) ∧ Below w.heap.size w w' := by
  by_cases h : n = 0
  · subst h
    exact (itoa_zero w).mono fun e w' ⟨he, hw⟩ => ⟨he, by rw [hw]; exact Below.refl _ _⟩
  · exact itoa_calls n w (by omega) h1

theorem decDigits_le (n : Int) (h0 : 0 ≤ n) (h1 : n ≤ 1125899906842624) : (Lib.decDigits n.toNat).length ≤ 21 := by
  have h := Lib.itoa_length_le n (by omega) (by omega)
  rwa [itoa_nat h0] at h
/-- Any number's text, and that it is short. -/
theorem itoa_any (n : Nat) (w : World) (h1 : n ≤ 1048576) : Calls Tryz.prog 13 #[.int .i64 (n : Int)] w fun e w' => ∃ s : ByteArray, e = .returned (.string s) ∧ s.size ≤ 21 ∧ Below w.heap.size w w' := by
  refine (ritoa_calls (n : Int) w (by omega) (by omega)).mono ?_
  rintro e w' ⟨rfl, hb⟩
  refine ⟨_, rfl, ?_, hb⟩
  have := decDigits_le (n : Int) (by omega) (by omega)
  simpa [ByteArray.size] using this
end Go.Proofs.YtbcclfiopebmpaaGreat
