/- Arguments of the program's struct types, as they come in. No condition beyond the row's own reach. Arguments as they come in, with a bound on what they hold: no more than the reading's bulk. No condition beyond the row's own reach. Pods as they come in, with a bound on their ports and claims. No condition beyond the row's own reach. What comes in is little: so is what is made of it. Plain. No condition. Steps of a region that draws its order: one of three may come up. Plain facts on the model's walks. No condition. Facts for the laws' walks. Plain facts on worlds. No condition. base.Node gives a copy of its own. Condition: the argument lies as is said of it. Further facts for the laws' walks: an info beside others that is written over. Plain facts on worlds. No condition. -/
import Derived.Test.YtddeilhelkfpoaaQ02
import Derived.Test.YtddeilhelkfpoaaQ16
import Derived.Test.YtddeilhelkfpoaaQ03
import Derived.Test.YtddeilhelkfpoaaRows
import Derived.Test.YtddeilhelkfpoaaQ11
import Derived.Test.YtddeilhelkfpoaaQ04
import Derived.Test.YtddeilhelkfpoaaQ12
namespace Go.Proofs.Ytddeilhelkfpoaa
open Go.ChangeShapes Go.WideShapes Go.ChangeAt Go.RowKit

theorem opens_Label : Opens RLabel 99 := opens_struct (total := 2) Try.underlying99 (by kernel_rfl) (opensFs_cons (m := 1) rfl (by kernel_rfl) opens_str (opensFs_last rfl (by kernel_rfl) opens_str))
theorem opens_s_str : Opens (RSl RStr 1 16) 35 := opens_slice RStr.firm Try.underlying35 (by kernel_rfl) (by kernel_rfl) (by decide) opens_str
theorem opens_Req : Opens RReq 101 := opens_struct (total := 3) Try.underlying101 (by kernel_rfl) (opensFs_cons (m := 1) rfl (by kernel_rfl) opens_str (opensFs_cons (m := 2) rfl (by kernel_rfl) opens_int (opensFs_last rfl (by kernel_rfl) opens_s_str)))
theorem opens_Res : Opens RRes 25 := opens_struct (total := 3) Try.underlying25 (by kernel_rfl) (opensFs_cons (m := 1) rfl (by kernel_rfl) opens_int (opensFs_cons (m := 2) rfl (by kernel_rfl) opens_int (opensFs_last rfl (by kernel_rfl) opens_int)))
theorem opens_Taint : Opens RTaint 82 := opens_struct (total := 3) Try.underlying82 (by kernel_rfl) (opensFs_cons (m := 1) rfl (by kernel_rfl) opens_str (opensFs_cons (m := 2) rfl (by kernel_rfl) opens_str (opensFs_last rfl (by kernel_rfl) opens_int)))
theorem opens_Bear : Opens RBear 76 := opens_struct (total := 4) Try.underlying76 (by kernel_rfl) (opensFs_cons (m := 1) rfl (by kernel_rfl) opens_str (opensFs_cons (m := 2) rfl (by kernel_rfl) opens_str (opensFs_cons (m := 3) rfl (by kernel_rfl) opens_bool (opensFs_last rfl (by kernel_rfl) opens_int))))
theorem opens_s_Req : Opens (RSl RReq 3 48) 30 := opens_slice RReq.firm Try.underlying30 (by kernel_rfl) (by kernel_rfl) (by decide) opens_Req
theorem opens_Term : Opens RTerm 103 := opens_struct (total := 2) Try.underlying103 (by kernel_rfl) (opensFs_cons (m := 1) rfl (by kernel_rfl) opens_s_Req (opensFs_last rfl (by kernel_rfl) opens_str))
theorem opens_Prefer : Opens RPrefer 78 := opens_struct (total := 2) Try.underlying78 (by kernel_rfl) (opensFs_cons (m := 1) rfl (by kernel_rfl) opens_s_Req (opensFs_last rfl (by kernel_rfl) opens_int))
theorem opens_Spread : Opens RSpread 80 := opens_struct (total := 4) Try.underlying80 (by kernel_rfl) (opensFs_cons (m := 1) rfl (by kernel_rfl) opens_str (opensFs_cons (m := 2) rfl (by kernel_rfl) opens_int (opensFs_cons (m := 3) rfl (by kernel_rfl) opens_int (opensFs_last rfl (by kernel_rfl) opens_s_Req))))
theorem opens_s_Label : Opens (RSl RLabel 2 32) 22 := opens_slice RLabel.firm Try.underlying22 (by kernel_rfl) (by kernel_rfl) (by decide) opens_Label
theorem opens_s_Bear : Opens (RSl RBear 4 48) 29 := opens_slice RBear.firm Try.underlying29 (by kernel_rfl) (by kernel_rfl) (by decide) opens_Bear
theorem opens_s_Prefer : Opens (RSl RPrefer 2 32) 31 := opens_slice RPrefer.firm Try.underlying31 (by kernel_rfl) (by kernel_rfl) (by decide) opens_Prefer
theorem opens_s_int : Opens (RSl RInt 1 8) 32 := opens_slice RInt.firm Try.underlying32 (by kernel_rfl) (by kernel_rfl) (by decide) opens_int
theorem opens_s_Term : Opens (RSl RTerm 2 40) 33 := opens_slice RTerm.firm Try.underlying33 (by kernel_rfl) (by kernel_rfl) (by decide) opens_Term
theorem opens_s_Spread : Opens (RSl RSpread 4 56) 34 := opens_slice RSpread.firm Try.underlying34 (by kernel_rfl) (by kernel_rfl) (by decide) opens_Spread
theorem opens_Pod : Opens RPod 37 := opens_struct (total := 16) Try.underlying37 (by kernel_rfl) (opensFs_cons (m := 1) rfl (by kernel_rfl) opens_str (opensFs_cons (m := 2) rfl (by kernel_rfl) opens_int (opensFs_cons (m := 3) rfl (by kernel_rfl) opens_s_Label (opensFs_cons (m := 6) rfl (by kernel_rfl) opens_Res (opensFs_cons (m := 7) rfl (by kernel_rfl) opens_s_Bear (opensFs_cons (m := 8) rfl (by kernel_rfl) opens_s_Req (opensFs_cons (m := 9) rfl (by kernel_rfl) opens_s_Prefer (opensFs_cons (m := 10) rfl (by kernel_rfl) opens_s_int (opensFs_cons (m := 11) rfl (by kernel_rfl) opens_s_Term (opensFs_cons (m := 12) rfl (by kernel_rfl) opens_s_Term (opensFs_cons (m := 13) rfl (by kernel_rfl) opens_s_Spread (opensFs_cons (m := 14) rfl (by kernel_rfl) opens_s_str (opensFs_cons (m := 15) rfl (by kernel_rfl) opens_str (opensFs_last rfl (by kernel_rfl) opens_str))))))))))))))
theorem opens_s_Taint : Opens (RSl RTaint 3 40) 23 := opens_slice RTaint.firm Try.underlying23 (by kernel_rfl) (by kernel_rfl) (by decide) opens_Taint
theorem opens_Node : Opens RNode 27 := opens_struct (total := 9) Try.underlying27 (by kernel_rfl) (opensFs_cons (m := 1) rfl (by kernel_rfl) opens_str (opensFs_cons (m := 2) rfl (by kernel_rfl) opens_s_Label (opensFs_cons (m := 3) rfl (by kernel_rfl) opens_s_Taint (opensFs_cons (m := 4) rfl (by kernel_rfl) opens_bool (opensFs_cons (m := 7) rfl (by kernel_rfl) opens_Res (opensFs_cons (m := 8) rfl (by kernel_rfl) opens_int (opensFs_last rfl (by kernel_rfl) opens_int)))))))
theorem opens_s_Pod : Opens (RSl RPod 16 296) 28 := opens_slice RPod.firm Try.underlying28 (by kernel_rfl) (by kernel_rfl) (by decide) opens_Pod
end Go.Proofs.Ytddeilhelkfpoaa
namespace Go.Proofs.Ytddeilhelkfpoaa
open Go.ChangeShapes Go.WideShapes Go.ChangeAt Go.RowKit
set_option linter.unusedSimpArgs false

/-- What is read as of that type lies as said, and is no greater than its bulk. -/
def OpensM {α : Type} (R : Rep α) (m : α → Nat) (t : TypeId) : Prop :=
  ∀ {H : Type} {enc : TypeId × Value → H} {W : World} {base n : Nat} {sp : Nat → Bool} {held : Bool} {cs : List Value} {x : DataW H × List MemPlace},
    DataW.trod enc Try.prog W base sp held n t cs = some x → Light x.1 t → ∃ y, R (fun _ => True) W cs y ∧ m y ≤ Rows.uptoBulk x.1
theorem bulk_pos {H : Type} (d : DataW H) : 1 ≤ Rows.uptoBulk d := by
  match d with
  | .lit l => cases l <;> simp [Rows.uptoBulk]
  | .nil => simp [Rows.uptoBulk]
  | .ptr _ => simp [Rows.uptoBulk]
  | .slice _ _ => simp [Rows.uptoBulk]
  | .agg _ => simp [Rows.uptoBulk]
  | .iface _ _ => simp [Rows.uptoBulk]
  | .map _ => simp [Rows.uptoBulk]
  | .held _ => simp [Rows.uptoBulk]
theorem Opens.m {α : Type} {R : Rep α} {t : TypeId} (h : Opens R t) : OpensM R (fun _ => 1) t := by
  intro H enc W base n sp held cs x hx hl
  obtain ⟨y, hy⟩ := h hx hl
  exact ⟨y, hy, bulk_pos _⟩
theorem sum_bulk {α H : Type} (m : α → Nat) (f : Nat → α) (D : Nat → DataW H) : ∀ l : List Nat, (∀ i ∈ l, m (f i) ≤ Rows.uptoBulk (D i)) → sumBy m (l.map f) ≤ Rows.uptoBulkAll (l.map D)
  | [], _ => by simp [sumBy, Rows.uptoBulkAll]
  | i :: l, h => by
    have := sum_bulk m f D l (fun j hj => h j (List.mem_cons_of_mem _ hj))
    have h0 := h i List.mem_cons_self
    simp only [sumBy, List.map_cons, List.sum_cons, Rows.uptoBulkAll] at this ⊢
    omega
theorem opensM_slice {α : Type} [Inhabited α] {R : Rep α} {m : α → Nat} {k bytes : Nat} {t e : TypeId} (hR : Firm R k) (hu : Try.prog.underlying t = some (.slice e)) (ck : Try.prog.cellsOf e = k) (bk : Try.prog.bytesOf e = bytes) (hk0 : 0 < k) (hE : OpensM R m e) : OpensM (RSl R k bytes) (sumBy m) t := by
  intro H enc W base n sp held cs x h hl
  rcases Go.Deep.open_slice hu h with ⟨hv, _⟩ | ⟨a, len, cap, mm, nn, D, Pl, hv, _, hlc, _, hm, rfl, hel⟩
  · exact ⟨[], ⟨none, 0, 0, hv, SlAt.nil _ _ _ _ (fun _ => rfl)⟩, by simp [sumBy]⟩
  · obtain ⟨w1, w2⟩ := light_slice hu hl
    simp only [List.length_map, List.length_range, bk] at w1
    have hml : len ≤ mm := by rw [hm]; split <;> omega
    rw [ck] at hel
    have each : ∀ i, i < len → ∃ y : α, (∃ cs, R (fun _ => True) W cs y ∧ ∀ j u, cs[j]? = some u → W.cell? ((a.add (i * k)).add j) = some u) ∧ m y ≤ Rows.uptoBulk (D i) := fun i hi => by
      obtain ⟨cs', h1, h2⟩ := hel i (by omega)
      obtain ⟨y, hy, hm⟩ := hE h2 (w2 _ (List.mem_map.2 ⟨i, List.mem_range.2 hi, rfl⟩))
      obtain ⟨_, _, hcell⟩ := World.cells?_some h1
      refine ⟨y, ⟨cs', hy, fun j u hj => ?_⟩, hm⟩
      have hjk : j < k := by
        have := (List.getElem?_eq_some_iff.1 hj).1
        rwa [hR.len hy] at this
      rw [hcell j hjk, hj]
    obtain ⟨f, hf⟩ := Go.Deep.choose_lt each
    refine ⟨(List.range len).map f, ⟨some a, len, cap, hv, by simp, hlc, (fun h => by cases h), w1, fun hpos => ?_⟩, ?_⟩
    · obtain ⟨B, off, spot⟩ := a
      obtain ⟨cs0, hr0, hc0⟩ := (hf 0 hpos).1
      have hex : ∃ u, cs0[0]? = some u := by
        cases e : cs0 with
        | nil => have := hR.len hr0; rw [e] at this; simp at this; omega
        | cons u r => exact ⟨u, rfl⟩
      obtain ⟨u0, hu0⟩ := hex
      have hc0 := hc0 0 u0 hu0
      have hsp : spot = none := by
        have := World.cell?_spot hc0
        simpa [Addr.add] using this
      subst hsp
      rw [add_lit, add_lit] at hc0
      refine ⟨B, off, rfl, addr_lt hc0, trivial, fun i hi => ?_⟩
      obtain ⟨cs, hr, hc⟩ := (hf i hi).1
      refine ⟨cs, by rw [getD_range f len i hi]; exact hr, fun j u hj => ?_⟩
      have := hc j u hj
      rwa [add_lit, add_lit] at this
    · have := sum_bulk m f D (List.range len) (fun i hi => (hf i (List.mem_range.1 hi)).2)
      simp only [Rows.uptoBulk]
      omega
def OpensFsM {α : Type} (fs : List Field) (off total : Nat) (R : Rep α) (m : α → Nat) : Prop :=
  ∀ {H : Type} {enc : TypeId × Value → H} {W : World} {base n : Nat} {sp : Nat → Bool} {held : Bool} {cs : List Value} {ds : List (DataW H)}, cs.length = total → ds.length = fs.length →
    (∀ (j : Nat) (f : Field), fs[j]? = some f → ∃ d, DataW.trod enc Try.prog W base sp held n f.type ((cs.drop f.offset).take (Try.prog.cellsOf f.type)) = some d ∧ Light d.1 f.type ∧ ds[j]? = some d.1) → ∃ y, R (fun _ => True) W (cs.drop off) y ∧ m y ≤ Rows.uptoBulkAll ds
theorem opensFsM_last {α : Type} {R : Rep α} {m : α → Nat} {f : Field} {off total : Nat} (ho : f.offset = off) (ht : off + Try.prog.cellsOf f.type = total) (h : OpensM R m f.type) : OpensFsM [f] off total R m := by
  intro H enc W base n sp held cs ds hl hd hf
  obtain ⟨d, h1, h2, h3⟩ := hf 0 f rfl
  rw [ho, List.take_of_length_le (by rw [List.length_drop]; omega)] at h1
  obtain ⟨y, hy, hm⟩ := h h1 h2
  refine ⟨y, hy, ?_⟩
  cases ds with
  | nil => simp at hd
  | cons d0 r => simp at h3; subst h3; simp only [Rows.uptoBulkAll]; omega
theorem opensFsM_cons {α β : Type} {R : Rep α} {S : Rep β} {m1 : α → Nat} {m2 : β → Nat} {f : Field} {fs : List Field} {off mm total : Nat} (ho : f.offset = off) (hm : off + Try.prog.cellsOf f.type = mm) (h : OpensM R m1 f.type) (hs : OpensFsM fs mm total S m2) : OpensFsM (f :: fs) off total (RPair R S) (fun x => m1 x.1 + m2 x.2) := by
  intro H enc W base n sp held cs ds hl hd hf
  obtain ⟨d, h1, h2, h3⟩ := hf 0 f rfl
  rw [ho] at h1
  obtain ⟨y, hy, hm1⟩ := h h1 h2
  cases ds with
  | nil => simp at hd
  | cons d0 r =>
    obtain ⟨z, hz, hm2⟩ := hs (cs := cs) (ds := r) hl (by simpa using hd) (fun j g hg => by have := hf (j + 1) g (by simpa using hg); simpa using this)
    refine ⟨(y, z), ⟨(cs.drop off).take (Try.prog.cellsOf f.type), cs.drop mm, ?_, hy, hz⟩, ?_⟩
    · rw [← hm, ← List.drop_drop]
      exact (List.take_append_drop _ _).symm
    · simp at h3; subst h3; simp only [Rows.uptoBulkAll]; omega
theorem opensM_struct {α : Type} {R : Rep α} {m : α → Nat} {t : TypeId} {fs : Array Field} {total : Nat} (hu : Try.prog.underlying t = some (.struct fs)) (hc : Try.prog.cellsOf t = total) (h : OpensFsM fs.toList 0 total R m) : OpensM R m t := by
  intro H enc W base n sp held cs x hx hl
  obtain ⟨xs, mm, _, rfl, hlen, hxs, hf⟩ := DataW.trod_struct hu hx
  have := h (enc := enc) (W := W) (base := base) (n := mm) (sp := sp) (held := held) (cs := cs) (ds := xs.map (·.1)) (by rw [hlen, hc]) (by simp [hxs]) (fun j f hj => by
    have hj' : fs[j]? = some f := by simpa using hj
    have h1 := hf j f hj'
    have hlt : j < xs.length := by
      have := (Array.getElem?_eq_some_iff.1 hj').1
      omega
    have h2 : xs[j]? = some xs[j] := List.getElem?_eq_getElem hlt
    rw [h2] at h1
    refine ⟨xs[j], h1, light_struct hu hl (j := j) (by simp [hj']) (by simp [h2]), by simp [h2]⟩)
  obtain ⟨y, hy, hm⟩ := this
  refine ⟨y, by simpa using hy, ?_⟩
  simp only [Rows.uptoBulk]
  omega
end Go.Proofs.Ytddeilhelkfpoaa
namespace Go.Proofs.Ytddeilhelkfpoaa
open Go.ChangeShapes Go.WideShapes Go.ChangeAt Go.RowKit
set_option linter.unusedSimpArgs false

theorem opensM_ints : OpensM (RSl RInt 1 8) (sumBy (fun _ => 1)) 32 := opensM_slice RInt.firm Try.underlying32 (by kernel_rfl) (by kernel_rfl) (by decide) (Opens.m opens_int)
theorem opensM_strs : OpensM (RSl RStr 1 16) (sumBy (fun _ => 1)) 35 := opensM_slice RStr.firm Try.underlying35 (by kernel_rfl) (by kernel_rfl) (by decide) (Opens.m opens_str)
def mPod (x : PodD) : Nat := 1 + (1 + (1 + (1 + (1 + (1 + (1 + (sumBy (fun _ => 1) (pPorts x) + (1 + (1 + (1 + (sumBy (fun _ => 1) (pClaims x) + (1 + 1))))))))))))

set_option maxHeartbeats 1000000 in
theorem opensM_Pod : OpensM RPod mPod 37 := by
  intro H enc W base n sp held cs x hx hl
  obtain ⟨y, hy, hm⟩ := (opensM_struct (total := 16) Try.underlying37 (by kernel_rfl) (opensFsM_cons (mm := 1) rfl (by kernel_rfl) (Opens.m opens_str) (opensFsM_cons (mm := 2) rfl (by kernel_rfl) (Opens.m opens_int) (opensFsM_cons (mm := 3) rfl (by kernel_rfl) (Opens.m opens_s_Label) (opensFsM_cons (mm := 6) rfl (by kernel_rfl) (Opens.m opens_Res) (opensFsM_cons (mm := 7) rfl (by kernel_rfl) (Opens.m opens_s_Bear) (opensFsM_cons (mm := 8) rfl (by kernel_rfl) (Opens.m opens_s_Req) (opensFsM_cons (mm := 9) rfl (by kernel_rfl) (Opens.m opens_s_Prefer) (opensFsM_cons (mm := 10) rfl (by kernel_rfl) opensM_ints (opensFsM_cons (mm := 11) rfl (by kernel_rfl) (Opens.m opens_s_Term) (opensFsM_cons (mm := 12) rfl (by kernel_rfl) (Opens.m opens_s_Term) (opensFsM_cons (mm := 13) rfl (by kernel_rfl) (Opens.m opens_s_Spread) (opensFsM_cons (mm := 14) rfl (by kernel_rfl) opensM_strs (opensFsM_cons (mm := 15) rfl (by kernel_rfl) (Opens.m opens_str) (opensFsM_last rfl (by kernel_rfl) (Opens.m opens_str)))))))))))))))) hx hl
  exact ⟨y, hy, hm⟩
theorem opensM_s_Pod : OpensM (RSl RPod 16 296) (sumBy mPod) 28 := opensM_slice RPod.firm Try.underlying28 (by kernel_rfl) (by kernel_rfl) (by decide) opensM_Pod
theorem sum_one {α : Type} : ∀ L : List α, sumBy (fun _ => 1) L = L.length
  | [] => rfl
  | _ :: L => by have := sum_one L; simp only [sumBy, List.map_cons, List.sum_cons, List.length_cons] at this ⊢; omega
theorem sumBy_le {α : Type} {f g : α → Nat} (h : ∀ x, f x ≤ g x) : ∀ L : List α, sumBy f L ≤ sumBy g L
  | [] => by simp [sumBy]
  | x :: L => by
    have := sumBy_le h L
    have := h x
    simp only [sumBy, List.map_cons, List.sum_cons] at *
    omega
/-- What is read is little: its ports and claims fit. -/
theorem fits_of {L : List PodD} (h : sumBy mPod L ≤ 1048576) : FitsP L := by
  have h1 : sumBy (fun p => (pPorts p).length) L ≤ sumBy mPod L := sumBy_le (fun p => by unfold mPod; rw [sum_one]; omega) L
  have h2 : sumBy (fun p => (pClaims p).length) L ≤ sumBy mPod L := sumBy_le (fun p => by unfold mPod; rw [sum_one, sum_one]; omega) L
  exact ⟨by omega, by omega⟩
set_option maxRecDepth 100000 in
/-- A struct that is handed in. -/
theorem opensM_arg {α : Type} {R : Rep α} {m : α → Nat} {t : TypeId} {fs : Array Field} (hu : Try.prog.underlying t = some (.struct fs)) (h : OpensM R m t) {H : Type} {enc : TypeId × Value → H} {W : World} {base b0 : Nat} {r : Reach} {sp : Nat → Bool} {held : Bool} {v : Value} {d : DataW H} {p : List MemPlace}
    (hv : Value.okWide Try.prog W r b0 t v) (hd : DataW.Trod enc Try.prog W base sp held t v d p) (hl : Light d t) : ∃ cs y, v = .agg cs ∧ R (fun _ => True) W cs.toList y ∧ m y ≤ Rows.uptoBulk d := by
  obtain ⟨cs, fuel, e, hf⟩ := arg_agg hu hv hd
  obtain ⟨y, hy, hm⟩ := h hf hl
  exact ⟨cs, y, e, hy, hm⟩
end Go.Proofs.Ytddeilhelkfpoaa
namespace Go.Proofs.Ytddeilhelkfpoaa
open Go.RowKit
set_option linter.unusedSimpArgs false

theorem len_sum (L : List PodD) : L.length ≤ sumBy mPod L := by
  have := sumBy_le (f := fun _ => 1) (g := mPod) (fun p => by unfold mPod; omega) L
  rwa [sum_one] at this
theorem ports_sum (L : List PodD) : sumBy (fun p => (pPorts p).length) L ≤ sumBy mPod L := sumBy_le (fun p => by unfold mPod; rw [sum_one]; omega) L
theorem claims_sum (L : List PodD) : sumBy (fun p => (pClaims p).length) L ≤ sumBy mPod L := sumBy_le (fun p => by unfold mPod; rw [sum_one, sum_one]; omega) L
/-- The lists of an info are no longer than so. -/
def Small (i : InfoD) (c : Nat) : Prop := i.2.1.length ≤ c ∧ i.2.2.2.1.length ≤ c ∧ i.2.2.2.2.length ≤ c
theorem small_of (n : NodeD) (L : List PodD) : Small (ofP n L) (sumBy mPod L) := by
  obtain ⟨h1, h2, h3⟩ := acc_len L L.length (Nat.le_refl _)
  rw [List.take_of_length_le (Nat.le_refl _)] at h1 h2 h3
  refine ⟨?_, ?_, ?_⟩
  · exact Nat.le_trans (sortB_len _ _ _) (Nat.le_trans h1 (len_sum L))
  · exact Nat.le_trans (sortB_len _ _ _) (Nat.le_trans h2 (ports_sum L))
  · exact Nat.le_trans (sortB_len _ _ _) (Nat.le_trans h3 (claims_sum L))
theorem small_add {i : InfoD} {c : Nat} (h : Small i c) (p : PodD) : Small (addP i p) (c + mPod p) := by
  obtain ⟨h1, h2, h3⟩ := h
  have e1 : (pPorts p).length ≤ mPod p := by unfold mPod; rw [sum_one]; omega
  have e2 : (pClaims p).length ≤ mPod p := by unfold mPod; rw [sum_one, sum_one]; omega
  have e3 : 1 ≤ mPod p := by unfold mPod; omega
  refine ⟨?_, ?_, ?_⟩
  · refine Nat.le_trans (sortB_len _ _ _) ?_; rw [List.length_append, List.length_singleton]; omega
  · refine Nat.le_trans (sortB_len _ _ _) ?_; rw [List.length_append]; omega
  · refine Nat.le_trans (sortB_len _ _ _) ?_; rw [List.length_append]; omega
theorem fitsA_of {i : InfoD} {c : Nat} (h : Small i c) (p : PodD) (hc : c + mPod p ≤ 8388608) : FitsA i p := by
  obtain ⟨h1, h2, h3⟩ := h
  have e1 : (pPorts p).length ≤ mPod p := by unfold mPod; rw [sum_one]; omega
  have e2 : (pClaims p).length ≤ mPod p := by unfold mPod; rw [sum_one, sum_one]; omega
  exact ⟨by omega, by omega, by omega⟩
theorem small_fold {n : NodeD} : ∀ (P : List PodD) {i : InfoD} {c : Nat}, Small i c → Small (P.foldl addP i) (c + sumBy mPod P)
  | [], i, c, h => by simpa [sumBy] using h
  | p :: P, i, c, h => by
    have := small_fold (n := n) P (small_add h p)
    rw [List.foldl_cons]
    have e : c + sumBy mPod (p :: P) = c + mPod p + sumBy mPod P := by simp only [sumBy, List.map_cons, List.sum_cons]; omega
    rw [e]; exact this
end Go.Proofs.Ytddeilhelkfpoaa
namespace Go.Proofs.Ytddeilhelkfpoaa
open Go.RowKit
set_option linter.unusedSimpArgs false

section
variable {P : Program} {md : Region.Mode} {ops : Array Oper} {Q : Exit → Act → World → Prop} {S : World → Prop} {oi oj ok : Oper} {d e f fuel : Nat} {listed : Array Bool} {a : Act} {w : World}
/-- Any of three may come up (S holds to the end). -/
theorem tc (i j k : Nat) (h : ∀ K' : Act → World → Prop, Shut (∀ v w, S w → (S w → wpAnyH P md ops Q S fuel (listed.setIfInBounds i true) (a.put (some d) v) w) → K' (a.put oi.dst v) w) → if Region.wanted oi (yielded ops a.tmps) = true then Oper.wp P oi a w K' Q else K' (a.put oi.dst undef) w)
    (h' : ∀ K' : Act → World → Prop, Shut (∀ v w, S w → (S w → wpAnyH P md ops Q S fuel (listed.setIfInBounds j true) (a.put (some e) v) w) → K' (a.put oj.dst v) w) → if Region.wanted oj (yielded ops a.tmps) = true then Oper.wp P oj a w K' Q else K' (a.put oj.dst undef) w)
    (h'' : ∀ K' : Act → World → Prop, Shut (∀ v w, S w → (S w → wpAnyH P md ops Q S fuel (listed.setIfInBounds k true) (a.put (some f) v) w) → K' (a.put ok.dst v) w) → if Region.wanted ok (yielded ops a.tmps) = true then Oper.wp P ok a w K' Q else K' (a.put ok.dst undef) w)
    (hi : ops[i]? = some oi := by rfl) (hd : oi.dst = some d := by rfl) (hj : ops[j]? = some oj := by rfl) (he : oj.dst = some e := by rfl) (hk : ops[k]? = some ok := by rfl) (hf : ok.dst = some f := by rfl) (hr : Region.ready md ops listed = [i, j, k] := by kernel_rfl) : wpAnyH P md ops Q S (fuel + 1) listed a w :=
  wpAnyH_ready hr (by simp) (AllReadyH.cons hi (fun K' hK => h K' (fun v w h1 h2 => hK.out _ w h1 (fun h3 => hd ▸ h2 h3))) (AllReadyH.cons hj (fun K' hK => h' K' (fun v w h1 h2 => hK.out _ w h1 (fun h3 => he ▸ h2 h3))) (AllReadyH.cons hk (fun K' hK => h'' K' (fun v w h1 h2 => hK.out _ w h1 (fun h3 => hf ▸ h2 h3))) AllReadyH.nil)))
end
end Go.Proofs.Ytddeilhelkfpoaa
namespace Go.Proofs.Ytddeilhelkfpoaa
open Go.RowKit
set_option linter.unusedSimpArgs false

theorem box_write {u : World} {D : Nat} {zs cs : List Value} (hb : BoxL u D zs) (hl : zs.length = cs.length) : BoxL (u.setCells D 0 cs) D cs := by
  have hth : u.there D 0 cs.length := hl ▸ hb.there
  have hr := World.rangeAt_setCells_same u D 0 cs hth
  have ht2 := World.there_setCells hth D 0 cs
  refine ⟨Nat.lt_of_lt_of_le hb.1 (kept_setCells (A := fun _ => False) (b := D) (fun h => h) (vs := cs) (o := 0) (u := u)).1, fun j v hj => ?_⟩
  have h1 := hr j v hj
  have h2 := (ht2 j (List.getElem?_eq_some_iff.1 hj).1).2
  rw [Nat.zero_add] at h1 h2
  exact ⟨h1, h2⟩
theorem InfoAt.store {A F : Where} {u : World} {cs : List Value} {x : InfoD} (h : InfoAt A F u cs x) {D : Nat} (hD : ∀ b, b < u.heap.size → (A b ∨ F b) → b ≠ D) (o : Nat) (vs : List Value) : InfoAt A F (u.setCells D o vs) cs x := by
  have h1 := h.weak (A' := fun b => A b ∧ b ≠ D) (F' := fun b => F b ∧ b ≠ D) (fun b hb ha => ⟨ha, hD b hb (.inl ha)⟩) (fun b hb hf => ⟨hf, hD b hb (.inr hf)⟩)
  exact (h1.kept (kept_setCells (fun h => h.2 rfl)) (kept_setCells (fun h => h.2 rfl))).weak (fun b _ h => h.1) (fun b _ h => h.1)
/-- An info's cells with its names' list written out. -/
theorem RInfo.lit {A : Where} {w : World} {cs : List Value} {x : InfoD} (h : RInfo A w cs x) : ∃ (c0 c1 c2 c3 c4 c5 c6 c7 c8 : Value) (a9 : Option Addr) (n9 m9 : Nat) (c10 c11 c12 c13 c14 : Value), cs = [c0, c1, c2, c3, c4, c5, c6, c7, c8, .slice a9 n9 m9, c10, c11, c12, c13, c14] ∧ SlAt RStr 1 16 A w a9 n9 m9 x.2.1 := by
  obtain ⟨_, _, ⟨a9, n9, m9⟩, _, _, rfl, _, _, _, s9, _⟩ := h.out
  exact ⟨_, _, _, _, _, _, _, _, _, a9, n9, m9, _, _, _, _, _, rfl, s9⟩
theorem RNode.lit {A : Where} {w : World} {cs : List Value} {x : NodeD} (h : RNode A w cs x) : ∃ c0 c1 c2 c3 c4 c5 c6 c7 c8 : Value, cs = [c0, c1, c2, c3, c4, c5, c6, c7, c8] := by
  obtain ⟨_, _, rfl, _⟩ := h.out
  exact ⟨_, _, _, _, _, _, _, _, _, rfl⟩
end Go.Proofs.Ytddeilhelkfpoaa
namespace Go.Proofs.Ytddeilhelkfpoaa
open Go.RowKit
set_option linter.unusedSimpArgs false

theorem infoTaint : (Try.prog.info? 82).map (fun i => (i.zero, i.size, i.bytes)) = some (some (.agg #[.string ⟨#[]⟩, .string ⟨#[]⟩, .int .i64 0]), 3, 40) := by kernel_rfl
set_option maxHeartbeats 4000000 in
theorem Node_copy (cs : List Value) (A : Where) (x : NodeD) (w : World) (h : Hid (RNode A w cs x)) : Calls Try.prog 8 #[.agg cs.toArray] w fun e w' => ∃ cs', e = .returned (.agg cs'.toArray) ∧ RNode (Fresh w) w' cs' x ∧ Below w.heap.size w w' := by
  obtain ⟨h1, ⟨a2, n2, m2⟩, rfl, p0, p1, p2⟩ := h.out.out
  simp only at p2 ⊢
  clear h
  have hb0 : Below w.heap.size w (((w.alloc (.cells #[.string x.1, .slice h1.1 h1.2.1 h1.2.2, .slice a2 n2 m2, .bool x.2.2.2.1, .int .i64 x.2.2.2.2.1.1, .int .i64 x.2.2.2.2.1.2.1, .int .i64 x.2.2.2.2.1.2.2, .int .i64 x.2.2.2.2.2.1, .int .i64 x.2.2.2.2.2.2] 27)).alloc (.cells #[.string ⟨#[]⟩, .slice none 0 0, .slice none 0 0, .bool false, .int .i64 0, .int .i64 0, .int .i64 0, .int .i64 0, .int .i64 0] 27)).alloc (.cells #[.string x.1, .slice h1.1 h1.2.1 h1.2.2, .slice a2 n2 m2, .bool x.2.2.2.1, .int .i64 x.2.2.2.2.1.1, .int .i64 x.2.2.2.2.1.2.1, .int .i64 x.2.2.2.2.1.2.2, .int .i64 x.2.2.2.2.2.1, .int .i64 x.2.2.2.2.2.2] 27)) := by go_grown
  have hB2 : BoxL (((w.alloc (.cells #[.string x.1, .slice h1.1 h1.2.1 h1.2.2, .slice a2 n2 m2, .bool x.2.2.2.1, .int .i64 x.2.2.2.2.1.1, .int .i64 x.2.2.2.2.1.2.1, .int .i64 x.2.2.2.2.1.2.2, .int .i64 x.2.2.2.2.2.1, .int .i64 x.2.2.2.2.2.2] 27)).alloc (.cells #[.string ⟨#[]⟩, .slice none 0 0, .slice none 0 0, .bool false, .int .i64 0, .int .i64 0, .int .i64 0, .int .i64 0, .int .i64 0] 27)).alloc (.cells #[.string x.1, .slice h1.1 h1.2.1 h1.2.2, .slice a2 n2 m2, .bool x.2.2.2.1, .int .i64 x.2.2.2.2.1.1, .int .i64 x.2.2.2.2.1.2.1, .int .i64 x.2.2.2.2.1.2.2, .int .i64 x.2.2.2.2.2.1, .int .i64 x.2.2.2.2.2.2] 27)) (w.heap.size + 1) [.string ⟨#[]⟩, .slice none 0 0, .slice none 0 0, .bool false, .int .i64 0, .int .i64 0, .int .i64 0, .int .i64 0, .int .i64 0] := by
    have := ((BoxL.new (w.alloc (.cells #[.string x.1, .slice h1.1 h1.2.1 h1.2.2, .slice a2 n2 m2, .bool x.2.2.2.1, .int .i64 x.2.2.2.2.1.1, .int .i64 x.2.2.2.2.1.2.1, .int .i64 x.2.2.2.2.1.2.2, .int .i64 x.2.2.2.2.2.1, .int .i64 x.2.2.2.2.2.2] 27)) 27 [.string ⟨#[]⟩, .slice none 0 0, .slice none 0 0, .bool false, .int .i64 0, .int .i64 0, .int .i64 0, .int .i64 0, .int .i64 0]).on ((Below.refl _ _).alloc (Nat.le_refl _) (.cells #[.string x.1, .slice h1.1 h1.2.1 h1.2.2, .slice a2 n2 m2, .bool x.2.2.2.1, .int .i64 x.2.2.2.2.1.1, .int .i64 x.2.2.2.2.1.2.1, .int .i64 x.2.2.2.2.1.2.2, .int .i64 x.2.2.2.2.2.1, .int .i64 x.2.2.2.2.2.2] 27)))
    simpa using this
  have hB3 : BoxL (((w.alloc (.cells #[.string x.1, .slice h1.1 h1.2.1 h1.2.2, .slice a2 n2 m2, .bool x.2.2.2.1, .int .i64 x.2.2.2.2.1.1, .int .i64 x.2.2.2.2.1.2.1, .int .i64 x.2.2.2.2.1.2.2, .int .i64 x.2.2.2.2.2.1, .int .i64 x.2.2.2.2.2.2] 27)).alloc (.cells #[.string ⟨#[]⟩, .slice none 0 0, .slice none 0 0, .bool false, .int .i64 0, .int .i64 0, .int .i64 0, .int .i64 0, .int .i64 0] 27)).alloc (.cells #[.string x.1, .slice h1.1 h1.2.1 h1.2.2, .slice a2 n2 m2, .bool x.2.2.2.1, .int .i64 x.2.2.2.2.1.1, .int .i64 x.2.2.2.2.1.2.1, .int .i64 x.2.2.2.2.1.2.2, .int .i64 x.2.2.2.2.2.1, .int .i64 x.2.2.2.2.2.2] 27)) (w.heap.size + 1 + 1) [.string x.1, .slice h1.1 h1.2.1 h1.2.2, .slice a2 n2 m2, .bool x.2.2.2.1, .int .i64 x.2.2.2.2.1.1, .int .i64 x.2.2.2.2.1.2.1, .int .i64 x.2.2.2.2.1.2.2, .int .i64 x.2.2.2.2.2.1, .int .i64 x.2.2.2.2.2.2] := by
    have := BoxL.new ((w.alloc (.cells #[.string x.1, .slice h1.1 h1.2.1 h1.2.2, .slice a2 n2 m2, .bool x.2.2.2.1, .int .i64 x.2.2.2.2.1.1, .int .i64 x.2.2.2.2.1.2.1, .int .i64 x.2.2.2.2.1.2.2, .int .i64 x.2.2.2.2.2.1, .int .i64 x.2.2.2.2.2.2] 27)).alloc (.cells #[.string ⟨#[]⟩, .slice none 0 0, .slice none 0 0, .bool false, .int .i64 0, .int .i64 0, .int .i64 0, .int .i64 0, .int .i64 0] 27)) 27 [.string x.1, .slice h1.1 h1.2.1 h1.2.2, .slice a2 n2 m2, .bool x.2.2.2.1, .int .i64 x.2.2.2.2.1.1, .int .i64 x.2.2.2.2.1.2.1, .int .i64 x.2.2.2.2.1.2.2, .int .i64 x.2.2.2.2.2.1, .int .i64 x.2.2.2.2.2.2]
    simpa using this
  have hB1 : BoxL (((w.alloc (.cells #[.string x.1, .slice h1.1 h1.2.1 h1.2.2, .slice a2 n2 m2, .bool x.2.2.2.1, .int .i64 x.2.2.2.2.1.1, .int .i64 x.2.2.2.2.1.2.1, .int .i64 x.2.2.2.2.1.2.2, .int .i64 x.2.2.2.2.2.1, .int .i64 x.2.2.2.2.2.2] 27)).alloc (.cells #[.string ⟨#[]⟩, .slice none 0 0, .slice none 0 0, .bool false, .int .i64 0, .int .i64 0, .int .i64 0, .int .i64 0, .int .i64 0] 27)).alloc (.cells #[.string x.1, .slice h1.1 h1.2.1 h1.2.2, .slice a2 n2 m2, .bool x.2.2.2.1, .int .i64 x.2.2.2.2.1.1, .int .i64 x.2.2.2.2.1.2.1, .int .i64 x.2.2.2.2.1.2.2, .int .i64 x.2.2.2.2.2.1, .int .i64 x.2.2.2.2.2.2] 27)) w.heap.size [.string x.1, .slice h1.1 h1.2.1 h1.2.2, .slice a2 n2 m2, .bool x.2.2.2.1, .int .i64 x.2.2.2.2.1.1, .int .i64 x.2.2.2.2.1.2.1, .int .i64 x.2.2.2.2.1.2.2, .int .i64 x.2.2.2.2.2.1, .int .i64 x.2.2.2.2.2.2] := (BoxL.new w 27 [.string x.1, .slice h1.1 h1.2.1 h1.2.2, .slice a2 n2 m2, .bool x.2.2.2.1, .int .i64 x.2.2.2.2.1.1, .int .i64 x.2.2.2.2.1.2.1, .int .i64 x.2.2.2.2.1.2.2, .int .i64 x.2.2.2.2.2.1, .int .i64 x.2.2.2.2.2.2]).on (((Below.refl _ _).alloc (Nat.le_refl _) (.cells #[.string ⟨#[]⟩, .slice none 0 0, .slice none 0 0, .bool false, .int .i64 0, .int .i64 0, .int .i64 0, .int .i64 0, .int .i64 0] 27)).alloc (by simp) (.cells #[.string x.1, .slice h1.1 h1.2.1 h1.2.2, .slice a2 n2 m2, .bool x.2.2.2.1, .int .i64 x.2.2.2.2.1.1, .int .i64 x.2.2.2.2.1.2.1, .int .i64 x.2.2.2.2.1.2.2, .int .i64 x.2.2.2.2.2.1, .int .i64 x.2.2.2.2.2.2] 27))
  have hC := Labels_copy h1.1 h1.2.1 h1.2.2 A x.2.1 (((w.alloc (.cells #[.string x.1, .slice h1.1 h1.2.1 h1.2.2, .slice a2 n2 m2, .bool x.2.2.2.1, .int .i64 x.2.2.2.2.1.1, .int .i64 x.2.2.2.2.1.2.1, .int .i64 x.2.2.2.2.1.2.2, .int .i64 x.2.2.2.2.2.1, .int .i64 x.2.2.2.2.2.2] 27)).alloc (.cells #[.string ⟨#[]⟩, .slice none 0 0, .slice none 0 0, .bool false, .int .i64 0, .int .i64 0, .int .i64 0, .int .i64 0, .int .i64 0] 27)).alloc (.cells #[.string x.1, .slice h1.1 h1.2.1 h1.2.2, .slice a2 n2 m2, .bool x.2.2.2.1, .int .i64 x.2.2.2.2.1.1, .int .i64 x.2.2.2.2.1.2.1, .int .i64 x.2.2.2.2.1.2.2, .int .i64 x.2.2.2.2.2.1, .int .i64 x.2.2.2.2.2.2] 27)) (SlAt.on RLabel.firm p1 hb0)
  obtain ⟨W3, hW3⟩ : ∃ W3, W3 = (((w.alloc (.cells #[.string x.1, .slice h1.1 h1.2.1 h1.2.2, .slice a2 n2 m2, .bool x.2.2.2.1, .int .i64 x.2.2.2.2.1.1, .int .i64 x.2.2.2.2.1.2.1, .int .i64 x.2.2.2.2.1.2.2, .int .i64 x.2.2.2.2.2.1, .int .i64 x.2.2.2.2.2.2] 27)).alloc (.cells #[.string ⟨#[]⟩, .slice none 0 0, .slice none 0 0, .bool false, .int .i64 0, .int .i64 0, .int .i64 0, .int .i64 0, .int .i64 0] 27)).alloc (.cells #[.string x.1, .slice h1.1 h1.2.1 h1.2.2, .slice a2 n2 m2, .bool x.2.2.2.1, .int .i64 x.2.2.2.2.1.1, .int .i64 x.2.2.2.2.1.2.1, .int .i64 x.2.2.2.2.1.2.2, .int .i64 x.2.2.2.2.2.1, .int .i64 x.2.2.2.2.2.2] 27)) := ⟨_, rfl⟩
  have hsz : Hid (W3.heap.size = w.heap.size + 1 + 1 + 1) := by rw [Hid, hW3]; simp
  go_enter Try.func8, Try.ntmps8
  go_wp2_with fail
  rw [← hW3] at hb0 hB1 hB2 hB3 hC ⊢
  clear hW3
  refine hC.mono ?_
  rintro e w4 ⟨a4, c4, rfl, hS4, hb4⟩
  clear hC
  have hsz4 : w.heap.size + 1 + 1 + 1 ≤ w4.heap.size := by have := hb4.size; rw [hsz.out] at this; exact this
  have hne0 : w.heap.size ≠ w4.heap.size := by omega
  have hne1 : w.heap.size + 1 ≠ w4.heap.size := by omega
  have hne2 : w.heap.size + 1 + 1 ≠ w4.heap.size := by omega
  have hlt0 : w.heap.size < w4.heap.size := by omega
  obtain ⟨c1_2, _⟩ := (hB1.on hb4).2 2 _ rfl
  have k2 := hB2.on hb4
  have k3 := hB3.on hb4
  have HW := hsz
  have hS4' : Hid (SlAt RLabel 2 32 (Fresh W3) w4 a4 h1.2.1 c4 x.2.1) := hS4
  clear hsz hS4 hB1 hB2 hB3
  have k2' : BoxL (w4.setCell ⟨w.heap.size + 1 + 1, 1, none⟩ (.slice a4 h1.2.1 c4)) (w.heap.size + 1) [.string ⟨#[]⟩, .slice none 0 0, .slice none 0 0, .bool false, .int .i64 0, .int .i64 0, .int .i64 0, .int .i64 0, .int .i64 0] := k2.other (by simp) _
  have k3' : BoxL (w4.setCell ⟨w.heap.size + 1 + 1, 1, none⟩ (.slice a4 h1.2.1 c4)) (w.heap.size + 1 + 1) [.string x.1, .slice a4 h1.2.1 c4, .slice a2 n2 m2, .bool x.2.2.2.1, .int .i64 x.2.2.2.2.1.1, .int .i64 x.2.2.2.2.1.2.1, .int .i64 x.2.2.2.2.1.2.2, .int .i64 x.2.2.2.2.2.1, .int .i64 x.2.2.2.2.2.2] := k3.set 1 _ (by simp)
  have K2 : Hid (BoxL (w4.setCell ⟨w.heap.size + 1 + 1, 1, none⟩ (.slice a4 h1.2.1 c4)) (w.heap.size + 1) [.string ⟨#[]⟩, .slice none 0 0, .slice none 0 0, .bool false, .int .i64 0, .int .i64 0, .int .i64 0, .int .i64 0, .int .i64 0]) := k2'
  have K3 : Hid (BoxL (w4.setCell ⟨w.heap.size + 1 + 1, 1, none⟩ (.slice a4 h1.2.1 c4)) (w.heap.size + 1 + 1) [.string x.1, .slice a4 h1.2.1 c4, .slice a2 n2 m2, .bool x.2.2.2.1, .int .i64 x.2.2.2.2.1.1, .int .i64 x.2.2.2.2.1.2.1, .int .i64 x.2.2.2.2.1.2.2, .int .i64 x.2.2.2.2.2.1, .int .i64 x.2.2.2.2.2.2]) := k3'
  have hbU : Below w.heap.size w ((w4.setCell ⟨w.heap.size + 1 + 1, 1, none⟩ (.slice a4 h1.2.1 c4)).alloc (.cells #[] 82)) := ((on2 hb0 hb4).setCell (by simp <;> omega) _).alloc (by simp; omega) _
  obtain ⟨c3_1, f3_1⟩ := k3.2 1 _ rfl
  clear k2 k3 k2' k3'
  match a2 with
  | none =>
    obtain ⟨rfl, rfl, hnil⟩ := sl_none p2
    have hbn : Below (w4.setCell ⟨w.heap.size + 1 + 1, 1, none⟩ (.slice a4 h1.2.1 c4)).heap.size (w4.setCell ⟨w.heap.size + 1 + 1, 1, none⟩ (.slice a4 h1.2.1 c4)) ((w4.setCell ⟨w.heap.size + 1 + 1, 1, none⟩ (.slice a4 h1.2.1 c4)).alloc (.cells #[] 82)) := (Below.refl _ _).alloc (Nat.le_refl _) _
    have q2 := K2.out.on hbn
    have q3 := K3.out.on hbn
    clear K2 K3
    obtain ⟨c2_0, f2_0⟩ := q2.2 0 _ rfl
    obtain ⟨c2_1, f2_1⟩ := q2.2 1 _ rfl
    obtain ⟨c2_2, f2_2⟩ := q2.2 2 _ rfl
    obtain ⟨c2_3, f2_3⟩ := q2.2 3 _ rfl
    obtain ⟨c2_4, f2_4⟩ := q2.2 4 _ rfl
    obtain ⟨c2_5, f2_5⟩ := q2.2 5 _ rfl
    obtain ⟨c2_6, f2_6⟩ := q2.2 6 _ rfl
    obtain ⟨c2_7, f2_7⟩ := q2.2 7 _ rfl
    obtain ⟨c2_8, f2_8⟩ := q2.2 8 _ rfl
    obtain ⟨c3_0, f3_0⟩ := q3.2 0 _ rfl
    obtain ⟨c3_1, f3_1⟩ := q3.2 1 _ rfl
    obtain ⟨c3_2, f3_2⟩ := q3.2 2 _ rfl
    obtain ⟨c3_3, f3_3⟩ := q3.2 3 _ rfl
    obtain ⟨c3_4, f3_4⟩ := q3.2 4 _ rfl
    obtain ⟨c3_5, f3_5⟩ := q3.2 5 _ rfl
    obtain ⟨c3_6, f3_6⟩ := q3.2 6 _ rfl
    obtain ⟨c3_7, f3_7⟩ := q3.2 7 _ rfl
    obtain ⟨c3_8, f3_8⟩ := q3.2 8 _ rfl
    clear q2 q3
    have hS5' : Hid (SlAt RTaint 3 40 (Fresh (w4.setCell ⟨w.heap.size + 1 + 1, 1, none⟩ (.slice a4 h1.2.1 c4))) ((w4.setCell ⟨w.heap.size + 1 + 1, 1, none⟩ (.slice a4 h1.2.1 c4)).alloc (.cells #[] 82)) (some ⟨w4.heap.size, 0, none⟩) 0 0 x.2.2.1) := by rw [hnil]; exact SlAt.nil _ _ _ _ (fun h => by cases h)
    go_wp2_with fail
    refine bodyPost_ret (v := .agg #[.string x.1, .slice a4 h1.2.1 c4, .slice (some ⟨w4.heap.size, 0, none⟩) 0 0, .bool x.2.2.2.1, .int .i64 x.2.2.2.2.1.1, .int .i64 x.2.2.2.2.1.2.1, .int .i64 x.2.2.2.2.1.2.2, .int .i64 x.2.2.2.2.2.1, .int .i64 x.2.2.2.2.2.2]) (by simp [results, Try.results8, go_sem, c2_0, c2_1, c2_2, c2_3, c2_4, c2_5, c2_6, c2_7, c2_8, c3_0, c3_1, c3_2, c3_3, c3_4, c3_5, c3_6, c3_7, c3_8]) rfl ⟨[.string x.1, .slice a4 h1.2.1 c4, .slice (some ⟨w4.heap.size, 0, none⟩) 0 0, .bool x.2.2.2.1, .int .i64 x.2.2.2.2.1.1, .int .i64 x.2.2.2.2.1.2.1, .int .i64 x.2.2.2.2.1.2.2, .int .i64 x.2.2.2.2.2.1, .int .i64 x.2.2.2.2.2.2], rfl, ?_, ?_⟩
    · have hS4 := hS4'.out
      have hS5 := hS5'.out
      have hsW := HW.out
      refine RNode.mk (h1 := (a4, h1.2.1, c4)) (h2 := ((some ⟨w4.heap.size, 0, none⟩ : Option Addr), 0, 0)) p0 (SlAt.weak RLabel.firm (A := Fresh W3) (SlAt.kept RLabel.firm hS4 ?kp) (fun b _ hb => show w.heap.size ≤ b by have hb1 : W3.heap.size ≤ b := hb; have := hb0.size; omega)) (SlAt.weak RTaint.firm (A := Fresh (w4.setCell ⟨w.heap.size + 1 + 1, 1, none⟩ (.slice a4 h1.2.1 c4))) (SlAt.kept RTaint.firm hS5 ?kq) (fun b _ hb => show w.heap.size ≤ b by have hb1 : (w4.setCell ⟨w.heap.size + 1 + 1, 1, none⟩ (.slice a4 h1.2.1 c4)).heap.size ≤ b := hb; simp at hb1; omega))
      case kp =>
        repeat (refine Kept.trans ?_ (Kept.set (Fresh.not (by simp <;> omega)) _))
        exact (Kept.set (Fresh.not (by simp <;> omega)) _).trans (Kept.below hbn)
      case kq =>
        repeat (refine Kept.trans ?_ (Kept.set (Fresh.not (by simp <;> omega)) _))
        exact Kept.refl _ _
    · repeat (refine Below.setCell ?_ (by simp <;> omega) _)
      exact on2 ((on2 hb0 hb4).setCell (by simp <;> omega) _) hbn
  | some ad =>
    obtain ⟨xs, hc, hcell, hone⟩ := (p2.on RTaint.firm hbU).chunks RTaint.firm
    have hn := p2.1
    have hbb := p2.2.2.2.1
    subst hn
    have HR : Hid (Row RTaint 3 (Fresh (w4.setCell ⟨w.heap.size + 1 + 1, 1, none⟩ (.slice a4 h1.2.1 c4))) (w4.setCell ⟨w.heap.size + 1 + 1, 1, none⟩ (.slice a4 h1.2.1 c4)) ((w4.setCell ⟨w.heap.size + 1 + 1, 1, none⟩ (.slice a4 h1.2.1 c4)).alloc (.cells #[] 82)) 82 (.slice (some ⟨w4.heap.size, 0, none⟩) 0 0) []) := by
      have := Row.start (R := RTaint) (k := 3) (Fresh (w4.setCell ⟨w.heap.size + 1 + 1, 1, none⟩ (.slice a4 h1.2.1 c4))) (w4.setCell ⟨w.heap.size + 1 + 1, 1, none⟩ (.slice a4 h1.2.1 c4)) (w4.setCell ⟨w.heap.size + 1 + 1, 1, none⟩ (.slice a4 h1.2.1 c4)) 82 (Below.refl _ _)
      unfold Hid
      simpa using this
    have HC : Hid (Chunks RTaint 3 (fun b => Fresh (w4.setCell ⟨w.heap.size + 1 + 1, 1, none⟩ (.slice a4 h1.2.1 c4)) b ∧ Value.ownBlock (.slice (some ⟨w4.heap.size, 0, none⟩) 0 0) ≠ some b) ((w4.setCell ⟨w.heap.size + 1 + 1, 1, none⟩ (.slice a4 h1.2.1 c4)).alloc (.cells #[] 82)) xs x.2.2.1) := hc.flat RTaint.flat
    have HX : Hid (∀ j y, xs[j]? = some y → ((w4.setCell ⟨w.heap.size + 1 + 1, 1, none⟩ (.slice a4 h1.2.1 c4)).alloc (.cells #[] 82)).cell? (ad.add j) = some y) := hcell
    have HO : Hid (∀ y ∈ xs, y.oneCell' = true) := hone
    clear hc hcell hone
    have HBB : Hid (x.2.2.1.length * 40 ≤ 140737488351232) := hbb
    go_wp2_with (at_builtin; go_must (refine row_append RTaint.firm (A := Fresh (w4.setCell ⟨w.heap.size + 1 + 1, 1, none⟩ (.slice a4 h1.2.1 c4))) (w0 := (w4.setCell ⟨w.heap.size + 1 + 1, 1, none⟩ (.slice a4 h1.2.1 c4))) rfl _ _ 23 82 rfl _ 40 infoTaint Try.underlying23 rfl (by decide) (by decide) _ [] rfl HR.out ad x.2.2.1.length m2 xs x.2.2.1 rfl rfl HC.out HX.out HO.out (by have := HBB.out; simp; omega) ?_); intro v5 w5 hrow5 hg5; obtain ⟨a5, c5, rfl, hS5⟩ := hrow5.slF (bytes := 40) RTaint.firm (by simpa using HBB.out); have hb5 := hrow5.below; have q2 := K2.out.on hb5; have q3 := K3.out.on hb5; clear c3_1 f3_1; obtain ⟨c2_0, f2_0⟩ := q2.2 0 _ rfl; obtain ⟨c2_1, f2_1⟩ := q2.2 1 _ rfl; obtain ⟨c2_2, f2_2⟩ := q2.2 2 _ rfl; obtain ⟨c2_3, f2_3⟩ := q2.2 3 _ rfl; obtain ⟨c2_4, f2_4⟩ := q2.2 4 _ rfl; obtain ⟨c2_5, f2_5⟩ := q2.2 5 _ rfl; obtain ⟨c2_6, f2_6⟩ := q2.2 6 _ rfl; obtain ⟨c2_7, f2_7⟩ := q2.2 7 _ rfl; obtain ⟨c2_8, f2_8⟩ := q2.2 8 _ rfl; obtain ⟨c3_0, f3_0⟩ := q3.2 0 _ rfl; obtain ⟨c3_1, f3_1⟩ := q3.2 1 _ rfl; obtain ⟨c3_2, f3_2⟩ := q3.2 2 _ rfl; obtain ⟨c3_3, f3_3⟩ := q3.2 3 _ rfl; obtain ⟨c3_4, f3_4⟩ := q3.2 4 _ rfl; obtain ⟨c3_5, f3_5⟩ := q3.2 5 _ rfl; obtain ⟨c3_6, f3_6⟩ := q3.2 6 _ rfl; obtain ⟨c3_7, f3_7⟩ := q3.2 7 _ rfl; obtain ⟨c3_8, f3_8⟩ := q3.2 8 _ rfl; clear q2 q3 hrow5 hg5; simp only [List.nil_append] at hS5 ⊢)
    have hS5' : Hid (SlAt RTaint 3 40 (Fresh (w4.setCell ⟨w.heap.size + 1 + 1, 1, none⟩ (.slice a4 h1.2.1 c4))) w5 a5 x.2.2.1.length c5 x.2.2.1) := hS5
    clear hS5
    refine bodyPost_ret (v := .agg #[.string x.1, .slice a4 h1.2.1 c4, .slice a5 x.2.2.1.length c5, .bool x.2.2.2.1, .int .i64 x.2.2.2.2.1.1, .int .i64 x.2.2.2.2.1.2.1, .int .i64 x.2.2.2.2.1.2.2, .int .i64 x.2.2.2.2.2.1, .int .i64 x.2.2.2.2.2.2]) (by simp [results, Try.results8, go_sem, c2_0, c2_1, c2_2, c2_3, c2_4, c2_5, c2_6, c2_7, c2_8, c3_0, c3_1, c3_2, c3_3, c3_4, c3_5, c3_6, c3_7, c3_8]) rfl ⟨[.string x.1, .slice a4 h1.2.1 c4, .slice a5 x.2.2.1.length c5, .bool x.2.2.2.1, .int .i64 x.2.2.2.2.1.1, .int .i64 x.2.2.2.2.1.2.1, .int .i64 x.2.2.2.2.1.2.2, .int .i64 x.2.2.2.2.2.1, .int .i64 x.2.2.2.2.2.2], rfl, ?_, ?_⟩
    · have hS4 := hS4'.out
      have hS5 := hS5'.out
      have hsW := HW.out
      refine RNode.mk (h1 := (a4, h1.2.1, c4)) (h2 := (a5, x.2.2.1.length, c5)) p0 (SlAt.weak RLabel.firm (A := Fresh W3) (SlAt.kept RLabel.firm hS4 ?kp) (fun b _ hb => show w.heap.size ≤ b by have hb1 : W3.heap.size ≤ b := hb; have := hb0.size; omega)) (SlAt.weak RTaint.firm (A := Fresh (w4.setCell ⟨w.heap.size + 1 + 1, 1, none⟩ (.slice a4 h1.2.1 c4))) (SlAt.kept RTaint.firm hS5 ?kq) (fun b _ hb => show w.heap.size ≤ b by have hb1 : (w4.setCell ⟨w.heap.size + 1 + 1, 1, none⟩ (.slice a4 h1.2.1 c4)).heap.size ≤ b := hb; simp at hb1; omega))
      case kp =>
        repeat (refine Kept.trans ?_ (Kept.set (Fresh.not (by simp <;> omega)) _))
        exact (Kept.set (Fresh.not (by simp <;> omega)) _).trans (Kept.below hb5)
      case kq =>
        repeat (refine Kept.trans ?_ (Kept.set (Fresh.not (by simp <;> omega)) _))
        exact Kept.refl _ _
    · repeat (refine Below.setCell ?_ (by simp <;> omega) _)
      exact on2 ((on2 hb0 hb4).setCell (by simp <;> omega) _) hb5
end Go.Proofs.Ytddeilhelkfpoaa
namespace Go.Proofs.Ytddeilhelkfpoaa
open Go.RowKit
set_option linter.unusedSimpArgs false

theorem put_none (a : Act) (v : Value) : a.put none v = a := rfl
theorem sizeInfo : (Try.prog.info? 41).map (·.size) = some 15 := by kernel_rfl
theorem sizeNode : (Try.prog.info? 27).map (·.size) = some 9 := by kernel_rfl
/-- Blocks from lo up to hi. -/
def Seg (lo hi : Nat) : Where := fun b => lo ≤ b ∧ b < hi
/-- An info in a block of its own, its lists from lo up to hi, all since w7, and the block none of the lists'. -/
structure Spl (A : Where) (w7 u : World) (D : Nat) (cs : List Value) (lo hi : Nat) (x : InfoD) : Prop where
  box : BoxL u D cs
  inf : InfoAt A (Seg lo hi) u cs x
  thr : ThrL u cs
  bel : Below w7.heap.size w7 u
  glo : w7.heap.size ≤ lo
  ghi : hi ≤ u.heap.size
  gD : w7.heap.size ≤ D
  nD : ¬ Seg lo hi D
theorem ThrL.on {u u' : World} {cs : List Value} (h : ThrL u cs) (hb : Below u.heap.size u u') : ThrL u' cs := fun v hv a n c e => (h v hv a n c e).on hb
theorem Spl.on {A : Where} {w7 u u' : World} {D : Nat} {cs : List Value} {lo hi : Nat} {x : InfoD} (h : Spl A w7 u D cs lo hi x) (hb : Below u.heap.size u u') : Spl A w7 u' D cs lo hi x :=
  ⟨h.box.on hb, h.inf.on hb, h.thr.on hb, on2 h.bel hb, h.glo, Nat.le_trans h.ghi hb.size, h.gD, h.nD⟩
theorem spl_mk {w w7 u : World} {D : Nat} {lst zs : List Value} {lo hi : Nat} {x : InfoD} (hz : BoxL u D zs) (hi0 : InfoAt (fun b => b < w.heap.size) (Seg lo hi) u lst x) (ht : ThrL u lst) (hb : Below w7.heap.size w7 u) (hw : w.heap.size ≤ D) (gD : w7.heap.size ≤ D) (glo : w7.heap.size ≤ lo) (ghi : hi ≤ u.heap.size) (nD : ¬ Seg lo hi D) (hl : zs.length = lst.length) : Spl (fun b => b < w.heap.size) w7 (u.setCells D 0 lst) D lst lo hi x := by
  refine ⟨box_write hz hl, hi0.store (fun b _ h => ?_) 0 lst, fun v hv a n c e => (ht v hv a n c e).cells _ _ _, below_setCells hb gD, glo, Nat.le_trans ghi (kept_setCells (A := fun _ => False) (b := D) (fun h => h) (vs := lst) (o := 0) (u := u)).1, gD, nD⟩
  rcases h with h | h
  · have h1 : b < w.heap.size := h; omega
  · rintro rfl; exact nD h
theorem spl_store {w7 u : World} {D D2 : Nat} {lst : List Value} {lo hi : Nat} {x : InfoD} (h : Spl (fun b => b < w7.heap.size) w7 u D lst lo hi x) (g2 : w7.heap.size ≤ D2) (hne : D2 ≠ D) (n2 : ¬ Seg lo hi D2) (vs : List Value) : Spl (fun b => b < w7.heap.size) w7 (u.setCells D2 0 vs) D lst lo hi x := by
  refine ⟨h.box.kept (A := fun b => b ≠ D2) (kept_setCells (fun h => h rfl)) (fun e => hne e.symm), h.inf.store (fun b _ hb => ?_) 0 vs, fun v hv a n c e => (h.thr v hv a n c e).cells _ _ _, below_setCells h.bel g2, h.glo, Nat.le_trans h.ghi (kept_setCells (A := fun _ => False) (b := D2) (fun h => h) (vs := vs) (o := 0) (u := u)).1, h.gD, h.nD⟩
  rcases hb with hb | hb
  · have h1 : b < w7.heap.size := hb; omega
  · rintro rfl; exact n2 hb
theorem thr_kept {α : Type} [Inhabited α] {R : Rep α} {bytes : Nat} {F : Where} {u u' : World} {a : Option Addr} {n c : Nat} {L : List α} (hs : SlAt R 1 bytes F u a n c L) (h : Thr u a n) (hk : Kept F u u') : Thr u' a n := by
  rcases Nat.eq_zero_or_pos n with rfl | h0
  · exact fun B off e j hj => absurd hj (Nat.not_lt_zero j)
  · obtain ⟨B, off, rfl, _, hA, _⟩ := hs.2.2.2.2 h0
    exact h.kept hk (fun B' off' e => by injection e with e; injection e with e; subst e; exact hA)
theorem ThrL.kept {A F : Where} {u u' : World} {cs : List Value} {x : InfoD} (h : ThrL u cs) (hi : InfoAt A F u cs x) (hk : Kept F u u') : ThrL u' cs := by
  obtain ⟨c, d, rfl, hc, hd⟩ := hi
  obtain ⟨_, _, rfl, _⟩ := hc.out
  obtain ⟨d1, d2, rfl, ⟨a9, n9, m9, rfl, s9⟩, ⟨d3, d4, rfl, hd3, ⟨d5, d6, rfl, ⟨a13, n13, m13, rfl, s13⟩, ⟨a14, n14, m14, rfl, s14⟩⟩⟩⟩ := hd
  have e3 := RRes.out hd3
  subst e3
  exact thrL3 (thr_kept s9 (h (.slice a9 n9 m9) (by simp) _ _ _ rfl) hk) (thr_kept s13 (h (.slice a13 n13 m13) (by simp) _ _ _ rfl) hk) (thr_kept s14 (h (.slice a14 n14 m14) (by simp) _ _ _ rfl) hk)
theorem spoilt_box {u u' : World} {D lo hi : Nat} {cs : List Value} (h : BoxL u D cs) (hk : Turned (Seg lo hi) u u') (hD : ¬ Seg lo hi D) : BoxL u' D cs := h.kept hk.1 hD
theorem spoilt_info {A F : Where} {u u' : World} {cs : List Value} {x : InfoD} {lo hi : Nat} (h : InfoAt A F u cs x) (hk : Turned (Seg lo hi) u u') (hA : ∀ b, A b → b < lo) (hF : ∀ b, F b → b < lo) : InfoAt A F u' cs x :=
  h.kept (hk.1.weak (fun b hb h => absurd h.1 (Nat.not_le.2 (hA b hb)))) (hk.1.weak (fun b hb h => absurd h.1 (Nat.not_le.2 (hF b hb))))
theorem spoilt_all {A : Where} {u u' : World} {D lo2 hi2 lo hi : Nat} {cs : List Value} {x : InfoD} (hb : BoxL u D cs) (hi0 : InfoAt A (Seg lo2 hi2) u cs x) (ht : ThrL u cs) (hk : Turned (Seg lo hi) u u') (hA : ∀ b, A b → b < lo) (hap : hi ≤ lo2) (hD : hi ≤ D) : BoxL u' D cs ∧ InfoAt A (Seg lo2 hi2) u' cs x ∧ ThrL u' cs := by
  have k2 : Kept (Seg lo2 hi2) u u' := hk.1.weak (fun b hb h => by have h1 := hb.1; have h2 := h.2; omega)
  exact ⟨hb.kept hk.1 (fun h => by have h1 := h.2; omega), hi0.kept (hk.1.weak (fun b hb h => absurd h.1 (Nat.not_le.2 (hA b hb)))) k2, ht.kept hi0 k2⟩
end Go.Proofs.Ytddeilhelkfpoaa
