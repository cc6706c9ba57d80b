/- Arguments as they come in, with a bound on what they hold: no more than the reading's bulk. No condition beyond the row's own reach. Arguments of layer 14 as they come in, lists with a bound on their number. No condition beyond the row's own reach. What is done, act by act, as it comes in. No condition beyond the row's own reach. Texts sorted, each once: what is sorted hangs on what there is alone. Plain mathematics. No condition. base.Among: which number it is. Condition: the second number is above 0, and no greater than a length can be. A queue and a list of names beside it, while acts are done. Plain facts on worlds. No condition. -/
import Derived.Test.YtpombhiffpbedaaW01
import Derived.Test.YtpombhiffpbedaaRows
import Derived.Test.YtpombhiffpbedaaQ09
import Derived.Test.YtpombhiffpbedaaQ02
import Derived.Test.YtpombhiffpbedaaQ01
import Derived.Test.YtpombhiffpbedaaQ18
namespace Go.Proofs.Ytpombhiffpbedaa
open Go.ChangeShapes Go.WideShapes Go.ChangeAt Go.RowKit
set_option linter.unusedSimpArgs false

/-- What is read as of that type lies as said, and is no greater than its bulk. -/
def OpensM {α : Type} (R : Rep α) (m : α → Nat) (t : TypeId) : Prop :=
  ∀ {H : Type} {enc : TypeId × Value → H} {W : World} {base n : Nat} {sp : Nat → Bool} {held : Bool} {cs : List Value} {x : DataW H × List MemPlace},
    DataW.trod enc Try.prog W base sp held n t cs = some x → Light x.1 t → ∃ y, R (fun _ => True) W cs y ∧ m y ≤ Rows.uptoBulk x.1
theorem bulk_pos {H : Type} (d : DataW H) : 1 ≤ Rows.uptoBulk d := by
  match d with
  | .lit l => cases l <;> simp [Rows.uptoBulk]
  | .nil => simp [Rows.uptoBulk]
  | .ptr _ => simp [Rows.uptoBulk]
  | .slice _ _ => simp [Rows.uptoBulk]
  | .agg _ => simp [Rows.uptoBulk]
  | .iface _ _ => simp [Rows.uptoBulk]
  | .map _ => simp [Rows.uptoBulk]
  | .held _ => simp [Rows.uptoBulk]
theorem Opens.m {α : Type} {R : Rep α} {t : TypeId} (h : Opens R t) : OpensM R (fun _ => 1) t := by
  intro H enc W base n sp held cs x hx hl
  obtain ⟨y, hy⟩ := h hx hl
  exact ⟨y, hy, bulk_pos _⟩
theorem sum_bulk {α H : Type} (m : α → Nat) (f : Nat → α) (D : Nat → DataW H) : ∀ l : List Nat, (∀ i ∈ l, m (f i) ≤ Rows.uptoBulk (D i)) → sumBy m (l.map f) ≤ Rows.uptoBulkAll (l.map D)
  | [], _ => by simp [sumBy, Rows.uptoBulkAll]
  | i :: l, h => by
    have := sum_bulk m f D l (fun j hj => h j (List.mem_cons_of_mem _ hj))
    have h0 := h i List.mem_cons_self
    simp only [sumBy, List.map_cons, List.sum_cons, Rows.uptoBulkAll] at this ⊢
    omega
theorem opensM_slice {α : Type} [Inhabited α] {R : Rep α} {m : α → Nat} {k bytes : Nat} {t e : TypeId} (hR : Firm R k) (hu : Try.prog.underlying t = some (.slice e)) (ck : Try.prog.cellsOf e = k) (bk : Try.prog.bytesOf e = bytes) (hk0 : 0 < k) (hE : OpensM R m e) : OpensM (RSl R k bytes) (sumBy m) t := by
  intro H enc W base n sp held cs x h hl
  rcases Go.Deep.open_slice hu h with ⟨hv, _⟩ | ⟨a, len, cap, mm, nn, D, Pl, hv, _, hlc, _, hm, rfl, hel⟩
  · exact ⟨[], ⟨none, 0, 0, hv, SlAt.nil _ _ _ _ (fun _ => rfl)⟩, by simp [sumBy]⟩
  · obtain ⟨w1, w2⟩ := light_slice hu hl
    simp only [List.length_map, List.length_range, bk] at w1
    have hml : len ≤ mm := by rw [hm]; split <;> omega
    rw [ck] at hel
    have each : ∀ i, i < len → ∃ y : α, (∃ cs, R (fun _ => True) W cs y ∧ ∀ j u, cs[j]? = some u → W.cell? ((a.add (i * k)).add j) = some u) ∧ m y ≤ Rows.uptoBulk (D i) := fun i hi => by
      obtain ⟨cs', h1, h2⟩ := hel i (by omega)
      obtain ⟨y, hy, hm⟩ := hE h2 (w2 _ (List.mem_map.2 ⟨i, List.mem_range.2 hi, rfl⟩))
      obtain ⟨_, _, hcell⟩ := World.cells?_some h1
      refine ⟨y, ⟨cs', hy, fun j u hj => ?_⟩, hm⟩
      have hjk : j < k := by
        have := (List.getElem?_eq_some_iff.1 hj).1
        rwa [hR.len hy] at this
      rw [hcell j hjk, hj]
    obtain ⟨f, hf⟩ := Go.Deep.choose_lt each
    refine ⟨(List.range len).map f, ⟨some a, len, cap, hv, by simp, hlc, (fun h => by cases h), w1, fun hpos => ?_⟩, ?_⟩
    · obtain ⟨B, off, spot⟩ := a
      obtain ⟨cs0, hr0, hc0⟩ := (hf 0 hpos).1
      have hex : ∃ u, cs0[0]? = some u := by
        cases e : cs0 with
        | nil => have := hR.len hr0; rw [e] at this; simp at this; omega
        | cons u r => exact ⟨u, rfl⟩
      obtain ⟨u0, hu0⟩ := hex
      have hc0 := hc0 0 u0 hu0
      have hsp : spot = none := by
        have := World.cell?_spot hc0
        simpa [Addr.add] using this
      subst hsp
      rw [add_lit, add_lit] at hc0
      refine ⟨B, off, rfl, addr_lt hc0, trivial, fun i hi => ?_⟩
      obtain ⟨cs, hr, hc⟩ := (hf i hi).1
      refine ⟨cs, by rw [getD_range f len i hi]; exact hr, fun j u hj => ?_⟩
      have := hc j u hj
      rwa [add_lit, add_lit] at this
    · have := sum_bulk m f D (List.range len) (fun i hi => (hf i (List.mem_range.1 hi)).2)
      simp only [Rows.uptoBulk]
      omega
def OpensFsM {α : Type} (fs : List Field) (off total : Nat) (R : Rep α) (m : α → Nat) : Prop :=
  ∀ {H : Type} {enc : TypeId × Value → H} {W : World} {base n : Nat} {sp : Nat → Bool} {held : Bool} {cs : List Value} {ds : List (DataW H)}, cs.length = total → ds.length = fs.length →
    (∀ (j : Nat) (f : Field), fs[j]? = some f → ∃ d, DataW.trod enc Try.prog W base sp held n f.type ((cs.drop f.offset).take (Try.prog.cellsOf f.type)) = some d ∧ Light d.1 f.type ∧ ds[j]? = some d.1) → ∃ y, R (fun _ => True) W (cs.drop off) y ∧ m y ≤ Rows.uptoBulkAll ds
theorem opensFsM_last {α : Type} {R : Rep α} {m : α → Nat} {f : Field} {off total : Nat} (ho : f.offset = off) (ht : off + Try.prog.cellsOf f.type = total) (h : OpensM R m f.type) : OpensFsM [f] off total R m := by
  intro H enc W base n sp held cs ds hl hd hf
  obtain ⟨d, h1, h2, h3⟩ := hf 0 f rfl
  rw [ho, List.take_of_length_le (by rw [List.length_drop]; omega)] at h1
  obtain ⟨y, hy, hm⟩ := h h1 h2
  refine ⟨y, hy, ?_⟩
  cases ds with
  | nil => simp at hd
  | cons d0 r => simp at h3; subst h3; simp only [Rows.uptoBulkAll]; omega
theorem opensFsM_cons {α β : Type} {R : Rep α} {S : Rep β} {m1 : α → Nat} {m2 : β → Nat} {f : Field} {fs : List Field} {off mm total : Nat} (ho : f.offset = off) (hm : off + Try.prog.cellsOf f.type = mm) (h : OpensM R m1 f.type) (hs : OpensFsM fs mm total S m2) : OpensFsM (f :: fs) off total (RPair R S) (fun x => m1 x.1 + m2 x.2) := by
  intro H enc W base n sp held cs ds hl hd hf
  obtain ⟨d, h1, h2, h3⟩ := hf 0 f rfl
  rw [ho] at h1
  obtain ⟨y, hy, hm1⟩ := h h1 h2
  cases ds with
  | nil => simp at hd
  | cons d0 r =>
    obtain ⟨z, hz, hm2⟩ := hs (cs := cs) (ds := r) hl (by simpa using hd) (fun j g hg => by have := hf (j + 1) g (by simpa using hg); simpa using this)
    refine ⟨(y, z), ⟨(cs.drop off).take (Try.prog.cellsOf f.type), cs.drop mm, ?_, hy, hz⟩, ?_⟩
    · rw [← hm, ← List.drop_drop]
      exact (List.take_append_drop _ _).symm
    · simp at h3; subst h3; simp only [Rows.uptoBulkAll]; omega
theorem opensM_struct {α : Type} {R : Rep α} {m : α → Nat} {t : TypeId} {fs : Array Field} {total : Nat} (hu : Try.prog.underlying t = some (.struct fs)) (hc : Try.prog.cellsOf t = total) (h : OpensFsM fs.toList 0 total R m) : OpensM R m t := by
  intro H enc W base n sp held cs x hx hl
  obtain ⟨xs, mm, _, rfl, hlen, hxs, hf⟩ := DataW.trod_struct hu hx
  have := h (enc := enc) (W := W) (base := base) (n := mm) (sp := sp) (held := held) (cs := cs) (ds := xs.map (·.1)) (by rw [hlen, hc]) (by simp [hxs]) (fun j f hj => by
    have hj' : fs[j]? = some f := by simpa using hj
    have h1 := hf j f hj'
    have hlt : j < xs.length := by
      have := (Array.getElem?_eq_some_iff.1 hj').1
      omega
    have h2 : xs[j]? = some xs[j] := List.getElem?_eq_getElem hlt
    rw [h2] at h1
    refine ⟨xs[j], h1, light_struct hu hl (j := j) (by simp [hj']) (by simp [h2]), by simp [h2]⟩)
  obtain ⟨y, hy, hm⟩ := this
  refine ⟨y, by simpa using hy, ?_⟩
  simp only [Rows.uptoBulk]
  omega
end Go.Proofs.Ytpombhiffpbedaa
namespace Go.Proofs.Ytpombhiffpbedaa
open Go.ChangeShapes Go.WideShapes Go.ChangeAt Go.RowKit
set_option linter.unusedSimpArgs false

theorem opensM_strs14 : OpensM (RSl RStr 1 16) (sumBy (fun _ => 1)) 26 := opensM_slice RStr.firm Try.underlying26 (by kernel_rfl) (by kernel_rfl) (by decide) (Opens.m opens_str)
theorem opensM_ints : OpensM (RSl RInt 1 8) (sumBy (fun _ => 1)) 46 := opensM_slice RInt.firm Try.underlying46 (by kernel_rfl) (by kernel_rfl) (by decide) (Opens.m opens_int)
theorem sum_one14 {α : Type} : ∀ L : List α, sumBy (fun _ => 1) L = L.length
  | [] => rfl
  | _ :: L => by have := sum_one14 L; simp only [sumBy, List.map_cons, List.sum_cons, List.length_cons] at this ⊢; omega
end Go.Proofs.Ytpombhiffpbedaa
namespace Go.Proofs.Ytpombhiffpbedaa
open Go.ChangeShapes Go.WideShapes Go.ChangeAt Go.RowKit
set_option linter.unusedSimpArgs false

abbrev ActQ := Int × Int × Int × ByteArray × ByteArray × WtD × Bool × Bool
theorem RIW.firm : Firm RIW 1 := ⟨fun h => by rw [h.1]; rfl, fun h u hu => by rw [h.1] at hu; simp only [List.mem_cons, List.not_mem_nil, or_false] at hu; rw [hu]; rfl, fun h _ => h, fun h _ => h⟩
theorem RWtB.firm : Firm RWtB 5 := Firm.pair RStr.firm (Firm.pair RInt.firm (Firm.pair RInt.firm (Firm.pair RIW.firm RInt.firm)))
def RActQ : Rep ActQ := RPair RInt (RPair RInt (RPair RInt (RPair RStr (RPair RStr (RPair RWtB (RPair RBool RBool))))))
theorem RActQ.firm : Firm RActQ 12 := Firm.pair RInt.firm (Firm.pair RInt.firm (Firm.pair RInt.firm (Firm.pair RStr.firm (Firm.pair RStr.firm (Firm.pair RWtB.firm (Firm.pair RBool.firm RBool.firm))))))
abbrev actC (a : ActQ) : List Value := [.int .i64 a.1, .int .i64 a.2.1, .int .i64 a.2.2.1, .string a.2.2.2.1, .string a.2.2.2.2.1, .string a.2.2.2.2.2.1.1, .int .i64 a.2.2.2.2.2.1.2.1, .int .i64 a.2.2.2.2.2.1.2.2.1, .int .i64 a.2.2.2.2.2.1.2.2.2.1, .int .i64 a.2.2.2.2.2.1.2.2.2.2, .bool a.2.2.2.2.2.2.1, .bool a.2.2.2.2.2.2.2]
def okAct (a : ActQ) : Prop := okS a.2.2.2.1 ∧ okS a.2.2.2.2.1 ∧ WtOk a.2.2.2.2.2.1
theorem RActQ.all {A : Where} {w : World} {cs : List Value} {a : ActQ} (h : RActQ A w cs a) : cs = actC a ∧ okAct a := by
  obtain ⟨c0, d0, rfl, h0, c1, d1, rfl, h1, c2, d2, rfl, h2, c3, d3, rfl, ⟨h3, k3⟩, c4, d4, rfl, ⟨h4, k4⟩, c5, d5, rfl, h5, c6, d6, rfl, h6, h7⟩ := h
  have h0 : c0 = [.int .i64 a.1] := h0
  have h1 : c1 = [.int .i64 a.2.1] := h1
  have h2 : c2 = [.int .i64 a.2.2.1] := h2
  have h6 : c6 = [.bool a.2.2.2.2.2.2.1] := h6
  have h7 : d6 = [.bool a.2.2.2.2.2.2.2] := h7
  obtain ⟨h5, k5⟩ := RWtB.all h5
  subst h0 h1 h2 h3 h4 h5 h6 h7
  exact ⟨rfl, k3, k4, k5⟩
theorem opens_ActQ : Opens RActQ 30 := opens_struct (total := 12) Try.underlying30 (by kernel_rfl) (opensFs_cons (m := 1) rfl (by kernel_rfl) opens_int (opensFs_cons (m := 2) rfl (by kernel_rfl) opens_int (opensFs_cons (m := 3) rfl (by kernel_rfl) opens_int (opensFs_cons (m := 4) rfl (by kernel_rfl) opens_str (opensFs_cons (m := 5) rfl (by kernel_rfl) opens_str (opensFs_cons (m := 10) rfl (by kernel_rfl) opens_WtB (opensFs_cons (m := 11) rfl (by kernel_rfl) opens_bool (opensFs_last rfl (by kernel_rfl) opens_bool))))))))
theorem opensM_actsQ : OpensM (RSl RActQ 12 112) (sumBy (fun _ => 1)) 22 := opensM_slice RActQ.firm Try.underlying22 (by kernel_rfl) (by kernel_rfl) (by decide) (Opens.m opens_ActQ)
end Go.Proofs.Ytpombhiffpbedaa
namespace Go.Proofs.Ytpombhiffpbedaa
open Go.RowKit
set_option linter.unusedSimpArgs false

theorem mem_insB {α : Type} {lt eq : α → α → Bool} (he : ∀ a b, eq a b = true → a = b) (s x : α) : ∀ L : List α, x ∈ insB lt eq L s ↔ x ∈ L ∨ x = s
  | [] => by simp [insB]
  | y :: L => by
    have ih := mem_insB (lt := lt) he s x L
    unfold insB
    split
    · simp only [List.mem_cons, ih]
      constructor
      · rintro (h | h | h)
        · exact .inl (.inl h)
        · exact .inl (.inr h)
        · exact .inr h
      · rintro ((h | h) | h)
        · exact .inl h
        · exact .inr (.inl h)
        · exact .inr (.inr h)
    · split
      · rename_i h1 h2
        have := he _ _ h2
        subst this
        simp only [List.mem_cons]
        constructor
        · intro h; exact .inl h
        · rintro (h | h)
          · exact h
          · exact .inl h
      · simp only [List.mem_cons]
        constructor
        · rintro (h | h | h)
          · exact .inr h
          · exact .inl (.inl h)
          · exact .inl (.inr h)
        · rintro ((h | h) | h)
          · exact .inr (.inl h)
          · exact .inr (.inr h)
          · exact .inl h
theorem mem_foldB {α : Type} {lt eq : α → α → Bool} (he : ∀ a b, eq a b = true → a = b) (x : α) : ∀ (L M : List α), x ∈ L.foldl (insB lt eq) M ↔ x ∈ M ∨ x ∈ L
  | [], M => by simp
  | y :: L, M => by
    rw [List.foldl_cons, mem_foldB he x L (insB lt eq M y), mem_insB he]
    simp only [List.mem_cons]
    constructor
    · rintro ((h | h) | h)
      · exact .inl h
      · exact .inr (.inl h)
      · exact .inr (.inr h)
    · rintro (h | h | h)
      · exact .inl (.inl h)
      · exact .inl (.inr h)
      · exact .inr h
theorem mem_sortB {α : Type} {lt eq : α → α → Bool} (he : ∀ a b, eq a b = true → a = b) (x : α) (L : List α) : x ∈ sortB lt eq L ↔ x ∈ L := by
  unfold sortB; rw [mem_foldB he]; simp
section
variable {α : Type} {lt eq : α → α → Bool}
structure OrdB (lt eq : α → α → Bool) : Prop where
  eqi : ∀ a b, eq a b = true ↔ a = b
  irr : ∀ a, lt a a = false
  tr : ∀ a b c, lt a b = true → lt b c = true → lt a c = true
  tot : ∀ a b, a ≠ b → lt a b = true ∨ lt b a = true
def UpB (lt : α → α → Bool) (L : List α) : Prop := L.Pairwise (fun a b => lt a b = true)
theorem UpB.ins (h : OrdB lt eq) (s : α) : ∀ L : List α, UpB lt L → UpB lt (insB lt eq L s)
  | [], _ => by simp [insB, UpB]
  | x :: xs, hL => by
    obtain ⟨h1, h2⟩ := List.pairwise_cons.1 hL
    unfold insB
    split
    · rename_i h3
      refine List.pairwise_cons.2 ⟨fun y hy => ?_, UpB.ins h s xs h2⟩
      rcases (mem_insB (fun a b e => (h.eqi a b).1 e) s y xs).1 hy with h4 | h4
      · exact h1 y h4
      · rw [h4]; exact h3
    · split
      · exact hL
      · rename_i h3 h4
        have hne : x ≠ s := fun e => h4 ((h.eqi x s).2 e)
        have hlt : lt s x = true := (h.tot x s hne).resolve_left h3
        refine List.pairwise_cons.2 ⟨fun y hy => ?_, hL⟩
        rcases List.mem_cons.1 hy with h5 | h5
        · rw [h5]; exact hlt
        · exact h.tr s x y hlt (h1 y h5)
theorem UpB.sort (h : OrdB lt eq) (L : List α) : UpB lt (sortB lt eq L) := by
  unfold sortB
  suffices H : ∀ (L M : List α), UpB lt M → UpB lt (L.foldl (insB lt eq) M) from H L [] List.Pairwise.nil
  intro L
  induction L with
  | nil => intro M hM; exact hM
  | cons x L ih => intro M hM; exact ih _ (UpB.ins h x M hM)
theorem UpB.one (h : OrdB lt eq) : ∀ L M : List α, UpB lt L → UpB lt M → (∀ x, x ∈ L ↔ x ∈ M) → L = M
  | [], [], _, _, _ => rfl
  | [], y :: ys, _, _, hm => absurd ((hm y).2 List.mem_cons_self) (by simp)
  | x :: xs, [], _, _, hm => absurd ((hm x).1 List.mem_cons_self) (by simp)
  | x :: xs, y :: ys, hL, hM, hm => by
    obtain ⟨a1, a2⟩ := List.pairwise_cons.1 hL
    obtain ⟨b1, b2⟩ := List.pairwise_cons.1 hM
    have e : x = y := by
      rcases List.mem_cons.1 ((hm x).1 List.mem_cons_self) with h1 | h1
      · exact h1
      · rcases List.mem_cons.1 ((hm y).2 List.mem_cons_self) with h2 | h2
        · exact h2.symm
        · have := h.tr x y x (a1 y h2) (b1 x h1)
          rw [h.irr] at this
          cases this
    subst e
    have ne : ∀ z, lt x z = true → z ≠ x := fun z hz e => by rw [e, h.irr] at hz; cases hz
    rw [UpB.one h xs ys a2 b2 (fun z => ⟨fun hz => ?_, fun hz => ?_⟩)]
    · exact (List.mem_cons.1 ((hm z).1 (List.mem_cons_of_mem _ hz))).resolve_left (ne z (a1 z hz))
    · exact (List.mem_cons.1 ((hm z).2 (List.mem_cons_of_mem _ hz))).resolve_left (ne z (b1 z hz))
theorem sort_eq (h : OrdB lt eq) {L M : List α} (hm : ∀ x, x ∈ L ↔ x ∈ M) : sortB lt eq L = sortB lt eq M :=
  UpB.one h _ _ (UpB.sort h L) (UpB.sort h M) (fun x => by rw [mem_sortB (fun a b e => (h.eqi a b).1 e), mem_sortB (fun a b e => (h.eqi a b).1 e)]; exact hm x)
end
theorem toList_inj {a b : ByteArray} (h : a.toList = b.toList) : a = b := (sEq_iff a b).1 (by simp [sEq, h])
theorem ordS : OrdB sLt sEq := ⟨sEq_iff, fun a => bl_irr _, fun a b c h1 h2 => bl_trans _ _ _ h1 h2, fun a b h => by
  have := bl_tot a.toList b.toList (fun e => h (toList_inj e))
  unfold sLt
  cases h1 : Op.bytesLess a.toList b.toList
  · right; rw [this, h1]; rfl
  · left; rfl⟩
end Go.Proofs.Ytpombhiffpbedaa
namespace Go.Proofs.Ytpombhiffpbedaa
open Go.RowKit
set_option linter.unusedSimpArgs false

def amongP (n : Int) (m : Nat) : Nat := (IntKind.u64.wrap n % (m : Int)).toNat
theorem among_lt (n : Int) {m : Nat} (hm : 0 < m) : amongP n m < m := by
  have h1 : 0 ≤ IntKind.u64.wrap n % (m : Int) := Int.emod_nonneg _ (by omega)
  have h2 : IntKind.u64.wrap n % (m : Int) < (m : Int) := Int.emod_lt_of_pos _ (by omega)
  unfold amongP
  omega
theorem Among_is (n : Int) (m : Nat) (hm : 0 < m) (hml : m ≤ 140737488355328) (w : World) : Calls Try.prog 9 #[.int .i64 n, .int .i64 m] w fun e w' => e = .returned (.int .i64 (amongP n m)) ∧ w' = w := by
  have hw : IntKind.u64.wrap (m : Int) = (m : Int) := by simp [IntKind.wrap, IntKind.bits, IntKind.signed]; omega
  have hz : ((m : Int) == 0) = false := by rw [beq_eq_false_iff_ne]; omega
  have hz' : ¬ (m : Int) = 0 := by omega
  have ha : ((amongP n m : Nat) : Int) = IntKind.u64.wrap n % (m : Int) := by unfold amongP; exact Int.toNat_of_nonneg (Int.emod_nonneg _ (by omega))
  rw [ha]
  clear ha
  generalize hr : IntKind.u64.wrap n = r
  have hr0 : 0 ≤ r := by rw [← hr]; simp [IntKind.wrap, IntKind.bits, IntKind.signed]; omega
  have h1 : 0 ≤ r % (m : Int) := Int.emod_nonneg _ (by omega)
  have h2 : r % (m : Int) < (m : Int) := Int.emod_lt_of_pos _ (by omega)
  have h3 : r.tmod (m : Int) = r % (m : Int) := Int.tmod_eq_emod_of_nonneg hr0
  go_enter Try.func9, Try.ntmps9
  go_wp2
  go_ret
  exact ⟨rfl, rfl⟩
end Go.Proofs.Ytpombhiffpbedaa
namespace Go.Proofs.Ytpombhiffpbedaa
open Go.RowKit Go.Maps
set_option linter.unusedSimpArgs false
set_option maxRecDepth 100000

abbrev FK (w : World) (v : Value) : Where := fun b => Fresh w b ∧ v.ownBlock ≠ some b
abbrev FJ (w : World) (v : Value) (B : Nat) : Where := fun b => (Fresh w b ∧ v.ownBlock ≠ some b) ∧ b ≠ B
def okTs (S : List EnD) : Prop := ∀ e ∈ S, -9223372036854775808 ≤ e.1.2.2.2.1 ∧ e.1.2.2.2.1 ≤ 9223372036854775807
/-- Behind so many acts. -/
def KpR (w : World) (p k : Nat) (v : Value) (z : World) : Prop := ∃ S n Ws N, QA (FK w v) z p S n Ws ∧ Row RStr 1 (fun _ => False) w z 9 v N ∧ N.Perm (S.map enN) ∧ okTs S ∧ 0 ≤ n ∧ n ≤ (k : Int) ∧ S.length ≤ k
/-- Within an act, which lies in a box. -/
structure KpJ (w u : World) (p : Nat) (v : Value) (B : Nat) (a : ActQ) (S : List EnD) (n : Int) (Ws : List WiD) (N : List ByteArray) : Prop where
  q : QA (FJ w v B) u p S n Ws
  row : Row RStr 1 (fun _ => False) w u 9 v N
  box : BoxL u B (actC a)
  low : w.heap.size ≤ B
section
variable {w u u' : World} {p B : Nat} {v v' : Value} {a : ActQ} {S S' : List EnD} {n n' : Int} {Ws Ws' : List WiD} {N N' : List ByteArray}
theorem KpJ.hF (h : KpJ w u p v B a S n Ws N) (hb : u.heap.size ≤ u'.heap.size) : ∀ b, u'.heap.size ≤ b → FJ w v B b := fun b h2 => ⟨⟨Nat.le_trans h.row.below.size (Nat.le_trans hb h2), fun e => by have := (h.row.lt e).2; omega⟩, by have := h.box.1; omega⟩
theorem KpJ.on (h : KpJ w u p v B a S n Ws N) (hb : Below u.heap.size u u') : KpJ w u' p v B a S n Ws N := ⟨h.q.on hb, h.row.on RStr.firm hb, h.box.on hb, h.low⟩
theorem KpJ.call (h : KpJ w u p v B a S n Ws N) (hq : QA (FJ w v B) u' p S' n' Ws') (ht : Turns (FJ w v B) u u') : KpJ w u' p v B a S' n' Ws' N :=
  ⟨hq, h.row.keptXG RStr.firm (Turns.behind h.row.below (ht.weak (fun _ _ hf => hf.1.1))) ⟨ht.size, fun b hb hl => ht.block b hl (fun hf => hb.elim id (fun e => hf.1.2 e))⟩, ht.box h.box (fun hf => hf.2 rfl), h.low⟩
theorem KpJ.done (h : KpJ w u p v B a S n Ws N) (hp : N.Perm (S.map enN)) (ht : okTs S) {k : Nat} (h0 : 0 ≤ n) (h1 : n ≤ (k : Int)) (h2 : S.length ≤ k) : KpR w p k v u := ⟨S, n, Ws, N, h.q.weak (fun _ _ hf => hf.1), h.row, hp, ht, h0, h1, h2⟩
/-- A name more. -/
theorem KpJ.app (h : KpJ w u p v B a S n Ws N) (hr : Row RStr 1 (fun _ => False) w u' 9 v' N') (hg : u.grownBy u' v.ownBlock) (hw : v'.ownBlock = v.ownBlock ∨ v'.ownBlock = some u.heap.size) (hp : N'.Perm (S.map enN)) (ht : okTs S) {k : Nat} (h0 : 0 ≤ n) (h1 : n ≤ (k : Int)) (h2 : S.length ≤ k) : KpR w p k v' u' := by
  refine ⟨S, n, Ws, N', ?_, hr, hp, ht, h0, h1, h2⟩
  refine (h.q.weak (G := fun b => FK w v' b ∧ v.ownBlock ≠ some b) (fun b hb hf => ⟨⟨hf.1.1, fun e => ?_⟩, hf.1.2⟩)).kept (u' := u') (fun b hb hf => hg.block b hb (fun e => hf.2 e.symm)) |>.weak (fun b _ hf => hf.1)
  rcases hw with h5 | h5
  · rw [h5] at e; exact hf.1.2 e
  · rw [h5] at e; injection e with e; omega
/-- Another list, made anew. -/
theorem KpJ.anew (h : KpJ w u p v B a S n Ws N) (hr : Row RStr 1 (fun _ => False) u u' 9 v' N') (hp : N'.Perm (S.map enN)) (ht : okTs S) {k : Nat} (h0 : 0 ≤ n) (h1 : n ≤ (k : Int)) (h2 : S.length ≤ k) : KpR w p k v' u' := by
  refine ⟨S, n, Ws, N', ?_, hr.from RStr.firm h.row.below (fun _ h => h), hp, ht, h0, h1, h2⟩
  exact (h.q.weak (G := FK w v') (fun b hb hf => ⟨hf.1.1, fun e => by have := (hr.lt e).1; omega⟩)).on hr.below
end
theorem names_oth (S : List EnD) (s : ByteArray) : (othG enN s S).map enN = lssY (S.map enN) s := by
  unfold othG lssY
  rw [List.filter_map]
  rfl
theorem lss_perm {L M : List ByteArray} (h : L.Perm M) (s : ByteArray) : (lssY L s).Perm (lssY M s) := h.filter _
theorem names_snoc (S : List EnD) (e : EnD) : (S ++ [e]).map enN = S.map enN ++ [e.1.1] := by rw [List.map_append]; rfl
theorem okTs.oth {S : List EnD} (h : okTs S) (s : ByteArray) : okTs (othG enN s S) := fun e he => h e (mem_othG.1 he).1
theorem okTs.snoc {S : List EnD} (h : okTs S) {e : EnD} (he : -9223372036854775808 ≤ e.1.2.2.2.1 ∧ e.1.2.2.2.1 ≤ 9223372036854775807) : okTs (S ++ [e]) := fun y hy => by
  rcases List.mem_append.1 hy with hy | hy
  · exact h y hy
  · rw [List.mem_singleton.1 hy]; exact he
theorem names_mv (S : List EnD) (now : Int) : (mvL S now).map enN = S.map enN := by
  unfold mvL
  split
  · rw [List.map_map]; refine List.map_congr_left (fun e _ => ?_); simp only [Function.comp, mvE]; split <;> rfl
  · rfl
theorem names_tk (S : List EnD) (now : Int) : (tkL S now).map enN = S.map enN := by
  unfold tkL
  split
  · rw [List.map_map]; refine List.map_congr_left (fun e _ => ?_); simp only [Function.comp, tkE]; split <;> rfl
  · rfl
theorem okTs.mv {S : List EnD} (h : okTs S) (now : Int) : okTs (mvL S now) := by
  unfold mvL
  split
  · intro e he; obtain ⟨y, hy, rfl⟩ := List.mem_map.1 he; have := h y hy; unfold mvE; split <;> exact this
  · exact h
theorem okTs.tk {S : List EnD} (h : okTs S) (now : Int) : okTs (tkL S now) := by
  unfold tkL
  split
  · intro e he; obtain ⟨y, hy, rfl⟩ := List.mem_map.1 he; have := h y hy; unfold tkE; split <;> exact this
  · exact h
theorem len_mv (S : List EnD) (now : Int) : (mvL S now).length = S.length := by unfold mvL; split <;> simp
theorem len_tk (S : List EnD) (now : Int) : (tkL S now).length = S.length := by unfold tkL; split <;> simp
theorem len_oth (S : List EnD) (s : ByteArray) : (othG enN s S).length ≤ S.length := List.length_filter_le _ _
/-- Those in the places ahead of the i-th. -/
def uptoP (S : List EnD) (i : Int) : List ByteArray := (S.filter (fun e => decide (e.2 < i))).map enN
theorem upto_one {S : List EnD} (h : ∀ e ∈ S, okE e) : uptoP S 1 = [] := by
  unfold uptoP
  rw [List.map_eq_nil_iff, List.filter_eq_nil_iff]
  intro e he
  have := (h e he).2.2
  simp; omega
theorem upto_four {S : List EnD} (h : ∀ e ∈ S, okE e) : uptoP S 4 = S.map enN := by
  unfold uptoP
  rw [List.filter_eq_self.2 (fun e he => by have := (h e he).2.2; simp; omega)]
theorem upto_step (S : List EnD) (i : Int) {l : List WtD} (hl : l.Perm (gatP i (fun _ => true) S)) {M : List ByteArray} (hM : M.Perm (uptoP S i)) : (M ++ l.map Prod.fst).Perm (uptoP S (i + 1)) := by
  refine (hM.append (hl.map _)).trans ?_
  clear hM hl
  unfold uptoP gatP
  induction S with
  | nil => exact List.Perm.refl _
  | cons e S ih =>
    simp only [List.filter_cons, Bool.and_true] at ih ⊢
    by_cases h1 : e.2 < i
    · have h2 : e.2 < i + 1 := by omega
      have h3 : ¬ e.2 = i := by omega
      simp only [h1, h2, h3, decide_true, decide_false, if_true, Bool.false_eq_true, if_false, List.map_cons, List.cons_append]
      exact List.Perm.cons _ ih
    · by_cases h3 : e.2 = i
      · have h2 : e.2 < i + 1 := by omega
        simp only [h1, h2, decide_true, decide_false, h3, if_true, Bool.false_eq_true, if_false, List.map_cons, List.cons_append]
        simp only [h3] at h1 h2
        simp only [h1, h2, decide_true, decide_false, if_true, Bool.false_eq_true, if_false, List.map_cons, List.cons_append]
        exact List.perm_middle.trans (List.Perm.cons _ ih)
      · have h2 : ¬ e.2 < i + 1 := by omega
        simp only [h1, h2, h3, decide_false, Bool.false_eq_true, if_false]
        exact ih
theorem sorted_perm14 {L M : List ByteArray} (h : L.Perm M) : sortB sLt sEq L = sortB sLt sEq M := sort_eq ordS (fun _ => h.mem_iff)
end Go.Proofs.Ytpombhiffpbedaa
