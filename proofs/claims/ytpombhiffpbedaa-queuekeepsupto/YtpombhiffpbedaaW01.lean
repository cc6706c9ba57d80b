/- The law's own less: a list without a text. Condition: the list lies as is said of it. Arguments as they come in, whatever their type: read off memory, they lie as said. No condition beyond the row's own reach. Arguments of layer 14 as they come in. No condition beyond the row's own reach. Arguments of the program's struct types, as they come in. No condition beyond the row's own reach. base.Reqs gives a slice of its own, its values' texts copied too, that holds the same. Condition: the slice holds what is said of it. base.SameTexts, SameInts, SameLabels, SameReqs, sameTerms tell whether two slices hold the same; they change nothing but the count of draws. Condition: the slices hold what is said of them. base.Has and base.HasInt tell whether it is in a list, and change nothing. Condition: the slice lies as is said of it. Insertion into a rising list, each once. Plain mathematics. No condition. Further structs of the program as plain data, and how each lies in cells. No program. No condition. Amounts as plain integers: what a number counts as, sums, differences, multiples and shares, and the laws of order and grouping. Plain mathematics, no program. No condition. What the document makes of pods: names each once, sums, ports, claims. Plain. No condition. -/
import Derived.Test.YtpombhiffpbedaaQ04
import Derived.Test.YtpombhiffpbedaaQ13
import Derived.Test.YtpombhiffpbedaaQ01
import Derived.Test.YtpombhiffpbedaaQ12
import Derived.Test.YtpombhiffpbedaaQ03
import Derived.Laws.StructEq
namespace Go.Proofs.Ytpombhiffpbedaa
open Go.RowKit
set_option linter.unusedSimpArgs false
set_option maxRecDepth 100000

theorem infoTxY : (Try.prog.info? 9).map (fun i => (i.zero, i.size, i.bytes)) = some (some (.string ⟨#[]⟩), 1, 16) := by kernel_rfl
def lssY (L : List ByteArray) (s : ByteArray) : List ByteArray := L.filter (fun x => !sEq x s)
theorem lss_take {L : List ByteArray} {s : ByteArray} {j : Nat} (h : j < L.length) : lssY (L.take (j + 1)) s = lssY (L.take j) s ++ (if sEq (L.getD j default) s = true then [] else [L.getD j default]) := by
  unfold lssY
  rw [List.take_succ_eq_append_getElem h, List.filter_append, List.getD_eq_getElem?_getD, List.getElem?_eq_getElem h]
  congr 1
  simp only [List.filter_cons, List.filter_nil, Option.getD_some]
  cases sEq L[j] s <;> rfl
theorem lss_len (L : List ByteArray) (s : ByteArray) (k : Nat) : (lssY (L.take k) s).length ≤ k := Nat.le_trans (List.length_filter_le _ _) (by rw [List.length_take]; omega)
def LssOut (w : World) (L : List ByteArray) (e : Ending) (w' : World) : Prop := ∃ v, e = .returned v ∧ Row RStr 1 (fun _ => False) w w' 9 v L
set_option maxHeartbeats 8000000 in
theorem less_calls (a : Option Addr) (n cap : Nat) (A : Where) (L : List ByteArray) (s : ByteArray) (w : World) (hL : Hid (SlAt RStr 1 16 A w a n cap L)) (hn : n * 16 ≤ 140737488351232) : Calls Try.prog 12 #[.slice a n cap, .string s] w (LssOut w (lssY L s)) := by
  have Hm : Hid (n = L.length) := hL.out.1.symm
  have hml : n < 1000000000000000 := by omega
  have HR0 : Hid (Row RStr 1 (fun _ => False) w (w.alloc (.cells #[] 9)) 9 (.slice (some ⟨w.heap.size, 0, none⟩) 0 0) (lssY (L.take 0) s)) := Row.start _ w w _ (Below.refl _ _)
  have Hn : Hid (n * 16 ≤ 140737488351232) := hn
  clear hn
  go_enter Try.func12, Try.ntmps12
  go_wp2_with fail
  go_loopw [5, 6] (fun v iv wr => ∃ i : Nat, i ≤ n ∧ iv = .int .i64 i ∧ Hid (Row RStr 1 (fun _ => False) w wr 9 v (lssY (L.take i) s))) (fun _ iv _ => n - (intOf iv).toNat)
  case atStart => exact ⟨0, Nat.zero_le _, rfl, HR0⟩
  case round =>
    obtain ⟨i, him, rfl, hrow⟩ := hrel
    clear HR0
    by_cases hge : n ≤ i
    · have hin : i = n := by omega
      have hltz : ¬ ((i : Int) < (n : Int)) := by omega
      have e1 : L.take i = L := List.take_of_length_le (by rw [hin, Hm.out]; exact Nat.le_refl _)
      rw [e1] at hrow
      clear e1 hin
      go_wp2_with fail
      go_ret
      exact ⟨_, rfl, hrow.out⟩
    · have hlt : i < n := by omega
      have hltz : (i : Int) < (n : Int) := by omega
      have hiL : i < L.length := by rw [← Hm.out]; exact hlt
      obtain ⟨B, off, rfl, hB, _, xs, hr, hv⟩ := hL.out.get hlt
      obtain ⟨rfl, hok⟩ : xs = [.string (L.getD i default)] ∧ _ := hr
      have d0 := ((hrow.out.below.cell (p := ⟨B, off + i * 1 + 0, none⟩) hB)).trans (hv 0 _ rfl)
      rw [Nat.mul_one, Nat.add_zero] at d0
      have HT : Hid (lssY (L.take (i + 1)) s = lssY (L.take i) s ++ (if sEq (L.getD i default) s = true then [] else [L.getD i default])) := lss_take hiL
      have HOK : Hid ((L.getD i default).size ≤ 140737488355328) := hok
      have HLb : Hid (((lssY (L.take i) s).length + 1) * 16 ≤ 140737488355328) := by have h1 := lss_len L s i; have h2 := Hn.out; rw [Hid]; omega
      generalize L.getD i default = x at d0 HT HOK
      clear hv hok hiL
      cases hx : sEq x s with
      | true =>
        have hx' : (x.toList == s.toList) = true := hx
        have HT2 : Hid (lssY (L.take (i + 1)) s = lssY (L.take i) s) := by rw [Hid, HT.out, hx]; simp
        clear HT hx
        go_wp2_with fail
        go_roundw
        case rel => exact ⟨i + 1, by omega, by go_num, by rw [HT2.out]; exact hrow.out⟩
        case measure => simp [intOf]; omega
      | false =>
        have hx' : (x.toList == s.toList) = false := hx
        have HT2 : Hid (lssY (L.take (i + 1)) s = lssY (L.take i) s ++ [x]) := by rw [Hid, HT.out, hx]; simp
        have b3 : Below wr.heap.size wr (wr.alloc (.cells #[.string x] 9)) := (Below.refl _ _).alloc (Nat.le_refl _) _
        have q3 : BoxL (wr.alloc (.cells #[.string x] 9)) wr.heap.size [.string x] := BoxL.new wr 9 _
        have HR3 : Hid (Row RStr 1 (fun _ => False) w (wr.alloc (.cells #[.string x] 9)) 9 u5 (lssY (L.take i) s)) := hrow.out.on RStr.firm b3
        have HSr : Hid (Src RStr 1 (fun b => False ∧ Value.ownBlock u5 ≠ some b) (wr.alloc (.cells #[.string x] 9)) (some ⟨wr.heap.size, 0, none⟩) 1 [x]) := src_boxG RStr.firm q3 ⟨rfl, HOK.out⟩
        have HLb2 : Hid (((lssY (L.take i) s).length + [x].length) * 16 ≤ 140737488355328) := HLb.out
        clear HT hx b3 q3 hrow HLb
        go_wp2_with (at_builtin; go_must (refine row_appendP RStr.firm (A := (fun _ => False)) (w0 := w) rfl _ _ 26 9 rfl _ 16 infoTxY Try.underlying26 rfl (by decide) (by decide) u5 (lssY (L.take i) s) rfl HR3.out (some ⟨wr.heap.size, 0, none⟩) 1 1 [x] rfl HSr.out HLb2.out ?_); intro v4 w4 hrow4 hg4 hw4)
        have HN : Hid (Row RStr 1 (fun _ => False) w w4 9 v4 (lssY (L.take (i + 1)) s)) := by rw [Hid, HT2.out]; exact hrow4
        clear hrow4 hg4 hw4 HR3 HSr HLb2
        go_roundw
        case rel => exact ⟨i + 1, by omega, by go_num, HN⟩
        case measure => simp [intOf]; omega
end Go.Proofs.Ytpombhiffpbedaa
namespace Go.Proofs.Ytpombhiffpbedaa
open Go.ChangeShapes Go.WideShapes Go.ChangeAt Go.RowKit

/-- What is read as of that type lies as said. -/
def Opens {α : Type} (R : Rep α) (t : TypeId) : Prop :=
  ∀ {H : Type} {enc : TypeId × Value → H} {W : World} {base n : Nat} {sp : Nat → Bool} {held : Bool} {cs : List Value} {x : DataW H × List MemPlace},
    DataW.trod enc Try.prog W base sp held n t cs = some x → Light x.1 t → ∃ y, R (fun _ => True) W cs y
theorem opens_str : Opens RStr 9 := by
  intro H enc W base n sp held cs x h hl
  obtain ⟨s, hs, rfl, _⟩ := DataW.trod_string Try.underlying9 h
  refine ⟨s, hs, ?_⟩
  have := hl s.data.toList.length (by simp [DataW.weights])
  simp at this
  omega
theorem opens_int : Opens RInt 3 := by
  intro H enc W base n sp held cs x h _
  obtain ⟨e, e1, _, _⟩ := DataW.trod_int Try.underlying3 h
  exact ⟨e, e1⟩
theorem opens_bool : Opens RBool 4 := by
  intro H enc W base n sp held cs x h _
  obtain ⟨b, b1, _⟩ := DataW.trod_bool Try.underlying4 h
  exact ⟨b, b1⟩
theorem opens_slice {α : Type} [Inhabited α] {R : Rep α} {k bytes : Nat} {t e : TypeId} (hR : Firm R k) (hu : Try.prog.underlying t = some (.slice e)) (ck : Try.prog.cellsOf e = k) (bk : Try.prog.bytesOf e = bytes) (hk0 : 0 < k) (hE : Opens R e) : Opens (RSl R k bytes) t := by
  intro H enc W base n sp held cs x h hl
  rcases Go.Deep.open_slice hu h with ⟨hv, _⟩ | ⟨a, len, cap, m, nn, D, Pl, hv, _, hlc, _, hm, rfl, hel⟩
  · exact ⟨[], none, 0, 0, hv, SlAt.nil _ _ _ _ (fun _ => rfl)⟩
  · obtain ⟨w1, w2⟩ := light_slice hu hl
    simp only [List.length_map, List.length_range, bk] at w1
    have hml : len ≤ m := by rw [hm]; split <;> omega
    rw [ck] at hel
    have each : ∀ i, i < len → ∃ y : α, ∃ cs, R (fun _ => True) W cs y ∧ ∀ j u, cs[j]? = some u → W.cell? ((a.add (i * k)).add j) = some u := fun i hi => by
      obtain ⟨cs', h1, h2⟩ := hel i (by omega)
      obtain ⟨y, hy⟩ := hE h2 (w2 _ (List.mem_map.2 ⟨i, List.mem_range.2 hi, rfl⟩))
      obtain ⟨_, _, hcell⟩ := World.cells?_some h1
      refine ⟨y, cs', hy, fun j u hj => ?_⟩
      have hjk : j < k := by
        have := (List.getElem?_eq_some_iff.1 hj).1
        rwa [hR.len hy] at this
      rw [hcell j hjk, hj]
    obtain ⟨f, hf⟩ := Go.Deep.choose_lt each
    refine ⟨(List.range len).map f, some a, len, cap, hv, by simp, hlc, (fun h => by cases h), w1, fun hpos => ?_⟩
    obtain ⟨B, off, spot⟩ := a
    obtain ⟨cs0, hr0, hc0⟩ := hf 0 hpos
    have hex : ∃ u, cs0[0]? = some u := by
      cases e : cs0 with
      | nil => have := hR.len hr0; rw [e] at this; simp at this; omega
      | cons u r => exact ⟨u, rfl⟩
    obtain ⟨u0, hu0⟩ := hex
    have hc0 := hc0 0 u0 hu0
    have hsp : spot = none := by
      have := World.cell?_spot hc0
      simpa [Addr.add] using this
    subst hsp
    rw [add_lit, add_lit] at hc0
    refine ⟨B, off, rfl, addr_lt hc0, trivial, fun i hi => ?_⟩
    obtain ⟨cs, hr, hc⟩ := hf i hi
    refine ⟨cs, by rw [getD_range f len i hi]; exact hr, fun j u hj => ?_⟩
    have := hc j u hj
    rwa [add_lit, add_lit] at this
/-- The same of a struct's fields from a place on. -/
def OpensFs {α : Type} (fs : List Field) (off total : Nat) (R : Rep α) : Prop :=
  ∀ {H : Type} {enc : TypeId × Value → H} {W : World} {base n : Nat} {sp : Nat → Bool} {held : Bool} {cs : List Value}, cs.length = total →
    (∀ (j : Nat) (f : Field), fs[j]? = some f → ∃ d, DataW.trod enc Try.prog W base sp held n f.type ((cs.drop f.offset).take (Try.prog.cellsOf f.type)) = some d ∧ Light d.1 f.type) → ∃ y, R (fun _ => True) W (cs.drop off) y
theorem opensFs_last {α : Type} {R : Rep α} {f : Field} {off total : Nat} (ho : f.offset = off) (ht : off + Try.prog.cellsOf f.type = total) (h : Opens R f.type) : OpensFs [f] off total R := by
  intro H enc W base n sp held cs hl hf
  obtain ⟨d, h1, h2⟩ := hf 0 f rfl
  rw [ho, List.take_of_length_le (by rw [List.length_drop]; omega)] at h1
  exact h h1 h2
theorem opensFs_cons {α β : Type} {R : Rep α} {S : Rep β} {f : Field} {fs : List Field} {off m total : Nat} (ho : f.offset = off) (hm : off + Try.prog.cellsOf f.type = m) (h : Opens R f.type) (hs : OpensFs fs m total S) : OpensFs (f :: fs) off total (RPair R S) := by
  intro H enc W base n sp held cs hl hf
  obtain ⟨d, h1, h2⟩ := hf 0 f rfl
  rw [ho] at h1
  obtain ⟨y, hy⟩ := h h1 h2
  obtain ⟨z, hz⟩ := hs (cs := cs) hl (fun j g hg => hf (j + 1) g (by simpa using hg))
  refine ⟨(y, z), (cs.drop off).take (Try.prog.cellsOf f.type), cs.drop m, ?_, hy, hz⟩
  rw [← hm, ← List.drop_drop]
  exact (List.take_append_drop _ _).symm
theorem opens_struct {α : Type} {R : Rep α} {t : TypeId} {fs : Array Field} {total : Nat} (hu : Try.prog.underlying t = some (.struct fs)) (hc : Try.prog.cellsOf t = total) (h : OpensFs fs.toList 0 total R) : Opens R t := by
  intro H enc W base n sp held cs x hx hl
  obtain ⟨xs, m, _, rfl, hlen, hxs, hf⟩ := DataW.trod_struct hu hx
  have := h (enc := enc) (W := W) (base := base) (n := m) (sp := sp) (held := held) (cs := cs) (by rw [hlen, hc]) (fun j f hj => by
    have hj' : fs[j]? = some f := by simpa using hj
    have h1 := hf j f hj'
    have hlt : j < xs.length := by
      have := (Array.getElem?_eq_some_iff.1 hj').1
      omega
    have h2 : xs[j]? = some xs[j] := List.getElem?_eq_getElem hlt
    rw [h2] at h1
    refine ⟨xs[j], h1, light_struct hu hl (j := j) (by simp [hj']) (by simp [h2])⟩)
  simpa using this
theorem arg_agg {P : Program} {t : TypeId} {fs : Array Field} (hu : P.underlying t = some (.struct fs)) {H : Type} {enc : TypeId × Value → H} {W : World} {base b0 : Nat} {r : Reach} {sp : Nat → Bool} {held : Bool} {v : Value} {d : DataW H} {p : List MemPlace}
    (hv : Value.okWide P W r b0 t v) (hd : DataW.Trod enc P W base sp held t v d p) : ∃ (cs : Array Value) (fuel : Nat), v = .agg cs ∧ DataW.trod enc P W base sp held fuel t cs.toList = some (d, p) := by
  obtain ⟨cs, rfl, _⟩ := okWide_struct hu hv
  obtain ⟨fuel, hf⟩ := hd
  exact ⟨cs, fuel, rfl, hf⟩
set_option maxRecDepth 100000 in
/-- A struct that is handed in. -/
theorem opens_arg {α : Type} {R : Rep α} {t : TypeId} {fs : Array Field} (hu : Try.prog.underlying t = some (.struct fs)) (h : Opens R t) {H : Type} {enc : TypeId × Value → H} {W : World} {base b0 : Nat} {r : Reach} {sp : Nat → Bool} {held : Bool} {v : Value} {d : DataW H} {p : List MemPlace}
    (hv : Value.okWide Try.prog W r b0 t v) (hd : DataW.Trod enc Try.prog W base sp held t v d p) (hl : Light d t) : ∃ cs y, v = .agg cs ∧ R (fun _ => True) W cs.toList y := by
  obtain ⟨cs, fuel, e, hf⟩ := arg_agg hu hv hd
  obtain ⟨y, hy⟩ := h hf hl
  exact ⟨cs, y, e, hy⟩
end Go.Proofs.Ytpombhiffpbedaa
namespace Go.Proofs.Ytpombhiffpbedaa
open Go.ChangeShapes Go.WideShapes Go.ChangeAt Go.RowKit
set_option linter.unusedSimpArgs false

/-- A number of Go's. -/
def RIW : Rep Int := fun _ _ cs n => cs = [.int .i64 n] ∧ -9223372036854775808 ≤ n ∧ n ≤ 9223372036854775807
theorem opens_IW : Opens RIW 3 := by
  intro H enc W base n sp held cs x h _
  obtain ⟨e, e1, _, hw⟩ := DataW.trod_int Try.underlying3 h
  refine ⟨e, e1, ?_⟩
  simp [Lit.wf, IntKind.max, IntKind.min, IntKind.bits, IntKind.signed] at hw
  omega
def RWtB : Rep WtD := RPair RStr (RPair RInt (RPair RInt (RPair RIW RInt)))
theorem opens_WtB : Opens RWtB 28 := opens_struct (total := 5) Try.underlying28 (by kernel_rfl) (opensFs_cons (m := 1) rfl (by kernel_rfl) opens_str (opensFs_cons (m := 2) rfl (by kernel_rfl) opens_int (opensFs_cons (m := 3) rfl (by kernel_rfl) opens_int (opensFs_cons (m := 4) rfl (by kernel_rfl) opens_IW (opensFs_last rfl (by kernel_rfl) opens_int)))))
/-- What waits, as a whole. -/
def WtOk (x : WtD) : Prop := okS x.1 ∧ -9223372036854775808 ≤ x.2.2.2.1 ∧ x.2.2.2.1 ≤ 9223372036854775807
theorem RWtB.all {A : Where} {w : World} {cs : List Value} {x : WtD} (h : RWtB A w cs x) : cs = wtC x ∧ WtOk x := by
  obtain ⟨c0, d0, rfl, ⟨rfl, h0⟩, c1, d1, rfl, rfl, c2, d2, rfl, rfl, c3, d3, rfl, ⟨rfl, h3, h4⟩, h5⟩ := h
  obtain rfl : d3 = [.int .i64 x.2.2.2.2] := h5
  exact ⟨rfl, h0, h3, h4⟩
end Go.Proofs.Ytpombhiffpbedaa
namespace Go.Proofs.Ytpombhiffpbedaa
open Go.ChangeShapes Go.WideShapes Go.ChangeAt Go.RowKit

theorem opens_s_str : Opens (RSl RStr 1 16) 26 := opens_slice RStr.firm Try.underlying26 (by kernel_rfl) (by kernel_rfl) (by decide) opens_str
theorem opens_s_int : Opens (RSl RInt 1 8) 46 := opens_slice RInt.firm Try.underlying46 (by kernel_rfl) (by kernel_rfl) (by decide) opens_int
end Go.Proofs.Ytpombhiffpbedaa
namespace Go.Proofs.Ytpombhiffpbedaa
open Go.RowKit
set_option linter.unusedSimpArgs false

/-- What has come since a later world is no part of the row. -/
theorem Row.apart {α : Type} [Inhabited α] {R : Rep α} {k : Nat} {A : Where} {w0 u u' : World} {e : TypeId} {v : Value} {L : List α} (h : Row R k A w0 u e v L) (hs : u.heap.size ≤ u'.heap.size) : ∀ b, Fresh u' b → Fresh w0 b ∧ v.ownBlock ≠ some b := by
  obtain ⟨xs, h1, _⟩ := h
  intro b hb
  have hb' : u'.heap.size ≤ b := hb
  have := h1.1.size
  refine ⟨show w0.heap.size ≤ b by omega, fun e => ?_⟩
  have := (h1.2.lt b e).2
  omega
theorem take_at {α : Type} [Inhabited α] {L : List α} {k : Nat} (hk : k < L.length) : L.take k ++ [L.getD k default] = L.take (k + 1) := (take_succ hk).symm
theorem bytes_le {n k bytes : Nat} (h : n * bytes ≤ 140737488351232) (hk : k < n) : (k + 1) * bytes ≤ 140737488355328 := by
  have : (k + 1) * bytes ≤ n * bytes := Nat.mul_le_mul_right _ hk
  omega

end Go.Proofs.Ytpombhiffpbedaa
namespace Go.Proofs.Ytpombhiffpbedaa
open Go.RowKit
set_option linter.unusedSimpArgs false

theorem retB {a b : Bool} (h : a = b) : Ending.returned (.bool a) = .returned (.bool b) := by rw [h]
theorem same_len {α : Type} [DecidableEq α] {L M : List α} (h : L.length ≠ M.length) : decide (L = M) = false := by
  rw [decide_eq_false_iff_not]; intro e; exact h (by rw [e])
section
variable {α : Type} [Inhabited α] [DecidableEq α] {L M : List α}
theorem same_no {k : Nat} (h : L.getD k default ≠ M.getD k default) : decide (L = M) = false := by
  rw [decide_eq_false_iff_not]; intro e; exact h (by rw [e])
theorem same_yes (hl : L.length = M.length) (h : ∀ j, j < L.length → L.getD j default = M.getD j default) : decide (L = M) = true := by
  rw [decide_eq_true_iff]
  apply List.ext_getElem hl
  intro i h1 h2
  have := h i h1
  rwa [getE _ _ h1, getE _ _ h2] at this
end
theorem bne_of (a b : Int) : (a != b) = !(a == b) := rfl
theorem lab_eq (x y : Lab) : (sEq x.1 y.1 && sEq x.2 y.2) = decide (x = y) := by
  rw [Bool.eq_iff_iff, Bool.and_eq_true, sEq_iff, sEq_iff, decide_eq_true_iff, Prod.ext_iff]
theorem ask_eq (x y : Ask) : decide (x = y) = (sEq x.1 y.1 && ((x.2.1 == y.2.1) && decide (x.2.2 = y.2.2))) := by
  rw [Bool.eq_iff_iff, Bool.and_eq_true, Bool.and_eq_true, sEq_iff, decide_eq_true_iff, decide_eq_true_iff, beq_iff_eq, Prod.ext_iff, Prod.ext_iff]
theorem term_eq (x y : TermD) : decide (x = y) = (sEq x.2 y.2 && decide (x.1 = y.1)) := by
  rw [Bool.eq_iff_iff, Bool.and_eq_true, sEq_iff, decide_eq_true_iff, decide_eq_true_iff, Prod.ext_iff, And.comm]

set_option maxHeartbeats 4000000 in
theorem SameTexts_calls (a : Option Addr) (n cap : Nat) (A : Where) (L : List (ByteArray)) (b : Option Addr) (m capb : Nat) (A' : Where) (M : List (ByteArray)) (w : World) (hA : Hid (SlAt RStr 1 16 A w a n cap L)) (hB : Hid (SlAt RStr 1 16 A' w b m capb M)) : Calls Try.prog 18 #[.slice a n cap, .slice b m capb] w fun e w' => e = .returned (.bool (decide (L = M))) ∧ ∃ q, w' = w.drewN q := by
  have hn : Hid (L.length = n) := hA.out.1
  have hm : Hid (M.length = m) := hB.out.1
  have hlen := hA.out.len (by decide)
  by_cases hnm : n = m
  case neg =>
    have HF : Hid (decide (L = M) = false) := same_len (by rw [hn.out, hm.out]; exact hnm)
    have hne : ((n : Int) != (m : Int)) = true := by rw [bne_iff_ne]; omega
    go_enter Try.func18, Try.ntmps18
    go_wp2
    go_ret
    exact ⟨retB HF.out.symm, 0, rfl⟩
  subst hnm
  have hne : ((n : Int) != (n : Int)) = false := by simp
  go_enter Try.func18, Try.ntmps18
  go_wp2
  go_loopw [5] (fun i wr => ∃ k : Nat, k ≤ n ∧ i = .int .i64 k ∧ Hid (∃ q, wr = w.drewN q) ∧ Hid (∀ j, j < k → L.getD j default = M.getD j default)) (fun i _ => n - (intOf i).toNat)
  case atStart => exact ⟨0, Nat.zero_le _, rfl, ⟨0, rfl⟩, fun j hj => absurd hj (Nat.not_lt_zero _)⟩
  case round =>
    obtain ⟨k, hk, rfl, hwr, hall⟩ := hrel
    have hbel : Below w.heap.size w wr := by obtain ⟨q, rfl⟩ := hwr.out; exact below_drewN (Below.refl _ _) _
    have hback : Hid (∀ q, ∃ q', wr.drewN q = w.drewN q') := by obtain ⟨q0, rfl⟩ := hwr.out; exact fun q => ⟨_, World.drewN_drewN _ _ _⟩
    by_cases hlt : k < n
    · have hltz : (k : Int) < (n : Int) := by omega
      obtain ⟨B, off, rfl, hBl, _, cs, hra, hva⟩ := (hA.out.on RStr.firm hbel).get hlt
      obtain ⟨B', off', rfl, hBl', _, cs', hrb, hvb⟩ := (hB.out.on RStr.firm hbel).get hlt
      obtain ⟨rfl, sa⟩ := hra
      obtain ⟨rfl, sb⟩ := hrb
      have d0 := hva 0 _ rfl
      have g0 := hvb 0 _ rfl
      rw [Nat.add_zero] at d0 g0
      rw [Nat.mul_one] at d0 g0
      have HG : Hid (decide (L.getD k default = M.getD k default) = true → ∀ j, j < k + 1 → L.getD j default = M.getD j default) := fun h j hj => by
        rcases Nat.lt_succ_iff_lt_or_eq.1 hj with h' | rfl
        · exact hall.out j h'
        · exact of_decide_eq_true h
      have HF : Hid (decide (L.getD k default = M.getD k default) = false → decide (L = M) = false) := fun h => same_no (of_decide_eq_false h)
      clear hall hva hvb
      have HE : (!((L.getD k default).toList == (M.getD k default).toList)) = !decide (L.getD k default = M.getD k default) := by rw [show ((L.getD k default).toList == (M.getD k default).toList) = decide (L.getD k default = M.getD k default) by rw [Bool.eq_iff_iff, decide_eq_true_iff]; exact sEq_iff _ _]
      generalize L.getD k default = x at d0 sa HE HG HF
      generalize M.getD k default = y at g0 sb HE HG HF
      cases hd : decide (x = y)
      · have HF2 : Hid (decide (L = M) = false) := HF.out hd
        rw [hd] at HE
        clear HG HF hd
        go_wp2_with fail
        go_quiet (fail)
        go_wp2_with fail
        go_ret
        exact ⟨retB HF2.out.symm, hback.out _⟩
      · have HG2 : Hid (∀ j, j < k + 1 → L.getD j default = M.getD j default) := HG.out hd
        rw [hd] at HE
        clear HG HF hd
        go_wp2_with fail
        go_quiet (fail)
        go_wp2_with fail
        go_roundw
        case rel => exact ⟨k + 1, by omega, by go_num, hback.out _, HG2⟩
        case measure => simp [intOf]; omega
    · have HT : Hid (decide (L = M) = true) := same_yes (by rw [hn.out, hm.out]) (fun j hj => hall.out j (by rw [hn.out] at hj; omega))
      clear hall
      go_wp2
      go_ret
      exact ⟨retB HT.out.symm, hwr.out⟩

end Go.Proofs.Ytpombhiffpbedaa
namespace Go.Proofs.Ytpombhiffpbedaa
open Go.RowKit
set_option linter.unusedSimpArgs false
set_option maxRecDepth 100000

def hasB {α : Type} (eq : α → α → Bool) (V : List α) (s : α) : Bool := V.any fun v => eq v s
theorem hasB_succ {α : Type} [Inhabited α] (eq : α → α → Bool) (L : List α) (s : α) {k : Nat} (hk : k < L.length) : hasB eq (L.take (k + 1)) s = (hasB eq (L.take k) s || eq (L.getD k default) s) := by
  rw [← take_at hk]; simp [hasB]
theorem hasB_found {α : Type} [Inhabited α] (eq : α → α → Bool) (L : List α) (s : α) {k : Nat} (hk : k < L.length) (h : eq (L.getD k default) s = true) : hasB eq L s = true := by
  simp only [hasB, List.any_eq_true]
  exact ⟨L.getD k default, by rw [getE _ _ hk]; exact List.getElem_mem hk, h⟩
def iEq (a b : Int) : Bool := a == b

end Go.Proofs.Ytpombhiffpbedaa
namespace Go.Proofs.Ytpombhiffpbedaa
open Go.RowKit
set_option linter.unusedSimpArgs false

def insB {α : Type} (lt eq : α → α → Bool) : List α → α → List α
  | [], s => [s]
  | x :: xs, s => if lt x s = true then x :: insB lt eq xs s else if eq x s = true then x :: xs else s :: x :: xs
def sortB {α : Type} (lt eq : α → α → Bool) (L : List α) : List α := L.foldl (insB lt eq) []
def iLt (a b : Int) : Bool := decide (a < b)
theorem insB_len {α : Type} (lt eq : α → α → Bool) (s : α) : ∀ L : List α, (insB lt eq L s).length ≤ L.length + 1
  | [] => by simp [insB]
  | x :: xs => by
    have := insB_len lt eq s xs
    unfold insB
    split
    · simp; omega
    · split <;> simp
section
variable {α : Type} [Inhabited α] (lt eq : α → α → Bool)
theorem insB_at (s : α) : ∀ (L : List α) (k : Nat), k ≤ L.length → (∀ j, j < k → lt (L.getD j default) s = true) → (k < L.length → lt (L.getD k default) s = false) →
    insB lt eq L s = if k < L.length ∧ eq (L.getD k default) s = true then L else L.take k ++ ([s] ++ L.drop k)
  | [], k, hk, _, _ => by
    obtain rfl : k = 0 := by simpa using hk
    simp [insB]
  | x :: xs, 0, _, _, h2 => by
    have h := h2 (by simp)
    simp only [List.getD_cons_zero] at h
    simp [insB, h]
  | x :: xs, k + 1, hk, h1, h2 => by
    have h := h1 0 (by omega)
    simp only [List.getD_cons_zero] at h
    have ih := insB_at s xs k (by simpa using hk) (fun j hj => by simpa using h1 (j + 1) (by omega)) (fun hl => by simpa using h2 (by simpa using hl))
    have e : (x :: xs).getD (k + 1) default = xs.getD k default := by simp
    have l : k + 1 < (x :: xs).length ↔ k < xs.length := by simp
    rw [e]
    simp only [insB, h, if_true, ih]
    by_cases c : k < xs.length ∧ eq (xs.getD k default) s = true
    · rw [if_pos c, if_pos ⟨l.2 c.1, c.2⟩]
    · rw [if_neg c, if_neg (fun h => c ⟨l.1 h.1, h.2⟩)]; simp
theorem sortB_succ (L : List α) {k : Nat} (hk : k < L.length) : sortB lt eq (L.take (k + 1)) = insB lt eq (sortB lt eq (L.take k)) (L.getD k default) := by
  rw [← take_at hk]; simp [sortB]
theorem sortB_len : ∀ (L : List α), (sortB lt eq L).length ≤ L.length := by
  intro L
  suffices H : ∀ k, k ≤ L.length → (sortB lt eq (L.take k)).length ≤ k by
    have := H L.length (Nat.le_refl _)
    rwa [List.take_of_length_le (Nat.le_refl _)] at this
  intro k
  induction k with
  | zero => intro _; simp [sortB]
  | succ k ih =>
    intro hk
    rw [sortB_succ lt eq L (by omega)]
    have := insB_len lt eq (L.getD k default) (sortB lt eq (L.take k))
    have := ih (by omega)
    omega
end
/-- The first k, and what lies behind them. -/
theorem SlAt.take {α : Type} [Inhabited α] {R : Rep α} {k bytes : Nat} {A : Where} {w : World} {a : Option Addr} {n cap : Nat} {L : List α} (h : SlAt R k bytes A w a n cap L) {t : Nat} (ht : t ≤ n) : SlAt R k bytes A w a t cap (L.take t) := by
  obtain ⟨h1, h2, h3, h4, h5⟩ := h
  refine ⟨by rw [List.length_take]; omega, by omega, h3, Nat.le_trans (Nat.mul_le_mul_right bytes ht) h4, fun h0 => ?_⟩
  obtain ⟨B, off, e, hB, hA, hc⟩ := h5 (by omega)
  refine ⟨B, off, e, hB, hA, fun i hi => ?_⟩
  obtain ⟨cs, h6, h7⟩ := hc i (by omega)
  have : (L.take t).getD i default = L.getD i default := by
    rw [getE _ _ (show i < (L.take t).length by rw [List.length_take]; omega), getE _ _ (show i < L.length by omega), List.getElem_take]
  rw [this]
  exact ⟨cs, h6, h7⟩
theorem SlAt.drop {α : Type} [Inhabited α] {R : Rep α} {k bytes : Nat} {A : Where} {w : World} {B off n cap : Nat} {L : List α} (h : SlAt R k bytes A w (some ⟨B, off, none⟩) n cap L) {t : Nat} (ht : t ≤ n) : SlAt R k bytes A w (some ⟨B, off + t * k, none⟩) (n - t) (cap - t) (L.drop t) := by
  obtain ⟨h1, h2, h3, h4, h5⟩ := h
  refine ⟨by rw [List.length_drop]; omega, by omega, (fun h => by cases h), Nat.le_trans (Nat.mul_le_mul_right bytes (Nat.sub_le _ _)) h4, fun h0 => ?_⟩
  obtain ⟨B', off', e, hB, hA, hc⟩ := h5 (by omega)
  injection e with e
  injection e with e1 e2
  subst e1 e2
  refine ⟨B, _, rfl, hB, hA, fun i hi => ?_⟩
  obtain ⟨cs, h6, h7⟩ := hc (t + i) (by omega)
  have : (L.drop t).getD i default = L.getD (t + i) default := by
    rw [getE _ _ (show i < (L.drop t).length by rw [List.length_drop]; omega), getE _ _ (show t + i < L.length by omega), List.getElem_drop]
  rw [this]
  refine ⟨cs, h6, fun j v hj => ?_⟩
  have := h7 j v hj
  rwa [Nat.add_mul, ← Nat.add_assoc] at this
end Go.Proofs.Ytpombhiffpbedaa
namespace Go.Proofs.Ytpombhiffpbedaa
open Go.RowKit
set_option linter.unusedSimpArgs false


abbrev InfoD := NodeD × List ByteArray × ResD × List Int × List ByteArray
def RInfo : Rep InfoD := RPair RNode (RPair (RSl RStr 1 16) (RPair RRes (RPair (RSl RInt 1 8) (RSl RStr 1 16))))
theorem RInfo.firm : Firm RInfo 15 := Firm.pair RNode.firm (Firm.pair (RSl.firm RStr.firm) (Firm.pair RRes.firm (Firm.pair (RSl.firm RInt.firm) ((RSl.firm RStr.firm)))))
theorem RInfo.out {A : Where} {w : World} {cs : List Value} {x : InfoD} (h : RInfo A w cs x) : ∃ h1 h2 h9 h13 h14 : Hd, cs = [.string x.1.1, .slice h1.1 h1.2.1 h1.2.2, .slice h2.1 h2.2.1 h2.2.2, .bool x.1.2.2.2.1, .int .i64 x.1.2.2.2.2.1.1, .int .i64 x.1.2.2.2.2.1.2.1, .int .i64 x.1.2.2.2.2.1.2.2, .int .i64 x.1.2.2.2.2.2.1, .int .i64 x.1.2.2.2.2.2.2, .slice h9.1 h9.2.1 h9.2.2, .int .i64 x.2.2.1.1, .int .i64 x.2.2.1.2.1, .int .i64 x.2.2.1.2.2, .slice h13.1 h13.2.1 h13.2.2, .slice h14.1 h14.2.1 h14.2.2] ∧ x.1.1.size ≤ 140737488355328 ∧ SlAt RLabel 2 32 A w h1.1 h1.2.1 h1.2.2 x.1.2.1 ∧ SlAt RTaint 3 40 A w h2.1 h2.2.1 h2.2.2 x.1.2.2.1 ∧ SlAt RStr 1 16 A w h9.1 h9.2.1 h9.2.2 x.2.1 ∧ SlAt RInt 1 8 A w h13.1 h13.2.1 h13.2.2 x.2.2.2.1 ∧ SlAt RStr 1 16 A w h14.1 h14.2.1 h14.2.2 x.2.2.2.2 := by
  obtain ⟨l_0, r_0, q_0, f_0, g_0⟩ := h
  obtain ⟨l_0_0, r_0_0, q_0_0, f_0_0, g_0_0⟩ := f_0
  obtain ⟨e_0_0, s_0_0⟩ := f_0_0
  obtain ⟨l_0_1, r_0_1, q_0_1, f_0_1, g_0_1⟩ := g_0_0
  obtain ⟨a_0_1, n_0_1, c_0_1, e_0_1, s_0_1⟩ := f_0_1
  obtain ⟨l_0_2, r_0_2, q_0_2, f_0_2, g_0_2⟩ := g_0_1
  obtain ⟨a_0_2, n_0_2, c_0_2, e_0_2, s_0_2⟩ := f_0_2
  obtain ⟨l_0_3, r_0_3, q_0_3, f_0_3, g_0_3⟩ := g_0_2
  have e_0_3 := f_0_3
  obtain ⟨l_0_4, r_0_4, q_0_4, f_0_4, g_0_4⟩ := g_0_3
  obtain ⟨l_0_4_0, r_0_4_0, q_0_4_0, f_0_4_0, g_0_4_0⟩ := f_0_4
  have e_0_4_0 := f_0_4_0
  obtain ⟨l_0_4_1, r_0_4_1, q_0_4_1, f_0_4_1, g_0_4_1⟩ := g_0_4_0
  have e_0_4_1 := f_0_4_1
  have e_0_4_2 := g_0_4_1
  obtain ⟨l_0_5, r_0_5, q_0_5, f_0_5, g_0_5⟩ := g_0_4
  have e_0_5 := f_0_5
  have e_0_6 := g_0_5
  obtain ⟨l_1, r_1, q_1, f_1, g_1⟩ := g_0
  obtain ⟨a_1, n_1, c_1, e_1, s_1⟩ := f_1
  obtain ⟨l_2, r_2, q_2, f_2, g_2⟩ := g_1
  obtain ⟨l_2_0, r_2_0, q_2_0, f_2_0, g_2_0⟩ := f_2
  have e_2_0 := f_2_0
  obtain ⟨l_2_1, r_2_1, q_2_1, f_2_1, g_2_1⟩ := g_2_0
  have e_2_1 := f_2_1
  have e_2_2 := g_2_1
  obtain ⟨l_3, r_3, q_3, f_3, g_3⟩ := g_2
  obtain ⟨a_3, n_3, c_3, e_3, s_3⟩ := f_3
  obtain ⟨a_4, n_4, c_4, e_4, s_4⟩ := g_3
  exact ⟨(a_0_1, n_0_1, c_0_1), (a_0_2, n_0_2, c_0_2), (a_1, n_1, c_1), (a_3, n_3, c_3), (a_4, n_4, c_4), by rw [q_0, q_0_0, e_0_0, q_0_1, e_0_1, q_0_2, e_0_2, q_0_3, e_0_3, q_0_4, q_0_4_0, e_0_4_0, q_0_4_1, e_0_4_1, e_0_4_2, q_0_5, e_0_5, e_0_6, q_1, e_1, q_2, q_2_0, e_2_0, q_2_1, e_2_1, e_2_2, q_3, e_3, e_4]; rfl, s_0_0, s_0_1, s_0_2, s_1, s_3, s_4⟩
theorem RInfo.mk {A : Where} {w : World} {x : InfoD} {h1 h2 h9 h13 h14 : Hd} (p0 : x.1.1.size ≤ 140737488355328) (p1 : SlAt RLabel 2 32 A w h1.1 h1.2.1 h1.2.2 x.1.2.1) (p2 : SlAt RTaint 3 40 A w h2.1 h2.2.1 h2.2.2 x.1.2.2.1) (p3 : SlAt RStr 1 16 A w h9.1 h9.2.1 h9.2.2 x.2.1) (p4 : SlAt RInt 1 8 A w h13.1 h13.2.1 h13.2.2 x.2.2.2.1) (p5 : SlAt RStr 1 16 A w h14.1 h14.2.1 h14.2.2 x.2.2.2.2) : RInfo A w [.string x.1.1, .slice h1.1 h1.2.1 h1.2.2, .slice h2.1 h2.2.1 h2.2.2, .bool x.1.2.2.2.1, .int .i64 x.1.2.2.2.2.1.1, .int .i64 x.1.2.2.2.2.1.2.1, .int .i64 x.1.2.2.2.2.1.2.2, .int .i64 x.1.2.2.2.2.2.1, .int .i64 x.1.2.2.2.2.2.2, .slice h9.1 h9.2.1 h9.2.2, .int .i64 x.2.2.1.1, .int .i64 x.2.2.1.2.1, .int .i64 x.2.2.1.2.2, .slice h13.1 h13.2.1 h13.2.2, .slice h14.1 h14.2.1 h14.2.2] x :=
  ⟨_, _, rfl, ⟨_, _, rfl, ⟨rfl, p0⟩, ⟨_, _, rfl, ⟨h1.1, h1.2.1, h1.2.2, rfl, p1⟩, ⟨_, _, rfl, ⟨h2.1, h2.2.1, h2.2.2, rfl, p2⟩, ⟨_, _, rfl, rfl, ⟨_, _, rfl, ⟨_, _, rfl, rfl, ⟨_, _, rfl, rfl, rfl⟩⟩, ⟨_, _, rfl, rfl, rfl⟩⟩⟩⟩⟩⟩, ⟨_, _, rfl, ⟨h9.1, h9.2.1, h9.2.2, rfl, p3⟩, ⟨_, _, rfl, ⟨_, _, rfl, rfl, ⟨_, _, rfl, rfl, rfl⟩⟩, ⟨_, _, rfl, ⟨h13.1, h13.2.1, h13.2.2, rfl, p4⟩, ⟨h14.1, h14.2.1, h14.2.2, rfl, p5⟩⟩⟩⟩⟩
end Go.Proofs.Ytpombhiffpbedaa
namespace Go.Proofs.Ytpombhiffpbedaa

/-- What a number counts as. -/
def clampI (a : Int) : Int := if a < 0 then 0 else if 1125899906842624 < a then 1125899906842624 else a
theorem clampI_ge (a : Int) : 0 ≤ clampI a := by unfold clampI; split <;> (try split) <;> omega
theorem clampI_le (a : Int) : clampI a ≤ 1125899906842624 := by unfold clampI; split <;> (try split) <;> omega
theorem clampI_id {a : Int} (h0 : 0 ≤ a) (h1 : a ≤ 1125899906842624) : clampI a = a := by unfold clampI; rw [if_neg (by omega), if_neg (by omega)]
theorem clampI_neg {a : Int} (h : a < 0) : clampI a = 0 := by unfold clampI; rw [if_pos h]
theorem clampI_big {a : Int} (h : 1125899906842624 < a) : clampI a = 1125899906842624 := by unfold clampI; rw [if_neg (by omega), if_pos h]

def addI (a b : Int) : Int := clampI (clampI a + clampI b)
def subI (a b : Int) : Int := clampI (clampI a - clampI b)
theorem addI_ge (a b : Int) : 0 ≤ addI a b := clampI_ge _
theorem addI_le (a b : Int) : addI a b ≤ 1125899906842624 := clampI_le _
theorem subI_ge (a b : Int) : 0 ≤ subI a b := clampI_ge _
theorem subI_le (a b : Int) : subI a b ≤ 1125899906842624 := clampI_le _
theorem clampI_addI (a b : Int) : clampI (addI a b) = addI a b := clampI_id (addI_ge a b) (addI_le a b)
theorem clampI_subI (a b : Int) : clampI (subI a b) = subI a b := clampI_id (subI_ge a b) (subI_le a b)
theorem clampI_clampI (a : Int) : clampI (clampI a) = clampI a := clampI_id (clampI_ge a) (clampI_le a)
theorem addI_def (a b : Int) : addI a b = if 1125899906842624 < clampI a + clampI b then 1125899906842624 else clampI a + clampI b := by
  have h1 := clampI_ge a; have h2 := clampI_ge b
  unfold addI
  rw [clampI, if_neg (by omega)]
theorem subI_def (a b : Int) : subI a b = if clampI a < clampI b then 0 else clampI a - clampI b := by
  have h1 := clampI_ge a; have h2 := clampI_ge b; have h3 := clampI_le a; have h4 := clampI_le b
  unfold subI
  rw [clampI]
  split <;> rename_i h
  · rw [if_pos (by omega)]
  · rw [if_neg (by omega), if_neg (by omega)]
theorem addI_comm (a b : Int) : addI a b = addI b a := by unfold addI; rw [Int.add_comm]
theorem addI_assoc (a b c : Int) : addI (addI a b) c = addI a (addI b c) := by
  have h1 := clampI_ge a; have h2 := clampI_ge b; have h3 := clampI_ge c
  have h4 := clampI_le a; have h5 := clampI_le b; have h6 := clampI_le c
  rw [addI_def (addI a b) c, addI_def a (addI b c), clampI_addI, clampI_addI, addI_def a b, addI_def b c]
  split <;> split <;> split <;> (try split) <;> omega
theorem subI_addI (a b : Int) (h : addI a b ≠ 1125899906842624) : subI (addI a b) b = clampI a := by
  have h1 := clampI_ge a; have h2 := clampI_ge b; have h4 := clampI_le a
  rw [subI_def, clampI_addI]
  rw [addI_def] at h ⊢
  split at h
  · omega
  · rename_i h0
    rw [if_neg h0, if_neg (by omega)]
    omega

/-- A number, times a number, at most MaxAmount. -/
def timesI (a n : Int) : Int := if 1125899906842624 < clampI a * clampI n then 1125899906842624 else clampI a * clampI n
/-- A share. -/
def scaleI (c : Int) : Int := if c < 0 then 0 else if 1000 < c then 1000 else c
theorem scaleI_ge (a : Int) : 0 ≤ scaleI a := by unfold scaleI; split <;> (try split) <;> omega
theorem scaleI_le (a : Int) : scaleI a ≤ 1000 := by unfold scaleI; split <;> (try split) <;> omega
def shareI (a b c : Int) : Int := if clampI b = 0 then 0 else if scaleI c < clampI a * scaleI c / clampI b then scaleI c else clampI a * scaleI c / clampI b
end Go.Proofs.Ytpombhiffpbedaa
namespace Go.Proofs.Ytpombhiffpbedaa
open Go.RowKit
set_option linter.unusedSimpArgs false

def plusR (a b : ResD) : ResD := (addI a.1 b.1, addI a.2.1 b.2.1, addI a.2.2 b.2.2)
def minusR (a b : ResD) : ResD := (subI a.1 b.1, subI a.2.1 b.2.1, subI a.2.2 b.2.2)
def pWant (p : PodD) : ResD := p.2.2.2.1
def pPorts (p : PodD) : List Int := p.2.2.2.2.2.2.2.1
def pClaims (p : PodD) : List ByteArray := p.2.2.2.2.2.2.2.2.2.2.2.1
def pNode (p : PodD) : ByteArray := p.2.2.2.2.2.2.2.2.2.2.2.2.1
abbrev AccD := List ByteArray × ResD × List Int × List ByteArray
def ofStep (s : AccD) (p : PodD) : AccD := if hasB sEq s.1 p.1 = true then s else (s.1 ++ [p.1], plusR s.2.1 (pWant p), s.2.2.1 ++ pPorts p, s.2.2.2 ++ pClaims p)
def ofAcc (L : List PodD) : AccD := L.foldl ofStep ([], (0, 0, 0), [], [])
def accInfo (n : NodeD) (s : AccD) : InfoD := (n, sortB sLt sEq s.1, s.2.1, sortB iLt iEq s.2.2.1, sortB sLt sEq s.2.2.2)
def ofP (n : NodeD) (L : List PodD) : InfoD := accInfo n (ofAcc L)
def addP (i : InfoD) (p : PodD) : InfoD := (i.1, sortB sLt sEq (i.2.1 ++ [p.1]), plusR i.2.2.1 (pWant p), sortB iLt iEq (i.2.2.2.1 ++ pPorts p), sortB sLt sEq (i.2.2.2.2 ++ pClaims p))
def restP (i : InfoD) (p : PodD) (rest : List PodD) : List PodD := rest.filter fun q => !sEq q.1 p.1 && hasB sEq i.2.1 q.1
def freeP (i : InfoD) : ResD := minusR i.1.2.2.2.2.1 i.2.2.1
def clashP (i : InfoD) (p : PodD) : Bool := (pPorts p).any fun q => hasB iEq i.2.2.2.1 q
def sumBy {α : Type} (f : α → Nat) (L : List α) : Nat := (L.map f).sum
/-- What the pods' ports and claims take together is within what an append may ask. -/
def FitsP (L : List PodD) : Prop := sumBy (fun p => (pPorts p).length) L * 8 ≤ 140737488351232 ∧ sumBy (fun p => (pClaims p).length) L * 16 ≤ 140737488351232
theorem acc_succ (L : List PodD) {k : Nat} (hk : k < L.length) : ofAcc (L.take (k + 1)) = ofStep (ofAcc (L.take k)) (L.getD k default) := by
  rw [← take_at hk]; simp [ofAcc]
theorem sumBy_append {α : Type} (f : α → Nat) (L M : List α) : sumBy f (L ++ M) = sumBy f L + sumBy f M := by simp [sumBy]
theorem sumBy_take {α : Type} (f : α → Nat) (L : List α) (k : Nat) : sumBy f (L.take k) ≤ sumBy f L := by
  have := sumBy_append f (L.take k) (L.drop k)
  rw [List.take_append_drop] at this
  omega
theorem acc_len (L : List PodD) : ∀ k, k ≤ L.length → (ofAcc (L.take k)).1.length ≤ k ∧ (ofAcc (L.take k)).2.2.1.length ≤ sumBy (fun p => (pPorts p).length) (L.take k) ∧ (ofAcc (L.take k)).2.2.2.length ≤ sumBy (fun p => (pClaims p).length) (L.take k) := by
  intro k
  induction k with
  | zero => intro _; simp [ofAcc, sumBy]
  | succ k ih =>
    intro hk
    obtain ⟨h1, h2, h3⟩ := ih (by omega)
    rw [acc_succ L (by omega), ← take_at (show k < L.length by omega), sumBy_append, sumBy_append]
    unfold ofStep
    split
    · exact ⟨by omega, by omega, by omega⟩
    · simp only [List.length_append, List.length_singleton]
      simp only [sumBy, List.map_cons, List.map_nil, List.sum_cons, List.sum_nil] at h2 h3 ⊢
      exact ⟨by omega, by omega, by omega⟩
theorem acc_fits {L : List PodD} (h : FitsP L) {k : Nat} (hk : k < L.length) : ((ofAcc (L.take k)).2.2.1.length + (pPorts (L.getD k default)).length) * 8 ≤ 140737488351232 ∧ ((ofAcc (L.take k)).2.2.2.length + (pClaims (L.getD k default)).length) * 16 ≤ 140737488351232 := by
  obtain ⟨_, h2, h3⟩ := acc_len L k (by omega)
  have e1 := sumBy_take (fun p => (pPorts p).length) L (k + 1)
  have e2 := sumBy_take (fun p => (pClaims p).length) L (k + 1)
  rw [← take_at hk, sumBy_append] at e1 e2
  simp only [sumBy, List.map_cons, List.map_nil, List.sum_cons, List.sum_nil] at e1 e2 h2 h3 h
  obtain ⟨h4, h5⟩ := h
  simp only [sumBy] at h4 h5
  exact ⟨by omega, by omega⟩
theorem acc_fits' {L : List PodD} (h : FitsP L) : (ofAcc L).2.2.1.length * 8 ≤ 140737488351232 ∧ (ofAcc L).2.2.2.length * 16 ≤ 140737488351232 := by
  obtain ⟨_, h2, h3⟩ := acc_len L L.length (Nat.le_refl _)
  rw [List.take_of_length_le (Nat.le_refl _)] at h2 h3
  obtain ⟨h4, h5⟩ := h
  exact ⟨by omega, by omega⟩
end Go.Proofs.Ytpombhiffpbedaa
