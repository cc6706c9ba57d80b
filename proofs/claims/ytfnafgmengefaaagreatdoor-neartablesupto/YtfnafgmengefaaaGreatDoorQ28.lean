/- Arguments as they come in, whatever their type: read off memory, they lie as said. No condition beyond the row's own reach. What the laws of layer 8 need of the row's form: arguments as they come in; the table of powers of ten reads as the program's text lays it. No condition. Several rows of one's own side by side: an append to one leaves the others. Plain facts on worlds. No condition. -/
import Derived.Test.YtfnafgmengefaaaGreatDoorQ01
import Derived.Test.YtfnafgmengefaaaGreatDoorQ27
import Derived.Test.YtfnafgmengefaaaGreatDoorQ24
import Derived.Test.YtfnafgmengefaaaGreatDoorCards
import Derived.Test.YtfnafgmengefaaaGreatDoorTie
import Derived.Lib.LaidTab
import Derived.Test.YtfnafgmengefaaaGreatDoorQ10
namespace Go.Proofs.YtfnafgmengefaaaGreatDoor
open Go.ChangeShapes Go.WideShapes Go.ChangeAt Go.RowKit

/-- What is read as of that type lies as said. -/
def Opens {α : Type} (R : Rep α) (t : TypeId) : Prop :=
  ∀ {H : Type} {enc : TypeId × Value → H} {W : World} {base n : Nat} {sp : Nat → Bool} {held : Bool} {cs : List Value} {x : DataW H × List MemPlace},
    DataW.trod enc Tryz.prog W base sp held n t cs = some x → Light x.1 t → ∃ y, R (fun _ => True) W cs y
theorem opens_str : Opens RStr 9 := by
  intro H enc W base n sp held cs x h hl
  obtain ⟨s, hs, rfl, _⟩ := DataW.trod_string Tryz.underlying9 h
  refine ⟨s, hs, ?_⟩
  have := hl s.data.toList.length (by simp [DataW.weights])
  simp at this
  omega
theorem opens_int : Opens RInt 3 := by
  intro H enc W base n sp held cs x h _
  obtain ⟨e, e1, _, _⟩ := DataW.trod_int Tryz.underlying3 h
  exact ⟨e, e1⟩
theorem opens_bool : Opens RBool 4 := by
  intro H enc W base n sp held cs x h _
  obtain ⟨b, b1, _⟩ := DataW.trod_bool Tryz.underlying4 h
  exact ⟨b, b1⟩
theorem opens_slice {α : Type} [Inhabited α] {R : Rep α} {k bytes : Nat} {t e : TypeId} (hR : Firm R k) (hu : Tryz.prog.underlying t = some (.slice e)) (ck : Tryz.prog.cellsOf e = k) (bk : Tryz.prog.bytesOf e = bytes) (hk0 : 0 < k) (hE : Opens R e) : Opens (RSl R k bytes) t := by
  intro H enc W base n sp held cs x h hl
  rcases Go.Deep.open_slice hu h with ⟨hv, _⟩ | ⟨a, len, cap, m, nn, D, Pl, hv, _, hlc, _, hm, rfl, hel⟩
  · exact ⟨[], none, 0, 0, hv, SlAt.nil _ _ _ _ (fun _ => rfl)⟩
  · obtain ⟨w1, w2⟩ := light_slice hu hl
    simp only [List.length_map, List.length_range, bk] at w1
    have hml : len ≤ m := by rw [hm]; split <;> omega
    rw [ck] at hel
    have each : ∀ i, i < len → ∃ y : α, ∃ cs, R (fun _ => True) W cs y ∧ ∀ j u, cs[j]? = some u → W.cell? ((a.add (i * k)).add j) = some u := fun i hi => by
      obtain ⟨cs', h1, h2⟩ := hel i (by omega)
      obtain ⟨y, hy⟩ := hE h2 (w2 _ (List.mem_map.2 ⟨i, List.mem_range.2 hi, rfl⟩))
      obtain ⟨_, _, hcell⟩ := World.cells?_some h1
      refine ⟨y, cs', hy, fun j u hj => ?_⟩
      have hjk : j < k := by
        have := (List.getElem?_eq_some_iff.1 hj).1
        rwa [hR.len hy] at this
      rw [hcell j hjk, hj]
    obtain ⟨f, hf⟩ := Go.Deep.choose_lt each
    refine ⟨(List.range len).map f, some a, len, cap, hv, by simp, hlc, (fun h => by cases h), w1, fun hpos => ?_⟩
    obtain ⟨B, off, spot⟩ := a
    obtain ⟨cs0, hr0, hc0⟩ := hf 0 hpos
    have hex : ∃ u, cs0[0]? = some u := by
      cases e : cs0 with
      | nil => have := hR.len hr0; rw [e] at this; simp at this; omega
      | cons u r => exact ⟨u, rfl⟩
    obtain ⟨u0, hu0⟩ := hex
    have hc0 := hc0 0 u0 hu0
    have hsp : spot = none := by
      have := World.cell?_spot hc0
      simpa [Addr.add] using this
    subst hsp
    rw [add_lit, add_lit] at hc0
    refine ⟨B, off, rfl, addr_lt hc0, trivial, fun i hi => ?_⟩
    obtain ⟨cs, hr, hc⟩ := hf i hi
    refine ⟨cs, by rw [getD_range f len i hi]; exact hr, fun j u hj => ?_⟩
    have := hc j u hj
    rwa [add_lit, add_lit] at this
/-- The same of a struct's fields from a place on. -/
def OpensFs {α : Type} (fs : List Field) (off total : Nat) (R : Rep α) : Prop :=
  ∀ {H : Type} {enc : TypeId × Value → H} {W : World} {base n : Nat} {sp : Nat → Bool} {held : Bool} {cs : List Value}, cs.length = total →
    (∀ (j : Nat) (f : Field), fs[j]? = some f → ∃ d, DataW.trod enc Tryz.prog W base sp held n f.type ((cs.drop f.offset).take (Tryz.prog.cellsOf f.type)) = some d ∧ Light d.1 f.type) → ∃ y, R (fun _ => True) W (cs.drop off) y
theorem opensFs_last {α : Type} {R : Rep α} {f : Field} {off total : Nat} (ho : f.offset = off) (ht : off + Tryz.prog.cellsOf f.type = total) (h : Opens R f.type) : OpensFs [f] off total R := by
  intro H enc W base n sp held cs hl hf
  obtain ⟨d, h1, h2⟩ := hf 0 f rfl
  rw [ho, List.take_of_length_le (by rw [List.length_drop]; omega)] at h1
  exact h h1 h2
theorem opensFs_cons {α β : Type} {R : Rep α} {S : Rep β} {f : Field} {fs : List Field} {off m total : Nat} (ho : f.offset = off) (hm : off + Tryz.prog.cellsOf f.type = m) (h : Opens R f.type) (hs : OpensFs fs m total S) : OpensFs (f :: fs) off total (RPair R S) := by
  intro H enc W base n sp held cs hl hf
  obtain ⟨d, h1, h2⟩ := hf 0 f rfl
  rw [ho] at h1
  obtain ⟨y, hy⟩ := h h1 h2
  obtain ⟨z, hz⟩ := hs (cs := cs) hl (fun j g hg => hf (j + 1) g (by simpa using hg))
  refine ⟨(y, z), (cs.drop off).take (Tryz.prog.cellsOf f.type), cs.drop m, ?_, hy, hz⟩
  rw [← hm, ← List.drop_drop]
  exact (List.take_append_drop _ _).symm
theorem opens_struct {α : Type} {R : Rep α} {t : TypeId} {fs : Array Field} {total : Nat} (hu : Tryz.prog.underlying t = some (.struct fs)) (hc : Tryz.prog.cellsOf t = total) (h : OpensFs fs.toList 0 total R) : Opens R t := by
  intro H enc W base n sp held cs x hx hl
  obtain ⟨xs, m, _, rfl, hlen, hxs, hf⟩ := DataW.trod_struct hu hx
  have := h (enc := enc) (W := W) (base := base) (n := m) (sp := sp) (held := held) (cs := cs) (by rw [hlen, hc]) (fun j f hj => by
    have hj' : fs[j]? = some f := by simpa using hj
    have h1 := hf j f hj'
    have hlt : j < xs.length := by
      have := (Array.getElem?_eq_some_iff.1 hj').1
      omega
    have h2 : xs[j]? = some xs[j] := List.getElem?_eq_getElem hlt
    rw [h2] at h1
    refine ⟨xs[j], h1, light_struct hu hl (j := j) (by simp [hj']) (by simp [h2])⟩)
  simpa using this
theorem arg_agg {P : Program} {t : TypeId} {fs : Array Field} (hu : P.underlying t = some (.struct fs)) {H : Type} {enc : TypeId × Value → H} {W : World} {base b0 : Nat} {r : Reach} {sp : Nat → Bool} {held : Bool} {v : Value} {d : DataW H} {p : List MemPlace}
    (hv : Value.okWide P W r b0 t v) (hd : DataW.Trod enc P W base sp held t v d p) : ∃ (cs : Array Value) (fuel : Nat), v = .agg cs ∧ DataW.trod enc P W base sp held fuel t cs.toList = some (d, p) := by
  obtain ⟨cs, rfl, _⟩ := okWide_struct hu hv
  obtain ⟨fuel, hf⟩ := hd
  exact ⟨cs, fuel, rfl, hf⟩
set_option maxRecDepth 100000 in
/-- A struct that is handed in. -/
theorem opens_arg {α : Type} {R : Rep α} {t : TypeId} {fs : Array Field} (hu : Tryz.prog.underlying t = some (.struct fs)) (h : Opens R t) {H : Type} {enc : TypeId × Value → H} {W : World} {base b0 : Nat} {r : Reach} {sp : Nat → Bool} {held : Bool} {v : Value} {d : DataW H} {p : List MemPlace}
    (hv : Value.okWide Tryz.prog W r b0 t v) (hd : DataW.Trod enc Tryz.prog W base sp held t v d p) (hl : Light d t) : ∃ cs y, v = .agg cs ∧ R (fun _ => True) W cs.toList y := by
  obtain ⟨cs, fuel, e, hf⟩ := arg_agg hu hv hd
  obtain ⟨y, hy⟩ := h hf hl
  exact ⟨cs, y, e, hy⟩
end Go.Proofs.YtfnafgmengefaaaGreatDoor
namespace Go.Proofs.YtfnafgmengefaaaGreatDoor
open Go.ChangeShapes Go.WideShapes Go.ChangeAt Go.RowKit

theorem opens_Label : Opens RLabel 55 := opens_struct (total := 2) Tryz.underlying55 (by kernel_rfl) (opensFs_cons (m := 1) rfl (by kernel_rfl) opens_str (opensFs_last rfl (by kernel_rfl) opens_str))
theorem opens_s_str : Opens (RSl RStr 1 16) 31 := opens_slice RStr.firm Tryz.underlying31 (by kernel_rfl) (by kernel_rfl) (by decide) opens_str
theorem opens_Req : Opens RReq 108 := opens_struct (total := 3) Tryz.underlying108 (by kernel_rfl) (opensFs_cons (m := 1) rfl (by kernel_rfl) opens_str (opensFs_cons (m := 2) rfl (by kernel_rfl) opens_int (opensFs_last rfl (by kernel_rfl) opens_s_str)))
theorem opens_Res : Opens RRes 24 := opens_struct (total := 3) Tryz.underlying24 (by kernel_rfl) (opensFs_cons (m := 1) rfl (by kernel_rfl) opens_int (opensFs_cons (m := 2) rfl (by kernel_rfl) opens_int (opensFs_last rfl (by kernel_rfl) opens_int)))
theorem opens_Bear : Opens RBear 92 := opens_struct (total := 4) Tryz.underlying92 (by kernel_rfl) (opensFs_cons (m := 1) rfl (by kernel_rfl) opens_str (opensFs_cons (m := 2) rfl (by kernel_rfl) opens_str (opensFs_cons (m := 3) rfl (by kernel_rfl) opens_bool (opensFs_last rfl (by kernel_rfl) opens_int))))
theorem opens_s_Req : Opens (RSl RReq 3 48) 26 := opens_slice RReq.firm Tryz.underlying26 (by kernel_rfl) (by kernel_rfl) (by decide) opens_Req
theorem opens_Term : Opens RTerm 80 := opens_struct (total := 2) Tryz.underlying80 (by kernel_rfl) (opensFs_cons (m := 1) rfl (by kernel_rfl) opens_s_Req (opensFs_last rfl (by kernel_rfl) opens_str))
theorem opens_Prefer : Opens RPrefer 72 := opens_struct (total := 2) Tryz.underlying72 (by kernel_rfl) (opensFs_cons (m := 1) rfl (by kernel_rfl) opens_s_Req (opensFs_last rfl (by kernel_rfl) opens_int))
theorem opens_Spread : Opens RSpread 76 := opens_struct (total := 4) Tryz.underlying76 (by kernel_rfl) (opensFs_cons (m := 1) rfl (by kernel_rfl) opens_str (opensFs_cons (m := 2) rfl (by kernel_rfl) opens_int (opensFs_cons (m := 3) rfl (by kernel_rfl) opens_int (opensFs_last rfl (by kernel_rfl) opens_s_Req))))
theorem opens_s_Label : Opens (RSl RLabel 2 32) 22 := opens_slice RLabel.firm Tryz.underlying22 (by kernel_rfl) (by kernel_rfl) (by decide) opens_Label
theorem opens_s_Bear : Opens (RSl RBear 4 48) 25 := opens_slice RBear.firm Tryz.underlying25 (by kernel_rfl) (by kernel_rfl) (by decide) opens_Bear
theorem opens_s_Prefer : Opens (RSl RPrefer 2 32) 27 := opens_slice RPrefer.firm Tryz.underlying27 (by kernel_rfl) (by kernel_rfl) (by decide) opens_Prefer
theorem opens_s_int : Opens (RSl RInt 1 8) 28 := opens_slice RInt.firm Tryz.underlying28 (by kernel_rfl) (by kernel_rfl) (by decide) opens_int
theorem opens_s_Term : Opens (RSl RTerm 2 40) 29 := opens_slice RTerm.firm Tryz.underlying29 (by kernel_rfl) (by kernel_rfl) (by decide) opens_Term
theorem opens_s_Spread : Opens (RSl RSpread 4 56) 30 := opens_slice RSpread.firm Tryz.underlying30 (by kernel_rfl) (by kernel_rfl) (by decide) opens_Spread
theorem opens_Pod : Opens RPod 33 := opens_struct (total := 16) Tryz.underlying33 (by kernel_rfl) (opensFs_cons (m := 1) rfl (by kernel_rfl) opens_str (opensFs_cons (m := 2) rfl (by kernel_rfl) opens_int (opensFs_cons (m := 3) rfl (by kernel_rfl) opens_s_Label (opensFs_cons (m := 6) rfl (by kernel_rfl) opens_Res (opensFs_cons (m := 7) rfl (by kernel_rfl) opens_s_Bear (opensFs_cons (m := 8) rfl (by kernel_rfl) opens_s_Req (opensFs_cons (m := 9) rfl (by kernel_rfl) opens_s_Prefer (opensFs_cons (m := 10) rfl (by kernel_rfl) opens_s_int (opensFs_cons (m := 11) rfl (by kernel_rfl) opens_s_Term (opensFs_cons (m := 12) rfl (by kernel_rfl) opens_s_Term (opensFs_cons (m := 13) rfl (by kernel_rfl) opens_s_Spread (opensFs_cons (m := 14) rfl (by kernel_rfl) opens_s_str (opensFs_cons (m := 15) rfl (by kernel_rfl) opens_str (opensFs_last rfl (by kernel_rfl) opens_str))))))))))))))
theorem opens_Placed : Opens RPlaced 41 := opens_struct (total := 17) Tryz.underlying41 (by kernel_rfl) (opensFs_cons (m := 16) rfl (by kernel_rfl) opens_Pod (opensFs_last rfl (by kernel_rfl) opens_s_Label))
theorem opens_s_Placed : Opens (RSl RPlaced 17 320) 34 := opens_slice RPlaced.firm Tryz.underlying34 (by kernel_rfl) (by kernel_rfl) (by decide) opens_Placed

/-- The tail of a list of laid variables is laid. -/
theorem laid_tail {P : Program} {W : World} {n : String} {d : DataW Unit} {r : List (String × DataW Unit)} (h : laidMet P ((n, d) :: r) W) : laidMet P r W := by
  obtain ⟨ps, ⟨g, t, cs, fuel, p, q, _, _, _, _, hq, rfl⟩, hn, hc⟩ := h
  exact ⟨q, hq, (List.nodup_append.1 hn).2.1, fun b off hm => hc b off (by simp [hm])⟩

theorem gPow : Tryz.prog.globalNamed "internal/strconv.uint64pow10" = some 0 := by kernel_rfl
theorem gPowType : (Tryz.prog.globals[0]?).map (·.type) = some 166 := by kernel_rfl
theorem cellsPow : Tryz.prog.cellsOf 166 = 20 := by kernel_rfl
theorem cellsU64 : Tryz.prog.cellsOf 99 = 1 := by kernel_rfl



abbrev laidAll : List (String × DataW Unit) := [("math/bits.deBruijn32tab", Rows.laid_math_bits_deBruijn32tab), ("math/bits.deBruijn64tab", Rows.laid_math_bits_deBruijn64tab), ("internal/strconv.uint64pow10", Rows.laid_internal_strconv_uint64pow10)]

theorem tb_of_laid {W : World} (h : laidMetH Tryz.prog laidAll W) : Hid (TB W.heap.size W) := by
  have h' : laidMet Tryz.prog laidAll W := h
  have h3 := laid_tail (laid_tail h')
  exact Lib.tabBelow_of_tabIs (Lib.tabIs_of_head (zs := Lib.pow10Tab) (rest := []) gPow gPowType Tryz.underlying166 Tryz.underlying99 cellsU64 cellsPow h3)

def cellsOfTab (k : IntKind) (zs : List Int) : Array Value := (zs.map fun z => Value.int k z).toArray
def bruijn32 : List Int := [0, 1, 28, 2, 29, 14, 24, 3, 30, 22, 20, 15, 25, 17, 4, 8, 31, 27, 13, 23, 21, 19, 16, 7, 26, 12, 18, 6, 11, 5, 10, 9]
def bruijn64 : List Int := [0, 1, 56, 2, 57, 49, 28, 3, 61, 58, 42, 50, 38, 29, 17, 4, 62, 47, 59, 36, 45, 43, 51, 22, 53, 39, 33, 30, 24, 18, 12, 5, 63, 55, 48, 27, 60, 41, 37, 16, 46, 35, 44, 21, 52, 32, 23, 11, 54, 26, 40, 15, 34, 20, 31, 10, 25, 14, 19, 9, 13, 8, 7, 6]
def putCells (c : Array Value) : Obj → Obj
  | .cells _ t frozen => .cells c t frozen
  | o => o
/-- The world w with the three tables laid. -/
def layTabs (w : World) : World :=
  { w with heap := ((w.heap.modify 0 (putCells (cellsOfTab .u64 Lib.pow10Tab))).modify 2 (putCells (cellsOfTab .u8 bruijn32))).modify 3 (putCells (cellsOfTab .u8 bruijn64)) }
end Go.Proofs.YtfnafgmengefaaaGreatDoor
namespace Go.Proofs.YtfnafgmengefaaaGreatDoor
open Go.RowKit
set_option linter.unusedSimpArgs false

section
variable {α : Type} [Inhabited α] {R : Rep α} {k : Nat}
theorem Row.lt {A : Where} {w0 u : World} {e : TypeId} {v : Value} {L : List α} (h : Row R k A w0 u e v L) {b : Nat} (hb : v.ownBlock = some b) : w0.heap.size ≤ b ∧ b < u.heap.size := by
  obtain ⟨xs, h1, _⟩ := h
  exact h1.2.lt b hb
theorem Row.grown (hR : Firm R k) {A : Where} {w0 u u' : World} {row : Option Nat} {e : TypeId} {v : Value} {L : List α} (h : Row R k A w0 u e v L) (hg : u.grownBy u' row) (hn : ∀ b, row = some b → w0.heap.size ≤ b ∧ v.ownBlock ≠ some b ∧ ¬ A b) : Row R k A w0 u' e v L := by
  obtain ⟨xs, ⟨h1, h0, h2⟩, h3⟩ := h
  refine ⟨xs, ⟨?_, h0, ?_⟩, h3.kept hR (Kept.grown hg (fun b hb h => (hn b hb).2.2 h.1))⟩
  · exact Below.grown h1 hg h1.size (fun b hb => (hn b hb).1)
  · rcases h2 with h2 | ⟨g, cap, cur, hv, hg0, hh, r⟩
    · exact .inl h2
    · refine .inr ⟨g, cap, cur, hv, hg0, ?_, r⟩
      rw [hg.block g ?_ ?_]
      · exact hh
      · rcases Nat.lt_or_ge g u.heap.size with h | h
        · exact h
        · rw [Array.getElem?_eq_none h] at hh; cases hh
      · intro e1
        have := (hn g e1.symm).2.1
        rw [hv] at this
        exact this rfl
/-- An append of what lies in a slice, or in none, with the place of the new row. -/
theorem row_appendP_wp (hR : Firm R k) {o : Oper} {a : Act} {K : Act → World → Prop} {Q : Exit → Act → World → Prop} {A : Where} {w0 u : World} (s x : Operand) (t e : TypeId)
    (ho : o.op = .call { callee := .builtin .append, args := #[s, x], argTypes := #[t, t] }) (z : Value) (bytes : Nat) (hinfo : (Tryz.prog.info? e).map (fun i => (i.zero, i.size, i.bytes)) = some (some z, k, bytes)) (ht : Tryz.prog.underlying t = some (.slice e)) (hzs : z.cells.size = k) (hk0 : 0 < k) (hby : 1 ≤ bytes)
    (v : Value) (L : List α) (hs : a.eval s = v) (hrow : Row R k A w0 u e v L)
    (ad : Option Addr) (m c : Nat) (N : List α) (hx : a.eval x = .slice ad m c) (hN : Src R k (fun b => A b ∧ v.ownBlock ≠ some b) u ad m N) (hb : (L.length + N.length) * bytes ≤ 140737488355328)
    (h : ∀ v' u', Row R k A w0 u' e v' (L ++ N) → u.grownBy u' v.ownBlock → (v'.ownBlock = v.ownBlock ∨ v'.ownBlock = some u.heap.size) → K (a.put o.dst v') u') : o.wp Tryz.prog a u K Q := by
  obtain ⟨hm, hN⟩ := hN
  rcases hN with ⟨rfl, rfl⟩ | ⟨ad, news, rfl, hN, hcells, h1⟩
  · obtain rfl : m = 0 := by simpa using hm.symm
    obtain ⟨i0, hi, hz0, hz1, hz2⟩ := info_parts hinfo
    have hr : ∀ ty, (Builtin.append_ #[t, t] ty #[v, .slice none 0 c]).run Tryz.prog u = .ok v u := by
      intro ty
      obtain ⟨xs, hown, _⟩ := hrow
      rcases hown.2.2 with ⟨rfl, _⟩ | ⟨g, cap, cur, rfl, _, hg, hnc, _⟩
      · simp [Builtin.append_, run_underlying ht, sizeOf, typeInfo, hi, Builtin.lenOf, Builtin.firstCells, loadCells, loadCellsFrom]
      · simp [Builtin.append_, run_underlying ht, sizeOf, typeInfo, hi, Builtin.lenOf, Builtin.firstCells, loadCells, loadCellsFrom, hnc, storeCells]
    unfold Oper.wp execOp
    simp only [ho, resolve, invoke, builtin, Sem.run_bind, Sem.run_pure, Result.andThen_ok, List.map_toArray, List.map_cons, List.map_nil, hs, hx, hr]
    exact h v u (by simpa using hrow) ⟨rfl, rfl, rfl, Nat.le_refl _, fun _ _ _ => rfl⟩ (.inl rfl)
  · subst hm
    obtain ⟨i0, hi, hz0, hz1, hz2⟩ := info_parts hinfo
    obtain ⟨xs, hown, hch⟩ := hrow
    have hmul : (L.length + N.length) * 1 ≤ (L.length + N.length) * bytes := Nat.mul_le_mul_left _ hby
    obtain ⟨v', u', hr, h2, h3, h4, h5⟩ := run_append_own_at (P := Tryz.prog) u w0.heap.size t o.type e i0 z k bytes ht hi hz0 hz1 hz2 hzs hk0 v L.length xs hown.2 ad N.length c news hN.1 hcells h1 (by unfold maxLen; omega) hb hown.1.size
    unfold Oper.wp execOp
    simp only [ho, resolve, invoke, builtin, Sem.run_bind, Sem.run_pure, Result.andThen_ok, List.map_toArray, List.map_cons, List.map_nil, hs, hx, hr]
    refine (h v' u' ⟨xs ++ news, ⟨hown.row h3, by rw [List.length_append]; exact h2⟩, ?_⟩ h3 h5)
    have put : ∀ {ys : List Value} {M : List α}, Chunks R k (fun b => A b ∧ v.ownBlock ≠ some b) u ys M → Chunks R k (fun b => A b ∧ v'.ownBlock ≠ some b) u' ys M := fun {ys M} hc => by
      have c1 := hc.weak hR (A' := fun b => (A b ∧ v.ownBlock ≠ some b) ∧ b < u.heap.size) (fun b hb h => ⟨h, hb⟩)
      have c2 := c1.kept hR (Kept.grown h3 (fun b e => fun h => h.1.2 e))
      refine c2.weak hR (fun b _ h => ⟨h.1.1, fun e => ?_⟩)
      rcases h5 with h5 | h5
      · rw [h5] at e; exact h.1.2 e
      · rw [h5] at e
        have : u.heap.size = b := by simpa using e
        exact absurd h.2 (by omega)
    obtain ⟨l1, c1⟩ := put hch
    obtain ⟨l2, c2⟩ := put hN
    refine ⟨by rw [List.length_append, List.length_append, l1, l2, Nat.add_mul], fun i hi => ?_⟩
    rcases Nat.lt_or_ge i L.length with h' | h'
    · obtain ⟨cs, q1, q2⟩ := c1 i h'
      have e : (L ++ N).getD i default = L.getD i default := by rw [getE _ _ hi, getE _ _ h', List.getElem_append_left h']
      refine ⟨cs, by rw [e]; exact q1, fun j hj => ?_⟩
      rw [List.getElem?_append_left (by have : (i + 1) * k ≤ L.length * k := Nat.mul_le_mul_right k h'; rw [Nat.add_mul] at this; omega)]
      exact q2 j hj
    · have h'' : i - L.length < N.length := by simp at hi; omega
      obtain ⟨cs, q1, q2⟩ := c2 (i - L.length) h''
      have e : (L ++ N).getD i default = N.getD (i - L.length) default := by rw [getE _ _ hi, getE _ _ h'', List.getElem_append_right h']
      refine ⟨cs, by rw [e]; exact q1, fun j hj => ?_⟩
      have hle : L.length * k ≤ i * k := Nat.mul_le_mul_right k h'
      rw [List.getElem?_append_right (by omega), l1, idx_part i L.length k j h', ← q2 j hj]
/-- At a plain region's list of operations. -/
theorem row_appendP (hR : Firm R k) {ops : Array Oper} {rest : List Oper} {o : Oper} {a : Act} {Q : Exit → Act → World → Prop} {A : Where} {w0 u : World} (hgd : Region.wanted o (yielded ops a.tmps) = true) (s x : Operand) (t e : TypeId)
    (ho : o.op = .call { callee := .builtin .append, args := #[s, x], argTypes := #[t, t] }) (z : Value) (bytes : Nat) (hinfo : (Tryz.prog.info? e).map (fun i => (i.zero, i.size, i.bytes)) = some (some z, k, bytes)) (ht : Tryz.prog.underlying t = some (.slice e)) (hzs : z.cells.size = k) (hk0 : 0 < k) (hby : 1 ≤ bytes)
    (v : Value) (L : List α) (hs : a.eval s = v) (hrow : Row R k A w0 u e v L)
    (ad : Option Addr) (m c : Nat) (N : List α) (hx : a.eval x = .slice ad m c) (hN : Src R k (fun b => A b ∧ v.ownBlock ≠ some b) u ad m N) (hb : (L.length + N.length) * bytes ≤ 140737488355328)
    (h : ∀ v' u', Row R k A w0 u' e v' (L ++ N) → u.grownBy u' v.ownBlock → (v'.ownBlock = v.ownBlock ∨ v'.ownBlock = some u.heap.size) → wpList Tryz.prog ops Q rest (a.put o.dst v') u') : wpList Tryz.prog ops Q (o :: rest) a u :=
  BigFrame.wpList_want hgd (fun _ hK => row_appendP_wp hR s x t e ho z bytes hinfo ht hzs hk0 hby v L hs hrow ad m c N hx hN hb (fun v' u' h2 h3 h4 => hK _ _ (h v' u' h2 h3 h4)))
end
end Go.Proofs.YtfnafgmengefaaaGreatDoor
