/- taint.meant, taint.Bears and the document's own Bears return what the plain function says, and change nothing that was there. No condition. What a right taint, and something right to bear, is, as plain functions. No program. No condition. taint.borne, unborne and hasTwin: what is looked for by a function that is handed in comes out as the plain functions say. Condition: the slices hold what is said of them. taint.Kept and taint.Shy return what the plain functions say, and change nothing that was there. Condition: the slices hold what is said of them. The document's own Bears returns what the plain function says, and changes nothing that was there. No condition. The document's own borne, Kept and Shy return what the plain functions say, and change nothing that was there. Condition: the slices hold what is said of them. Slices of texts, labels and what is asked, told in the words of layer 2; calls of layers 2 and 3 over them. Plain facts on worlds. No condition. The document's Domains. Condition: the arguments lie as is said of them. The document's Count of layer 9. Condition: the arguments lie as is said of them. -/
import Derived.Test.YtillkgflppabfaaGreatDoorQ07
import Derived.Test.YtillkgflppabfaaGreatDoorQ02
import Derived.Laws.StructEq
import Derived.Test.YtillkgflppabfaaGreatDoorQ10
import Derived.Shelf.Abstract
import Derived.Test.YtillkgflppabfaaGreatDoorQ06
namespace Go.Proofs.YtillkgflppabfaaGreatDoor
open Go.RowKit
set_option linter.unusedSimpArgs false

theorem guardT : Tryz.prog.eqGuardType Tryz.prog.depth 89 = false := by kernel_rfl
theorem guardB : Tryz.prog.eqGuardType Tryz.prog.depth 95 = false := by kernel_rfl
theorem eqT (x y : Tnt) (w : World) : Sem.run Tryz.prog (binOp .eql 89 (.agg #[.string x.1, .string x.2.1, .int .i64 x.2.2]) (.agg #[.string y.1, .string y.2.1, .int .i64 y.2.2])) w = .ok (.bool (tEq x y)) w := by
  have u3 := Tryz.underlying3
  have a3 := Tryz.isAgg3
  have z3 := Tryz.sizeOf3
  have u9 := Tryz.underlying9
  have a9 := Tryz.isAgg9
  have z9 := Tryz.sizeOf9
  have hS : Tryz.prog.underlying 89 = some (.struct (Tryz.prog.fieldsOf 89)) := by kernel_rfl
  have hp : Tryz.prog.stoodInHeld 89 = false := by kernel_rfl
  rw [run_eql_struct, show (10000 : Nat) = 9999 + 1 from rfl, run_equalIn_agg w 9999 89 _ _ hS hp]
  simp only [Program.fieldsOf, Tryz.underlying89]
  go_simp
  simp only [tEq, sEq]
  by_cases h1 : x.1.toList = y.1.toList <;> by_cases h2 : x.2.1.toList = y.2.1.toList <;> by_cases h3 : x.2.2 = y.2.2 <;> simp [h1, h2, h3]
theorem eqB (x y : Bear) (w : World) : Sem.run Tryz.prog (binOp .eql 95 (.agg #[.string x.1, .string x.2.1, .bool x.2.2.1, .int .i64 x.2.2.2]) (.agg #[.string y.1, .string y.2.1, .bool y.2.2.1, .int .i64 y.2.2.2])) w = .ok (.bool (bEq x y)) w := by
  have u3 := Tryz.underlying3
  have a3 := Tryz.isAgg3
  have z3 := Tryz.sizeOf3
  have u4 := Tryz.underlying4
  have a4 := Tryz.isAgg4
  have z4 := Tryz.sizeOf4
  have u9 := Tryz.underlying9
  have a9 := Tryz.isAgg9
  have z9 := Tryz.sizeOf9
  have hS : Tryz.prog.underlying 95 = some (.struct (Tryz.prog.fieldsOf 95)) := by kernel_rfl
  have hp : Tryz.prog.stoodInHeld 95 = false := by kernel_rfl
  rw [run_eql_struct, show (10000 : Nat) = 9999 + 1 from rfl, run_equalIn_agg w 9999 95 _ _ hS hp]
  simp only [Program.fieldsOf, Tryz.underlying95]
  go_simp
  simp only [bEq, sEq]
  by_cases h1 : x.1.toList = y.1.toList <;> by_cases h2 : x.2.1.toList = y.2.1.toList <;> by_cases h3 : x.2.2.1 = y.2.2.1 <;> by_cases h4 : x.2.2.2 = y.2.2.2 <;> simp [h1, h2, h3, h4]

/-- The two boxes hold what came in, and nothing that was there has turned. -/
def BeS (wB : World) (D E : Nat) (bk bv : ByteArray) (ba : Bool) (be : Int) (tk tv : ByteArray) (te : Int) (u : World) : Prop :=
  Below wB.heap.size wB u ∧ u.cell? ⟨D, 0, none⟩ = some (.string bk) ∧ u.cell? ⟨D, 1, none⟩ = some (.string bv) ∧ u.cell? ⟨D, 2, none⟩ = some (.bool ba) ∧ u.cell? ⟨D, 3, none⟩ = some (.int .i64 be) ∧
    u.cell? ⟨E, 0, none⟩ = some (.string tk) ∧ u.cell? ⟨E, 1, none⟩ = some (.string tv) ∧ u.cell? ⟨E, 2, none⟩ = some (.int .i64 te)
theorem BeS.to {wB u' : World} {D E : Nat} {bk bv : ByteArray} {ba : Bool} {be : Int} {tk tv : ByteArray} {te : Int} (h : BeS wB D E bk bv ba be tk tv te wB) (hD : D < wB.heap.size) (hE : E < wB.heap.size) (hb : Below wB.heap.size wB u') : BeS wB D E bk bv ba be tk tv te u' := by
  obtain ⟨_, h1, h2, h3, h4, h5, h6, h7⟩ := h
  exact ⟨hb, (hb.cell hD).trans h1, (hb.cell hD).trans h2, (hb.cell hD).trans h3, (hb.cell hD).trans h4, (hb.cell hE).trans h5, (hb.cell hE).trans h6, (hb.cell hE).trans h7⟩

end Go.Proofs.YtillkgflppabfaaGreatDoor
namespace Go.Proofs.YtillkgflppabfaaGreatDoor
open Go.RowKit

/-- Has one of the list t's key and t's effect? -/
def twinB (L : List Tnt) (t : Tnt) : Bool := L.any fun x => sEq x.1 t.1 && (x.2.2 == t.2.2)
def effB (e : Int) : Bool := (e == 1) || (e == 2)
def taintOk (x : Tnt) : Bool := wordB x.1 && valB x.2.1 && effB x.2.2
def tOk (L : List Tnt) (i : Nat) : Bool := taintOk (L.getD i default) && !twinB (L.take i) (L.getD i default)
def checkT (L : List Tnt) : Int := if 64 < L.length then 3 else if allTo L.length (tOk L) then 0 else 30
def bearOk (b : Bear) : Bool := (b.2.2.2 == 0 || effB b.2.2.2) && (if b.2.2.1 then valB b.1 && sNil b.2.1 else wordB b.1 && valB b.2.1)
def checkBr (L : List Bear) : Int := if 64 < L.length then 3 else if allTo L.length (fun i => bearOk (L.getD i default)) then 0 else 30
theorem reti {a b : Int} (h : a = b) : Ending.returned (.int .i64 a) = .returned (.int .i64 b) := by rw [h]
theorem checkT_long {L : List Tnt} (h : 64 < L.length) : checkT L = 3 := if_pos h
theorem checkT_bad {L : List Tnt} {k : Nat} (h : ¬ 64 < L.length) (hk : k < L.length) (hb : tOk L k = false) : checkT L = 30 := by
  unfold checkT; rw [if_neg h, allTo_false hk hb]; rfl
theorem checkT_ok {L : List Tnt} (h : ¬ 64 < L.length) (hall : ∀ j, j < L.length → tOk L j = true) : checkT L = 0 := by
  unfold checkT; rw [if_neg h, allTo_true hall]; rfl
theorem checkBr_long {L : List Bear} (h : 64 < L.length) : checkBr L = 3 := if_pos h
theorem checkBr_bad {L : List Bear} {k : Nat} (h : ¬ 64 < L.length) (hk : k < L.length) (hb : bearOk (L.getD k default) = false) : checkBr L = 30 := by
  unfold checkBr; rw [if_neg h, allTo_false hk hb]; rfl
theorem checkBr_ok {L : List Bear} (h : ¬ 64 < L.length) (hall : ∀ j, j < L.length → bearOk (L.getD j default) = true) : checkBr L = 0 := by
  unfold checkBr; rw [if_neg h, allTo_true hall]; rfl
theorem getD_take {α : Type} [Inhabited α] (L : List α) (m i : Nat) (h : i < m) (hl : i < L.length) : (L.take m).getD i default = L.getD i default := by
  rw [getE _ _ (by rw [List.length_take]; omega), getE _ _ hl]; simp
end Go.Proofs.YtillkgflppabfaaGreatDoor
namespace Go.Proofs.YtillkgflppabfaaGreatDoor
open Go.RowKit Go.Shelf
set_option linter.unusedSimpArgs false

/-- Block D holds a taint, and may be written. -/
def BoxT (u : World) (D : Nat) (x : Tnt) : Prop :=
  D < u.heap.size ∧ (u.cell? ⟨D, 0, none⟩ = some (.string x.1) ∧ u.cell? ⟨D, 1, none⟩ = some (.string x.2.1) ∧ u.cell? ⟨D, 2, none⟩ = some (.int .i64 x.2.2)) ∧ u.frozen? ⟨D, 0, none⟩ = false ∧ u.frozen? ⟨D, 1, none⟩ = false ∧ u.frozen? ⟨D, 2, none⟩ = false
theorem BoxT.on {u u' : World} {D : Nat} {x : Tnt} (h : BoxT u D x) (hb : Below u.heap.size u u') : BoxT u' D x := by
  obtain ⟨hB, ⟨h0, h1, h2⟩, f0, f1, f2⟩ := h
  exact ⟨Nat.lt_of_lt_of_le hB hb.size, ⟨(hb.cell hB).trans h0, (hb.cell hB).trans h1, (hb.cell hB).trans h2⟩, (hb.frozen hB).trans f0, (hb.frozen hB).trans f1, (hb.frozen hB).trans f2⟩
theorem BoxT.new (u : World) (t : TypeId) (x : Tnt) : BoxT (u.alloc (.cells #[.string x.1, .string x.2.1, .int .i64 x.2.2] t)) u.heap.size x :=
  ⟨by simp, ⟨by simp [go_sem], by simp [go_sem], by simp [go_sem]⟩, by simp [go_sem], by simp [go_sem], by simp [go_sem]⟩

theorem twin_eq (x t : Tnt) : tEq (x.1, t.2.1, x.2.2) t = (sEq x.1 t.1 && (x.2.2 == t.2.2)) := by simp [tEq, sEq_self]
end Go.Proofs.YtillkgflppabfaaGreatDoor
namespace Go.Proofs.YtillkgflppabfaaGreatDoor
open Go.RowKit
set_option linter.unusedSimpArgs false

theorem ret_tb {x y : Tnt} {b c : Bool} (h : x = y ∧ b = c) : Ending.returned (.tuple #[.agg #[.string x.1, .string x.2.1, .int .i64 x.2.2], .bool b]) = .returned (.tuple #[.agg #[.string y.1, .string y.2.1, .int .i64 y.2.2], .bool c]) := by rw [h.1, h.2]
theorem keptT_no {L : List Tnt} {B : List Bear} (h : ∀ j, j < L.length → openT 1 B (L.getD j default) = false) : keptT L B = (default, false) := by
  unfold keptT; rw [find_no h]
theorem keptT_yes {L : List Tnt} {B : List Bear} {k : Nat} (hk : k < L.length) (h : ∀ j, j < k → openT 1 B (L.getD j default) = false) (hy : openT 1 B (L.getD k default) = true) : keptT L B = (L.getD k default, true) := by
  unfold keptT; rw [find_yes hk h hy]
theorem wrap_nat {n : Nat} (h : n ≤ 140737488355328) : IntKind.i64.wrap ((n : Int) + 1) = ((n + 1 : Nat) : Int) := by simp [IntKind.wrap, IntKind.bits, IntKind.signed]; omega

end Go.Proofs.YtillkgflppabfaaGreatDoor
namespace Go.Proofs.YtillkgflppabfaaGreatDoor
open Go.RowKit
set_option linter.unusedSimpArgs false

theorem rb_paths (z q x n ba y r : Bool) (h : r = ((z || q) && (x || (n && ba)) && (ba || y))) :
    (z = false ∧ q = false ∧ r = false) ∨
    ((z = true ∨ (z = false ∧ q = true)) ∧ ((x = false ∧ n = false ∧ r = false) ∨ (x = false ∧ n = true ∧ ba = false ∧ r = false) ∨ (x = false ∧ n = true ∧ ba = true ∧ r = true) ∨ (x = true ∧ ba = true ∧ r = true) ∨ (x = true ∧ ba = false ∧ r = y))) := by
  subst h
  cases z <;> cases q <;> cases x <;> cases n <;> cases ba <;> simp

end Go.Proofs.YtillkgflppabfaaGreatDoor
namespace Go.Proofs.YtillkgflppabfaaGreatDoor
open Go.RowKit
set_option linter.unusedSimpArgs false

/-- What is borne lies in the row's place, the taint in its box; nothing that was there has turned. -/
def RbS (wB : World) (D E off k : Nat) (b : Bear) (t : Tnt) (u : World) : Prop :=
  Below wB.heap.size wB u ∧ u.cell? ⟨D, off + k * 4, none⟩ = some (.string b.1) ∧ u.cell? ⟨D, off + k * 4 + 1, none⟩ = some (.string b.2.1) ∧ u.cell? ⟨D, off + k * 4 + 2, none⟩ = some (.bool b.2.2.1) ∧ u.cell? ⟨D, off + k * 4 + 3, none⟩ = some (.int .i64 b.2.2.2) ∧
    u.cell? ⟨E, 0, none⟩ = some (.string t.1) ∧ u.cell? ⟨E, 1, none⟩ = some (.string t.2.1) ∧ u.cell? ⟨E, 2, none⟩ = some (.int .i64 t.2.2)
theorem RbS.to {wB u' : World} {D E off k : Nat} {b : Bear} {t : Tnt} (h : RbS wB D E off k b t wB) (hD : D < wB.heap.size) (hE : E < wB.heap.size) (hb : Below wB.heap.size wB u') : RbS wB D E off k b t u' := by
  obtain ⟨_, h1, h2, h3, h4, h5, h6, h7⟩ := h
  exact ⟨hb, (hb.cell hD).trans h1, (hb.cell hD).trans h2, (hb.cell hD).trans h3, (hb.cell hD).trans h4, (hb.cell hE).trans h5, (hb.cell hE).trans h6, (hb.cell hE).trans h7⟩

end Go.Proofs.YtillkgflppabfaaGreatDoor
namespace Go.Proofs.YtillkgflppabfaaGreatDoor
open Go.RowKit
set_option linter.unusedSimpArgs false
set_option maxRecDepth 100000

theorem strs_of {A : Where} {w : World} {a : Option Addr} {n cap : Nat} {L : List ByteArray} (h : SlAt RStr 1 16 A w a n cap L) : StrsAt w a L := by
  have hl := h.len (by decide)
  obtain ⟨hn, h2, h3, h4, h5⟩ := h
  refine ⟨by omega, fun x hx => ?_, fun hne => ?_⟩
  · obtain ⟨i, hi, rfl⟩ := List.mem_iff_getElem.1 hx
    obtain ⟨B, off, _, _, _, hc⟩ := h5 (by omega)
    obtain ⟨cs, hr, _⟩ := hc i (by omega)
    have := hr.2
    rwa [getE _ _ hi] at this
  · have hpos : 0 < n := by have := List.length_pos_iff.2 hne; omega
    obtain ⟨B, off, e, hB, _, hc⟩ := h5 hpos
    refine ⟨B, off, e, hB, fun i hi => ?_⟩
    obtain ⟨cs, ⟨rfl, _⟩, hv⟩ := hc i (by omega)
    have := hv 0 _ rfl
    simpa using this
theorem labs_of {A : Where} {w : World} {a : Option Addr} {n cap : Nat} {L : List Lab} (h : SlAt RLabel 2 32 A w a n cap L) : LabsAt w a L := by
  have hl := h.len (by decide)
  obtain ⟨hn, h2, h3, h4, h5⟩ := h
  refine ⟨by omega, fun x hx => ?_, fun hne => ?_⟩
  · obtain ⟨i, hi, rfl⟩ := List.mem_iff_getElem.1 hx
    obtain ⟨B, off, _, _, _, hc⟩ := h5 (by omega)
    obtain ⟨cs, hr, _⟩ := hc i (by omega)
    have := hr.out.2
    rwa [getE _ _ hi] at this
  · have hpos : 0 < n := by have := List.length_pos_iff.2 hne; omega
    obtain ⟨B, off, e, hB, _, hc⟩ := h5 hpos
    refine ⟨B, off, e, hB, fun i hi => ?_⟩
    obtain ⟨cs, hr, hv⟩ := hc i (by omega)
    obtain ⟨rfl, _⟩ := hr.out
    exact ⟨hv 0 _ rfl, hv 1 _ rfl⟩
theorem asks_of {A : Where} {w : World} {a : Option Addr} {n cap : Nat} {L : List Ask} (h : SlAt RReq 3 48 A w a n cap L) : AsksAt w a L := by
  have hl := h.len (by decide)
  obtain ⟨hn, h2, h3, h4, h5⟩ := h
  refine ⟨by omega, fun x hx => ?_, fun hne => ?_⟩
  · obtain ⟨i, hi, rfl⟩ := List.mem_iff_getElem.1 hx
    obtain ⟨B, off, _, _, _, hc⟩ := h5 (by omega)
    obtain ⟨cs, hr, _⟩ := hc i (by omega)
    obtain ⟨_, _, this, _⟩ := hr.out
    rwa [getE _ _ hi] at this
  · have hpos : 0 < n := by have := List.length_pos_iff.2 hne; omega
    obtain ⟨B, off, e, hB, _, hc⟩ := h5 hpos
    refine ⟨B, off, e, hB, fun i hi => ?_⟩
    obtain ⟨cs, hr, hv⟩ := hc i (by omega)
    obtain ⟨hd, rfl, _, hs⟩ := hr.out
    refine ⟨hv 0 _ rfl, hv 1 _ rfl, hd.1, hd.2.2, ?_, strs_of hs⟩
    have := hv 2 _ rfl
    rw [← hs.1] at this
    exact this
theorem Match_sl (a : Option Addr) (n cap : Nat) (A : Where) (L : List Lab) (b : Option Addr) (m capb : Nat) (A' : Where) (R : List Ask) (w : World) (hL : Hid (SlAt RLabel 2 32 A w a n cap L)) (hR : Hid (SlAt RReq 3 48 A' w b m capb R)) : Calls Tryz.prog 50 #[.slice a n cap, .slice b m capb] w fun e w' => e = .returned (.bool (matchL L R)) ∧ Below w.heap.size w w' := by
  have h := Match_calls a cap L b capb R w (labs_of hL.out) (asks_of hR.out)
  rw [hL.out.1, hR.out.1] at h
  exact h
theorem rMatch_sl (a : Option Addr) (n cap : Nat) (A : Where) (L : List Lab) (b : Option Addr) (m capb : Nat) (A' : Where) (R : List Ask) (w : World) (hL : Hid (SlAt RLabel 2 32 A w a n cap L)) (hR : Hid (SlAt RReq 3 48 A' w b m capb R)) : Calls Tryz.prog 42 #[.slice a n cap, .slice b m capb] w fun e w' => e = .returned (.bool (matchL L R)) ∧ Below w.heap.size w w' := by
  have h := rMatch_calls a cap L b capb R w (labs_of hL.out) (asks_of hR.out)
  rw [hL.out.1, hR.out.1] at h
  exact h
end Go.Proofs.YtillkgflppabfaaGreatDoor
namespace Go.Proofs.YtillkgflppabfaaGreatDoor
open Go.RowKit
set_option linter.unusedSimpArgs false
set_option maxRecDepth 100000

theorem take_at9 {α : Type} [Inhabited α] {L : List α} {k : Nat} (h : k < L.length) : L.take k ++ [L.getD k default] = L.take (k + 1) := by
  rw [List.getD_eq_getElem?_getD, List.getElem?_eq_getElem h]
  simp
theorem vals_take (key : ByteArray) {N : List NodeD} {k : Nat} (h : k < N.length) : valsP key (N.take (k + 1)) = valsP key (N.take k) ++ (if (getL (nLabs (N.getD k default)) key).2 = true then [(getL (nLabs (N.getD k default)) key).1] else []) := by
  rw [← take_at9 h]
  generalize N.getD k default = y
  unfold valsP
  rw [List.filter_append, List.map_append]
  congr 1
  rw [List.filter_cons]
  split
  · simp
  · simp
theorem vals_le (key : ByteArray) (N : List NodeD) : (valsP key N).length ≤ N.length := by
  unfold valsP
  rw [List.length_map]
  exact List.length_filter_le _ _
theorem getL_size {A : Where} {w : World} {a : Option Addr} {n cap : Nat} {L : List Lab} (h : SlAt RLabel 2 32 A w a n cap L) (key : ByteArray) : (getL L key).1.size ≤ 140737488355328 := by
  unfold getL
  split
  · rename_i x hx
    have hm := List.mem_of_find?_eq_some hx
    obtain ⟨i, hi, rfl⟩ := List.mem_iff_getElem.1 hm
    have hl := h.1
    obtain ⟨B, off, _, _, _, cs, hr, _⟩ := h.get (i := i) (by omega)
    rw [List.getD_eq_getElem?_getD, List.getElem?_eq_getElem hi] at hr
    obtain ⟨_, _, _, _, hz⟩ := hr
    exact hz.2
  · exact Nat.zero_le _
theorem infoS9 : (Tryz.prog.info? 9).map (fun i => (i.zero, i.size, i.bytes)) = some (some (.string ⟨#[]⟩), 1, 16) := by kernel_rfl
set_option maxHeartbeats 4000000 in
theorem rDom_calls (key : ByteArray) (a : Option Addr) (n cap : Nat) (A : Where) (N : List NodeD) (w : World) (hN : Hid (SlAt RNode 9 112 A w a n cap N)) :
    Calls Tryz.prog 20 #[.string key, .slice a n cap] w fun e w' => ∃ a' cap', e = .returned (.slice a' (domsP key N).length cap') ∧ SlAt RStr 1 16 (Fresh w) w' a' (domsP key N).length cap' (domsP key N) ∧ Below w.heap.size w w' := by
  have hn : Hid (N.length = n) := hN.out.1
  have hlen := hN.out.len (by decide)
  have hbb : Hid (n * 112 ≤ 140737488351232) := hN.out.2.2.2.1
  have HR0 : Hid (Row RStr 1 (fun _ => False) w (w.alloc (.cells #[] 9)) 9 (.slice (some ⟨w.heap.size, 0, none⟩) 0 0) (valsP key (N.take 0))) := Row.start _ w w _ (Below.refl _ _)
  go_enter Tryz.func20, Tryz.ntmps20
  go_wp2_with fail
  go_loopw [5, 6] (fun s i wr => ∃ k : Nat, k ≤ n ∧ i = .int .i64 k ∧ Hid (Row RStr 1 (fun _ => False) w wr 9 s (valsP key (N.take k)))) (fun _ i _ => n - (intOf i).toNat)
  case atStart => exact ⟨0, Nat.zero_le _, rfl, HR0⟩
  case round =>
    obtain ⟨k, hk, rfl, hrow⟩ := hrel
    by_cases hlt : k < n
    · have hltz : (k : Int) < (n : Int) := by omega
      have hkl : k < N.length := by rw [hn.out]; exact hlt
      have hbw : Below w.heap.size w wr := hrow.out.below
      obtain ⟨B, off, rfl, hB, _, cs, hr, hv⟩ := (hN.out.on RNode.firm hbw).get hlt
      obtain ⟨⟨c1, c2, c3⟩, _, rfl, _, sl, _⟩ := hr.out
      simp only at sl
      have d1 := hv 1 _ rfl
      have HT : Hid (valsP key (N.take (k + 1)) = valsP key (N.take k) ++ (if (getL (nLabs (N.getD k default)) key).2 = true then [(getL (nLabs (N.getD k default)) key).1] else [])) := vals_take key hkl
      have HG := rGet_calls c1 c3 (nLabs (N.getD k default)) key wr (labs_of sl)
      rw [sl.1] at HG
      have hsz := getL_size sl key
      have HLb : Hid ((valsP key (N.take k)).length ≤ 140737488351232) := by have h1 := vals_le key (N.take k); rw [List.length_take, hn.out] at h1; rw [Hid]; omega
      clear hr hv sl
      generalize getL (nLabs (N.getD k default)) key = g at HT HG hsz
      obtain ⟨v, b⟩ := g
      simp only at HT HG hsz
      go_wp2_with fail
      refine HG.mono ?_
      clear HG d1
      rintro e w2 ⟨rfl, hw2⟩
      rw [hw2]
      clear hw2 w2
      cases b
      · have HN : Hid (Row RStr 1 (fun _ => False) w wr 9 u5 (valsP key (N.take (k + 1)))) := by rw [Hid, HT.out]; simpa using hrow.out
        clear hrow HT
        go_wp2_with fail
        go_roundw
        case rel => exact ⟨k + 1, by omega, by go_num, HN⟩
        case measure => simp [intOf]; omega
      · have hb3 : Below wr.heap.size wr (wr.alloc (.cells #[.string v] 9)) := (Below.refl _ _).alloc (Nat.le_refl _) _
        have HR3 : Hid (Row RStr 1 (fun _ => False) w (wr.alloc (.cells #[.string v] 9)) 9 u5 (valsP key (N.take k))) := hrow.out.on RStr.firm hb3
        have HE : RStr (fun b => False ∧ Value.ownBlock u5 ≠ some b) (wr.alloc (.cells #[.string v] 9)) [.string v] v := ⟨rfl, hsz⟩
        have H1 : Hid (∀ y ∈ [Value.string v], y.oneCell' = true) := RStr.firm.one HE
        have HCh : Hid (Chunks RStr 1 (fun b => False ∧ Value.ownBlock u5 ≠ some b) (wr.alloc (.cells #[.string v] 9)) [.string v] [v]) := chunk_one RStr.firm HE
        have HX : Hid (∀ j y, [Value.string v][j]? = some y → (wr.alloc (.cells #[.string v] 9)).cell? ((⟨wr.heap.size, 0, none⟩ : Addr).add j) = some y) := fun j y hj => by
          have h1 := ((BoxL.new wr 9 [.string v]).2 j y hj).1
          rw [add_lit]; simpa using h1
        have HLb2 : Hid (((valsP key (N.take k)).length + [v].length) * 16 ≤ 140737488355328) := by
          have h1 := vals_le key (N.take k); rw [List.length_take, hn.out] at h1
          have h2 := hbb.out
          rw [Hid, List.length_singleton]; omega
        clear HE hb3 hrow
        go_wp2_with (at_builtin; go_must (refine row_append RStr.firm (A := (fun _ => False)) (w0 := w) rfl _ _ 47 9 rfl _ 16 infoS9 Tryz.underlying47 rfl (by decide) (by decide) u5 (valsP key (N.take k)) rfl HR3.out ⟨wr.heap.size, 0, none⟩ 1 1 _ [v] rfl rfl HCh.out HX.out H1.out HLb2.out ?_); intro v4 w4 hrow4 hg4)
        have HN : Hid (Row RStr 1 (fun _ => False) w w4 9 v4 (valsP key (N.take (k + 1)))) := by rw [Hid, HT.out]; exact hrow4
        clear hrow4 hg4 HT HR3 HCh HX H1
        go_roundw
        case rel => exact ⟨k + 1, by omega, by go_num, HN⟩
        case measure => simp [intOf]; omega
    · have hk' : N.take k = N := List.take_of_length_le (by rw [hn.out]; omega)
      rw [hk'] at hrow
      have hle := vals_le key N
      have hby : (valsP key N).length * 16 ≤ 140737488351232 := by have h1 := hbb.out; rw [hn.out] at hle; omega
      obtain ⟨a', cap', rfl, sv⟩ := hrow.out.sl (bytes := 16) RStr.firm hby
      have HS := Sorted_calls a' (valsP key N).length cap' _ (valsP key N) wr sv
      have HB : Hid (Below w.heap.size w wr) := hrow.out.below
      clear hrow sv hk'
      go_wp2_with fail
      refine HS.mono ?_
      clear HS
      rintro e w9 ⟨a9, cap9, rfl, s9, b9⟩
      have HF : Hid (SlAt RStr 1 16 (Fresh w) w9 a9 (domsP key N).length cap9 (domsP key N) ∧ Below w.heap.size w w9) := ⟨s9.weak RStr.firm (fun b _ hb => Nat.le_trans HB.out.size hb), on2 HB.out b9⟩
      clear s9 b9
      have hd : (sortB sLt sEq (valsP key N)).length = (domsP key N).length := rfl
      rw [hd]
      go_wp2_with fail
      go_ret
      exact ⟨a9, cap9, rfl, HF.out⟩
end Go.Proofs.YtillkgflppabfaaGreatDoor
namespace Go.Proofs.YtillkgflppabfaaGreatDoor
open Go.RowKit
set_option linter.unusedSimpArgs false
set_option maxRecDepth 100000

theorem cnt_take (s : SpreadD) (v : ByteArray) {L : List PlacedD} {k : Nat} (h : k < L.length) : cntP s v (L.take (k + 1)) = cntP s v (L.take k) + (if inS s v (L.getD k default) = true then 1 else 0) := by
  rw [← take_at9 h, cnt_snoc]
theorem cnt_le (s : SpreadD) (v : ByteArray) (L : List PlacedD) : cntP s v L ≤ L.length := by unfold cntP; exact List.length_filter_le _ _
theorem RPlaced.reads9 {A : Where} {w : World} {cs : List Value} {x : PlacedD} (h : RPlaced A w cs x) : ∃ h2 h16 : Hd, cs[2]? = some (.slice h2.1 h2.2.1 h2.2.2) ∧ cs[16]? = some (.slice h16.1 h16.2.1 h16.2.2) ∧ SlAt RLabel 2 32 A w h2.1 h2.2.1 h2.2.2 (pLabs x.1) ∧ SlAt RLabel 2 32 A w h16.1 h16.2.1 h16.2.2 x.2 := by
  obtain ⟨ps, qs, rfl, h1, a, n, c, rfl, h3⟩ := h
  obtain ⟨h2, h6, h7, h8, h9, h10, h11, h12, h13, rfl, _, s2, _⟩ := h1.out
  exact ⟨h2, (a, n, c), rfl, rfl, s2, h3⟩
def CtS (D B o : Nat) (key : ByteArray) (r c g : Hd) (u : World) : Prop :=
  u.cell? ⟨D, 0, none⟩ = some (.string key) ∧ u.cell? ⟨D, 3, none⟩ = some (.slice r.1 r.2.1 r.2.2) ∧ u.cell? ⟨B, o + 2, none⟩ = some (.slice c.1 c.2.1 c.2.2) ∧ u.cell? ⟨B, o + 16, none⟩ = some (.slice g.1 g.2.1 g.2.2)
set_option maxHeartbeats 8000000 in
theorem rCnt_calls (cs : List Value) (A A' : Where) (s : SpreadD) (v : ByteArray) (b : Option Addr) (m capb : Nat) (Pl : List PlacedD) (w : World) (hs : Hid (RSpread A w cs s)) (hP : Hid (SlAt RPlaced 17 320 A' w b m capb Pl)) :
    Calls Tryz.prog 22 #[.agg cs.toArray, .string v, .slice b m capb] w fun e w' => e = .returned (.int .i64 (cntP s v Pl : Nat)) ∧ Below w.heap.size w w' := by
  obtain ⟨⟨r1, r2, r3⟩, rfl, _, sr⟩ := hs.out.out
  simp only at sr
  have hn : Hid (Pl.length = m) := hP.out.1
  have hlen := hP.out.len (by decide)
  obtain ⟨W1, hW1⟩ : ∃ W, W = w.alloc (.cells #[.string s.1, .int .i64 s.2.1, .int .i64 s.2.2.1, .slice r1 r2 r3] 24) := ⟨_, rfl⟩
  have B1 : Below w.heap.size w W1 := by rw [hW1]; go_grown
  have qx : BoxL W1 w.heap.size [.string s.1, .int .i64 s.2.1, .int .i64 s.2.2.1, .slice r1 r2 r3] := by rw [hW1]; exact BoxL.new w 24 _
  have HU : Hid (∀ u, Below W1.heap.size W1 u → BoxL u w.heap.size [.string s.1, .int .i64 s.2.1, .int .i64 s.2.2.1, .slice r1 r2 r3] ∧ SlAt RReq 3 48 A u r1 r2 r3 (sReqs s) ∧ SlAt RPlaced 17 320 A' u b m capb Pl ∧ Below w.heap.size w u) := fun u hb => ⟨qx.on hb, sr.on RReq.firm (on2 B1 hb), hP.out.on RPlaced.firm (on2 B1 hb), on2 B1 hb⟩
  clear hs hP sr qx B1
  go_enter Tryz.func22, Tryz.ntmps22
  go_upto_region 1 with fail
  rw [← hW1]
  clear hW1
  go_wp2_with fail
  go_loopw [7, 8] (fun c i wr => ∃ k : Nat, k ≤ m ∧ i = .int .i64 k ∧ c = .int .i64 (cntP s v (Pl.take k) : Nat) ∧ Hid (Below W1.heap.size W1 wr)) (fun _ i _ => m - (intOf i).toNat)
  case atStart => exact ⟨0, Nat.zero_le _, rfl, rfl, Below.refl _ _⟩
  case round =>
    obtain ⟨k, hk, rfl, rfl, hst⟩ := hrel
    obtain ⟨q0, q1, q2, q3⟩ := HU.out wr hst.out
    by_cases hlt : k < m
    · have hltz : (k : Int) < (m : Int) := by omega
      have hkl : k < Pl.length := by rw [hn.out]; exact hlt
      have hcl := cnt_le s v (Pl.take k)
      rw [List.length_take, hn.out] at hcl
      have HT : Hid (cntP s v (Pl.take (k + 1)) = cntP s v (Pl.take k) + (if inS s v (Pl.getD k default) = true then 1 else 0)) := cnt_take s v hkl
      obtain ⟨B, off, rfl, hB, _, xs, hr, hv⟩ := q2.get hlt
      obtain ⟨⟨c1, c2, c3⟩, ⟨g1, g2, g3⟩, e2, e16, sc, sg⟩ := hr.reads9
      simp only at e2 e16 sc sg
      have HS : Hid (∀ u, Below wr.heap.size wr u → (CtS w.heap.size B (off + k * 17) s.1 (r1, r2, r3) (c1, c2, c3) (g1, g2, g3)) u) := fun u hb => ⟨((q0.on hb).2 0 _ rfl).1, ((q0.on hb).2 3 _ rfl).1, (hb.cell (p := ⟨B, _, none⟩) hB).trans (hv 2 _ e2), (hb.cell (p := ⟨B, _, none⟩) hB).trans (hv 16 _ e16)⟩
      have HG := rGet_calls g1 g3 (Pl.getD k default).2 s.1 wr.drew (labs_of (sg.on RLabel.firm (Below.refl _ _).drew))
      rw [sg.1] at HG
      have HM : Hid (∀ u, Below wr.heap.size wr u → _) := fun u hb => rMatch_sl c1 c2 c3 _ (pLabs (Pl.getD k default).1) r1 r2 r3 _ (sReqs s) u (sc.on RLabel.firm hb) (q1.on RReq.firm hb)
      have HIn : Hid (inS s v (Pl.getD k default) = ((getL (Pl.getD k default).2 s.1).2 && ((((getL (Pl.getD k default).2 s.1).1).toList == v.toList) && matchL (pLabs (Pl.getD k default).1) (sReqs s)))) := rfl
      have HB : Hid (Below W1.heap.size W1 wr) := hst.out
      clear hst hr hv e2 e16 sc sg q0 q1 q2 q3
      generalize getL (Pl.getD k default).2 s.1 = g at HG HIn
      obtain ⟨gv, gb⟩ := g
      simp only at HG HIn
      generalize matchL (pLabs (Pl.getD k default).1) (sReqs s) = mt at HM HIn
      generalize inS s v (Pl.getD k default) = isx at HT HIn
      generalize cntP s v (Pl.take k) = c0 at HT hcl
      go_upto_region 5 with fail
      refine t0 (CtS w.heap.size B (off + k * 17) s.1 (r1, r2, r3) (c1, c2, c3) (g1, g2, g3)) (HS.out _ (Below.refl _ _).drew) (fun hHeld => ?_)
      refine' tk 0 ?_ ?_; rotate_left
      · intro u ⟨_, _, _, _⟩; go_simp; try with_reducible rfl
      try go_frame
      refine' tk 1 ?_ ?_; rotate_left
      · intro u ⟨_, _, _, _⟩; go_simp; try with_reducible rfl
      try go_frame
      refine' tk 2 ?_ ?_; rotate_left
      · intro u ⟨_, _, _, _⟩; go_simp; try with_reducible rfl
      try go_frame
      refine' tk 3 ?_ ?_; rotate_left
      · intro u ⟨_, _, _, _⟩; go_simp; try with_reducible rfl
      try go_frame
      refine' tk 4 ?_ ?_; rotate_left
      · intro u ⟨_, _, _, _⟩; go_simp; try with_reducible rfl
      try go_frame
      refine' tk 5 ?_ ?_; rotate_left
      · intro u ⟨_, _, _, _⟩; go_simp; try with_reducible rfl
      try go_frame
      refine' tk 6 ?_ ?_; rotate_left
      · intro u ⟨_, _, _, _⟩; go_simp; try with_reducible rfl
      try go_frame
      refine tr 7 (fun K hK => ?_)
      go_simp
      refine HG.mono ?_
      rintro e u1 ⟨rfl, hu1⟩
      rw [hu1]
      clear hu1 u1
      go_wp2_with fail
      refine hK.out _ _ (HS.out _ (Below.refl _ _).drew) (fun hHeld2 => ?_)
      clear hK K hHeld; have hHeld := hHeld2; clear hHeld2
      try go_frame
      refine' tk 8 ?_ ?_; rotate_left
      · intro u ⟨_, _, _, _⟩; go_simp; try with_reducible rfl
      try go_frame
      refine' tk 9 ?_ ?_; rotate_left
      · intro u ⟨_, _, _, _⟩; go_simp; try with_reducible rfl
      try go_frame
      refine' tk 10 ?_ ?_; rotate_left
      · intro u ⟨_, _, _, _⟩; go_simp; try with_reducible rfl
      try go_frame
      refine' tk 11 ?_ ?_; rotate_left
      · intro u ⟨_, _, _, _⟩; go_simp; try with_reducible rfl
      try go_frame
      refine' tk 12 ?_ ?_; rotate_left
      · intro u ⟨_, _, _, _⟩; go_simp; try with_reducible rfl
      try go_frame
      refine tz ?_
      have hd : Below wr.heap.size wr wr.drew := (Below.refl _ _).drew
      obtain ⟨V, hV⟩ : ∃ V, V = wr.drew := ⟨_, rfl⟩
      rw [← hV] at hHeld hd ⊢
      clear hV HG hHeld
      go_upto_region 6 with fail
      have hd2 : Below wr.heap.size wr V.drew := hd.drew
      refine t0 (CtS w.heap.size B (off + k * 17) s.1 (r1, r2, r3) (c1, c2, c3) (g1, g2, g3)) (HS.out _ hd2) (fun hHeld => ?_)
      refine' tk 0 ?_ ?_; rotate_left
      · intro u ⟨_, _, _, _⟩; go_simp; try with_reducible rfl
      try go_frame
      refine' tk 1 ?_ ?_; rotate_left
      · intro u ⟨_, _, _, _⟩; go_simp; try with_reducible rfl
      try go_frame
      cases gb
      ·
        refine tn 2 ?_
        try go_frame
        refine tn 3 ?_
        try go_frame
        refine tn 4 ?_
        try go_frame
        refine' tk 5 ?_ ?_; rotate_left
        · intro u ⟨_, _, _, _⟩; go_simp; try with_reducible rfl
        try go_frame
        refine' tk 6 ?_ ?_; rotate_left
        · intro u ⟨_, _, _, _⟩; go_simp; try with_reducible rfl
        try go_frame
        refine tn 7 ?_
        try go_frame
        refine tn 8 ?_
        try go_frame
        refine tn 9 ?_
        try go_frame
        refine tn 10 ?_
        try go_frame
        refine tn 11 ?_
        try go_frame
        refine tn 12 ?_
        try go_frame
        refine tn 13 ?_
        try go_frame
        refine tn 14 ?_
        try go_frame
        refine tn 15 ?_
        try go_frame
        refine' tk 16 ?_ ?_; rotate_left
        · intro u ⟨_, _, _, _⟩; go_simp; try with_reducible rfl
        try go_frame
        refine tz ?_
        replace HIn : Hid (isx = false) := HIn
        have HBn : Hid (Below W1.heap.size W1 V.drew) := on2 HB.out hd2
        have hcn : cntP s v (Pl.take (k + 1)) = c0 + 0 := by rw [HT.out, HIn.out]; rfl
        clear HT HIn HS HB HM hHeld
        go_wp2_with fail
        go_roundw
        case rel => exact ⟨k + 1, by omega, by go_num, by rw [hcn]; rfl, HBn⟩
        case measure => simp [intOf]; omega
      ·
        refine' tk 2 ?_ ?_; rotate_left
        · intro u ⟨_, _, _, _⟩; go_simp; try with_reducible rfl
        try go_frame
        refine' tk 3 ?_ ?_; rotate_left
        · intro u ⟨_, _, _, _⟩; go_simp; try with_reducible rfl
        try go_frame
        refine' tk 4 ?_ ?_; rotate_left
        · intro u ⟨_, _, _, _⟩; go_simp; try with_reducible rfl
        try go_frame
        refine' tk 5 ?_ ?_; rotate_left
        · intro u ⟨_, _, _, _⟩; go_simp; try with_reducible rfl
        try go_frame
        refine' tk 6 ?_ ?_; rotate_left
        · intro u ⟨_, _, _, _⟩; go_simp; try with_reducible rfl
        try go_frame
        cases hvq : (gv.toList == v.toList)
        ·
          rw [hvq] at HIn
          try rw [hvq]
          refine tn 7 ?_
          try go_frame
          refine tn 8 ?_
          try go_frame
          refine tn 9 ?_
          try go_frame
          refine tn 10 ?_
          try go_frame
          refine tn 11 ?_
          try go_frame
          refine tn 12 ?_
          try go_frame
          refine tn 13 ?_
          try go_frame
          refine tn 14 ?_
          try go_frame
          refine tn 15 ?_
          try go_frame
          refine' tk 16 ?_ ?_; rotate_left
          · intro u ⟨_, _, _, _⟩; go_simp; try with_reducible rfl
          try go_frame
          refine tz ?_
          replace HIn : Hid (isx = false) := HIn
          have HBn : Hid (Below W1.heap.size W1 V.drew) := on2 HB.out hd2
          have hcn : cntP s v (Pl.take (k + 1)) = c0 + 0 := by rw [HT.out, HIn.out]; rfl
          clear HT HIn HS HB HM hHeld
          go_wp2_with fail
          go_roundw
          case rel => exact ⟨k + 1, by omega, by go_num, by rw [hcn]; rfl, HBn⟩
          case measure => simp [intOf]; omega
        ·
          rw [hvq] at HIn
          try rw [hvq]
          refine' tk 7 ?_ ?_; rotate_left
          · intro u ⟨_, _, _, _⟩; go_simp; try with_reducible rfl
          try go_frame
          refine' tk 8 ?_ ?_; rotate_left
          · intro u ⟨_, _, _, _⟩; go_simp; try with_reducible rfl
          try go_frame
          refine' tk 9 ?_ ?_; rotate_left
          · intro u ⟨_, _, _, _⟩; go_simp; try with_reducible rfl
          try go_frame
          refine' tk 10 ?_ ?_; rotate_left
          · intro u ⟨_, _, _, _⟩; go_simp; try with_reducible rfl
          try go_frame
          refine' tk 11 ?_ ?_; rotate_left
          · intro u ⟨_, _, _, _⟩; go_simp; try with_reducible rfl
          try go_frame
          refine' tk 12 ?_ ?_; rotate_left
          · intro u ⟨_, _, _, _⟩; go_simp; try with_reducible rfl
          try go_frame
          refine' tk 13 ?_ ?_; rotate_left
          · intro u ⟨_, _, _, _⟩; go_simp; try with_reducible rfl
          try go_frame
          refine' tk 14 ?_ ?_; rotate_left
          · intro u ⟨_, _, _, _⟩; go_simp; try with_reducible rfl
          try go_frame
          refine tr 15 (fun K hK => ?_)
          go_simp
          refine (HM.out _ hd2).mono ?_
          rintro e u2 ⟨rfl, hu2⟩
          have hd3 : Below wr.heap.size wr u2 := on2 hd2 hu2
          go_wp2_with fail
          refine hK.out _ _ (HS.out _ hd3) (fun hHeld2 => ?_)
          clear hK K hHeld; have hHeld := hHeld2; clear hHeld2
          try go_frame
          refine' tk 16 ?_ ?_; rotate_left
          · intro u ⟨_, _, _, _⟩; go_simp; try with_reducible rfl
          try go_frame
          refine tz ?_
          cases mt
          ·
            replace HIn : Hid (isx = false) := HIn
            have HBn : Hid (Below W1.heap.size W1 u2) := on2 HB.out hd3
            have hcn : cntP s v (Pl.take (k + 1)) = c0 + 0 := by rw [HT.out, HIn.out]; rfl
            clear HT HIn HS HB HM hHeld
            go_wp2_with fail
            go_roundw
            case rel => exact ⟨k + 1, by omega, by go_num, by rw [hcn]; rfl, HBn⟩
            case measure => simp [intOf]; omega
          ·
            replace HIn : Hid (isx = true) := HIn
            have HBn : Hid (Below W1.heap.size W1 u2) := on2 HB.out hd3
            have hcn : cntP s v (Pl.take (k + 1)) = c0 + 1 := by rw [HT.out, HIn.out]; rfl
            clear HT HIn HS HB HM hHeld
            go_wp2_with fail
            go_roundw
            case rel => exact ⟨k + 1, by omega, by go_num, by rw [hcn]; go_num, HBn⟩
            case measure => simp [intOf]; omega
    · have hlz : ¬ ((k : Int) < (m : Int)) := by omega
      have hk' : Pl.take k = Pl := List.take_of_length_le (by rw [hn.out]; omega)
      rw [hk']
      have HF : Hid (Below w.heap.size w wr) := q3
      clear q0 q1 q2 q3 hst
      go_wp2_with fail
      go_ret
      exact ⟨rfl, HF.out⟩
end Go.Proofs.YtillkgflppabfaaGreatDoor
