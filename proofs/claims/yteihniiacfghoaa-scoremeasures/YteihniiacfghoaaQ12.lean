/- taint.meant, taint.Bears and the document's own Bears return what the plain function says, and change nothing that was there. No condition. What a right taint, and something right to bear, is, as plain functions. No program. No condition. taint.borne, unborne and hasTwin: what is looked for by a function that is handed in comes out as the plain functions say. Condition: the slices hold what is said of them. taint.Kept and taint.Shy return what the plain functions say, and change nothing that was there. Condition: the slices hold what is said of them. The document's own Bears returns what the plain function says, and changes nothing that was there. No condition. The document's own borne, Kept and Shy return what the plain functions say, and change nothing that was there. Condition: the slices hold what is said of them. Slices of texts, labels and what is asked, told in the words of layer 2; calls of layers 2 and 3 over them. Plain facts on worlds. No condition. -/
import Derived.Test.YteihniiacfghoaaQ08
import Derived.Test.YteihniiacfghoaaQ02
import Derived.Laws.StructEq
import Derived.Test.YteihniiacfghoaaQ11
import Derived.Shelf.Abstract
namespace Go.Proofs.Yteihniiacfghoaa
open Go.RowKit
set_option linter.unusedSimpArgs false

set_option maxHeartbeats 2000000 in
theorem meant_calls (bk bv : ByteArray) (ba : Bool) (be : Int) (tk tv : ByteArray) (te : Int) (w : World) : Calls Try.prog 81 #[.agg #[.string bk, .string bv, .bool ba, .int .i64 be], .agg #[.string tk, .string tv, .int .i64 te]] w fun e w' => e = .returned (.agg #[.string (meantT (bk, bv, ba, be) (tk, tv, te)).1, .string (meantT (bk, bv, ba, be) (tk, tv, te)).2.1, .int .i64 (meantT (bk, bv, ba, be) (tk, tv, te)).2.2]) ∧ Below w.heap.size w w' := by
  have HM : Hid (meantT (bk, bv, ba, be) (tk, tv, te) = (if ba && bk.toList.isEmpty then tk else bk, if ba then tv else bv, if be == 0 then te else be)) := rfl
  generalize meantT (bk, bv, ba, be) (tk, tv, te) = m at HM ⊢
  obtain ⟨n, hn⟩ : ∃ n, bk.toList.isEmpty = n := ⟨_, rfl⟩
  obtain ⟨z, hz⟩ : ∃ z, (be == 0) = z := ⟨_, rfl⟩
  rw [hn, hz] at HM
  cases ba <;> cases n <;> cases z <;> (
    have HM' := HM.out
    simp only [Bool.and_self, Bool.and_true, Bool.and_false, Bool.true_and, Bool.false_and, Bool.false_eq_true, if_true, if_false] at HM'
    subst HM'
    clear HM
    go_enter Try.func81, Try.ntmps81
    go_wp2
    exact bodyPost_ret (v := .agg #[.string _, .string _, .int .i64 _]) (by simp [results, Try.results81, go_sem]) rfl ⟨rfl, by go_grown⟩)

theorem guardT : Try.prog.eqGuardType Try.prog.depth 77 = false := by kernel_rfl
theorem guardB : Try.prog.eqGuardType Try.prog.depth 90 = false := by kernel_rfl
theorem eqT (x y : Tnt) (w : World) : Sem.run Try.prog (binOp .eql 77 (.agg #[.string x.1, .string x.2.1, .int .i64 x.2.2]) (.agg #[.string y.1, .string y.2.1, .int .i64 y.2.2])) w = .ok (.bool (tEq x y)) w := by
  have u3 := Try.underlying3
  have a3 := Try.isAgg3
  have z3 := Try.sizeOf3
  have u9 := Try.underlying9
  have a9 := Try.isAgg9
  have z9 := Try.sizeOf9
  have hS : Try.prog.underlying 77 = some (.struct (Try.prog.fieldsOf 77)) := by kernel_rfl
  have hp : Try.prog.stoodInHeld 77 = false := by kernel_rfl
  rw [run_eql_struct, show (10000 : Nat) = 9999 + 1 from rfl, run_equalIn_agg w 9999 77 _ _ hS hp]
  simp only [Program.fieldsOf, Try.underlying77]
  go_simp
  simp only [tEq, sEq]
  by_cases h1 : x.1.toList = y.1.toList <;> by_cases h2 : x.2.1.toList = y.2.1.toList <;> by_cases h3 : x.2.2 = y.2.2 <;> simp [h1, h2, h3]
theorem eqB (x y : Bear) (w : World) : Sem.run Try.prog (binOp .eql 90 (.agg #[.string x.1, .string x.2.1, .bool x.2.2.1, .int .i64 x.2.2.2]) (.agg #[.string y.1, .string y.2.1, .bool y.2.2.1, .int .i64 y.2.2.2])) w = .ok (.bool (bEq x y)) w := by
  have u3 := Try.underlying3
  have a3 := Try.isAgg3
  have z3 := Try.sizeOf3
  have u4 := Try.underlying4
  have a4 := Try.isAgg4
  have z4 := Try.sizeOf4
  have u9 := Try.underlying9
  have a9 := Try.isAgg9
  have z9 := Try.sizeOf9
  have hS : Try.prog.underlying 90 = some (.struct (Try.prog.fieldsOf 90)) := by kernel_rfl
  have hp : Try.prog.stoodInHeld 90 = false := by kernel_rfl
  rw [run_eql_struct, show (10000 : Nat) = 9999 + 1 from rfl, run_equalIn_agg w 9999 90 _ _ hS hp]
  simp only [Program.fieldsOf, Try.underlying90]
  go_simp
  simp only [bEq, sEq]
  by_cases h1 : x.1.toList = y.1.toList <;> by_cases h2 : x.2.1.toList = y.2.1.toList <;> by_cases h3 : x.2.2.1 = y.2.2.1 <;> by_cases h4 : x.2.2.2 = y.2.2.2 <;> simp [h1, h2, h3, h4]

/-- The two boxes hold what came in, and nothing that was there has turned. -/
def BeS (wB : World) (D E : Nat) (bk bv : ByteArray) (ba : Bool) (be : Int) (tk tv : ByteArray) (te : Int) (u : World) : Prop :=
  Below wB.heap.size wB u ∧ u.cell? ⟨D, 0, none⟩ = some (.string bk) ∧ u.cell? ⟨D, 1, none⟩ = some (.string bv) ∧ u.cell? ⟨D, 2, none⟩ = some (.bool ba) ∧ u.cell? ⟨D, 3, none⟩ = some (.int .i64 be) ∧
    u.cell? ⟨E, 0, none⟩ = some (.string tk) ∧ u.cell? ⟨E, 1, none⟩ = some (.string tv) ∧ u.cell? ⟨E, 2, none⟩ = some (.int .i64 te)
theorem BeS.to {wB u' : World} {D E : Nat} {bk bv : ByteArray} {ba : Bool} {be : Int} {tk tv : ByteArray} {te : Int} (h : BeS wB D E bk bv ba be tk tv te wB) (hD : D < wB.heap.size) (hE : E < wB.heap.size) (hb : Below wB.heap.size wB u') : BeS wB D E bk bv ba be tk tv te u' := by
  obtain ⟨_, h1, h2, h3, h4, h5, h6, h7⟩ := h
  exact ⟨hb, (hb.cell hD).trans h1, (hb.cell hD).trans h2, (hb.cell hD).trans h3, (hb.cell hD).trans h4, (hb.cell hE).trans h5, (hb.cell hE).trans h6, (hb.cell hE).trans h7⟩

set_option maxHeartbeats 2000000 in
theorem Bears_calls (bk bv : ByteArray) (ba : Bool) (be : Int) (tk tv : ByteArray) (te : Int) (w : World) : Calls Try.prog 72 #[.agg #[.string bk, .string bv, .bool ba, .int .i64 be], .agg #[.string tk, .string tv, .int .i64 te]] w fun e w' => e = .returned (.bool (bearsB (bk, bv, ba, be) (tk, tv, te))) ∧ Below w.heap.size w w' := by
  have hS0 : BeS ((w.alloc (.cells #[.string bk, .string bv, .bool ba, .int .i64 be] 90)).alloc (.cells #[.string tk, .string tv, .int .i64 te] 77)) w.heap.size (w.heap.size + 1) bk bv ba be tk tv te ((w.alloc (.cells #[.string bk, .string bv, .bool ba, .int .i64 be] 90)).alloc (.cells #[.string tk, .string tv, .int .i64 te] 77)) :=
    ⟨Below.refl _ _, by simp [go_sem], by simp [go_sem], by simp [go_sem], by simp [go_sem], by simp [go_sem], by simp [go_sem], by simp [go_sem]⟩
  have hb0 : Below w.heap.size w ((w.alloc (.cells #[.string bk, .string bv, .bool ba, .int .i64 be] 90)).alloc (.cells #[.string tk, .string tv, .int .i64 te] 77)) := by go_grown
  have hD : w.heap.size < ((w.alloc (.cells #[.string bk, .string bv, .bool ba, .int .i64 be] 90)).alloc (.cells #[.string tk, .string tv, .int .i64 te] 77)).heap.size := by simp; omega
  have hE : w.heap.size + 1 < ((w.alloc (.cells #[.string bk, .string bv, .bool ba, .int .i64 be] 90)).alloc (.cells #[.string tk, .string tv, .int .i64 te] 77)).heap.size := by simp
  have HS : Hid (∀ {u : World}, Below ((w.alloc (.cells #[.string bk, .string bv, .bool ba, .int .i64 be] 90)).alloc (.cells #[.string tk, .string tv, .int .i64 te] 77)).heap.size ((w.alloc (.cells #[.string bk, .string bv, .bool ba, .int .i64 be] 90)).alloc (.cells #[.string tk, .string tv, .int .i64 te] 77)) u → BeS ((w.alloc (.cells #[.string bk, .string bv, .bool ba, .int .i64 be] 90)).alloc (.cells #[.string tk, .string tv, .int .i64 te] 77)) w.heap.size (w.heap.size + 1) bk bv ba be tk tv te u) := fun hb => hS0.to hD hE hb
  have HM := meant_calls bk bv ba be tk tv te
  have HQ := eqT (meantT (bk, bv, ba, be) (tk, tv, te)) (tk, tv, te)
  have HG := guardT
  rw [meant_bears] at HQ
  clear hS0
  generalize meantT (bk, bv, ba, be) (tk, tv, te) = m at HM HQ
  generalize bearsB (bk, bv, ba, be) (tk, tv, te) = r at HQ ⊢
  go_enter Try.func72, Try.ntmps72
  go_wp2_with fail
  generalize hwB : ((w.alloc (.cells #[.string bk, .string bv, .bool ba, .int .i64 be] 90)).alloc (.cells #[.string tk, .string tv, .int .i64 te] 77)) = wB at HS hb0 hD hE
  refine wp_region_noPanic ?_
  refine wp_region_held_drew (S := BeS wB w.heap.size (w.heap.size + 1) bk bv ba be tk tv te) (by kernel_rfl) (HS.out (Below.refl _ _).drew) (fun hHeld => ?_)
  refine wpAnyH_take (i := 0) (v := ?v0) rfl (by kernel_rfl) (by kernel_rfl) (by kernel_rfl) (fun _ _ _ h => h) (Or.inl ⟨by rfl, ?hy0⟩) (by assumption) ?rest0
  case hy0 => (intro u hu; obtain ⟨_, _, _, _, _, _, _, _⟩ := hu; go_simp; try with_reducible rfl)
  try simp only [Act.put, List.setIfInBounds_toArray, List.set_cons_zero, List.set_cons_succ, List.getElem_toArray, List.getElem_cons_zero, List.getElem_cons_succ]
  refine wpAnyH_take (i := 1) (v := ?v1) rfl (by kernel_rfl) (by kernel_rfl) (by kernel_rfl) (fun _ _ _ h => h) (Or.inl ⟨by rfl, ?hy1⟩) (by assumption) ?rest1
  case hy1 => (intro u hu; obtain ⟨_, _, _, _, _, _, _, _⟩ := hu; go_simp; try with_reducible rfl)
  try simp only [Act.put, List.setIfInBounds_toArray, List.set_cons_zero, List.set_cons_succ, List.getElem_toArray, List.getElem_cons_zero, List.getElem_cons_succ]
  refine wpAnyH_take (i := 3) (v := ?v3) rfl (by kernel_rfl) (by kernel_rfl) (by kernel_rfl) (fun _ _ _ h => h) (Or.inl ⟨by rfl, ?hy3⟩) (by assumption) ?rest3
  case hy3 => (intro u hu; obtain ⟨_, _, _, _, _, _, _, _⟩ := hu; go_simp; try with_reducible rfl)
  try simp only [Act.put, List.setIfInBounds_toArray, List.set_cons_zero, List.set_cons_succ, List.getElem_toArray, List.getElem_cons_zero, List.getElem_cons_succ]
  refine wpAnyH_ready (rs := [2]) (by kernel_rfl) (by simp) ?_
  refine AllReadyH.cons rfl (fun K hK => ?_) AllReadyH.nil
  go_simp
  refine (HM _).mono ?_
  rintro e w1 ⟨rfl, hb1⟩
  go_wp2_with fail
  refine hK.out _ _ (HS.out (on2 hHeld.1 hb1)) (fun hHeld2 => ?_)
  clear hK K hHeld
  have hHeld := hHeld2
  clear hHeld2
  try simp only [Act.put, List.setIfInBounds_toArray, List.set_cons_zero, List.set_cons_succ, List.getElem_toArray, List.getElem_cons_zero, List.getElem_cons_succ]
  refine wpAnyH_take (i := 4) (v := ?v4) rfl (by kernel_rfl) (by kernel_rfl) (by kernel_rfl) (fun _ _ _ h => h) (Or.inl ⟨by rfl, ?hy4⟩) (by assumption) ?rest4
  case hy4 => (intro u hu; obtain ⟨_, _, _, _, _, _, _, _⟩ := hu; go_simp; try with_reducible rfl)
  try simp only [Act.put, List.setIfInBounds_toArray, List.set_cons_zero, List.set_cons_succ, List.getElem_toArray, List.getElem_cons_zero, List.getElem_cons_succ]
  refine wpAnyH_take (i := 5) (v := ?v5) rfl (by kernel_rfl) (by kernel_rfl) (by kernel_rfl) (fun _ _ _ h => h) (Or.inl ⟨by rfl, ?hy5⟩) (by assumption) ?rest5
  case hy5 => (intro u hu; obtain ⟨_, _, _, _, _, _, _, _⟩ := hu; go_simp; try with_reducible rfl)
  try simp only [Act.put, List.setIfInBounds_toArray, List.set_cons_zero, List.set_cons_succ, List.getElem_toArray, List.getElem_cons_zero, List.getElem_cons_succ]
  refine wpAnyH_done (by kernel_rfl) ?_ _
  refine NoPanic.normal ?_
  go_wp2_with fail
  go_ret
  exact ⟨rfl, on2 hb0 hHeld.1⟩

end Go.Proofs.Yteihniiacfghoaa
namespace Go.Proofs.Yteihniiacfghoaa
open Go.RowKit

/-- Has one of the list t's key and t's effect? -/
def twinB (L : List Tnt) (t : Tnt) : Bool := L.any fun x => sEq x.1 t.1 && (x.2.2 == t.2.2)
def effB (e : Int) : Bool := (e == 1) || (e == 2)
def taintOk (x : Tnt) : Bool := wordB x.1 && valB x.2.1 && effB x.2.2
def tOk (L : List Tnt) (i : Nat) : Bool := taintOk (L.getD i default) && !twinB (L.take i) (L.getD i default)
def checkT (L : List Tnt) : Int := if 64 < L.length then 3 else if allTo L.length (tOk L) then 0 else 30
def bearOk (b : Bear) : Bool := (b.2.2.2 == 0 || effB b.2.2.2) && (if b.2.2.1 then valB b.1 && sNil b.2.1 else wordB b.1 && valB b.2.1)
def checkBr (L : List Bear) : Int := if 64 < L.length then 3 else if allTo L.length (fun i => bearOk (L.getD i default)) then 0 else 30
theorem reti {a b : Int} (h : a = b) : Ending.returned (.int .i64 a) = .returned (.int .i64 b) := by rw [h]
theorem checkT_long {L : List Tnt} (h : 64 < L.length) : checkT L = 3 := if_pos h
theorem checkT_bad {L : List Tnt} {k : Nat} (h : ¬ 64 < L.length) (hk : k < L.length) (hb : tOk L k = false) : checkT L = 30 := by
  unfold checkT; rw [if_neg h, allTo_false hk hb]; rfl
theorem checkT_ok {L : List Tnt} (h : ¬ 64 < L.length) (hall : ∀ j, j < L.length → tOk L j = true) : checkT L = 0 := by
  unfold checkT; rw [if_neg h, allTo_true hall]; rfl
theorem checkBr_long {L : List Bear} (h : 64 < L.length) : checkBr L = 3 := if_pos h
theorem checkBr_bad {L : List Bear} {k : Nat} (h : ¬ 64 < L.length) (hk : k < L.length) (hb : bearOk (L.getD k default) = false) : checkBr L = 30 := by
  unfold checkBr; rw [if_neg h, allTo_false hk hb]; rfl
theorem checkBr_ok {L : List Bear} (h : ¬ 64 < L.length) (hall : ∀ j, j < L.length → bearOk (L.getD j default) = true) : checkBr L = 0 := by
  unfold checkBr; rw [if_neg h, allTo_true hall]; rfl
theorem getD_take {α : Type} [Inhabited α] (L : List α) (m i : Nat) (h : i < m) (hl : i < L.length) : (L.take m).getD i default = L.getD i default := by
  rw [getE _ _ (by rw [List.length_take]; omega), getE _ _ hl]; simp
end Go.Proofs.Yteihniiacfghoaa
namespace Go.Proofs.Yteihniiacfghoaa
open Go.RowKit Go.Shelf
set_option linter.unusedSimpArgs false

/-- Block D holds a taint, and may be written. -/
def BoxT (u : World) (D : Nat) (x : Tnt) : Prop :=
  D < u.heap.size ∧ (u.cell? ⟨D, 0, none⟩ = some (.string x.1) ∧ u.cell? ⟨D, 1, none⟩ = some (.string x.2.1) ∧ u.cell? ⟨D, 2, none⟩ = some (.int .i64 x.2.2)) ∧ u.frozen? ⟨D, 0, none⟩ = false ∧ u.frozen? ⟨D, 1, none⟩ = false ∧ u.frozen? ⟨D, 2, none⟩ = false
theorem BoxT.on {u u' : World} {D : Nat} {x : Tnt} (h : BoxT u D x) (hb : Below u.heap.size u u') : BoxT u' D x := by
  obtain ⟨hB, ⟨h0, h1, h2⟩, f0, f1, f2⟩ := h
  exact ⟨Nat.lt_of_lt_of_le hB hb.size, ⟨(hb.cell hB).trans h0, (hb.cell hB).trans h1, (hb.cell hB).trans h2⟩, (hb.frozen hB).trans f0, (hb.frozen hB).trans f1, (hb.frozen hB).trans f2⟩
theorem BoxT.new (u : World) (t : TypeId) (x : Tnt) : BoxT (u.alloc (.cells #[.string x.1, .string x.2.1, .int .i64 x.2.2] t)) u.heap.size x :=
  ⟨by simp, ⟨by simp [go_sem], by simp [go_sem], by simp [go_sem]⟩, by simp [go_sem], by simp [go_sem], by simp [go_sem]⟩

theorem enters41 : ∀ args w, (callFunc 71 args).run Try.prog w = .ok (.enter 71 args) w := enters_of Try.func71 (by kernel_rfl) rfl
theorem enters37 : ∀ args w, (callFunc 66 args).run Try.prog w = .ok (.enter 66 args) w := enters_of Try.func66 (by kernel_rfl) rfl
theorem bornePred (t : Tnt) (D : Nat) (w : World) (hD : BoxT w D t) : PredB 71 #[.pointer (some ⟨D, 0, none⟩)] (fun b => bearsB b t) w := fun W x hb => by
  obtain ⟨hDl, ⟨c0, c1, c2⟩, _⟩ := hD
  have d0 := (hb.cell (p := ⟨D, 0, none⟩) hDl).trans c0
  have d1 := (hb.cell (p := ⟨D, 1, none⟩) hDl).trans c1
  have d2 := (hb.cell (p := ⟨D, 2, none⟩) hDl).trans c2
  have hDW : D < W.heap.size := by have := hb.size; omega
  have hne : D ≠ W.heap.size := by omega
  have HB := Bears_calls x.1 x.2.1 x.2.2.1 x.2.2.2 t.1 t.2.1 t.2.2
  show Calls Try.prog 71 #[.agg #[.string x.1, .string x.2.1, .bool x.2.2.1, .int .i64 x.2.2.2], .pointer (some ⟨D, 0, none⟩)] W fun e w' => e = .returned (.bool (bearsB x t)) ∧ Below W.heap.size W w'
  change ∀ w, Calls Try.prog 72 _ w fun e w' => e = .returned (.bool (bearsB x t)) ∧ Below w.heap.size w w' at HB
  generalize bearsB x t = r at HB ⊢
  clear c0 c1 c2
  go_enter Try.func71, Try.ntmps71
  go_wp2_with fail
  refine (HB _).mono ?_
  rintro e w1 ⟨rfl, hb1⟩
  go_wp2_with fail
  go_ret
  exact ⟨rfl, on2 (by go_grown) hb1⟩

theorem borne_calls (t : Tnt) (a : Option Addr) (cap : Nat) (L : List Bear) (w : World) (hL : Hid (BearsAt w a L)) : Calls Try.prog 67 #[.agg #[.string t.1, .string t.2.1, .int .i64 t.2.2], .slice a L.length cap] w fun e w' => e = .returned (.bool (borneB L t)) ∧ Below w.heap.size w w' := by
  have hb0 : Below w.heap.size w (w.alloc (.cells #[.string t.1, .string t.2.1, .int .i64 t.2.2] 77)) := by go_grown
  have hC := ContainsB_calls a cap L (w.alloc (.cells #[.string t.1, .string t.2.1, .int .i64 t.2.2] 77)) (hL.out.on hb0) (fun b => bearsB b t) 71 #[.pointer (some ⟨w.heap.size, 0, none⟩)] enters41 (bornePred t w.heap.size _ (BoxT.new w _ t))
  change Calls Try.prog _ _ _ fun e w' => e = .returned (.bool (borneB L t)) ∧ _ at hC
  generalize borneB L t = r at hC ⊢
  go_enter Try.func67, Try.ntmps67
  go_wp2_with fail
  refine hC.mono ?_
  rintro e w1 ⟨rfl, hb1⟩
  go_wp2_with fail
  go_ret
  exact ⟨rfl, on2 hb0 hb1⟩

theorem unbornePred (e : Int) (a : Option Addr) (cap : Nat) (L : List Bear) (D E : Nat) (w : World) (hD : D < w.heap.size) (hE : E < w.heap.size) (cD : w.cell? ⟨D, 0, none⟩ = some (.int .i64 e)) (cE : w.cell? ⟨E, 0, none⟩ = some (.slice a L.length cap)) (hL : BearsAt w a L) :
    PredT 66 #[.pointer (some ⟨D, 0, none⟩), .pointer (some ⟨E, 0, none⟩)] (openT e L) w := fun W x hb => by
  have d0 := (hb.cell (p := ⟨D, 0, none⟩) hD).trans cD
  have d1 := (hb.cell (p := ⟨E, 0, none⟩) hE).trans cE
  have hDW : D < W.heap.size := by have := hb.size; omega
  have hEW : E < W.heap.size := by have := hb.size; omega
  have hne : D ≠ W.heap.size := by omega
  have hne' : E ≠ W.heap.size := by omega
  have hb0 : Below W.heap.size W (W.alloc (.cells #[.string x.1, .string x.2.1, .int .i64 x.2.2] 77)) := by go_grown
  have HB := borne_calls x a cap L (W.alloc (.cells #[.string x.1, .string x.2.1, .int .i64 x.2.2] 77)) (hL.on (hb.trans (hb0.mono hb.size)))
  show Calls Try.prog 66 #[.agg #[.string x.1, .string x.2.1, .int .i64 x.2.2], .pointer (some ⟨D, 0, none⟩), .pointer (some ⟨E, 0, none⟩)] W fun r w' => r = .returned (.bool ((x.2.2 == e) && !borneB L x)) ∧ Below W.heap.size W w'
  generalize borneB L x = r at HB ⊢
  clear cD cE
  cases hq : (x.2.2 == e)
  · go_enter Try.func66, Try.ntmps66
    go_wp2_with fail
    go_ret
    exact ⟨rfl, hb0⟩
  · go_enter Try.func66, Try.ntmps66
    go_wp2_with fail
    refine HB.mono ?_
    rintro e w1 ⟨rfl, hb1⟩
    go_wp2_with fail
    go_ret
    exact ⟨rfl, on2 hb0 hb1⟩

theorem unborne_calls (e : Int) (a : Option Addr) (cap : Nat) (L : List Bear) (w : World) (hL : Hid (BearsAt w a L)) : Calls Try.prog 60 #[.int .i64 e, .slice a L.length cap] w fun r w' => ∃ lb, r = .returned (.func (.func 66) #[] lb) ∧ PredT 66 lb (openT e L) w' ∧ Below w.heap.size w w' := by
  have hb0 : Below w.heap.size w ((w.alloc (.cells #[.int .i64 e] 3)).alloc (.cells #[.slice a L.length cap] 25)) := by go_grown
  have HP := unbornePred e a cap L w.heap.size (w.heap.size + 1) ((w.alloc (.cells #[.int .i64 e] 3)).alloc (.cells #[.slice a L.length cap] 25)) (by simp; omega) (by simp) (by simp [go_sem]) (by simp [go_sem]) (hL.out.on hb0)
  have HP' : Hid (PredT 66 #[.pointer (some ⟨w.heap.size, 0, none⟩), .pointer (some ⟨w.heap.size + 1, 0, none⟩)] (openT e L) ((w.alloc (.cells #[.int .i64 e] 3)).alloc (.cells #[.slice a L.length cap] 25))) := HP
  clear HP
  go_enter Try.func60, Try.ntmps60
  go_wp2_with fail
  go_ret
  exact ⟨_, rfl, HP'.out, hb0⟩

theorem twin_eq (x t : Tnt) : tEq (x.1, t.2.1, x.2.2) t = (sEq x.1 t.1 && (x.2.2 == t.2.2)) := by simp [tEq, sEq_self]
end Go.Proofs.Yteihniiacfghoaa
namespace Go.Proofs.Yteihniiacfghoaa
open Go.RowKit
set_option linter.unusedSimpArgs false

theorem ret_tb {x y : Tnt} {b c : Bool} (h : x = y ∧ b = c) : Ending.returned (.tuple #[.agg #[.string x.1, .string x.2.1, .int .i64 x.2.2], .bool b]) = .returned (.tuple #[.agg #[.string y.1, .string y.2.1, .int .i64 y.2.2], .bool c]) := by rw [h.1, h.2]
theorem keptT_no {L : List Tnt} {B : List Bear} (h : ∀ j, j < L.length → openT 1 B (L.getD j default) = false) : keptT L B = (default, false) := by
  unfold keptT; rw [find_no h]
theorem keptT_yes {L : List Tnt} {B : List Bear} {k : Nat} (hk : k < L.length) (h : ∀ j, j < k → openT 1 B (L.getD j default) = false) (hy : openT 1 B (L.getD k default) = true) : keptT L B = (L.getD k default, true) := by
  unfold keptT; rw [find_yes hk h hy]
theorem wrap_nat {n : Nat} (h : n ≤ 140737488355328) : IntKind.i64.wrap ((n : Int) + 1) = ((n + 1 : Nat) : Int) := by simp [IntKind.wrap, IntKind.bits, IntKind.signed]; omega

set_option maxHeartbeats 2000000 in
theorem Shy_calls (a : Option Addr) (cap : Nat) (L : List Tnt) (b : Option Addr) (capb : Nat) (B : List Bear) (w : World) (hL : Hid (TntsAt w a L)) (hB : Hid (BearsAt w b B)) :
    Calls Try.prog 51 #[.slice a L.length cap, .slice b B.length capb] w fun e w' => e = .returned (.int .i64 (shyN L B : Nat)) ∧ Below w.heap.size w w' := by
  have hlen := hL.out.1
  have hU := unborne_calls 2 b capb B w hB
  have eg := enters37
  clear hB
  go_enter Try.func51, Try.ntmps51
  go_wp2_with fail
  refine hU.mono ?_
  rintro e w1 ⟨lb, rfl, hP, hb1⟩
  have hP' : Hid (PredT 66 lb (openT 2 B) w1) := hP
  clear hP hU
  go_wp2_with fail
  go_loopw [6, 13] (fun s i wr => ∃ k : Nat, k ≤ L.length ∧ i = .int .i64 k ∧ s = .int .i64 ((L.take k).countP (openT 2 B) : Nat) ∧ Below w1.heap.size w1 wr) (fun _ i _ => L.length - (intOf i).toNat)
  case atStart => exact ⟨0, Nat.zero_le _, rfl, rfl, Below.refl _ _⟩
  case round =>
    obtain ⟨k, hk, rfl, rfl, hbel⟩ := hrel
    by_cases hlt : k < L.length
    · obtain ⟨BB, off, rfl, hBB, c0, c1, c2, ho⟩ := TntsAt.get hL.out hlt
      clear ho
      have hbw := on2 hb1 hbel
      have d0 := (hbw.cell (p := ⟨BB, off + k * 3, none⟩) hBB).trans c0
      have d1 := (hbw.cell (p := ⟨BB, off + k * 3 + 1, none⟩) hBB).trans c1
      have d2 := (hbw.cell (p := ⟨BB, off + k * 3 + 2, none⟩) hBB).trans c2
      clear c0 c1 c2
      have hcs := count_step (p := openT 2 B) hlt
      have hcl : (L.take k).countP (openT 2 B) ≤ k := count_le
      obtain ⟨m, hm⟩ : ∃ m, (L.take k).countP (openT 2 B) = m := ⟨_, rfl⟩
      have hcall := hP'.out (wr.alloc (.cells #[.string (L.getD k default).1, .string (L.getD k default).2.1, .int .i64 (L.getD k default).2.2] 77)) (L.getD k default) (on2 hbel (by go_grown))
      rw [hm] at hcs hcl ⊢
      have hwr := wrap_nat (n := m) (by omega)
      cases hq : openT 2 B (L.getD k default)
      · rw [hq] at hcs hcall
        have HC : Hid ((L.take (k + 1)).countP (openT 2 B) = m) := hcs
        clear hq hcs hm
        generalize L.getD k default = x at d0 d1 d2 hcall
        go_wp2_with fail
        refine hcall.mono ?_
        rintro e w2 ⟨rfl, hb2⟩
        go_wp2_with fail
        go_roundw
        case rel => exact ⟨k + 1, by omega, by go_num, by rw [HC.out], on2 hbel (on2 (by go_grown) hb2)⟩
        case measure => simp [intOf]; omega
      · rw [hq] at hcs hcall
        have HC : Hid ((L.take (k + 1)).countP (openT 2 B) = m + 1) := hcs
        clear hq hcs hm
        generalize L.getD k default = x at d0 d1 d2 hcall
        go_wp2_with fail
        refine hcall.mono ?_
        rintro e w2 ⟨rfl, hb2⟩
        go_wp2_with fail
        go_roundw
        case rel => exact ⟨k + 1, by omega, by go_num, by rw [HC.out]; rfl, on2 hbel (on2 (by go_grown) hb2)⟩
        case measure => simp [intOf]; omega
    · have HC : Hid ((L.take k).countP (openT 2 B) = shyN L B) := by rw [Hid, shyN, List.take_of_length_le (by omega)]
      rw [HC.out]
      go_wp2_with fail
      go_ret
      exact ⟨rfl, on2 hb1 hbel⟩
end Go.Proofs.Yteihniiacfghoaa
namespace Go.Proofs.Yteihniiacfghoaa
open Go.RowKit
set_option linter.unusedSimpArgs false

theorem rb_paths (z q x n ba y r : Bool) (h : r = ((z || q) && (x || (n && ba)) && (ba || y))) :
    (z = false ∧ q = false ∧ r = false) ∨
    ((z = true ∨ (z = false ∧ q = true)) ∧ ((x = false ∧ n = false ∧ r = false) ∨ (x = false ∧ n = true ∧ ba = false ∧ r = false) ∨ (x = false ∧ n = true ∧ ba = true ∧ r = true) ∨ (x = true ∧ ba = true ∧ r = true) ∨ (x = true ∧ ba = false ∧ r = y))) := by
  subst h
  cases z <;> cases q <;> cases x <;> cases n <;> cases ba <;> simp

set_option maxHeartbeats 4000000 in
theorem rBears_calls (bk bv : ByteArray) (ba : Bool) (be : Int) (tk tv : ByteArray) (te : Int) (w : World) : Calls Try.prog 61 #[.agg #[.string bk, .string bv, .bool ba, .int .i64 be], .agg #[.string tk, .string tv, .int .i64 te]] w fun e w' => e = .returned (.bool (bearsB (bk, bv, ba, be) (tk, tv, te))) ∧ Below w.heap.size w w' := by
  have HM : bearsB (bk, bv, ba, be) (tk, tv, te) = ((be == 0 || be == te) && ((bk.toList == tk.toList) || (bk.toList.isEmpty && ba)) && (ba || (bv.toList == tv.toList))) := rfl
  generalize bearsB (bk, bv, ba, be) (tk, tv, te) = r at HM ⊢
  obtain ⟨n, hn⟩ : ∃ n, bk.toList.isEmpty = n := ⟨_, rfl⟩
  obtain ⟨z, hz⟩ : ∃ z, (be == 0) = z := ⟨_, rfl⟩
  obtain ⟨q, hq⟩ : ∃ q, (be == te) = q := ⟨_, rfl⟩
  obtain ⟨x, hx⟩ : ∃ x, (bk.toList == tk.toList) = x := ⟨_, rfl⟩
  obtain ⟨y, hy⟩ : ∃ y, (bv.toList == tv.toList) = y := ⟨_, rfl⟩
  rw [hn, hz, hq, hx, hy] at HM
  have hz' : (be != 0) = !z := by rw [← hz]; rfl
  have hq' : (be != te) = !q := by rw [← hq]; rfl
  have HP := rb_paths z q x n ba y r HM
  clear HM hz hq
  rcases HP with ⟨rfl, rfl, rfl⟩ | ⟨rfl | ⟨rfl, rfl⟩, ⟨rfl, rfl, rfl⟩ | ⟨rfl, rfl, rfl, rfl⟩ | ⟨rfl, rfl, rfl, rfl⟩ | ⟨rfl, rfl, rfl⟩ | ⟨rfl, rfl, rfl⟩⟩ <;> (
    simp only [Bool.not_true, Bool.not_false] at hz' hq'
    go_enter Try.func61, Try.ntmps61
    go_wp2
    go_ret
    exact ⟨rfl, by go_grown⟩)
end Go.Proofs.Yteihniiacfghoaa
namespace Go.Proofs.Yteihniiacfghoaa
open Go.RowKit
set_option linter.unusedSimpArgs false

/-- What is borne lies in the row's place, the taint in its box; nothing that was there has turned. -/
def RbS (wB : World) (D E off k : Nat) (b : Bear) (t : Tnt) (u : World) : Prop :=
  Below wB.heap.size wB u ∧ u.cell? ⟨D, off + k * 4, none⟩ = some (.string b.1) ∧ u.cell? ⟨D, off + k * 4 + 1, none⟩ = some (.string b.2.1) ∧ u.cell? ⟨D, off + k * 4 + 2, none⟩ = some (.bool b.2.2.1) ∧ u.cell? ⟨D, off + k * 4 + 3, none⟩ = some (.int .i64 b.2.2.2) ∧
    u.cell? ⟨E, 0, none⟩ = some (.string t.1) ∧ u.cell? ⟨E, 1, none⟩ = some (.string t.2.1) ∧ u.cell? ⟨E, 2, none⟩ = some (.int .i64 t.2.2)
theorem RbS.to {wB u' : World} {D E off k : Nat} {b : Bear} {t : Tnt} (h : RbS wB D E off k b t wB) (hD : D < wB.heap.size) (hE : E < wB.heap.size) (hb : Below wB.heap.size wB u') : RbS wB D E off k b t u' := by
  obtain ⟨_, h1, h2, h3, h4, h5, h6, h7⟩ := h
  exact ⟨hb, (hb.cell hD).trans h1, (hb.cell hD).trans h2, (hb.cell hD).trans h3, (hb.cell hD).trans h4, (hb.cell hE).trans h5, (hb.cell hE).trans h6, (hb.cell hE).trans h7⟩

set_option maxHeartbeats 2000000 in
theorem rborne_calls (t : Tnt) (b : Option Addr) (capb : Nat) (B : List Bear) (w : World) (hB : Hid (BearsAt w b B)) : Calls Try.prog 52 #[.slice b B.length capb, .agg #[.string t.1, .string t.2.1, .int .i64 t.2.2]] w fun e w' => e = .returned (.bool (borneB B t)) ∧ Below w.heap.size w w' := by
  have hlen := hB.out.1
  have hb0 : Below w.heap.size w (w.alloc (.cells #[.string t.1, .string t.2.1, .int .i64 t.2.2] 77)) := by go_grown
  have hD := BoxT.new w 77 t
  have hB' : Hid (BearsAt (w.alloc (.cells #[.string t.1, .string t.2.1, .int .i64 t.2.2] 77)) b B) := hB.out.on hb0
  clear hB
  go_enter Try.func52, Try.ntmps52
  go_wp2_with fail
  generalize hwB : (w.alloc (.cells #[.string t.1, .string t.2.1, .int .i64 t.2.2] 77)) = w0 at hb0 hD hB'
  clear hwB
  generalize w.heap.size = E at hD
  go_loopw [5] (fun i wr => ∃ k : Nat, k ≤ B.length ∧ i = .int .i64 k ∧ Below w0.heap.size w0 wr ∧ Hid (∀ j, j < k → bearsB (B.getD j default) t = false)) (fun i _ => B.length - (intOf i).toNat)
  case atStart => exact ⟨0, Nat.zero_le _, rfl, Below.refl _ _, fun j hj => absurd hj (Nat.not_lt_zero _)⟩
  case round =>
    obtain ⟨k, hk, rfl, hbel, hall⟩ := hrel
    by_cases hlt : k < B.length
    · obtain ⟨D, off, rfl, hDl, c0, c1, c2, c3, ho⟩ := BearsAt.get hB'.out hlt
      clear ho
      have HB := rBears_calls (B.getD k default).1 (B.getD k default).2.1 (B.getD k default).2.2.1 (B.getD k default).2.2.2 t.1 t.2.1 t.2.2
      change ∀ w, Calls Try.prog 61 _ w fun e w' => e = .returned (.bool (bearsB (B.getD k default) t)) ∧ Below w.heap.size w w' at HB
      obtain ⟨wB, hwB⟩ : ∃ wB, wB = wr := ⟨_, rfl⟩
      have hDw : D < wB.heap.size := by rw [hwB]; exact Nat.lt_of_lt_of_le hDl hbel.size
      obtain ⟨hEl, ⟨e0, e1, e2⟩, _⟩ := hD.on hbel
      rw [← hwB] at hEl
      have HS : Hid (∀ {u : World}, Below wB.heap.size wB u → RbS wB D E off k (B.getD k default) t u) := fun hb => by
        refine RbS.to ?_ hDw hEl hb
        rw [hwB]
        exact ⟨Below.refl _ _, (hbel.cell hDl).trans c0, (hbel.cell hDl).trans c1, (hbel.cell hDl).trans c2, (hbel.cell hDl).trans c3, e0, e1, e2⟩
      clear c0 c1 c2 c3 e0 e1 e2
      have HG : Hid (bearsB (B.getD k default) t = false → ∀ j, j < k + 1 → bearsB (B.getD j default) t = false) := fun h j hj => by
        rcases Nat.lt_succ_iff_lt_or_eq.1 hj with h' | rfl
        · exact hall.out j h'
        · exact h
      have HF : Hid (bearsB (B.getD k default) t = true → borneB B t = true) := fun h => any_yes (p := fun b => bearsB b t) hlt h
      clear hall
      subst hwB
      generalize B.getD k default = bx at HB HS HG HF
      obtain ⟨kx, hkx⟩ : ∃ kx, kx = k := ⟨_, rfl⟩
      rw [← hkx] at HS
      cases hq : bearsB bx t
      · have HG' : Hid (∀ j, j < k + 1 → bearsB (B.getD j default) t = false) := HG.out hq
        rw [hq] at HB
        clear HG HF hq
        subst hkx
        go_wp2_with fail
        refine wp_region_noPanic ?_
        refine wp_region_held_drew (S := RbS wB D E off kx bx t) (by kernel_rfl) (HS.out (Below.refl _ _).drew) (fun hHeld => ?_)
        refine wpAnyH_take (i := 0) (v := ?va0) rfl (by kernel_rfl) (by kernel_rfl) (by kernel_rfl) (fun _ _ _ h => h) (Or.inl ⟨by rfl, ?hya0⟩) (by assumption) ?resta0
        case hya0 => (intro u hu; obtain ⟨_, _, _, _, _, _, _, _⟩ := hu; go_simp; try with_reducible rfl)
        try simp only [Act.put, List.setIfInBounds_toArray, List.set_cons_zero, List.set_cons_succ, List.getElem_toArray, List.getElem_cons_zero, List.getElem_cons_succ]
        refine wpAnyH_take (i := 1) (v := ?va1) rfl (by kernel_rfl) (by kernel_rfl) (by kernel_rfl) (fun _ _ _ h => h) (Or.inl ⟨by rfl, ?hya1⟩) (by assumption) ?resta1
        case hya1 => (intro u hu; obtain ⟨_, _, _, _, _, _, _, _⟩ := hu; go_simp; try with_reducible rfl)
        try simp only [Act.put, List.setIfInBounds_toArray, List.set_cons_zero, List.set_cons_succ, List.getElem_toArray, List.getElem_cons_zero, List.getElem_cons_succ]
        refine wpAnyH_take (i := 2) (v := ?va2) rfl (by kernel_rfl) (by kernel_rfl) (by kernel_rfl) (fun _ _ _ h => h) (Or.inl ⟨by rfl, ?hya2⟩) (by assumption) ?resta2
        case hya2 => (intro u hu; obtain ⟨_, _, _, _, _, _, _, _⟩ := hu; go_simp; try with_reducible rfl)
        try simp only [Act.put, List.setIfInBounds_toArray, List.set_cons_zero, List.set_cons_succ, List.getElem_toArray, List.getElem_cons_zero, List.getElem_cons_succ]
        refine wpAnyH_take (i := 3) (v := ?va3) rfl (by kernel_rfl) (by kernel_rfl) (by kernel_rfl) (fun _ _ _ h => h) (Or.inl ⟨by rfl, ?hya3⟩) (by assumption) ?resta3
        case hya3 => (intro u hu; obtain ⟨_, _, _, _, _, _, _, _⟩ := hu; go_simp; try with_reducible rfl)
        try simp only [Act.put, List.setIfInBounds_toArray, List.set_cons_zero, List.set_cons_succ, List.getElem_toArray, List.getElem_cons_zero, List.getElem_cons_succ]
        refine wpAnyH_take (i := 4) (v := ?va4) rfl (by kernel_rfl) (by kernel_rfl) (by kernel_rfl) (fun _ _ _ h => h) (Or.inl ⟨by rfl, ?hya4⟩) (by assumption) ?resta4
        case hya4 => (intro u hu; obtain ⟨_, _, _, _, _, _, _, _⟩ := hu; go_simp; try with_reducible rfl)
        try simp only [Act.put, List.setIfInBounds_toArray, List.set_cons_zero, List.set_cons_succ, List.getElem_toArray, List.getElem_cons_zero, List.getElem_cons_succ]
        refine wpAnyH_ready (rs := [5]) (by kernel_rfl) (by simp) ?_
        refine AllReadyH.cons rfl (fun K hK => ?_) AllReadyH.nil
        go_simp
        refine (HB _).mono ?_
        rintro e w1 ⟨rfl, hb1⟩
        go_wp2_with fail
        refine hK.out _ _ (HS.out (on2 hHeld.1 hb1)) (fun hHeld2 => ?_)
        clear hK K hHeld
        have hHeld := hHeld2
        clear hHeld2
        try simp only [Act.put, List.setIfInBounds_toArray, List.set_cons_zero, List.set_cons_succ, List.getElem_toArray, List.getElem_cons_zero, List.getElem_cons_succ]
        refine wpAnyH_done (by kernel_rfl) ?_ _
        refine NoPanic.normal ?_
        go_wp2_with fail
        go_roundw
        case rel => exact ⟨kx + 1, by omega, by go_num, on2 hbel hHeld.1, HG'⟩
        case measure => simp [intOf]; omega
      · have HF' : Hid (borneB B t = true) := HF.out hq
        rw [hq] at HB
        clear HG HF hq
        subst hkx
        go_wp2_with fail
        refine wp_region_noPanic ?_
        refine wp_region_held_drew (S := RbS wB D E off kx bx t) (by kernel_rfl) (HS.out (Below.refl _ _).drew) (fun hHeld => ?_)
        refine wpAnyH_take (i := 0) (v := ?vb0) rfl (by kernel_rfl) (by kernel_rfl) (by kernel_rfl) (fun _ _ _ h => h) (Or.inl ⟨by rfl, ?hyb0⟩) (by assumption) ?restb0
        case hyb0 => (intro u hu; obtain ⟨_, _, _, _, _, _, _, _⟩ := hu; go_simp; try with_reducible rfl)
        try simp only [Act.put, List.setIfInBounds_toArray, List.set_cons_zero, List.set_cons_succ, List.getElem_toArray, List.getElem_cons_zero, List.getElem_cons_succ]
        refine wpAnyH_take (i := 1) (v := ?vb1) rfl (by kernel_rfl) (by kernel_rfl) (by kernel_rfl) (fun _ _ _ h => h) (Or.inl ⟨by rfl, ?hyb1⟩) (by assumption) ?restb1
        case hyb1 => (intro u hu; obtain ⟨_, _, _, _, _, _, _, _⟩ := hu; go_simp; try with_reducible rfl)
        try simp only [Act.put, List.setIfInBounds_toArray, List.set_cons_zero, List.set_cons_succ, List.getElem_toArray, List.getElem_cons_zero, List.getElem_cons_succ]
        refine wpAnyH_take (i := 2) (v := ?vb2) rfl (by kernel_rfl) (by kernel_rfl) (by kernel_rfl) (fun _ _ _ h => h) (Or.inl ⟨by rfl, ?hyb2⟩) (by assumption) ?restb2
        case hyb2 => (intro u hu; obtain ⟨_, _, _, _, _, _, _, _⟩ := hu; go_simp; try with_reducible rfl)
        try simp only [Act.put, List.setIfInBounds_toArray, List.set_cons_zero, List.set_cons_succ, List.getElem_toArray, List.getElem_cons_zero, List.getElem_cons_succ]
        refine wpAnyH_take (i := 3) (v := ?vb3) rfl (by kernel_rfl) (by kernel_rfl) (by kernel_rfl) (fun _ _ _ h => h) (Or.inl ⟨by rfl, ?hyb3⟩) (by assumption) ?restb3
        case hyb3 => (intro u hu; obtain ⟨_, _, _, _, _, _, _, _⟩ := hu; go_simp; try with_reducible rfl)
        try simp only [Act.put, List.setIfInBounds_toArray, List.set_cons_zero, List.set_cons_succ, List.getElem_toArray, List.getElem_cons_zero, List.getElem_cons_succ]
        refine wpAnyH_take (i := 4) (v := ?vb4) rfl (by kernel_rfl) (by kernel_rfl) (by kernel_rfl) (fun _ _ _ h => h) (Or.inl ⟨by rfl, ?hyb4⟩) (by assumption) ?restb4
        case hyb4 => (intro u hu; obtain ⟨_, _, _, _, _, _, _, _⟩ := hu; go_simp; try with_reducible rfl)
        try simp only [Act.put, List.setIfInBounds_toArray, List.set_cons_zero, List.set_cons_succ, List.getElem_toArray, List.getElem_cons_zero, List.getElem_cons_succ]
        refine wpAnyH_ready (rs := [5]) (by kernel_rfl) (by simp) ?_
        refine AllReadyH.cons rfl (fun K hK => ?_) AllReadyH.nil
        go_simp
        refine (HB _).mono ?_
        rintro e w1 ⟨rfl, hb1⟩
        go_wp2_with fail
        refine hK.out _ _ (HS.out (on2 hHeld.1 hb1)) (fun hHeld2 => ?_)
        clear hK K hHeld
        have hHeld := hHeld2
        clear hHeld2
        try simp only [Act.put, List.setIfInBounds_toArray, List.set_cons_zero, List.set_cons_succ, List.getElem_toArray, List.getElem_cons_zero, List.getElem_cons_succ]
        refine wpAnyH_done (by kernel_rfl) ?_ _
        refine NoPanic.normal ?_
        go_wp2_with fail
        go_ret
        exact ⟨retb HF'.out.symm, on2 hb0 (on2 hbel hHeld.1)⟩
    · have HF : Hid (borneB B t = false) := any_no (p := fun b => bearsB b t) (fun j hj => hall.out j (by omega))
      clear hall
      go_wp2_with fail
      go_ret
      exact ⟨retb HF.out.symm, on2 hb0 hbel⟩

set_option maxHeartbeats 2000000 in
theorem rShy_calls (a : Option Addr) (cap : Nat) (L : List Tnt) (b : Option Addr) (capb : Nat) (B : List Bear) (w : World) (hL : Hid (TntsAt w a L)) (hB : Hid (BearsAt w b B)) :
    Calls Try.prog 38 #[.slice a L.length cap, .slice b B.length capb] w fun e w' => e = .returned (.int .i64 (shyN L B : Nat)) ∧ Below w.heap.size w w' := by
  have hlen := hL.out.1
  have hL' : Hid (∀ {u : World}, Below w.heap.size w u → TntsAt u a L) := fun h => hL.out.on h
  have hB' : Hid (∀ {u : World}, Below w.heap.size w u → BearsAt u b B) := fun h => hB.out.on h
  clear hL hB
  go_enter Try.func38, Try.ntmps38
  go_wp2_with fail
  go_loopw [5, 6] (fun s i wr => ∃ k : Nat, k ≤ L.length ∧ i = .int .i64 k ∧ s = .int .i64 ((L.take k).countP (openT 2 B) : Nat) ∧ Below w.heap.size w wr) (fun _ i _ => L.length - (intOf i).toNat)
  case atStart => exact ⟨0, Nat.zero_le _, rfl, rfl, Below.refl _ _⟩
  case round =>
    obtain ⟨k, hk, rfl, rfl, hbel⟩ := hrel
    by_cases hlt : k < L.length
    · obtain ⟨BB, off, rfl, hBB, d0, d1, d2, ho⟩ := TntsAt.get (hL'.out hbel) hlt
      clear ho
      have hcs := count_step (p := openT 2 B) hlt
      have hcl : (L.take k).countP (openT 2 B) ≤ k := count_le
      obtain ⟨m, hm⟩ : ∃ m, (L.take k).countP (openT 2 B) = m := ⟨_, rfl⟩
      rw [hm] at hcs hcl ⊢
      have hwr := wrap_nat (n := m) (by omega)
      have HB := rborne_calls (L.getD k default) b capb B wr (hB'.out hbel)
      have HO : Hid (openT 2 B (L.getD k default) = (((L.getD k default).2.2 == 2) && !borneB B (L.getD k default))) := rfl
      have HC : Hid ((L.take (k + 1)).countP (openT 2 B) = m + (if openT 2 B (L.getD k default) then 1 else 0)) := hcs
      clear hcs hm
      generalize L.getD k default = x at d0 d1 d2 HB HO HC
      cases hq : (x.2.2 == 2)
      · have HC' : Hid ((L.take (k + 1)).countP (openT 2 B) = m) := HC.out.trans (by rw [HO.out, hq]; rfl)
        clear HC HO HB
        go_wp2_with fail
        go_roundw
        case rel => exact ⟨k + 1, by omega, by go_num, by rw [HC'.out], hbel⟩
        case measure => simp [intOf]; omega
      · cases hr : borneB B x
        · have HC' : Hid ((L.take (k + 1)).countP (openT 2 B) = m + 1) := HC.out.trans (by rw [HO.out, hq, hr]; rfl)
          rw [hr] at HB
          clear HC HO hr
          go_wp2_with fail
          refine HB.mono ?_
          rintro e w2 ⟨rfl, hb2⟩
          clear HB
          go_wp2_with fail
          go_roundw
          case rel => exact ⟨k + 1, by omega, by go_num, by rw [HC'.out]; rfl, on2 hbel hb2⟩
          case measure => simp [intOf]; omega
        · have HC' : Hid ((L.take (k + 1)).countP (openT 2 B) = m) := HC.out.trans (by rw [HO.out, hq, hr]; rfl)
          rw [hr] at HB
          clear HC HO hr
          go_wp2_with fail
          refine HB.mono ?_
          rintro e w2 ⟨rfl, hb2⟩
          clear HB
          go_wp2_with fail
          go_roundw
          case rel => exact ⟨k + 1, by omega, by go_num, by rw [HC'.out], on2 hbel hb2⟩
          case measure => simp [intOf]; omega
    · have HC : Hid ((L.take k).countP (openT 2 B) = shyN L B) := by rw [Hid, shyN, List.take_of_length_le (by omega)]
      rw [HC.out]
      go_wp2_with fail
      go_ret
      exact ⟨rfl, hbel⟩
end Go.Proofs.Yteihniiacfghoaa
namespace Go.Proofs.Yteihniiacfghoaa
open Go.RowKit
set_option linter.unusedSimpArgs false
set_option maxRecDepth 100000

theorem strs_of {A : Where} {w : World} {a : Option Addr} {n cap : Nat} {L : List ByteArray} (h : SlAt RStr 1 16 A w a n cap L) : StrsAt w a L := by
  have hl := h.len (by decide)
  obtain ⟨hn, h2, h3, h4, h5⟩ := h
  refine ⟨by omega, fun x hx => ?_, fun hne => ?_⟩
  · obtain ⟨i, hi, rfl⟩ := List.mem_iff_getElem.1 hx
    obtain ⟨B, off, _, _, _, hc⟩ := h5 (by omega)
    obtain ⟨cs, hr, _⟩ := hc i (by omega)
    have := hr.2
    rwa [getE _ _ hi] at this
  · have hpos : 0 < n := by have := List.length_pos_iff.2 hne; omega
    obtain ⟨B, off, e, hB, _, hc⟩ := h5 hpos
    refine ⟨B, off, e, hB, fun i hi => ?_⟩
    obtain ⟨cs, ⟨rfl, _⟩, hv⟩ := hc i (by omega)
    have := hv 0 _ rfl
    simpa using this
theorem labs_of {A : Where} {w : World} {a : Option Addr} {n cap : Nat} {L : List Lab} (h : SlAt RLabel 2 32 A w a n cap L) : LabsAt w a L := by
  have hl := h.len (by decide)
  obtain ⟨hn, h2, h3, h4, h5⟩ := h
  refine ⟨by omega, fun x hx => ?_, fun hne => ?_⟩
  · obtain ⟨i, hi, rfl⟩ := List.mem_iff_getElem.1 hx
    obtain ⟨B, off, _, _, _, hc⟩ := h5 (by omega)
    obtain ⟨cs, hr, _⟩ := hc i (by omega)
    have := hr.out.2
    rwa [getE _ _ hi] at this
  · have hpos : 0 < n := by have := List.length_pos_iff.2 hne; omega
    obtain ⟨B, off, e, hB, _, hc⟩ := h5 hpos
    refine ⟨B, off, e, hB, fun i hi => ?_⟩
    obtain ⟨cs, hr, hv⟩ := hc i (by omega)
    obtain ⟨rfl, _⟩ := hr.out
    exact ⟨hv 0 _ rfl, hv 1 _ rfl⟩
theorem asks_of {A : Where} {w : World} {a : Option Addr} {n cap : Nat} {L : List Ask} (h : SlAt RReq 3 48 A w a n cap L) : AsksAt w a L := by
  have hl := h.len (by decide)
  obtain ⟨hn, h2, h3, h4, h5⟩ := h
  refine ⟨by omega, fun x hx => ?_, fun hne => ?_⟩
  · obtain ⟨i, hi, rfl⟩ := List.mem_iff_getElem.1 hx
    obtain ⟨B, off, _, _, _, hc⟩ := h5 (by omega)
    obtain ⟨cs, hr, _⟩ := hc i (by omega)
    obtain ⟨_, _, this, _⟩ := hr.out
    rwa [getE _ _ hi] at this
  · have hpos : 0 < n := by have := List.length_pos_iff.2 hne; omega
    obtain ⟨B, off, e, hB, _, hc⟩ := h5 hpos
    refine ⟨B, off, e, hB, fun i hi => ?_⟩
    obtain ⟨cs, hr, hv⟩ := hc i (by omega)
    obtain ⟨hd, rfl, _, hs⟩ := hr.out
    refine ⟨hv 0 _ rfl, hv 1 _ rfl, hd.1, hd.2.2, ?_, strs_of hs⟩
    have := hv 2 _ rfl
    rw [← hs.1] at this
    exact this
theorem Match_sl (a : Option Addr) (n cap : Nat) (A : Where) (L : List Lab) (b : Option Addr) (m capb : Nat) (A' : Where) (R : List Ask) (w : World) (hL : Hid (SlAt RLabel 2 32 A w a n cap L)) (hR : Hid (SlAt RReq 3 48 A' w b m capb R)) : Calls Try.prog 53 #[.slice a n cap, .slice b m capb] w fun e w' => e = .returned (.bool (matchL L R)) ∧ Below w.heap.size w w' := by
  have h := Match_calls a cap L b capb R w (labs_of hL.out) (asks_of hR.out)
  rw [hL.out.1, hR.out.1] at h
  exact h
theorem rMatch_sl (a : Option Addr) (n cap : Nat) (A : Where) (L : List Lab) (b : Option Addr) (m capb : Nat) (A' : Where) (R : List Ask) (w : World) (hL : Hid (SlAt RLabel 2 32 A w a n cap L)) (hR : Hid (SlAt RReq 3 48 A' w b m capb R)) : Calls Try.prog 40 #[.slice a n cap, .slice b m capb] w fun e w' => e = .returned (.bool (matchL L R)) ∧ Below w.heap.size w w' := by
  have h := rMatch_calls a cap L b capb R w (labs_of hL.out) (asks_of hR.out)
  rw [hL.out.1, hR.out.1] at h
  exact h
end Go.Proofs.Yteihniiacfghoaa
