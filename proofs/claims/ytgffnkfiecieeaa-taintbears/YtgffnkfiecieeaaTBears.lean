/- taint.meant, taint.Bears and the document's own Bears return what the plain function says, and change nothing that was there. No condition. -/
import Derived.Test.YtgffnkfiecieeaaLLeaf
import Derived.Test.YtgffnkfiecieeaaTPlain
import Derived.Laws.StructEq
namespace Go.Proofs.Ytgffnkfiecieeaa
open Go.RowKit
set_option linter.unusedSimpArgs false

set_option maxHeartbeats 2000000 in
theorem meant_calls (bk bv : ByteArray) (ba : Bool) (be : Int) (tk tv : ByteArray) (te : Int) (w : World) : Calls Try.prog 31 #[.agg #[.string bk, .string bv, .bool ba, .int .i64 be], .agg #[.string tk, .string tv, .int .i64 te]] w fun e w' => e = .returned (.agg #[.string (meantT (bk, bv, ba, be) (tk, tv, te)).1, .string (meantT (bk, bv, ba, be) (tk, tv, te)).2.1, .int .i64 (meantT (bk, bv, ba, be) (tk, tv, te)).2.2]) ∧ Below w.heap.size w w' := by
  have HM : Hid (meantT (bk, bv, ba, be) (tk, tv, te) = (if ba && bk.toList.isEmpty then tk else bk, if ba then tv else bv, if be == 0 then te else be)) := rfl
  generalize meantT (bk, bv, ba, be) (tk, tv, te) = m at HM ⊢
  obtain ⟨n, hn⟩ : ∃ n, bk.toList.isEmpty = n := ⟨_, rfl⟩
  obtain ⟨z, hz⟩ : ∃ z, (be == 0) = z := ⟨_, rfl⟩
  rw [hn, hz] at HM
  cases ba <;> cases n <;> cases z <;> (
    have HM' := HM.out
    simp only [Bool.and_self, Bool.and_true, Bool.and_false, Bool.true_and, Bool.false_and, Bool.false_eq_true, if_true, if_false] at HM'
    subst HM'
    clear HM
    go_enter Try.func31, Try.ntmps31
    go_wp2
    exact bodyPost_ret (v := .agg #[.string _, .string _, .int .i64 _]) (by simp [results, Try.results31, go_sem]) rfl ⟨rfl, by go_grown⟩)

theorem guardT : Try.prog.eqGuardType Try.prog.depth 32 = false := by kernel_rfl
theorem guardB : Try.prog.eqGuardType Try.prog.depth 38 = false := by kernel_rfl
theorem eqT (x y : Tnt) (w : World) : Sem.run Try.prog (binOp .eql 32 (.agg #[.string x.1, .string x.2.1, .int .i64 x.2.2]) (.agg #[.string y.1, .string y.2.1, .int .i64 y.2.2])) w = .ok (.bool (tEq x y)) w := by
  have u3 := Try.underlying3
  have a3 := Try.isAgg3
  have z3 := Try.sizeOf3
  have u9 := Try.underlying9
  have a9 := Try.isAgg9
  have z9 := Try.sizeOf9
  have hS : Try.prog.underlying 32 = some (.struct (Try.prog.fieldsOf 32)) := by kernel_rfl
  have hp : Try.prog.stoodInHeld 32 = false := by kernel_rfl
  rw [run_eql_struct, show (10000 : Nat) = 9999 + 1 from rfl, run_equalIn_agg w 9999 32 _ _ hS hp]
  simp only [Program.fieldsOf, Try.underlying32]
  go_simp
  simp only [tEq, sEq]
  by_cases h1 : x.1.toList = y.1.toList <;> by_cases h2 : x.2.1.toList = y.2.1.toList <;> by_cases h3 : x.2.2 = y.2.2 <;> simp [h1, h2, h3]
theorem eqB (x y : Bear) (w : World) : Sem.run Try.prog (binOp .eql 38 (.agg #[.string x.1, .string x.2.1, .bool x.2.2.1, .int .i64 x.2.2.2]) (.agg #[.string y.1, .string y.2.1, .bool y.2.2.1, .int .i64 y.2.2.2])) w = .ok (.bool (bEq x y)) w := by
  have u3 := Try.underlying3
  have a3 := Try.isAgg3
  have z3 := Try.sizeOf3
  have u4 := Try.underlying4
  have a4 := Try.isAgg4
  have z4 := Try.sizeOf4
  have u9 := Try.underlying9
  have a9 := Try.isAgg9
  have z9 := Try.sizeOf9
  have hS : Try.prog.underlying 38 = some (.struct (Try.prog.fieldsOf 38)) := by kernel_rfl
  have hp : Try.prog.stoodInHeld 38 = false := by kernel_rfl
  rw [run_eql_struct, show (10000 : Nat) = 9999 + 1 from rfl, run_equalIn_agg w 9999 38 _ _ hS hp]
  simp only [Program.fieldsOf, Try.underlying38]
  go_simp
  simp only [bEq, sEq]
  by_cases h1 : x.1.toList = y.1.toList <;> by_cases h2 : x.2.1.toList = y.2.1.toList <;> by_cases h3 : x.2.2.1 = y.2.2.1 <;> by_cases h4 : x.2.2.2 = y.2.2.2 <;> simp [h1, h2, h3, h4]

/-- The two boxes hold what came in, and nothing that was there has turned. -/
def BeS (wB : World) (D E : Nat) (bk bv : ByteArray) (ba : Bool) (be : Int) (tk tv : ByteArray) (te : Int) (u : World) : Prop :=
  Below wB.heap.size wB u ∧ u.cell? ⟨D, 0, none⟩ = some (.string bk) ∧ u.cell? ⟨D, 1, none⟩ = some (.string bv) ∧ u.cell? ⟨D, 2, none⟩ = some (.bool ba) ∧ u.cell? ⟨D, 3, none⟩ = some (.int .i64 be) ∧
    u.cell? ⟨E, 0, none⟩ = some (.string tk) ∧ u.cell? ⟨E, 1, none⟩ = some (.string tv) ∧ u.cell? ⟨E, 2, none⟩ = some (.int .i64 te)
theorem BeS.to {wB u' : World} {D E : Nat} {bk bv : ByteArray} {ba : Bool} {be : Int} {tk tv : ByteArray} {te : Int} (h : BeS wB D E bk bv ba be tk tv te wB) (hD : D < wB.heap.size) (hE : E < wB.heap.size) (hb : Below wB.heap.size wB u') : BeS wB D E bk bv ba be tk tv te u' := by
  obtain ⟨_, h1, h2, h3, h4, h5, h6, h7⟩ := h
  exact ⟨hb, (hb.cell hD).trans h1, (hb.cell hD).trans h2, (hb.cell hD).trans h3, (hb.cell hD).trans h4, (hb.cell hE).trans h5, (hb.cell hE).trans h6, (hb.cell hE).trans h7⟩

set_option maxHeartbeats 2000000 in
theorem Bears_calls (bk bv : ByteArray) (ba : Bool) (be : Int) (tk tv : ByteArray) (te : Int) (w : World) : Calls Try.prog 19 #[.agg #[.string bk, .string bv, .bool ba, .int .i64 be], .agg #[.string tk, .string tv, .int .i64 te]] w fun e w' => e = .returned (.bool (bearsB (bk, bv, ba, be) (tk, tv, te))) ∧ Below w.heap.size w w' := by
  have hS0 : BeS ((w.alloc (.cells #[.string bk, .string bv, .bool ba, .int .i64 be] 38)).alloc (.cells #[.string tk, .string tv, .int .i64 te] 32)) w.heap.size (w.heap.size + 1) bk bv ba be tk tv te ((w.alloc (.cells #[.string bk, .string bv, .bool ba, .int .i64 be] 38)).alloc (.cells #[.string tk, .string tv, .int .i64 te] 32)) :=
    ⟨Below.refl _ _, by simp [go_sem], by simp [go_sem], by simp [go_sem], by simp [go_sem], by simp [go_sem], by simp [go_sem], by simp [go_sem]⟩
  have hb0 : Below w.heap.size w ((w.alloc (.cells #[.string bk, .string bv, .bool ba, .int .i64 be] 38)).alloc (.cells #[.string tk, .string tv, .int .i64 te] 32)) := by go_grown
  have hD : w.heap.size < ((w.alloc (.cells #[.string bk, .string bv, .bool ba, .int .i64 be] 38)).alloc (.cells #[.string tk, .string tv, .int .i64 te] 32)).heap.size := by simp; omega
  have hE : w.heap.size + 1 < ((w.alloc (.cells #[.string bk, .string bv, .bool ba, .int .i64 be] 38)).alloc (.cells #[.string tk, .string tv, .int .i64 te] 32)).heap.size := by simp
  have HS : Hid (∀ {u : World}, Below ((w.alloc (.cells #[.string bk, .string bv, .bool ba, .int .i64 be] 38)).alloc (.cells #[.string tk, .string tv, .int .i64 te] 32)).heap.size ((w.alloc (.cells #[.string bk, .string bv, .bool ba, .int .i64 be] 38)).alloc (.cells #[.string tk, .string tv, .int .i64 te] 32)) u → BeS ((w.alloc (.cells #[.string bk, .string bv, .bool ba, .int .i64 be] 38)).alloc (.cells #[.string tk, .string tv, .int .i64 te] 32)) w.heap.size (w.heap.size + 1) bk bv ba be tk tv te u) := fun hb => hS0.to hD hE hb
  have HM := meant_calls bk bv ba be tk tv te
  have HQ := eqT (meantT (bk, bv, ba, be) (tk, tv, te)) (tk, tv, te)
  have HG := guardT
  rw [meant_bears] at HQ
  clear hS0
  generalize meantT (bk, bv, ba, be) (tk, tv, te) = m at HM HQ
  generalize bearsB (bk, bv, ba, be) (tk, tv, te) = r at HQ ⊢
  go_enter Try.func19, Try.ntmps19
  go_wp2_with fail
  generalize hwB : ((w.alloc (.cells #[.string bk, .string bv, .bool ba, .int .i64 be] 38)).alloc (.cells #[.string tk, .string tv, .int .i64 te] 32)) = wB at HS hb0 hD hE
  refine wp_region_noPanic ?_
  refine wp_region_held_drew (S := BeS wB w.heap.size (w.heap.size + 1) bk bv ba be tk tv te) (by kernel_rfl) (HS.out (Below.refl _ _).drew) (fun hHeld => ?_)
  refine wpAnyH_take (i := 0) (v := ?v0) rfl (by kernel_rfl) (by kernel_rfl) (by kernel_rfl) (fun _ _ _ h => h) (Or.inl ⟨by rfl, ?hy0⟩) (by assumption) ?rest0
  case hy0 => (intro u hu; obtain ⟨_, _, _, _, _, _, _, _⟩ := hu; go_simp; try with_reducible rfl)
  try simp only [Act.put, List.setIfInBounds_toArray, List.set_cons_zero, List.set_cons_succ, List.getElem_toArray, List.getElem_cons_zero, List.getElem_cons_succ]
  refine wpAnyH_take (i := 1) (v := ?v1) rfl (by kernel_rfl) (by kernel_rfl) (by kernel_rfl) (fun _ _ _ h => h) (Or.inl ⟨by rfl, ?hy1⟩) (by assumption) ?rest1
  case hy1 => (intro u hu; obtain ⟨_, _, _, _, _, _, _, _⟩ := hu; go_simp; try with_reducible rfl)
  try simp only [Act.put, List.setIfInBounds_toArray, List.set_cons_zero, List.set_cons_succ, List.getElem_toArray, List.getElem_cons_zero, List.getElem_cons_succ]
  refine wpAnyH_take (i := 3) (v := ?v3) rfl (by kernel_rfl) (by kernel_rfl) (by kernel_rfl) (fun _ _ _ h => h) (Or.inl ⟨by rfl, ?hy3⟩) (by assumption) ?rest3
  case hy3 => (intro u hu; obtain ⟨_, _, _, _, _, _, _, _⟩ := hu; go_simp; try with_reducible rfl)
  try simp only [Act.put, List.setIfInBounds_toArray, List.set_cons_zero, List.set_cons_succ, List.getElem_toArray, List.getElem_cons_zero, List.getElem_cons_succ]
  refine wpAnyH_ready (rs := [2]) (by kernel_rfl) (by simp) ?_
  refine AllReadyH.cons rfl (fun K hK => ?_) AllReadyH.nil
  go_simp
  refine (HM _).mono ?_
  rintro e w1 ⟨rfl, hb1⟩
  go_wp2_with fail
  refine hK.out _ _ (HS.out (on2 hHeld.1 hb1)) (fun hHeld2 => ?_)
  clear hK K hHeld
  have hHeld := hHeld2
  clear hHeld2
  try simp only [Act.put, List.setIfInBounds_toArray, List.set_cons_zero, List.set_cons_succ, List.getElem_toArray, List.getElem_cons_zero, List.getElem_cons_succ]
  refine wpAnyH_take (i := 4) (v := ?v4) rfl (by kernel_rfl) (by kernel_rfl) (by kernel_rfl) (fun _ _ _ h => h) (Or.inl ⟨by rfl, ?hy4⟩) (by assumption) ?rest4
  case hy4 => (intro u hu; obtain ⟨_, _, _, _, _, _, _, _⟩ := hu; go_simp; try with_reducible rfl)
  try simp only [Act.put, List.setIfInBounds_toArray, List.set_cons_zero, List.set_cons_succ, List.getElem_toArray, List.getElem_cons_zero, List.getElem_cons_succ]
  refine wpAnyH_take (i := 5) (v := ?v5) rfl (by kernel_rfl) (by kernel_rfl) (by kernel_rfl) (fun _ _ _ h => h) (Or.inl ⟨by rfl, ?hy5⟩) (by assumption) ?rest5
  case hy5 => (intro u hu; obtain ⟨_, _, _, _, _, _, _, _⟩ := hu; go_simp; try with_reducible rfl)
  try simp only [Act.put, List.setIfInBounds_toArray, List.set_cons_zero, List.set_cons_succ, List.getElem_toArray, List.getElem_cons_zero, List.getElem_cons_succ]
  refine wpAnyH_done (by kernel_rfl) ?_ _
  refine NoPanic.normal ?_
  go_wp2_with fail
  go_ret
  exact ⟨rfl, on2 hb0 hHeld.1⟩

end Go.Proofs.Ytgffnkfiecieeaa
