/- object.allRight at Pod, by what the kind says of one, and its like. No condition beyond what each says. -/
import Derived.Shelf.Abstract
import Derived.Laws.StructEq
import Derived.Laws.Cover1
import Derived.Test.YtopimokncibdgaaGreatQ10
namespace Go.Proofs.YtopimokncibdgaaGreat
set_option maxHeartbeats 16000000
set_option maxRecDepth 100000
open Tryz Go.RowKit
set_option linter.unusedSimpArgs false
theorem all1Pod (s : String) (hm : ∀ w, (method 406 132 (.agg #[]) s).run prog w = .ok (97, .agg #[]) w) (p : PodD → Bool) (D : Nat) (w : World) (hD : D < w.heap.size) (cD : w.cell? ⟨D, 0, none⟩ = some (.func (.method s) #[.iface 132 (.agg #[])] #[])) (hpr : p = rightPod) : PredPod 174 #[.pointer (some ⟨D, 0, none⟩)] (fun x => !p x) w := fun W cs x hb hr0 => by
 have hr : Hid (RPod (fun _ => True) W cs x) := hr0
 clear hr0
 have HV : Hid ((W.alloc (.cells cs.toArray 33)).rangeAt W.heap.size 0 cs) := range_all rfl
 have hi : (prog.info? 33).map (·.size) = some cs.length := by rw [RPod.firm.len hr.out]; exact itPod
 have HB0 : Hid (Below w.heap.size w (W.alloc (.cells cs.toArray 33))) := on2 hb (by go_grown)
 have HBW : Hid (Below W.heap.size W (W.alloc (.cells cs.toArray 33))) := by unfold Hid; go_grown
 have hDW : D < W.heap.size := by have := hb.size; omega
 have hne : D ≠ W.heap.size := by omega
 have d0 := (hb.cell (p := ⟨D, 0, none⟩) hD).trans cD
 subst hpr
 have hcall := (Pod_right cs _ x (W.alloc (.cells cs.toArray 33)) (RPod.firm.kept hr.out (Kept.alloc _ _ _)))
 show Calls prog 174 #[.agg cs.toArray, .pointer (some ⟨D, 0, none⟩)] W fun e w' => e = .returned (.bool (!rightPod x)) ∧ Below W.heap.size W w'
 generalize rightPod x = r at hcall ⊢
 clear cD hb
 go_enter func174, ntmps174
 go_wp2_with (first | (refine wpList_load_mid rfl 33 _ rfl W.heap.size 0 rfl cs _ HV.out underlying33 rfl hi ?_) | fail)
 refine hcall.mono ?_
 rintro e w1 ⟨rfl, hb1⟩
 go_wp2_with fail
 go_ret
 exact ⟨rfl, on2 HBW.out hb1⟩
theorem entsPod : ∀ args w, (callFunc 174 args).run prog w = .ok (.enter 174 args) w := Go.Proofs.enters_of func174 (by kernel_rfl) rfl
theorem not_anyPod (L : List PodD) (p : PodD → Bool) : (!L.any (fun x => !p x)) = L.all p := by
 rw [Bool.eq_iff_iff]; simp
theorem allRightPod_calls (s : String) (hm : ∀ w, (method 406 132 (.agg #[]) s).run prog w = .ok (97, .agg #[]) w) (a : Option Addr) (n cap : Nat) (A : Where) (L : List PodD) (w : World) (hL : Hid (SlAt RPod 16 296 A w a n cap L)) : Calls prog 166 #[.slice a n cap, .func (.method s) #[.iface 132 (.agg #[])] #[]] w fun e w' => e = .returned (.bool (L.all rightPod)) ∧ Below w.heap.size w w' := by
 have hb0 : Below w.heap.size w (w.alloc (.cells #[.func (.method s) #[.iface 132 (.agg #[])] #[]] 87)) := by go_grown
 have hC := ContainsPod_calls a n cap A L (w.alloc (.cells #[.func (.method s) #[.iface 132 (.agg #[])] #[]] 87)) (hL.out.on RPod.firm hb0) (fun x => !rightPod x) 174 #[.pointer (some ⟨w.heap.size, 0, none⟩)] entsPod (all1Pod s hm rightPod w.heap.size _ (by simp) (by simp [go_sem]) rfl)
 have HF := not_anyPod L rightPod
 generalize L.any (fun x => !rightPod x) = r at hC HF
 have HF2 : Hid ((!r) = L.all rightPod) := HF
 clear HF hL
 go_enter func166, ntmps166
 go_wp2_with fail
 refine hC.mono ?_
 rintro e w1 ⟨rfl, hb1⟩
 go_wp2_with fail
 go_ret
 exact ⟨retb HF2.out, on2 hb0 hb1⟩
end Go.Proofs.YtopimokncibdgaaGreat

namespace Go.Proofs.YtopimokncibdgaaGreat
set_option maxHeartbeats 16000000
set_option maxRecDepth 100000
open Go.RowKit
set_option linter.unusedSimpArgs false
section
variable {α : Type} [Inhabited α] [DecidableEq α] {L M : List α}
end
def TellsEq {α : Type} (e : Ending) (x y : α) : Prop := ∃ r, e = .returned (.bool r) ∧ (r = true ↔ x = y)
theorem tells {α : Type} {x y : α} {r : Bool} (h : r = true ↔ x = y) : TellsEq (.returned (.bool r)) x y := ⟨r, rfl, h⟩
end Go.Proofs.YtopimokncibdgaaGreat

namespace Go.Proofs.YtopimokncibdgaaGreat
set_option maxHeartbeats 16000000
set_option maxRecDepth 100000
open Tryz Go.RowKit
set_option linter.unusedSimpArgs false
theorem guardR : prog.eqGuardType prog.depth 24 = false := by kernel_rfl
def emptyL {α : Type} (L : List α) : Bool := decide (L.length = 0)
def resZ (r : ResD) : Bool := (r.1 == 0) && ((r.2.1 == 0) && (r.2.2 == 0))
def blankBudget (x : BudgetD) : Bool := sNil x.1 && emptyL x.2.1 && (x.2.2 == 0)
def blankVolume (x : VolumeD) : Bool := sNil x.1 && (x.2.1 == 0) && sNil x.2.2.1 && emptyL x.2.2.2.1 && sNil x.2.2.2.2
def blankClaim (x : ClaimD) : Bool := sNil x.1 && ((x.2.1 == 0) && (sNil x.2.2.1 && sNil x.2.2.2))
def blankClass (x : ClassD) : Bool := sNil x.1 && !x.2
def blankNode (x : NodeD) : Bool := (emptyL x.2.1 && emptyL x.2.2.1) && sNil x.1 && !x.2.2.2.1 && resZ x.2.2.2.2.1 && (x.2.2.2.2.2.1 == 0) && (x.2.2.2.2.2.2 == 0)
def blankPod (x : PodD) : Bool := (emptyL x.2.2.1 && emptyL x.2.2.2.2.1 && emptyL x.2.2.2.2.2.1 && emptyL x.2.2.2.2.2.2.1 && emptyL x.2.2.2.2.2.2.2.1 && emptyL x.2.2.2.2.2.2.2.2.1 && emptyL x.2.2.2.2.2.2.2.2.2.1 && emptyL x.2.2.2.2.2.2.2.2.2.2.1 && emptyL x.2.2.2.2.2.2.2.2.2.2.2.1) && sNil x.1 && (x.2.1 == 0) && resZ x.2.2.2.1 && sNil x.2.2.2.2.2.2.2.2.2.2.2.2.1 && sNil x.2.2.2.2.2.2.2.2.2.2.2.2.2
theorem eqR0 (x : ResD) (w : World) : Sem.run prog (binOp .eql 24 (.agg #[.int .i64 x.1, .int .i64 x.2.1, .int .i64 x.2.2]) (.agg #[.int .i64 0, .int .i64 0, .int .i64 0])) w = .ok (.bool (resZ x)) w := by
 have u3 := underlying3
 have a3 := Tryz.isAgg3
 have z3 := Tryz.sizeOf3
 have hS : prog.underlying 24 = some (.struct (prog.fieldsOf 24)) := by kernel_rfl
 have hp : prog.stoodInHeld 24 = false := by kernel_rfl
 rw [run_eql_struct, show (10000 : Nat) = 9999 + 1 from rfl, run_equalIn_agg w 9999 24 _ _ hS hp]
 simp only [Program.fieldsOf, underlying24]
 go_simp
 simp only [resZ]
 by_cases h1 : x.1 = 0 <;> by_cases h2 : x.2.1 = 0 <;> by_cases h3 : x.2.2 = 0 <;> simp [h1, h2, h3]
theorem guardC : prog.eqGuardType prog.depth 42 = false := by kernel_rfl
theorem guardM : prog.eqGuardType prog.depth 40 = false := by kernel_rfl
theorem eqC0 (x : ClassD) (w : World) : Sem.run prog (binOp .eql 42 (.agg #[.string x.1, .bool x.2]) (.agg #[.string ⟨#[]⟩, .bool false])) w = .ok (.bool (blankClass x)) w := by
 have u4 := underlying4
 have a4 := Tryz.isAgg4
 have z4 := Tryz.sizeOf4
 have u9 := underlying9
 have a9 := Tryz.isAgg9
 have z9 := Tryz.sizeOf9
 have hS : prog.underlying 42 = some (.struct (prog.fieldsOf 42)) := by kernel_rfl
 have hp : prog.stoodInHeld 42 = false := by kernel_rfl
 rw [run_eql_struct, show (10000 : Nat) = 9999 + 1 from rfl, run_equalIn_agg w 9999 42 _ _ hS hp]
 simp only [Program.fieldsOf, underlying42]
 go_simp
 obtain ⟨s, b⟩ := x
 simp only [blankClass, sNil]
 cases b <;> by_cases h : s.toList = [] <;> simp [h]
theorem eqM0 (x : ClaimD) (w : World) : Sem.run prog (binOp .eql 40 (.agg #[.string x.1, .int .i64 x.2.1, .string x.2.2.1, .string x.2.2.2]) (.agg #[.string ⟨#[]⟩, .int .i64 0, .string ⟨#[]⟩, .string ⟨#[]⟩])) w = .ok (.bool (blankClaim x)) w := by
 have u3 := underlying3
 have a3 := Tryz.isAgg3
 have z3 := Tryz.sizeOf3
 have u9 := underlying9
 have a9 := Tryz.isAgg9
 have z9 := Tryz.sizeOf9
 have hS : prog.underlying 40 = some (.struct (prog.fieldsOf 40)) := by kernel_rfl
 have hp : prog.stoodInHeld 40 = false := by kernel_rfl
 rw [run_eql_struct, show (10000 : Nat) = 9999 + 1 from rfl, run_equalIn_agg w 9999 40 _ _ hS hp]
 simp only [Program.fieldsOf, underlying40]
 go_simp
 simp only [blankClaim, sNil]
 by_cases h1 : x.1.toList = [] <;> by_cases h2 : x.2.1 = 0 <;> by_cases h3 : x.2.2.1.toList = [] <;> by_cases h4 : x.2.2.2.toList = [] <;> simp [h1, h2, h3, h4]
theorem Class_blank (c : List Value) (A : Where) (x : ClassD) (w : World) (h : Hid (RClass A w c x)) : Calls prog 276 #[.agg #[], .agg c.toArray] w fun e w' => e = .returned (.bool (blankClass x)) ∧ Below w.heap.size w w' := by
 obtain ⟨rfl, _⟩ := h.out.out
 have hE := eqC0 x
 have hG := guardC
 generalize blankClass x = r at hE ⊢
 go_enter func276, ntmps276
 go_wp2_with fail
 go_ret
 exact ⟨rfl, by go_grown⟩
theorem Claim_blank (c : List Value) (A : Where) (x : ClaimD) (w : World) (h : Hid (RClaim A w c x)) : Calls prog 245 #[.agg #[], .agg c.toArray] w fun e w' => e = .returned (.bool (blankClaim x)) ∧ Below w.heap.size w w' := by
 obtain ⟨rfl, _⟩ := h.out.out
 have hE := eqM0 x
 have hG := guardM
 generalize blankClaim x = r at hE ⊢
 go_enter func245, ntmps245
 go_wp2_with fail
 go_ret
 exact ⟨rfl, by go_grown⟩
theorem Budget_blank (c : List Value) (A : Where) (x : BudgetD) (w : World) (h : Hid (RBudget A w c x)) : Calls prog 307 #[.agg #[], .agg c.toArray] w fun e w' => e = .returned (.bool (blankBudget x)) ∧ Below w.heap.size w w' := by
 obtain ⟨h1, rfl, _, hs⟩ := h.out.out
 have HS : Hid (SlAt RReq 3 48 A w h1.1 h1.2.1 h1.2.2 x.2.1) := hs
 clear h hs
 have HB : Hid (Below w.heap.size w ((w.alloc (.cells #[] 157)).alloc (.cells #[.string x.1, J h1, .int .i64 x.2.2] 44))) := by unfold Hid; go_grown
 obtain ⟨b0, e0⟩ : ∃ b : Bool, sNil x.1 = b := ⟨_, rfl⟩
 obtain ⟨b1, e1⟩ : ∃ b : Bool, emptyL x.2.1 = b := ⟨_, rfl⟩
 obtain ⟨b2, e2⟩ : ∃ b : Bool, (x.2.2 == 0) = b := ⟨_, rfl⟩
 have HF : Hid (blankBudget x = (b0 && b1 && b2)) := by rw [Hid, ← e0, ← e1, ← e2]; rfl
 have t0 : x.1.toList.isEmpty = b0 := by exact e0
 clear e0
 have t1 : ((h1.2.1 : Int) == 0) = b1 := by rw [← e1]; rw [emptyL, HS.out.1, Bool.eq_iff_iff]; simp
 clear e1
 have t2 : (x.2.2 == 0) = b2 := by exact e2
 clear e2
 cases b0
 ·
  go_enter func307, ntmps307
  go_wp2_with fail
  go_ret
  exact ⟨retb (by rw [HF.out] <;> simp), HB.out⟩
 cases b1
 ·
  go_enter func307, ntmps307
  go_wp2_with fail
  go_ret
  exact ⟨retb (by rw [HF.out] <;> simp), HB.out⟩
 cases b2
 ·
  go_enter func307, ntmps307
  go_wp2_with fail
  go_ret
  exact ⟨retb (by rw [HF.out] <;> simp), HB.out⟩
 go_enter func307, ntmps307
 go_wp2_with fail
 go_ret
 exact ⟨retb (by rw [HF.out] <;> simp), HB.out⟩
theorem Volume_blank (c : List Value) (A : Where) (x : VolumeD) (w : World) (h : Hid (RVolume A w c x)) : Calls prog 214 #[.agg #[], .agg c.toArray] w fun e w' => e = .returned (.bool (blankVolume x)) ∧ Below w.heap.size w w' := by
 obtain ⟨h3, rfl, _, _, hs, _⟩ := h.out.out
 have HS : Hid (SlAt RReq 3 48 A w h3.1 h3.2.1 h3.2.2 x.2.2.2.1) := hs
 clear h hs
 have HB : Hid (Below w.heap.size w ((w.alloc (.cells #[] 142)).alloc (.cells #[.string x.1, .int .i64 x.2.1, .string x.2.2.1, J h3, .string x.2.2.2.2] 38))) := by unfold Hid; go_grown
 obtain ⟨b0, e0⟩ : ∃ b : Bool, sNil x.1 = b := ⟨_, rfl⟩
 obtain ⟨b1, e1⟩ : ∃ b : Bool, (x.2.1 == 0) = b := ⟨_, rfl⟩
 obtain ⟨b2, e2⟩ : ∃ b : Bool, sNil x.2.2.1 = b := ⟨_, rfl⟩
 obtain ⟨b3, e3⟩ : ∃ b : Bool, emptyL x.2.2.2.1 = b := ⟨_, rfl⟩
 obtain ⟨b4, e4⟩ : ∃ b : Bool, sNil x.2.2.2.2 = b := ⟨_, rfl⟩
 have HF : Hid (blankVolume x = (b0 && b1 && b2 && b3 && b4)) := by rw [Hid, ← e0, ← e1, ← e2, ← e3, ← e4]; rfl
 have t0 : x.1.toList.isEmpty = b0 := by exact e0
 clear e0
 have t1 : (x.2.1 == 0) = b1 := by exact e1
 clear e1
 have t2 : x.2.2.1.toList.isEmpty = b2 := by exact e2
 clear e2
 have t3 : ((h3.2.1 : Int) == 0) = b3 := by rw [← e3]; rw [emptyL, HS.out.1, Bool.eq_iff_iff]; simp
 clear e3
 have t4 : x.2.2.2.2.toList.isEmpty = b4 := by exact e4
 clear e4
 cases b0
 ·
  go_enter func214, ntmps214
  go_wp2_with fail
  go_ret
  exact ⟨retb (by rw [HF.out] <;> simp), HB.out⟩
 cases b1
 ·
  go_enter func214, ntmps214
  go_wp2_with fail
  go_ret
  exact ⟨retb (by rw [HF.out] <;> simp), HB.out⟩
 cases b2
 ·
  go_enter func214, ntmps214
  go_wp2_with fail
  go_ret
  exact ⟨retb (by rw [HF.out] <;> simp), HB.out⟩
 cases b3
 ·
  go_enter func214, ntmps214
  go_wp2_with fail
  go_ret
  exact ⟨retb (by rw [HF.out] <;> simp), HB.out⟩
 cases b4
 ·
  go_enter func214, ntmps214
  go_wp2_with fail
  go_ret
  exact ⟨retb (by rw [HF.out] <;> simp), HB.out⟩
 go_enter func214, ntmps214
 go_wp2_with fail
 go_ret
 exact ⟨retb (by rw [HF.out] <;> simp), HB.out⟩
theorem Pod_blank (c : List Value) (A : Where) (x : PodD) (w : World) (h : Hid (RPod A w c x)) : Calls prog 95 #[.agg #[], .agg c.toArray] w fun e w' => e = .returned (.bool (blankPod x)) ∧ Below w.heap.size w w' := by
 obtain ⟨h2, h6, h7, h8, h9, h10, h11, h12, h13, rfl, _, g2, g6, g7, g8, g9, g10, g11, g12, g13, _⟩ := h.out.out
 have l2 := g2.len (by decide)
 have H2 : Hid (SlAt RLabel 2 32 A w h2.1 h2.2.1 h2.2.2 x.2.2.1) := g2
 have l6 := g6.len (by decide)
 have H6 : Hid (SlAt RBear 4 48 A w h6.1 h6.2.1 h6.2.2 x.2.2.2.2.1) := g6
 have l7 := g7.len (by decide)
 have H7 : Hid (SlAt RReq 3 48 A w h7.1 h7.2.1 h7.2.2 x.2.2.2.2.2.1) := g7
 have l8 := g8.len (by decide)
 have H8 : Hid (SlAt RPrefer 2 32 A w h8.1 h8.2.1 h8.2.2 x.2.2.2.2.2.2.1) := g8
 have l9 := g9.len (by decide)
 have H9 : Hid (SlAt RInt 1 8 A w h9.1 h9.2.1 h9.2.2 x.2.2.2.2.2.2.2.1) := g9
 have l10 := g10.len (by decide)
 have H10 : Hid (SlAt RTerm 2 40 A w h10.1 h10.2.1 h10.2.2 x.2.2.2.2.2.2.2.2.1) := g10
 have l11 := g11.len (by decide)
 have H11 : Hid (SlAt RTerm 2 40 A w h11.1 h11.2.1 h11.2.2 x.2.2.2.2.2.2.2.2.2.1) := g11
 have l12 := g12.len (by decide)
 have H12 : Hid (SlAt RSpread 4 56 A w h12.1 h12.2.1 h12.2.2 x.2.2.2.2.2.2.2.2.2.2.1) := g12
 have l13 := g13.len (by decide)
 have H13 : Hid (SlAt RStr 1 16 A w h13.1 h13.2.1 h13.2.2 x.2.2.2.2.2.2.2.2.2.2.2.1) := g13
 clear h g2 g6 g7 g8 g9 g10 g11 g12 g13
 have HB : Hid (Below w.heap.size w ((w.alloc (.cells #[] 132)).alloc (.cells #[.string x.1, .int .i64 x.2.1, J h2, .int .i64 x.2.2.2.1.1, .int .i64 x.2.2.2.1.2.1, .int .i64 x.2.2.2.1.2.2, J h6, J h7, J h8, J h9, J h10, J h11, J h12, J h13, .string x.2.2.2.2.2.2.2.2.2.2.2.2.1, .string x.2.2.2.2.2.2.2.2.2.2.2.2.2] 33))) := by unfold Hid; go_grown
 obtain ⟨b0, e0⟩ : ∃ b : Bool, (emptyL x.2.2.1 && emptyL x.2.2.2.2.1 && emptyL x.2.2.2.2.2.1 && emptyL x.2.2.2.2.2.2.1 && emptyL x.2.2.2.2.2.2.2.1 && emptyL x.2.2.2.2.2.2.2.2.1 && emptyL x.2.2.2.2.2.2.2.2.2.1 && emptyL x.2.2.2.2.2.2.2.2.2.2.1 && emptyL x.2.2.2.2.2.2.2.2.2.2.2.1) = b := ⟨_, rfl⟩
 obtain ⟨b1, e1⟩ : ∃ b : Bool, sNil x.1 = b := ⟨_, rfl⟩
 obtain ⟨b2, e2⟩ : ∃ b : Bool, (x.2.1 == 0) = b := ⟨_, rfl⟩
 obtain ⟨b3, e3⟩ : ∃ b : Bool, resZ x.2.2.2.1 = b := ⟨_, rfl⟩
 obtain ⟨b4, e4⟩ : ∃ b : Bool, sNil x.2.2.2.2.2.2.2.2.2.2.2.2.1 = b := ⟨_, rfl⟩
 obtain ⟨b5, e5⟩ : ∃ b : Bool, sNil x.2.2.2.2.2.2.2.2.2.2.2.2.2 = b := ⟨_, rfl⟩
 have HF : Hid (blankPod x = (b0 && b1 && b2 && b3 && b4 && b5)) := by rw [Hid, ← e0, ← e1, ← e2, ← e3, ← e4, ← e5]; rfl
 have t0 : ((h2.2.1 : Int) + (h6.2.1 : Int) + (h7.2.1 : Int) + (h8.2.1 : Int) + (h9.2.1 : Int) + (h10.2.1 : Int) + (h11.2.1 : Int) + (h12.2.1 : Int) + (h13.2.1 : Int) == 0) = b0 := by rw [← e0]; simp only [emptyL, H2.out.1, H6.out.1, H7.out.1, H8.out.1, H9.out.1, H10.out.1, H11.out.1, H12.out.1, H13.out.1]; rw [Bool.eq_iff_iff]; simp; omega
 clear e0
 have t1 : x.1.toList.isEmpty = b1 := by exact e1
 clear e1
 have t2 : (x.2.1 == 0) = b2 := by exact e2
 clear e2
 have t3 : resZ x.2.2.2.1 = b3 := by exact e3
 clear e3
 have t4 : x.2.2.2.2.2.2.2.2.2.2.2.2.1.toList.isEmpty = b4 := by exact e4
 clear e4
 have t5 : x.2.2.2.2.2.2.2.2.2.2.2.2.2.toList.isEmpty = b5 := by exact e5
 clear e5
 have hE := eqR0 x.2.2.2.1
 have hG := guardR
 cases b0
 ·
  go_enter func95, ntmps95
  go_wp2_with fail
  go_ret
  exact ⟨retb (by rw [HF.out] <;> simp), HB.out⟩
 cases b1
 ·
  go_enter func95, ntmps95
  go_wp2_with fail
  go_ret
  exact ⟨retb (by rw [HF.out] <;> simp), HB.out⟩
 cases b2
 ·
  go_enter func95, ntmps95
  go_wp2_with fail
  go_ret
  exact ⟨retb (by rw [HF.out] <;> simp), HB.out⟩
 cases b3
 ·
  go_enter func95, ntmps95
  go_wp2_with fail
  go_ret
  exact ⟨retb (by rw [HF.out] <;> simp), HB.out⟩
 cases b4
 ·
  go_enter func95, ntmps95
  go_wp2_with fail
  go_ret
  exact ⟨retb (by rw [HF.out] <;> simp), HB.out⟩
 cases b5
 ·
  go_enter func95, ntmps95
  go_wp2_with fail
  go_ret
  exact ⟨retb (by rw [HF.out] <;> simp), HB.out⟩
 go_enter func95, ntmps95
 go_wp2_with fail
 go_ret
 exact ⟨retb (by rw [HF.out] <;> simp), HB.out⟩
theorem Pod_kright (p c q : List Value) (x : PodD) (A : Where) (w : World) (h : Hid (RPod A w c x)) (hp : p.length = 1) (hall : (p ++ (c ++ q)).length = 40) : Calls prog 160 #[.agg #[.iface 132 (.agg #[])], .agg (p ++ (c ++ q)).toArray] w fun e w' => e = .returned (.bool (rightPod x)) ∧ Below w.heap.size w w' := by
 have hi : (prog.info? 46).map (·.size) = some (p ++ (c ++ q)).length := by rw [hall]; exact infoObj
 have HH : Hid (Held w [(w.heap.size + 1, p ++ (c ++ q)), (w.heap.size, [.iface 132 (.agg #[])])] [] ((w.alloc (.cells #[.iface 132 (.agg #[])] 136)).alloc (.cells (p ++ (c ++ q)).toArray 46))) := ((Held.start w).push rfl [.iface 132 (.agg #[])] 136).push (by simp) (p ++ (c ++ q)) 46
 have hc := RPod.firm.len h.out
 have h1 := RPod.firm.one h.out
 go_enter func160, ntmps160
 go_wp2_with fail
 refine wp_region_noPanic ?_
 refine wp_region_held_drew (S := Held w [(w.heap.size + 1, p ++ (c ++ q)), (w.heap.size, [.iface 132 (.agg #[])])] []) (by kernel_rfl) (HH.out.drew) (fun hH => ?_)
 refine tp 0 ?_
 try go_frame
 refine' tk 1 ?_ ?_; rotate_left
 ·
  intro u hu; have hc0 := Held.cell hu 1 rfl 0 rfl; clear hu; go_simp; try with_reducible rfl
 try go_frame
 refine tp 2 ?_
 try go_frame
 refine' tk 3 ?_ ?_; rotate_left
 ·
  intro u hu; have hc0 := Held.cell hu 1 rfl 0 rfl; clear hu; go_simp; try with_reducible rfl
 try go_frame
 refine tq 4 (.agg (p ++ (c ++ q)).toArray) (yieldsIf_load_mid (by rfl) 46 _ rfl (w.heap.size + 1) 0 rfl (p ++ (c ++ q)) _ (fun u hu => Held.get hu 0 rfl) underlying46 rfl hi) ?_ (hi := rfl)
 try go_frame
 refine tp 6 ?_
 try go_frame
 refine tp 7 ?_
 try go_frame
 refine tr 5 (fun K hK => ?_)
 refine want_yes (by rfl) (call_enter (f := 340) (args := #[.agg #[], .agg (p ++ (c ++ q)).toArray]) (by kernel_rfl) (Pod_member p c q hp hc h1 _) (fun e u1 he => ?_))
 obtain ⟨rfl, hb1⟩ := he
 have HB1 : Hid (Below w.heap.size w u1) := on2 hH.below hb1
 refine ⟨_, rfl, hK.out _ _ (hH.on hb1) (fun hH => ?_)⟩
 clear hK K
 try go_frame
 refine tr 8 (fun K hK => ?_)
 refine want_yes (by rfl) (call_enter (f := 97) (args := #[.agg #[], .agg c.toArray]) (by kernel_rfl) (Pod_right c A x _ (RPod.firm.kept h.out (Kept.below HB1.out))) (fun e u1 he => ?_))
 obtain ⟨rfl, hb2⟩ := he
 have HB2 : Hid (Below w.heap.size w u1) := on2 hH.below hb2
 refine ⟨_, rfl, hK.out _ _ (hH.on hb2) (fun hH => ?_)⟩
 clear hK K
 try go_frame
 refine tp 9 ?_
 try go_frame
 refine wpAnyH_done (by kernel_rfl) ?_ _
 refine NoPanic.normal ?_
 go_wp2_with fail
 go_ret
 exact ⟨rfl, HB2.out⟩
theorem Pod_kblank (p c q : List Value) (x : PodD) (A : Where) (w : World) (h : Hid (RPod A w c x)) (hp : p.length = 1) (hall : (p ++ (c ++ q)).length = 40) : Calls prog 154 #[.agg #[.iface 132 (.agg #[])], .agg (p ++ (c ++ q)).toArray] w fun e w' => e = .returned (.bool (blankPod x)) ∧ Below w.heap.size w w' := by
 have hi : (prog.info? 46).map (·.size) = some (p ++ (c ++ q)).length := by rw [hall]; exact infoObj
 have HH : Hid (Held w [(w.heap.size + 1, p ++ (c ++ q)), (w.heap.size, [.iface 132 (.agg #[])])] [] ((w.alloc (.cells #[.iface 132 (.agg #[])] 136)).alloc (.cells (p ++ (c ++ q)).toArray 46))) := ((Held.start w).push rfl [.iface 132 (.agg #[])] 136).push (by simp) (p ++ (c ++ q)) 46
 have hc := RPod.firm.len h.out
 have h1 := RPod.firm.one h.out
 go_enter func154, ntmps154
 go_wp2_with fail
 refine wp_region_noPanic ?_
 refine wp_region_held_drew (S := Held w [(w.heap.size + 1, p ++ (c ++ q)), (w.heap.size, [.iface 132 (.agg #[])])] []) (by kernel_rfl) (HH.out.drew) (fun hH => ?_)
 refine tp 0 ?_
 try go_frame
 refine' tk 1 ?_ ?_; rotate_left
 ·
  intro u hu; have hc0 := Held.cell hu 1 rfl 0 rfl; clear hu; go_simp; try with_reducible rfl
 try go_frame
 refine tp 2 ?_
 try go_frame
 refine' tk 3 ?_ ?_; rotate_left
 ·
  intro u hu; have hc0 := Held.cell hu 1 rfl 0 rfl; clear hu; go_simp; try with_reducible rfl
 try go_frame
 refine tq 4 (.agg (p ++ (c ++ q)).toArray) (yieldsIf_load_mid (by rfl) 46 _ rfl (w.heap.size + 1) 0 rfl (p ++ (c ++ q)) _ (fun u hu => Held.get hu 0 rfl) underlying46 rfl hi) ?_ (hi := rfl)
 try go_frame
 refine tp 6 ?_
 try go_frame
 refine tp 7 ?_
 try go_frame
 refine tr 5 (fun K hK => ?_)
 refine want_yes (by rfl) (call_enter (f := 340) (args := #[.agg #[], .agg (p ++ (c ++ q)).toArray]) (by kernel_rfl) (Pod_member p c q hp hc h1 _) (fun e u1 he => ?_))
 obtain ⟨rfl, hb1⟩ := he
 have HB1 : Hid (Below w.heap.size w u1) := on2 hH.below hb1
 refine ⟨_, rfl, hK.out _ _ (hH.on hb1) (fun hH => ?_)⟩
 clear hK K
 try go_frame
 refine tr 8 (fun K hK => ?_)
 refine want_yes (by rfl) (call_enter (f := 95) (args := #[.agg #[], .agg c.toArray]) (by kernel_rfl) (Pod_blank c A x _ (RPod.firm.kept h.out (Kept.below HB1.out))) (fun e u1 he => ?_))
 obtain ⟨rfl, hb2⟩ := he
 have HB2 : Hid (Below w.heap.size w u1) := on2 hH.below hb2
 refine ⟨_, rfl, hK.out _ _ (hH.on hb2) (fun hH => ?_)⟩
 clear hK K
 try go_frame
 refine tp 9 ?_
 try go_frame
 refine wpAnyH_done (by kernel_rfl) ?_ _
 refine NoPanic.normal ?_
 go_wp2_with fail
 go_ret
 exact ⟨rfl, HB2.out⟩
theorem headPod {A : Where} {w : World} {c : List Value} {x : PodD} (h : RPod A w c x) : ∃ r, c = .string x.1 :: r := by
 obtain ⟨c1, d, rfl, ⟨rfl, _⟩, _⟩ := h
 exact ⟨d, rfl⟩
theorem Pod_named (c : List Value) (A : Where) (x : PodD) (w : World) (h : RPod A w c x) : Calls prog 96 #[.agg #[], .agg c.toArray] w fun e w' => e = .returned (.string x.1) ∧ Below w.heap.size w w' := by
 obtain ⟨r, rfl⟩ := headPod h
 exact Pod_name x.1 r w
theorem Pod_kcount (h0 h1 h2 h3 h4 h5 : Hd) (w : World) : Calls prog 155 #[.agg #[.iface 132 (.agg #[])], .agg #[J h0, J h1, J h2, J h3, J h4, J h5]] w fun e w' => e = .returned (.int .i64 (h0.2.1 : Nat)) ∧ Below w.heap.size w w' := by
 have hL := Pod_list (J h0) (J h1) (J h2) (J h3) (J h4) (J h5)
 go_enter func155, ntmps155
 go_wp2_with fail
 refine (hL _).mono ?_
 rintro e w1 ⟨rfl, hb1⟩
 go_wp2_with fail
 go_ret
 exact ⟨rfl, on2 (by go_grown) hb1⟩
theorem find1Pod (s : ByteArray) (D E : Nat) (w : World) (hD : D < w.heap.size) (hE : E < w.heap.size) (cD : w.cell? ⟨D, 0, none⟩ = some (.iface 132 (.agg #[]))) (cE : w.cell? ⟨E, 0, none⟩ = some (.string s)) : PredPod 169 #[.pointer (some ⟨D, 0, none⟩), .pointer (some ⟨E, 0, none⟩)] (fun x => sEq x.1 s) w := fun W cs x hb hr0 => by
 have hr : Hid (RPod (fun _ => True) W cs x) := hr0
 have hi : (prog.info? 33).map (·.size) = some cs.length := by rw [RPod.firm.len hr0]; exact itPod
 have HH : Hid (Held W [(W.heap.size, cs)] [] (W.alloc (.cells cs.toArray 33))) := (Held.start W).push rfl cs 33
 have hDW : D < W.heap.size := Nat.lt_of_lt_of_le hD hb.size
 have hEW : E < W.heap.size := Nat.lt_of_lt_of_le hE hb.size
 have HD : Hid (W.cell? ⟨D, 0, none⟩ = some (.iface 132 (.agg #[]))) := (hb.cell (p := ⟨D, 0, none⟩) hD).trans cD
 have HE : Hid (W.cell? ⟨E, 0, none⟩ = some (.string s)) := (hb.cell (p := ⟨E, 0, none⟩) hE).trans cE
 show Calls prog 169 #[.agg cs.toArray, .pointer (some ⟨D, 0, none⟩), .pointer (some ⟨E, 0, none⟩)] W fun e w' => e = .returned (.bool (sEq x.1 s)) ∧ Below W.heap.size W w'
 clear cD cE hb hD hE hr0
 go_enter func169, ntmps169
 go_wp2_with fail
 refine wp_region_noPanic ?_
 refine wp_region_held_drew (S := Held W [(W.heap.size, cs)] []) (by kernel_rfl) (HH.out.drew) (fun hH => ?_)
 refine' tk 0 ?_ ?_; rotate_left
 ·
  intro u hu; have hc0 := (hu.below.cell (p := ⟨D, 0, none⟩) hDW).trans HD.out; clear hu; go_simp; try with_reducible rfl
 try go_frame
 refine tq 1 (.agg (cs).toArray) (yieldsIf_load_mid (by rfl) 33 _ rfl (W.heap.size) 0 rfl (cs) _ (fun u hu => Held.get hu 0 rfl) underlying33 rfl hi) ?_ (hi := rfl)
 try go_frame
 refine' tk 3 ?_ ?_; rotate_left
 ·
  intro u hu; have hc0 := (hu.below.cell (p := ⟨E, 0, none⟩) hEW).trans HE.out; clear hu; go_simp; try with_reducible rfl
 try go_frame
 refine tr 2 (fun K hK => ?_)
 refine want_yes (by rfl) (call_enter (f := 96) (args := #[.agg #[], .agg cs.toArray]) (by kernel_rfl) (Pod_named cs _ x _ (RPod.firm.kept hr.out (Kept.below hH.below))) (fun e u1 he => ?_))
 obtain ⟨rfl, hb1⟩ := he
 have HB1 : Hid (Below W.heap.size W u1) := on2 hH.below hb1
 refine ⟨_, rfl, hK.out _ _ (hH.on hb1) (fun hH => ?_)⟩
 clear hK K
 try go_frame
 refine tp 4 ?_
 try go_frame
 refine tp 5 ?_
 try go_frame
 refine wpAnyH_done (by kernel_rfl) ?_ _
 refine NoPanic.normal ?_
 go_wp2_with fail
 go_ret
 exact ⟨retb (by simp only [sEq]), HB1.out⟩
theorem ent_findPod : ∀ args w, (callFunc 169 args).run prog w = .ok (.enter 169 args) w := Go.Proofs.enters_of func169 (by kernel_rfl) rfl
theorem place1Pod (s : ByteArray) (D E : Nat) (w : World) (hD : D < w.heap.size) (hE : E < w.heap.size) (cD : w.cell? ⟨D, 0, none⟩ = some (.iface 132 (.agg #[]))) (cE : w.cell? ⟨E, 0, none⟩ = some (.string s)) : PredPod 172 #[.pointer (some ⟨D, 0, none⟩), .pointer (some ⟨E, 0, none⟩)] (fun x => sGt x.1 s) w := fun W cs x hb hr0 => by
 have hr : Hid (RPod (fun _ => True) W cs x) := hr0
 have hi : (prog.info? 33).map (·.size) = some cs.length := by rw [RPod.firm.len hr0]; exact itPod
 have HH : Hid (Held W [(W.heap.size, cs)] [] (W.alloc (.cells cs.toArray 33))) := (Held.start W).push rfl cs 33
 have hDW : D < W.heap.size := Nat.lt_of_lt_of_le hD hb.size
 have hEW : E < W.heap.size := Nat.lt_of_lt_of_le hE hb.size
 have HD : Hid (W.cell? ⟨D, 0, none⟩ = some (.iface 132 (.agg #[]))) := (hb.cell (p := ⟨D, 0, none⟩) hD).trans cD
 have HE : Hid (W.cell? ⟨E, 0, none⟩ = some (.string s)) := (hb.cell (p := ⟨E, 0, none⟩) hE).trans cE
 show Calls prog 172 #[.agg cs.toArray, .pointer (some ⟨D, 0, none⟩), .pointer (some ⟨E, 0, none⟩)] W fun e w' => e = .returned (.bool (sGt x.1 s)) ∧ Below W.heap.size W w'
 clear cD cE hb hD hE hr0
 go_enter func172, ntmps172
 go_wp2_with fail
 refine wp_region_noPanic ?_
 refine wp_region_held_drew (S := Held W [(W.heap.size, cs)] []) (by kernel_rfl) (HH.out.drew) (fun hH => ?_)
 refine' tk 0 ?_ ?_; rotate_left
 ·
  intro u hu; have hc0 := (hu.below.cell (p := ⟨D, 0, none⟩) hDW).trans HD.out; clear hu; go_simp; try with_reducible rfl
 try go_frame
 refine tq 1 (.agg (cs).toArray) (yieldsIf_load_mid (by rfl) 33 _ rfl (W.heap.size) 0 rfl (cs) _ (fun u hu => Held.get hu 0 rfl) underlying33 rfl hi) ?_ (hi := rfl)
 try go_frame
 refine' tk 3 ?_ ?_; rotate_left
 ·
  intro u hu; have hc0 := (hu.below.cell (p := ⟨E, 0, none⟩) hEW).trans HE.out; clear hu; go_simp; try with_reducible rfl
 try go_frame
 refine tr 2 (fun K hK => ?_)
 refine want_yes (by rfl) (call_enter (f := 96) (args := #[.agg #[], .agg cs.toArray]) (by kernel_rfl) (Pod_named cs _ x _ (RPod.firm.kept hr.out (Kept.below hH.below))) (fun e u1 he => ?_))
 obtain ⟨rfl, hb1⟩ := he
 have HB1 : Hid (Below W.heap.size W u1) := on2 hH.below hb1
 refine ⟨_, rfl, hK.out _ _ (hH.on hb1) (fun hH => ?_)⟩
 clear hK K
 try go_frame
 refine tp 4 ?_
 try go_frame
 refine tp 5 ?_
 try go_frame
 refine wpAnyH_done (by kernel_rfl) ?_ _
 refine NoPanic.normal ?_
 go_wp2_with fail
 go_ret
 exact ⟨retb (by simp only [sGt, sLt, sEq]), HB1.out⟩
theorem ent_placePod : ∀ args w, (callFunc 172 args).run prog w = .ok (.enter 172 args) w := Go.Proofs.enters_of func172 (by kernel_rfl) rfl
theorem findPod_calls (a : Option Addr) (n cap : Nat) (A : Where) (L : List PodD) (s : ByteArray) (w : World) (hL : SlAt RPod 16 296 A w a n cap L) : Calls prog 162 #[.iface 132 (.agg #[]), .slice a n cap, .string s] w fun e w' => ((∃ i : Nat, i < L.length ∧ sEq (L.getD i default).1 s = true ∧ (∀ j, j < i → sEq (L.getD j default).1 s = false) ∧ e = .returned (.int .i64 i)) ∨ ((∀ j, j < L.length → sEq (L.getD j default).1 s = false) ∧ e = .returned (.int .i64 (-1)))) ∧ Below w.heap.size w w' := by
 have hb0 : Below w.heap.size w ((w.alloc (.cells #[.iface 132 (.agg #[])] 134)).alloc (.cells #[.string s] 9)) := by go_grown
 have hI := IndexPod_calls a n cap A L _ (hL.on RPod.firm hb0) (fun x => sEq x.1 s) 169 #[.pointer (some ⟨w.heap.size, 0, none⟩), .pointer (some ⟨w.heap.size + 1, 0, none⟩)] ent_findPod (find1Pod s w.heap.size (w.heap.size + 1) _ (by simp; omega) (by simp) (by simp [go_sem]) (by simp [go_sem]))
 go_enter func162, ntmps162
 go_wp2_with fail
 refine hI.mono ?_
 rintro e w1 ⟨⟨i, hi, hy, hn, rfl⟩ | ⟨hn, rfl⟩, hb⟩
 ·
  have HA : Hid (∃ i' : Nat, i' < L.length ∧ sEq (L.getD i' default).1 s = true ∧ (∀ j, j < i' → sEq (L.getD j default).1 s = false) ∧ Ending.returned (.int .i64 i) = .returned (.int .i64 i')) := ⟨i, hi, hy, hn, rfl⟩
  clear hy hn hI hL
  go_wp2_with fail
  go_ret
  exact ⟨.inl HA.out, on2 hb0 hb⟩
 ·
  have HA : Hid (∀ j, j < L.length → sEq (L.getD j default).1 s = false) := hn
  clear hn hI hL
  go_wp2_with fail
  go_ret
  exact ⟨.inr ⟨HA.out, rfl⟩, on2 hb0 hb⟩
theorem placePod_calls (a : Option Addr) (n cap : Nat) (A : Where) (L : List PodD) (s : ByteArray) (w : World) (hL : SlAt RPod 16 296 A w a n cap L) : Calls prog 164 #[.iface 132 (.agg #[]), .slice a n cap, .string s] w fun e w' => (∃ i : Nat, i ≤ L.length ∧ (∀ j, j < i → sGt (L.getD j default).1 s = false) ∧ (i < L.length → sGt (L.getD i default).1 s = true) ∧ e = .returned (.int .i64 i)) ∧ Below w.heap.size w w' := by
 have hb0 : Below w.heap.size w ((w.alloc (.cells #[.iface 132 (.agg #[])] 134)).alloc (.cells #[.string s] 9)) := by go_grown
 have hI := IndexPod_calls a n cap A L _ (hL.on RPod.firm hb0) (fun x => sGt x.1 s) 172 #[.pointer (some ⟨w.heap.size, 0, none⟩), .pointer (some ⟨w.heap.size + 1, 0, none⟩)] ent_placePod (place1Pod s w.heap.size (w.heap.size + 1) _ (by simp; omega) (by simp) (by simp [go_sem]) (by simp [go_sem]))
 have HN : Hid (L.length = n) := hL.1
 go_enter func164, ntmps164
 go_wp2_with fail
 refine hI.mono ?_
 rintro e w1 ⟨⟨i, hi, hy, hn, rfl⟩ | ⟨hn, rfl⟩, hb⟩
 ·
  have HA : Hid (∃ i' : Nat, i' ≤ L.length ∧ (∀ j, j < i' → sGt (L.getD j default).1 s = false) ∧ (i' < L.length → sGt (L.getD i' default).1 s = true) ∧ Ending.returned (.int .i64 i) = .returned (.int .i64 i')) := ⟨i, Nat.le_of_lt hi, hn, fun _ => hy, rfl⟩
  clear hy hn hI hL
  go_wp2_with fail
  go_ret
  exact ⟨HA.out, on2 hb0 hb⟩
 ·
  have HA : Hid (∃ i' : Nat, i' ≤ L.length ∧ (∀ j, j < i' → sGt (L.getD j default).1 s = false) ∧ (i' < L.length → sGt (L.getD i' default).1 s = true) ∧ Ending.returned (.int .i64 n) = .returned (.int .i64 i')) := ⟨n, Nat.le_of_eq HN.out.symm, fun j hj => hn j (by rw [HN.out]; exact hj), fun h => by rw [HN.out] at h; omega, rfl⟩
  clear hn hI hL
  go_wp2_with fail
  go_ret
  exact ⟨HA.out, on2 hb0 hb⟩
end Go.Proofs.YtopimokncibdgaaGreat

