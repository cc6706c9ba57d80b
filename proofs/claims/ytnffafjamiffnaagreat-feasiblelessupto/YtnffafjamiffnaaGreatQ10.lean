/- Functions of the program, each walked under the conditions that its theorem names. -/
import Derived.RangeFuncNested
import Derived.RangeFuncBound
import Derived.RangeFuncCalls
import Derived.RangeFuncLeaves
import Derived.RangeFuncWrites
import Derived.Shelf.Abstract
import Derived.Shelf.RegionOpen
import Derived.WalkKit
import Derived.OwnWalkIn
import Derived.TacticsInMore
import Derived.LoopNIn
import Derived.LoopIn
import Derived.Laws.StructEq
import Derived.Test.YtnffafjamiffnaaGreatRows
import Derived.Test.YtnffafjamiffnaaGreatQ09
set_option linter.unusedSimpArgs false
set_option maxRecDepth 100000
set_option maxHeartbeats 32000000
namespace Go.Proofs.YtnffafjamiffnaaGreat
open Go.RowKit
theorem op_paths (op : Int) : op = 1 \/ op = 2 \/ op = 3 \/ op = 4 \/ op = 5 \/ op = 6 \/ ((op == 1) = false /\ (op == 2) = false /\ (op == 3) = false /\ (op == 4) = false /\ (op == 5) = false /\ (op == 6) = false) := by
 simp only [beq_eq_false_iff_ne, ne_eq]
 omega
theorem zGB {v : ByteArray} {t : Bool} {op : Int} {V : List ByteArray} (h1 : (op == 1) = false) (h2 : (op == 2) = false) (h3 : (op == 3) = false) (h4 : (op == 4) = false) (h5 : (op == 5) = false) (h6 : (op == 6) = false) : meetsV v t op V = false := by
 simp only [beq_eq_false_iff_ne, ne_eq] at h1 h2 h3 h4 h5 h6
 simp [meetsV, h1, h2, h3, h4, h5, h6]
def ReqBox (D : Nat) (key : ByteArray) (op : Int) (a : Option Addr) (n cap : Nat) (u : World) : Prop := D < u.heap.size /\ u.cell? ⟨D, 0, none⟩ = some (.string key) /\ u.cell? ⟨D, 1, none⟩ = some (.int .i64 op) /\ u.cell? ⟨D, 2, none⟩ = some (.slice a n cap)
theorem ReqBox.on {D : Nat} {key : ByteArray} {op : Int} {a : Option Addr} {n cap : Nat} {u u' : World} (h : ReqBox D key op a n cap u) (hb : Below u.heap.size u u') : ReqBox D key op a n cap u' :=
 ⟨Nat.lt_of_lt_of_le h.1 hb.size, (hb.cell h.1).trans h.2.1, (hb.cell h.1).trans h.2.2.1, (hb.cell h.1).trans h.2.2.2⟩
theorem ReqBox.new (w : World) (key : ByteArray) (op : Int) (a : Option Addr) (n cap : Nat) : ReqBox w.heap.size key op a n cap (w.alloc (.cells #[.string key, .int .i64 op, .slice a n cap] 120)) :=
 ⟨by simp, by simp [go_sem], by simp [go_sem], by simp [go_sem]⟩
theorem by_in (v : ByteArray) (t : Bool) (a : Option Addr) (n cap : Nat) (w : World)  : Calls Tryz.prog 216 #[.agg #[.string v, .bool t, .slice a n cap], .int .i64 1] w fun e w' => e = .returned (.func (.func 229) #[.agg #[.string v, .bool t, .slice a n cap]] #[]) /\ Below w.heap.size w w' := by
 go_enter Tryz.func216, Tryz.ntmps216
 go_wp2
 go_ret
 exact ⟨rfl, by go_grown⟩
theorem Meets_in (a : Option Addr) (cap : Nat) (L : List Lab) (key : ByteArray) (b : Option Addr) (cap' : Nat) (V : List ByteArray) (w : World) (hL : Hid (LabsAt w a L)) (hV : Hid (StrsAt w b V))  : Calls Tryz.prog 194 #[.slice a L.length cap, .agg #[.string key, .int .i64 1, .slice b V.length cap']] w fun e w' => e = .returned (.bool (meetsV (getL L key).1 (getL L key).2 1 V)) /\ Below w.heap.size w w' := by
 have hb0 : Below w.heap.size w (w.alloc (.cells #[.string key, .int .i64 1, .slice b V.length cap'] 120)) := (Below.refl _ _).alloc (Nat.le_refl _) _
 have q0 := ReqBox.new w key 1 b V.length cap'
 have hg := zAU a cap L key _ (show Hid (LabsAt (w.alloc (.cells #[.string key, .int .i64 1, .slice b V.length cap'] 120)) a L) from hL.out.on hb0)
 have hVo : ∀ {u : World}, Below w.heap.size w u -> Hid (StrsAt u b V) := fun hb => hV.out.on hb
 generalize getL L key = x at hg
 obtain ⟨x, t⟩ := x
 skip
 clear hL hV
 go_enter Tryz.func194, Tryz.ntmps194
 go_wp2_with fail
 refine hg.mono ?_
 rintro e w1 ⟨rfl, hb1⟩
 have hb := on2 hb0 hb1
 obtain ⟨qa, qb, qc, qd⟩ := q0.on hb1
 clear hg hb1 hb0 q0
 go_wp2_with fail
 refine (by_in _ _ _ _ _ _).mono ?_
 rintro e w2 ⟨rfl, hb2⟩
 have hbb := on2 hb hb2
 clear hb qa qb qc qd hb2
 go_wp2_with fail
 refine (zGd _ _ _ _ V _ (hVo hbb)).mono ?_
 rintro e w3 ⟨rfl, hb3⟩
 have hbc := on2 hbb hb3
 clear hbb hb3 hVo
 go_wp2_with fail
 go_ret
 exact ⟨zDL (by simp [meetsV]), hbc⟩
theorem by_notIn (v : ByteArray) (t : Bool) (a : Option Addr) (n cap : Nat) (w : World)  : Calls Tryz.prog 216 #[.agg #[.string v, .bool t, .slice a n cap], .int .i64 2] w fun e w' => e = .returned (.func (.func 230) #[.agg #[.string v, .bool t, .slice a n cap]] #[]) /\ Below w.heap.size w w' := by
 go_enter Tryz.func216, Tryz.ntmps216
 go_wp2
 go_ret
 exact ⟨rfl, by go_grown⟩
theorem zGD (a : Option Addr) (cap : Nat) (L : List Lab) (key : ByteArray) (b : Option Addr) (cap' : Nat) (V : List ByteArray) (w : World) (hL : Hid (LabsAt w a L)) (hV : Hid (StrsAt w b V))  : Calls Tryz.prog 194 #[.slice a L.length cap, .agg #[.string key, .int .i64 2, .slice b V.length cap']] w fun e w' => e = .returned (.bool (meetsV (getL L key).1 (getL L key).2 2 V)) /\ Below w.heap.size w w' := by
 have hb0 : Below w.heap.size w (w.alloc (.cells #[.string key, .int .i64 2, .slice b V.length cap'] 120)) := (Below.refl _ _).alloc (Nat.le_refl _) _
 have q0 := ReqBox.new w key 2 b V.length cap'
 have hg := zAU a cap L key _ (show Hid (LabsAt (w.alloc (.cells #[.string key, .int .i64 2, .slice b V.length cap'] 120)) a L) from hL.out.on hb0)
 have hVo : ∀ {u : World}, Below w.heap.size w u -> Hid (StrsAt u b V) := fun hb => hV.out.on hb
 generalize getL L key = x at hg
 obtain ⟨x, t⟩ := x
 skip
 clear hL hV
 go_enter Tryz.func194, Tryz.ntmps194
 go_wp2_with fail
 refine hg.mono ?_
 rintro e w1 ⟨rfl, hb1⟩
 have hb := on2 hb0 hb1
 obtain ⟨qa, qb, qc, qd⟩ := q0.on hb1
 clear hg hb1 hb0 q0
 go_wp2_with fail
 refine (by_notIn _ _ _ _ _ _).mono ?_
 rintro e w2 ⟨rfl, hb2⟩
 have hbb := on2 hb hb2
 clear hb qa qb qc qd hb2
 go_wp2_with fail
 refine (zFf _ _ _ _ V _ (hVo hbb)).mono ?_
 rintro e w3 ⟨rfl, hb3⟩
 have hbc := on2 hbb hb3
 clear hbb hb3 hVo
 go_wp2_with fail
 go_ret
 exact ⟨zDL (by simp [meetsV]), hbc⟩
theorem by_exists (v : ByteArray) (t : Bool) (a : Option Addr) (n cap : Nat) (w : World)  : Calls Tryz.prog 216 #[.agg #[.string v, .bool t, .slice a n cap], .int .i64 3] w fun e w' => e = .returned (.func (.func 231) #[.agg #[.string v, .bool t, .slice a n cap]] #[]) /\ Below w.heap.size w w' := by
 go_enter Tryz.func216, Tryz.ntmps216
 go_wp2
 go_ret
 exact ⟨rfl, by go_grown⟩
theorem zF2 (a : Option Addr) (cap : Nat) (L : List Lab) (key : ByteArray) (b : Option Addr) (cap' : Nat) (V : List ByteArray) (w : World) (hL : Hid (LabsAt w a L)) (hV : Hid (StrsAt w b V))  : Calls Tryz.prog 194 #[.slice a L.length cap, .agg #[.string key, .int .i64 3, .slice b V.length cap']] w fun e w' => e = .returned (.bool (meetsV (getL L key).1 (getL L key).2 3 V)) /\ Below w.heap.size w w' := by
 have hb0 : Below w.heap.size w (w.alloc (.cells #[.string key, .int .i64 3, .slice b V.length cap'] 120)) := (Below.refl _ _).alloc (Nat.le_refl _) _
 have q0 := ReqBox.new w key 3 b V.length cap'
 have hg := zAU a cap L key _ (show Hid (LabsAt (w.alloc (.cells #[.string key, .int .i64 3, .slice b V.length cap'] 120)) a L) from hL.out.on hb0)
 have hVo : ∀ {u : World}, Below w.heap.size w u -> Hid (StrsAt u b V) := fun hb => hV.out.on hb
 generalize getL L key = x at hg
 obtain ⟨x, t⟩ := x
 skip
 clear hL hV
 go_enter Tryz.func194, Tryz.ntmps194
 go_wp2_with fail
 refine hg.mono ?_
 rintro e w1 ⟨rfl, hb1⟩
 have hb := on2 hb0 hb1
 obtain ⟨qa, qb, qc, qd⟩ := q0.on hb1
 clear hg hb1 hb0 q0
 go_wp2_with fail
 refine (by_exists _ _ _ _ _ _).mono ?_
 rintro e w2 ⟨rfl, hb2⟩
 have hbb := on2 hb hb2
 clear hb qa qb qc qd hb2
 go_wp2_with fail
 refine (zFY _ _ _ _ _ _).mono ?_
 rintro e w3 ⟨rfl, hb3⟩
 have hbc := on2 hbb hb3
 clear hbb hb3 hVo
 go_wp2_with fail
 go_ret
 exact ⟨zDL (by simp [meetsV]), hbc⟩
theorem by_lacks (v : ByteArray) (t : Bool) (a : Option Addr) (n cap : Nat) (w : World)  : Calls Tryz.prog 216 #[.agg #[.string v, .bool t, .slice a n cap], .int .i64 4] w fun e w' => e = .returned (.func (.func 232) #[.agg #[.string v, .bool t, .slice a n cap]] #[]) /\ Below w.heap.size w w' := by
 go_enter Tryz.func216, Tryz.ntmps216
 go_wp2
 go_ret
 exact ⟨rfl, by go_grown⟩
theorem zFp (a : Option Addr) (cap : Nat) (L : List Lab) (key : ByteArray) (b : Option Addr) (cap' : Nat) (V : List ByteArray) (w : World) (hL : Hid (LabsAt w a L)) (hV : Hid (StrsAt w b V))  : Calls Tryz.prog 194 #[.slice a L.length cap, .agg #[.string key, .int .i64 4, .slice b V.length cap']] w fun e w' => e = .returned (.bool (meetsV (getL L key).1 (getL L key).2 4 V)) /\ Below w.heap.size w w' := by
 have hb0 : Below w.heap.size w (w.alloc (.cells #[.string key, .int .i64 4, .slice b V.length cap'] 120)) := (Below.refl _ _).alloc (Nat.le_refl _) _
 have q0 := ReqBox.new w key 4 b V.length cap'
 have hg := zAU a cap L key _ (show Hid (LabsAt (w.alloc (.cells #[.string key, .int .i64 4, .slice b V.length cap'] 120)) a L) from hL.out.on hb0)
 have hVo : ∀ {u : World}, Below w.heap.size w u -> Hid (StrsAt u b V) := fun hb => hV.out.on hb
 generalize getL L key = x at hg
 obtain ⟨x, t⟩ := x
 skip
 clear hL hV
 go_enter Tryz.func194, Tryz.ntmps194
 go_wp2_with fail
 refine hg.mono ?_
 rintro e w1 ⟨rfl, hb1⟩
 have hb := on2 hb0 hb1
 obtain ⟨qa, qb, qc, qd⟩ := q0.on hb1
 clear hg hb1 hb0 q0
 go_wp2_with fail
 refine (by_lacks _ _ _ _ _ _).mono ?_
 rintro e w2 ⟨rfl, hb2⟩
 have hbb := on2 hb hb2
 clear hb qa qb qc qd hb2
 go_wp2_with fail
 refine (zGG _ _ _ _ _ _).mono ?_
 rintro e w3 ⟨rfl, hb3⟩
 have hbc := on2 hbb hb3
 clear hbb hb3 hVo
 go_wp2_with fail
 go_ret
 exact ⟨zDL (by simp [meetsV]), hbc⟩
theorem by_above (v : ByteArray) (t : Bool) (a : Option Addr) (n cap : Nat) (w : World)  : Calls Tryz.prog 216 #[.agg #[.string v, .bool t, .slice a n cap], .int .i64 5] w fun e w' => e = .returned (.func (.func 233) #[.agg #[.string v, .bool t, .slice a n cap]] #[]) /\ Below w.heap.size w w' := by
 go_enter Tryz.func216, Tryz.ntmps216
 go_wp2
 go_ret
 exact ⟨rfl, by go_grown⟩
theorem zGE (a : Option Addr) (cap : Nat) (L : List Lab) (key : ByteArray) (b : Option Addr) (cap' : Nat) (V : List ByteArray) (w : World) (hL : Hid (LabsAt w a L)) (hV : Hid (StrsAt w b V))  : Calls Tryz.prog 194 #[.slice a L.length cap, .agg #[.string key, .int .i64 5, .slice b V.length cap']] w fun e w' => e = .returned (.bool (meetsV (getL L key).1 (getL L key).2 5 V)) /\ Below w.heap.size w w' := by
 have hb0 : Below w.heap.size w (w.alloc (.cells #[.string key, .int .i64 5, .slice b V.length cap'] 120)) := (Below.refl _ _).alloc (Nat.le_refl _) _
 have q0 := ReqBox.new w key 5 b V.length cap'
 have hg := zAU a cap L key _ (show Hid (LabsAt (w.alloc (.cells #[.string key, .int .i64 5, .slice b V.length cap'] 120)) a L) from hL.out.on hb0)
 have hVo : ∀ {u : World}, Below w.heap.size w u -> Hid (StrsAt u b V) := fun hb => hV.out.on hb
 generalize getL L key = x at hg
 obtain ⟨x, t⟩ := x
 skip
 clear hL hV
 go_enter Tryz.func194, Tryz.ntmps194
 go_wp2_with fail
 refine hg.mono ?_
 rintro e w1 ⟨rfl, hb1⟩
 have hb := on2 hb0 hb1
 obtain ⟨qa, qb, qc, qd⟩ := q0.on hb1
 clear hg hb1 hb0 q0
 go_wp2_with fail
 refine (by_above _ _ _ _ _ _).mono ?_
 rintro e w2 ⟨rfl, hb2⟩
 have hbb := on2 hb hb2
 clear hb qa qb qc qd hb2
 go_wp2_with fail
 refine (zFr _ _ _ _ V _ (hVo hbb)).mono ?_
 rintro e w3 ⟨rfl, hb3⟩
 have hbc := on2 hbb hb3
 clear hbb hb3 hVo
 go_wp2_with fail
 go_ret
 exact ⟨zDL (by simp [meetsV]), hbc⟩
theorem by_below (v : ByteArray) (t : Bool) (a : Option Addr) (n cap : Nat) (w : World)  : Calls Tryz.prog 216 #[.agg #[.string v, .bool t, .slice a n cap], .int .i64 6] w fun e w' => e = .returned (.func (.func 234) #[.agg #[.string v, .bool t, .slice a n cap]] #[]) /\ Below w.heap.size w w' := by
 go_enter Tryz.func216, Tryz.ntmps216
 go_wp2
 go_ret
 exact ⟨rfl, by go_grown⟩
theorem zG4 (a : Option Addr) (cap : Nat) (L : List Lab) (key : ByteArray) (b : Option Addr) (cap' : Nat) (V : List ByteArray) (w : World) (hL : Hid (LabsAt w a L)) (hV : Hid (StrsAt w b V))  : Calls Tryz.prog 194 #[.slice a L.length cap, .agg #[.string key, .int .i64 6, .slice b V.length cap']] w fun e w' => e = .returned (.bool (meetsV (getL L key).1 (getL L key).2 6 V)) /\ Below w.heap.size w w' := by
 have hb0 : Below w.heap.size w (w.alloc (.cells #[.string key, .int .i64 6, .slice b V.length cap'] 120)) := (Below.refl _ _).alloc (Nat.le_refl _) _
 have q0 := ReqBox.new w key 6 b V.length cap'
 have hg := zAU a cap L key _ (show Hid (LabsAt (w.alloc (.cells #[.string key, .int .i64 6, .slice b V.length cap'] 120)) a L) from hL.out.on hb0)
 have hVo : ∀ {u : World}, Below w.heap.size w u -> Hid (StrsAt u b V) := fun hb => hV.out.on hb
 generalize getL L key = x at hg
 obtain ⟨x, t⟩ := x
 skip
 clear hL hV
 go_enter Tryz.func194, Tryz.ntmps194
 go_wp2_with fail
 refine hg.mono ?_
 rintro e w1 ⟨rfl, hb1⟩
 have hb := on2 hb0 hb1
 obtain ⟨qa, qb, qc, qd⟩ := q0.on hb1
 clear hg hb1 hb0 q0
 go_wp2_with fail
 refine (by_below _ _ _ _ _ _).mono ?_
 rintro e w2 ⟨rfl, hb2⟩
 have hbb := on2 hb hb2
 clear hb qa qb qc qd hb2
 go_wp2_with fail
 refine (zGC _ _ _ _ V _ (hVo hbb)).mono ?_
 rintro e w3 ⟨rfl, hb3⟩
 have hbc := on2 hbb hb3
 clear hbb hb3 hVo
 go_wp2_with fail
 go_ret
 exact ⟨zDL (by simp [meetsV]), hbc⟩
theorem by_never (v : ByteArray) (t : Bool) (a : Option Addr) (n cap : Nat) (op : Int) (w : World) (h1 : (op == 1) = false) (h2 : (op == 2) = false) (h3 : (op == 3) = false) (h4 : (op == 4) = false) (h5 : (op == 5) = false) (h6 : (op == 6) = false) : Calls Tryz.prog 216 #[.agg #[.string v, .bool t, .slice a n cap], .int .i64 op] w fun e w' => e = .returned (.func (.func 235) #[.agg #[.string v, .bool t, .slice a n cap]] #[]) /\ Below w.heap.size w w' := by
 go_enter Tryz.func216, Tryz.ntmps216
 go_wp2
 go_ret
 exact ⟨rfl, by go_grown⟩
theorem zG2 (a : Option Addr) (cap : Nat) (L : List Lab) (key : ByteArray) (op : Int) (b : Option Addr) (cap' : Nat) (V : List ByteArray) (w : World) (hL : Hid (LabsAt w a L)) (hV : Hid (StrsAt w b V)) (h1 : (op == 1) = false) (h2 : (op == 2) = false) (h3 : (op == 3) = false) (h4 : (op == 4) = false) (h5 : (op == 5) = false) (h6 : (op == 6) = false) : Calls Tryz.prog 194 #[.slice a L.length cap, .agg #[.string key, .int .i64 op, .slice b V.length cap']] w fun e w' => e = .returned (.bool (meetsV (getL L key).1 (getL L key).2 op V)) /\ Below w.heap.size w w' := by
 have hb0 : Below w.heap.size w (w.alloc (.cells #[.string key, .int .i64 op, .slice b V.length cap'] 120)) := (Below.refl _ _).alloc (Nat.le_refl _) _
 have q0 := ReqBox.new w key op b V.length cap'
 have hg := zAU a cap L key _ (show Hid (LabsAt (w.alloc (.cells #[.string key, .int .i64 op, .slice b V.length cap'] 120)) a L) from hL.out.on hb0)
 have hVo : ∀ {u : World}, Below w.heap.size w u -> Hid (StrsAt u b V) := fun hb => hV.out.on hb
 generalize getL L key = x at hg
 obtain ⟨x, t⟩ := x
 have HF : Hid (meetsV x t op V = false) := zGB h1 h2 h3 h4 h5 h6
 clear hL hV
 go_enter Tryz.func194, Tryz.ntmps194
 go_wp2_with fail
 refine hg.mono ?_
 rintro e w1 ⟨rfl, hb1⟩
 have hb := on2 hb0 hb1
 obtain ⟨qa, qb, qc, qd⟩ := q0.on hb1
 clear hg hb1 hb0 q0
 go_wp2_with fail
 refine (by_never _ _ _ _ _ op _ h1 h2 h3 h4 h5 h6).mono ?_
 rintro e w2 ⟨rfl, hb2⟩
 have hbb := on2 hb hb2
 clear hb qa qb qc qd hb2
 go_wp2_with fail
 refine (zFw _ _ _ _ _ _).mono ?_
 rintro e w3 ⟨rfl, hb3⟩
 have hbc := on2 hbb hb3
 clear hbb hb3 hVo
 go_wp2_with fail
 go_ret
 exact ⟨zDL HF.out.symm, hbc⟩
def setNode (q : PodD) (s : ByteArray) : PodD := match q with | (a, b, c, d, e, f, g, h, i, j, k, l, _, o) => (a, b, c, d, e, f, g, h, i, j, k, l, s, o)
def setHope (q : PodD) (s : ByteArray) : PodD := match q with | (a, b, c, d, e, f, g, h, i, j, k, l, n, _) => (a, b, c, d, e, f, g, h, i, j, k, l, n, s)
theorem RPod.setN12 {B : Where} {u : World} {cs : List Value} {q : PodD} {s : ByteArray} (h : RPod B u cs q) (hs : s.size <= 140737488355328) : RPod B u (cs.set 14 (.string s)) (setNode q s) := by
 obtain ⟨h2, h6, h7, h8, h9, h10, h11, h12, h13, rfl, p0, p1, p2, p3, p4, p5, p6, p7, p8, p9, _, p11⟩ := h.out
 exact RPod.mk (x := setNode q s) p0 p1 p2 p3 p4 p5 p6 p7 p8 p9 hs p11
theorem RPod.setH12 {B : Where} {u : World} {cs : List Value} {q : PodD} {s : ByteArray} (h : RPod B u cs q) (hs : s.size <= 140737488355328) : RPod B u (cs.set 15 (.string s)) (setHope q s) := by
 obtain ⟨h2, h6, h7, h8, h9, h10, h11, h12, h13, rfl, p0, p1, p2, p3, p4, p5, p6, p7, p8, p9, p10, _⟩ := h.out
 exact RPod.mk (x := setHope q s) p0 p1 p2 p3 p4 p5 p6 p7 p8 p9 p10 hs
def bindP (x : StateD) (k : Nat) (s : ByteArray) : StateD := (x.1.set k (setHope (setNode (x.1.getD k default) s) ⟨#[]⟩), x.2)
end Go.Proofs.YtnffafjamiffnaaGreat
namespace Go.Proofs.YtnffafjamiffnaaGreat
open Go.RowKit Go.Shelf Go.Maps
attribute [local go_sem] Oper.semAt_some
abbrev PickS := {p : PickD // p.1.size <= 140737488355328 /\ p.2.size <= 140737488355328}
def pk0 : PickS := ⟨(⟨#[]⟩, ⟨#[]⟩), by simp [ByteArray.size]⟩
theorem getD_val (L : List PickS) {k : Nat} (h : k < L.length) : (L.map Subtype.val).getD k default = (L.getD k pk0).1 := by
 rw [List.getD_eq_getElem?_getD, List.getD_eq_getElem?_getD, List.getElem?_map, List.getElem?_eq_getElem h]; rfl
def upto10 (L : List PickS) (k : Nat) : List (Nat × PickS) := (List.range k).map (fun j => (j, L.getD j pk0))
theorem zFl (L : List PickS) (k : Nat) : upto10 L (k + 1) = upto10 L k ++ [(k, L.getD k pk0)] := by simp [upto10, List.range_succ]
theorem zHQ (L : List PickS) (k : Nat) : (upto10 L k).length = k := by simp [upto10]
abbrev encP (x : Nat × PickS) : Array Value := #[.int .i64 (x.1 : Int), .agg #[.string x.2.1.1, .string x.2.1.2]]
theorem RLabel.two10 {A : Where} {w : World} {cs : List Value} {x : PickD} (h : RLabel A w cs x) : cs = [.string x.1, .string x.2] := by
 obtain ⟨a, b, rfl, h1, h2⟩ := h
 rw [h1.1, h2.1]; rfl
theorem all1_in (F : Fence) (n : Nat) (h8 : F.fn 91) (hro : F.round = none) (hn : 1 <= n) (l Bs n₀ : Nat) (a : Option Addr) (len cap : Nat) (L : List PickS) (J Jx : List (Nat × PickS) -> World -> Prop)
  (hY : ∀ pre x W, J pre W -> pre.length < len -> YieldAt F (n - 1) Tryz.prog l (encP x) W fun e W' =>
   (e = .returned (.bool true) /\ J (pre ++ [x]) W' /\ Below n₀ W W') \/ (e = .returned (.bool false) /\ Jx (pre ++ [x]) W'))
  (W : World) (hn₀ : n₀ <= W.heap.size) (hJ : AbidesFrom W.heap.size J) (hBs : W.cell? ⟨Bs, 0, none⟩ = some (.slice a len cap)) (hL : SlAt RLabel 2 32 (fun b => b < n₀) W a len cap (L.map Subtype.val)) (h0 : J [] W) :
  CallsIn F n Tryz.prog 91 #[.func (.yield l) #[] #[], .pointer (some ⟨Bs, 0, none⟩)] W fun e W' => (∃ v, e = .returned v) /\
   ((∃ ys, ys = upto10 L len /\ J ys W') \/ (∃ pre, (∃ k, k <= len /\ pre = upto10 L k) /\ Jx pre W')) := by
 have hlen := hL.len (by decide)
 refine callsIn_of_wp Tryz.func91 rfl h8 ?_ hro
 simp only [Tryz.ntmps91, List.size_toArray, List.length_cons, List.length_nil, Nat.reduceAdd, Nat.reduceSub, Array.replicate_succ, Array.replicate_zero, List.push_toArray, List.append_toArray, List.nil_append, List.cons_append]
 gi_wp2
 gi_loopw [7] (fun i wr => ∃ k : Nat, k <= len /\ i = .int .i64 k /\ J (upto10 L k) wr /\ Below n₀ W wr /\ W.heap.size <= wr.heap.size)
  (fun i _ => len - (intOf i).toNat)
 case atStart => exact ⟨0, Nat.zero_le _, rfl, h0, Below.refl _ _, Nat.le_refl _⟩
 case round =>
  obtain ⟨k, hk, rfl, hJs, hnx, hsw⟩ := hrel
  by_cases hlt : k < len
  ·obtain ⟨B, off, rfl, hB, hBn, cs, hr, hv⟩ := hL.get hlt
   rw [getD_val L (by have := hL.1; rw [List.length_map] at this; omega)] at hr
   have e2 := hr.two10
   subst e2
   have d0 : wr.cell? ⟨B, off + k * 2, none⟩ = some (.string (L.getD k pk0).1.1) := (hnx.cell (p := ⟨B, off + k * 2, none⟩) hBn).trans (hv 0 _ rfl)
   have d1 : wr.cell? ⟨B, off + k * 2 + 1, none⟩ = some (.string (L.getD k pk0).1.2) := (hnx.cell (p := ⟨B, off + k * 2 + 1, none⟩) hBn).trans (hv 1 _ rfl)
   have HU : Hid (upto10 L (k + 1) = upto10 L k ++ [(k, L.getD k pk0)]) := zFl L k
   generalize L.getD k pk0 = x at d0 d1 HU
   have hBw : B < wr.heap.size := by omega
   have bV : Below wr.heap.size wr (wr.alloc (.cells #[.string x.1.1, .string x.1.2] 127)) := (Below.refl _ _).alloc (Nat.le_refl _) _
   have hJV := hJ _ wr (wr.alloc (.cells #[.string x.1.1, .string x.1.2] 127)) none hJs (World.grownBy_alloc wr _ none) (fun r e => by cases e)
   obtain ⟨fn, tmps, assign, body, hy, hR⟩ := hY _ (k, x) _ hJV (by rw [zHQ]; exact hlt)
   have hwn : n₀ <= wr.heap.size := Nat.le_trans hn₀ hsw
   gi_wp2
   refine hR.mono ?_
   rintro e W3 (⟨rfl, hJ3, hk3⟩ | ⟨rfl, hJx3⟩)
   ·gi_wp2
    go_roundw
    case rel => exact ⟨k + 1, by omega, by simp, by rw [HU.out]; exact hJ3, hnx.trans ((bV.mono hwn).trans hk3), Nat.le_trans hsw (Nat.le_trans bV.size hk3.size)⟩
    case measure => simp [intOf]; omega
   ·gi_wp2
    refine bodyPost_ret (results_none rfl _ _ _) rfl ?_
    exact ⟨⟨_, rfl⟩, .inr ⟨_, ⟨k + 1, by omega, HU.out.symm⟩, hJx3⟩⟩
  ·obtain rfl : k = len := by omega
   gi_wp2
   go_end0
   exact ⟨⟨_, rfl⟩, .inl ⟨_, rfl, hJs⟩⟩
theorem all_in (F : Fence) (n : Nat) (h5 : F.fn 70) (hro : F.round = none) (a : Option Addr) (len cap : Nat) (w : World) :
  CallsIn F n Tryz.prog 70 #[.slice a len cap] w fun e w' => e = .returned (.func (.func 91) #[] #[.pointer (some ⟨w.heap.size, 0, none⟩)]) /\ w' = w.alloc (.cells #[.slice a len cap] 30) := by
 refine callsIn_of_wp Tryz.func70 rfl h5 ?_ hro
 simp only [Tryz.ntmps70, List.size_toArray, List.length_cons, List.length_nil, Nat.reduceAdd, Nat.reduceSub, Array.replicate_succ, Array.replicate_zero, List.push_toArray, List.append_toArray, List.nil_append, List.cons_append]
 gi_wp2
 go_ret
 exact ⟨rfl, rfl⟩
theorem all_stops (F : Fence) (n : Nat) (h8 : F.fn 91) (hro : F.round = none) (hn : 1 <= n) (Bs n₀ : Nat) (a : Option Addr) (len cap : Nat) (L : List PickS) (w : World) (hBs : Bs < w.heap.size) (hn₀ : n₀ <= w.heap.size)
  (hc : w.cell? ⟨Bs, 0, none⟩ = some (.slice a len cap)) (hL : SlAt RLabel 2 32 (fun b => b < n₀) w a len cap (L.map Subtype.val)) :
  SeqStopsK F n Tryz.prog 91 #[.pointer (some ⟨Bs, 0, none⟩)] encP (Below n₀) (fun ys => ys = upto10 L len) (fun pre => ∃ k, k <= len /\ pre = upto10 L k) len w := fun l J Jx W hW hJ _ hY h0 => by
 have hc' := (hW.cell (p := ⟨Bs, 0, none⟩) hBs).trans hc
 exact all1_in F n h8 hro hn l Bs n₀ a len cap L J Jx hY W (Nat.le_trans hn₀ hW.size) hJ hc' (hL.on RLabel.firm hW) h0
theorem picks_S {A : Where} {w : World} {a : Option Addr} {n c : Nat} {L : List PickD} (h : SlAt RLabel 2 32 A w a n c L) : ∃ L' : List PickS, L'.map Subtype.val = L := by
 have hm : ∀ p ∈ L, p.1.size <= 140737488355328 /\ p.2.size <= 140737488355328 := by
  intro p hp
  obtain ⟨i, hi, rfl⟩ := List.getElem_of_mem hp
  obtain ⟨B, off, _, _, _, cs, hr, _⟩ := h.get (i := i) (by have := h.1; omega)
  obtain ⟨a, b, rfl, h1, h2⟩ := hr
  have e : L.getD i default = L[i] := by rw [List.getD_eq_getElem?_getD, List.getElem?_eq_getElem hi]; rfl
  rw [e] at h1 h2
  exact ⟨h1.2, h2.2⟩
 exact ⟨L.attach.map (fun p => ⟨p.1, hm p.1 p.2⟩), by simp only [List.map_map, Function.comp_def]; exact List.attach_map_subtype_val L⟩
theorem zCl (L : List PickS) (k : Nat) (hk : k <= L.length) : (upto10 L k).map (fun x => x.2.1) = (L.map Subtype.val).take k := by
 apply List.ext_getElem?
 intro j
 unfold upto10
 rw [List.map_map, List.getElem?_map, List.getElem?_take]
 by_cases hj : j < k
 ·have : j < L.length := by omega
  simp [hj, this]
 ·simp [hj]
end Go.Proofs.YtnffafjamiffnaaGreat
namespace Go.Proofs.YtnffafjamiffnaaGreat
def stepD (ok : ClaimD -> VolumeD -> Bool) (tc tv : ClaimD -> VolumeD -> ByteArray) (st : VC) (pk : PickD) : Except Int VC :=
 match fI (cNs st.2) pk.1, fI (vNs st.1) pk.2 with
 | some c, some v => if ok (st.2.getD c default) (st.1.getD v default) = true then .ok (st.1.set v (setCl (st.1.getD v default) (tv (st.2.getD c default) (st.1.getD v default))), st.2.set c (setVo (st.2.getD c default) (tc (st.2.getD c default) (st.1.getD v default)))) else .error 2
 | _, _ => .error 5
def runD (f : VC -> PickD -> Except Int VC) : VC -> List PickD -> Except Int VC
 | st, [] => .ok st
 | st, pk :: r => match f st pk with
  | .ok st' => runD f st' r
  | .error e => .error e
theorem zFA (f : VC -> PickD -> Except Int VC) (p : PickD) : ∀ (L : List PickD) (st : VC), runD f st (L ++ [p]) = match runD f st L with | .ok st' => f st' p | .error e => .error e
 | [], st => by simp only [List.nil_append, runD]; cases f st p <;> rfl
 | q :: r, st => by
  simp only [List.cons_append, runD]
  cases f st q with
  | ok st' => exact zFA f p r st'
  | error e => rfl
theorem zDe (f : VC -> PickD -> Except Int VC) (M : List PickD) {e : Int} : ∀ (L : List PickD) (st : VC), runD f st L = .error e -> runD f st (L ++ M) = .error e
 | [], st, h => by cases h
 | q :: r, st, h => by
  simp only [List.cons_append, runD] at h |-
  cases hq : f st q with
  | ok st' => rw [hq] at h; exact zDe f M r st' h
  | error e' => rw [hq] at h; exact h
theorem runD_take {f : VC -> PickD -> Except Int VC} {L : List PickD} {st : VC} {e : Int} {k : Nat} (h : runD f st (L.take k) = .error e) : runD f st L = .error e := by
 have := zDe f (L.drop k) _ _ h
 rwa [List.take_append_drop] at this
theorem zCA : ∀ (L : List PickD) (st : VC), runD stepA st L = applyP st L
 | [], _ => rfl
 | q :: r, st => by
  simp only [runD, applyP]
  cases stepA st q with
  | ok st' => exact zCA r st'
  | error e => rfl
theorem zGp {ok : ClaimD -> VolumeD -> Bool} {tc tv : ClaimD -> VolumeD -> ByteArray} {st : VC} {pk : PickD} (h : fI (cNs st.2) pk.1 = none \/ fI (vNs st.1) pk.2 = none) : stepD ok tc tv st pk = .error 5 := by
 unfold stepD
 rcases h with h | h
 ·rw [h]
 ·rw [h]; cases fI (cNs st.2) pk.1 <;> rfl
theorem stepD_not {ok : ClaimD -> VolumeD -> Bool} {tc tv : ClaimD -> VolumeD -> ByteArray} {st : VC} {pk : PickD} {c v : Nat} (h1 : fI (cNs st.2) pk.1 = some c) (h2 : fI (vNs st.1) pk.2 = some v) (h3 : ok (st.2.getD c default) (st.1.getD v default) = false) : stepD ok tc tv st pk = .error 2 := by
 unfold stepD
 rw [h1, h2]
 simp only [h3]
 rfl
theorem stepD_yes {ok : ClaimD -> VolumeD -> Bool} {tc tv : ClaimD -> VolumeD -> ByteArray} {st : VC} {pk : PickD} {c v : Nat} (h1 : fI (cNs st.2) pk.1 = some c) (h2 : fI (vNs st.1) pk.2 = some v) (h3 : ok (st.2.getD c default) (st.1.getD v default) = true) : stepD ok tc tv st pk = .ok (st.1.set v (setCl (st.1.getD v default) (tv (st.2.getD c default) (st.1.getD v default))), st.2.set c (setVo (st.2.getD c default) (tc (st.2.getD c default) (st.1.getD v default)))) := by
 unfold stepD
 rw [h1, h2]
 simp only [h3]
 rfl
theorem stepD_len {ok : ClaimD -> VolumeD -> Bool} {tc tv : ClaimD -> VolumeD -> ByteArray} {st st' : VC} {pk : PickD} (h : stepD ok tc tv st pk = .ok st') : st'.1.length = st.1.length /\ st'.2.length = st.2.length := by
 unfold stepD at h
 split at h
 ·split at h
  ·injection h with h
   subst h
   simp
  ·cases h
 ·cases h
theorem zGi {ok : ClaimD -> VolumeD -> Bool} {tc tv : ClaimD -> VolumeD -> ByteArray} : ∀ {L : List PickD} {st st' : VC}, runD (stepD ok tc tv) st L = .ok st' -> st'.1.length = st.1.length /\ st'.2.length = st.2.length
 | [], st, st', h => by injection h with h; subst h; exact ⟨rfl, rfl⟩
 | p :: r, st, st', h => by
  simp only [runD] at h
  cases hq : stepD ok tc tv st p with
  | ok s => rw [hq] at h; have h1 := zGi h; have h2 := stepD_len hq; exact ⟨h1.1.trans h2.1, h1.2.trans h2.2⟩
  | error e => rw [hq] at h; cases h
end Go.Proofs.YtnffafjamiffnaaGreat
namespace Go.Proofs.YtnffafjamiffnaaGreat
open Go.ChangeShapes Go.WideShapes Go.ChangeAt Go.RowKit
def OpensM {α : Type} (R : Rep α) (m : α -> Nat) (t : TypeId) : Prop :=
 ∀ {H : Type} {enc : TypeId × Value -> H} {W : World} {base n : Nat} {sp : Nat -> Bool} {held : Bool} {cs : List Value} {x : DataW H × List MemPlace},
  DataW.trod enc Tryz.prog W base sp held n t cs = some x -> Light x.1 t -> ∃ y, R (fun _ => True) W cs y /\ m y <= Rows.uptoBulk x.1
theorem bulk_pos {H : Type} (d : DataW H) : 1 <= Rows.uptoBulk d := by
 match d with
 | .lit l => cases l <;> simp [Rows.uptoBulk]
 | .nil => simp [Rows.uptoBulk]
 | .ptr _ => simp [Rows.uptoBulk]
 | .slice _ _ => simp [Rows.uptoBulk]
 | .agg _ => simp [Rows.uptoBulk]
 | .iface _ _ => simp [Rows.uptoBulk]
 | .map _ => simp [Rows.uptoBulk]
 | .held _ => simp [Rows.uptoBulk]
theorem Opens.m {α : Type} {R : Rep α} {t : TypeId} (h : Opens R t) : OpensM R (fun _ => 1) t := by
 intro H enc W base n sp held cs x hx hl
 obtain ⟨y, hy⟩ := h hx hl
 exact ⟨y, hy, bulk_pos _⟩
theorem zGf {α H : Type} (m : α -> Nat) (f : Nat -> α) (D : Nat -> DataW H) : ∀ l : List Nat, (∀ i ∈ l, m (f i) <= Rows.uptoBulk (D i)) -> sumBy m (l.map f) <= Rows.uptoBulkAll (l.map D)
 | [], _ => by simp [sumBy, Rows.uptoBulkAll]
 | i :: l, h => by
  have := zGf m f D l (fun j hj => h j (List.mem_cons_of_mem _ hj))
  have h0 := h i List.mem_cons_self
  simp only [sumBy, List.map_cons, List.sum_cons, Rows.uptoBulkAll] at this |-
  omega
theorem zAb {α : Type} [Inhabited α] {R : Rep α} {m : α -> Nat} {k bytes : Nat} {t e : TypeId} (hR : Firm R k) (hu : Tryz.prog.underlying t = some (.slice e)) (ck : Tryz.prog.cellsOf e = k) (bk : Tryz.prog.bytesOf e = bytes) (hk0 : 0 < k) (hE : OpensM R m e) : OpensM (RSl R k bytes) (sumBy m) t := by
 intro H enc W base n sp held cs x h hl
 rcases Go.Deep.open_slice hu h with ⟨hv, _⟩ | ⟨a, len, cap, mm, nn, D, Pl, hv, _, hlc, _, hm, rfl, hel⟩
 ·exact ⟨[], ⟨none, 0, 0, hv, SlAt.nil _ _ _ _ (fun _ => rfl)⟩, by simp [sumBy]⟩
 ·obtain ⟨w1, w2⟩ := zCW hu hl
  simp only [List.length_map, List.length_range, bk] at w1
  have hml : len <= mm := by rw [hm]; split <;> omega
  rw [ck] at hel
  have each : ∀ i, i < len -> ∃ y : α, (∃ cs, R (fun _ => True) W cs y /\ ∀ j u, cs[j]? = some u -> W.cell? ((a.add (i * k)).add j) = some u) /\ m y <= Rows.uptoBulk (D i) := fun i hi => by
   obtain ⟨cs', h1, h2⟩ := hel i (by omega)
   obtain ⟨y, hy, hm⟩ := hE h2 (w2 _ (List.mem_map.2 ⟨i, List.mem_range.2 hi, rfl⟩))
   obtain ⟨_, _, hcell⟩ := World.cells?_some h1
   refine ⟨y, ⟨cs', hy, fun j u hj => ?_⟩, hm⟩
   have hjk : j < k := by
    have := (List.getElem?_eq_some_iff.1 hj).1
    rwa [hR.len hy] at this
   rw [hcell j hjk, hj]
  obtain ⟨f, hf⟩ := Go.Deep.choose_lt each
  refine ⟨(List.range len).map f, ⟨some a, len, cap, hv, by simp, hlc, (fun h => by cases h), w1, fun hpos => ?_⟩, ?_⟩
  ·obtain ⟨B, off, spot⟩ := a
   obtain ⟨cs0, hr0, hc0⟩ := (hf 0 hpos).1
   have hex : ∃ u, cs0[0]? = some u := by
    cases e : cs0 with
    | nil => have := hR.len hr0; rw [e] at this; simp at this; omega
    | cons u r => exact ⟨u, rfl⟩
   obtain ⟨u0, hu0⟩ := hex
   have hc0 := hc0 0 u0 hu0
   have hsp : spot = none := by
    have := World.cell?_spot hc0
    simpa [Addr.add] using this
   subst hsp
   rw [add_lit, add_lit] at hc0
   refine ⟨B, off, rfl, addr_lt hc0, trivial, fun i hi => ?_⟩
   obtain ⟨cs, hr, hc⟩ := (hf i hi).1
   refine ⟨cs, by rw [zDZ f len i hi]; exact hr, fun j u hj => ?_⟩
   have := hc j u hj
   rwa [add_lit, add_lit] at this
  ·have := zGf m f D (List.range len) (fun i hi => (hf i (List.mem_range.1 hi)).2)
   simp only [Rows.uptoBulk]
   omega
def OpensFsM {α : Type} (fs : List Field) (off total : Nat) (R : Rep α) (m : α -> Nat) : Prop :=
 ∀ {H : Type} {enc : TypeId × Value -> H} {W : World} {base n : Nat} {sp : Nat -> Bool} {held : Bool} {cs : List Value} {ds : List (DataW H)}, cs.length = total -> ds.length = fs.length ->
  (∀ (j : Nat) (f : Field), fs[j]? = some f -> ∃ d, DataW.trod enc Tryz.prog W base sp held n f.type ((cs.drop f.offset).take (Tryz.prog.cellsOf f.type)) = some d /\ Light d.1 f.type /\ ds[j]? = some d.1) -> ∃ y, R (fun _ => True) W (cs.drop off) y /\ m y <= Rows.uptoBulkAll ds
theorem zBn {α : Type} {R : Rep α} {m : α -> Nat} {f : Field} {off total : Nat} (ho : f.offset = off) (ht : off + Tryz.prog.cellsOf f.type = total) (h : OpensM R m f.type) : OpensFsM [f] off total R m := by
 intro H enc W base n sp held cs ds hl hd hf
 obtain ⟨d, h1, h2, h3⟩ := hf 0 f rfl
 rw [ho, List.take_of_length_le (by rw [List.length_drop]; omega)] at h1
 obtain ⟨y, hy, hm⟩ := h h1 h2
 refine ⟨y, hy, ?_⟩
 cases ds with
 | nil => simp at hd
 | cons d0 r => simp at h3; subst h3; simp only [Rows.uptoBulkAll]; omega
theorem zA5 {α β : Type} {R : Rep α} {S : Rep β} {m1 : α -> Nat} {m2 : β -> Nat} {f : Field} {fs : List Field} {off mm total : Nat} (ho : f.offset = off) (hm : off + Tryz.prog.cellsOf f.type = mm) (h : OpensM R m1 f.type) (hs : OpensFsM fs mm total S m2) : OpensFsM (f :: fs) off total (RPair R S) (fun x => m1 x.1 + m2 x.2) := by
 intro H enc W base n sp held cs ds hl hd hf
 obtain ⟨d, h1, h2, h3⟩ := hf 0 f rfl
 rw [ho] at h1
 obtain ⟨y, hy, hm1⟩ := h h1 h2
 cases ds with
 | nil => simp at hd
 | cons d0 r =>
  obtain ⟨z, hz, hm2⟩ := hs (cs := cs) (ds := r) hl (by simpa using hd) (fun j g hg => by have := hf (j + 1) g (by simpa using hg); simpa using this)
  refine ⟨(y, z), ⟨(cs.drop off).take (Tryz.prog.cellsOf f.type), cs.drop mm, ?_, hy, hz⟩, ?_⟩
  ·rw [<- hm, <- List.drop_drop]
   exact (List.take_append_drop _ _).symm
  ·simp at h3; subst h3; simp only [Rows.uptoBulkAll]; omega
theorem zBt {α : Type} {R : Rep α} {m : α -> Nat} {t : TypeId} {fs : Array Field} {total : Nat} (hu : Tryz.prog.underlying t = some (.struct fs)) (hc : Tryz.prog.cellsOf t = total) (h : OpensFsM fs.toList 0 total R m) : OpensM R m t := by
 intro H enc W base n sp held cs x hx hl
 obtain ⟨xs, mm, _, rfl, hlen, hxs, hf⟩ := DataW.trod_struct hu hx
 have := h (enc := enc) (W := W) (base := base) (n := mm) (sp := sp) (held := held) (cs := cs) (ds := xs.map (·.1)) (by rw [hlen, hc]) (by simp [hxs]) (fun j f hj => by
  have hj' : fs[j]? = some f := by simpa using hj
  have h1 := hf j f hj'
  have hlt : j < xs.length := by
   have := (Array.getElem?_eq_some_iff.1 hj').1
   omega
  have h2 : xs[j]? = some xs[j] := List.getElem?_eq_getElem hlt
  rw [h2] at h1
  refine ⟨xs[j], h1, zCD hu hl (j := j) (by simp [hj']) (by simp [h2]), by simp [h2]⟩)
 obtain ⟨y, hy, hm⟩ := this
 refine ⟨y, by simpa using hy, ?_⟩
 simp only [Rows.uptoBulk]
 omega
end Go.Proofs.YtnffafjamiffnaaGreat
namespace Go.Proofs.YtnffafjamiffnaaGreat
open Go.RowKit
def InfoAt (A F : Where) (w : World) (cs : List Value) (x : InfoD) : Prop :=
 ∃ c d, cs = c ++ d /\ RNode A w c x.1 /\ RPair (RSl RStr 1 16) (RPair RRes (RPair (RSl RInt 1 8) (RSl RStr 1 16))) F w d x.2
theorem InfoAt.info {A F : Where} {w : World} {cs : List Value} {x : InfoD} (h : InfoAt A F w cs x) : RInfo (fun b => A b \/ F b) w cs x := by
 obtain ⟨c, d, e, h1, h2⟩ := h
 exact ⟨c, d, e, RNode.firm.weak h1 (fun _ _ h => .inl h), (Firm.pair (RSl.firm RStr.firm) (Firm.pair RRes.firm (Firm.pair (RSl.firm RInt.firm) (RSl.firm RStr.firm)))).weak h2 (fun _ _ h => .inr h)⟩
theorem InfoAt.kept {A F : Where} {w w' : World} {cs : List Value} {x : InfoD} (h : InfoAt A F w cs x) (hA : Kept A w w') (hF : Kept F w w') : InfoAt A F w' cs x := by
 obtain ⟨c, d, e, h1, h2⟩ := h
 exact ⟨c, d, e, RNode.firm.kept h1 hA, (Firm.pair (RSl.firm RStr.firm) (Firm.pair RRes.firm (Firm.pair (RSl.firm RInt.firm) (RSl.firm RStr.firm)))).kept h2 hF⟩
theorem InfoAt.on {A F : Where} {w w' : World} {cs : List Value} {x : InfoD} (h : InfoAt A F w cs x) (hb : Below w.heap.size w w') : InfoAt A F w' cs x := h.kept (Kept.below hb) (Kept.below hb)
theorem InfoAt.one {A F : Where} {w : World} {cs : List Value} {x : InfoD} (h : InfoAt A F w cs x) : ∀ u ∈ cs, u.oneCell' = true := RInfo.firm.one h.info
end Go.Proofs.YtnffafjamiffnaaGreat
