/- label.Meets, Match and the document's own return what the plain functions say; they change nothing that was there. Condition: the slices hold what is said of them. The document's own Meets returns what the plain functions say, an Op at a time; it changes nothing that was there. Condition: the slices hold what is said of them. label.Meets, Match and the document's own return what the plain functions say, at every Op; they change nothing that was there. Condition: the slices hold what is said of them. slices.IndexFunc and slices.ContainsFunc at taints and at what is borne, with whatever function is handed in. Condition: the slice holds what is said of it, and the function answers as said. taint.meant, taint.Bears and the document's own Bears return what the plain function says, and change nothing that was there. No condition. What a right taint, and something right to bear, is, as plain functions. No program. No condition. -/
import Derived.Test.YteihniiacfghoabQ09
import Derived.Test.YteihniiacfghoabQ07
import Derived.Test.YteihniiacfghoabQ02
import Derived.Laws.StructEq
namespace Go.Proofs.Yteihniiacfghoab
open Go.RowKit
set_option linter.unusedSimpArgs false

/-- The paths of an Op. -/
theorem op_paths (op : Int) : op = 1 ∨ op = 2 ∨ op = 3 ∨ op = 4 ∨ op = 5 ∨ op = 6 ∨ ((op == 1) = false ∧ (op == 2) = false ∧ (op == 3) = false ∧ (op == 4) = false ∧ (op == 5) = false ∧ (op == 6) = false) := by
  simp only [beq_eq_false_iff_ne, ne_eq]
  omega
theorem meetsV_else {v : ByteArray} {t : Bool} {op : Int} {V : List ByteArray} (h1 : (op == 1) = false) (h2 : (op == 2) = false) (h3 : (op == 3) = false) (h4 : (op == 4) = false) (h5 : (op == 5) = false) (h6 : (op == 6) = false) : meetsV v t op V = false := by
  simp only [beq_eq_false_iff_ne, ne_eq] at h1 h2 h3 h4 h5 h6
  simp [meetsV, h1, h2, h3, h4, h5, h6]

/-- What is asked lies in the box D. -/
def ReqBox (D : Nat) (key : ByteArray) (op : Int) (a : Option Addr) (n cap : Nat) (u : World) : Prop := D < u.heap.size ∧ u.cell? ⟨D, 0, none⟩ = some (.string key) ∧ u.cell? ⟨D, 1, none⟩ = some (.int .i64 op) ∧ u.cell? ⟨D, 2, none⟩ = some (.slice a n cap)
theorem ReqBox.on {D : Nat} {key : ByteArray} {op : Int} {a : Option Addr} {n cap : Nat} {u u' : World} (h : ReqBox D key op a n cap u) (hb : Below u.heap.size u u') : ReqBox D key op a n cap u' :=
  ⟨Nat.lt_of_lt_of_le h.1 hb.size, (hb.cell h.1).trans h.2.1, (hb.cell h.1).trans h.2.2.1, (hb.cell h.1).trans h.2.2.2⟩
theorem ReqBox.new (w : World) (key : ByteArray) (op : Int) (a : Option Addr) (n cap : Nat) : ReqBox w.heap.size key op a n cap (w.alloc (.cells #[.string key, .int .i64 op, .slice a n cap] 79)) :=
  ⟨by simp, by simp [go_sem], by simp [go_sem], by simp [go_sem]⟩

set_option maxHeartbeats 1000000 in
theorem by_in (v : ByteArray) (t : Bool) (a : Option Addr) (n cap : Nat) (w : World)  : Calls Try.prog 42 #[.agg #[.string v, .bool t, .slice a n cap], .int .i64 1] w fun e w' => e = .returned (.func (.func 46) #[.agg #[.string v, .bool t, .slice a n cap]] #[]) ∧ Below w.heap.size w w' := by
  go_enter Try.func42, Try.ntmps42
  go_wp2
  go_ret
  exact ⟨rfl, by go_grown⟩

set_option maxHeartbeats 1000000 in
theorem Meets_in (a : Option Addr) (cap : Nat) (L : List Lab) (key : ByteArray) (b : Option Addr) (cap' : Nat) (V : List ByteArray) (w : World) (hL : Hid (LabsAt w a L)) (hV : Hid (StrsAt w b V))  : Calls Try.prog 34 #[.slice a L.length cap, .agg #[.string key, .int .i64 1, .slice b V.length cap']] w fun e w' => e = .returned (.bool (meetsV (getL L key).1 (getL L key).2 1 V)) ∧ Below w.heap.size w w' := by
  have hb0 : Below w.heap.size w (w.alloc (.cells #[.string key, .int .i64 1, .slice b V.length cap'] 79)) := (Below.refl _ _).alloc (Nat.le_refl _) _
  have q0 := ReqBox.new w key 1 b V.length cap'
  have hg := Get_calls a cap L key _ (show Hid (LabsAt (w.alloc (.cells #[.string key, .int .i64 1, .slice b V.length cap'] 79)) a L) from hL.out.on hb0)
  have hVo : ∀ {u : World}, Below w.heap.size w u → Hid (StrsAt u b V) := fun hb => hV.out.on hb
  generalize getL L key = x at hg
  obtain ⟨x, t⟩ := x
  skip
  clear hL hV
  go_enter Try.func34, Try.ntmps34
  go_wp2_with fail
  refine hg.mono ?_
  rintro e w1 ⟨rfl, hb1⟩
  have hb := on2 hb0 hb1
  obtain ⟨qa, qb, qc, qd⟩ := q0.on hb1
  clear hg hb1 hb0 q0
  go_wp2_with fail
  refine (by_in _ _ _ _ _ _).mono ?_
  rintro e w2 ⟨rfl, hb2⟩
  have hbb := on2 hb hb2
  clear hb qa qb qc qd hb2
  go_wp2_with fail
  refine (in_calls _ _ _ _ V _ (hVo hbb)).mono ?_
  rintro e w3 ⟨rfl, hb3⟩
  have hbc := on2 hbb hb3
  clear hbb hb3 hVo
  go_wp2_with fail
  go_ret
  exact ⟨retb (by simp [meetsV]), hbc⟩

set_option maxHeartbeats 1000000 in
theorem by_notIn (v : ByteArray) (t : Bool) (a : Option Addr) (n cap : Nat) (w : World)  : Calls Try.prog 42 #[.agg #[.string v, .bool t, .slice a n cap], .int .i64 2] w fun e w' => e = .returned (.func (.func 47) #[.agg #[.string v, .bool t, .slice a n cap]] #[]) ∧ Below w.heap.size w w' := by
  go_enter Try.func42, Try.ntmps42
  go_wp2
  go_ret
  exact ⟨rfl, by go_grown⟩

set_option maxHeartbeats 1000000 in
theorem Meets_notIn (a : Option Addr) (cap : Nat) (L : List Lab) (key : ByteArray) (b : Option Addr) (cap' : Nat) (V : List ByteArray) (w : World) (hL : Hid (LabsAt w a L)) (hV : Hid (StrsAt w b V))  : Calls Try.prog 34 #[.slice a L.length cap, .agg #[.string key, .int .i64 2, .slice b V.length cap']] w fun e w' => e = .returned (.bool (meetsV (getL L key).1 (getL L key).2 2 V)) ∧ Below w.heap.size w w' := by
  have hb0 : Below w.heap.size w (w.alloc (.cells #[.string key, .int .i64 2, .slice b V.length cap'] 79)) := (Below.refl _ _).alloc (Nat.le_refl _) _
  have q0 := ReqBox.new w key 2 b V.length cap'
  have hg := Get_calls a cap L key _ (show Hid (LabsAt (w.alloc (.cells #[.string key, .int .i64 2, .slice b V.length cap'] 79)) a L) from hL.out.on hb0)
  have hVo : ∀ {u : World}, Below w.heap.size w u → Hid (StrsAt u b V) := fun hb => hV.out.on hb
  generalize getL L key = x at hg
  obtain ⟨x, t⟩ := x
  skip
  clear hL hV
  go_enter Try.func34, Try.ntmps34
  go_wp2_with fail
  refine hg.mono ?_
  rintro e w1 ⟨rfl, hb1⟩
  have hb := on2 hb0 hb1
  obtain ⟨qa, qb, qc, qd⟩ := q0.on hb1
  clear hg hb1 hb0 q0
  go_wp2_with fail
  refine (by_notIn _ _ _ _ _ _).mono ?_
  rintro e w2 ⟨rfl, hb2⟩
  have hbb := on2 hb hb2
  clear hb qa qb qc qd hb2
  go_wp2_with fail
  refine (notIn_calls _ _ _ _ V _ (hVo hbb)).mono ?_
  rintro e w3 ⟨rfl, hb3⟩
  have hbc := on2 hbb hb3
  clear hbb hb3 hVo
  go_wp2_with fail
  go_ret
  exact ⟨retb (by simp [meetsV]), hbc⟩

set_option maxHeartbeats 1000000 in
theorem by_exists (v : ByteArray) (t : Bool) (a : Option Addr) (n cap : Nat) (w : World)  : Calls Try.prog 42 #[.agg #[.string v, .bool t, .slice a n cap], .int .i64 3] w fun e w' => e = .returned (.func (.func 48) #[.agg #[.string v, .bool t, .slice a n cap]] #[]) ∧ Below w.heap.size w w' := by
  go_enter Try.func42, Try.ntmps42
  go_wp2
  go_ret
  exact ⟨rfl, by go_grown⟩

set_option maxHeartbeats 1000000 in
theorem Meets_exists (a : Option Addr) (cap : Nat) (L : List Lab) (key : ByteArray) (b : Option Addr) (cap' : Nat) (V : List ByteArray) (w : World) (hL : Hid (LabsAt w a L)) (hV : Hid (StrsAt w b V))  : Calls Try.prog 34 #[.slice a L.length cap, .agg #[.string key, .int .i64 3, .slice b V.length cap']] w fun e w' => e = .returned (.bool (meetsV (getL L key).1 (getL L key).2 3 V)) ∧ Below w.heap.size w w' := by
  have hb0 : Below w.heap.size w (w.alloc (.cells #[.string key, .int .i64 3, .slice b V.length cap'] 79)) := (Below.refl _ _).alloc (Nat.le_refl _) _
  have q0 := ReqBox.new w key 3 b V.length cap'
  have hg := Get_calls a cap L key _ (show Hid (LabsAt (w.alloc (.cells #[.string key, .int .i64 3, .slice b V.length cap'] 79)) a L) from hL.out.on hb0)
  have hVo : ∀ {u : World}, Below w.heap.size w u → Hid (StrsAt u b V) := fun hb => hV.out.on hb
  generalize getL L key = x at hg
  obtain ⟨x, t⟩ := x
  skip
  clear hL hV
  go_enter Try.func34, Try.ntmps34
  go_wp2_with fail
  refine hg.mono ?_
  rintro e w1 ⟨rfl, hb1⟩
  have hb := on2 hb0 hb1
  obtain ⟨qa, qb, qc, qd⟩ := q0.on hb1
  clear hg hb1 hb0 q0
  go_wp2_with fail
  refine (by_exists _ _ _ _ _ _).mono ?_
  rintro e w2 ⟨rfl, hb2⟩
  have hbb := on2 hb hb2
  clear hb qa qb qc qd hb2
  go_wp2_with fail
  refine (exists_calls _ _ _ _ _ _).mono ?_
  rintro e w3 ⟨rfl, hb3⟩
  have hbc := on2 hbb hb3
  clear hbb hb3 hVo
  go_wp2_with fail
  go_ret
  exact ⟨retb (by simp [meetsV]), hbc⟩

set_option maxHeartbeats 1000000 in
theorem by_lacks (v : ByteArray) (t : Bool) (a : Option Addr) (n cap : Nat) (w : World)  : Calls Try.prog 42 #[.agg #[.string v, .bool t, .slice a n cap], .int .i64 4] w fun e w' => e = .returned (.func (.func 49) #[.agg #[.string v, .bool t, .slice a n cap]] #[]) ∧ Below w.heap.size w w' := by
  go_enter Try.func42, Try.ntmps42
  go_wp2
  go_ret
  exact ⟨rfl, by go_grown⟩

set_option maxHeartbeats 1000000 in
theorem Meets_lacks (a : Option Addr) (cap : Nat) (L : List Lab) (key : ByteArray) (b : Option Addr) (cap' : Nat) (V : List ByteArray) (w : World) (hL : Hid (LabsAt w a L)) (hV : Hid (StrsAt w b V))  : Calls Try.prog 34 #[.slice a L.length cap, .agg #[.string key, .int .i64 4, .slice b V.length cap']] w fun e w' => e = .returned (.bool (meetsV (getL L key).1 (getL L key).2 4 V)) ∧ Below w.heap.size w w' := by
  have hb0 : Below w.heap.size w (w.alloc (.cells #[.string key, .int .i64 4, .slice b V.length cap'] 79)) := (Below.refl _ _).alloc (Nat.le_refl _) _
  have q0 := ReqBox.new w key 4 b V.length cap'
  have hg := Get_calls a cap L key _ (show Hid (LabsAt (w.alloc (.cells #[.string key, .int .i64 4, .slice b V.length cap'] 79)) a L) from hL.out.on hb0)
  have hVo : ∀ {u : World}, Below w.heap.size w u → Hid (StrsAt u b V) := fun hb => hV.out.on hb
  generalize getL L key = x at hg
  obtain ⟨x, t⟩ := x
  skip
  clear hL hV
  go_enter Try.func34, Try.ntmps34
  go_wp2_with fail
  refine hg.mono ?_
  rintro e w1 ⟨rfl, hb1⟩
  have hb := on2 hb0 hb1
  obtain ⟨qa, qb, qc, qd⟩ := q0.on hb1
  clear hg hb1 hb0 q0
  go_wp2_with fail
  refine (by_lacks _ _ _ _ _ _).mono ?_
  rintro e w2 ⟨rfl, hb2⟩
  have hbb := on2 hb hb2
  clear hb qa qb qc qd hb2
  go_wp2_with fail
  refine (lacks_calls _ _ _ _ _ _).mono ?_
  rintro e w3 ⟨rfl, hb3⟩
  have hbc := on2 hbb hb3
  clear hbb hb3 hVo
  go_wp2_with fail
  go_ret
  exact ⟨retb (by simp [meetsV]), hbc⟩

set_option maxHeartbeats 1000000 in
theorem by_above (v : ByteArray) (t : Bool) (a : Option Addr) (n cap : Nat) (w : World)  : Calls Try.prog 42 #[.agg #[.string v, .bool t, .slice a n cap], .int .i64 5] w fun e w' => e = .returned (.func (.func 50) #[.agg #[.string v, .bool t, .slice a n cap]] #[]) ∧ Below w.heap.size w w' := by
  go_enter Try.func42, Try.ntmps42
  go_wp2
  go_ret
  exact ⟨rfl, by go_grown⟩

set_option maxHeartbeats 1000000 in
theorem Meets_above (a : Option Addr) (cap : Nat) (L : List Lab) (key : ByteArray) (b : Option Addr) (cap' : Nat) (V : List ByteArray) (w : World) (hL : Hid (LabsAt w a L)) (hV : Hid (StrsAt w b V))  : Calls Try.prog 34 #[.slice a L.length cap, .agg #[.string key, .int .i64 5, .slice b V.length cap']] w fun e w' => e = .returned (.bool (meetsV (getL L key).1 (getL L key).2 5 V)) ∧ Below w.heap.size w w' := by
  have hb0 : Below w.heap.size w (w.alloc (.cells #[.string key, .int .i64 5, .slice b V.length cap'] 79)) := (Below.refl _ _).alloc (Nat.le_refl _) _
  have q0 := ReqBox.new w key 5 b V.length cap'
  have hg := Get_calls a cap L key _ (show Hid (LabsAt (w.alloc (.cells #[.string key, .int .i64 5, .slice b V.length cap'] 79)) a L) from hL.out.on hb0)
  have hVo : ∀ {u : World}, Below w.heap.size w u → Hid (StrsAt u b V) := fun hb => hV.out.on hb
  generalize getL L key = x at hg
  obtain ⟨x, t⟩ := x
  skip
  clear hL hV
  go_enter Try.func34, Try.ntmps34
  go_wp2_with fail
  refine hg.mono ?_
  rintro e w1 ⟨rfl, hb1⟩
  have hb := on2 hb0 hb1
  obtain ⟨qa, qb, qc, qd⟩ := q0.on hb1
  clear hg hb1 hb0 q0
  go_wp2_with fail
  refine (by_above _ _ _ _ _ _).mono ?_
  rintro e w2 ⟨rfl, hb2⟩
  have hbb := on2 hb hb2
  clear hb qa qb qc qd hb2
  go_wp2_with fail
  refine (above_calls _ _ _ _ V _ (hVo hbb)).mono ?_
  rintro e w3 ⟨rfl, hb3⟩
  have hbc := on2 hbb hb3
  clear hbb hb3 hVo
  go_wp2_with fail
  go_ret
  exact ⟨retb (by simp [meetsV]), hbc⟩

set_option maxHeartbeats 1000000 in
theorem by_below (v : ByteArray) (t : Bool) (a : Option Addr) (n cap : Nat) (w : World)  : Calls Try.prog 42 #[.agg #[.string v, .bool t, .slice a n cap], .int .i64 6] w fun e w' => e = .returned (.func (.func 51) #[.agg #[.string v, .bool t, .slice a n cap]] #[]) ∧ Below w.heap.size w w' := by
  go_enter Try.func42, Try.ntmps42
  go_wp2
  go_ret
  exact ⟨rfl, by go_grown⟩

set_option maxHeartbeats 1000000 in
theorem Meets_below (a : Option Addr) (cap : Nat) (L : List Lab) (key : ByteArray) (b : Option Addr) (cap' : Nat) (V : List ByteArray) (w : World) (hL : Hid (LabsAt w a L)) (hV : Hid (StrsAt w b V))  : Calls Try.prog 34 #[.slice a L.length cap, .agg #[.string key, .int .i64 6, .slice b V.length cap']] w fun e w' => e = .returned (.bool (meetsV (getL L key).1 (getL L key).2 6 V)) ∧ Below w.heap.size w w' := by
  have hb0 : Below w.heap.size w (w.alloc (.cells #[.string key, .int .i64 6, .slice b V.length cap'] 79)) := (Below.refl _ _).alloc (Nat.le_refl _) _
  have q0 := ReqBox.new w key 6 b V.length cap'
  have hg := Get_calls a cap L key _ (show Hid (LabsAt (w.alloc (.cells #[.string key, .int .i64 6, .slice b V.length cap'] 79)) a L) from hL.out.on hb0)
  have hVo : ∀ {u : World}, Below w.heap.size w u → Hid (StrsAt u b V) := fun hb => hV.out.on hb
  generalize getL L key = x at hg
  obtain ⟨x, t⟩ := x
  skip
  clear hL hV
  go_enter Try.func34, Try.ntmps34
  go_wp2_with fail
  refine hg.mono ?_
  rintro e w1 ⟨rfl, hb1⟩
  have hb := on2 hb0 hb1
  obtain ⟨qa, qb, qc, qd⟩ := q0.on hb1
  clear hg hb1 hb0 q0
  go_wp2_with fail
  refine (by_below _ _ _ _ _ _).mono ?_
  rintro e w2 ⟨rfl, hb2⟩
  have hbb := on2 hb hb2
  clear hb qa qb qc qd hb2
  go_wp2_with fail
  refine (below_calls _ _ _ _ V _ (hVo hbb)).mono ?_
  rintro e w3 ⟨rfl, hb3⟩
  have hbc := on2 hbb hb3
  clear hbb hb3 hVo
  go_wp2_with fail
  go_ret
  exact ⟨retb (by simp [meetsV]), hbc⟩

set_option maxHeartbeats 1000000 in
theorem by_never (v : ByteArray) (t : Bool) (a : Option Addr) (n cap : Nat) (op : Int) (w : World) (h1 : (op == 1) = false) (h2 : (op == 2) = false) (h3 : (op == 3) = false) (h4 : (op == 4) = false) (h5 : (op == 5) = false) (h6 : (op == 6) = false) : Calls Try.prog 42 #[.agg #[.string v, .bool t, .slice a n cap], .int .i64 op] w fun e w' => e = .returned (.func (.func 52) #[.agg #[.string v, .bool t, .slice a n cap]] #[]) ∧ Below w.heap.size w w' := by
  go_enter Try.func42, Try.ntmps42
  go_wp2
  go_ret
  exact ⟨rfl, by go_grown⟩

set_option maxHeartbeats 1000000 in
theorem Meets_never (a : Option Addr) (cap : Nat) (L : List Lab) (key : ByteArray) (op : Int) (b : Option Addr) (cap' : Nat) (V : List ByteArray) (w : World) (hL : Hid (LabsAt w a L)) (hV : Hid (StrsAt w b V)) (h1 : (op == 1) = false) (h2 : (op == 2) = false) (h3 : (op == 3) = false) (h4 : (op == 4) = false) (h5 : (op == 5) = false) (h6 : (op == 6) = false) : Calls Try.prog 34 #[.slice a L.length cap, .agg #[.string key, .int .i64 op, .slice b V.length cap']] w fun e w' => e = .returned (.bool (meetsV (getL L key).1 (getL L key).2 op V)) ∧ Below w.heap.size w w' := by
  have hb0 : Below w.heap.size w (w.alloc (.cells #[.string key, .int .i64 op, .slice b V.length cap'] 79)) := (Below.refl _ _).alloc (Nat.le_refl _) _
  have q0 := ReqBox.new w key op b V.length cap'
  have hg := Get_calls a cap L key _ (show Hid (LabsAt (w.alloc (.cells #[.string key, .int .i64 op, .slice b V.length cap'] 79)) a L) from hL.out.on hb0)
  have hVo : ∀ {u : World}, Below w.heap.size w u → Hid (StrsAt u b V) := fun hb => hV.out.on hb
  generalize getL L key = x at hg
  obtain ⟨x, t⟩ := x
  have HF : Hid (meetsV x t op V = false) := meetsV_else h1 h2 h3 h4 h5 h6
  clear hL hV
  go_enter Try.func34, Try.ntmps34
  go_wp2_with fail
  refine hg.mono ?_
  rintro e w1 ⟨rfl, hb1⟩
  have hb := on2 hb0 hb1
  obtain ⟨qa, qb, qc, qd⟩ := q0.on hb1
  clear hg hb1 hb0 q0
  go_wp2_with fail
  refine (by_never _ _ _ _ _ op _ h1 h2 h3 h4 h5 h6).mono ?_
  rintro e w2 ⟨rfl, hb2⟩
  have hbb := on2 hb hb2
  clear hb qa qb qc qd hb2
  go_wp2_with fail
  refine (never_calls _ _ _ _ _ _).mono ?_
  rintro e w3 ⟨rfl, hb3⟩
  have hbc := on2 hbb hb3
  clear hbb hb3 hVo
  go_wp2_with fail
  go_ret
  exact ⟨retb HF.out.symm, hbc⟩
end Go.Proofs.Yteihniiacfghoab
namespace Go.Proofs.Yteihniiacfghoab
open Go.RowKit
set_option linter.unusedSimpArgs false

theorem meetsV_above (x : ByteArray) (t : Bool) (V : List ByteArray) : meetsV x t 5 V = (t && numB x && (decide (V.length = 1) && numB (V.getD 0 default)) && decide (numN (V.getD 0 default) < numN x)) := by simp [meetsV]
theorem meetsV_below (x : ByteArray) (t : Bool) (V : List ByteArray) : meetsV x t 6 V = (t && numB x && (decide (V.length = 1) && numB (V.getD 0 default)) && decide (numN x < numN (V.getD 0 default))) := by simp [meetsV]
end Go.Proofs.Yteihniiacfghoab
namespace Go.Proofs.Yteihniiacfghoab
open Go.RowKit
set_option linter.unusedSimpArgs false

theorem Meets_calls (a : Option Addr) (cap : Nat) (L : List Lab) (key : ByteArray) (op : Int) (b : Option Addr) (cap' : Nat) (V : List ByteArray) (w : World) (hL : Hid (LabsAt w a L)) (hV : Hid (StrsAt w b V)) : Calls Try.prog 34 #[.slice a L.length cap, .agg #[.string key, .int .i64 op, .slice b V.length cap']] w fun e w' => e = .returned (.bool (meetsL L ⟨key, op, V⟩)) ∧ Below w.heap.size w w' := by
  rcases op_paths op with rfl | rfl | rfl | rfl | rfl | rfl | ⟨h1, h2, h3, h4, h5, h6⟩
  · exact Meets_in a cap L key b cap' V w hL hV
  · exact Meets_notIn a cap L key b cap' V w hL hV
  · exact Meets_exists a cap L key b cap' V w hL hV
  · exact Meets_lacks a cap L key b cap' V w hL hV
  · exact Meets_above a cap L key b cap' V w hL hV
  · exact Meets_below a cap L key b cap' V w hL hV
  · exact Meets_never a cap L key op b cap' V w hL hV h1 h2 h3 h4 h5 h6

set_option maxHeartbeats 1000000 in
theorem Match_calls (a : Option Addr) (cap : Nat) (L : List Lab) (b : Option Addr) (cap' : Nat) (R : List Ask) (w : World) (hL : Hid (LabsAt w a L)) (hR : Hid (AsksAt w b R)) : Calls Try.prog 28 #[.slice a L.length cap, .slice b R.length cap'] w fun e w' => e = .returned (.bool (matchL L R)) ∧ Below w.heap.size w w' := by
  have hlen := hR.out.1
  go_enter Try.func28, Try.ntmps28
  go_wp2
  go_loopw [9] (fun i wr => ∃ k : Nat, k ≤ R.length ∧ i = .int .i64 k ∧ Below w.heap.size w wr ∧ Hid (∀ j, j < k → meetsL L (R.getD j default) = true)) (fun i _ => R.length - (intOf i).toNat)
  case atStart => exact ⟨0, Nat.zero_le _, rfl, Below.refl _ _, fun j hj => absurd hj (Nat.not_lt_zero _)⟩
  case round =>
    obtain ⟨k, hk, rfl, hbel, hall⟩ := hrel
    by_cases hlt : k < R.length
    · obtain ⟨B, off, rfl, hB, c0, c1, ⟨a', capv, c2, hv⟩, s0⟩ := hR.out.get hlt
      have d0 := (hbel.cell (p := ⟨B, off + k * 3, none⟩) hB).trans c0
      have d1 := (hbel.cell (p := ⟨B, off + k * 3 + 1, none⟩) hB).trans c1
      have d2 := (hbel.cell (p := ⟨B, off + k * 3 + 2, none⟩) hB).trans c2
      have HM : Hid (∀ u, Below wr.heap.size wr u → Calls Try.prog 34 #[.slice a L.length cap, .agg #[.string (R.getD k default).key, .int .i64 (R.getD k default).op, .slice a' (R.getD k default).vals.length capv]] u fun e w' => e = .returned (.bool (meetsL L (R.getD k default))) ∧ Below u.heap.size u w') :=
        fun u hu => Meets_calls a cap L _ _ a' capv _ u (hL.out.on (on2 hbel hu)) (hv.on (on2 hbel hu))
      clear c0 c1 c2 hv
      cases hm : meetsL L (R.getD k default)
      · have HF : Hid (matchL L R = false) := allTo_false hlt hm
        rw [hm] at HM
        clear hm hall
        generalize R.getD k default = r at d0 d1 d2 s0 HM
        go_wp2_with fail
        refine (HM.out _ (by go_grown)).mono ?_
        rintro e w1 ⟨rfl, hb⟩
        have hb' := on2 hbel (on2 (by go_grown) hb)
        clear HM d0 d1 d2
        go_wp2_with fail
        go_ret
        exact ⟨retb HF.out.symm, hb'⟩
      · have HG : Hid (∀ j, j < k + 1 → meetsL L (R.getD j default) = true) := fun j hj => by
          rcases Nat.lt_succ_iff_lt_or_eq.1 hj with h | rfl
          · exact hall.out j h
          · exact hm
        rw [hm] at HM
        clear hm hall
        generalize R.getD k default = r at d0 d1 d2 s0 HM
        go_wp2_with fail
        refine (HM.out _ (by go_grown)).mono ?_
        rintro e w1 ⟨rfl, hb⟩
        have hb' := on2 hbel (on2 (by go_grown) hb)
        clear HM d0 d1 d2
        go_wp2_with fail
        go_roundw
        case rel => exact ⟨k + 1, by omega, by go_num, hb', HG⟩
        case measure => simp [intOf]; omega
    · have HF : Hid (matchL L R = true) := allTo_true (fun j hj => hall.out j (by omega))
      go_wp2
      go_ret
      exact ⟨retb HF.out.symm, hbel⟩

end Go.Proofs.Yteihniiacfghoab
namespace Go.Proofs.Yteihniiacfghoab
open Go.RowKit
set_option linter.unusedSimpArgs false

/-- What is asked of a function that tells taints: it answers p, and leaves all that was there. -/
def PredT (g : Nat) (lb : Array Value) (p : Tnt → Bool) (w : World) : Prop :=
  ∀ (W : World) (x : Tnt), Below w.heap.size w W → Calls Try.prog g (#[.agg #[.string x.1, .string x.2.1, .int .i64 x.2.2]] ++ lb) W fun e w' => e = .returned (.bool (p x)) ∧ Below W.heap.size W w'

/-- What is asked of a function that tells what is borne: it answers p, and leaves all that was there. -/
def PredB (g : Nat) (lb : Array Value) (p : Bear → Bool) (w : World) : Prop :=
  ∀ (W : World) (x : Bear), Below w.heap.size w W → Calls Try.prog g (#[.agg #[.string x.1, .string x.2.1, .bool x.2.2.1, .int .i64 x.2.2.2]] ++ lb) W fun e w' => e = .returned (.bool (p x)) ∧ Below W.heap.size W w'

set_option maxHeartbeats 2000000 in
theorem IndexB_calls (a : Option Addr) (cap : Nat) (L : List Bear) (w : World) (hL : Hid (BearsAt w a L)) (p : Bear → Bool) (g : Nat) (lb : Array Value) (eg : ∀ args w, (callFunc g args).run Try.prog w = .ok (.enter g args) w) (hp : Hid (PredB g lb p w)) :
    Calls Try.prog 53 #[.slice a L.length cap, .func (.func g) #[] lb] w fun e w' => ((∃ i : Nat, i < L.length ∧ p (L.getD i default) = true ∧ (∀ j, j < i → p (L.getD j default) = false) ∧ e = .returned (.int .i64 i)) ∨ ((∀ j, j < L.length → p (L.getD j default) = false) ∧ e = .returned (.int .i64 (-1)))) ∧ Below w.heap.size w w' := by
  have hlen := hL.out.1
  go_enter Try.func53, Try.ntmps53
  go_wp2
  go_loopw [8] (fun i wr => ∃ k : Nat, k ≤ L.length ∧ i = .int .i64 k ∧ Below w.heap.size w wr ∧ Hid (∀ j, j < k → p (L.getD j default) = false)) (fun i _ => L.length - (intOf i).toNat)
  case atStart => exact ⟨0, Nat.zero_le _, rfl, Below.refl _ _, fun j hj => absurd hj (Nat.not_lt_zero _)⟩
  case round =>
    obtain ⟨k, hk, rfl, hbel, hall⟩ := hrel
    by_cases hlt : k < L.length
    · obtain ⟨B, off, rfl, hB, c0, c1, c2, c3, ho⟩ := BearsAt.get hL.out hlt
      clear ho
      have d0 := (hbel.cell (p := ⟨B, off + k * 4, none⟩) hB).trans c0
      have d1 := (hbel.cell (p := ⟨B, off + k * 4 + 1, none⟩) hB).trans c1
      have d2 := (hbel.cell (p := ⟨B, off + k * 4 + 2, none⟩) hB).trans c2
      have d3 := (hbel.cell (p := ⟨B, off + k * 4 + 3, none⟩) hB).trans c3
      clear c0 c1 c2 c3
      have hcall := hp.out wr (L.getD k default) hbel
      have HG : Hid (p (L.getD k default) = false → ∀ j, j < k + 1 → p (L.getD j default) = false) := fun h j hj => by
        rcases Nat.lt_succ_iff_lt_or_eq.1 hj with h' | rfl
        · exact hall.out j h'
        · exact h
      have HF : Hid (p (L.getD k default) = true → ∃ i : Nat, i < L.length ∧ p (L.getD i default) = true ∧ (∀ j, j < i → p (L.getD j default) = false) ∧ Ending.returned (.int .i64 k) = .returned (.int .i64 i)) := fun h => ⟨k, hlt, h, hall.out, rfl⟩
      clear hall
      generalize L.getD k default = x at d0 d1 d2 d3 hcall HG HF
      cases hq : p x
      · have HG' : Hid (∀ j, j < k + 1 → p (L.getD j default) = false) := HG.out hq
        rw [hq] at hcall
        clear HG HF hq
        go_wp2_with fail
        refine hcall.mono ?_
        rintro e w' ⟨rfl, hb'⟩
        go_wp2_with fail
        go_roundw
        case rel => exact ⟨k + 1, by omega, by go_num, on2 hbel hb', HG'⟩
        case measure => simp [intOf]; omega
      · have HF' := HF.out hq
        have HF2 : Hid (∃ i : Nat, i < L.length ∧ p (L.getD i default) = true ∧ (∀ j, j < i → p (L.getD j default) = false) ∧ Ending.returned (.int .i64 k) = .returned (.int .i64 i)) := HF'
        rw [hq] at hcall
        clear HG HF hq HF'
        go_wp2_with fail
        refine hcall.mono ?_
        rintro e w' ⟨rfl, hb'⟩
        go_wp2_with fail
        go_ret
        exact ⟨.inl HF2.out, on2 hbel hb'⟩
    · have HA : Hid (∀ j, j < L.length → p (L.getD j default) = false) := fun j hj => hall.out j (by omega)
      clear hall
      go_wp2
      go_ret
      exact ⟨.inr ⟨HA.out, rfl⟩, hbel⟩

theorem ContainsB_calls (a : Option Addr) (cap : Nat) (L : List Bear) (w : World) (hL : Hid (BearsAt w a L)) (p : Bear → Bool) (g : Nat) (lb : Array Value) (eg : ∀ args w, (callFunc g args).run Try.prog w = .ok (.enter g args) w) (hp : Hid (PredB g lb p w)) :
    Calls Try.prog 43 #[.slice a L.length cap, .func (.func g) #[] lb] w fun e w' => e = .returned (.bool (L.any p)) ∧ Below w.heap.size w w' := by
  have hI := IndexB_calls a cap L w hL p g lb eg hp
  go_enter Try.func43, Try.ntmps43
  go_wp2_with fail
  refine hI.mono ?_
  rintro e w1 ⟨⟨i, hi, hy, _, rfl⟩ | ⟨hn, rfl⟩, hb⟩
  · have HA : Hid (L.any p = true) := any_yes hi hy
    clear hy
    go_wp2_with fail
    go_ret
    exact ⟨retb HA.out.symm, hb⟩
  · have HA : Hid (L.any p = false) := any_no hn
    clear hn
    go_wp2_with fail
    go_ret
    exact ⟨retb HA.out.symm, hb⟩
end Go.Proofs.Yteihniiacfghoab
namespace Go.Proofs.Yteihniiacfghoab
open Go.RowKit
set_option linter.unusedSimpArgs false

set_option maxHeartbeats 2000000 in
theorem meant_calls (bk bv : ByteArray) (ba : Bool) (be : Int) (tk tv : ByteArray) (te : Int) (w : World) : Calls Try.prog 54 #[.agg #[.string bk, .string bv, .bool ba, .int .i64 be], .agg #[.string tk, .string tv, .int .i64 te]] w fun e w' => e = .returned (.agg #[.string (meantT (bk, bv, ba, be) (tk, tv, te)).1, .string (meantT (bk, bv, ba, be) (tk, tv, te)).2.1, .int .i64 (meantT (bk, bv, ba, be) (tk, tv, te)).2.2]) ∧ Below w.heap.size w w' := by
  have HM : Hid (meantT (bk, bv, ba, be) (tk, tv, te) = (if ba && bk.toList.isEmpty then tk else bk, if ba then tv else bv, if be == 0 then te else be)) := rfl
  generalize meantT (bk, bv, ba, be) (tk, tv, te) = m at HM ⊢
  obtain ⟨n, hn⟩ : ∃ n, bk.toList.isEmpty = n := ⟨_, rfl⟩
  obtain ⟨z, hz⟩ : ∃ z, (be == 0) = z := ⟨_, rfl⟩
  rw [hn, hz] at HM
  cases ba <;> cases n <;> cases z <;> (
    have HM' := HM.out
    simp only [Bool.and_self, Bool.and_true, Bool.and_false, Bool.true_and, Bool.false_and, Bool.false_eq_true, if_true, if_false] at HM'
    subst HM'
    clear HM
    go_enter Try.func54, Try.ntmps54
    go_wp2
    exact bodyPost_ret (v := .agg #[.string _, .string _, .int .i64 _]) (by simp [results, Try.results54, go_sem]) rfl ⟨rfl, by go_grown⟩)

theorem guardT : Try.prog.eqGuardType Try.prog.depth 77 = false := by kernel_rfl
theorem guardB : Try.prog.eqGuardType Try.prog.depth 42 = false := by kernel_rfl
theorem eqT (x y : Tnt) (w : World) : Sem.run Try.prog (binOp .eql 77 (.agg #[.string x.1, .string x.2.1, .int .i64 x.2.2]) (.agg #[.string y.1, .string y.2.1, .int .i64 y.2.2])) w = .ok (.bool (tEq x y)) w := by
  have u3 := Try.underlying3
  have a3 := Try.isAgg3
  have z3 := Try.sizeOf3
  have u9 := Try.underlying9
  have a9 := Try.isAgg9
  have z9 := Try.sizeOf9
  have hS : Try.prog.underlying 77 = some (.struct (Try.prog.fieldsOf 77)) := by kernel_rfl
  have hp : Try.prog.stoodInHeld 77 = false := by kernel_rfl
  rw [run_eql_struct, show (10000 : Nat) = 9999 + 1 from rfl, run_equalIn_agg w 9999 77 _ _ hS hp]
  simp only [Program.fieldsOf, Try.underlying77]
  go_simp
  simp only [tEq, sEq]
  by_cases h1 : x.1.toList = y.1.toList <;> by_cases h2 : x.2.1.toList = y.2.1.toList <;> by_cases h3 : x.2.2 = y.2.2 <;> simp [h1, h2, h3]
theorem eqB (x y : Bear) (w : World) : Sem.run Try.prog (binOp .eql 42 (.agg #[.string x.1, .string x.2.1, .bool x.2.2.1, .int .i64 x.2.2.2]) (.agg #[.string y.1, .string y.2.1, .bool y.2.2.1, .int .i64 y.2.2.2])) w = .ok (.bool (bEq x y)) w := by
  have u3 := Try.underlying3
  have a3 := Try.isAgg3
  have z3 := Try.sizeOf3
  have u4 := Try.underlying4
  have a4 := Try.isAgg4
  have z4 := Try.sizeOf4
  have u9 := Try.underlying9
  have a9 := Try.isAgg9
  have z9 := Try.sizeOf9
  have hS : Try.prog.underlying 42 = some (.struct (Try.prog.fieldsOf 42)) := by kernel_rfl
  have hp : Try.prog.stoodInHeld 42 = false := by kernel_rfl
  rw [run_eql_struct, show (10000 : Nat) = 9999 + 1 from rfl, run_equalIn_agg w 9999 42 _ _ hS hp]
  simp only [Program.fieldsOf, Try.underlying42]
  go_simp
  simp only [bEq, sEq]
  by_cases h1 : x.1.toList = y.1.toList <;> by_cases h2 : x.2.1.toList = y.2.1.toList <;> by_cases h3 : x.2.2.1 = y.2.2.1 <;> by_cases h4 : x.2.2.2 = y.2.2.2 <;> simp [h1, h2, h3, h4]

/-- The two boxes hold what came in, and nothing that was there has turned. -/
def BeS (wB : World) (D E : Nat) (bk bv : ByteArray) (ba : Bool) (be : Int) (tk tv : ByteArray) (te : Int) (u : World) : Prop :=
  Below wB.heap.size wB u ∧ u.cell? ⟨D, 0, none⟩ = some (.string bk) ∧ u.cell? ⟨D, 1, none⟩ = some (.string bv) ∧ u.cell? ⟨D, 2, none⟩ = some (.bool ba) ∧ u.cell? ⟨D, 3, none⟩ = some (.int .i64 be) ∧
    u.cell? ⟨E, 0, none⟩ = some (.string tk) ∧ u.cell? ⟨E, 1, none⟩ = some (.string tv) ∧ u.cell? ⟨E, 2, none⟩ = some (.int .i64 te)
theorem BeS.to {wB u' : World} {D E : Nat} {bk bv : ByteArray} {ba : Bool} {be : Int} {tk tv : ByteArray} {te : Int} (h : BeS wB D E bk bv ba be tk tv te wB) (hD : D < wB.heap.size) (hE : E < wB.heap.size) (hb : Below wB.heap.size wB u') : BeS wB D E bk bv ba be tk tv te u' := by
  obtain ⟨_, h1, h2, h3, h4, h5, h6, h7⟩ := h
  exact ⟨hb, (hb.cell hD).trans h1, (hb.cell hD).trans h2, (hb.cell hD).trans h3, (hb.cell hD).trans h4, (hb.cell hE).trans h5, (hb.cell hE).trans h6, (hb.cell hE).trans h7⟩

set_option maxHeartbeats 2000000 in
theorem Bears_calls (bk bv : ByteArray) (ba : Bool) (be : Int) (tk tv : ByteArray) (te : Int) (w : World) : Calls Try.prog 45 #[.agg #[.string bk, .string bv, .bool ba, .int .i64 be], .agg #[.string tk, .string tv, .int .i64 te]] w fun e w' => e = .returned (.bool (bearsB (bk, bv, ba, be) (tk, tv, te))) ∧ Below w.heap.size w w' := by
  have hS0 : BeS ((w.alloc (.cells #[.string bk, .string bv, .bool ba, .int .i64 be] 42)).alloc (.cells #[.string tk, .string tv, .int .i64 te] 77)) w.heap.size (w.heap.size + 1) bk bv ba be tk tv te ((w.alloc (.cells #[.string bk, .string bv, .bool ba, .int .i64 be] 42)).alloc (.cells #[.string tk, .string tv, .int .i64 te] 77)) :=
    ⟨Below.refl _ _, by simp [go_sem], by simp [go_sem], by simp [go_sem], by simp [go_sem], by simp [go_sem], by simp [go_sem], by simp [go_sem]⟩
  have hb0 : Below w.heap.size w ((w.alloc (.cells #[.string bk, .string bv, .bool ba, .int .i64 be] 42)).alloc (.cells #[.string tk, .string tv, .int .i64 te] 77)) := by go_grown
  have hD : w.heap.size < ((w.alloc (.cells #[.string bk, .string bv, .bool ba, .int .i64 be] 42)).alloc (.cells #[.string tk, .string tv, .int .i64 te] 77)).heap.size := by simp; omega
  have hE : w.heap.size + 1 < ((w.alloc (.cells #[.string bk, .string bv, .bool ba, .int .i64 be] 42)).alloc (.cells #[.string tk, .string tv, .int .i64 te] 77)).heap.size := by simp
  have HS : Hid (∀ {u : World}, Below ((w.alloc (.cells #[.string bk, .string bv, .bool ba, .int .i64 be] 42)).alloc (.cells #[.string tk, .string tv, .int .i64 te] 77)).heap.size ((w.alloc (.cells #[.string bk, .string bv, .bool ba, .int .i64 be] 42)).alloc (.cells #[.string tk, .string tv, .int .i64 te] 77)) u → BeS ((w.alloc (.cells #[.string bk, .string bv, .bool ba, .int .i64 be] 42)).alloc (.cells #[.string tk, .string tv, .int .i64 te] 77)) w.heap.size (w.heap.size + 1) bk bv ba be tk tv te u) := fun hb => hS0.to hD hE hb
  have HM := meant_calls bk bv ba be tk tv te
  have HQ := eqT (meantT (bk, bv, ba, be) (tk, tv, te)) (tk, tv, te)
  have HG := guardT
  rw [meant_bears] at HQ
  clear hS0
  generalize meantT (bk, bv, ba, be) (tk, tv, te) = m at HM HQ
  generalize bearsB (bk, bv, ba, be) (tk, tv, te) = r at HQ ⊢
  go_enter Try.func45, Try.ntmps45
  go_wp2_with fail
  generalize hwB : ((w.alloc (.cells #[.string bk, .string bv, .bool ba, .int .i64 be] 42)).alloc (.cells #[.string tk, .string tv, .int .i64 te] 77)) = wB at HS hb0 hD hE
  refine wp_region_noPanic ?_
  refine wp_region_held_drew (S := BeS wB w.heap.size (w.heap.size + 1) bk bv ba be tk tv te) (by kernel_rfl) (HS.out (Below.refl _ _).drew) (fun hHeld => ?_)
  refine wpAnyH_take (i := 0) (v := ?v0) rfl (by kernel_rfl) (by kernel_rfl) (by kernel_rfl) (fun _ _ _ h => h) (Or.inl ⟨by rfl, ?hy0⟩) (by assumption) ?rest0
  case hy0 => (intro u hu; obtain ⟨_, _, _, _, _, _, _, _⟩ := hu; go_simp; try with_reducible rfl)
  try simp only [Act.put, List.setIfInBounds_toArray, List.set_cons_zero, List.set_cons_succ, List.getElem_toArray, List.getElem_cons_zero, List.getElem_cons_succ]
  refine wpAnyH_take (i := 1) (v := ?v1) rfl (by kernel_rfl) (by kernel_rfl) (by kernel_rfl) (fun _ _ _ h => h) (Or.inl ⟨by rfl, ?hy1⟩) (by assumption) ?rest1
  case hy1 => (intro u hu; obtain ⟨_, _, _, _, _, _, _, _⟩ := hu; go_simp; try with_reducible rfl)
  try simp only [Act.put, List.setIfInBounds_toArray, List.set_cons_zero, List.set_cons_succ, List.getElem_toArray, List.getElem_cons_zero, List.getElem_cons_succ]
  refine wpAnyH_take (i := 3) (v := ?v3) rfl (by kernel_rfl) (by kernel_rfl) (by kernel_rfl) (fun _ _ _ h => h) (Or.inl ⟨by rfl, ?hy3⟩) (by assumption) ?rest3
  case hy3 => (intro u hu; obtain ⟨_, _, _, _, _, _, _, _⟩ := hu; go_simp; try with_reducible rfl)
  try simp only [Act.put, List.setIfInBounds_toArray, List.set_cons_zero, List.set_cons_succ, List.getElem_toArray, List.getElem_cons_zero, List.getElem_cons_succ]
  refine wpAnyH_ready (rs := [2]) (by kernel_rfl) (by simp) ?_
  refine AllReadyH.cons rfl (fun K hK => ?_) AllReadyH.nil
  go_simp
  refine (HM _).mono ?_
  rintro e w1 ⟨rfl, hb1⟩
  go_wp2_with fail
  refine hK.out _ _ (HS.out (on2 hHeld.1 hb1)) (fun hHeld2 => ?_)
  clear hK K hHeld
  have hHeld := hHeld2
  clear hHeld2
  try simp only [Act.put, List.setIfInBounds_toArray, List.set_cons_zero, List.set_cons_succ, List.getElem_toArray, List.getElem_cons_zero, List.getElem_cons_succ]
  refine wpAnyH_take (i := 4) (v := ?v4) rfl (by kernel_rfl) (by kernel_rfl) (by kernel_rfl) (fun _ _ _ h => h) (Or.inl ⟨by rfl, ?hy4⟩) (by assumption) ?rest4
  case hy4 => (intro u hu; obtain ⟨_, _, _, _, _, _, _, _⟩ := hu; go_simp; try with_reducible rfl)
  try simp only [Act.put, List.setIfInBounds_toArray, List.set_cons_zero, List.set_cons_succ, List.getElem_toArray, List.getElem_cons_zero, List.getElem_cons_succ]
  refine wpAnyH_take (i := 5) (v := ?v5) rfl (by kernel_rfl) (by kernel_rfl) (by kernel_rfl) (fun _ _ _ h => h) (Or.inl ⟨by rfl, ?hy5⟩) (by assumption) ?rest5
  case hy5 => (intro u hu; obtain ⟨_, _, _, _, _, _, _, _⟩ := hu; go_simp; try with_reducible rfl)
  try simp only [Act.put, List.setIfInBounds_toArray, List.set_cons_zero, List.set_cons_succ, List.getElem_toArray, List.getElem_cons_zero, List.getElem_cons_succ]
  refine wpAnyH_done (by kernel_rfl) ?_ _
  refine NoPanic.normal ?_
  go_wp2_with fail
  go_ret
  exact ⟨rfl, on2 hb0 hHeld.1⟩

end Go.Proofs.Yteihniiacfghoab
namespace Go.Proofs.Yteihniiacfghoab
open Go.RowKit

/-- Has one of the list t's key and t's effect? -/
def twinB (L : List Tnt) (t : Tnt) : Bool := L.any fun x => sEq x.1 t.1 && (x.2.2 == t.2.2)
def effB (e : Int) : Bool := (e == 1) || (e == 2)
def taintOk (x : Tnt) : Bool := wordB x.1 && valB x.2.1 && effB x.2.2
def tOk (L : List Tnt) (i : Nat) : Bool := taintOk (L.getD i default) && !twinB (L.take i) (L.getD i default)
def checkT (L : List Tnt) : Int := if 64 < L.length then 3 else if allTo L.length (tOk L) then 0 else 30
def bearOk (b : Bear) : Bool := (b.2.2.2 == 0 || effB b.2.2.2) && (if b.2.2.1 then valB b.1 && sNil b.2.1 else wordB b.1 && valB b.2.1)
def checkBr (L : List Bear) : Int := if 64 < L.length then 3 else if allTo L.length (fun i => bearOk (L.getD i default)) then 0 else 30
theorem reti {a b : Int} (h : a = b) : Ending.returned (.int .i64 a) = .returned (.int .i64 b) := by rw [h]
theorem checkT_long {L : List Tnt} (h : 64 < L.length) : checkT L = 3 := if_pos h
theorem checkT_bad {L : List Tnt} {k : Nat} (h : ¬ 64 < L.length) (hk : k < L.length) (hb : tOk L k = false) : checkT L = 30 := by
  unfold checkT; rw [if_neg h, allTo_false hk hb]; rfl
theorem checkT_ok {L : List Tnt} (h : ¬ 64 < L.length) (hall : ∀ j, j < L.length → tOk L j = true) : checkT L = 0 := by
  unfold checkT; rw [if_neg h, allTo_true hall]; rfl
theorem checkBr_long {L : List Bear} (h : 64 < L.length) : checkBr L = 3 := if_pos h
theorem checkBr_bad {L : List Bear} {k : Nat} (h : ¬ 64 < L.length) (hk : k < L.length) (hb : bearOk (L.getD k default) = false) : checkBr L = 30 := by
  unfold checkBr; rw [if_neg h, allTo_false hk hb]; rfl
theorem checkBr_ok {L : List Bear} (h : ¬ 64 < L.length) (hall : ∀ j, j < L.length → bearOk (L.getD j default) = true) : checkBr L = 0 := by
  unfold checkBr; rw [if_neg h, allTo_true hall]; rfl
theorem getD_take {α : Type} [Inhabited α] (L : List α) (m i : Nat) (h : i < m) (hl : i < L.length) : (L.take m).getD i default = L.getD i default := by
  rw [getE _ _ (by rw [List.length_take]; omega), getE _ _ hl]; simp
end Go.Proofs.Yteihniiacfghoab
