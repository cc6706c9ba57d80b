/- label.Meets, Match and the document's own return what the plain functions say; they change nothing that was there. Condition: the slices hold what is said of them. The document's own Meets returns what the plain functions say, an Op at a time; it changes nothing that was there. Condition: the slices hold what is said of them. label.Meets, Match and the document's own return what the plain functions say, at every Op; they change nothing that was there. Condition: the slices hold what is said of them. slices.IndexFunc and slices.ContainsFunc at taints and at what is borne, with whatever function is handed in. Condition: the slice holds what is said of it, and the function answers as said. taint.meant, taint.Bears and the document's own Bears return what the plain function says, and change nothing that was there. No condition. What a right taint, and something right to bear, is, as plain functions. No program. No condition. taint.borne, unborne and hasTwin: what is looked for by a function that is handed in comes out as the plain functions say. Condition: the slices hold what is said of them. taint.Kept and taint.Shy return what the plain functions say, and change nothing that was there. Condition: the slices hold what is said of them. The document's own Bears returns what the plain function says, and changes nothing that was there. No condition. The document's own borne, Kept and Shy return what the plain functions say, and change nothing that was there. Condition: the slices hold what is said of them. Slices of texts, labels and what is asked, told in the words of layer 2; calls of layers 2 and 3 over them. Plain facts on worlds. No condition. The document's about. Condition: a pod and a budget lie as is said of them. The document's first: the place of the first pod of a name. Condition: a state lies as is said of it. Steps of a region that draws its order, in short. Plain facts on the model's walks. No condition. -/
import Derived.Test.YtpjgffcpjabghaaQ07
import Derived.Test.YtpjgffcpjabghaaQ05
import Derived.Test.YtpjgffcpjabghaaQ02
import Derived.Laws.StructEq
import Derived.Shelf.Abstract
import Derived.Test.YtpjgffcpjabghaaQ04
import Derived.Test.YtpjgffcpjabghaaQ01
import Derived.Maps.RangeWalk
namespace Go.Proofs.Ytpjgffcpjabghaa
open Go.RowKit
set_option linter.unusedSimpArgs false

/-- The paths of an Op. -/
theorem op_paths (op : Int) : op = 1 ∨ op = 2 ∨ op = 3 ∨ op = 4 ∨ op = 5 ∨ op = 6 ∨ ((op == 1) = false ∧ (op == 2) = false ∧ (op == 3) = false ∧ (op == 4) = false ∧ (op == 5) = false ∧ (op == 6) = false) := by
  simp only [beq_eq_false_iff_ne, ne_eq]
  omega
theorem meetsV_else {v : ByteArray} {t : Bool} {op : Int} {V : List ByteArray} (h1 : (op == 1) = false) (h2 : (op == 2) = false) (h3 : (op == 3) = false) (h4 : (op == 4) = false) (h5 : (op == 5) = false) (h6 : (op == 6) = false) : meetsV v t op V = false := by
  simp only [beq_eq_false_iff_ne, ne_eq] at h1 h2 h3 h4 h5 h6
  simp [meetsV, h1, h2, h3, h4, h5, h6]

/-- What is asked lies in the box D. -/
def ReqBox (D : Nat) (key : ByteArray) (op : Int) (a : Option Addr) (n cap : Nat) (u : World) : Prop := D < u.heap.size ∧ u.cell? ⟨D, 0, none⟩ = some (.string key) ∧ u.cell? ⟨D, 1, none⟩ = some (.int .i64 op) ∧ u.cell? ⟨D, 2, none⟩ = some (.slice a n cap)
theorem ReqBox.on {D : Nat} {key : ByteArray} {op : Int} {a : Option Addr} {n cap : Nat} {u u' : World} (h : ReqBox D key op a n cap u) (hb : Below u.heap.size u u') : ReqBox D key op a n cap u' :=
  ⟨Nat.lt_of_lt_of_le h.1 hb.size, (hb.cell h.1).trans h.2.1, (hb.cell h.1).trans h.2.2.1, (hb.cell h.1).trans h.2.2.2⟩
theorem ReqBox.new (w : World) (key : ByteArray) (op : Int) (a : Option Addr) (n cap : Nat) : ReqBox w.heap.size key op a n cap (w.alloc (.cells #[.string key, .int .i64 op, .slice a n cap] 80)) :=
  ⟨by simp, by simp [go_sem], by simp [go_sem], by simp [go_sem]⟩

set_option maxHeartbeats 1000000 in
theorem by_in (v : ByteArray) (t : Bool) (a : Option Addr) (n cap : Nat) (w : World)  : Calls Try.prog 58 #[.agg #[.string v, .bool t, .slice a n cap], .int .i64 1] w fun e w' => e = .returned (.func (.func 64) #[.agg #[.string v, .bool t, .slice a n cap]] #[]) ∧ Below w.heap.size w w' := by
  go_enter Try.func58, Try.ntmps58
  go_wp2
  go_ret
  exact ⟨rfl, by go_grown⟩

set_option maxHeartbeats 1000000 in
theorem Meets_in (a : Option Addr) (cap : Nat) (L : List Lab) (key : ByteArray) (b : Option Addr) (cap' : Nat) (V : List ByteArray) (w : World) (hL : Hid (LabsAt w a L)) (hV : Hid (StrsAt w b V))  : Calls Try.prog 45 #[.slice a L.length cap, .agg #[.string key, .int .i64 1, .slice b V.length cap']] w fun e w' => e = .returned (.bool (meetsV (getL L key).1 (getL L key).2 1 V)) ∧ Below w.heap.size w w' := by
  have hb0 : Below w.heap.size w (w.alloc (.cells #[.string key, .int .i64 1, .slice b V.length cap'] 80)) := (Below.refl _ _).alloc (Nat.le_refl _) _
  have q0 := ReqBox.new w key 1 b V.length cap'
  have hg := Get_calls a cap L key _ (show Hid (LabsAt (w.alloc (.cells #[.string key, .int .i64 1, .slice b V.length cap'] 80)) a L) from hL.out.on hb0)
  have hVo : ∀ {u : World}, Below w.heap.size w u → Hid (StrsAt u b V) := fun hb => hV.out.on hb
  generalize getL L key = x at hg
  obtain ⟨x, t⟩ := x
  skip
  clear hL hV
  go_enter Try.func45, Try.ntmps45
  go_wp2_with fail
  refine hg.mono ?_
  rintro e w1 ⟨rfl, hb1⟩
  have hb := on2 hb0 hb1
  obtain ⟨qa, qb, qc, qd⟩ := q0.on hb1
  clear hg hb1 hb0 q0
  go_wp2_with fail
  refine (by_in _ _ _ _ _ _).mono ?_
  rintro e w2 ⟨rfl, hb2⟩
  have hbb := on2 hb hb2
  clear hb qa qb qc qd hb2
  go_wp2_with fail
  refine (in_calls _ _ _ _ V _ (hVo hbb)).mono ?_
  rintro e w3 ⟨rfl, hb3⟩
  have hbc := on2 hbb hb3
  clear hbb hb3 hVo
  go_wp2_with fail
  go_ret
  exact ⟨retb (by simp [meetsV]), hbc⟩

set_option maxHeartbeats 1000000 in
theorem by_notIn (v : ByteArray) (t : Bool) (a : Option Addr) (n cap : Nat) (w : World)  : Calls Try.prog 58 #[.agg #[.string v, .bool t, .slice a n cap], .int .i64 2] w fun e w' => e = .returned (.func (.func 65) #[.agg #[.string v, .bool t, .slice a n cap]] #[]) ∧ Below w.heap.size w w' := by
  go_enter Try.func58, Try.ntmps58
  go_wp2
  go_ret
  exact ⟨rfl, by go_grown⟩

set_option maxHeartbeats 1000000 in
theorem Meets_notIn (a : Option Addr) (cap : Nat) (L : List Lab) (key : ByteArray) (b : Option Addr) (cap' : Nat) (V : List ByteArray) (w : World) (hL : Hid (LabsAt w a L)) (hV : Hid (StrsAt w b V))  : Calls Try.prog 45 #[.slice a L.length cap, .agg #[.string key, .int .i64 2, .slice b V.length cap']] w fun e w' => e = .returned (.bool (meetsV (getL L key).1 (getL L key).2 2 V)) ∧ Below w.heap.size w w' := by
  have hb0 : Below w.heap.size w (w.alloc (.cells #[.string key, .int .i64 2, .slice b V.length cap'] 80)) := (Below.refl _ _).alloc (Nat.le_refl _) _
  have q0 := ReqBox.new w key 2 b V.length cap'
  have hg := Get_calls a cap L key _ (show Hid (LabsAt (w.alloc (.cells #[.string key, .int .i64 2, .slice b V.length cap'] 80)) a L) from hL.out.on hb0)
  have hVo : ∀ {u : World}, Below w.heap.size w u → Hid (StrsAt u b V) := fun hb => hV.out.on hb
  generalize getL L key = x at hg
  obtain ⟨x, t⟩ := x
  skip
  clear hL hV
  go_enter Try.func45, Try.ntmps45
  go_wp2_with fail
  refine hg.mono ?_
  rintro e w1 ⟨rfl, hb1⟩
  have hb := on2 hb0 hb1
  obtain ⟨qa, qb, qc, qd⟩ := q0.on hb1
  clear hg hb1 hb0 q0
  go_wp2_with fail
  refine (by_notIn _ _ _ _ _ _).mono ?_
  rintro e w2 ⟨rfl, hb2⟩
  have hbb := on2 hb hb2
  clear hb qa qb qc qd hb2
  go_wp2_with fail
  refine (notIn_calls _ _ _ _ V _ (hVo hbb)).mono ?_
  rintro e w3 ⟨rfl, hb3⟩
  have hbc := on2 hbb hb3
  clear hbb hb3 hVo
  go_wp2_with fail
  go_ret
  exact ⟨retb (by simp [meetsV]), hbc⟩

set_option maxHeartbeats 1000000 in
theorem by_exists (v : ByteArray) (t : Bool) (a : Option Addr) (n cap : Nat) (w : World)  : Calls Try.prog 58 #[.agg #[.string v, .bool t, .slice a n cap], .int .i64 3] w fun e w' => e = .returned (.func (.func 66) #[.agg #[.string v, .bool t, .slice a n cap]] #[]) ∧ Below w.heap.size w w' := by
  go_enter Try.func58, Try.ntmps58
  go_wp2
  go_ret
  exact ⟨rfl, by go_grown⟩

set_option maxHeartbeats 1000000 in
theorem Meets_exists (a : Option Addr) (cap : Nat) (L : List Lab) (key : ByteArray) (b : Option Addr) (cap' : Nat) (V : List ByteArray) (w : World) (hL : Hid (LabsAt w a L)) (hV : Hid (StrsAt w b V))  : Calls Try.prog 45 #[.slice a L.length cap, .agg #[.string key, .int .i64 3, .slice b V.length cap']] w fun e w' => e = .returned (.bool (meetsV (getL L key).1 (getL L key).2 3 V)) ∧ Below w.heap.size w w' := by
  have hb0 : Below w.heap.size w (w.alloc (.cells #[.string key, .int .i64 3, .slice b V.length cap'] 80)) := (Below.refl _ _).alloc (Nat.le_refl _) _
  have q0 := ReqBox.new w key 3 b V.length cap'
  have hg := Get_calls a cap L key _ (show Hid (LabsAt (w.alloc (.cells #[.string key, .int .i64 3, .slice b V.length cap'] 80)) a L) from hL.out.on hb0)
  have hVo : ∀ {u : World}, Below w.heap.size w u → Hid (StrsAt u b V) := fun hb => hV.out.on hb
  generalize getL L key = x at hg
  obtain ⟨x, t⟩ := x
  skip
  clear hL hV
  go_enter Try.func45, Try.ntmps45
  go_wp2_with fail
  refine hg.mono ?_
  rintro e w1 ⟨rfl, hb1⟩
  have hb := on2 hb0 hb1
  obtain ⟨qa, qb, qc, qd⟩ := q0.on hb1
  clear hg hb1 hb0 q0
  go_wp2_with fail
  refine (by_exists _ _ _ _ _ _).mono ?_
  rintro e w2 ⟨rfl, hb2⟩
  have hbb := on2 hb hb2
  clear hb qa qb qc qd hb2
  go_wp2_with fail
  refine (exists_calls _ _ _ _ _ _).mono ?_
  rintro e w3 ⟨rfl, hb3⟩
  have hbc := on2 hbb hb3
  clear hbb hb3 hVo
  go_wp2_with fail
  go_ret
  exact ⟨retb (by simp [meetsV]), hbc⟩

set_option maxHeartbeats 1000000 in
theorem by_lacks (v : ByteArray) (t : Bool) (a : Option Addr) (n cap : Nat) (w : World)  : Calls Try.prog 58 #[.agg #[.string v, .bool t, .slice a n cap], .int .i64 4] w fun e w' => e = .returned (.func (.func 67) #[.agg #[.string v, .bool t, .slice a n cap]] #[]) ∧ Below w.heap.size w w' := by
  go_enter Try.func58, Try.ntmps58
  go_wp2
  go_ret
  exact ⟨rfl, by go_grown⟩

set_option maxHeartbeats 1000000 in
theorem Meets_lacks (a : Option Addr) (cap : Nat) (L : List Lab) (key : ByteArray) (b : Option Addr) (cap' : Nat) (V : List ByteArray) (w : World) (hL : Hid (LabsAt w a L)) (hV : Hid (StrsAt w b V))  : Calls Try.prog 45 #[.slice a L.length cap, .agg #[.string key, .int .i64 4, .slice b V.length cap']] w fun e w' => e = .returned (.bool (meetsV (getL L key).1 (getL L key).2 4 V)) ∧ Below w.heap.size w w' := by
  have hb0 : Below w.heap.size w (w.alloc (.cells #[.string key, .int .i64 4, .slice b V.length cap'] 80)) := (Below.refl _ _).alloc (Nat.le_refl _) _
  have q0 := ReqBox.new w key 4 b V.length cap'
  have hg := Get_calls a cap L key _ (show Hid (LabsAt (w.alloc (.cells #[.string key, .int .i64 4, .slice b V.length cap'] 80)) a L) from hL.out.on hb0)
  have hVo : ∀ {u : World}, Below w.heap.size w u → Hid (StrsAt u b V) := fun hb => hV.out.on hb
  generalize getL L key = x at hg
  obtain ⟨x, t⟩ := x
  skip
  clear hL hV
  go_enter Try.func45, Try.ntmps45
  go_wp2_with fail
  refine hg.mono ?_
  rintro e w1 ⟨rfl, hb1⟩
  have hb := on2 hb0 hb1
  obtain ⟨qa, qb, qc, qd⟩ := q0.on hb1
  clear hg hb1 hb0 q0
  go_wp2_with fail
  refine (by_lacks _ _ _ _ _ _).mono ?_
  rintro e w2 ⟨rfl, hb2⟩
  have hbb := on2 hb hb2
  clear hb qa qb qc qd hb2
  go_wp2_with fail
  refine (lacks_calls _ _ _ _ _ _).mono ?_
  rintro e w3 ⟨rfl, hb3⟩
  have hbc := on2 hbb hb3
  clear hbb hb3 hVo
  go_wp2_with fail
  go_ret
  exact ⟨retb (by simp [meetsV]), hbc⟩

set_option maxHeartbeats 1000000 in
theorem by_above (v : ByteArray) (t : Bool) (a : Option Addr) (n cap : Nat) (w : World)  : Calls Try.prog 58 #[.agg #[.string v, .bool t, .slice a n cap], .int .i64 5] w fun e w' => e = .returned (.func (.func 68) #[.agg #[.string v, .bool t, .slice a n cap]] #[]) ∧ Below w.heap.size w w' := by
  go_enter Try.func58, Try.ntmps58
  go_wp2
  go_ret
  exact ⟨rfl, by go_grown⟩

set_option maxHeartbeats 1000000 in
theorem Meets_above (a : Option Addr) (cap : Nat) (L : List Lab) (key : ByteArray) (b : Option Addr) (cap' : Nat) (V : List ByteArray) (w : World) (hL : Hid (LabsAt w a L)) (hV : Hid (StrsAt w b V))  : Calls Try.prog 45 #[.slice a L.length cap, .agg #[.string key, .int .i64 5, .slice b V.length cap']] w fun e w' => e = .returned (.bool (meetsV (getL L key).1 (getL L key).2 5 V)) ∧ Below w.heap.size w w' := by
  have hb0 : Below w.heap.size w (w.alloc (.cells #[.string key, .int .i64 5, .slice b V.length cap'] 80)) := (Below.refl _ _).alloc (Nat.le_refl _) _
  have q0 := ReqBox.new w key 5 b V.length cap'
  have hg := Get_calls a cap L key _ (show Hid (LabsAt (w.alloc (.cells #[.string key, .int .i64 5, .slice b V.length cap'] 80)) a L) from hL.out.on hb0)
  have hVo : ∀ {u : World}, Below w.heap.size w u → Hid (StrsAt u b V) := fun hb => hV.out.on hb
  generalize getL L key = x at hg
  obtain ⟨x, t⟩ := x
  skip
  clear hL hV
  go_enter Try.func45, Try.ntmps45
  go_wp2_with fail
  refine hg.mono ?_
  rintro e w1 ⟨rfl, hb1⟩
  have hb := on2 hb0 hb1
  obtain ⟨qa, qb, qc, qd⟩ := q0.on hb1
  clear hg hb1 hb0 q0
  go_wp2_with fail
  refine (by_above _ _ _ _ _ _).mono ?_
  rintro e w2 ⟨rfl, hb2⟩
  have hbb := on2 hb hb2
  clear hb qa qb qc qd hb2
  go_wp2_with fail
  refine (above_calls _ _ _ _ V _ (hVo hbb)).mono ?_
  rintro e w3 ⟨rfl, hb3⟩
  have hbc := on2 hbb hb3
  clear hbb hb3 hVo
  go_wp2_with fail
  go_ret
  exact ⟨retb (by simp [meetsV]), hbc⟩

set_option maxHeartbeats 1000000 in
theorem by_below (v : ByteArray) (t : Bool) (a : Option Addr) (n cap : Nat) (w : World)  : Calls Try.prog 58 #[.agg #[.string v, .bool t, .slice a n cap], .int .i64 6] w fun e w' => e = .returned (.func (.func 69) #[.agg #[.string v, .bool t, .slice a n cap]] #[]) ∧ Below w.heap.size w w' := by
  go_enter Try.func58, Try.ntmps58
  go_wp2
  go_ret
  exact ⟨rfl, by go_grown⟩

set_option maxHeartbeats 1000000 in
theorem Meets_below (a : Option Addr) (cap : Nat) (L : List Lab) (key : ByteArray) (b : Option Addr) (cap' : Nat) (V : List ByteArray) (w : World) (hL : Hid (LabsAt w a L)) (hV : Hid (StrsAt w b V))  : Calls Try.prog 45 #[.slice a L.length cap, .agg #[.string key, .int .i64 6, .slice b V.length cap']] w fun e w' => e = .returned (.bool (meetsV (getL L key).1 (getL L key).2 6 V)) ∧ Below w.heap.size w w' := by
  have hb0 : Below w.heap.size w (w.alloc (.cells #[.string key, .int .i64 6, .slice b V.length cap'] 80)) := (Below.refl _ _).alloc (Nat.le_refl _) _
  have q0 := ReqBox.new w key 6 b V.length cap'
  have hg := Get_calls a cap L key _ (show Hid (LabsAt (w.alloc (.cells #[.string key, .int .i64 6, .slice b V.length cap'] 80)) a L) from hL.out.on hb0)
  have hVo : ∀ {u : World}, Below w.heap.size w u → Hid (StrsAt u b V) := fun hb => hV.out.on hb
  generalize getL L key = x at hg
  obtain ⟨x, t⟩ := x
  skip
  clear hL hV
  go_enter Try.func45, Try.ntmps45
  go_wp2_with fail
  refine hg.mono ?_
  rintro e w1 ⟨rfl, hb1⟩
  have hb := on2 hb0 hb1
  obtain ⟨qa, qb, qc, qd⟩ := q0.on hb1
  clear hg hb1 hb0 q0
  go_wp2_with fail
  refine (by_below _ _ _ _ _ _).mono ?_
  rintro e w2 ⟨rfl, hb2⟩
  have hbb := on2 hb hb2
  clear hb qa qb qc qd hb2
  go_wp2_with fail
  refine (below_calls _ _ _ _ V _ (hVo hbb)).mono ?_
  rintro e w3 ⟨rfl, hb3⟩
  have hbc := on2 hbb hb3
  clear hbb hb3 hVo
  go_wp2_with fail
  go_ret
  exact ⟨retb (by simp [meetsV]), hbc⟩

set_option maxHeartbeats 1000000 in
theorem by_never (v : ByteArray) (t : Bool) (a : Option Addr) (n cap : Nat) (op : Int) (w : World) (h1 : (op == 1) = false) (h2 : (op == 2) = false) (h3 : (op == 3) = false) (h4 : (op == 4) = false) (h5 : (op == 5) = false) (h6 : (op == 6) = false) : Calls Try.prog 58 #[.agg #[.string v, .bool t, .slice a n cap], .int .i64 op] w fun e w' => e = .returned (.func (.func 70) #[.agg #[.string v, .bool t, .slice a n cap]] #[]) ∧ Below w.heap.size w w' := by
  go_enter Try.func58, Try.ntmps58
  go_wp2
  go_ret
  exact ⟨rfl, by go_grown⟩

set_option maxHeartbeats 1000000 in
theorem Meets_never (a : Option Addr) (cap : Nat) (L : List Lab) (key : ByteArray) (op : Int) (b : Option Addr) (cap' : Nat) (V : List ByteArray) (w : World) (hL : Hid (LabsAt w a L)) (hV : Hid (StrsAt w b V)) (h1 : (op == 1) = false) (h2 : (op == 2) = false) (h3 : (op == 3) = false) (h4 : (op == 4) = false) (h5 : (op == 5) = false) (h6 : (op == 6) = false) : Calls Try.prog 45 #[.slice a L.length cap, .agg #[.string key, .int .i64 op, .slice b V.length cap']] w fun e w' => e = .returned (.bool (meetsV (getL L key).1 (getL L key).2 op V)) ∧ Below w.heap.size w w' := by
  have hb0 : Below w.heap.size w (w.alloc (.cells #[.string key, .int .i64 op, .slice b V.length cap'] 80)) := (Below.refl _ _).alloc (Nat.le_refl _) _
  have q0 := ReqBox.new w key op b V.length cap'
  have hg := Get_calls a cap L key _ (show Hid (LabsAt (w.alloc (.cells #[.string key, .int .i64 op, .slice b V.length cap'] 80)) a L) from hL.out.on hb0)
  have hVo : ∀ {u : World}, Below w.heap.size w u → Hid (StrsAt u b V) := fun hb => hV.out.on hb
  generalize getL L key = x at hg
  obtain ⟨x, t⟩ := x
  have HF : Hid (meetsV x t op V = false) := meetsV_else h1 h2 h3 h4 h5 h6
  clear hL hV
  go_enter Try.func45, Try.ntmps45
  go_wp2_with fail
  refine hg.mono ?_
  rintro e w1 ⟨rfl, hb1⟩
  have hb := on2 hb0 hb1
  obtain ⟨qa, qb, qc, qd⟩ := q0.on hb1
  clear hg hb1 hb0 q0
  go_wp2_with fail
  refine (by_never _ _ _ _ _ op _ h1 h2 h3 h4 h5 h6).mono ?_
  rintro e w2 ⟨rfl, hb2⟩
  have hbb := on2 hb hb2
  clear hb qa qb qc qd hb2
  go_wp2_with fail
  refine (never_calls _ _ _ _ _ _).mono ?_
  rintro e w3 ⟨rfl, hb3⟩
  have hbc := on2 hbb hb3
  clear hbb hb3 hVo
  go_wp2_with fail
  go_ret
  exact ⟨retb HF.out.symm, hbc⟩
end Go.Proofs.Ytpjgffcpjabghaa
namespace Go.Proofs.Ytpjgffcpjabghaa
open Go.RowKit
set_option linter.unusedSimpArgs false

theorem meetsV_above (x : ByteArray) (t : Bool) (V : List ByteArray) : meetsV x t 5 V = (t && numB x && (decide (V.length = 1) && numB (V.getD 0 default)) && decide (numN (V.getD 0 default) < numN x)) := by simp [meetsV]
theorem meetsV_below (x : ByteArray) (t : Bool) (V : List ByteArray) : meetsV x t 6 V = (t && numB x && (decide (V.length = 1) && numB (V.getD 0 default)) && decide (numN x < numN (V.getD 0 default))) := by simp [meetsV]
end Go.Proofs.Ytpjgffcpjabghaa
namespace Go.Proofs.Ytpjgffcpjabghaa
open Go.RowKit
set_option linter.unusedSimpArgs false

theorem Meets_calls (a : Option Addr) (cap : Nat) (L : List Lab) (key : ByteArray) (op : Int) (b : Option Addr) (cap' : Nat) (V : List ByteArray) (w : World) (hL : Hid (LabsAt w a L)) (hV : Hid (StrsAt w b V)) : Calls Try.prog 45 #[.slice a L.length cap, .agg #[.string key, .int .i64 op, .slice b V.length cap']] w fun e w' => e = .returned (.bool (meetsL L ⟨key, op, V⟩)) ∧ Below w.heap.size w w' := by
  rcases op_paths op with rfl | rfl | rfl | rfl | rfl | rfl | ⟨h1, h2, h3, h4, h5, h6⟩
  · exact Meets_in a cap L key b cap' V w hL hV
  · exact Meets_notIn a cap L key b cap' V w hL hV
  · exact Meets_exists a cap L key b cap' V w hL hV
  · exact Meets_lacks a cap L key b cap' V w hL hV
  · exact Meets_above a cap L key b cap' V w hL hV
  · exact Meets_below a cap L key b cap' V w hL hV
  · exact Meets_never a cap L key op b cap' V w hL hV h1 h2 h3 h4 h5 h6

set_option maxHeartbeats 1000000 in
theorem Match_calls (a : Option Addr) (cap : Nat) (L : List Lab) (b : Option Addr) (cap' : Nat) (R : List Ask) (w : World) (hL : Hid (LabsAt w a L)) (hR : Hid (AsksAt w b R)) : Calls Try.prog 36 #[.slice a L.length cap, .slice b R.length cap'] w fun e w' => e = .returned (.bool (matchL L R)) ∧ Below w.heap.size w w' := by
  have hlen := hR.out.1
  go_enter Try.func36, Try.ntmps36
  go_wp2
  go_loopw [9] (fun i wr => ∃ k : Nat, k ≤ R.length ∧ i = .int .i64 k ∧ Below w.heap.size w wr ∧ Hid (∀ j, j < k → meetsL L (R.getD j default) = true)) (fun i _ => R.length - (intOf i).toNat)
  case atStart => exact ⟨0, Nat.zero_le _, rfl, Below.refl _ _, fun j hj => absurd hj (Nat.not_lt_zero _)⟩
  case round =>
    obtain ⟨k, hk, rfl, hbel, hall⟩ := hrel
    by_cases hlt : k < R.length
    · obtain ⟨B, off, rfl, hB, c0, c1, ⟨a', capv, c2, hv⟩, s0⟩ := hR.out.get hlt
      have d0 := (hbel.cell (p := ⟨B, off + k * 3, none⟩) hB).trans c0
      have d1 := (hbel.cell (p := ⟨B, off + k * 3 + 1, none⟩) hB).trans c1
      have d2 := (hbel.cell (p := ⟨B, off + k * 3 + 2, none⟩) hB).trans c2
      have HM : Hid (∀ u, Below wr.heap.size wr u → Calls Try.prog 45 #[.slice a L.length cap, .agg #[.string (R.getD k default).key, .int .i64 (R.getD k default).op, .slice a' (R.getD k default).vals.length capv]] u fun e w' => e = .returned (.bool (meetsL L (R.getD k default))) ∧ Below u.heap.size u w') :=
        fun u hu => Meets_calls a cap L _ _ a' capv _ u (hL.out.on (on2 hbel hu)) (hv.on (on2 hbel hu))
      clear c0 c1 c2 hv
      cases hm : meetsL L (R.getD k default)
      · have HF : Hid (matchL L R = false) := allTo_false hlt hm
        rw [hm] at HM
        clear hm hall
        generalize R.getD k default = r at d0 d1 d2 s0 HM
        go_wp2_with fail
        refine (HM.out _ (by go_grown)).mono ?_
        rintro e w1 ⟨rfl, hb⟩
        have hb' := on2 hbel (on2 (by go_grown) hb)
        clear HM d0 d1 d2
        go_wp2_with fail
        go_ret
        exact ⟨retb HF.out.symm, hb'⟩
      · have HG : Hid (∀ j, j < k + 1 → meetsL L (R.getD j default) = true) := fun j hj => by
          rcases Nat.lt_succ_iff_lt_or_eq.1 hj with h | rfl
          · exact hall.out j h
          · exact hm
        rw [hm] at HM
        clear hm hall
        generalize R.getD k default = r at d0 d1 d2 s0 HM
        go_wp2_with fail
        refine (HM.out _ (by go_grown)).mono ?_
        rintro e w1 ⟨rfl, hb⟩
        have hb' := on2 hbel (on2 (by go_grown) hb)
        clear HM d0 d1 d2
        go_wp2_with fail
        go_roundw
        case rel => exact ⟨k + 1, by omega, by go_num, hb', HG⟩
        case measure => simp [intOf]; omega
    · have HF : Hid (matchL L R = true) := allTo_true (fun j hj => hall.out j (by omega))
      go_wp2
      go_ret
      exact ⟨retb HF.out.symm, hbel⟩

end Go.Proofs.Ytpjgffcpjabghaa
namespace Go.Proofs.Ytpjgffcpjabghaa
open Go.RowKit
set_option linter.unusedSimpArgs false

/-- What is asked of a function that tells taints: it answers p, and leaves all that was there. -/
def PredT (g : Nat) (lb : Array Value) (p : Tnt → Bool) (w : World) : Prop :=
  ∀ (W : World) (x : Tnt), Below w.heap.size w W → Calls Try.prog g (#[.agg #[.string x.1, .string x.2.1, .int .i64 x.2.2]] ++ lb) W fun e w' => e = .returned (.bool (p x)) ∧ Below W.heap.size W w'

/-- What is asked of a function that tells what is borne: it answers p, and leaves all that was there. -/
def PredB (g : Nat) (lb : Array Value) (p : Bear → Bool) (w : World) : Prop :=
  ∀ (W : World) (x : Bear), Below w.heap.size w W → Calls Try.prog g (#[.agg #[.string x.1, .string x.2.1, .bool x.2.2.1, .int .i64 x.2.2.2]] ++ lb) W fun e w' => e = .returned (.bool (p x)) ∧ Below W.heap.size W w'

end Go.Proofs.Ytpjgffcpjabghaa
namespace Go.Proofs.Ytpjgffcpjabghaa
open Go.RowKit
set_option linter.unusedSimpArgs false

theorem guardT : Try.prog.eqGuardType Try.prog.depth 152 = false := by kernel_rfl
theorem guardB : Try.prog.eqGuardType Try.prog.depth 150 = false := by kernel_rfl
theorem eqT (x y : Tnt) (w : World) : Sem.run Try.prog (binOp .eql 152 (.agg #[.string x.1, .string x.2.1, .int .i64 x.2.2]) (.agg #[.string y.1, .string y.2.1, .int .i64 y.2.2])) w = .ok (.bool (tEq x y)) w := by
  have u3 := Try.underlying3
  have a3 := Try.isAgg3
  have z3 := Try.sizeOf3
  have u9 := Try.underlying9
  have a9 := Try.isAgg9
  have z9 := Try.sizeOf9
  have hS : Try.prog.underlying 152 = some (.struct (Try.prog.fieldsOf 152)) := by kernel_rfl
  have hp : Try.prog.stoodInHeld 152 = false := by kernel_rfl
  rw [run_eql_struct, show (10000 : Nat) = 9999 + 1 from rfl, run_equalIn_agg w 9999 152 _ _ hS hp]
  simp only [Program.fieldsOf, Try.underlying152]
  go_simp
  simp only [tEq, sEq]
  by_cases h1 : x.1.toList = y.1.toList <;> by_cases h2 : x.2.1.toList = y.2.1.toList <;> by_cases h3 : x.2.2 = y.2.2 <;> simp [h1, h2, h3]
theorem eqB (x y : Bear) (w : World) : Sem.run Try.prog (binOp .eql 150 (.agg #[.string x.1, .string x.2.1, .bool x.2.2.1, .int .i64 x.2.2.2]) (.agg #[.string y.1, .string y.2.1, .bool y.2.2.1, .int .i64 y.2.2.2])) w = .ok (.bool (bEq x y)) w := by
  have u3 := Try.underlying3
  have a3 := Try.isAgg3
  have z3 := Try.sizeOf3
  have u4 := Try.underlying4
  have a4 := Try.isAgg4
  have z4 := Try.sizeOf4
  have u9 := Try.underlying9
  have a9 := Try.isAgg9
  have z9 := Try.sizeOf9
  have hS : Try.prog.underlying 150 = some (.struct (Try.prog.fieldsOf 150)) := by kernel_rfl
  have hp : Try.prog.stoodInHeld 150 = false := by kernel_rfl
  rw [run_eql_struct, show (10000 : Nat) = 9999 + 1 from rfl, run_equalIn_agg w 9999 150 _ _ hS hp]
  simp only [Program.fieldsOf, Try.underlying150]
  go_simp
  simp only [bEq, sEq]
  by_cases h1 : x.1.toList = y.1.toList <;> by_cases h2 : x.2.1.toList = y.2.1.toList <;> by_cases h3 : x.2.2.1 = y.2.2.1 <;> by_cases h4 : x.2.2.2 = y.2.2.2 <;> simp [h1, h2, h3, h4]

/-- The two boxes hold what came in, and nothing that was there has turned. -/
def BeS (wB : World) (D E : Nat) (bk bv : ByteArray) (ba : Bool) (be : Int) (tk tv : ByteArray) (te : Int) (u : World) : Prop :=
  Below wB.heap.size wB u ∧ u.cell? ⟨D, 0, none⟩ = some (.string bk) ∧ u.cell? ⟨D, 1, none⟩ = some (.string bv) ∧ u.cell? ⟨D, 2, none⟩ = some (.bool ba) ∧ u.cell? ⟨D, 3, none⟩ = some (.int .i64 be) ∧
    u.cell? ⟨E, 0, none⟩ = some (.string tk) ∧ u.cell? ⟨E, 1, none⟩ = some (.string tv) ∧ u.cell? ⟨E, 2, none⟩ = some (.int .i64 te)
theorem BeS.to {wB u' : World} {D E : Nat} {bk bv : ByteArray} {ba : Bool} {be : Int} {tk tv : ByteArray} {te : Int} (h : BeS wB D E bk bv ba be tk tv te wB) (hD : D < wB.heap.size) (hE : E < wB.heap.size) (hb : Below wB.heap.size wB u') : BeS wB D E bk bv ba be tk tv te u' := by
  obtain ⟨_, h1, h2, h3, h4, h5, h6, h7⟩ := h
  exact ⟨hb, (hb.cell hD).trans h1, (hb.cell hD).trans h2, (hb.cell hD).trans h3, (hb.cell hD).trans h4, (hb.cell hE).trans h5, (hb.cell hE).trans h6, (hb.cell hE).trans h7⟩

end Go.Proofs.Ytpjgffcpjabghaa
namespace Go.Proofs.Ytpjgffcpjabghaa
open Go.RowKit

/-- Has one of the list t's key and t's effect? -/
def twinB (L : List Tnt) (t : Tnt) : Bool := L.any fun x => sEq x.1 t.1 && (x.2.2 == t.2.2)
def effB (e : Int) : Bool := (e == 1) || (e == 2)
def taintOk (x : Tnt) : Bool := wordB x.1 && valB x.2.1 && effB x.2.2
def tOk (L : List Tnt) (i : Nat) : Bool := taintOk (L.getD i default) && !twinB (L.take i) (L.getD i default)
def checkT (L : List Tnt) : Int := if 64 < L.length then 3 else if allTo L.length (tOk L) then 0 else 30
def bearOk (b : Bear) : Bool := (b.2.2.2 == 0 || effB b.2.2.2) && (if b.2.2.1 then valB b.1 && sNil b.2.1 else wordB b.1 && valB b.2.1)
def checkBr (L : List Bear) : Int := if 64 < L.length then 3 else if allTo L.length (fun i => bearOk (L.getD i default)) then 0 else 30
theorem reti {a b : Int} (h : a = b) : Ending.returned (.int .i64 a) = .returned (.int .i64 b) := by rw [h]
theorem checkT_long {L : List Tnt} (h : 64 < L.length) : checkT L = 3 := if_pos h
theorem checkT_bad {L : List Tnt} {k : Nat} (h : ¬ 64 < L.length) (hk : k < L.length) (hb : tOk L k = false) : checkT L = 30 := by
  unfold checkT; rw [if_neg h, allTo_false hk hb]; rfl
theorem checkT_ok {L : List Tnt} (h : ¬ 64 < L.length) (hall : ∀ j, j < L.length → tOk L j = true) : checkT L = 0 := by
  unfold checkT; rw [if_neg h, allTo_true hall]; rfl
theorem checkBr_long {L : List Bear} (h : 64 < L.length) : checkBr L = 3 := if_pos h
theorem checkBr_bad {L : List Bear} {k : Nat} (h : ¬ 64 < L.length) (hk : k < L.length) (hb : bearOk (L.getD k default) = false) : checkBr L = 30 := by
  unfold checkBr; rw [if_neg h, allTo_false hk hb]; rfl
theorem checkBr_ok {L : List Bear} (h : ¬ 64 < L.length) (hall : ∀ j, j < L.length → bearOk (L.getD j default) = true) : checkBr L = 0 := by
  unfold checkBr; rw [if_neg h, allTo_true hall]; rfl
theorem getD_take {α : Type} [Inhabited α] (L : List α) (m i : Nat) (h : i < m) (hl : i < L.length) : (L.take m).getD i default = L.getD i default := by
  rw [getE _ _ (by rw [List.length_take]; omega), getE _ _ hl]; simp
end Go.Proofs.Ytpjgffcpjabghaa
namespace Go.Proofs.Ytpjgffcpjabghaa
open Go.RowKit Go.Shelf
set_option linter.unusedSimpArgs false

/-- Block D holds a taint, and may be written. -/
def BoxT (u : World) (D : Nat) (x : Tnt) : Prop :=
  D < u.heap.size ∧ (u.cell? ⟨D, 0, none⟩ = some (.string x.1) ∧ u.cell? ⟨D, 1, none⟩ = some (.string x.2.1) ∧ u.cell? ⟨D, 2, none⟩ = some (.int .i64 x.2.2)) ∧ u.frozen? ⟨D, 0, none⟩ = false ∧ u.frozen? ⟨D, 1, none⟩ = false ∧ u.frozen? ⟨D, 2, none⟩ = false
theorem BoxT.on {u u' : World} {D : Nat} {x : Tnt} (h : BoxT u D x) (hb : Below u.heap.size u u') : BoxT u' D x := by
  obtain ⟨hB, ⟨h0, h1, h2⟩, f0, f1, f2⟩ := h
  exact ⟨Nat.lt_of_lt_of_le hB hb.size, ⟨(hb.cell hB).trans h0, (hb.cell hB).trans h1, (hb.cell hB).trans h2⟩, (hb.frozen hB).trans f0, (hb.frozen hB).trans f1, (hb.frozen hB).trans f2⟩
theorem BoxT.new (u : World) (t : TypeId) (x : Tnt) : BoxT (u.alloc (.cells #[.string x.1, .string x.2.1, .int .i64 x.2.2] t)) u.heap.size x :=
  ⟨by simp, ⟨by simp [go_sem], by simp [go_sem], by simp [go_sem]⟩, by simp [go_sem], by simp [go_sem], by simp [go_sem]⟩

theorem twin_eq (x t : Tnt) : tEq (x.1, t.2.1, x.2.2) t = (sEq x.1 t.1 && (x.2.2 == t.2.2)) := by simp [tEq, sEq_self]
end Go.Proofs.Ytpjgffcpjabghaa
namespace Go.Proofs.Ytpjgffcpjabghaa
open Go.RowKit
set_option linter.unusedSimpArgs false

theorem ret_tb {x y : Tnt} {b c : Bool} (h : x = y ∧ b = c) : Ending.returned (.tuple #[.agg #[.string x.1, .string x.2.1, .int .i64 x.2.2], .bool b]) = .returned (.tuple #[.agg #[.string y.1, .string y.2.1, .int .i64 y.2.2], .bool c]) := by rw [h.1, h.2]
theorem keptT_no {L : List Tnt} {B : List Bear} (h : ∀ j, j < L.length → openT 1 B (L.getD j default) = false) : keptT L B = (default, false) := by
  unfold keptT; rw [find_no h]
theorem keptT_yes {L : List Tnt} {B : List Bear} {k : Nat} (hk : k < L.length) (h : ∀ j, j < k → openT 1 B (L.getD j default) = false) (hy : openT 1 B (L.getD k default) = true) : keptT L B = (L.getD k default, true) := by
  unfold keptT; rw [find_yes hk h hy]
theorem wrap_nat {n : Nat} (h : n ≤ 140737488355328) : IntKind.i64.wrap ((n : Int) + 1) = ((n + 1 : Nat) : Int) := by simp [IntKind.wrap, IntKind.bits, IntKind.signed]; omega

end Go.Proofs.Ytpjgffcpjabghaa
namespace Go.Proofs.Ytpjgffcpjabghaa
open Go.RowKit
set_option linter.unusedSimpArgs false

theorem rb_paths (z q x n ba y r : Bool) (h : r = ((z || q) && (x || (n && ba)) && (ba || y))) :
    (z = false ∧ q = false ∧ r = false) ∨
    ((z = true ∨ (z = false ∧ q = true)) ∧ ((x = false ∧ n = false ∧ r = false) ∨ (x = false ∧ n = true ∧ ba = false ∧ r = false) ∨ (x = false ∧ n = true ∧ ba = true ∧ r = true) ∨ (x = true ∧ ba = true ∧ r = true) ∨ (x = true ∧ ba = false ∧ r = y))) := by
  subst h
  cases z <;> cases q <;> cases x <;> cases n <;> cases ba <;> simp

end Go.Proofs.Ytpjgffcpjabghaa
namespace Go.Proofs.Ytpjgffcpjabghaa
open Go.RowKit
set_option linter.unusedSimpArgs false

/-- What is borne lies in the row's place, the taint in its box; nothing that was there has turned. -/
def RbS (wB : World) (D E off k : Nat) (b : Bear) (t : Tnt) (u : World) : Prop :=
  Below wB.heap.size wB u ∧ u.cell? ⟨D, off + k * 4, none⟩ = some (.string b.1) ∧ u.cell? ⟨D, off + k * 4 + 1, none⟩ = some (.string b.2.1) ∧ u.cell? ⟨D, off + k * 4 + 2, none⟩ = some (.bool b.2.2.1) ∧ u.cell? ⟨D, off + k * 4 + 3, none⟩ = some (.int .i64 b.2.2.2) ∧
    u.cell? ⟨E, 0, none⟩ = some (.string t.1) ∧ u.cell? ⟨E, 1, none⟩ = some (.string t.2.1) ∧ u.cell? ⟨E, 2, none⟩ = some (.int .i64 t.2.2)
theorem RbS.to {wB u' : World} {D E off k : Nat} {b : Bear} {t : Tnt} (h : RbS wB D E off k b t wB) (hD : D < wB.heap.size) (hE : E < wB.heap.size) (hb : Below wB.heap.size wB u') : RbS wB D E off k b t u' := by
  obtain ⟨_, h1, h2, h3, h4, h5, h6, h7⟩ := h
  exact ⟨hb, (hb.cell hD).trans h1, (hb.cell hD).trans h2, (hb.cell hD).trans h3, (hb.cell hD).trans h4, (hb.cell hE).trans h5, (hb.cell hE).trans h6, (hb.cell hE).trans h7⟩

end Go.Proofs.Ytpjgffcpjabghaa
namespace Go.Proofs.Ytpjgffcpjabghaa
open Go.RowKit
set_option linter.unusedSimpArgs false
set_option maxRecDepth 100000

theorem strs_of {A : Where} {w : World} {a : Option Addr} {n cap : Nat} {L : List ByteArray} (h : SlAt RStr 1 16 A w a n cap L) : StrsAt w a L := by
  have hl := h.len (by decide)
  obtain ⟨hn, h2, h3, h4, h5⟩ := h
  refine ⟨by omega, fun x hx => ?_, fun hne => ?_⟩
  · obtain ⟨i, hi, rfl⟩ := List.mem_iff_getElem.1 hx
    obtain ⟨B, off, _, _, _, hc⟩ := h5 (by omega)
    obtain ⟨cs, hr, _⟩ := hc i (by omega)
    have := hr.2
    rwa [getE _ _ hi] at this
  · have hpos : 0 < n := by have := List.length_pos_iff.2 hne; omega
    obtain ⟨B, off, e, hB, _, hc⟩ := h5 hpos
    refine ⟨B, off, e, hB, fun i hi => ?_⟩
    obtain ⟨cs, ⟨rfl, _⟩, hv⟩ := hc i (by omega)
    have := hv 0 _ rfl
    simpa using this
theorem labs_of {A : Where} {w : World} {a : Option Addr} {n cap : Nat} {L : List Lab} (h : SlAt RLabel 2 32 A w a n cap L) : LabsAt w a L := by
  have hl := h.len (by decide)
  obtain ⟨hn, h2, h3, h4, h5⟩ := h
  refine ⟨by omega, fun x hx => ?_, fun hne => ?_⟩
  · obtain ⟨i, hi, rfl⟩ := List.mem_iff_getElem.1 hx
    obtain ⟨B, off, _, _, _, hc⟩ := h5 (by omega)
    obtain ⟨cs, hr, _⟩ := hc i (by omega)
    have := hr.out.2
    rwa [getE _ _ hi] at this
  · have hpos : 0 < n := by have := List.length_pos_iff.2 hne; omega
    obtain ⟨B, off, e, hB, _, hc⟩ := h5 hpos
    refine ⟨B, off, e, hB, fun i hi => ?_⟩
    obtain ⟨cs, hr, hv⟩ := hc i (by omega)
    obtain ⟨rfl, _⟩ := hr.out
    exact ⟨hv 0 _ rfl, hv 1 _ rfl⟩
theorem asks_of {A : Where} {w : World} {a : Option Addr} {n cap : Nat} {L : List Ask} (h : SlAt RReq 3 48 A w a n cap L) : AsksAt w a L := by
  have hl := h.len (by decide)
  obtain ⟨hn, h2, h3, h4, h5⟩ := h
  refine ⟨by omega, fun x hx => ?_, fun hne => ?_⟩
  · obtain ⟨i, hi, rfl⟩ := List.mem_iff_getElem.1 hx
    obtain ⟨B, off, _, _, _, hc⟩ := h5 (by omega)
    obtain ⟨cs, hr, _⟩ := hc i (by omega)
    obtain ⟨_, _, this, _⟩ := hr.out
    rwa [getE _ _ hi] at this
  · have hpos : 0 < n := by have := List.length_pos_iff.2 hne; omega
    obtain ⟨B, off, e, hB, _, hc⟩ := h5 hpos
    refine ⟨B, off, e, hB, fun i hi => ?_⟩
    obtain ⟨cs, hr, hv⟩ := hc i (by omega)
    obtain ⟨hd, rfl, _, hs⟩ := hr.out
    refine ⟨hv 0 _ rfl, hv 1 _ rfl, hd.1, hd.2.2, ?_, strs_of hs⟩
    have := hv 2 _ rfl
    rw [← hs.1] at this
    exact this
theorem Match_sl (a : Option Addr) (n cap : Nat) (A : Where) (L : List Lab) (b : Option Addr) (m capb : Nat) (A' : Where) (R : List Ask) (w : World) (hL : Hid (SlAt RLabel 2 32 A w a n cap L)) (hR : Hid (SlAt RReq 3 48 A' w b m capb R)) : Calls Try.prog 36 #[.slice a n cap, .slice b m capb] w fun e w' => e = .returned (.bool (matchL L R)) ∧ Below w.heap.size w w' := by
  have h := Match_calls a cap L b capb R w (labs_of hL.out) (asks_of hR.out)
  rw [hL.out.1, hR.out.1] at h
  exact h
end Go.Proofs.Ytpjgffcpjabghaa
namespace Go.Proofs.Ytpjgffcpjabghaa
open Go.RowKit Go.Maps
set_option linter.unusedSimpArgs false
set_option maxRecDepth 100000

end Go.Proofs.Ytpjgffcpjabghaa
namespace Go.Proofs.Ytpjgffcpjabghaa
open Go.RowKit Go.Maps
set_option linter.unusedSimpArgs false
set_option maxRecDepth 100000

def firstI (P : List PodD) (v : ByteArray) : Int := if (podOf P v).isSome = true then ((P.findIdx fun p => sEq p.1 v : Nat) : Int) else -1
theorem first_at {P : List PodD} {v : ByteArray} {k : Nat} (hk : k < P.length) (h : sEq (P.getD k default).1 v = true) (hn : ∀ j, j < k → sEq (P.getD j default).1 v = false) : firstI P v = (k : Int) ∧ podOf P v = some (P.getD k default) := by
  have hg : ∀ i (hi : i < P.length), P.getD i default = P[i] := fun i hi => by rw [List.getD_eq_getElem?_getD, List.getElem?_eq_getElem hi]; rfl
  have e : P.findIdx (fun p => sEq p.1 v) = k := by
    rw [List.findIdx_eq hk]
    refine ⟨by rw [← hg k hk]; exact h, fun j hj => ?_⟩
    have := hn j hj
    rw [hg j (by omega)] at this; simpa using this
  have e2 : podOf P v = some (P.getD k default) := by
    unfold podOf
    rw [List.find?_eq_some_iff_getElem]
    refine ⟨h, k, hk, (hg k hk).symm, fun j hj => ?_⟩
    have := hn j hj
    rw [hg j (by omega)] at this; simpa using this
  exact ⟨by unfold firstI; rw [e2, e]; rfl, e2⟩
theorem first_none {P : List PodD} {v : ByteArray} (hn : ∀ j, j < P.length → sEq (P.getD j default).1 v = false) : firstI P v = -1 ∧ podOf P v = none := by
  have e2 : podOf P v = none := by
    unfold podOf
    rw [List.find?_eq_none]
    intro p hp
    obtain ⟨i, hi, rfl⟩ := List.mem_iff_getElem.1 hp
    have := hn i hi
    rw [List.getD_eq_getElem?_getD, List.getElem?_eq_getElem hi] at this
    simpa using this
  exact ⟨by unfold firstI; rw [e2]; rfl, e2⟩
end Go.Proofs.Ytpjgffcpjabghaa
namespace Go.Proofs.Ytpjgffcpjabghaa
open Go.RowKit
set_option linter.unusedSimpArgs false

section
variable {P : Program} {md : Region.Mode} {ops : Array Oper} {Q : Exit → Act → World → Prop} {S : World → Prop} {oi : Oper} {d fuel : Nat} {listed : Array Bool} {a : Act} {w : World}
/-- Operation i is taken first; whether it runs is said by hy. -/
theorem tq (i : Nat) (v : Value) (hy : YieldsIf P ops S oi v a) (h : wpAnyH P md ops (NoPanic Q) S fuel (listed.setIfInBounds i true) (a.put (some d) v) w)
    (hi : ops[i]? = some oi := by rfl) (hd : oi.dst = some d := by rfl) (hb : (Region.noSelect ops && (Region.free md ops listed i && (Region.ready md ops listed).contains i)) = true := by kernel_rfl) (hS : S w := by assumption) : wpAnyH P md ops (NoPanic Q) S (fuel + 1) listed a w :=
  wpAnyH_take hi (Bool.and_eq_true _ _ ▸ hb).1 (Bool.and_eq_true _ _ ▸ (Bool.and_eq_true _ _ ▸ hb).2).1 (Bool.and_eq_true _ _ ▸ (Bool.and_eq_true _ _ ▸ hb).2).2 (fun _ _ _ h => h) hy hS (hd ▸ h)
/-- Operation i is taken first; it runs. -/
theorem tk (i : Nat) {v : Value} (hy : ∀ u, S u → (execOp a.eval oi).run P u = .ok (.value v) u) (h : wpAnyH P md ops (NoPanic Q) S fuel (listed.setIfInBounds i true) (a.put (some d) v) w)
    (hi : ops[i]? = some oi := by rfl) (hd : oi.dst = some d := by rfl) (hb : (Region.noSelect ops && (Region.free md ops listed i && (Region.ready md ops listed).contains i)) = true := by kernel_rfl) (hw : Region.wanted oi (yielded ops a.tmps) = true := by rfl) (hS : S w := by assumption) : wpAnyH P md ops (NoPanic Q) S (fuel + 1) listed a w :=
  tq i v (.inl ⟨hw, hy⟩) h hi hd hb hS
/-- Operation i is taken first; its guard says no. -/
theorem tn (i : Nat) (h : wpAnyH P md ops (NoPanic Q) S fuel (listed.setIfInBounds i true) (a.put (some d) undef) w)
    (hi : ops[i]? = some oi := by rfl) (hd : oi.dst = some d := by rfl) (hb : (Region.noSelect ops && (Region.free md ops listed i && (Region.ready md ops listed).contains i)) = true := by kernel_rfl) (hw : Region.wanted oi (yielded ops a.tmps) = false := by rfl) (hS : S w := by assumption) : wpAnyH P md ops (NoPanic Q) S (fuel + 1) listed a w :=
  tq i undef (.inr ⟨hw, rfl⟩) h hi hd hb hS
/-- Operation i is taken first; it runs, whatever the world. -/
theorem tp (i : Nat) {v : Value} (h : wpAnyH P md ops (NoPanic Q) S fuel (listed.setIfInBounds i true) (a.put (some d) v) w)
    (hi : ops[i]? = some oi := by rfl) (hd : oi.dst = some d := by rfl) (hb : (Region.noSelect ops && (Region.free md ops listed i && (Region.ready md ops listed).contains i)) = true := by kernel_rfl) (hw : Region.wanted oi (yielded ops a.tmps) = true := by rfl)
    (hy : ∀ u, (execOp a.eval oi).run P u = .ok (.value v) u := by intro u; go_simp; try with_reducible rfl) (hS : S w := by assumption) : wpAnyH P md ops (NoPanic Q) S (fuel + 1) listed a w :=
  tk i (fun u _ => hy u) h hi hd hb hw hS
/-- Operation i alone may come up; it writes slot d. -/
theorem tr (i : Nat) (h : ∀ K' : Act → World → Prop, Shut (∀ v w, S w → (S w → wpAnyH P md ops Q S fuel (listed.setIfInBounds i true) (a.put (some d) v) w) → K' (a.put oi.dst v) w) → if Region.wanted oi (yielded ops a.tmps) = true then Oper.wp P oi a w K' Q else K' (a.put oi.dst undef) w)
    (hi : ops[i]? = some oi := by rfl) (hd : oi.dst = some d := by rfl) (hr : Region.ready md ops listed = [i] := by kernel_rfl) : wpAnyH P md ops Q S (fuel + 1) listed a w :=
  wpAnyH_ready hr (by simp) (AllReadyH.cons hi (fun K' hK => h K' (fun v w h1 h2 => hK.out _ w h1 (fun h3 => hd ▸ h2 h3))) AllReadyH.nil)
/-- Operation i alone may come up; it writes no slot. -/
theorem ts (i : Nat) (h : ∀ K' : Act → World → Prop, Shut (∀ v w, S w → (S w → wpAnyH P md ops Q S fuel (listed.setIfInBounds i true) a w) → K' (a.put oi.dst v) w) → if Region.wanted oi (yielded ops a.tmps) = true then Oper.wp P oi a w K' Q else K' (a.put oi.dst undef) w)
    (hi : ops[i]? = some oi := by rfl) (hd : oi.dst = none := by rfl) (hr : Region.ready md ops listed = [i] := by kernel_rfl) : wpAnyH P md ops Q S (fuel + 1) listed a w :=
  wpAnyH_ready hr (by simp) (AllReadyH.cons hi (fun K' hK => h K' (fun v w h1 h2 => hK.out _ w h1 (fun h3 => by rw [hd]; exact h2 h3))) AllReadyH.nil)
/-- The end of a region. -/
theorem tz (h : Q .normal a w) (hr : Region.ready md ops listed = [] := by kernel_rfl) : wpAnyH P md ops (NoPanic Q) S fuel listed a w := wpAnyH_done hr (NoPanic.normal h) _
/-- Its beginning. -/
theorem t0 {id : Nat} (S : World → Prop) (hS : S w.drew) (h : S w.drew → wpAnyH P .any ops (NoPanic Q) S ops.size (Array.replicate ops.size false) a w.drew) (hm : P.follows .mixedOrders = true := by kernel_rfl) : (Code.region id ops true).wp P Q a w :=
  wp_region_noPanic (wp_region_held_drew hm hS h)
end
end Go.Proofs.Ytpjgffcpjabghaa
