/- label.Meets, Match and the document's own return what the plain functions say; they change nothing that was there. Condition: the slices hold what is said of them. -/
import Derived.Test.YtpehmobedcflnaaLAbove
namespace Go.Proofs.Ytpehmobedcflnaa
open Go.RowKit
set_option linter.unusedSimpArgs false

/-- The paths of an Op. -/
theorem op_paths (op : Int) : op = 1 ∨ op = 2 ∨ op = 3 ∨ op = 4 ∨ op = 5 ∨ op = 6 ∨ ((op == 1) = false ∧ (op == 2) = false ∧ (op == 3) = false ∧ (op == 4) = false ∧ (op == 5) = false ∧ (op == 6) = false) := by
  simp only [beq_eq_false_iff_ne, ne_eq]
  omega
theorem meetsV_else {v : ByteArray} {t : Bool} {op : Int} {V : List ByteArray} (h1 : (op == 1) = false) (h2 : (op == 2) = false) (h3 : (op == 3) = false) (h4 : (op == 4) = false) (h5 : (op == 5) = false) (h6 : (op == 6) = false) : meetsV v t op V = false := by
  simp only [beq_eq_false_iff_ne, ne_eq] at h1 h2 h3 h4 h5 h6
  simp [meetsV, h1, h2, h3, h4, h5, h6]

/-- What is asked lies in the box D. -/
def ReqBox (D : Nat) (key : ByteArray) (op : Int) (a : Option Addr) (n cap : Nat) (u : World) : Prop := D < u.heap.size ∧ u.cell? ⟨D, 0, none⟩ = some (.string key) ∧ u.cell? ⟨D, 1, none⟩ = some (.int .i64 op) ∧ u.cell? ⟨D, 2, none⟩ = some (.slice a n cap)
theorem ReqBox.on {D : Nat} {key : ByteArray} {op : Int} {a : Option Addr} {n cap : Nat} {u u' : World} (h : ReqBox D key op a n cap u) (hb : Below u.heap.size u u') : ReqBox D key op a n cap u' :=
  ⟨Nat.lt_of_lt_of_le h.1 hb.size, (hb.cell h.1).trans h.2.1, (hb.cell h.1).trans h.2.2.1, (hb.cell h.1).trans h.2.2.2⟩
theorem ReqBox.new (w : World) (key : ByteArray) (op : Int) (a : Option Addr) (n cap : Nat) : ReqBox w.heap.size key op a n cap (w.alloc (.cells #[.string key, .int .i64 op, .slice a n cap] 41)) :=
  ⟨by simp, by simp [go_sem], by simp [go_sem], by simp [go_sem]⟩

set_option maxHeartbeats 1000000 in
theorem by_in (v : ByteArray) (t : Bool) (a : Option Addr) (n cap : Nat) (w : World)  : Calls Try.prog 37 #[.agg #[.string v, .bool t, .slice a n cap], .int .i64 1] w fun e w' => e = .returned (.func (.func 45) #[.agg #[.string v, .bool t, .slice a n cap]] #[]) ∧ Below w.heap.size w w' := by
  go_enter Try.func37, Try.ntmps37
  go_wp2
  go_ret
  exact ⟨rfl, by go_grown⟩

set_option maxHeartbeats 1000000 in
theorem Meets_in (a : Option Addr) (cap : Nat) (L : List Lab) (key : ByteArray) (b : Option Addr) (cap' : Nat) (V : List ByteArray) (w : World) (hL : Hid (LabsAt w a L)) (hV : Hid (StrsAt w b V))  : Calls Try.prog 26 #[.slice a L.length cap, .agg #[.string key, .int .i64 1, .slice b V.length cap']] w fun e w' => e = .returned (.bool (meetsV (getL L key).1 (getL L key).2 1 V)) ∧ Below w.heap.size w w' := by
  have hb0 : Below w.heap.size w (w.alloc (.cells #[.string key, .int .i64 1, .slice b V.length cap'] 41)) := (Below.refl _ _).alloc (Nat.le_refl _) _
  have q0 := ReqBox.new w key 1 b V.length cap'
  have hg := Get_calls a cap L key _ (show Hid (LabsAt (w.alloc (.cells #[.string key, .int .i64 1, .slice b V.length cap'] 41)) a L) from hL.out.on hb0)
  have hVo : ∀ {u : World}, Below w.heap.size w u → Hid (StrsAt u b V) := fun hb => hV.out.on hb
  generalize getL L key = x at hg
  obtain ⟨x, t⟩ := x
  skip
  clear hL hV
  go_enter Try.func26, Try.ntmps26
  go_wp2_with fail
  refine hg.mono ?_
  rintro e w1 ⟨rfl, hb1⟩
  have hb := on2 hb0 hb1
  obtain ⟨qa, qb, qc, qd⟩ := q0.on hb1
  clear hg hb1 hb0 q0
  go_wp2_with fail
  refine (by_in _ _ _ _ _ _).mono ?_
  rintro e w2 ⟨rfl, hb2⟩
  have hbb := on2 hb hb2
  clear hb qa qb qc qd hb2
  go_wp2_with fail
  refine (in_calls _ _ _ _ V _ (hVo hbb)).mono ?_
  rintro e w3 ⟨rfl, hb3⟩
  have hbc := on2 hbb hb3
  clear hbb hb3 hVo
  go_wp2_with fail
  go_ret
  exact ⟨retb (by simp [meetsV]), hbc⟩

set_option maxHeartbeats 1000000 in
theorem by_notIn (v : ByteArray) (t : Bool) (a : Option Addr) (n cap : Nat) (w : World)  : Calls Try.prog 37 #[.agg #[.string v, .bool t, .slice a n cap], .int .i64 2] w fun e w' => e = .returned (.func (.func 46) #[.agg #[.string v, .bool t, .slice a n cap]] #[]) ∧ Below w.heap.size w w' := by
  go_enter Try.func37, Try.ntmps37
  go_wp2
  go_ret
  exact ⟨rfl, by go_grown⟩

set_option maxHeartbeats 1000000 in
theorem Meets_notIn (a : Option Addr) (cap : Nat) (L : List Lab) (key : ByteArray) (b : Option Addr) (cap' : Nat) (V : List ByteArray) (w : World) (hL : Hid (LabsAt w a L)) (hV : Hid (StrsAt w b V))  : Calls Try.prog 26 #[.slice a L.length cap, .agg #[.string key, .int .i64 2, .slice b V.length cap']] w fun e w' => e = .returned (.bool (meetsV (getL L key).1 (getL L key).2 2 V)) ∧ Below w.heap.size w w' := by
  have hb0 : Below w.heap.size w (w.alloc (.cells #[.string key, .int .i64 2, .slice b V.length cap'] 41)) := (Below.refl _ _).alloc (Nat.le_refl _) _
  have q0 := ReqBox.new w key 2 b V.length cap'
  have hg := Get_calls a cap L key _ (show Hid (LabsAt (w.alloc (.cells #[.string key, .int .i64 2, .slice b V.length cap'] 41)) a L) from hL.out.on hb0)
  have hVo : ∀ {u : World}, Below w.heap.size w u → Hid (StrsAt u b V) := fun hb => hV.out.on hb
  generalize getL L key = x at hg
  obtain ⟨x, t⟩ := x
  skip
  clear hL hV
  go_enter Try.func26, Try.ntmps26
  go_wp2_with fail
  refine hg.mono ?_
  rintro e w1 ⟨rfl, hb1⟩
  have hb := on2 hb0 hb1
  obtain ⟨qa, qb, qc, qd⟩ := q0.on hb1
  clear hg hb1 hb0 q0
  go_wp2_with fail
  refine (by_notIn _ _ _ _ _ _).mono ?_
  rintro e w2 ⟨rfl, hb2⟩
  have hbb := on2 hb hb2
  clear hb qa qb qc qd hb2
  go_wp2_with fail
  refine (notIn_calls _ _ _ _ V _ (hVo hbb)).mono ?_
  rintro e w3 ⟨rfl, hb3⟩
  have hbc := on2 hbb hb3
  clear hbb hb3 hVo
  go_wp2_with fail
  go_ret
  exact ⟨retb (by simp [meetsV]), hbc⟩

set_option maxHeartbeats 1000000 in
theorem by_exists (v : ByteArray) (t : Bool) (a : Option Addr) (n cap : Nat) (w : World)  : Calls Try.prog 37 #[.agg #[.string v, .bool t, .slice a n cap], .int .i64 3] w fun e w' => e = .returned (.func (.func 47) #[.agg #[.string v, .bool t, .slice a n cap]] #[]) ∧ Below w.heap.size w w' := by
  go_enter Try.func37, Try.ntmps37
  go_wp2
  go_ret
  exact ⟨rfl, by go_grown⟩

set_option maxHeartbeats 1000000 in
theorem Meets_exists (a : Option Addr) (cap : Nat) (L : List Lab) (key : ByteArray) (b : Option Addr) (cap' : Nat) (V : List ByteArray) (w : World) (hL : Hid (LabsAt w a L)) (hV : Hid (StrsAt w b V))  : Calls Try.prog 26 #[.slice a L.length cap, .agg #[.string key, .int .i64 3, .slice b V.length cap']] w fun e w' => e = .returned (.bool (meetsV (getL L key).1 (getL L key).2 3 V)) ∧ Below w.heap.size w w' := by
  have hb0 : Below w.heap.size w (w.alloc (.cells #[.string key, .int .i64 3, .slice b V.length cap'] 41)) := (Below.refl _ _).alloc (Nat.le_refl _) _
  have q0 := ReqBox.new w key 3 b V.length cap'
  have hg := Get_calls a cap L key _ (show Hid (LabsAt (w.alloc (.cells #[.string key, .int .i64 3, .slice b V.length cap'] 41)) a L) from hL.out.on hb0)
  have hVo : ∀ {u : World}, Below w.heap.size w u → Hid (StrsAt u b V) := fun hb => hV.out.on hb
  generalize getL L key = x at hg
  obtain ⟨x, t⟩ := x
  skip
  clear hL hV
  go_enter Try.func26, Try.ntmps26
  go_wp2_with fail
  refine hg.mono ?_
  rintro e w1 ⟨rfl, hb1⟩
  have hb := on2 hb0 hb1
  obtain ⟨qa, qb, qc, qd⟩ := q0.on hb1
  clear hg hb1 hb0 q0
  go_wp2_with fail
  refine (by_exists _ _ _ _ _ _).mono ?_
  rintro e w2 ⟨rfl, hb2⟩
  have hbb := on2 hb hb2
  clear hb qa qb qc qd hb2
  go_wp2_with fail
  refine (exists_calls _ _ _ _ _ _).mono ?_
  rintro e w3 ⟨rfl, hb3⟩
  have hbc := on2 hbb hb3
  clear hbb hb3 hVo
  go_wp2_with fail
  go_ret
  exact ⟨retb (by simp [meetsV]), hbc⟩

set_option maxHeartbeats 1000000 in
theorem by_lacks (v : ByteArray) (t : Bool) (a : Option Addr) (n cap : Nat) (w : World)  : Calls Try.prog 37 #[.agg #[.string v, .bool t, .slice a n cap], .int .i64 4] w fun e w' => e = .returned (.func (.func 48) #[.agg #[.string v, .bool t, .slice a n cap]] #[]) ∧ Below w.heap.size w w' := by
  go_enter Try.func37, Try.ntmps37
  go_wp2
  go_ret
  exact ⟨rfl, by go_grown⟩

set_option maxHeartbeats 1000000 in
theorem Meets_lacks (a : Option Addr) (cap : Nat) (L : List Lab) (key : ByteArray) (b : Option Addr) (cap' : Nat) (V : List ByteArray) (w : World) (hL : Hid (LabsAt w a L)) (hV : Hid (StrsAt w b V))  : Calls Try.prog 26 #[.slice a L.length cap, .agg #[.string key, .int .i64 4, .slice b V.length cap']] w fun e w' => e = .returned (.bool (meetsV (getL L key).1 (getL L key).2 4 V)) ∧ Below w.heap.size w w' := by
  have hb0 : Below w.heap.size w (w.alloc (.cells #[.string key, .int .i64 4, .slice b V.length cap'] 41)) := (Below.refl _ _).alloc (Nat.le_refl _) _
  have q0 := ReqBox.new w key 4 b V.length cap'
  have hg := Get_calls a cap L key _ (show Hid (LabsAt (w.alloc (.cells #[.string key, .int .i64 4, .slice b V.length cap'] 41)) a L) from hL.out.on hb0)
  have hVo : ∀ {u : World}, Below w.heap.size w u → Hid (StrsAt u b V) := fun hb => hV.out.on hb
  generalize getL L key = x at hg
  obtain ⟨x, t⟩ := x
  skip
  clear hL hV
  go_enter Try.func26, Try.ntmps26
  go_wp2_with fail
  refine hg.mono ?_
  rintro e w1 ⟨rfl, hb1⟩
  have hb := on2 hb0 hb1
  obtain ⟨qa, qb, qc, qd⟩ := q0.on hb1
  clear hg hb1 hb0 q0
  go_wp2_with fail
  refine (by_lacks _ _ _ _ _ _).mono ?_
  rintro e w2 ⟨rfl, hb2⟩
  have hbb := on2 hb hb2
  clear hb qa qb qc qd hb2
  go_wp2_with fail
  refine (lacks_calls _ _ _ _ _ _).mono ?_
  rintro e w3 ⟨rfl, hb3⟩
  have hbc := on2 hbb hb3
  clear hbb hb3 hVo
  go_wp2_with fail
  go_ret
  exact ⟨retb (by simp [meetsV]), hbc⟩

set_option maxHeartbeats 1000000 in
theorem by_above (v : ByteArray) (t : Bool) (a : Option Addr) (n cap : Nat) (w : World)  : Calls Try.prog 37 #[.agg #[.string v, .bool t, .slice a n cap], .int .i64 5] w fun e w' => e = .returned (.func (.func 49) #[.agg #[.string v, .bool t, .slice a n cap]] #[]) ∧ Below w.heap.size w w' := by
  go_enter Try.func37, Try.ntmps37
  go_wp2
  go_ret
  exact ⟨rfl, by go_grown⟩

set_option maxHeartbeats 1000000 in
theorem Meets_above (a : Option Addr) (cap : Nat) (L : List Lab) (key : ByteArray) (b : Option Addr) (cap' : Nat) (V : List ByteArray) (w : World) (hL : Hid (LabsAt w a L)) (hV : Hid (StrsAt w b V))  : Calls Try.prog 26 #[.slice a L.length cap, .agg #[.string key, .int .i64 5, .slice b V.length cap']] w fun e w' => e = .returned (.bool (meetsV (getL L key).1 (getL L key).2 5 V)) ∧ Below w.heap.size w w' := by
  have hb0 : Below w.heap.size w (w.alloc (.cells #[.string key, .int .i64 5, .slice b V.length cap'] 41)) := (Below.refl _ _).alloc (Nat.le_refl _) _
  have q0 := ReqBox.new w key 5 b V.length cap'
  have hg := Get_calls a cap L key _ (show Hid (LabsAt (w.alloc (.cells #[.string key, .int .i64 5, .slice b V.length cap'] 41)) a L) from hL.out.on hb0)
  have hVo : ∀ {u : World}, Below w.heap.size w u → Hid (StrsAt u b V) := fun hb => hV.out.on hb
  generalize getL L key = x at hg
  obtain ⟨x, t⟩ := x
  skip
  clear hL hV
  go_enter Try.func26, Try.ntmps26
  go_wp2_with fail
  refine hg.mono ?_
  rintro e w1 ⟨rfl, hb1⟩
  have hb := on2 hb0 hb1
  obtain ⟨qa, qb, qc, qd⟩ := q0.on hb1
  clear hg hb1 hb0 q0
  go_wp2_with fail
  refine (by_above _ _ _ _ _ _).mono ?_
  rintro e w2 ⟨rfl, hb2⟩
  have hbb := on2 hb hb2
  clear hb qa qb qc qd hb2
  go_wp2_with fail
  refine (above_calls _ _ _ _ V _ (hVo hbb)).mono ?_
  rintro e w3 ⟨rfl, hb3⟩
  have hbc := on2 hbb hb3
  clear hbb hb3 hVo
  go_wp2_with fail
  go_ret
  exact ⟨retb (by simp [meetsV]), hbc⟩

set_option maxHeartbeats 1000000 in
theorem by_below (v : ByteArray) (t : Bool) (a : Option Addr) (n cap : Nat) (w : World)  : Calls Try.prog 37 #[.agg #[.string v, .bool t, .slice a n cap], .int .i64 6] w fun e w' => e = .returned (.func (.func 50) #[.agg #[.string v, .bool t, .slice a n cap]] #[]) ∧ Below w.heap.size w w' := by
  go_enter Try.func37, Try.ntmps37
  go_wp2
  go_ret
  exact ⟨rfl, by go_grown⟩

set_option maxHeartbeats 1000000 in
theorem Meets_below (a : Option Addr) (cap : Nat) (L : List Lab) (key : ByteArray) (b : Option Addr) (cap' : Nat) (V : List ByteArray) (w : World) (hL : Hid (LabsAt w a L)) (hV : Hid (StrsAt w b V))  : Calls Try.prog 26 #[.slice a L.length cap, .agg #[.string key, .int .i64 6, .slice b V.length cap']] w fun e w' => e = .returned (.bool (meetsV (getL L key).1 (getL L key).2 6 V)) ∧ Below w.heap.size w w' := by
  have hb0 : Below w.heap.size w (w.alloc (.cells #[.string key, .int .i64 6, .slice b V.length cap'] 41)) := (Below.refl _ _).alloc (Nat.le_refl _) _
  have q0 := ReqBox.new w key 6 b V.length cap'
  have hg := Get_calls a cap L key _ (show Hid (LabsAt (w.alloc (.cells #[.string key, .int .i64 6, .slice b V.length cap'] 41)) a L) from hL.out.on hb0)
  have hVo : ∀ {u : World}, Below w.heap.size w u → Hid (StrsAt u b V) := fun hb => hV.out.on hb
  generalize getL L key = x at hg
  obtain ⟨x, t⟩ := x
  skip
  clear hL hV
  go_enter Try.func26, Try.ntmps26
  go_wp2_with fail
  refine hg.mono ?_
  rintro e w1 ⟨rfl, hb1⟩
  have hb := on2 hb0 hb1
  obtain ⟨qa, qb, qc, qd⟩ := q0.on hb1
  clear hg hb1 hb0 q0
  go_wp2_with fail
  refine (by_below _ _ _ _ _ _).mono ?_
  rintro e w2 ⟨rfl, hb2⟩
  have hbb := on2 hb hb2
  clear hb qa qb qc qd hb2
  go_wp2_with fail
  refine (below_calls _ _ _ _ V _ (hVo hbb)).mono ?_
  rintro e w3 ⟨rfl, hb3⟩
  have hbc := on2 hbb hb3
  clear hbb hb3 hVo
  go_wp2_with fail
  go_ret
  exact ⟨retb (by simp [meetsV]), hbc⟩

set_option maxHeartbeats 1000000 in
theorem by_never (v : ByteArray) (t : Bool) (a : Option Addr) (n cap : Nat) (op : Int) (w : World) (h1 : (op == 1) = false) (h2 : (op == 2) = false) (h3 : (op == 3) = false) (h4 : (op == 4) = false) (h5 : (op == 5) = false) (h6 : (op == 6) = false) : Calls Try.prog 37 #[.agg #[.string v, .bool t, .slice a n cap], .int .i64 op] w fun e w' => e = .returned (.func (.func 51) #[.agg #[.string v, .bool t, .slice a n cap]] #[]) ∧ Below w.heap.size w w' := by
  go_enter Try.func37, Try.ntmps37
  go_wp2
  go_ret
  exact ⟨rfl, by go_grown⟩

set_option maxHeartbeats 1000000 in
theorem Meets_never (a : Option Addr) (cap : Nat) (L : List Lab) (key : ByteArray) (op : Int) (b : Option Addr) (cap' : Nat) (V : List ByteArray) (w : World) (hL : Hid (LabsAt w a L)) (hV : Hid (StrsAt w b V)) (h1 : (op == 1) = false) (h2 : (op == 2) = false) (h3 : (op == 3) = false) (h4 : (op == 4) = false) (h5 : (op == 5) = false) (h6 : (op == 6) = false) : Calls Try.prog 26 #[.slice a L.length cap, .agg #[.string key, .int .i64 op, .slice b V.length cap']] w fun e w' => e = .returned (.bool (meetsV (getL L key).1 (getL L key).2 op V)) ∧ Below w.heap.size w w' := by
  have hb0 : Below w.heap.size w (w.alloc (.cells #[.string key, .int .i64 op, .slice b V.length cap'] 41)) := (Below.refl _ _).alloc (Nat.le_refl _) _
  have q0 := ReqBox.new w key op b V.length cap'
  have hg := Get_calls a cap L key _ (show Hid (LabsAt (w.alloc (.cells #[.string key, .int .i64 op, .slice b V.length cap'] 41)) a L) from hL.out.on hb0)
  have hVo : ∀ {u : World}, Below w.heap.size w u → Hid (StrsAt u b V) := fun hb => hV.out.on hb
  generalize getL L key = x at hg
  obtain ⟨x, t⟩ := x
  have HF : Hid (meetsV x t op V = false) := meetsV_else h1 h2 h3 h4 h5 h6
  clear hL hV
  go_enter Try.func26, Try.ntmps26
  go_wp2_with fail
  refine hg.mono ?_
  rintro e w1 ⟨rfl, hb1⟩
  have hb := on2 hb0 hb1
  obtain ⟨qa, qb, qc, qd⟩ := q0.on hb1
  clear hg hb1 hb0 q0
  go_wp2_with fail
  refine (by_never _ _ _ _ _ op _ h1 h2 h3 h4 h5 h6).mono ?_
  rintro e w2 ⟨rfl, hb2⟩
  have hbb := on2 hb hb2
  clear hb qa qb qc qd hb2
  go_wp2_with fail
  refine (never_calls _ _ _ _ _ _).mono ?_
  rintro e w3 ⟨rfl, hb3⟩
  have hbc := on2 hbb hb3
  clear hbb hb3 hVo
  go_wp2_with fail
  go_ret
  exact ⟨retb HF.out.symm, hbc⟩
end Go.Proofs.Ytpehmobedcflnaa
