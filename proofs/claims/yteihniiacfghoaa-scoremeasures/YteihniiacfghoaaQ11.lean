/- label.Meets, Match and the document's own return what the plain functions say; they change nothing that was there. Condition: the slices hold what is said of them. The document's own Meets returns what the plain functions say, an Op at a time; it changes nothing that was there. Condition: the slices hold what is said of them. label.Meets, Match and the document's own return what the plain functions say, at every Op; they change nothing that was there. Condition: the slices hold what is said of them. slices.IndexFunc and slices.ContainsFunc at taints and at what is borne, with whatever function is handed in. Condition: the slice holds what is said of it, and the function answers as said. -/
import Derived.Test.YteihniiacfghoaaQ10
import Derived.Test.YteihniiacfghoaaQ08
import Derived.Test.YteihniiacfghoaaQ02
namespace Go.Proofs.Yteihniiacfghoaa
open Go.RowKit
set_option linter.unusedSimpArgs false

/-- The paths of an Op. -/
theorem op_paths (op : Int) : op = 1 ∨ op = 2 ∨ op = 3 ∨ op = 4 ∨ op = 5 ∨ op = 6 ∨ ((op == 1) = false ∧ (op == 2) = false ∧ (op == 3) = false ∧ (op == 4) = false ∧ (op == 5) = false ∧ (op == 6) = false) := by
  simp only [beq_eq_false_iff_ne, ne_eq]
  omega
theorem meetsV_else {v : ByteArray} {t : Bool} {op : Int} {V : List ByteArray} (h1 : (op == 1) = false) (h2 : (op == 2) = false) (h3 : (op == 3) = false) (h4 : (op == 4) = false) (h5 : (op == 5) = false) (h6 : (op == 6) = false) : meetsV v t op V = false := by
  simp only [beq_eq_false_iff_ne, ne_eq] at h1 h2 h3 h4 h5 h6
  simp [meetsV, h1, h2, h3, h4, h5, h6]

/-- What is asked lies in the box D. -/
def ReqBox (D : Nat) (key : ByteArray) (op : Int) (a : Option Addr) (n cap : Nat) (u : World) : Prop := D < u.heap.size ∧ u.cell? ⟨D, 0, none⟩ = some (.string key) ∧ u.cell? ⟨D, 1, none⟩ = some (.int .i64 op) ∧ u.cell? ⟨D, 2, none⟩ = some (.slice a n cap)
theorem ReqBox.on {D : Nat} {key : ByteArray} {op : Int} {a : Option Addr} {n cap : Nat} {u u' : World} (h : ReqBox D key op a n cap u) (hb : Below u.heap.size u u') : ReqBox D key op a n cap u' :=
  ⟨Nat.lt_of_lt_of_le h.1 hb.size, (hb.cell h.1).trans h.2.1, (hb.cell h.1).trans h.2.2.1, (hb.cell h.1).trans h.2.2.2⟩
theorem ReqBox.new (w : World) (key : ByteArray) (op : Int) (a : Option Addr) (n cap : Nat) : ReqBox w.heap.size key op a n cap (w.alloc (.cells #[.string key, .int .i64 op, .slice a n cap] 81)) :=
  ⟨by simp, by simp [go_sem], by simp [go_sem], by simp [go_sem]⟩

set_option maxHeartbeats 1000000 in
theorem by_in (v : ByteArray) (t : Bool) (a : Option Addr) (n cap : Nat) (w : World)  : Calls Try.prog 69 #[.agg #[.string v, .bool t, .slice a n cap], .int .i64 1] w fun e w' => e = .returned (.func (.func 73) #[.agg #[.string v, .bool t, .slice a n cap]] #[]) ∧ Below w.heap.size w w' := by
  go_enter Try.func69, Try.ntmps69
  go_wp2
  go_ret
  exact ⟨rfl, by go_grown⟩

set_option maxHeartbeats 1000000 in
theorem Meets_in (a : Option Addr) (cap : Nat) (L : List Lab) (key : ByteArray) (b : Option Addr) (cap' : Nat) (V : List ByteArray) (w : World) (hL : Hid (LabsAt w a L)) (hV : Hid (StrsAt w b V))  : Calls Try.prog 62 #[.slice a L.length cap, .agg #[.string key, .int .i64 1, .slice b V.length cap']] w fun e w' => e = .returned (.bool (meetsV (getL L key).1 (getL L key).2 1 V)) ∧ Below w.heap.size w w' := by
  have hb0 : Below w.heap.size w (w.alloc (.cells #[.string key, .int .i64 1, .slice b V.length cap'] 81)) := (Below.refl _ _).alloc (Nat.le_refl _) _
  have q0 := ReqBox.new w key 1 b V.length cap'
  have hg := Get_calls a cap L key _ (show Hid (LabsAt (w.alloc (.cells #[.string key, .int .i64 1, .slice b V.length cap'] 81)) a L) from hL.out.on hb0)
  have hVo : ∀ {u : World}, Below w.heap.size w u → Hid (StrsAt u b V) := fun hb => hV.out.on hb
  generalize getL L key = x at hg
  obtain ⟨x, t⟩ := x
  skip
  clear hL hV
  go_enter Try.func62, Try.ntmps62
  go_wp2_with fail
  refine hg.mono ?_
  rintro e w1 ⟨rfl, hb1⟩
  have hb := on2 hb0 hb1
  obtain ⟨qa, qb, qc, qd⟩ := q0.on hb1
  clear hg hb1 hb0 q0
  go_wp2_with fail
  refine (by_in _ _ _ _ _ _).mono ?_
  rintro e w2 ⟨rfl, hb2⟩
  have hbb := on2 hb hb2
  clear hb qa qb qc qd hb2
  go_wp2_with fail
  refine (in_calls _ _ _ _ V _ (hVo hbb)).mono ?_
  rintro e w3 ⟨rfl, hb3⟩
  have hbc := on2 hbb hb3
  clear hbb hb3 hVo
  go_wp2_with fail
  go_ret
  exact ⟨retb (by simp [meetsV]), hbc⟩

set_option maxHeartbeats 1000000 in
theorem by_notIn (v : ByteArray) (t : Bool) (a : Option Addr) (n cap : Nat) (w : World)  : Calls Try.prog 69 #[.agg #[.string v, .bool t, .slice a n cap], .int .i64 2] w fun e w' => e = .returned (.func (.func 74) #[.agg #[.string v, .bool t, .slice a n cap]] #[]) ∧ Below w.heap.size w w' := by
  go_enter Try.func69, Try.ntmps69
  go_wp2
  go_ret
  exact ⟨rfl, by go_grown⟩

set_option maxHeartbeats 1000000 in
theorem Meets_notIn (a : Option Addr) (cap : Nat) (L : List Lab) (key : ByteArray) (b : Option Addr) (cap' : Nat) (V : List ByteArray) (w : World) (hL : Hid (LabsAt w a L)) (hV : Hid (StrsAt w b V))  : Calls Try.prog 62 #[.slice a L.length cap, .agg #[.string key, .int .i64 2, .slice b V.length cap']] w fun e w' => e = .returned (.bool (meetsV (getL L key).1 (getL L key).2 2 V)) ∧ Below w.heap.size w w' := by
  have hb0 : Below w.heap.size w (w.alloc (.cells #[.string key, .int .i64 2, .slice b V.length cap'] 81)) := (Below.refl _ _).alloc (Nat.le_refl _) _
  have q0 := ReqBox.new w key 2 b V.length cap'
  have hg := Get_calls a cap L key _ (show Hid (LabsAt (w.alloc (.cells #[.string key, .int .i64 2, .slice b V.length cap'] 81)) a L) from hL.out.on hb0)
  have hVo : ∀ {u : World}, Below w.heap.size w u → Hid (StrsAt u b V) := fun hb => hV.out.on hb
  generalize getL L key = x at hg
  obtain ⟨x, t⟩ := x
  skip
  clear hL hV
  go_enter Try.func62, Try.ntmps62
  go_wp2_with fail
  refine hg.mono ?_
  rintro e w1 ⟨rfl, hb1⟩
  have hb := on2 hb0 hb1
  obtain ⟨qa, qb, qc, qd⟩ := q0.on hb1
  clear hg hb1 hb0 q0
  go_wp2_with fail
  refine (by_notIn _ _ _ _ _ _).mono ?_
  rintro e w2 ⟨rfl, hb2⟩
  have hbb := on2 hb hb2
  clear hb qa qb qc qd hb2
  go_wp2_with fail
  refine (notIn_calls _ _ _ _ V _ (hVo hbb)).mono ?_
  rintro e w3 ⟨rfl, hb3⟩
  have hbc := on2 hbb hb3
  clear hbb hb3 hVo
  go_wp2_with fail
  go_ret
  exact ⟨retb (by simp [meetsV]), hbc⟩

set_option maxHeartbeats 1000000 in
theorem by_exists (v : ByteArray) (t : Bool) (a : Option Addr) (n cap : Nat) (w : World)  : Calls Try.prog 69 #[.agg #[.string v, .bool t, .slice a n cap], .int .i64 3] w fun e w' => e = .returned (.func (.func 75) #[.agg #[.string v, .bool t, .slice a n cap]] #[]) ∧ Below w.heap.size w w' := by
  go_enter Try.func69, Try.ntmps69
  go_wp2
  go_ret
  exact ⟨rfl, by go_grown⟩

set_option maxHeartbeats 1000000 in
theorem Meets_exists (a : Option Addr) (cap : Nat) (L : List Lab) (key : ByteArray) (b : Option Addr) (cap' : Nat) (V : List ByteArray) (w : World) (hL : Hid (LabsAt w a L)) (hV : Hid (StrsAt w b V))  : Calls Try.prog 62 #[.slice a L.length cap, .agg #[.string key, .int .i64 3, .slice b V.length cap']] w fun e w' => e = .returned (.bool (meetsV (getL L key).1 (getL L key).2 3 V)) ∧ Below w.heap.size w w' := by
  have hb0 : Below w.heap.size w (w.alloc (.cells #[.string key, .int .i64 3, .slice b V.length cap'] 81)) := (Below.refl _ _).alloc (Nat.le_refl _) _
  have q0 := ReqBox.new w key 3 b V.length cap'
  have hg := Get_calls a cap L key _ (show Hid (LabsAt (w.alloc (.cells #[.string key, .int .i64 3, .slice b V.length cap'] 81)) a L) from hL.out.on hb0)
  have hVo : ∀ {u : World}, Below w.heap.size w u → Hid (StrsAt u b V) := fun hb => hV.out.on hb
  generalize getL L key = x at hg
  obtain ⟨x, t⟩ := x
  skip
  clear hL hV
  go_enter Try.func62, Try.ntmps62
  go_wp2_with fail
  refine hg.mono ?_
  rintro e w1 ⟨rfl, hb1⟩
  have hb := on2 hb0 hb1
  obtain ⟨qa, qb, qc, qd⟩ := q0.on hb1
  clear hg hb1 hb0 q0
  go_wp2_with fail
  refine (by_exists _ _ _ _ _ _).mono ?_
  rintro e w2 ⟨rfl, hb2⟩
  have hbb := on2 hb hb2
  clear hb qa qb qc qd hb2
  go_wp2_with fail
  refine (exists_calls _ _ _ _ _ _).mono ?_
  rintro e w3 ⟨rfl, hb3⟩
  have hbc := on2 hbb hb3
  clear hbb hb3 hVo
  go_wp2_with fail
  go_ret
  exact ⟨retb (by simp [meetsV]), hbc⟩

set_option maxHeartbeats 1000000 in
theorem by_lacks (v : ByteArray) (t : Bool) (a : Option Addr) (n cap : Nat) (w : World)  : Calls Try.prog 69 #[.agg #[.string v, .bool t, .slice a n cap], .int .i64 4] w fun e w' => e = .returned (.func (.func 76) #[.agg #[.string v, .bool t, .slice a n cap]] #[]) ∧ Below w.heap.size w w' := by
  go_enter Try.func69, Try.ntmps69
  go_wp2
  go_ret
  exact ⟨rfl, by go_grown⟩

set_option maxHeartbeats 1000000 in
theorem Meets_lacks (a : Option Addr) (cap : Nat) (L : List Lab) (key : ByteArray) (b : Option Addr) (cap' : Nat) (V : List ByteArray) (w : World) (hL : Hid (LabsAt w a L)) (hV : Hid (StrsAt w b V))  : Calls Try.prog 62 #[.slice a L.length cap, .agg #[.string key, .int .i64 4, .slice b V.length cap']] w fun e w' => e = .returned (.bool (meetsV (getL L key).1 (getL L key).2 4 V)) ∧ Below w.heap.size w w' := by
  have hb0 : Below w.heap.size w (w.alloc (.cells #[.string key, .int .i64 4, .slice b V.length cap'] 81)) := (Below.refl _ _).alloc (Nat.le_refl _) _
  have q0 := ReqBox.new w key 4 b V.length cap'
  have hg := Get_calls a cap L key _ (show Hid (LabsAt (w.alloc (.cells #[.string key, .int .i64 4, .slice b V.length cap'] 81)) a L) from hL.out.on hb0)
  have hVo : ∀ {u : World}, Below w.heap.size w u → Hid (StrsAt u b V) := fun hb => hV.out.on hb
  generalize getL L key = x at hg
  obtain ⟨x, t⟩ := x
  skip
  clear hL hV
  go_enter Try.func62, Try.ntmps62
  go_wp2_with fail
  refine hg.mono ?_
  rintro e w1 ⟨rfl, hb1⟩
  have hb := on2 hb0 hb1
  obtain ⟨qa, qb, qc, qd⟩ := q0.on hb1
  clear hg hb1 hb0 q0
  go_wp2_with fail
  refine (by_lacks _ _ _ _ _ _).mono ?_
  rintro e w2 ⟨rfl, hb2⟩
  have hbb := on2 hb hb2
  clear hb qa qb qc qd hb2
  go_wp2_with fail
  refine (lacks_calls _ _ _ _ _ _).mono ?_
  rintro e w3 ⟨rfl, hb3⟩
  have hbc := on2 hbb hb3
  clear hbb hb3 hVo
  go_wp2_with fail
  go_ret
  exact ⟨retb (by simp [meetsV]), hbc⟩

set_option maxHeartbeats 1000000 in
theorem by_above (v : ByteArray) (t : Bool) (a : Option Addr) (n cap : Nat) (w : World)  : Calls Try.prog 69 #[.agg #[.string v, .bool t, .slice a n cap], .int .i64 5] w fun e w' => e = .returned (.func (.func 77) #[.agg #[.string v, .bool t, .slice a n cap]] #[]) ∧ Below w.heap.size w w' := by
  go_enter Try.func69, Try.ntmps69
  go_wp2
  go_ret
  exact ⟨rfl, by go_grown⟩

set_option maxHeartbeats 1000000 in
theorem Meets_above (a : Option Addr) (cap : Nat) (L : List Lab) (key : ByteArray) (b : Option Addr) (cap' : Nat) (V : List ByteArray) (w : World) (hL : Hid (LabsAt w a L)) (hV : Hid (StrsAt w b V))  : Calls Try.prog 62 #[.slice a L.length cap, .agg #[.string key, .int .i64 5, .slice b V.length cap']] w fun e w' => e = .returned (.bool (meetsV (getL L key).1 (getL L key).2 5 V)) ∧ Below w.heap.size w w' := by
  have hb0 : Below w.heap.size w (w.alloc (.cells #[.string key, .int .i64 5, .slice b V.length cap'] 81)) := (Below.refl _ _).alloc (Nat.le_refl _) _
  have q0 := ReqBox.new w key 5 b V.length cap'
  have hg := Get_calls a cap L key _ (show Hid (LabsAt (w.alloc (.cells #[.string key, .int .i64 5, .slice b V.length cap'] 81)) a L) from hL.out.on hb0)
  have hVo : ∀ {u : World}, Below w.heap.size w u → Hid (StrsAt u b V) := fun hb => hV.out.on hb
  generalize getL L key = x at hg
  obtain ⟨x, t⟩ := x
  skip
  clear hL hV
  go_enter Try.func62, Try.ntmps62
  go_wp2_with fail
  refine hg.mono ?_
  rintro e w1 ⟨rfl, hb1⟩
  have hb := on2 hb0 hb1
  obtain ⟨qa, qb, qc, qd⟩ := q0.on hb1
  clear hg hb1 hb0 q0
  go_wp2_with fail
  refine (by_above _ _ _ _ _ _).mono ?_
  rintro e w2 ⟨rfl, hb2⟩
  have hbb := on2 hb hb2
  clear hb qa qb qc qd hb2
  go_wp2_with fail
  refine (above_calls _ _ _ _ V _ (hVo hbb)).mono ?_
  rintro e w3 ⟨rfl, hb3⟩
  have hbc := on2 hbb hb3
  clear hbb hb3 hVo
  go_wp2_with fail
  go_ret
  exact ⟨retb (by simp [meetsV]), hbc⟩

set_option maxHeartbeats 1000000 in
theorem by_below (v : ByteArray) (t : Bool) (a : Option Addr) (n cap : Nat) (w : World)  : Calls Try.prog 69 #[.agg #[.string v, .bool t, .slice a n cap], .int .i64 6] w fun e w' => e = .returned (.func (.func 78) #[.agg #[.string v, .bool t, .slice a n cap]] #[]) ∧ Below w.heap.size w w' := by
  go_enter Try.func69, Try.ntmps69
  go_wp2
  go_ret
  exact ⟨rfl, by go_grown⟩

set_option maxHeartbeats 1000000 in
theorem Meets_below (a : Option Addr) (cap : Nat) (L : List Lab) (key : ByteArray) (b : Option Addr) (cap' : Nat) (V : List ByteArray) (w : World) (hL : Hid (LabsAt w a L)) (hV : Hid (StrsAt w b V))  : Calls Try.prog 62 #[.slice a L.length cap, .agg #[.string key, .int .i64 6, .slice b V.length cap']] w fun e w' => e = .returned (.bool (meetsV (getL L key).1 (getL L key).2 6 V)) ∧ Below w.heap.size w w' := by
  have hb0 : Below w.heap.size w (w.alloc (.cells #[.string key, .int .i64 6, .slice b V.length cap'] 81)) := (Below.refl _ _).alloc (Nat.le_refl _) _
  have q0 := ReqBox.new w key 6 b V.length cap'
  have hg := Get_calls a cap L key _ (show Hid (LabsAt (w.alloc (.cells #[.string key, .int .i64 6, .slice b V.length cap'] 81)) a L) from hL.out.on hb0)
  have hVo : ∀ {u : World}, Below w.heap.size w u → Hid (StrsAt u b V) := fun hb => hV.out.on hb
  generalize getL L key = x at hg
  obtain ⟨x, t⟩ := x
  skip
  clear hL hV
  go_enter Try.func62, Try.ntmps62
  go_wp2_with fail
  refine hg.mono ?_
  rintro e w1 ⟨rfl, hb1⟩
  have hb := on2 hb0 hb1
  obtain ⟨qa, qb, qc, qd⟩ := q0.on hb1
  clear hg hb1 hb0 q0
  go_wp2_with fail
  refine (by_below _ _ _ _ _ _).mono ?_
  rintro e w2 ⟨rfl, hb2⟩
  have hbb := on2 hb hb2
  clear hb qa qb qc qd hb2
  go_wp2_with fail
  refine (below_calls _ _ _ _ V _ (hVo hbb)).mono ?_
  rintro e w3 ⟨rfl, hb3⟩
  have hbc := on2 hbb hb3
  clear hbb hb3 hVo
  go_wp2_with fail
  go_ret
  exact ⟨retb (by simp [meetsV]), hbc⟩

set_option maxHeartbeats 1000000 in
theorem by_never (v : ByteArray) (t : Bool) (a : Option Addr) (n cap : Nat) (op : Int) (w : World) (h1 : (op == 1) = false) (h2 : (op == 2) = false) (h3 : (op == 3) = false) (h4 : (op == 4) = false) (h5 : (op == 5) = false) (h6 : (op == 6) = false) : Calls Try.prog 69 #[.agg #[.string v, .bool t, .slice a n cap], .int .i64 op] w fun e w' => e = .returned (.func (.func 79) #[.agg #[.string v, .bool t, .slice a n cap]] #[]) ∧ Below w.heap.size w w' := by
  go_enter Try.func69, Try.ntmps69
  go_wp2
  go_ret
  exact ⟨rfl, by go_grown⟩

set_option maxHeartbeats 1000000 in
theorem Meets_never (a : Option Addr) (cap : Nat) (L : List Lab) (key : ByteArray) (op : Int) (b : Option Addr) (cap' : Nat) (V : List ByteArray) (w : World) (hL : Hid (LabsAt w a L)) (hV : Hid (StrsAt w b V)) (h1 : (op == 1) = false) (h2 : (op == 2) = false) (h3 : (op == 3) = false) (h4 : (op == 4) = false) (h5 : (op == 5) = false) (h6 : (op == 6) = false) : Calls Try.prog 62 #[.slice a L.length cap, .agg #[.string key, .int .i64 op, .slice b V.length cap']] w fun e w' => e = .returned (.bool (meetsV (getL L key).1 (getL L key).2 op V)) ∧ Below w.heap.size w w' := by
  have hb0 : Below w.heap.size w (w.alloc (.cells #[.string key, .int .i64 op, .slice b V.length cap'] 81)) := (Below.refl _ _).alloc (Nat.le_refl _) _
  have q0 := ReqBox.new w key op b V.length cap'
  have hg := Get_calls a cap L key _ (show Hid (LabsAt (w.alloc (.cells #[.string key, .int .i64 op, .slice b V.length cap'] 81)) a L) from hL.out.on hb0)
  have hVo : ∀ {u : World}, Below w.heap.size w u → Hid (StrsAt u b V) := fun hb => hV.out.on hb
  generalize getL L key = x at hg
  obtain ⟨x, t⟩ := x
  have HF : Hid (meetsV x t op V = false) := meetsV_else h1 h2 h3 h4 h5 h6
  clear hL hV
  go_enter Try.func62, Try.ntmps62
  go_wp2_with fail
  refine hg.mono ?_
  rintro e w1 ⟨rfl, hb1⟩
  have hb := on2 hb0 hb1
  obtain ⟨qa, qb, qc, qd⟩ := q0.on hb1
  clear hg hb1 hb0 q0
  go_wp2_with fail
  refine (by_never _ _ _ _ _ op _ h1 h2 h3 h4 h5 h6).mono ?_
  rintro e w2 ⟨rfl, hb2⟩
  have hbb := on2 hb hb2
  clear hb qa qb qc qd hb2
  go_wp2_with fail
  refine (never_calls _ _ _ _ _ _).mono ?_
  rintro e w3 ⟨rfl, hb3⟩
  have hbc := on2 hbb hb3
  clear hbb hb3 hVo
  go_wp2_with fail
  go_ret
  exact ⟨retb HF.out.symm, hbc⟩
end Go.Proofs.Yteihniiacfghoaa
namespace Go.Proofs.Yteihniiacfghoaa
open Go.RowKit
set_option linter.unusedSimpArgs false

set_option maxHeartbeats 2000000 in
theorem rMeets_in (a : Option Addr) (cap : Nat) (L : List Lab) (key : ByteArray) (b : Option Addr) (cap' : Nat) (V : List ByteArray) (w : World) (hL : Hid (LabsAt w a L)) (hV : Hid (StrsAt w b V))  : Calls Try.prog 54 #[.slice a L.length cap, .agg #[.string key, .int .i64 1, .slice b V.length cap']] w fun e w' => e = .returned (.bool (meetsV (getL L key).1 (getL L key).2 1 V)) ∧ Below w.heap.size w w' := by
  have hb0 : Below w.heap.size w (w.alloc (.cells #[.string key, .int .i64 1, .slice b V.length cap'] 81)) := (Below.refl _ _).alloc (Nat.le_refl _) _
  have hg := rGet_calls a cap L key _ (show Hid (LabsAt (w.alloc (.cells #[.string key, .int .i64 1, .slice b V.length cap'] 81)) a L) from hL.out.on hb0)
  have hh := fun s => LHas_calls b cap' V s _ (show Hid (StrsAt (w.alloc (.cells #[.string key, .int .i64 1, .slice b V.length cap'] 81)) b V) from hV.out.on hb0)
  generalize getL L key = x at hg
  obtain ⟨x, t⟩ := x
  have HF : Hid (meetsV x t 1 V = (t && hasL V x)) := by simp [Hid, meetsV]
  clear hL hV
  have hh' := hh x
  generalize hasL V x = c at hh' HF
  cases t <;> (
    go_enter Try.func54, Try.ntmps54
    go_wp2_with (first | (go_at_call 63; refine hg.mono ?_; rintro e w' ⟨rfl, rfl⟩) | (go_at_call 64; refine hh'.mono ?_; rintro e w' ⟨rfl, rfl⟩))
    go_ret
    exact ⟨retb (by rw [HF.out]; try rfl), hb0⟩)

set_option maxHeartbeats 2000000 in
theorem rMeets_notIn (a : Option Addr) (cap : Nat) (L : List Lab) (key : ByteArray) (b : Option Addr) (cap' : Nat) (V : List ByteArray) (w : World) (hL : Hid (LabsAt w a L)) (hV : Hid (StrsAt w b V))  : Calls Try.prog 54 #[.slice a L.length cap, .agg #[.string key, .int .i64 2, .slice b V.length cap']] w fun e w' => e = .returned (.bool (meetsV (getL L key).1 (getL L key).2 2 V)) ∧ Below w.heap.size w w' := by
  have hb0 : Below w.heap.size w (w.alloc (.cells #[.string key, .int .i64 2, .slice b V.length cap'] 81)) := (Below.refl _ _).alloc (Nat.le_refl _) _
  have hg := rGet_calls a cap L key _ (show Hid (LabsAt (w.alloc (.cells #[.string key, .int .i64 2, .slice b V.length cap'] 81)) a L) from hL.out.on hb0)
  have hh := fun s => LHas_calls b cap' V s _ (show Hid (StrsAt (w.alloc (.cells #[.string key, .int .i64 2, .slice b V.length cap'] 81)) b V) from hV.out.on hb0)
  generalize getL L key = x at hg
  obtain ⟨x, t⟩ := x
  have HF : Hid (meetsV x t 2 V = (!t || !hasL V x)) := by simp [Hid, meetsV]
  clear hL hV
  have hh' := hh x
  generalize hasL V x = c at hh' HF
  cases t <;> (
    go_enter Try.func54, Try.ntmps54
    go_wp2_with (first | (go_at_call 63; refine hg.mono ?_; rintro e w' ⟨rfl, rfl⟩) | (go_at_call 64; refine hh'.mono ?_; rintro e w' ⟨rfl, rfl⟩))
    go_ret
    exact ⟨retb (by rw [HF.out]; try rfl), hb0⟩)

set_option maxHeartbeats 2000000 in
theorem rMeets_exists (a : Option Addr) (cap : Nat) (L : List Lab) (key : ByteArray) (b : Option Addr) (cap' : Nat) (V : List ByteArray) (w : World) (hL : Hid (LabsAt w a L)) (hV : Hid (StrsAt w b V))  : Calls Try.prog 54 #[.slice a L.length cap, .agg #[.string key, .int .i64 3, .slice b V.length cap']] w fun e w' => e = .returned (.bool (meetsV (getL L key).1 (getL L key).2 3 V)) ∧ Below w.heap.size w w' := by
  have hb0 : Below w.heap.size w (w.alloc (.cells #[.string key, .int .i64 3, .slice b V.length cap'] 81)) := (Below.refl _ _).alloc (Nat.le_refl _) _
  have hg := rGet_calls a cap L key _ (show Hid (LabsAt (w.alloc (.cells #[.string key, .int .i64 3, .slice b V.length cap'] 81)) a L) from hL.out.on hb0)
  have hh := fun s => LHas_calls b cap' V s _ (show Hid (StrsAt (w.alloc (.cells #[.string key, .int .i64 3, .slice b V.length cap'] 81)) b V) from hV.out.on hb0)
  generalize getL L key = x at hg
  obtain ⟨x, t⟩ := x
  have HF : Hid (meetsV x t 3 V = t) := by simp [Hid, meetsV]
  clear hL hV
  have hh' := hh x
  generalize hasL V x = c at hh' HF
  cases t <;> (
    go_enter Try.func54, Try.ntmps54
    go_wp2_with (first | (go_at_call 63; refine hg.mono ?_; rintro e w' ⟨rfl, rfl⟩) | (go_at_call 64; refine hh'.mono ?_; rintro e w' ⟨rfl, rfl⟩))
    go_ret
    exact ⟨retb (by rw [HF.out]; try rfl), hb0⟩)

set_option maxHeartbeats 2000000 in
theorem rMeets_lacks (a : Option Addr) (cap : Nat) (L : List Lab) (key : ByteArray) (b : Option Addr) (cap' : Nat) (V : List ByteArray) (w : World) (hL : Hid (LabsAt w a L)) (hV : Hid (StrsAt w b V))  : Calls Try.prog 54 #[.slice a L.length cap, .agg #[.string key, .int .i64 4, .slice b V.length cap']] w fun e w' => e = .returned (.bool (meetsV (getL L key).1 (getL L key).2 4 V)) ∧ Below w.heap.size w w' := by
  have hb0 : Below w.heap.size w (w.alloc (.cells #[.string key, .int .i64 4, .slice b V.length cap'] 81)) := (Below.refl _ _).alloc (Nat.le_refl _) _
  have hg := rGet_calls a cap L key _ (show Hid (LabsAt (w.alloc (.cells #[.string key, .int .i64 4, .slice b V.length cap'] 81)) a L) from hL.out.on hb0)
  have hh := fun s => LHas_calls b cap' V s _ (show Hid (StrsAt (w.alloc (.cells #[.string key, .int .i64 4, .slice b V.length cap'] 81)) b V) from hV.out.on hb0)
  generalize getL L key = x at hg
  obtain ⟨x, t⟩ := x
  have HF : Hid (meetsV x t 4 V = !t) := by simp [Hid, meetsV]
  clear hL hV
  have hh' := hh x
  generalize hasL V x = c at hh' HF
  cases t <;> (
    go_enter Try.func54, Try.ntmps54
    go_wp2_with (first | (go_at_call 63; refine hg.mono ?_; rintro e w' ⟨rfl, rfl⟩) | (go_at_call 64; refine hh'.mono ?_; rintro e w' ⟨rfl, rfl⟩))
    go_ret
    exact ⟨retb (by rw [HF.out]; try rfl), hb0⟩)

theorem meetsV_above (x : ByteArray) (t : Bool) (V : List ByteArray) : meetsV x t 5 V = (t && numB x && (decide (V.length = 1) && numB (V.getD 0 default)) && decide (numN (V.getD 0 default) < numN x)) := by simp [meetsV]
set_option maxHeartbeats 2000000 in
theorem rMeets_above (a : Option Addr) (cap : Nat) (L : List Lab) (key : ByteArray) (b : Option Addr) (cap' : Nat) (V : List ByteArray) (w : World) (hL : Hid (LabsAt w a L)) (hV : Hid (StrsAt w b V)) : Calls Try.prog 54 #[.slice a L.length cap, .agg #[.string key, .int .i64 5, .slice b V.length cap']] w fun e w' => e = .returned (.bool (meetsV (getL L key).1 (getL L key).2 5 V)) ∧ Below w.heap.size w w' := by
  have hb0 : Below w.heap.size w (w.alloc (.cells #[.string key, .int .i64 5, .slice b V.length cap'] 81)) := (Below.refl _ _).alloc (Nat.le_refl _) _
  have hg := rGet_calls a cap L key _ (show Hid (LabsAt (w.alloc (.cells #[.string key, .int .i64 5, .slice b V.length cap'] 81)) a L) from hL.out.on hb0)
  generalize getL L key = x at hg
  obtain ⟨x, t⟩ := x
  clear hL
  by_cases h1 : (V.length : Int) = 1
  · have hV' := hV.out.on hb0
    obtain ⟨y, rfl⟩ := List.length_eq_one_iff.1 (show V.length = 1 by omega)
    obtain ⟨B, off, rfl, hB, hc, _⟩ := hV'.get (k := 0) (by simp)
    rw [Nat.add_zero] at hc
    clear hV'
    simp only [List.getD_cons_zero, List.length_cons, List.length_nil, Nat.zero_add] at hc hg hb0 ⊢
    have HW : Hid (meetsV x t 5 [y] = (t && numB x && numB y && decide (numN y < numN x))) := by simp [Hid, meetsV_above]
    have hx := Whole_calls x
    have hy := Whole_calls y
    have HX : Hid (numB x = true → wholeN x = numN x) := fun h => by simp [wholeN, h]
    have HY : Hid (numB y = true → wholeN y = numN y) := fun h => by simp [wholeN, h]
    generalize hp : numB x = p at hx HW HX
    generalize hq : numB y = q at hy HW HY
    generalize wholeN x = m at hx HX
    generalize wholeN y = n at hy HY
    clear hV h1 hp hq
    go_enter Try.func54, Try.ntmps54
    go_wp2_with fail
    refine hg.mono ?_
    rintro e w1 ⟨rfl, rfl⟩
    go_wp2_with fail
    refine (hx _).mono ?_
    rintro e w2 ⟨rfl, rfl⟩
    go_wp2_with fail
    refine (hy _).mono ?_
    rintro e w3 ⟨rfl, rfl⟩
    clear hg hx hy
    cases t <;> cases p <;> cases q <;> (
      go_wp2_with fail
      go_ret
      exact ⟨retb (by rw [HW.out]; first | rfl | (have e1 := HX.out (by trivial); have e2 := HY.out (by trivial); rw [e1, e2]; simp)), hb0⟩)
  · have h1' : ((V.length : Int) != 1) = true := bne_iff_ne.2 h1
    have HF : Hid (meetsV x t 5 V = false) := by
      have : decide (V.length = 1) = false := by simp; omega
      simp [Hid, meetsV_above, this]
    clear hV h1
    go_enter Try.func54, Try.ntmps54
    go_wp2_with (go_at_call 63; refine hg.mono ?_; rintro e w' ⟨rfl, rfl⟩)
    go_ret
    exact ⟨retb HF.out.symm, hb0⟩

theorem meetsV_below (x : ByteArray) (t : Bool) (V : List ByteArray) : meetsV x t 6 V = (t && numB x && (decide (V.length = 1) && numB (V.getD 0 default)) && decide (numN x < numN (V.getD 0 default))) := by simp [meetsV]
set_option maxHeartbeats 2000000 in
theorem rMeets_below (a : Option Addr) (cap : Nat) (L : List Lab) (key : ByteArray) (b : Option Addr) (cap' : Nat) (V : List ByteArray) (w : World) (hL : Hid (LabsAt w a L)) (hV : Hid (StrsAt w b V)) : Calls Try.prog 54 #[.slice a L.length cap, .agg #[.string key, .int .i64 6, .slice b V.length cap']] w fun e w' => e = .returned (.bool (meetsV (getL L key).1 (getL L key).2 6 V)) ∧ Below w.heap.size w w' := by
  have hb0 : Below w.heap.size w (w.alloc (.cells #[.string key, .int .i64 6, .slice b V.length cap'] 81)) := (Below.refl _ _).alloc (Nat.le_refl _) _
  have hg := rGet_calls a cap L key _ (show Hid (LabsAt (w.alloc (.cells #[.string key, .int .i64 6, .slice b V.length cap'] 81)) a L) from hL.out.on hb0)
  generalize getL L key = x at hg
  obtain ⟨x, t⟩ := x
  clear hL
  by_cases h1 : (V.length : Int) = 1
  · have hV' := hV.out.on hb0
    obtain ⟨y, rfl⟩ := List.length_eq_one_iff.1 (show V.length = 1 by omega)
    obtain ⟨B, off, rfl, hB, hc, _⟩ := hV'.get (k := 0) (by simp)
    rw [Nat.add_zero] at hc
    clear hV'
    simp only [List.getD_cons_zero, List.length_cons, List.length_nil, Nat.zero_add] at hc hg hb0 ⊢
    have HW : Hid (meetsV x t 6 [y] = (t && numB x && numB y && decide (numN x < numN y))) := by simp [Hid, meetsV_below]
    have hx := Whole_calls x
    have hy := Whole_calls y
    have HX : Hid (numB x = true → wholeN x = numN x) := fun h => by simp [wholeN, h]
    have HY : Hid (numB y = true → wholeN y = numN y) := fun h => by simp [wholeN, h]
    generalize hp : numB x = p at hx HW HX
    generalize hq : numB y = q at hy HW HY
    generalize wholeN x = m at hx HX
    generalize wholeN y = n at hy HY
    clear hV h1 hp hq
    go_enter Try.func54, Try.ntmps54
    go_wp2_with fail
    refine hg.mono ?_
    rintro e w1 ⟨rfl, rfl⟩
    go_wp2_with fail
    refine (hx _).mono ?_
    rintro e w2 ⟨rfl, rfl⟩
    go_wp2_with fail
    refine (hy _).mono ?_
    rintro e w3 ⟨rfl, rfl⟩
    clear hg hx hy
    cases t <;> cases p <;> cases q <;> (
      go_wp2_with fail
      go_ret
      exact ⟨retb (by rw [HW.out]; first | rfl | (have e1 := HX.out (by trivial); have e2 := HY.out (by trivial); rw [e1, e2]; simp)), hb0⟩)
  · have h1' : ((V.length : Int) != 1) = true := bne_iff_ne.2 h1
    have HF : Hid (meetsV x t 6 V = false) := by
      have : decide (V.length = 1) = false := by simp; omega
      simp [Hid, meetsV_below, this]
    clear hV h1
    go_enter Try.func54, Try.ntmps54
    go_wp2_with (go_at_call 63; refine hg.mono ?_; rintro e w' ⟨rfl, rfl⟩)
    go_ret
    exact ⟨retb HF.out.symm, hb0⟩

set_option maxHeartbeats 2000000 in
theorem rMeets_never (a : Option Addr) (cap : Nat) (L : List Lab) (key : ByteArray) (op : Int) (b : Option Addr) (cap' : Nat) (V : List ByteArray) (w : World) (hL : Hid (LabsAt w a L)) (hV : Hid (StrsAt w b V)) (h1 : (op == 1) = false) (h2 : (op == 2) = false) (h3 : (op == 3) = false) (h4 : (op == 4) = false) (h5 : (op == 5) = false) (h6 : (op == 6) = false) : Calls Try.prog 54 #[.slice a L.length cap, .agg #[.string key, .int .i64 op, .slice b V.length cap']] w fun e w' => e = .returned (.bool (meetsV (getL L key).1 (getL L key).2 op V)) ∧ Below w.heap.size w w' := by
  have hb0 : Below w.heap.size w (w.alloc (.cells #[.string key, .int .i64 op, .slice b V.length cap'] 81)) := (Below.refl _ _).alloc (Nat.le_refl _) _
  have hg := rGet_calls a cap L key _ (show Hid (LabsAt (w.alloc (.cells #[.string key, .int .i64 op, .slice b V.length cap'] 81)) a L) from hL.out.on hb0)
  have hh := fun s => LHas_calls b cap' V s _ (show Hid (StrsAt (w.alloc (.cells #[.string key, .int .i64 op, .slice b V.length cap'] 81)) b V) from hV.out.on hb0)
  generalize getL L key = x at hg
  obtain ⟨x, t⟩ := x
  have HF : Hid (meetsV x t op V = false) := meetsV_else h1 h2 h3 h4 h5 h6
  clear hL hV
  have hh' := hh x
  generalize hasL V x = c at hh' HF
  cases t <;> (
    go_enter Try.func54, Try.ntmps54
    go_wp2_with (first | (go_at_call 63; refine hg.mono ?_; rintro e w' ⟨rfl, rfl⟩) | (go_at_call 64; refine hh'.mono ?_; rintro e w' ⟨rfl, rfl⟩))
    go_ret
    exact ⟨retb (by rw [HF.out]; try rfl), hb0⟩)

end Go.Proofs.Yteihniiacfghoaa
namespace Go.Proofs.Yteihniiacfghoaa
open Go.RowKit
set_option linter.unusedSimpArgs false

theorem Meets_calls (a : Option Addr) (cap : Nat) (L : List Lab) (key : ByteArray) (op : Int) (b : Option Addr) (cap' : Nat) (V : List ByteArray) (w : World) (hL : Hid (LabsAt w a L)) (hV : Hid (StrsAt w b V)) : Calls Try.prog 62 #[.slice a L.length cap, .agg #[.string key, .int .i64 op, .slice b V.length cap']] w fun e w' => e = .returned (.bool (meetsL L ⟨key, op, V⟩)) ∧ Below w.heap.size w w' := by
  rcases op_paths op with rfl | rfl | rfl | rfl | rfl | rfl | ⟨h1, h2, h3, h4, h5, h6⟩
  · exact Meets_in a cap L key b cap' V w hL hV
  · exact Meets_notIn a cap L key b cap' V w hL hV
  · exact Meets_exists a cap L key b cap' V w hL hV
  · exact Meets_lacks a cap L key b cap' V w hL hV
  · exact Meets_above a cap L key b cap' V w hL hV
  · exact Meets_below a cap L key b cap' V w hL hV
  · exact Meets_never a cap L key op b cap' V w hL hV h1 h2 h3 h4 h5 h6

theorem rMeets_calls (a : Option Addr) (cap : Nat) (L : List Lab) (key : ByteArray) (op : Int) (b : Option Addr) (cap' : Nat) (V : List ByteArray) (w : World) (hL : Hid (LabsAt w a L)) (hV : Hid (StrsAt w b V)) : Calls Try.prog 54 #[.slice a L.length cap, .agg #[.string key, .int .i64 op, .slice b V.length cap']] w fun e w' => e = .returned (.bool (meetsL L ⟨key, op, V⟩)) ∧ Below w.heap.size w w' := by
  rcases op_paths op with rfl | rfl | rfl | rfl | rfl | rfl | ⟨h1, h2, h3, h4, h5, h6⟩
  · exact rMeets_in a cap L key b cap' V w hL hV
  · exact rMeets_notIn a cap L key b cap' V w hL hV
  · exact rMeets_exists a cap L key b cap' V w hL hV
  · exact rMeets_lacks a cap L key b cap' V w hL hV
  · exact rMeets_above a cap L key b cap' V w hL hV
  · exact rMeets_below a cap L key b cap' V w hL hV
  · exact rMeets_never a cap L key op b cap' V w hL hV h1 h2 h3 h4 h5 h6

set_option maxHeartbeats 1000000 in
theorem Match_calls (a : Option Addr) (cap : Nat) (L : List Lab) (b : Option Addr) (cap' : Nat) (R : List Ask) (w : World) (hL : Hid (LabsAt w a L)) (hR : Hid (AsksAt w b R)) : Calls Try.prog 53 #[.slice a L.length cap, .slice b R.length cap'] w fun e w' => e = .returned (.bool (matchL L R)) ∧ Below w.heap.size w w' := by
  have hlen := hR.out.1
  go_enter Try.func53, Try.ntmps53
  go_wp2
  go_loopw [9] (fun i wr => ∃ k : Nat, k ≤ R.length ∧ i = .int .i64 k ∧ Below w.heap.size w wr ∧ Hid (∀ j, j < k → meetsL L (R.getD j default) = true)) (fun i _ => R.length - (intOf i).toNat)
  case atStart => exact ⟨0, Nat.zero_le _, rfl, Below.refl _ _, fun j hj => absurd hj (Nat.not_lt_zero _)⟩
  case round =>
    obtain ⟨k, hk, rfl, hbel, hall⟩ := hrel
    by_cases hlt : k < R.length
    · obtain ⟨B, off, rfl, hB, c0, c1, ⟨a', capv, c2, hv⟩, s0⟩ := hR.out.get hlt
      have d0 := (hbel.cell (p := ⟨B, off + k * 3, none⟩) hB).trans c0
      have d1 := (hbel.cell (p := ⟨B, off + k * 3 + 1, none⟩) hB).trans c1
      have d2 := (hbel.cell (p := ⟨B, off + k * 3 + 2, none⟩) hB).trans c2
      have HM : Hid (∀ u, Below wr.heap.size wr u → Calls Try.prog 62 #[.slice a L.length cap, .agg #[.string (R.getD k default).key, .int .i64 (R.getD k default).op, .slice a' (R.getD k default).vals.length capv]] u fun e w' => e = .returned (.bool (meetsL L (R.getD k default))) ∧ Below u.heap.size u w') :=
        fun u hu => Meets_calls a cap L _ _ a' capv _ u (hL.out.on (on2 hbel hu)) (hv.on (on2 hbel hu))
      clear c0 c1 c2 hv
      cases hm : meetsL L (R.getD k default)
      · have HF : Hid (matchL L R = false) := allTo_false hlt hm
        rw [hm] at HM
        clear hm hall
        generalize R.getD k default = r at d0 d1 d2 s0 HM
        go_wp2_with fail
        refine (HM.out _ (by go_grown)).mono ?_
        rintro e w1 ⟨rfl, hb⟩
        have hb' := on2 hbel (on2 (by go_grown) hb)
        clear HM d0 d1 d2
        go_wp2_with fail
        go_ret
        exact ⟨retb HF.out.symm, hb'⟩
      · have HG : Hid (∀ j, j < k + 1 → meetsL L (R.getD j default) = true) := fun j hj => by
          rcases Nat.lt_succ_iff_lt_or_eq.1 hj with h | rfl
          · exact hall.out j h
          · exact hm
        rw [hm] at HM
        clear hm hall
        generalize R.getD k default = r at d0 d1 d2 s0 HM
        go_wp2_with fail
        refine (HM.out _ (by go_grown)).mono ?_
        rintro e w1 ⟨rfl, hb⟩
        have hb' := on2 hbel (on2 (by go_grown) hb)
        clear HM d0 d1 d2
        go_wp2_with fail
        go_roundw
        case rel => exact ⟨k + 1, by omega, by go_num, hb', HG⟩
        case measure => simp [intOf]; omega
    · have HF : Hid (matchL L R = true) := allTo_true (fun j hj => hall.out j (by omega))
      go_wp2
      go_ret
      exact ⟨retb HF.out.symm, hbel⟩

set_option maxHeartbeats 1000000 in
theorem rMatch_calls (a : Option Addr) (cap : Nat) (L : List Lab) (b : Option Addr) (cap' : Nat) (R : List Ask) (w : World) (hL : Hid (LabsAt w a L)) (hR : Hid (AsksAt w b R)) : Calls Try.prog 40 #[.slice a L.length cap, .slice b R.length cap'] w fun e w' => e = .returned (.bool (matchL L R)) ∧ Below w.heap.size w w' := by
  have hlen := hR.out.1
  go_enter Try.func40, Try.ntmps40
  go_wp2
  go_loopw [5] (fun i wr => ∃ k : Nat, k ≤ R.length ∧ i = .int .i64 k ∧ Below w.heap.size w wr ∧ Hid (∀ j, j < k → meetsL L (R.getD j default) = true)) (fun i _ => R.length - (intOf i).toNat)
  case atStart => exact ⟨0, Nat.zero_le _, rfl, Below.refl _ _, fun j hj => absurd hj (Nat.not_lt_zero _)⟩
  case round =>
    obtain ⟨k, hk, rfl, hbel, hall⟩ := hrel
    by_cases hlt : k < R.length
    · obtain ⟨B, off, rfl, hB, c0, c1, ⟨a', capv, c2, hv⟩, s0⟩ := hR.out.get hlt
      have d0 := (hbel.cell (p := ⟨B, off + k * 3, none⟩) hB).trans c0
      have d1 := (hbel.cell (p := ⟨B, off + k * 3 + 1, none⟩) hB).trans c1
      have d2 := (hbel.cell (p := ⟨B, off + k * 3 + 2, none⟩) hB).trans c2
      have HM : Hid (∀ u, Below wr.heap.size wr u → Calls Try.prog 54 #[.slice a L.length cap, .agg #[.string (R.getD k default).key, .int .i64 (R.getD k default).op, .slice a' (R.getD k default).vals.length capv]] u fun e w' => e = .returned (.bool (meetsL L (R.getD k default))) ∧ Below u.heap.size u w') :=
        fun u hu => rMeets_calls a cap L _ _ a' capv _ u (hL.out.on (on2 hbel hu)) (hv.on (on2 hbel hu))
      clear c0 c1 c2 hv
      cases hm : meetsL L (R.getD k default)
      · have HF : Hid (matchL L R = false) := allTo_false hlt hm
        rw [hm] at HM
        clear hm hall
        generalize R.getD k default = r at d0 d1 d2 s0 HM
        go_wp2_with fail
        refine (HM.out _ (by go_grown)).mono ?_
        rintro e w1 ⟨rfl, hb⟩
        have hb' := on2 hbel (on2 (by go_grown) hb)
        clear HM d0 d1 d2
        go_wp2_with fail
        go_ret
        exact ⟨retb HF.out.symm, hb'⟩
      · have HG : Hid (∀ j, j < k + 1 → meetsL L (R.getD j default) = true) := fun j hj => by
          rcases Nat.lt_succ_iff_lt_or_eq.1 hj with h | rfl
          · exact hall.out j h
          · exact hm
        rw [hm] at HM
        clear hm hall
        generalize R.getD k default = r at d0 d1 d2 s0 HM
        go_wp2_with fail
        refine (HM.out _ (by go_grown)).mono ?_
        rintro e w1 ⟨rfl, hb⟩
        have hb' := on2 hbel (on2 (by go_grown) hb)
        clear HM d0 d1 d2
        go_wp2_with fail
        go_roundw
        case rel => exact ⟨k + 1, by omega, by go_num, hb', HG⟩
        case measure => simp [intOf]; omega
    · have HF : Hid (matchL L R = true) := allTo_true (fun j hj => hall.out j (by omega))
      go_wp2
      go_ret
      exact ⟨retb HF.out.symm, hbel⟩
end Go.Proofs.Yteihniiacfghoaa
namespace Go.Proofs.Yteihniiacfghoaa
open Go.RowKit
set_option linter.unusedSimpArgs false

/-- What is asked of a function that tells taints: it answers p, and leaves all that was there. -/
def PredT (g : Nat) (lb : Array Value) (p : Tnt → Bool) (w : World) : Prop :=
  ∀ (W : World) (x : Tnt), Below w.heap.size w W → Calls Try.prog g (#[.agg #[.string x.1, .string x.2.1, .int .i64 x.2.2]] ++ lb) W fun e w' => e = .returned (.bool (p x)) ∧ Below W.heap.size W w'

/-- What is asked of a function that tells what is borne: it answers p, and leaves all that was there. -/
def PredB (g : Nat) (lb : Array Value) (p : Bear → Bool) (w : World) : Prop :=
  ∀ (W : World) (x : Bear), Below w.heap.size w W → Calls Try.prog g (#[.agg #[.string x.1, .string x.2.1, .bool x.2.2.1, .int .i64 x.2.2.2]] ++ lb) W fun e w' => e = .returned (.bool (p x)) ∧ Below W.heap.size W w'

set_option maxHeartbeats 2000000 in
theorem IndexB_calls (a : Option Addr) (cap : Nat) (L : List Bear) (w : World) (hL : Hid (BearsAt w a L)) (p : Bear → Bool) (g : Nat) (lb : Array Value) (eg : ∀ args w, (callFunc g args).run Try.prog w = .ok (.enter g args) w) (hp : Hid (PredB g lb p w)) :
    Calls Try.prog 80 #[.slice a L.length cap, .func (.func g) #[] lb] w fun e w' => ((∃ i : Nat, i < L.length ∧ p (L.getD i default) = true ∧ (∀ j, j < i → p (L.getD j default) = false) ∧ e = .returned (.int .i64 i)) ∨ ((∀ j, j < L.length → p (L.getD j default) = false) ∧ e = .returned (.int .i64 (-1)))) ∧ Below w.heap.size w w' := by
  have hlen := hL.out.1
  go_enter Try.func80, Try.ntmps80
  go_wp2
  go_loopw [8] (fun i wr => ∃ k : Nat, k ≤ L.length ∧ i = .int .i64 k ∧ Below w.heap.size w wr ∧ Hid (∀ j, j < k → p (L.getD j default) = false)) (fun i _ => L.length - (intOf i).toNat)
  case atStart => exact ⟨0, Nat.zero_le _, rfl, Below.refl _ _, fun j hj => absurd hj (Nat.not_lt_zero _)⟩
  case round =>
    obtain ⟨k, hk, rfl, hbel, hall⟩ := hrel
    by_cases hlt : k < L.length
    · obtain ⟨B, off, rfl, hB, c0, c1, c2, c3, ho⟩ := BearsAt.get hL.out hlt
      clear ho
      have d0 := (hbel.cell (p := ⟨B, off + k * 4, none⟩) hB).trans c0
      have d1 := (hbel.cell (p := ⟨B, off + k * 4 + 1, none⟩) hB).trans c1
      have d2 := (hbel.cell (p := ⟨B, off + k * 4 + 2, none⟩) hB).trans c2
      have d3 := (hbel.cell (p := ⟨B, off + k * 4 + 3, none⟩) hB).trans c3
      clear c0 c1 c2 c3
      have hcall := hp.out wr (L.getD k default) hbel
      have HG : Hid (p (L.getD k default) = false → ∀ j, j < k + 1 → p (L.getD j default) = false) := fun h j hj => by
        rcases Nat.lt_succ_iff_lt_or_eq.1 hj with h' | rfl
        · exact hall.out j h'
        · exact h
      have HF : Hid (p (L.getD k default) = true → ∃ i : Nat, i < L.length ∧ p (L.getD i default) = true ∧ (∀ j, j < i → p (L.getD j default) = false) ∧ Ending.returned (.int .i64 k) = .returned (.int .i64 i)) := fun h => ⟨k, hlt, h, hall.out, rfl⟩
      clear hall
      generalize L.getD k default = x at d0 d1 d2 d3 hcall HG HF
      cases hq : p x
      · have HG' : Hid (∀ j, j < k + 1 → p (L.getD j default) = false) := HG.out hq
        rw [hq] at hcall
        clear HG HF hq
        go_wp2_with fail
        refine hcall.mono ?_
        rintro e w' ⟨rfl, hb'⟩
        go_wp2_with fail
        go_roundw
        case rel => exact ⟨k + 1, by omega, by go_num, on2 hbel hb', HG'⟩
        case measure => simp [intOf]; omega
      · have HF' := HF.out hq
        have HF2 : Hid (∃ i : Nat, i < L.length ∧ p (L.getD i default) = true ∧ (∀ j, j < i → p (L.getD j default) = false) ∧ Ending.returned (.int .i64 k) = .returned (.int .i64 i)) := HF'
        rw [hq] at hcall
        clear HG HF hq HF'
        go_wp2_with fail
        refine hcall.mono ?_
        rintro e w' ⟨rfl, hb'⟩
        go_wp2_with fail
        go_ret
        exact ⟨.inl HF2.out, on2 hbel hb'⟩
    · have HA : Hid (∀ j, j < L.length → p (L.getD j default) = false) := fun j hj => hall.out j (by omega)
      clear hall
      go_wp2
      go_ret
      exact ⟨.inr ⟨HA.out, rfl⟩, hbel⟩

theorem ContainsB_calls (a : Option Addr) (cap : Nat) (L : List Bear) (w : World) (hL : Hid (BearsAt w a L)) (p : Bear → Bool) (g : Nat) (lb : Array Value) (eg : ∀ args w, (callFunc g args).run Try.prog w = .ok (.enter g args) w) (hp : Hid (PredB g lb p w)) :
    Calls Try.prog 70 #[.slice a L.length cap, .func (.func g) #[] lb] w fun e w' => e = .returned (.bool (L.any p)) ∧ Below w.heap.size w w' := by
  have hI := IndexB_calls a cap L w hL p g lb eg hp
  go_enter Try.func70, Try.ntmps70
  go_wp2_with fail
  refine hI.mono ?_
  rintro e w1 ⟨⟨i, hi, hy, _, rfl⟩ | ⟨hn, rfl⟩, hb⟩
  · have HA : Hid (L.any p = true) := any_yes hi hy
    clear hy
    go_wp2_with fail
    go_ret
    exact ⟨retb HA.out.symm, hb⟩
  · have HA : Hid (L.any p = false) := any_no hn
    clear hn
    go_wp2_with fail
    go_ret
    exact ⟨retb HA.out.symm, hb⟩
end Go.Proofs.Yteihniiacfghoaa
