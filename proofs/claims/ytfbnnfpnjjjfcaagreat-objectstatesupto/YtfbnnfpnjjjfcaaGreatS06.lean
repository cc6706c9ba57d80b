/- A value is empty, or a word: the two ways of the test, and its like. No condition beyond what each says. -/
import Derived.Test.YtfbnnfpnjjjfcaaGreatS05
namespace Go.Proofs.YtfbnnfpnjjjfcaaGreat
set_option maxHeartbeats 16000000
set_option maxRecDepth 100000
open Tryz Go.RowKit
theorem val_split (s : ByteArray) : (s.toList.isEmpty = true ∧ Hid (valB s = true)) ∨ (s.toList.isEmpty = false ∧ Hid (valB s = wordB s)) := by
 by_cases h : s.size = 0
 ·
  exact .inl ⟨empty_of h, by simp [Hid, valB, h]⟩
 ·
  exact .inr ⟨not_empty_of (by omega), by simp [Hid, valB, h]⟩
theorem op_paths (op : Int) : op = 1 ∨ op = 2 ∨ op = 3 ∨ op = 4 ∨ op = 5 ∨ op = 6 ∨ ((op == 1) = false ∧ (op == 2) = false ∧ (op == 3) = false ∧ (op == 4) = false ∧ (op == 5) = false ∧ (op == 6) = false) := by
 simp only [beq_eq_false_iff_ne, ne_eq]
 omega
def ReqBox (D : Nat) (key : ByteArray) (op : Int) (a : Option Addr) (n cap : Nat) (u : World) : Prop := D < u.heap.size ∧ u.cell? ⟨D, 0, none⟩ = some (.string key) ∧ u.cell? ⟨D, 1, none⟩ = some (.int .i64 op) ∧ u.cell? ⟨D, 2, none⟩ = some (.slice a n cap)
theorem ReqBox.on {D : Nat} {key : ByteArray} {op : Int} {a : Option Addr} {n cap : Nat} {u u' : World} (h : ReqBox D key op a n cap u) (hb : Below u.heap.size u u') : ReqBox D key op a n cap u' :=
 ⟨Nat.lt_of_lt_of_le h.1 hb.size, (hb.cell h.1).trans h.2.1, (hb.cell h.1).trans h.2.2.1, (hb.cell h.1).trans h.2.2.2⟩
theorem ReqBox.new (w : World) (key : ByteArray) (op : Int) (a : Option Addr) (n cap : Nat) : ReqBox w.heap.size key op a n cap (w.alloc (.cells #[.string key, .int .i64 op, .slice a n cap] 169)) :=
 ⟨by simp, by simp [go_sem], by simp [go_sem], by simp [go_sem]⟩
end Go.Proofs.YtfbnnfpnjjjfcaaGreat

namespace Go.Proofs.YtfbnnfpnjjjfcaaGreat
set_option maxHeartbeats 16000000
set_option maxRecDepth 100000
open Tryz Go.RowKit
set_option linter.unusedSimpArgs false
theorem rightV_12 {op : Int} (h : op = 1 ∨ op = 2) (V : List ByteArray) : rightV op V = (decide (1 ≤ V.length) && decide (V.length ≤ 64) && allTo V.length (fun i => valB (V.getD i default))) := by simp [rightV, h]
theorem rightV_34 {op : Int} (h : op = 3 ∨ op = 4) (V : List ByteArray) : rightV op V = decide (V.length = 0) := by rcases h with rfl | rfl <;> simp [rightV]
theorem rightV_56 {op : Int} (h : op = 5 ∨ op = 6) (V : List ByteArray) : rightV op V = (decide (V.length = 1) && numB (V.getD 0 default)) := by rcases h with rfl | rfl <;> simp [rightV]
theorem rightV_else {op : Int} (V : List ByteArray) (h1 : (op == 1) = false) (h2 : (op == 2) = false) (h3 : (op == 3) = false) (h4 : (op == 4) = false) (h5 : (op == 5) = false) (h6 : (op == 6) = false) : rightV op V = false := by
 simp only [beq_eq_false_iff_ne, ne_eq] at h1 h2 h3 h4 h5 h6
 simp [rightV, h1, h2, h3, h4, h5, h6]
theorem rightValues_1 (a : Option Addr) (cap : Nat) (V : List ByteArray) (w : World) (hV : Hid (StrsAt w a V)) : Calls prog 130 #[.int .i64 1, .slice a V.length cap] w fun e w' => e = .returned (.bool (rightV 1 V)) ∧ w' = w := by
 have hc := allValues_calls a cap V w hV
 have HR := rightV_12 (op := 1) (by simp) V
 generalize allTo V.length (fun i => valB (V.getD i default)) = b at hc HR
 have HF : Hid (rightV 1 V = (decide (1 ≤ V.length) && decide (V.length ≤ 64) && b)) := HR
 clear hV HR
 by_cases h1 : (1 : Int) ≤ (V.length : Int)
 ·
  by_cases h2 : (V.length : Int) ≤ 64
  ·
   have HG : Hid (rightV 1 V = b) := by rw [Hid, HF.out, decide_eq_true (show 1 ≤ V.length by omega), decide_eq_true (show V.length ≤ 64 by omega)]; simp
   clear HF
   go_enter func130, ntmps130
   go_wp2_with (go_at_call 144; refine hc.mono ?_; rintro e w' ⟨rfl, rfl⟩)
   go_ret
   exact ⟨retb HG.out.symm, rfl⟩
  ·
   have HG : Hid (rightV 1 V = false) := by rw [Hid, HF.out, decide_eq_false (show ¬ V.length ≤ 64 by omega)]; simp
   clear HF hc
   go_enter func130, ntmps130
   go_wp2
   go_ret
   exact ⟨retb HG.out.symm, rfl⟩
 ·
  have HG : Hid (rightV 1 V = false) := by rw [Hid, HF.out, decide_eq_false (show ¬ 1 ≤ V.length by omega)]; simp
  clear HF hc
  go_enter func130, ntmps130
  go_wp2
  go_ret
  exact ⟨retb HG.out.symm, rfl⟩
theorem rightValues_2 (a : Option Addr) (cap : Nat) (V : List ByteArray) (w : World) (hV : Hid (StrsAt w a V)) : Calls prog 130 #[.int .i64 2, .slice a V.length cap] w fun e w' => e = .returned (.bool (rightV 2 V)) ∧ w' = w := by
 have hc := allValues_calls a cap V w hV
 have HR := rightV_12 (op := 2) (by simp) V
 generalize allTo V.length (fun i => valB (V.getD i default)) = b at hc HR
 have HF : Hid (rightV 2 V = (decide (1 ≤ V.length) && decide (V.length ≤ 64) && b)) := HR
 clear hV HR
 by_cases h1 : (1 : Int) ≤ (V.length : Int)
 ·
  by_cases h2 : (V.length : Int) ≤ 64
  ·
   have HG : Hid (rightV 2 V = b) := by rw [Hid, HF.out, decide_eq_true (show 1 ≤ V.length by omega), decide_eq_true (show V.length ≤ 64 by omega)]; simp
   clear HF
   go_enter func130, ntmps130
   go_wp2_with (go_at_call 144; refine hc.mono ?_; rintro e w' ⟨rfl, rfl⟩)
   go_ret
   exact ⟨retb HG.out.symm, rfl⟩
  ·
   have HG : Hid (rightV 2 V = false) := by rw [Hid, HF.out, decide_eq_false (show ¬ V.length ≤ 64 by omega)]; simp
   clear HF hc
   go_enter func130, ntmps130
   go_wp2
   go_ret
   exact ⟨retb HG.out.symm, rfl⟩
 ·
  have HG : Hid (rightV 2 V = false) := by rw [Hid, HF.out, decide_eq_false (show ¬ 1 ≤ V.length by omega)]; simp
  clear HF hc
  go_enter func130, ntmps130
  go_wp2
  go_ret
  exact ⟨retb HG.out.symm, rfl⟩
theorem rightValues_3 (a : Option Addr) (cap : Nat) (V : List ByteArray) (w : World) : Calls prog 130 #[.int .i64 3, .slice a V.length cap] w fun e w' => e = .returned (.bool (rightV 3 V)) ∧ w' = w := by
 have HF : Hid (rightV 3 V = ((V.length : Int) == 0)) := by
  rw [Hid, rightV_34 (by simp), Bool.eq_iff_iff]; simp; try omega
 go_enter func130, ntmps130
 go_wp2
 go_ret
 exact ⟨retb (by first | exact HF.out.symm | (rw [HF.out]; simp)), rfl⟩
theorem rightValues_4 (a : Option Addr) (cap : Nat) (V : List ByteArray) (w : World) : Calls prog 130 #[.int .i64 4, .slice a V.length cap] w fun e w' => e = .returned (.bool (rightV 4 V)) ∧ w' = w := by
 have HF : Hid (rightV 4 V = ((V.length : Int) == 0)) := by
  rw [Hid, rightV_34 (by simp), Bool.eq_iff_iff]; simp; try omega
 go_enter func130, ntmps130
 go_wp2
 go_ret
 exact ⟨retb (by first | exact HF.out.symm | (rw [HF.out]; simp)), rfl⟩
theorem rightValues_5 (a : Option Addr) (cap : Nat) (V : List ByteArray) (w : World) (hV : Hid (StrsAt w a V)) : Calls prog 130 #[.int .i64 5, .slice a V.length cap] w fun e w' => e = .returned (.bool (rightV 5 V)) ∧ w' = w := by
 have hc := oneNumber_calls a cap V w hV
 have HF : Hid (rightV 5 V = (decide (V.length = 1) && numB (V.getD 0 default))) := rightV_56 (by simp) V
 generalize (decide (V.length = 1) && numB (V.getD 0 default)) = b at hc HF
 clear hV
 go_enter func130, ntmps130
 go_wp2_with (go_at_call 145; refine hc.mono ?_; rintro e w' ⟨rfl, rfl⟩)
 go_ret
 exact ⟨retb HF.out.symm, rfl⟩
theorem rightValues_6 (a : Option Addr) (cap : Nat) (V : List ByteArray) (w : World) (hV : Hid (StrsAt w a V)) : Calls prog 130 #[.int .i64 6, .slice a V.length cap] w fun e w' => e = .returned (.bool (rightV 6 V)) ∧ w' = w := by
 have hc := oneNumber_calls a cap V w hV
 have HF : Hid (rightV 6 V = (decide (V.length = 1) && numB (V.getD 0 default))) := rightV_56 (by simp) V
 generalize (decide (V.length = 1) && numB (V.getD 0 default)) = b at hc HF
 clear hV
 go_enter func130, ntmps130
 go_wp2_with (go_at_call 145; refine hc.mono ?_; rintro e w' ⟨rfl, rfl⟩)
 go_ret
 exact ⟨retb HF.out.symm, rfl⟩
theorem rightValues_calls (op : Int) (a : Option Addr) (cap : Nat) (V : List ByteArray) (w : World) (hV : Hid (StrsAt w a V)) : Calls prog 130 #[.int .i64 op, .slice a V.length cap] w fun e w' => e = .returned (.bool (rightV op V)) ∧ w' = w := by
 rcases op_paths op with rfl | rfl | rfl | rfl | rfl | rfl | ⟨h1, h2, h3, h4, h5, h6⟩
 ·
  exact rightValues_1 a cap V w hV
 ·
  exact rightValues_2 a cap V w hV
 ·
  exact rightValues_3 a cap V w
 ·
  exact rightValues_4 a cap V w
 ·
  exact rightValues_5 a cap V w hV
 ·
  exact rightValues_6 a cap V w hV
 ·
  have HF : Hid (rightV op V = false) := rightV_else V h1 h2 h3 h4 h5 h6
  go_enter func130, ntmps130
  go_wp2
  go_ret
  exact ⟨retb HF.out.symm, rfl⟩
theorem req_1 (key : ByteArray) (a : Option Addr) (cap : Nat) (V : List ByteArray) (w : World) (hV : Hid (StrsAt w a V)) (hw : Hid (∀ u, Calls prog 39 #[.string key] u fun e w' => e = .returned (.bool true) ∧ w' = u))  : Calls prog 76 #[.agg #[.string key, .int .i64 1, .slice a V.length cap]] w fun e w' => e = .returned (.bool (rightV 1 V)) ∧ Below w.heap.size w w' := by
 have hlen := hV.out.1
 have hb0 : Below w.heap.size w (w.alloc (.cells #[.string key, .int .i64 1, .slice a V.length cap] 169)) := (Below.refl _ _).alloc (Nat.le_refl _) _
 obtain ⟨q0, q1, q2, q3⟩ := ReqBox.new w key 1 a V.length cap
 have hV' : Hid (StrsAt (w.alloc (.cells #[.string key, .int .i64 1, .slice a V.length cap] 169)) a V) := hV.out.on hb0
 have HR : Hid (rightV 1 V = (decide (1 ≤ V.length) && decide (V.length ≤ 64) && allTo V.length (fun i => valB (V.getD i default)))) := rightV_12 (by simp) V
 clear hV
 generalize hu : (w.alloc (.cells #[.string key, .int .i64 1, .slice a V.length cap] 169)) = u at hb0 q0 q1 q2 q3 hV'
 go_enter func76, ntmps76
 go_wp2_with (go_at_call 39; refine (hw.out _).mono ?_; rintro e w' ⟨rfl, rfl⟩)
 try rw [hu]
 go_loop [3] (fun i => ∃ k : Nat, k ≤ V.length ∧ i = .int .i64 k ∧ Hid (∀ j, j < k → valB (V.getD j default) = true)) (fun i => V.length - (intOf i).toNat)
 case atStart => exact ⟨0, Nat.zero_le _, rfl, fun j hj => absurd hj (Nat.not_lt_zero _)⟩
 case round =>
  obtain ⟨k, hk, rfl, hall⟩ := hrel
  by_cases hlt : k < V.length
  ·
   obtain ⟨B, off, rfl, hB, c0, s0⟩ := hV'.out.get hlt
   have hI := rWord_calls (V.getD k default) s0
   have hbad : Hid (valB (V.getD k default) = false → rightV 1 V = false) := fun h => by rw [HR.out, allTo_false hlt h]; simp
   have hgo : Hid (valB (V.getD k default) = true → ∀ j, j < k + 1 → valB (V.getD j default) = true) := fun h j hj => by
    rcases Nat.lt_succ_iff_lt_or_eq.1 hj with h' | rfl
    ·
     exact hall.out j h'
    ·
     exact h
   have HV := val_split (V.getD k default)
   clear hall
   rcases HV with ⟨he, hv⟩ | ⟨he, hv⟩
   ·
    have HG : Hid (∀ j, j < k + 1 → valB (V.getD j default) = true) := hgo.out hv.out
    clear hv hbad hgo hI
    generalize V.getD k default = x at c0 s0 he
    go_wp2_with fail
    go_round
    case rel => exact ⟨k + 1, by omega, by go_num, HG⟩
    case measure => simp [intOf]; omega
   ·
    cases hv2 : wordB (V.getD k default)
    ·
     rw [hv2] at hI hv
     have HF : Hid (rightV 1 V = false) := hbad.out hv.out
     clear hv hv2 hbad hgo
     generalize V.getD k default = x at c0 s0 he hI
     go_wp2_with (go_at_call 39; refine (hI _).mono ?_; rintro e w' ⟨rfl, rfl⟩)
     go_ret
     exact ⟨retb HF.out.symm, hb0⟩
    ·
     rw [hv2] at hI hv
     have HG : Hid (∀ j, j < k + 1 → valB (V.getD j default) = true) := hgo.out hv.out
     clear hv hv2 hbad hgo
     generalize V.getD k default = x at c0 s0 he hI
     go_wp2_with (go_at_call 39; refine (hI _).mono ?_; rintro e w' ⟨rfl, rfl⟩)
     go_round
     case rel => exact ⟨k + 1, by omega, by go_num, HG⟩
     case measure => simp [intOf]; omega
  ·
   have HF : Hid (rightV 1 V = (decide (1 ≤ V.length) && decide (V.length ≤ 64))) := by rw [Hid, HR.out, allTo_true (fun j hj => hall.out j (by omega))]; simp
   clear hall HR
   by_cases h1 : (1 : Int) ≤ (V.length : Int)
   ·
    by_cases h2 : (V.length : Int) ≤ 64
    ·
     have HG : Hid (rightV 1 V = true) := by rw [Hid, HF.out]; simp; omega
     go_wp2_with fail
     go_ret
     exact ⟨retb HG.out.symm, hb0⟩
    ·
     have HG : Hid (rightV 1 V = false) := by rw [Hid, HF.out]; simp; omega
     go_wp2_with fail
     go_ret
     exact ⟨retb HG.out.symm, hb0⟩
   ·
    have HG : Hid (rightV 1 V = false) := by rw [Hid, HF.out]; simp; omega
    go_wp2_with fail
    go_ret
    exact ⟨retb HG.out.symm, hb0⟩
theorem req_2 (key : ByteArray) (a : Option Addr) (cap : Nat) (V : List ByteArray) (w : World) (hV : Hid (StrsAt w a V)) (hw : Hid (∀ u, Calls prog 39 #[.string key] u fun e w' => e = .returned (.bool true) ∧ w' = u))  : Calls prog 76 #[.agg #[.string key, .int .i64 2, .slice a V.length cap]] w fun e w' => e = .returned (.bool (rightV 2 V)) ∧ Below w.heap.size w w' := by
 have hlen := hV.out.1
 have hb0 : Below w.heap.size w (w.alloc (.cells #[.string key, .int .i64 2, .slice a V.length cap] 169)) := (Below.refl _ _).alloc (Nat.le_refl _) _
 obtain ⟨q0, q1, q2, q3⟩ := ReqBox.new w key 2 a V.length cap
 have hV' : Hid (StrsAt (w.alloc (.cells #[.string key, .int .i64 2, .slice a V.length cap] 169)) a V) := hV.out.on hb0
 have HR : Hid (rightV 2 V = (decide (1 ≤ V.length) && decide (V.length ≤ 64) && allTo V.length (fun i => valB (V.getD i default)))) := rightV_12 (by simp) V
 clear hV
 generalize hu : (w.alloc (.cells #[.string key, .int .i64 2, .slice a V.length cap] 169)) = u at hb0 q0 q1 q2 q3 hV'
 go_enter func76, ntmps76
 go_wp2_with (go_at_call 39; refine (hw.out _).mono ?_; rintro e w' ⟨rfl, rfl⟩)
 try rw [hu]
 go_loop [3] (fun i => ∃ k : Nat, k ≤ V.length ∧ i = .int .i64 k ∧ Hid (∀ j, j < k → valB (V.getD j default) = true)) (fun i => V.length - (intOf i).toNat)
 case atStart => exact ⟨0, Nat.zero_le _, rfl, fun j hj => absurd hj (Nat.not_lt_zero _)⟩
 case round =>
  obtain ⟨k, hk, rfl, hall⟩ := hrel
  by_cases hlt : k < V.length
  ·
   obtain ⟨B, off, rfl, hB, c0, s0⟩ := hV'.out.get hlt
   have hI := rWord_calls (V.getD k default) s0
   have hbad : Hid (valB (V.getD k default) = false → rightV 2 V = false) := fun h => by rw [HR.out, allTo_false hlt h]; simp
   have hgo : Hid (valB (V.getD k default) = true → ∀ j, j < k + 1 → valB (V.getD j default) = true) := fun h j hj => by
    rcases Nat.lt_succ_iff_lt_or_eq.1 hj with h' | rfl
    ·
     exact hall.out j h'
    ·
     exact h
   have HV := val_split (V.getD k default)
   clear hall
   rcases HV with ⟨he, hv⟩ | ⟨he, hv⟩
   ·
    have HG : Hid (∀ j, j < k + 1 → valB (V.getD j default) = true) := hgo.out hv.out
    clear hv hbad hgo hI
    generalize V.getD k default = x at c0 s0 he
    go_wp2_with fail
    go_round
    case rel => exact ⟨k + 1, by omega, by go_num, HG⟩
    case measure => simp [intOf]; omega
   ·
    cases hv2 : wordB (V.getD k default)
    ·
     rw [hv2] at hI hv
     have HF : Hid (rightV 2 V = false) := hbad.out hv.out
     clear hv hv2 hbad hgo
     generalize V.getD k default = x at c0 s0 he hI
     go_wp2_with (go_at_call 39; refine (hI _).mono ?_; rintro e w' ⟨rfl, rfl⟩)
     go_ret
     exact ⟨retb HF.out.symm, hb0⟩
    ·
     rw [hv2] at hI hv
     have HG : Hid (∀ j, j < k + 1 → valB (V.getD j default) = true) := hgo.out hv.out
     clear hv hv2 hbad hgo
     generalize V.getD k default = x at c0 s0 he hI
     go_wp2_with (go_at_call 39; refine (hI _).mono ?_; rintro e w' ⟨rfl, rfl⟩)
     go_round
     case rel => exact ⟨k + 1, by omega, by go_num, HG⟩
     case measure => simp [intOf]; omega
  ·
   have HF : Hid (rightV 2 V = (decide (1 ≤ V.length) && decide (V.length ≤ 64))) := by rw [Hid, HR.out, allTo_true (fun j hj => hall.out j (by omega))]; simp
   clear hall HR
   by_cases h1 : (1 : Int) ≤ (V.length : Int)
   ·
    by_cases h2 : (V.length : Int) ≤ 64
    ·
     have HG : Hid (rightV 2 V = true) := by rw [Hid, HF.out]; simp; omega
     go_wp2_with fail
     go_ret
     exact ⟨retb HG.out.symm, hb0⟩
    ·
     have HG : Hid (rightV 2 V = false) := by rw [Hid, HF.out]; simp; omega
     go_wp2_with fail
     go_ret
     exact ⟨retb HG.out.symm, hb0⟩
   ·
    have HG : Hid (rightV 2 V = false) := by rw [Hid, HF.out]; simp; omega
    go_wp2_with fail
    go_ret
    exact ⟨retb HG.out.symm, hb0⟩
theorem req_3 (key : ByteArray) (a : Option Addr) (cap : Nat) (V : List ByteArray) (w : World) (hw : Hid (∀ u, Calls prog 39 #[.string key] u fun e w' => e = .returned (.bool true) ∧ w' = u))  : Calls prog 76 #[.agg #[.string key, .int .i64 3, .slice a V.length cap]] w fun e w' => e = .returned (.bool (rightV 3 V)) ∧ Below w.heap.size w w' := by
 have hb0 : Below w.heap.size w (w.alloc (.cells #[.string key, .int .i64 3, .slice a V.length cap] 169)) := (Below.refl _ _).alloc (Nat.le_refl _) _
 have HF : Hid (rightV 3 V = ((V.length : Int) == 0)) := by
  rw [Hid, rightV_34 (by simp), Bool.eq_iff_iff]; simp; try omega
 go_enter func76, ntmps76
 go_wp2_with (go_at_call 39; refine (hw.out _).mono ?_; rintro e w' ⟨rfl, rfl⟩)
 go_ret
 exact ⟨retb (by first | exact HF.out.symm | (rw [HF.out]; simp)), hb0⟩
theorem req_4 (key : ByteArray) (a : Option Addr) (cap : Nat) (V : List ByteArray) (w : World) (hw : Hid (∀ u, Calls prog 39 #[.string key] u fun e w' => e = .returned (.bool true) ∧ w' = u))  : Calls prog 76 #[.agg #[.string key, .int .i64 4, .slice a V.length cap]] w fun e w' => e = .returned (.bool (rightV 4 V)) ∧ Below w.heap.size w w' := by
 have hb0 : Below w.heap.size w (w.alloc (.cells #[.string key, .int .i64 4, .slice a V.length cap] 169)) := (Below.refl _ _).alloc (Nat.le_refl _) _
 have HF : Hid (rightV 4 V = ((V.length : Int) == 0)) := by
  rw [Hid, rightV_34 (by simp), Bool.eq_iff_iff]; simp; try omega
 go_enter func76, ntmps76
 go_wp2_with (go_at_call 39; refine (hw.out _).mono ?_; rintro e w' ⟨rfl, rfl⟩)
 go_ret
 exact ⟨retb (by first | exact HF.out.symm | (rw [HF.out]; simp)), hb0⟩
theorem req_5 (key : ByteArray) (a : Option Addr) (cap : Nat) (V : List ByteArray) (w : World) (hV : Hid (StrsAt w a V)) (hw : Hid (∀ u, Calls prog 39 #[.string key] u fun e w' => e = .returned (.bool true) ∧ w' = u))  : Calls prog 76 #[.agg #[.string key, .int .i64 5, .slice a V.length cap]] w fun e w' => e = .returned (.bool (rightV 5 V)) ∧ Below w.heap.size w w' := by
 have hb0 : Below w.heap.size w (w.alloc (.cells #[.string key, .int .i64 5, .slice a V.length cap] 169)) := (Below.refl _ _).alloc (Nat.le_refl _) _
 have HR := rightV_56 (op := 5) (by simp) V
 by_cases h1 : (V.length : Int) = 1
 ·
  have hV' := hV.out.on hb0
  obtain ⟨y, rfl⟩ := List.length_eq_one_iff.1 (show V.length = 1 by omega)
  obtain ⟨B, off, rfl, hB, hc, _⟩ := hV'.get (k := 0) (by simp)
  rw [Nat.add_zero] at hc
  simp only [List.getD_cons_zero, List.length_cons, List.length_nil, Nat.zero_add] at hc hb0 ⊢
  have HF : Hid (rightV 5 [y] = numB y) := by rw [Hid, HR]; simp
  have hy := Whole_calls y
  generalize numB y = b at hy HF
  clear hV hV' h1 HR
  go_enter func76, ntmps76
  go_wp2_with (first | (go_at_call 39; refine (hw.out _).mono ?_; rintro e w' ⟨rfl, rfl⟩) | (go_at_call 77; refine (hy _).mono ?_; rintro e w' ⟨rfl, rfl⟩))
  go_ret
  exact ⟨retb HF.out.symm, hb0⟩
 ·
  have h1' : ((V.length : Int) != 1) = true := bne_iff_ne.2 h1
  have HF : Hid (rightV 5 V = false) := by
   have : decide (V.length = 1) = false := by simp; omega
   rw [Hid, HR, this]; rfl
  clear hV h1 HR
  go_enter func76, ntmps76
  go_wp2_with (go_at_call 39; refine (hw.out _).mono ?_; rintro e w' ⟨rfl, rfl⟩)
  go_ret
  exact ⟨retb HF.out.symm, hb0⟩
theorem req_6 (key : ByteArray) (a : Option Addr) (cap : Nat) (V : List ByteArray) (w : World) (hV : Hid (StrsAt w a V)) (hw : Hid (∀ u, Calls prog 39 #[.string key] u fun e w' => e = .returned (.bool true) ∧ w' = u))  : Calls prog 76 #[.agg #[.string key, .int .i64 6, .slice a V.length cap]] w fun e w' => e = .returned (.bool (rightV 6 V)) ∧ Below w.heap.size w w' := by
 have hb0 : Below w.heap.size w (w.alloc (.cells #[.string key, .int .i64 6, .slice a V.length cap] 169)) := (Below.refl _ _).alloc (Nat.le_refl _) _
 have HR := rightV_56 (op := 6) (by simp) V
 by_cases h1 : (V.length : Int) = 1
 ·
  have hV' := hV.out.on hb0
  obtain ⟨y, rfl⟩ := List.length_eq_one_iff.1 (show V.length = 1 by omega)
  obtain ⟨B, off, rfl, hB, hc, _⟩ := hV'.get (k := 0) (by simp)
  rw [Nat.add_zero] at hc
  simp only [List.getD_cons_zero, List.length_cons, List.length_nil, Nat.zero_add] at hc hb0 ⊢
  have HF : Hid (rightV 6 [y] = numB y) := by rw [Hid, HR]; simp
  have hy := Whole_calls y
  generalize numB y = b at hy HF
  clear hV hV' h1 HR
  go_enter func76, ntmps76
  go_wp2_with (first | (go_at_call 39; refine (hw.out _).mono ?_; rintro e w' ⟨rfl, rfl⟩) | (go_at_call 77; refine (hy _).mono ?_; rintro e w' ⟨rfl, rfl⟩))
  go_ret
  exact ⟨retb HF.out.symm, hb0⟩
 ·
  have h1' : ((V.length : Int) != 1) = true := bne_iff_ne.2 h1
  have HF : Hid (rightV 6 V = false) := by
   have : decide (V.length = 1) = false := by simp; omega
   rw [Hid, HR, this]; rfl
  clear hV h1 HR
  go_enter func76, ntmps76
  go_wp2_with (go_at_call 39; refine (hw.out _).mono ?_; rintro e w' ⟨rfl, rfl⟩)
  go_ret
  exact ⟨retb HF.out.symm, hb0⟩
theorem req_else (key : ByteArray) (op : Int) (a : Option Addr) (cap : Nat) (V : List ByteArray) (w : World) (hw : Hid (∀ u, Calls prog 39 #[.string key] u fun e w' => e = .returned (.bool true) ∧ w' = u)) (h1 : (op == 1) = false) (h2 : (op == 2) = false) (h3 : (op == 3) = false) (h4 : (op == 4) = false) (h5 : (op == 5) = false) (h6 : (op == 6) = false) : Calls prog 76 #[.agg #[.string key, .int .i64 op, .slice a V.length cap]] w fun e w' => e = .returned (.bool (rightV op V)) ∧ Below w.heap.size w w' := by
 have hb0 : Below w.heap.size w (w.alloc (.cells #[.string key, .int .i64 op, .slice a V.length cap] 169)) := (Below.refl _ _).alloc (Nat.le_refl _) _
 have HF : Hid (rightV op V = false) := rightV_else V h1 h2 h3 h4 h5 h6
 go_enter func76, ntmps76
 go_wp2_with (go_at_call 39; refine (hw.out _).mono ?_; rintro e w' ⟨rfl, rfl⟩)
 go_ret
 exact ⟨retb HF.out.symm, hb0⟩
theorem req_calls (key : ByteArray) (op : Int) (a : Option Addr) (cap : Nat) (V : List ByteArray) (w : World) (hk : key.size ≤ 140737488355328) (hV : Hid (StrsAt w a V)) : Calls prog 76 #[.agg #[.string key, .int .i64 op, .slice a V.length cap]] w fun e w' => e = .returned (.bool (wordB key && rightV op V)) ∧ Below w.heap.size w w' := by
 have hW := rWord_calls key hk
 cases hw : wordB key
 ·
  rw [hw] at hW
  have hb0 : Below w.heap.size w (w.alloc (.cells #[.string key, .int .i64 op, .slice a V.length cap] 169)) := (Below.refl _ _).alloc (Nat.le_refl _) _
  clear hw hV
  go_enter func76, ntmps76
  go_wp2_with (go_at_call 39; refine (hW _).mono ?_; rintro e w' ⟨rfl, rfl⟩)
  go_ret
  exact ⟨rfl, hb0⟩
 ·
  rw [hw] at hW
  rw [Bool.true_and]
  rcases op_paths op with rfl | rfl | rfl | rfl | rfl | rfl | ⟨h1, h2, h3, h4, h5, h6⟩
  ·
   exact req_1 key a cap V w hV hW
  ·
   exact req_2 key a cap V w hV hW
  ·
   exact req_3 key a cap V w hW
  ·
   exact req_4 key a cap V w hW
  ·
   exact req_5 key a cap V w hV hW
  ·
   exact req_6 key a cap V w hV hW
  ·
   exact req_else key op a cap V w hW h1 h2 h3 h4 h5 h6
theorem checkR_long {R : List Ask} (h : 64 < R.length) : checkR R = 3 := if_pos h
theorem checkR_bad {R : List Ask} {k : Nat} (h : ¬ 64 < R.length) (hk : k < R.length) (hb : askOk R k = false) : checkR R = 21 := by
 unfold checkR; rw [if_neg h, allTo_false hk hb]; rfl
theorem checkR_ok {R : List Ask} (h : ¬ 64 < R.length) (hall : ∀ j, j < R.length → askOk R j = true) : checkR R = 0 := by
 unfold checkR; rw [if_neg h, allTo_true hall]; rfl
theorem CheckReqs_calls (a : Option Addr) (cap : Nat) (R : List Ask) (w : World) (hR : Hid (AsksAt w a R)) : Calls prog 117 #[.slice a R.length cap] w fun e w' => e = .returned (.int .i64 (checkR R)) ∧ Below w.heap.size w w' := by
 by_cases h64 : (64 : Int) < (R.length : Int)
 ·
  have HF : Hid (checkR R = 3) := checkR_long (by omega)
  go_enter func117, ntmps117
  go_wp2
  go_ret
  exact ⟨reti HF.out.symm, Below.refl _ _⟩
 go_enter func117, ntmps117
 go_wp2
 go_loopw [10] (fun i wr => ∃ k : Nat, k ≤ R.length ∧ i = .int .i64 k ∧ Below w.heap.size w wr ∧ Hid (∀ j, j < k → askOk R j = true)) (fun i _ => R.length - (intOf i).toNat)
 case atStart => exact ⟨0, Nat.zero_le _, rfl, Below.refl _ _, fun j hj => absurd hj (Nat.not_lt_zero _)⟩
 case round =>
  obtain ⟨k, hk, rfl, hbel, hall⟩ := hrel
  by_cases hlt : k < R.length
  ·
   obtain ⟨B, off, rfl, hB, c0, c1, ⟨a', capv, c2, hv⟩, s0⟩ := hR.out.get hlt
   have d0 := (hbel.cell (p := ⟨B, off + k * 3, none⟩) hB).trans c0
   have d1 := (hbel.cell (p := ⟨B, off + k * 3 + 1, none⟩) hB).trans c1
   have d2 := (hbel.cell (p := ⟨B, off + k * 3 + 2, none⟩) hB).trans c2
   have hbad : Hid (askOk R k = false → checkR R = 21) := fun h => checkR_bad (by omega) hlt h
   have hgo : Hid (askOk R k = true → ∀ j, j < k + 1 → askOk R j = true) := fun h j hj => by
    rcases Nat.lt_succ_iff_lt_or_eq.1 hj with h' | rfl
    ·
     exact hall.out j h'
    ·
     exact h
   clear hall
   have hW := Word_calls (R.getD k default).key
   have HM : Hid (∀ u, Below wr.heap.size wr u → Calls prog 130 #[.int .i64 (R.getD k default).op, .slice a' (R.getD k default).vals.length capv] u fun e w' => e = .returned (.bool (rightV (R.getD k default).op (R.getD k default).vals)) ∧ w' = u) :=
    fun u hu => rightValues_calls _ a' capv _ u (hv.on (on2 hbel hu))
   have hok : Hid (askOk R k = (wordB (R.getD k default).key && rightV (R.getD k default).op (R.getD k default).vals)) := rfl
   clear c0 c1 c2 hv
   generalize R.getD k default = r at d0 d1 d2 s0 HM hW hok
   generalize wordB r.key = p at hW hok
   generalize rightV r.op r.vals = q at HM hok
   cases p <;> cases q
   ·
    have HF : Hid (checkR R = 21) := hbad.out hok.out
    clear hgo hbad hok
    go_wp2_with (first | (go_at_call 97; refine (hW _).mono ?_; rintro e w' ⟨rfl, rfl⟩) | (go_at_call 130; refine (HM.out _ (by go_grown)).mono ?_; rintro e w' ⟨rfl, rfl⟩))
    go_ret
    exact ⟨reti HF.out.symm, on2 hbel (by go_grown)⟩
   ·
    have HF : Hid (checkR R = 21) := hbad.out hok.out
    clear hgo hbad hok
    go_wp2_with (first | (go_at_call 97; refine (hW _).mono ?_; rintro e w' ⟨rfl, rfl⟩) | (go_at_call 130; refine (HM.out _ (by go_grown)).mono ?_; rintro e w' ⟨rfl, rfl⟩))
    go_ret
    exact ⟨reti HF.out.symm, on2 hbel (by go_grown)⟩
   ·
    have HF : Hid (checkR R = 21) := hbad.out hok.out
    clear hgo hbad hok
    go_wp2_with (first | (go_at_call 97; refine (hW _).mono ?_; rintro e w' ⟨rfl, rfl⟩) | (go_at_call 130; refine (HM.out _ (by go_grown)).mono ?_; rintro e w' ⟨rfl, rfl⟩))
    go_ret
    exact ⟨reti HF.out.symm, on2 hbel (by go_grown)⟩
   ·
    have HG : Hid (∀ j, j < k + 1 → askOk R j = true) := hgo.out hok.out
    clear hgo hbad hok
    go_wp2_with (first | (go_at_call 97; refine (hW _).mono ?_; rintro e w' ⟨rfl, rfl⟩) | (go_at_call 130; refine (HM.out _ (by go_grown)).mono ?_; rintro e w' ⟨rfl, rfl⟩))
    go_roundw
    case rel => exact ⟨k + 1, by omega, by go_num, on2 hbel (by go_grown), HG⟩
    case measure => simp [intOf]; omega
  ·
   have HF : Hid (checkR R = 0) := checkR_ok (by omega) (fun j hj => hall.out j (by omega))
   go_wp2
   go_ret
   exact ⟨reti HF.out.symm, hbel⟩
theorem rCheckReqs_calls (a : Option Addr) (cap : Nat) (R : List Ask) (w : World) (hR : Hid (AsksAt w a R)) : Calls prog 74 #[.slice a R.length cap] w fun e w' => e = .returned (.int .i64 (checkR R)) ∧ Below w.heap.size w w' := by
 by_cases h64 : (64 : Int) < (R.length : Int)
 ·
  have HF : Hid (checkR R = 3) := checkR_long (by omega)
  go_enter func74, ntmps74
  go_wp2
  go_ret
  exact ⟨reti HF.out.symm, Below.refl _ _⟩
 go_enter func74, ntmps74
 go_wp2
 go_loopw [3] (fun i wr => ∃ k : Nat, k ≤ R.length ∧ i = .int .i64 k ∧ Below w.heap.size w wr ∧ Hid (∀ j, j < k → askOk R j = true)) (fun i _ => R.length - (intOf i).toNat)
 case atStart => exact ⟨0, Nat.zero_le _, rfl, Below.refl _ _, fun j hj => absurd hj (Nat.not_lt_zero _)⟩
 case round =>
  obtain ⟨k, hk, rfl, hbel, hall⟩ := hrel
  by_cases hlt : k < R.length
  ·
   obtain ⟨B, off, rfl, hB, c0, c1, ⟨a', capv, c2, hv⟩, s0⟩ := hR.out.get hlt
   have d0 := (hbel.cell (p := ⟨B, off + k * 3, none⟩) hB).trans c0
   have d1 := (hbel.cell (p := ⟨B, off + k * 3 + 1, none⟩) hB).trans c1
   have d2 := (hbel.cell (p := ⟨B, off + k * 3 + 2, none⟩) hB).trans c2
   have hbad : Hid (askOk R k = false → checkR R = 21) := fun h => checkR_bad (by omega) hlt h
   have hgo : Hid (askOk R k = true → ∀ j, j < k + 1 → askOk R j = true) := fun h j hj => by
    rcases Nat.lt_succ_iff_lt_or_eq.1 hj with h' | rfl
    ·
     exact hall.out j h'
    ·
     exact h
   clear hall
   have HM : Hid (∀ u, Below wr.heap.size wr u → Calls prog 76 #[.agg #[.string (R.getD k default).key, .int .i64 (R.getD k default).op, .slice a' (R.getD k default).vals.length capv]] u fun e w' => e = .returned (.bool (wordB (R.getD k default).key && rightV (R.getD k default).op (R.getD k default).vals)) ∧ Below u.heap.size u w') :=
    fun u hu => req_calls _ _ a' capv _ u s0 (hv.on (on2 hbel hu))
   have hok : Hid (askOk R k = (wordB (R.getD k default).key && rightV (R.getD k default).op (R.getD k default).vals)) := rfl
   clear c0 c1 c2 hv
   generalize R.getD k default = r at d0 d1 d2 s0 HM hok
   generalize (wordB r.key && rightV r.op r.vals) = q at HM hok
   cases q
   ·
    have HF : Hid (checkR R = 21) := hbad.out hok.out
    clear hgo hbad hok
    go_wp2_with fail
    refine (HM.out _ (Below.refl _ _)).mono ?_
    rintro e w1 ⟨rfl, hb2⟩
    clear d0 d1 d2
    go_wp2_with fail
    go_ret
    exact ⟨reti HF.out.symm, on2 hbel hb2⟩
   ·
    have HG : Hid (∀ j, j < k + 1 → askOk R j = true) := hgo.out hok.out
    clear hgo hbad hok
    go_wp2_with fail
    refine (HM.out _ (Below.refl _ _)).mono ?_
    rintro e w1 ⟨rfl, hb2⟩
    clear d0 d1 d2
    go_wp2_with fail
    go_roundw
    case rel => exact ⟨k + 1, by omega, by go_num, on2 hbel hb2, HG⟩
    case measure => simp [intOf]; omega
  ·
   have HF : Hid (checkR R = 0) := checkR_ok (by omega) (fun j hj => hall.out j (by omega))
   go_wp2
   go_ret
   exact ⟨reti HF.out.symm, hbel⟩
end Go.Proofs.YtfbnnfpnjjjfcaaGreat

