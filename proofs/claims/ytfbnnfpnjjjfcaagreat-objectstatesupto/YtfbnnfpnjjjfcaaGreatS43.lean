/- object.CheckState, and its like. No condition beyond what each says. -/
import Derived.Test.YtfbnnfpnjjjfcaaGreatS41
namespace Go.Proofs.YtfbnnfpnjjjfcaaGreat
set_option maxHeartbeats 16000000
set_option maxRecDepth 100000
open Tryz Go.RowKit
set_option linter.unusedSimpArgs false
def okC (x : StateD) (j : Nat) : Bool := match j with
 | 0 => decide (x.1.length ≤ 256)
 | 1 => decide (x.2.1.length ≤ 256)
 | 2 => decide (x.2.2.1.length ≤ 256)
 | 3 => decide (x.2.2.2.1.length ≤ 256)
 | 4 => decide (x.2.2.2.2.1.length ≤ 256)
 | 5 => decide (x.2.2.2.2.2.length ≤ 256)
 | _ => true
def okR (x : StateD) (j : Nat) : Bool := match j with
 | 0 => x.1.all rightPod && risesBy sLt (fun y => y.1) x.1
 | 1 => x.2.1.all rightNode && risesBy sLt (fun y => y.1) x.2.1
 | 2 => x.2.2.1.all rightVolume && risesBy sLt (fun y => y.1) x.2.2.1
 | 3 => x.2.2.2.1.all rightClaim && risesBy sLt (fun y => y.1) x.2.2.2.1
 | 4 => x.2.2.2.2.1.all rightClass && risesBy sLt (fun y => y.1) x.2.2.2.2.1
 | 5 => x.2.2.2.2.2.all rightBudget && risesBy sLt (fun y => y.1) x.2.2.2.2.2
 | _ => true
def checkS (x : StateD) : Int := if allTo 6 (okC x) then (if allTo 6 (okR x) then 0 else 41) else 3
theorem CheckState_calls (ss : List Value) (A : Where) (x : StateD) (w : World) (hs : RState A w ss x) : Calls prog 16 #[.agg ss.toArray] w fun e w' => e = .returned (.int .i64 (checkS x)) ∧ Below w.heap.size w w' := by
 have his : (prog.info? 61).map (·.size) = some ss.length := by rw [RState.firm.len hs]; exact infoSta
 have HS : Hid (RState A w ss x) := hs
 clear hs
 obtain ⟨U0, hU0⟩ : ∃ U0, U0 = w.alloc (.cells ss.toArray 61) := ⟨_, rfl⟩
 have HS0 : Hid (U0.heap.size = w.heap.size + 1) := by rw [Hid, hU0]; simp
 have HH0 : Hid (Held w [(w.heap.size, ss)] [] U0) := by rw [Hid, hU0]; exact (Held.start w).push rfl ss _
 go_enter func16, ntmps16
 go_wp2_with fail
 rw [← hU0]
 clear hU0
 refine (kinds_calls _).mono ?_
 rintro e u1 ⟨rfl, hu1⟩
 have HH1 : Hid (Held w [(w.heap.size + 1, [.iface 136 (.agg #[.iface 132 (.agg #[])]), .iface 141 (.agg #[.iface 137 (.agg #[])]), .iface 146 (.agg #[.iface 142 (.agg #[])]), .iface 151 (.agg #[.iface 147 (.agg #[])]), .iface 156 (.agg #[.iface 152 (.agg #[])]), .iface 161 (.agg #[.iface 157 (.agg #[])])]), (w.heap.size, ss)] [] u1) := by rw [Hid, hu1]; exact HH0.out.push HS0.out [.iface 136 (.agg #[.iface 132 (.agg #[])]), .iface 141 (.agg #[.iface 137 (.agg #[])]), .iface 146 (.agg #[.iface 142 (.agg #[])]), .iface 151 (.agg #[.iface 147 (.agg #[])]), .iface 156 (.agg #[.iface 152 (.agg #[])]), .iface 161 (.agg #[.iface 157 (.agg #[])])] _
 rw [HS0.out]
 clear hu1 HH0 HS0
 go_wp2_with fail
 go_loopw [9] (fun i wr => ∃ k : Nat, k ≤ 6 ∧ i = .int .i64 k ∧ Hid (Held w [(w.heap.size + 1, [.iface 136 (.agg #[.iface 132 (.agg #[])]), .iface 141 (.agg #[.iface 137 (.agg #[])]), .iface 146 (.agg #[.iface 142 (.agg #[])]), .iface 151 (.agg #[.iface 147 (.agg #[])]), .iface 156 (.agg #[.iface 152 (.agg #[])]), .iface 161 (.agg #[.iface 157 (.agg #[])])]), (w.heap.size, ss)] [] wr) ∧ Hid (∀ j, j < k → okC x j = true)) (fun i _ => 6 - (intOf i).toNat)
 case atStart => exact ⟨0, Nat.zero_le _, rfl, HH1, fun j hj => absurd hj (Nat.not_lt_zero _)⟩
 case round =>
  obtain ⟨k, hk, rfl, hH, hall⟩ := hrel
  clear HH1
  have HR : Hid (wr.rangeAt w.heap.size 0 ss) := hH.out.get 1 rfl
  have HO : Hid (RState A wr ss x) := RState.firm.kept HS.out (Kept.below hH.out.below)
  have hgo : ∀ m, m = k → okC x m = true → Hid (∀ j, j < k + 1 → okC x j = true) := fun m hm hb j hj => by
   rcases Nat.lt_succ_iff_lt_or_eq.1 hj with h' | h'
   ·
    exact hall.out j h'
   ·
    rw [h', ← hm]; exact hb
  have HGO : Hid (∀ m, m = k → okC x m = true → Hid (∀ j, j < k + 1 → okC x j = true)) := hgo
  have HBAD : Hid (k < 6 → okC x k = false → checkS x = 3) := fun h1 h2 => by rw [checkS, allTo_false h1 h2]; rfl
  have HEND : Hid (k = 6 → allTo 6 (okC x) = true) := fun h1 => allTo_true (fun j hj => hall.out j (by omega))
  clear hall hgo
  have hcase : k = 0 ∨ k = 1 ∨ k = 2 ∨ k = 3 ∨ k = 4 ∨ k = 5 ∨ k = 6 := by omega
  clear hk
  rcases hcase with rfl | rfl | rfl | rfl | rfl | rfl | rfl
  ·
   have hc0 := hH.out.cell 0 (b := w.heap.size + 1) rfl 0 rfl
   have hcl := hH.out.lt 0 (b := w.heap.size + 1) rfl
   have HC := Pod_ocount ss A x wr HO.out
   have HV : Hid (okC x 0 = decide (x.1.length ≤ 256)) := rfl
   generalize x.1.length = n at HC HV
   go_wp2_with (first | (refine BigFrame.wpList_want rfl (fun _ hKK => wp_load_mid 61 _ rfl (w.heap.size) 0 rfl ss _ HR.out underlying61 rfl his (hKK _ _ ?_))) | fail)
   refine HC.mono ?_
   rintro e wr2 ⟨rfl, hb2⟩
   have HH2 : Hid (Held w [(w.heap.size + 1, [.iface 136 (.agg #[.iface 132 (.agg #[])]), .iface 141 (.agg #[.iface 137 (.agg #[])]), .iface 146 (.agg #[.iface 142 (.agg #[])]), .iface 151 (.agg #[.iface 147 (.agg #[])]), .iface 156 (.agg #[.iface 152 (.agg #[])]), .iface 161 (.agg #[.iface 157 (.agg #[])])]), (w.heap.size, ss)] [] wr2) := hH.out.on hb2
   by_cases hn : n ≤ 256
   ·
    have HG : Hid (∀ j, j < 0 + 1 → okC x j = true) := HGO.out 0 rfl (by rw [HV.out]; simpa using hn)
    have hn1 : ¬ ((256 : Int) < (n : Int)) := by omega
    have hn2 : (n : Int) ≤ 256 := by omega
    clear HGO HBAD HEND hc0 hcl
    go_wp2_with fail
    go_roundw
    case rel => exact ⟨1, by omega, by go_num, HH2, HG⟩
    case measure => simp [intOf]
   ·
    have HF : Hid (checkS x = 3) := HBAD.out (by omega) (by rw [HV.out]; simpa using hn)
    have hn1 : (256 : Int) < (n : Int) := by omega
    clear HGO HBAD HEND hc0 hcl hn
    go_wp2_with fail
    go_ret
    exact ⟨reti HF.out.symm, HH2.out.below⟩
  ·
   have hc0 := hH.out.cell 0 (b := w.heap.size + 1) rfl 1 rfl
   have hcl := hH.out.lt 0 (b := w.heap.size + 1) rfl
   have HC := Node_ocount ss A x wr HO.out
   have HV : Hid (okC x 1 = decide (x.2.1.length ≤ 256)) := rfl
   generalize x.2.1.length = n at HC HV
   go_wp2_with (first | (refine BigFrame.wpList_want rfl (fun _ hKK => wp_load_mid 61 _ rfl (w.heap.size) 0 rfl ss _ HR.out underlying61 rfl his (hKK _ _ ?_))) | fail)
   refine HC.mono ?_
   rintro e wr2 ⟨rfl, hb2⟩
   have HH2 : Hid (Held w [(w.heap.size + 1, [.iface 136 (.agg #[.iface 132 (.agg #[])]), .iface 141 (.agg #[.iface 137 (.agg #[])]), .iface 146 (.agg #[.iface 142 (.agg #[])]), .iface 151 (.agg #[.iface 147 (.agg #[])]), .iface 156 (.agg #[.iface 152 (.agg #[])]), .iface 161 (.agg #[.iface 157 (.agg #[])])]), (w.heap.size, ss)] [] wr2) := hH.out.on hb2
   by_cases hn : n ≤ 256
   ·
    have HG : Hid (∀ j, j < 1 + 1 → okC x j = true) := HGO.out 1 rfl (by rw [HV.out]; simpa using hn)
    have hn1 : ¬ ((256 : Int) < (n : Int)) := by omega
    have hn2 : (n : Int) ≤ 256 := by omega
    clear HGO HBAD HEND hc0 hcl
    go_wp2_with fail
    go_roundw
    case rel => exact ⟨2, by omega, by go_num, HH2, HG⟩
    case measure => simp [intOf]
   ·
    have HF : Hid (checkS x = 3) := HBAD.out (by omega) (by rw [HV.out]; simpa using hn)
    have hn1 : (256 : Int) < (n : Int) := by omega
    clear HGO HBAD HEND hc0 hcl hn
    go_wp2_with fail
    go_ret
    exact ⟨reti HF.out.symm, HH2.out.below⟩
  ·
   have hc0 := hH.out.cell 0 (b := w.heap.size + 1) rfl 2 rfl
   have hcl := hH.out.lt 0 (b := w.heap.size + 1) rfl
   have HC := Volume_ocount ss A x wr HO.out
   have HV : Hid (okC x 2 = decide (x.2.2.1.length ≤ 256)) := rfl
   generalize x.2.2.1.length = n at HC HV
   go_wp2_with (first | (refine BigFrame.wpList_want rfl (fun _ hKK => wp_load_mid 61 _ rfl (w.heap.size) 0 rfl ss _ HR.out underlying61 rfl his (hKK _ _ ?_))) | fail)
   refine HC.mono ?_
   rintro e wr2 ⟨rfl, hb2⟩
   have HH2 : Hid (Held w [(w.heap.size + 1, [.iface 136 (.agg #[.iface 132 (.agg #[])]), .iface 141 (.agg #[.iface 137 (.agg #[])]), .iface 146 (.agg #[.iface 142 (.agg #[])]), .iface 151 (.agg #[.iface 147 (.agg #[])]), .iface 156 (.agg #[.iface 152 (.agg #[])]), .iface 161 (.agg #[.iface 157 (.agg #[])])]), (w.heap.size, ss)] [] wr2) := hH.out.on hb2
   by_cases hn : n ≤ 256
   ·
    have HG : Hid (∀ j, j < 2 + 1 → okC x j = true) := HGO.out 2 rfl (by rw [HV.out]; simpa using hn)
    have hn1 : ¬ ((256 : Int) < (n : Int)) := by omega
    have hn2 : (n : Int) ≤ 256 := by omega
    clear HGO HBAD HEND hc0 hcl
    go_wp2_with fail
    go_roundw
    case rel => exact ⟨3, by omega, by go_num, HH2, HG⟩
    case measure => simp [intOf]
   ·
    have HF : Hid (checkS x = 3) := HBAD.out (by omega) (by rw [HV.out]; simpa using hn)
    have hn1 : (256 : Int) < (n : Int) := by omega
    clear HGO HBAD HEND hc0 hcl hn
    go_wp2_with fail
    go_ret
    exact ⟨reti HF.out.symm, HH2.out.below⟩
  ·
   have hc0 := hH.out.cell 0 (b := w.heap.size + 1) rfl 3 rfl
   have hcl := hH.out.lt 0 (b := w.heap.size + 1) rfl
   have HC := Claim_ocount ss A x wr HO.out
   have HV : Hid (okC x 3 = decide (x.2.2.2.1.length ≤ 256)) := rfl
   generalize x.2.2.2.1.length = n at HC HV
   go_wp2_with (first | (refine BigFrame.wpList_want rfl (fun _ hKK => wp_load_mid 61 _ rfl (w.heap.size) 0 rfl ss _ HR.out underlying61 rfl his (hKK _ _ ?_))) | fail)
   refine HC.mono ?_
   rintro e wr2 ⟨rfl, hb2⟩
   have HH2 : Hid (Held w [(w.heap.size + 1, [.iface 136 (.agg #[.iface 132 (.agg #[])]), .iface 141 (.agg #[.iface 137 (.agg #[])]), .iface 146 (.agg #[.iface 142 (.agg #[])]), .iface 151 (.agg #[.iface 147 (.agg #[])]), .iface 156 (.agg #[.iface 152 (.agg #[])]), .iface 161 (.agg #[.iface 157 (.agg #[])])]), (w.heap.size, ss)] [] wr2) := hH.out.on hb2
   by_cases hn : n ≤ 256
   ·
    have HG : Hid (∀ j, j < 3 + 1 → okC x j = true) := HGO.out 3 rfl (by rw [HV.out]; simpa using hn)
    have hn1 : ¬ ((256 : Int) < (n : Int)) := by omega
    have hn2 : (n : Int) ≤ 256 := by omega
    clear HGO HBAD HEND hc0 hcl
    go_wp2_with fail
    go_roundw
    case rel => exact ⟨4, by omega, by go_num, HH2, HG⟩
    case measure => simp [intOf]
   ·
    have HF : Hid (checkS x = 3) := HBAD.out (by omega) (by rw [HV.out]; simpa using hn)
    have hn1 : (256 : Int) < (n : Int) := by omega
    clear HGO HBAD HEND hc0 hcl hn
    go_wp2_with fail
    go_ret
    exact ⟨reti HF.out.symm, HH2.out.below⟩
  ·
   have hc0 := hH.out.cell 0 (b := w.heap.size + 1) rfl 4 rfl
   have hcl := hH.out.lt 0 (b := w.heap.size + 1) rfl
   have HC := Class_ocount ss A x wr HO.out
   have HV : Hid (okC x 4 = decide (x.2.2.2.2.1.length ≤ 256)) := rfl
   generalize x.2.2.2.2.1.length = n at HC HV
   go_wp2_with (first | (refine BigFrame.wpList_want rfl (fun _ hKK => wp_load_mid 61 _ rfl (w.heap.size) 0 rfl ss _ HR.out underlying61 rfl his (hKK _ _ ?_))) | fail)
   refine HC.mono ?_
   rintro e wr2 ⟨rfl, hb2⟩
   have HH2 : Hid (Held w [(w.heap.size + 1, [.iface 136 (.agg #[.iface 132 (.agg #[])]), .iface 141 (.agg #[.iface 137 (.agg #[])]), .iface 146 (.agg #[.iface 142 (.agg #[])]), .iface 151 (.agg #[.iface 147 (.agg #[])]), .iface 156 (.agg #[.iface 152 (.agg #[])]), .iface 161 (.agg #[.iface 157 (.agg #[])])]), (w.heap.size, ss)] [] wr2) := hH.out.on hb2
   by_cases hn : n ≤ 256
   ·
    have HG : Hid (∀ j, j < 4 + 1 → okC x j = true) := HGO.out 4 rfl (by rw [HV.out]; simpa using hn)
    have hn1 : ¬ ((256 : Int) < (n : Int)) := by omega
    have hn2 : (n : Int) ≤ 256 := by omega
    clear HGO HBAD HEND hc0 hcl
    go_wp2_with fail
    go_roundw
    case rel => exact ⟨5, by omega, by go_num, HH2, HG⟩
    case measure => simp [intOf]
   ·
    have HF : Hid (checkS x = 3) := HBAD.out (by omega) (by rw [HV.out]; simpa using hn)
    have hn1 : (256 : Int) < (n : Int) := by omega
    clear HGO HBAD HEND hc0 hcl hn
    go_wp2_with fail
    go_ret
    exact ⟨reti HF.out.symm, HH2.out.below⟩
  ·
   have hc0 := hH.out.cell 0 (b := w.heap.size + 1) rfl 5 rfl
   have hcl := hH.out.lt 0 (b := w.heap.size + 1) rfl
   have HC := Budget_ocount ss A x wr HO.out
   have HV : Hid (okC x 5 = decide (x.2.2.2.2.2.length ≤ 256)) := rfl
   generalize x.2.2.2.2.2.length = n at HC HV
   go_wp2_with (first | (refine BigFrame.wpList_want rfl (fun _ hKK => wp_load_mid 61 _ rfl (w.heap.size) 0 rfl ss _ HR.out underlying61 rfl his (hKK _ _ ?_))) | fail)
   refine HC.mono ?_
   rintro e wr2 ⟨rfl, hb2⟩
   have HH2 : Hid (Held w [(w.heap.size + 1, [.iface 136 (.agg #[.iface 132 (.agg #[])]), .iface 141 (.agg #[.iface 137 (.agg #[])]), .iface 146 (.agg #[.iface 142 (.agg #[])]), .iface 151 (.agg #[.iface 147 (.agg #[])]), .iface 156 (.agg #[.iface 152 (.agg #[])]), .iface 161 (.agg #[.iface 157 (.agg #[])])]), (w.heap.size, ss)] [] wr2) := hH.out.on hb2
   by_cases hn : n ≤ 256
   ·
    have HG : Hid (∀ j, j < 5 + 1 → okC x j = true) := HGO.out 5 rfl (by rw [HV.out]; simpa using hn)
    have hn1 : ¬ ((256 : Int) < (n : Int)) := by omega
    have hn2 : (n : Int) ≤ 256 := by omega
    clear HGO HBAD HEND hc0 hcl
    go_wp2_with fail
    go_roundw
    case rel => exact ⟨6, by omega, by go_num, HH2, HG⟩
    case measure => simp [intOf]
   ·
    have HF : Hid (checkS x = 3) := HBAD.out (by omega) (by rw [HV.out]; simpa using hn)
    have hn1 : (256 : Int) < (n : Int) := by omega
    clear HGO HBAD HEND hc0 hcl hn
    go_wp2_with fail
    go_ret
    exact ⟨reti HF.out.symm, HH2.out.below⟩
  ·
   have HCC : Hid (allTo 6 (okC x) = true) := HEND.out rfl
   have HH1 : Hid (Held w [(w.heap.size, ss)] [] wr) := hH.out.less (fun z hz => List.mem_cons_of_mem _ hz) (fun _ h => h)
   have HWS : Hid (w.heap.size < wr.heap.size) := hH.out.lt 1 (b := w.heap.size) rfl
   clear HGO HBAD HEND hH HR HO
   go_wp2_with fail
   refine (kinds_calls _).mono ?_
   rintro e u1 ⟨rfl, hu1⟩
   obtain ⟨B, hB⟩ : ∃ B, B = wr.heap.size := ⟨_, rfl⟩
   rw [← hB]
   have HH2 : Hid (Held w [(B, [.iface 136 (.agg #[.iface 132 (.agg #[])]), .iface 141 (.agg #[.iface 137 (.agg #[])]), .iface 146 (.agg #[.iface 142 (.agg #[])]), .iface 151 (.agg #[.iface 147 (.agg #[])]), .iface 156 (.agg #[.iface 152 (.agg #[])]), .iface 161 (.agg #[.iface 157 (.agg #[])])]), (w.heap.size, ss)] [] u1) := by rw [Hid, hu1]; exact HH1.out.push hB.symm [.iface 136 (.agg #[.iface 132 (.agg #[])]), .iface 141 (.agg #[.iface 137 (.agg #[])]), .iface 146 (.agg #[.iface 142 (.agg #[])]), .iface 151 (.agg #[.iface 147 (.agg #[])]), .iface 156 (.agg #[.iface 152 (.agg #[])]), .iface 161 (.agg #[.iface 157 (.agg #[])])] _
   clear hu1 hB HH1 HWS
   go_wp2_with fail
   go_loopw [20] (fun i wr => ∃ k : Nat, k ≤ 6 ∧ i = .int .i64 k ∧ Hid (Held w [(B, [.iface 136 (.agg #[.iface 132 (.agg #[])]), .iface 141 (.agg #[.iface 137 (.agg #[])]), .iface 146 (.agg #[.iface 142 (.agg #[])]), .iface 151 (.agg #[.iface 147 (.agg #[])]), .iface 156 (.agg #[.iface 152 (.agg #[])]), .iface 161 (.agg #[.iface 157 (.agg #[])])]), (w.heap.size, ss)] [] wr) ∧ Hid (∀ j, j < k → okR x j = true)) (fun i _ => 6 - (intOf i).toNat)
   case atStart => exact ⟨0, Nat.zero_le _, rfl, HH2, fun j hj => absurd hj (Nat.not_lt_zero _)⟩
   case round =>
    obtain ⟨k, hk, rfl, hH, hall⟩ := hrel
    clear HH2
    have HR : Hid (wr.rangeAt w.heap.size 0 ss) := hH.out.get 1 rfl
    have HO : Hid (RState A wr ss x) := RState.firm.kept HS.out (Kept.below hH.out.below)
    have hgo : ∀ m, m = k → okR x m = true → Hid (∀ j, j < k + 1 → okR x j = true) := fun m hm hb j hj => by
     rcases Nat.lt_succ_iff_lt_or_eq.1 hj with h' | h'
     ·
      exact hall.out j h'
     ·
      rw [h', ← hm]; exact hb
    have HGO : Hid (∀ m, m = k → okR x m = true → Hid (∀ j, j < k + 1 → okR x j = true)) := hgo
    have HBAD : Hid (k < 6 → okR x k = false → checkS x = 41) := fun h1 h2 => by rw [checkS, HCC.out, allTo_false h1 h2]; rfl
    have HEND : Hid (k = 6 → checkS x = 0) := fun h1 => by rw [checkS, HCC.out, allTo_true (fun j hj => hall.out j (by omega))]; rfl
    clear hall hgo
    have hcase : k = 0 ∨ k = 1 ∨ k = 2 ∨ k = 3 ∨ k = 4 ∨ k = 5 ∨ k = 6 := by omega
    clear hk
    rcases hcase with rfl | rfl | rfl | rfl | rfl | rfl | rfl
    ·
     have hc0 := hH.out.cell 0 (b := B) rfl 0 rfl
     have hcl := hH.out.lt 0 (b := B) rfl
     have HC := Pod_orightIn ss A x wr HO.out
     have HV : Hid (okR x 0 = (x.1.all rightPod && risesBy sLt (fun y => y.1) x.1)) := rfl
     generalize (x.1.all rightPod && risesBy sLt (fun y => y.1) x.1) = r at HC HV
     go_wp2_with (first | (refine BigFrame.wpList_want rfl (fun _ hKK => wp_load_mid 61 _ rfl (w.heap.size) 0 rfl ss _ HR.out underlying61 rfl his (hKK _ _ ?_))) | fail)
     refine HC.mono ?_
     rintro e wr2 ⟨rfl, hb2⟩
     have HH2 : Hid (Held w [(B, [.iface 136 (.agg #[.iface 132 (.agg #[])]), .iface 141 (.agg #[.iface 137 (.agg #[])]), .iface 146 (.agg #[.iface 142 (.agg #[])]), .iface 151 (.agg #[.iface 147 (.agg #[])]), .iface 156 (.agg #[.iface 152 (.agg #[])]), .iface 161 (.agg #[.iface 157 (.agg #[])])]), (w.heap.size, ss)] [] wr2) := hH.out.on hb2
     cases r
     ·
      have HF : Hid (checkS x = 41) := HBAD.out (by omega) HV.out
      clear HGO HBAD HEND hc0 hcl
      go_wp2_with fail
      go_ret
      exact ⟨reti HF.out.symm, HH2.out.below⟩
     ·
      have HG : Hid (∀ j, j < 0 + 1 → okR x j = true) := HGO.out 0 rfl HV.out
      clear HGO HBAD HEND hc0 hcl
      go_wp2_with fail
      go_roundw
      case rel => exact ⟨1, by omega, by go_num, HH2, HG⟩
      case measure => simp [intOf]
    ·
     have hc0 := hH.out.cell 0 (b := B) rfl 1 rfl
     have hcl := hH.out.lt 0 (b := B) rfl
     have HC := Node_orightIn ss A x wr HO.out
     have HV : Hid (okR x 1 = (x.2.1.all rightNode && risesBy sLt (fun y => y.1) x.2.1)) := rfl
     generalize (x.2.1.all rightNode && risesBy sLt (fun y => y.1) x.2.1) = r at HC HV
     go_wp2_with (first | (refine BigFrame.wpList_want rfl (fun _ hKK => wp_load_mid 61 _ rfl (w.heap.size) 0 rfl ss _ HR.out underlying61 rfl his (hKK _ _ ?_))) | fail)
     refine HC.mono ?_
     rintro e wr2 ⟨rfl, hb2⟩
     have HH2 : Hid (Held w [(B, [.iface 136 (.agg #[.iface 132 (.agg #[])]), .iface 141 (.agg #[.iface 137 (.agg #[])]), .iface 146 (.agg #[.iface 142 (.agg #[])]), .iface 151 (.agg #[.iface 147 (.agg #[])]), .iface 156 (.agg #[.iface 152 (.agg #[])]), .iface 161 (.agg #[.iface 157 (.agg #[])])]), (w.heap.size, ss)] [] wr2) := hH.out.on hb2
     cases r
     ·
      have HF : Hid (checkS x = 41) := HBAD.out (by omega) HV.out
      clear HGO HBAD HEND hc0 hcl
      go_wp2_with fail
      go_ret
      exact ⟨reti HF.out.symm, HH2.out.below⟩
     ·
      have HG : Hid (∀ j, j < 1 + 1 → okR x j = true) := HGO.out 1 rfl HV.out
      clear HGO HBAD HEND hc0 hcl
      go_wp2_with fail
      go_roundw
      case rel => exact ⟨2, by omega, by go_num, HH2, HG⟩
      case measure => simp [intOf]
    ·
     have hc0 := hH.out.cell 0 (b := B) rfl 2 rfl
     have hcl := hH.out.lt 0 (b := B) rfl
     have HC := Volume_orightIn ss A x wr HO.out
     have HV : Hid (okR x 2 = (x.2.2.1.all rightVolume && risesBy sLt (fun y => y.1) x.2.2.1)) := rfl
     generalize (x.2.2.1.all rightVolume && risesBy sLt (fun y => y.1) x.2.2.1) = r at HC HV
     go_wp2_with (first | (refine BigFrame.wpList_want rfl (fun _ hKK => wp_load_mid 61 _ rfl (w.heap.size) 0 rfl ss _ HR.out underlying61 rfl his (hKK _ _ ?_))) | fail)
     refine HC.mono ?_
     rintro e wr2 ⟨rfl, hb2⟩
     have HH2 : Hid (Held w [(B, [.iface 136 (.agg #[.iface 132 (.agg #[])]), .iface 141 (.agg #[.iface 137 (.agg #[])]), .iface 146 (.agg #[.iface 142 (.agg #[])]), .iface 151 (.agg #[.iface 147 (.agg #[])]), .iface 156 (.agg #[.iface 152 (.agg #[])]), .iface 161 (.agg #[.iface 157 (.agg #[])])]), (w.heap.size, ss)] [] wr2) := hH.out.on hb2
     cases r
     ·
      have HF : Hid (checkS x = 41) := HBAD.out (by omega) HV.out
      clear HGO HBAD HEND hc0 hcl
      go_wp2_with fail
      go_ret
      exact ⟨reti HF.out.symm, HH2.out.below⟩
     ·
      have HG : Hid (∀ j, j < 2 + 1 → okR x j = true) := HGO.out 2 rfl HV.out
      clear HGO HBAD HEND hc0 hcl
      go_wp2_with fail
      go_roundw
      case rel => exact ⟨3, by omega, by go_num, HH2, HG⟩
      case measure => simp [intOf]
    ·
     have hc0 := hH.out.cell 0 (b := B) rfl 3 rfl
     have hcl := hH.out.lt 0 (b := B) rfl
     have HC := Claim_orightIn ss A x wr HO.out
     have HV : Hid (okR x 3 = (x.2.2.2.1.all rightClaim && risesBy sLt (fun y => y.1) x.2.2.2.1)) := rfl
     generalize (x.2.2.2.1.all rightClaim && risesBy sLt (fun y => y.1) x.2.2.2.1) = r at HC HV
     go_wp2_with (first | (refine BigFrame.wpList_want rfl (fun _ hKK => wp_load_mid 61 _ rfl (w.heap.size) 0 rfl ss _ HR.out underlying61 rfl his (hKK _ _ ?_))) | fail)
     refine HC.mono ?_
     rintro e wr2 ⟨rfl, hb2⟩
     have HH2 : Hid (Held w [(B, [.iface 136 (.agg #[.iface 132 (.agg #[])]), .iface 141 (.agg #[.iface 137 (.agg #[])]), .iface 146 (.agg #[.iface 142 (.agg #[])]), .iface 151 (.agg #[.iface 147 (.agg #[])]), .iface 156 (.agg #[.iface 152 (.agg #[])]), .iface 161 (.agg #[.iface 157 (.agg #[])])]), (w.heap.size, ss)] [] wr2) := hH.out.on hb2
     cases r
     ·
      have HF : Hid (checkS x = 41) := HBAD.out (by omega) HV.out
      clear HGO HBAD HEND hc0 hcl
      go_wp2_with fail
      go_ret
      exact ⟨reti HF.out.symm, HH2.out.below⟩
     ·
      have HG : Hid (∀ j, j < 3 + 1 → okR x j = true) := HGO.out 3 rfl HV.out
      clear HGO HBAD HEND hc0 hcl
      go_wp2_with fail
      go_roundw
      case rel => exact ⟨4, by omega, by go_num, HH2, HG⟩
      case measure => simp [intOf]
    ·
     have hc0 := hH.out.cell 0 (b := B) rfl 4 rfl
     have hcl := hH.out.lt 0 (b := B) rfl
     have HC := Class_orightIn ss A x wr HO.out
     have HV : Hid (okR x 4 = (x.2.2.2.2.1.all rightClass && risesBy sLt (fun y => y.1) x.2.2.2.2.1)) := rfl
     generalize (x.2.2.2.2.1.all rightClass && risesBy sLt (fun y => y.1) x.2.2.2.2.1) = r at HC HV
     go_wp2_with (first | (refine BigFrame.wpList_want rfl (fun _ hKK => wp_load_mid 61 _ rfl (w.heap.size) 0 rfl ss _ HR.out underlying61 rfl his (hKK _ _ ?_))) | fail)
     refine HC.mono ?_
     rintro e wr2 ⟨rfl, hb2⟩
     have HH2 : Hid (Held w [(B, [.iface 136 (.agg #[.iface 132 (.agg #[])]), .iface 141 (.agg #[.iface 137 (.agg #[])]), .iface 146 (.agg #[.iface 142 (.agg #[])]), .iface 151 (.agg #[.iface 147 (.agg #[])]), .iface 156 (.agg #[.iface 152 (.agg #[])]), .iface 161 (.agg #[.iface 157 (.agg #[])])]), (w.heap.size, ss)] [] wr2) := hH.out.on hb2
     cases r
     ·
      have HF : Hid (checkS x = 41) := HBAD.out (by omega) HV.out
      clear HGO HBAD HEND hc0 hcl
      go_wp2_with fail
      go_ret
      exact ⟨reti HF.out.symm, HH2.out.below⟩
     ·
      have HG : Hid (∀ j, j < 4 + 1 → okR x j = true) := HGO.out 4 rfl HV.out
      clear HGO HBAD HEND hc0 hcl
      go_wp2_with fail
      go_roundw
      case rel => exact ⟨5, by omega, by go_num, HH2, HG⟩
      case measure => simp [intOf]
    ·
     have hc0 := hH.out.cell 0 (b := B) rfl 5 rfl
     have hcl := hH.out.lt 0 (b := B) rfl
     have HC := Budget_orightIn ss A x wr HO.out
     have HV : Hid (okR x 5 = (x.2.2.2.2.2.all rightBudget && risesBy sLt (fun y => y.1) x.2.2.2.2.2)) := rfl
     generalize (x.2.2.2.2.2.all rightBudget && risesBy sLt (fun y => y.1) x.2.2.2.2.2) = r at HC HV
     go_wp2_with (first | (refine BigFrame.wpList_want rfl (fun _ hKK => wp_load_mid 61 _ rfl (w.heap.size) 0 rfl ss _ HR.out underlying61 rfl his (hKK _ _ ?_))) | fail)
     refine HC.mono ?_
     rintro e wr2 ⟨rfl, hb2⟩
     have HH2 : Hid (Held w [(B, [.iface 136 (.agg #[.iface 132 (.agg #[])]), .iface 141 (.agg #[.iface 137 (.agg #[])]), .iface 146 (.agg #[.iface 142 (.agg #[])]), .iface 151 (.agg #[.iface 147 (.agg #[])]), .iface 156 (.agg #[.iface 152 (.agg #[])]), .iface 161 (.agg #[.iface 157 (.agg #[])])]), (w.heap.size, ss)] [] wr2) := hH.out.on hb2
     cases r
     ·
      have HF : Hid (checkS x = 41) := HBAD.out (by omega) HV.out
      clear HGO HBAD HEND hc0 hcl
      go_wp2_with fail
      go_ret
      exact ⟨reti HF.out.symm, HH2.out.below⟩
     ·
      have HG : Hid (∀ j, j < 5 + 1 → okR x j = true) := HGO.out 5 rfl HV.out
      clear HGO HBAD HEND hc0 hcl
      go_wp2_with fail
      go_roundw
      case rel => exact ⟨6, by omega, by go_num, HH2, HG⟩
      case measure => simp [intOf]
    ·
     have HF : Hid (checkS x = 0) := HEND.out rfl
     clear HGO HBAD HEND
     go_wp2_with fail
     go_ret
     exact ⟨reti HF.out.symm, hH.out.below⟩
end Go.Proofs.YtfbnnfpnjjjfcaaGreat

