/- object.CheckState, and its like. No condition beyond what each says. -/
import Derived.Lib.OwnBridge
import Derived.Lib.AppendIntMem
import Derived.Test.YtikncmcceeacmaaGreatQ25
namespace Go.Proofs.YtikncmcceeacmaaGreat
set_option maxHeartbeats 16000000
set_option maxRecDepth 100000
open Tryz Go.RowKit
set_option linter.unusedSimpArgs false
def okC (x : StateD) (j : Nat) : Bool := match j with
 | 0 => decide (x.1.length ≤ 256)
 | 1 => decide (x.2.1.length ≤ 256)
 | 2 => decide (x.2.2.1.length ≤ 256)
 | 3 => decide (x.2.2.2.1.length ≤ 256)
 | 4 => decide (x.2.2.2.2.1.length ≤ 256)
 | 5 => decide (x.2.2.2.2.2.length ≤ 256)
 | _ => true
def okR (x : StateD) (j : Nat) : Bool := match j with
 | 0 => x.1.all rightPod && risesBy sLt (fun y => y.1) x.1
 | 1 => x.2.1.all rightNode && risesBy sLt (fun y => y.1) x.2.1
 | 2 => x.2.2.1.all rightVolume && risesBy sLt (fun y => y.1) x.2.2.1
 | 3 => x.2.2.2.1.all rightClaim && risesBy sLt (fun y => y.1) x.2.2.2.1
 | 4 => x.2.2.2.2.1.all rightClass && risesBy sLt (fun y => y.1) x.2.2.2.2.1
 | 5 => x.2.2.2.2.2.all rightBudget && risesBy sLt (fun y => y.1) x.2.2.2.2.2
 | _ => true
def checkS (x : StateD) : Int := if allTo 6 (okC x) then (if allTo 6 (okR x) then 0 else 41) else 3
theorem CheckState_calls (ss : List Value) (A : Where) (x : StateD) (w : World) (hs : RState A w ss x) : Calls prog 16 #[.agg ss.toArray] w fun e w' => e = .returned (.int .i64 (checkS x)) ∧ Below w.heap.size w w' := by
 have his : (prog.info? 61).map (·.size) = some ss.length := by rw [RState.firm.len hs]; exact infoSta
 have HS : Hid (RState A w ss x) := hs
 clear hs
 obtain ⟨U0, hU0⟩ : ∃ U0, U0 = w.alloc (.cells ss.toArray 61) := ⟨_, rfl⟩
 have HS0 : Hid (U0.heap.size = w.heap.size + 1) := by rw [Hid, hU0]; simp
 have HH0 : Hid (Held w [(w.heap.size, ss)] [] U0) := by rw [Hid, hU0]; exact (Held.start w).push rfl ss _
 go_enter func16, ntmps16
 go_wp2_with fail
 rw [← hU0]
 clear hU0
 refine (kinds_calls _).mono ?_
 rintro e u1 ⟨rfl, hu1⟩
 have HH1 : Hid (Held w [(w.heap.size + 1, [.iface 136 (.agg #[.iface 132 (.agg #[])]), .iface 141 (.agg #[.iface 137 (.agg #[])]), .iface 146 (.agg #[.iface 142 (.agg #[])]), .iface 151 (.agg #[.iface 147 (.agg #[])]), .iface 156 (.agg #[.iface 152 (.agg #[])]), .iface 161 (.agg #[.iface 157 (.agg #[])])]), (w.heap.size, ss)] [] u1) := by rw [Hid, hu1]; exact HH0.out.push HS0.out [.iface 136 (.agg #[.iface 132 (.agg #[])]), .iface 141 (.agg #[.iface 137 (.agg #[])]), .iface 146 (.agg #[.iface 142 (.agg #[])]), .iface 151 (.agg #[.iface 147 (.agg #[])]), .iface 156 (.agg #[.iface 152 (.agg #[])]), .iface 161 (.agg #[.iface 157 (.agg #[])])] _
 rw [HS0.out]
 clear hu1 HH0 HS0
 go_wp2_with fail
 go_loopw [9] (fun i wr => ∃ k : Nat, k ≤ 6 ∧ i = .int .i64 k ∧ Hid (Held w [(w.heap.size + 1, [.iface 136 (.agg #[.iface 132 (.agg #[])]), .iface 141 (.agg #[.iface 137 (.agg #[])]), .iface 146 (.agg #[.iface 142 (.agg #[])]), .iface 151 (.agg #[.iface 147 (.agg #[])]), .iface 156 (.agg #[.iface 152 (.agg #[])]), .iface 161 (.agg #[.iface 157 (.agg #[])])]), (w.heap.size, ss)] [] wr) ∧ Hid (∀ j, j < k → okC x j = true)) (fun i _ => 6 - (intOf i).toNat)
 case atStart => exact ⟨0, Nat.zero_le _, rfl, HH1, fun j hj => absurd hj (Nat.not_lt_zero _)⟩
 case round =>
  obtain ⟨k, hk, rfl, hH, hall⟩ := hrel
  clear HH1
  have HR : Hid (wr.rangeAt w.heap.size 0 ss) := hH.out.get 1 rfl
  have HO : Hid (RState A wr ss x) := RState.firm.kept HS.out (Kept.below hH.out.below)
  have hgo : ∀ m, m = k → okC x m = true → Hid (∀ j, j < k + 1 → okC x j = true) := fun m hm hb j hj => by
   rcases Nat.lt_succ_iff_lt_or_eq.1 hj with h' | h'
   ·
    exact hall.out j h'
   ·
    rw [h', ← hm]; exact hb
  have HGO : Hid (∀ m, m = k → okC x m = true → Hid (∀ j, j < k + 1 → okC x j = true)) := hgo
  have HBAD : Hid (k < 6 → okC x k = false → checkS x = 3) := fun h1 h2 => by rw [checkS, allTo_false h1 h2]; rfl
  have HEND : Hid (k = 6 → allTo 6 (okC x) = true) := fun h1 => allTo_true (fun j hj => hall.out j (by omega))
  clear hall hgo
  have hcase : k = 0 ∨ k = 1 ∨ k = 2 ∨ k = 3 ∨ k = 4 ∨ k = 5 ∨ k = 6 := by omega
  clear hk
  rcases hcase with rfl | rfl | rfl | rfl | rfl | rfl | rfl
  ·
   have hc0 := hH.out.cell 0 (b := w.heap.size + 1) rfl 0 rfl
   have hcl := hH.out.lt 0 (b := w.heap.size + 1) rfl
   have HC := Pod_ocount ss A x wr HO.out
   have HV : Hid (okC x 0 = decide (x.1.length ≤ 256)) := rfl
   generalize x.1.length = n at HC HV
   go_wp2_with (first | (refine BigFrame.wpList_want rfl (fun _ hKK => wp_load_mid 61 _ rfl (w.heap.size) 0 rfl ss _ HR.out underlying61 rfl his (hKK _ _ ?_))) | fail)
   refine HC.mono ?_
   rintro e wr2 ⟨rfl, hb2⟩
   have HH2 : Hid (Held w [(w.heap.size + 1, [.iface 136 (.agg #[.iface 132 (.agg #[])]), .iface 141 (.agg #[.iface 137 (.agg #[])]), .iface 146 (.agg #[.iface 142 (.agg #[])]), .iface 151 (.agg #[.iface 147 (.agg #[])]), .iface 156 (.agg #[.iface 152 (.agg #[])]), .iface 161 (.agg #[.iface 157 (.agg #[])])]), (w.heap.size, ss)] [] wr2) := hH.out.on hb2
   by_cases hn : n ≤ 256
   ·
    have HG : Hid (∀ j, j < 0 + 1 → okC x j = true) := HGO.out 0 rfl (by rw [HV.out]; simpa using hn)
    have hn1 : ¬ ((256 : Int) < (n : Int)) := by omega
    have hn2 : (n : Int) ≤ 256 := by omega
    clear HGO HBAD HEND hc0 hcl
    go_wp2_with fail
    go_roundw
    case rel => exact ⟨1, by omega, by go_num, HH2, HG⟩
    case measure => simp [intOf]
   ·
    have HF : Hid (checkS x = 3) := HBAD.out (by omega) (by rw [HV.out]; simpa using hn)
    have hn1 : (256 : Int) < (n : Int) := by omega
    clear HGO HBAD HEND hc0 hcl hn
    go_wp2_with fail
    go_ret
    exact ⟨reti HF.out.symm, HH2.out.below⟩
  ·
   have hc0 := hH.out.cell 0 (b := w.heap.size + 1) rfl 1 rfl
   have hcl := hH.out.lt 0 (b := w.heap.size + 1) rfl
   have HC := Node_ocount ss A x wr HO.out
   have HV : Hid (okC x 1 = decide (x.2.1.length ≤ 256)) := rfl
   generalize x.2.1.length = n at HC HV
   go_wp2_with (first | (refine BigFrame.wpList_want rfl (fun _ hKK => wp_load_mid 61 _ rfl (w.heap.size) 0 rfl ss _ HR.out underlying61 rfl his (hKK _ _ ?_))) | fail)
   refine HC.mono ?_
   rintro e wr2 ⟨rfl, hb2⟩
   have HH2 : Hid (Held w [(w.heap.size + 1, [.iface 136 (.agg #[.iface 132 (.agg #[])]), .iface 141 (.agg #[.iface 137 (.agg #[])]), .iface 146 (.agg #[.iface 142 (.agg #[])]), .iface 151 (.agg #[.iface 147 (.agg #[])]), .iface 156 (.agg #[.iface 152 (.agg #[])]), .iface 161 (.agg #[.iface 157 (.agg #[])])]), (w.heap.size, ss)] [] wr2) := hH.out.on hb2
   by_cases hn : n ≤ 256
   ·
    have HG : Hid (∀ j, j < 1 + 1 → okC x j = true) := HGO.out 1 rfl (by rw [HV.out]; simpa using hn)
    have hn1 : ¬ ((256 : Int) < (n : Int)) := by omega
    have hn2 : (n : Int) ≤ 256 := by omega
    clear HGO HBAD HEND hc0 hcl
    go_wp2_with fail
    go_roundw
    case rel => exact ⟨2, by omega, by go_num, HH2, HG⟩
    case measure => simp [intOf]
   ·
    have HF : Hid (checkS x = 3) := HBAD.out (by omega) (by rw [HV.out]; simpa using hn)
    have hn1 : (256 : Int) < (n : Int) := by omega
    clear HGO HBAD HEND hc0 hcl hn
    go_wp2_with fail
    go_ret
    exact ⟨reti HF.out.symm, HH2.out.below⟩
  ·
   have hc0 := hH.out.cell 0 (b := w.heap.size + 1) rfl 2 rfl
   have hcl := hH.out.lt 0 (b := w.heap.size + 1) rfl
   have HC := Volume_ocount ss A x wr HO.out
   have HV : Hid (okC x 2 = decide (x.2.2.1.length ≤ 256)) := rfl
   generalize x.2.2.1.length = n at HC HV
   go_wp2_with (first | (refine BigFrame.wpList_want rfl (fun _ hKK => wp_load_mid 61 _ rfl (w.heap.size) 0 rfl ss _ HR.out underlying61 rfl his (hKK _ _ ?_))) | fail)
   refine HC.mono ?_
   rintro e wr2 ⟨rfl, hb2⟩
   have HH2 : Hid (Held w [(w.heap.size + 1, [.iface 136 (.agg #[.iface 132 (.agg #[])]), .iface 141 (.agg #[.iface 137 (.agg #[])]), .iface 146 (.agg #[.iface 142 (.agg #[])]), .iface 151 (.agg #[.iface 147 (.agg #[])]), .iface 156 (.agg #[.iface 152 (.agg #[])]), .iface 161 (.agg #[.iface 157 (.agg #[])])]), (w.heap.size, ss)] [] wr2) := hH.out.on hb2
   by_cases hn : n ≤ 256
   ·
    have HG : Hid (∀ j, j < 2 + 1 → okC x j = true) := HGO.out 2 rfl (by rw [HV.out]; simpa using hn)
    have hn1 : ¬ ((256 : Int) < (n : Int)) := by omega
    have hn2 : (n : Int) ≤ 256 := by omega
    clear HGO HBAD HEND hc0 hcl
    go_wp2_with fail
    go_roundw
    case rel => exact ⟨3, by omega, by go_num, HH2, HG⟩
    case measure => simp [intOf]
   ·
    have HF : Hid (checkS x = 3) := HBAD.out (by omega) (by rw [HV.out]; simpa using hn)
    have hn1 : (256 : Int) < (n : Int) := by omega
    clear HGO HBAD HEND hc0 hcl hn
    go_wp2_with fail
    go_ret
    exact ⟨reti HF.out.symm, HH2.out.below⟩
  ·
   have hc0 := hH.out.cell 0 (b := w.heap.size + 1) rfl 3 rfl
   have hcl := hH.out.lt 0 (b := w.heap.size + 1) rfl
   have HC := Claim_ocount ss A x wr HO.out
   have HV : Hid (okC x 3 = decide (x.2.2.2.1.length ≤ 256)) := rfl
   generalize x.2.2.2.1.length = n at HC HV
   go_wp2_with (first | (refine BigFrame.wpList_want rfl (fun _ hKK => wp_load_mid 61 _ rfl (w.heap.size) 0 rfl ss _ HR.out underlying61 rfl his (hKK _ _ ?_))) | fail)
   refine HC.mono ?_
   rintro e wr2 ⟨rfl, hb2⟩
   have HH2 : Hid (Held w [(w.heap.size + 1, [.iface 136 (.agg #[.iface 132 (.agg #[])]), .iface 141 (.agg #[.iface 137 (.agg #[])]), .iface 146 (.agg #[.iface 142 (.agg #[])]), .iface 151 (.agg #[.iface 147 (.agg #[])]), .iface 156 (.agg #[.iface 152 (.agg #[])]), .iface 161 (.agg #[.iface 157 (.agg #[])])]), (w.heap.size, ss)] [] wr2) := hH.out.on hb2
   by_cases hn : n ≤ 256
   ·
    have HG : Hid (∀ j, j < 3 + 1 → okC x j = true) := HGO.out 3 rfl (by rw [HV.out]; simpa using hn)
    have hn1 : ¬ ((256 : Int) < (n : Int)) := by omega
    have hn2 : (n : Int) ≤ 256 := by omega
    clear HGO HBAD HEND hc0 hcl
    go_wp2_with fail
    go_roundw
    case rel => exact ⟨4, by omega, by go_num, HH2, HG⟩
    case measure => simp [intOf]
   ·
    have HF : Hid (checkS x = 3) := HBAD.out (by omega) (by rw [HV.out]; simpa using hn)
    have hn1 : (256 : Int) < (n : Int) := by omega
    clear HGO HBAD HEND hc0 hcl hn
    go_wp2_with fail
    go_ret
    exact ⟨reti HF.out.symm, HH2.out.below⟩
  ·
   have hc0 := hH.out.cell 0 (b := w.heap.size + 1) rfl 4 rfl
   have hcl := hH.out.lt 0 (b := w.heap.size + 1) rfl
   have HC := Class_ocount ss A x wr HO.out
   have HV : Hid (okC x 4 = decide (x.2.2.2.2.1.length ≤ 256)) := rfl
   generalize x.2.2.2.2.1.length = n at HC HV
   go_wp2_with (first | (refine BigFrame.wpList_want rfl (fun _ hKK => wp_load_mid 61 _ rfl (w.heap.size) 0 rfl ss _ HR.out underlying61 rfl his (hKK _ _ ?_))) | fail)
   refine HC.mono ?_
   rintro e wr2 ⟨rfl, hb2⟩
   have HH2 : Hid (Held w [(w.heap.size + 1, [.iface 136 (.agg #[.iface 132 (.agg #[])]), .iface 141 (.agg #[.iface 137 (.agg #[])]), .iface 146 (.agg #[.iface 142 (.agg #[])]), .iface 151 (.agg #[.iface 147 (.agg #[])]), .iface 156 (.agg #[.iface 152 (.agg #[])]), .iface 161 (.agg #[.iface 157 (.agg #[])])]), (w.heap.size, ss)] [] wr2) := hH.out.on hb2
   by_cases hn : n ≤ 256
   ·
    have HG : Hid (∀ j, j < 4 + 1 → okC x j = true) := HGO.out 4 rfl (by rw [HV.out]; simpa using hn)
    have hn1 : ¬ ((256 : Int) < (n : Int)) := by omega
    have hn2 : (n : Int) ≤ 256 := by omega
    clear HGO HBAD HEND hc0 hcl
    go_wp2_with fail
    go_roundw
    case rel => exact ⟨5, by omega, by go_num, HH2, HG⟩
    case measure => simp [intOf]
   ·
    have HF : Hid (checkS x = 3) := HBAD.out (by omega) (by rw [HV.out]; simpa using hn)
    have hn1 : (256 : Int) < (n : Int) := by omega
    clear HGO HBAD HEND hc0 hcl hn
    go_wp2_with fail
    go_ret
    exact ⟨reti HF.out.symm, HH2.out.below⟩
  ·
   have hc0 := hH.out.cell 0 (b := w.heap.size + 1) rfl 5 rfl
   have hcl := hH.out.lt 0 (b := w.heap.size + 1) rfl
   have HC := Budget_ocount ss A x wr HO.out
   have HV : Hid (okC x 5 = decide (x.2.2.2.2.2.length ≤ 256)) := rfl
   generalize x.2.2.2.2.2.length = n at HC HV
   go_wp2_with (first | (refine BigFrame.wpList_want rfl (fun _ hKK => wp_load_mid 61 _ rfl (w.heap.size) 0 rfl ss _ HR.out underlying61 rfl his (hKK _ _ ?_))) | fail)
   refine HC.mono ?_
   rintro e wr2 ⟨rfl, hb2⟩
   have HH2 : Hid (Held w [(w.heap.size + 1, [.iface 136 (.agg #[.iface 132 (.agg #[])]), .iface 141 (.agg #[.iface 137 (.agg #[])]), .iface 146 (.agg #[.iface 142 (.agg #[])]), .iface 151 (.agg #[.iface 147 (.agg #[])]), .iface 156 (.agg #[.iface 152 (.agg #[])]), .iface 161 (.agg #[.iface 157 (.agg #[])])]), (w.heap.size, ss)] [] wr2) := hH.out.on hb2
   by_cases hn : n ≤ 256
   ·
    have HG : Hid (∀ j, j < 5 + 1 → okC x j = true) := HGO.out 5 rfl (by rw [HV.out]; simpa using hn)
    have hn1 : ¬ ((256 : Int) < (n : Int)) := by omega
    have hn2 : (n : Int) ≤ 256 := by omega
    clear HGO HBAD HEND hc0 hcl
    go_wp2_with fail
    go_roundw
    case rel => exact ⟨6, by omega, by go_num, HH2, HG⟩
    case measure => simp [intOf]
   ·
    have HF : Hid (checkS x = 3) := HBAD.out (by omega) (by rw [HV.out]; simpa using hn)
    have hn1 : (256 : Int) < (n : Int) := by omega
    clear HGO HBAD HEND hc0 hcl hn
    go_wp2_with fail
    go_ret
    exact ⟨reti HF.out.symm, HH2.out.below⟩
  ·
   have HCC : Hid (allTo 6 (okC x) = true) := HEND.out rfl
   have HH1 : Hid (Held w [(w.heap.size, ss)] [] wr) := hH.out.less (fun z hz => List.mem_cons_of_mem _ hz) (fun _ h => h)
   have HWS : Hid (w.heap.size < wr.heap.size) := hH.out.lt 1 (b := w.heap.size) rfl
   clear HGO HBAD HEND hH HR HO
   go_wp2_with fail
   refine (kinds_calls _).mono ?_
   rintro e u1 ⟨rfl, hu1⟩
   obtain ⟨B, hB⟩ : ∃ B, B = wr.heap.size := ⟨_, rfl⟩
   rw [← hB]
   have HH2 : Hid (Held w [(B, [.iface 136 (.agg #[.iface 132 (.agg #[])]), .iface 141 (.agg #[.iface 137 (.agg #[])]), .iface 146 (.agg #[.iface 142 (.agg #[])]), .iface 151 (.agg #[.iface 147 (.agg #[])]), .iface 156 (.agg #[.iface 152 (.agg #[])]), .iface 161 (.agg #[.iface 157 (.agg #[])])]), (w.heap.size, ss)] [] u1) := by rw [Hid, hu1]; exact HH1.out.push hB.symm [.iface 136 (.agg #[.iface 132 (.agg #[])]), .iface 141 (.agg #[.iface 137 (.agg #[])]), .iface 146 (.agg #[.iface 142 (.agg #[])]), .iface 151 (.agg #[.iface 147 (.agg #[])]), .iface 156 (.agg #[.iface 152 (.agg #[])]), .iface 161 (.agg #[.iface 157 (.agg #[])])] _
   clear hu1 hB HH1 HWS
   go_wp2_with fail
   go_loopw [20] (fun i wr => ∃ k : Nat, k ≤ 6 ∧ i = .int .i64 k ∧ Hid (Held w [(B, [.iface 136 (.agg #[.iface 132 (.agg #[])]), .iface 141 (.agg #[.iface 137 (.agg #[])]), .iface 146 (.agg #[.iface 142 (.agg #[])]), .iface 151 (.agg #[.iface 147 (.agg #[])]), .iface 156 (.agg #[.iface 152 (.agg #[])]), .iface 161 (.agg #[.iface 157 (.agg #[])])]), (w.heap.size, ss)] [] wr) ∧ Hid (∀ j, j < k → okR x j = true)) (fun i _ => 6 - (intOf i).toNat)
   case atStart => exact ⟨0, Nat.zero_le _, rfl, HH2, fun j hj => absurd hj (Nat.not_lt_zero _)⟩
   case round =>
    obtain ⟨k, hk, rfl, hH, hall⟩ := hrel
    clear HH2
    have HR : Hid (wr.rangeAt w.heap.size 0 ss) := hH.out.get 1 rfl
    have HO : Hid (RState A wr ss x) := RState.firm.kept HS.out (Kept.below hH.out.below)
    have hgo : ∀ m, m = k → okR x m = true → Hid (∀ j, j < k + 1 → okR x j = true) := fun m hm hb j hj => by
     rcases Nat.lt_succ_iff_lt_or_eq.1 hj with h' | h'
     ·
      exact hall.out j h'
     ·
      rw [h', ← hm]; exact hb
    have HGO : Hid (∀ m, m = k → okR x m = true → Hid (∀ j, j < k + 1 → okR x j = true)) := hgo
    have HBAD : Hid (k < 6 → okR x k = false → checkS x = 41) := fun h1 h2 => by rw [checkS, HCC.out, allTo_false h1 h2]; rfl
    have HEND : Hid (k = 6 → checkS x = 0) := fun h1 => by rw [checkS, HCC.out, allTo_true (fun j hj => hall.out j (by omega))]; rfl
    clear hall hgo
    have hcase : k = 0 ∨ k = 1 ∨ k = 2 ∨ k = 3 ∨ k = 4 ∨ k = 5 ∨ k = 6 := by omega
    clear hk
    rcases hcase with rfl | rfl | rfl | rfl | rfl | rfl | rfl
    ·
     have hc0 := hH.out.cell 0 (b := B) rfl 0 rfl
     have hcl := hH.out.lt 0 (b := B) rfl
     have HC := Pod_orightIn ss A x wr HO.out
     have HV : Hid (okR x 0 = (x.1.all rightPod && risesBy sLt (fun y => y.1) x.1)) := rfl
     generalize (x.1.all rightPod && risesBy sLt (fun y => y.1) x.1) = r at HC HV
     go_wp2_with (first | (refine BigFrame.wpList_want rfl (fun _ hKK => wp_load_mid 61 _ rfl (w.heap.size) 0 rfl ss _ HR.out underlying61 rfl his (hKK _ _ ?_))) | fail)
     refine HC.mono ?_
     rintro e wr2 ⟨rfl, hb2⟩
     have HH2 : Hid (Held w [(B, [.iface 136 (.agg #[.iface 132 (.agg #[])]), .iface 141 (.agg #[.iface 137 (.agg #[])]), .iface 146 (.agg #[.iface 142 (.agg #[])]), .iface 151 (.agg #[.iface 147 (.agg #[])]), .iface 156 (.agg #[.iface 152 (.agg #[])]), .iface 161 (.agg #[.iface 157 (.agg #[])])]), (w.heap.size, ss)] [] wr2) := hH.out.on hb2
     cases r
     ·
      have HF : Hid (checkS x = 41) := HBAD.out (by omega) HV.out
      clear HGO HBAD HEND hc0 hcl
      go_wp2_with fail
      go_ret
      exact ⟨reti HF.out.symm, HH2.out.below⟩
     ·
      have HG : Hid (∀ j, j < 0 + 1 → okR x j = true) := HGO.out 0 rfl HV.out
      clear HGO HBAD HEND hc0 hcl
      go_wp2_with fail
      go_roundw
      case rel => exact ⟨1, by omega, by go_num, HH2, HG⟩
      case measure => simp [intOf]
    ·
     have hc0 := hH.out.cell 0 (b := B) rfl 1 rfl
     have hcl := hH.out.lt 0 (b := B) rfl
     have HC := Node_orightIn ss A x wr HO.out
     have HV : Hid (okR x 1 = (x.2.1.all rightNode && risesBy sLt (fun y => y.1) x.2.1)) := rfl
     generalize (x.2.1.all rightNode && risesBy sLt (fun y => y.1) x.2.1) = r at HC HV
     go_wp2_with (first | (refine BigFrame.wpList_want rfl (fun _ hKK => wp_load_mid 61 _ rfl (w.heap.size) 0 rfl ss _ HR.out underlying61 rfl his (hKK _ _ ?_))) | fail)
     refine HC.mono ?_
     rintro e wr2 ⟨rfl, hb2⟩
     have HH2 : Hid (Held w [(B, [.iface 136 (.agg #[.iface 132 (.agg #[])]), .iface 141 (.agg #[.iface 137 (.agg #[])]), .iface 146 (.agg #[.iface 142 (.agg #[])]), .iface 151 (.agg #[.iface 147 (.agg #[])]), .iface 156 (.agg #[.iface 152 (.agg #[])]), .iface 161 (.agg #[.iface 157 (.agg #[])])]), (w.heap.size, ss)] [] wr2) := hH.out.on hb2
     cases r
     ·
      have HF : Hid (checkS x = 41) := HBAD.out (by omega) HV.out
      clear HGO HBAD HEND hc0 hcl
      go_wp2_with fail
      go_ret
      exact ⟨reti HF.out.symm, HH2.out.below⟩
     ·
      have HG : Hid (∀ j, j < 1 + 1 → okR x j = true) := HGO.out 1 rfl HV.out
      clear HGO HBAD HEND hc0 hcl
      go_wp2_with fail
      go_roundw
      case rel => exact ⟨2, by omega, by go_num, HH2, HG⟩
      case measure => simp [intOf]
    ·
     have hc0 := hH.out.cell 0 (b := B) rfl 2 rfl
     have hcl := hH.out.lt 0 (b := B) rfl
     have HC := Volume_orightIn ss A x wr HO.out
     have HV : Hid (okR x 2 = (x.2.2.1.all rightVolume && risesBy sLt (fun y => y.1) x.2.2.1)) := rfl
     generalize (x.2.2.1.all rightVolume && risesBy sLt (fun y => y.1) x.2.2.1) = r at HC HV
     go_wp2_with (first | (refine BigFrame.wpList_want rfl (fun _ hKK => wp_load_mid 61 _ rfl (w.heap.size) 0 rfl ss _ HR.out underlying61 rfl his (hKK _ _ ?_))) | fail)
     refine HC.mono ?_
     rintro e wr2 ⟨rfl, hb2⟩
     have HH2 : Hid (Held w [(B, [.iface 136 (.agg #[.iface 132 (.agg #[])]), .iface 141 (.agg #[.iface 137 (.agg #[])]), .iface 146 (.agg #[.iface 142 (.agg #[])]), .iface 151 (.agg #[.iface 147 (.agg #[])]), .iface 156 (.agg #[.iface 152 (.agg #[])]), .iface 161 (.agg #[.iface 157 (.agg #[])])]), (w.heap.size, ss)] [] wr2) := hH.out.on hb2
     cases r
     ·
      have HF : Hid (checkS x = 41) := HBAD.out (by omega) HV.out
      clear HGO HBAD HEND hc0 hcl
      go_wp2_with fail
      go_ret
      exact ⟨reti HF.out.symm, HH2.out.below⟩
     ·
      have HG : Hid (∀ j, j < 2 + 1 → okR x j = true) := HGO.out 2 rfl HV.out
      clear HGO HBAD HEND hc0 hcl
      go_wp2_with fail
      go_roundw
      case rel => exact ⟨3, by omega, by go_num, HH2, HG⟩
      case measure => simp [intOf]
    ·
     have hc0 := hH.out.cell 0 (b := B) rfl 3 rfl
     have hcl := hH.out.lt 0 (b := B) rfl
     have HC := Claim_orightIn ss A x wr HO.out
     have HV : Hid (okR x 3 = (x.2.2.2.1.all rightClaim && risesBy sLt (fun y => y.1) x.2.2.2.1)) := rfl
     generalize (x.2.2.2.1.all rightClaim && risesBy sLt (fun y => y.1) x.2.2.2.1) = r at HC HV
     go_wp2_with (first | (refine BigFrame.wpList_want rfl (fun _ hKK => wp_load_mid 61 _ rfl (w.heap.size) 0 rfl ss _ HR.out underlying61 rfl his (hKK _ _ ?_))) | fail)
     refine HC.mono ?_
     rintro e wr2 ⟨rfl, hb2⟩
     have HH2 : Hid (Held w [(B, [.iface 136 (.agg #[.iface 132 (.agg #[])]), .iface 141 (.agg #[.iface 137 (.agg #[])]), .iface 146 (.agg #[.iface 142 (.agg #[])]), .iface 151 (.agg #[.iface 147 (.agg #[])]), .iface 156 (.agg #[.iface 152 (.agg #[])]), .iface 161 (.agg #[.iface 157 (.agg #[])])]), (w.heap.size, ss)] [] wr2) := hH.out.on hb2
     cases r
     ·
      have HF : Hid (checkS x = 41) := HBAD.out (by omega) HV.out
      clear HGO HBAD HEND hc0 hcl
      go_wp2_with fail
      go_ret
      exact ⟨reti HF.out.symm, HH2.out.below⟩
     ·
      have HG : Hid (∀ j, j < 3 + 1 → okR x j = true) := HGO.out 3 rfl HV.out
      clear HGO HBAD HEND hc0 hcl
      go_wp2_with fail
      go_roundw
      case rel => exact ⟨4, by omega, by go_num, HH2, HG⟩
      case measure => simp [intOf]
    ·
     have hc0 := hH.out.cell 0 (b := B) rfl 4 rfl
     have hcl := hH.out.lt 0 (b := B) rfl
     have HC := Class_orightIn ss A x wr HO.out
     have HV : Hid (okR x 4 = (x.2.2.2.2.1.all rightClass && risesBy sLt (fun y => y.1) x.2.2.2.2.1)) := rfl
     generalize (x.2.2.2.2.1.all rightClass && risesBy sLt (fun y => y.1) x.2.2.2.2.1) = r at HC HV
     go_wp2_with (first | (refine BigFrame.wpList_want rfl (fun _ hKK => wp_load_mid 61 _ rfl (w.heap.size) 0 rfl ss _ HR.out underlying61 rfl his (hKK _ _ ?_))) | fail)
     refine HC.mono ?_
     rintro e wr2 ⟨rfl, hb2⟩
     have HH2 : Hid (Held w [(B, [.iface 136 (.agg #[.iface 132 (.agg #[])]), .iface 141 (.agg #[.iface 137 (.agg #[])]), .iface 146 (.agg #[.iface 142 (.agg #[])]), .iface 151 (.agg #[.iface 147 (.agg #[])]), .iface 156 (.agg #[.iface 152 (.agg #[])]), .iface 161 (.agg #[.iface 157 (.agg #[])])]), (w.heap.size, ss)] [] wr2) := hH.out.on hb2
     cases r
     ·
      have HF : Hid (checkS x = 41) := HBAD.out (by omega) HV.out
      clear HGO HBAD HEND hc0 hcl
      go_wp2_with fail
      go_ret
      exact ⟨reti HF.out.symm, HH2.out.below⟩
     ·
      have HG : Hid (∀ j, j < 4 + 1 → okR x j = true) := HGO.out 4 rfl HV.out
      clear HGO HBAD HEND hc0 hcl
      go_wp2_with fail
      go_roundw
      case rel => exact ⟨5, by omega, by go_num, HH2, HG⟩
      case measure => simp [intOf]
    ·
     have hc0 := hH.out.cell 0 (b := B) rfl 5 rfl
     have hcl := hH.out.lt 0 (b := B) rfl
     have HC := Budget_orightIn ss A x wr HO.out
     have HV : Hid (okR x 5 = (x.2.2.2.2.2.all rightBudget && risesBy sLt (fun y => y.1) x.2.2.2.2.2)) := rfl
     generalize (x.2.2.2.2.2.all rightBudget && risesBy sLt (fun y => y.1) x.2.2.2.2.2) = r at HC HV
     go_wp2_with (first | (refine BigFrame.wpList_want rfl (fun _ hKK => wp_load_mid 61 _ rfl (w.heap.size) 0 rfl ss _ HR.out underlying61 rfl his (hKK _ _ ?_))) | fail)
     refine HC.mono ?_
     rintro e wr2 ⟨rfl, hb2⟩
     have HH2 : Hid (Held w [(B, [.iface 136 (.agg #[.iface 132 (.agg #[])]), .iface 141 (.agg #[.iface 137 (.agg #[])]), .iface 146 (.agg #[.iface 142 (.agg #[])]), .iface 151 (.agg #[.iface 147 (.agg #[])]), .iface 156 (.agg #[.iface 152 (.agg #[])]), .iface 161 (.agg #[.iface 157 (.agg #[])])]), (w.heap.size, ss)] [] wr2) := hH.out.on hb2
     cases r
     ·
      have HF : Hid (checkS x = 41) := HBAD.out (by omega) HV.out
      clear HGO HBAD HEND hc0 hcl
      go_wp2_with fail
      go_ret
      exact ⟨reti HF.out.symm, HH2.out.below⟩
     ·
      have HG : Hid (∀ j, j < 5 + 1 → okR x j = true) := HGO.out 5 rfl HV.out
      clear HGO HBAD HEND hc0 hcl
      go_wp2_with fail
      go_roundw
      case rel => exact ⟨6, by omega, by go_num, HH2, HG⟩
      case measure => simp [intOf]
    ·
     have HF : Hid (checkS x = 0) := HEND.out rfl
     clear HGO HBAD HEND
     go_wp2_with fail
     go_ret
     exact ⟨reti HF.out.symm, hH.out.below⟩
end Go.Proofs.YtikncmcceeacmaaGreat

namespace Go.Proofs.YtikncmcceeacmaaGreat
set_option maxHeartbeats 16000000
set_option maxRecDepth 100000
set_option linter.unusedSimpArgs false
theorem cb_cons (a b : UInt8) (xs ys : List UInt8) : (a.toNat < b.toNat ∧ Lib.compareBytes (a :: xs) (b :: ys) = -1) ∨ (b.toNat < a.toNat ∧ Lib.compareBytes (a :: xs) (b :: ys) = 1) ∨ (a.toNat = b.toNat ∧ Lib.compareBytes (a :: xs) (b :: ys) = Lib.compareBytes xs ys) := by
 simp only [Lib.compareBytes]
 by_cases h1 : a < b
 ·
  exact .inl ⟨h1, by rw [if_pos h1]⟩
 ·
  by_cases h2 : b < a
  ·
   exact .inr (.inl ⟨h2, by rw [if_neg h1, if_pos h2]⟩)
  ·
   have h1' : ¬ a.toNat < b.toNat := h1
   have h2' : ¬ b.toNat < a.toNat := h2
   exact .inr (.inr ⟨by omega, by rw [if_neg h1, if_neg h2]⟩)
theorem cb_less : ∀ (a b : List UInt8), (Lib.compareBytes a b < 0) ↔ Op.bytesLess a b = true
 | [], [] => by simp [Lib.compareBytes, Op.bytesLess]
 | [], _ :: _ => by simp [Lib.compareBytes, Op.bytesLess]
 | _ :: _, [] => by simp [Lib.compareBytes, Op.bytesLess]
 | a :: xs, b :: ys => by
  have ih := cb_less xs ys
  rcases cb_cons a b xs ys with ⟨h, e⟩ | ⟨h, e⟩ | ⟨h, e⟩ <;> rw [e] <;> simp only [Op.bytesLess, Bool.or_eq_true, Bool.and_eq_true, decide_eq_true_eq, beq_iff_eq]
  ·
   have : a < b := h
   simp [this]
  ·
   have h1 : ¬ a < b := fun x => by have : a.toNat < b.toNat := x; omega
   have h2 : ¬ a = b := fun x => by rw [x] at h; omega
   simp [h1, h2]
  ·
   have h1 : ¬ a < b := fun x => by have : a.toNat < b.toNat := x; omega
   have h2 : a = b := UInt8.toNat_inj.1 h
   simp [h1, h2, ih]
theorem cb_self : ∀ a : List UInt8, Lib.compareBytes a a = 0
 | [] => rfl
 | a :: xs => by rcases cb_cons a a xs xs with ⟨h, _⟩ | ⟨h, _⟩ | ⟨_, e⟩; omega; omega; rw [e]; exact cb_self xs
theorem cb_trans : ∀ (a b c : List UInt8), Lib.compareBytes a b < 0 → Lib.compareBytes b c < 0 → Lib.compareBytes a c < 0
 | [], [], _, h, _ => by simp [Lib.compareBytes] at h
 | _ :: _, [], _, h, _ => by simp [Lib.compareBytes] at h
 | _, _ :: _, [], _, h => by simp [Lib.compareBytes] at h
 | [], _ :: _, _ :: _, _, _ => by simp [Lib.compareBytes]
 | a :: xs, b :: ys, c :: zs, h1, h2 => by
  rcases cb_cons a b xs ys with ⟨p, e⟩ | ⟨p, e⟩ | ⟨p, e⟩ <;> rw [e] at h1 <;> rcases cb_cons b c ys zs with ⟨q, f⟩ | ⟨q, f⟩ | ⟨q, f⟩ <;> rw [f] at h2 <;> rcases cb_cons a c xs zs with ⟨r, g⟩ | ⟨r, g⟩ | ⟨r, g⟩ <;> rw [g] <;> first | omega | exact cb_trans xs ys zs h1 h2
theorem sLt_iff (a b : ByteArray) : sLt a b = true ↔ Lib.compareBytes a.data.toList b.data.toList < 0 := by
 unfold sLt
 rw [ByteArray.toList_eq, ByteArray.toList_eq]
 exact (cb_less _ _).symm
theorem sLt_false (a b : ByteArray) : sLt a b = false ↔ ¬ Lib.compareBytes a.data.toList b.data.toList < 0 := by
 rw [← sLt_iff]; simp
theorem sLt_trans {a b c : ByteArray} (h1 : sLt a b = true) (h2 : sLt b c = true) : sLt a c = true := by
 rw [sLt_iff] at *; exact cb_trans _ _ _ h1 h2
theorem cb_tri : ∀ a b : List UInt8, (Lib.compareBytes a b < 0 ∧ 0 < Lib.compareBytes b a) ∨ (Lib.compareBytes a b = 0 ∧ a = b) ∨ (0 < Lib.compareBytes a b ∧ Lib.compareBytes b a < 0)
 | [], [] => .inr (.inl ⟨rfl, rfl⟩)
 | [], _ :: _ => .inl ⟨by simp [Lib.compareBytes], by simp [Lib.compareBytes]⟩
 | _ :: _, [] => .inr (.inr ⟨by simp [Lib.compareBytes], by simp [Lib.compareBytes]⟩)
 | a :: xs, b :: ys => by
  have ih := cb_tri xs ys
  rcases cb_cons a b xs ys with ⟨h, e⟩ | ⟨h, e⟩ | ⟨h, e⟩ <;> rcases cb_cons b a ys xs with ⟨h', e'⟩ | ⟨h', e'⟩ | ⟨h', e'⟩ <;> rw [e, e'] <;> first | omega | skip
  have : a = b := UInt8.toNat_inj.1 h
  subst this
  rcases ih with h | ⟨h1, h2⟩ | h
  ·
   exact .inl h
  ·
   exact .inr (.inl ⟨h1, by rw [h2]⟩)
  ·
   exact .inr (.inr h)
theorem sLt_asymm {a b : ByteArray} (h : sLt a b = true) : sLt b a = false := by
 rw [sLt_false]; rw [sLt_iff] at h
 rcases cb_tri a.data.toList b.data.toList with ⟨_, h'⟩ | ⟨h', _⟩ | ⟨h', _⟩ <;> omega
end Go.Proofs.YtikncmcceeacmaaGreat

namespace Go.Proofs.YtikncmcceeacmaaGreat
set_option maxHeartbeats 16000000
set_option maxRecDepth 100000
open Tryz Go.RowKit
set_option linter.unusedSimpArgs false
set_option linter.unusedSectionVars false
theorem sGt_iff (a b : ByteArray) : sGt a b = true ↔ sLt b a = true := by
 have h3 := cb_tri a.data.toList b.data.toList
 have e1 : sEq a b = true ↔ a = b := sEq_iff a b
 rw [sGt, Bool.and_eq_true, Bool.not_eq_true', Bool.not_eq_true', sLt_iff, sLt_false]
 constructor
 ·
  rintro ⟨h1, h2⟩
  rcases h3 with h | h | h
  ·
   exact absurd h.1 h1
  ·
   have : a = b := by cases a; cases b; simpa using h.2
   rw [e1.2 this] at h2; cases h2
  ·
   exact h.2
 ·
  intro h
  rcases h3 with h' | h' | h'
  ·
   omega
  ·
   have : a = b := by cases a; cases b; simpa using h'.2
   subst this; rw [cb_self] at h; omega
  ·
   refine ⟨by omega, sEq_false (fun e => ?_)⟩
   subst e; rw [cb_self] at h; omega
theorem sLt_of {a b : ByteArray} (h1 : sGt a b = false) (h2 : sEq a b = false) : sLt a b = true := by
 rw [sGt, h2] at h1; simpa using h1
section
variable {α : Type} [Inhabited α] (f : α → ByteArray)
def Up (L : List α) : Prop := L.Pairwise (fun a b => sLt (f a) (f b) = true)
theorem rises_up {L : List α} : risesBy sLt f L = true ↔ Up f L := by
 rw [risesBy, allTo_iff, Up, List.pairwise_iff_getElem]
 constructor
 ·
  intro h
  have h' : ∀ i (hi : i + 1 < L.length), sLt (f L[i]) (f L[i + 1]) = true := fun i hi => by
   have := h (i + 1) hi
   rw [getE _ _ hi, show i + 1 - 1 = i by omega, getE _ _ (by omega)] at this
   simpa using this
  have key : ∀ d i (hd : i + d + 1 < L.length), sLt (f (L[i]'(by omega))) (f L[i + d + 1]) = true := by
   intro d
   induction d with
   | zero => intro i hd; exact h' i hd
   | succ d ih => intro i hd; exact sLt_trans (ih i (by omega)) (h' (i + d + 1) hd)
  intro i j hi hj hij
  have := key (j - i - 1) i (by omega)
  have e : i + (j - i - 1) + 1 = j := by omega
  simpa only [e] using this
 ·
  intro h i hi
  rcases Nat.eq_zero_or_pos i with h0 | h0
  ·
   simp [h0]
  ·
   have := h (i - 1) i (by omega) hi (by omega)
   rw [getE _ _ hi, getE _ _ (by omega)]
   simp [this]
theorem up_replace {L : List α} {o : α} (h : Up f L) {i : Nat} (hi : i < L.length) (he : f L[i] = f o) : Up f (L.take i ++ o :: L.drop (i + 1)) := by
 have e : (L.take i ++ o :: L.drop (i + 1)).map f = L.map f := by
  have e0 : L.take i ++ L[i] :: L.drop (i + 1) = L := by rw [← List.drop_eq_getElem_cons hi, List.take_append_drop]
  calc (L.take i ++ o :: L.drop (i + 1)).map f = (L.take i ++ L[i] :: L.drop (i + 1)).map f := by simp only [List.map_append, List.map_cons, he]
   _ = L.map f := by rw [e0]
 have h1 : (L.map f).Pairwise (fun a b => sLt a b = true) := List.pairwise_map.2 h
 rw [← e] at h1
 exact List.pairwise_map.1 h1
theorem up_insert {L : List α} {o : α} (h : Up f L) (hn : ∀ x ∈ L, sEq (f x) (f o) = false) {i : Nat} (hi : L.findIdx (fun x => sGt (f x) (f o)) = i) : Up f (L.take i ++ o :: L.drop i) := by
 have hs : Up f (L.take i ++ L.drop i) := by rw [List.take_append_drop]; exact h
 obtain ⟨h1, h2, h3⟩ := List.pairwise_append.1 hs
 have hlow : ∀ a ∈ L.take i, sLt (f a) (f o) = true := fun a ha => by
  obtain ⟨j, hj, rfl⟩ := List.mem_iff_getElem.1 ha
  rw [List.length_take] at hj
  have hj' : j < L.findIdx (fun x => sGt (f x) (f o)) := by omega
  have := List.not_of_lt_findIdx hj'
  rw [List.getElem_take]
  exact sLt_of (by simpa using this) (hn _ (List.getElem_mem _))
 have hhigh : ∀ b ∈ L.drop i, sLt (f o) (f b) = true := fun b hb => by
  have hil : i < L.length := by
   rcases Nat.lt_or_ge i L.length with h' | h'
   ·
    exact h'
   ·
    rw [List.drop_eq_nil_of_le h'] at hb; cases hb
  have h0 : sGt (f L[i]) (f o) = true := by
   have := List.findIdx_getElem (xs := L) (p := fun x => sGt (f x) (f o)) (w := by rw [hi]; exact hil)
   simpa only [hi] using this
  have h0' := (sGt_iff _ _).1 h0
  rw [List.drop_eq_getElem_cons hil] at hb h2
  rcases List.mem_cons.1 hb with rfl | hb
  ·
   exact h0'
  ·
   exact sLt_trans h0' ((List.pairwise_cons.1 h2).1 b hb)
 refine List.pairwise_append.2 ⟨h1, List.pairwise_cons.2 ⟨hhigh, h2⟩, fun a ha b hb => ?_⟩
 rcases List.mem_cons.1 hb with rfl | hb
 ·
  exact hlow a ha
 ·
  exact h3 a ha b hb
def ListOK (right : α → Bool) (L : List α) : Prop := L.length ≤ 256 ∧ L.all right = true ∧ risesBy sLt f L = true
variable {f} {right : α → Bool} {L : List α}
theorem ListOK.put {o : α} {r : List α × Bool} (h : ListOK f right L) (ho : right o = true) (hp : putL f L o = some r) : ListOK f right r.1 := by
 obtain ⟨h1, h2, h3⟩ := h
 rw [rises_up] at h3
 rw [List.all_eq_true] at h2
 have hall : ∀ i j, (L.take i ++ o :: L.drop j).all right = true := fun i j => by
  rw [List.all_eq_true]
  intro x hx
  rcases List.mem_append.1 hx with hx | hx
  ·
   exact h2 x (List.mem_of_mem_take hx)
  ·
   rcases List.mem_cons.1 hx with rfl | hx
   ·
    exact ho
   ·
    exact h2 x (List.mem_of_mem_drop hx)
 rw [putL] at hp
 split at hp
 ·
  rename_i hi
  cases hp
  have := List.findIdx_getElem (xs := L) (p := fun x => sEq (f x) (f o)) (w := hi)
  exact ⟨by simp; omega, hall _ _, (rises_up f).2 (up_replace f h3 hi ((sEq_iff _ _).1 this))⟩
 ·
  rename_i hi
  split at hp
  ·
   cases hp
  ·
   rename_i hl
   cases hp
   refine ⟨by simp; omega, hall _ _, (rises_up f).2 (up_insert f h3 (fun x hx => ?_) rfl)⟩
   have he : L.findIdx (fun x => sEq (f x) (f o)) = L.length := Nat.le_antisymm List.findIdx_le_length (Nat.le_of_not_lt hi)
   have := (List.findIdx_eq_length.1 he) x hx
   simpa using this
end
structure StOK (x : StateD) : Prop where
 o0 : ListOK (fun y : PodD => y.1) rightPod x.1
 o1 : ListOK (fun y : NodeD => y.1) rightNode x.2.1
 o2 : ListOK (fun y : VolumeD => y.1) rightVolume x.2.2.1
 o3 : ListOK (fun y : ClaimD => y.1) rightClaim x.2.2.2.1
 o4 : ListOK (fun y : ClassD => y.1) rightClass x.2.2.2.2.1
 o5 : ListOK (fun y : BudgetD => y.1) rightBudget x.2.2.2.2.2
theorem checkS_ok (x : StateD) : checkS x = 0 ↔ StOK x := by
 constructor
 ·
  intro h
  rw [checkS] at h
  split at h
  ·
   rename_i h1
   split at h
   ·
    rename_i h2
    rw [allTo_iff] at h1 h2
    exact ⟨⟨by simpa [okC] using h1 0 (by omega), by have := h2 0 (by omega); simp only [okR, Bool.and_eq_true] at this; exact this.1, by have := h2 0 (by omega); simp only [okR, Bool.and_eq_true] at this; exact this.2⟩, ⟨by simpa [okC] using h1 1 (by omega), by have := h2 1 (by omega); simp only [okR, Bool.and_eq_true] at this; exact this.1, by have := h2 1 (by omega); simp only [okR, Bool.and_eq_true] at this; exact this.2⟩, ⟨by simpa [okC] using h1 2 (by omega), by have := h2 2 (by omega); simp only [okR, Bool.and_eq_true] at this; exact this.1, by have := h2 2 (by omega); simp only [okR, Bool.and_eq_true] at this; exact this.2⟩, ⟨by simpa [okC] using h1 3 (by omega), by have := h2 3 (by omega); simp only [okR, Bool.and_eq_true] at this; exact this.1, by have := h2 3 (by omega); simp only [okR, Bool.and_eq_true] at this; exact this.2⟩, ⟨by simpa [okC] using h1 4 (by omega), by have := h2 4 (by omega); simp only [okR, Bool.and_eq_true] at this; exact this.1, by have := h2 4 (by omega); simp only [okR, Bool.and_eq_true] at this; exact this.2⟩, ⟨by simpa [okC] using h1 5 (by omega), by have := h2 5 (by omega); simp only [okR, Bool.and_eq_true] at this; exact this.1, by have := h2 5 (by omega); simp only [okR, Bool.and_eq_true] at this; exact this.2⟩⟩
   ·
    cases h
  ·
   cases h
 ·
  intro h
  have c1 : allTo 6 (okC x) = true := allTo_true fun j hj => by
   rcases (by omega : j = 0 ∨ j = 1 ∨ j = 2 ∨ j = 3 ∨ j = 4 ∨ j = 5) with rfl | rfl | rfl | rfl | rfl | rfl
   ·
    exact decide_eq_true h.o0.1
   ·
    exact decide_eq_true h.o1.1
   ·
    exact decide_eq_true h.o2.1
   ·
    exact decide_eq_true h.o3.1
   ·
    exact decide_eq_true h.o4.1
   ·
    exact decide_eq_true h.o5.1
  have c2 : allTo 6 (okR x) = true := allTo_true fun j hj => by
   rcases (by omega : j = 0 ∨ j = 1 ∨ j = 2 ∨ j = 3 ∨ j = 4 ∨ j = 5) with rfl | rfl | rfl | rfl | rfl | rfl
   ·
    rw [okR, h.o0.2.1, h.o0.2.2]; rfl
   ·
    rw [okR, h.o1.2.1, h.o1.2.2]; rfl
   ·
    rw [okR, h.o2.2.1, h.o2.2.2]; rfl
   ·
    rw [okR, h.o3.2.1, h.o3.2.2]; rfl
   ·
    rw [okR, h.o4.2.1, h.o4.2.2]; rfl
   ·
    rw [okR, h.o5.2.1, h.o5.2.2]; rfl
  rw [checkS, c1, c2]; rfl
theorem StOK.fits {x : StateD} (h : StOK x) : Fits x := ⟨by have := h.o0.1; omega, by have := h.o1.1; omega, by have := h.o2.1; omega, by have := h.o3.1; omega, by have := h.o4.1; omega, by have := h.o5.1; omega⟩
theorem put_okPod {x : StateD} {o : PodD} (h : StOK x) (ho : rightPod o = true) (he : (putSPod x o).2.2 = 0) : StOK (putSPod x o).1 := by
 obtain ⟨r, hr⟩ : ∃ r, putL (fun y : PodD => y.1) x.1 o = r := ⟨_, rfl⟩
 rw [putSPod, hr] at he ⊢
 cases r with
 | none => cases he
 | some r => exact ⟨h.o0.put ho hr, h.o1, h.o2, h.o3, h.o4, h.o5⟩
theorem put_okNode {x : StateD} {o : NodeD} (h : StOK x) (ho : rightNode o = true) (he : (putSNode x o).2.2 = 0) : StOK (putSNode x o).1 := by
 obtain ⟨r, hr⟩ : ∃ r, putL (fun y : NodeD => y.1) x.2.1 o = r := ⟨_, rfl⟩
 rw [putSNode, hr] at he ⊢
 cases r with
 | none => cases he
 | some r => exact ⟨h.o0, h.o1.put ho hr, h.o2, h.o3, h.o4, h.o5⟩
theorem put_okVolume {x : StateD} {o : VolumeD} (h : StOK x) (ho : rightVolume o = true) (he : (putSVolume x o).2.2 = 0) : StOK (putSVolume x o).1 := by
 obtain ⟨r, hr⟩ : ∃ r, putL (fun y : VolumeD => y.1) x.2.2.1 o = r := ⟨_, rfl⟩
 rw [putSVolume, hr] at he ⊢
 cases r with
 | none => cases he
 | some r => exact ⟨h.o0, h.o1, h.o2.put ho hr, h.o3, h.o4, h.o5⟩
theorem put_okClaim {x : StateD} {o : ClaimD} (h : StOK x) (ho : rightClaim o = true) (he : (putSClaim x o).2.2 = 0) : StOK (putSClaim x o).1 := by
 obtain ⟨r, hr⟩ : ∃ r, putL (fun y : ClaimD => y.1) x.2.2.2.1 o = r := ⟨_, rfl⟩
 rw [putSClaim, hr] at he ⊢
 cases r with
 | none => cases he
 | some r => exact ⟨h.o0, h.o1, h.o2, h.o3.put ho hr, h.o4, h.o5⟩
theorem put_okClass {x : StateD} {o : ClassD} (h : StOK x) (ho : rightClass o = true) (he : (putSClass x o).2.2 = 0) : StOK (putSClass x o).1 := by
 obtain ⟨r, hr⟩ : ∃ r, putL (fun y : ClassD => y.1) x.2.2.2.2.1 o = r := ⟨_, rfl⟩
 rw [putSClass, hr] at he ⊢
 cases r with
 | none => cases he
 | some r => exact ⟨h.o0, h.o1, h.o2, h.o3, h.o4.put ho hr, h.o5⟩
theorem put_okBudget {x : StateD} {o : BudgetD} (h : StOK x) (ho : rightBudget o = true) (he : (putSBudget x o).2.2 = 0) : StOK (putSBudget x o).1 := by
 obtain ⟨r, hr⟩ : ∃ r, putL (fun y : BudgetD => y.1) x.2.2.2.2.2 o = r := ⟨_, rfl⟩
 rw [putSBudget, hr] at he ⊢
 cases r with
 | none => cases he
 | some r => exact ⟨h.o0, h.o1, h.o2, h.o3, h.o4, h.o5.put ho hr⟩
theorem checkO_zero {o : ObjectD} (h : checkO o = 0) : (1 ≤ o.1 ∧ o.1 ≤ 6) ∧ rightO o = true ∧ othersB o = true := by
 rw [checkO] at h
 split at h
 ·
  rename_i h1
  split at h
  ·
   rename_i h2
   rw [Bool.and_eq_true] at h2
   exact ⟨h1, h2⟩
  ·
   cases h
 ·
  cases h
theorem put_ok {x : StateD} {o : ObjectD} (h : StOK x) (he : (putO x o).2.2 = 0) : StOK (putO x o).1 := by
 by_cases hc : checkO o = 0
 ·
  obtain ⟨hk, hr, _⟩ := checkO_zero hc
  have hk' : o.1 = 1 ∨ o.1 = 2 ∨ o.1 = 3 ∨ o.1 = 4 ∨ o.1 = 5 ∨ o.1 = 6 := by omega
  rcases hk' with hk' | hk' | hk' | hk' | hk' | hk'
  ·
   have e : putO x o = putSPod x o.2.1 := by simp [putO, hc, hk']
   have e2 : rightO o = rightPod o.2.1 := by simp [rightO, hk']
   rw [e] at he ⊢
   exact put_okPod h (by rw [← e2]; exact hr) he
  ·
   have e : putO x o = putSNode x o.2.2.1 := by simp [putO, hc, hk']
   have e2 : rightO o = rightNode o.2.2.1 := by simp [rightO, hk']
   rw [e] at he ⊢
   exact put_okNode h (by rw [← e2]; exact hr) he
  ·
   have e : putO x o = putSVolume x o.2.2.2.1 := by simp [putO, hc, hk']
   have e2 : rightO o = rightVolume o.2.2.2.1 := by simp [rightO, hk']
   rw [e] at he ⊢
   exact put_okVolume h (by rw [← e2]; exact hr) he
  ·
   have e : putO x o = putSClaim x o.2.2.2.2.1 := by simp [putO, hc, hk']
   have e2 : rightO o = rightClaim o.2.2.2.2.1 := by simp [rightO, hk']
   rw [e] at he ⊢
   exact put_okClaim h (by rw [← e2]; exact hr) he
  ·
   have e : putO x o = putSClass x o.2.2.2.2.2.1 := by simp [putO, hc, hk']
   have e2 : rightO o = rightClass o.2.2.2.2.2.1 := by simp [rightO, hk']
   rw [e] at he ⊢
   exact put_okClass h (by rw [← e2]; exact hr) he
  ·
   have e : putO x o = putSBudget x o.2.2.2.2.2.2 := by simp [putO, hc, hk']
   have e2 : rightO o = rightBudget o.2.2.2.2.2.2 := by simp [rightO, hk']
   rw [e] at he ⊢
   exact put_okBudget h (by rw [← e2]; exact hr) he
 ·
  rw [putO, if_neg hc] at he
  exact absurd he hc
end Go.Proofs.YtikncmcceeacmaaGreat

namespace Go.Proofs.YtikncmcceeacmaaGreat
set_option maxHeartbeats 16000000
set_option maxRecDepth 100000
open Tryz Go.RowKit
set_option linter.unusedSimpArgs false
def clsO (n : Int) (s : ByteArray) : ObjectD := (n, (⟨#[]⟩, 0, [], (0, 0, 0), [], [], [], [], [], [], [], [], ⟨#[]⟩, ⟨#[]⟩), (⟨#[]⟩, [], [], false, (0, 0, 0), 0, 0), (⟨#[]⟩, 0, ⟨#[]⟩, [], ⟨#[]⟩), (⟨#[]⟩, 0, ⟨#[]⟩, ⟨#[]⟩), (s, false), (⟨#[]⟩, [], 0))
def clsC (n : Int) (s : ByteArray) : List Value := .int .i64 n :: .string ⟨#[]⟩ :: .int .i64 0 :: .slice Option.none 0 0 :: .int .i64 0 :: .int .i64 0 :: .int .i64 0 :: .slice Option.none 0 0 :: .slice Option.none 0 0 :: .slice Option.none 0 0 :: .slice Option.none 0 0 :: .slice Option.none 0 0 :: .slice Option.none 0 0 :: .slice Option.none 0 0 :: .slice Option.none 0 0 :: .string ⟨#[]⟩ :: .string ⟨#[]⟩ :: .string ⟨#[]⟩ :: .slice Option.none 0 0 :: .slice Option.none 0 0 :: .bool false :: .int .i64 0 :: .int .i64 0 :: .int .i64 0 :: .int .i64 0 :: .int .i64 0 :: .string ⟨#[]⟩ :: .int .i64 0 :: .string ⟨#[]⟩ :: .slice Option.none 0 0 :: .string ⟨#[]⟩ :: .string ⟨#[]⟩ :: .int .i64 0 :: .string ⟨#[]⟩ :: .string ⟨#[]⟩ :: .string s :: .bool false :: .string ⟨#[]⟩ :: .slice Option.none 0 0 :: .int .i64 0 :: []
theorem cls_rep (A : Where) (w : World) (n : Int) (s : ByteArray) (hs : s.size ≤ 140737488355328) : RObject A w (clsC n s) (clsO n s) :=
 RObject.mk (x := clsO n s) (h3 := (none, 0, 0)) (h7 := (none, 0, 0)) (h8 := (none, 0, 0)) (h9 := (none, 0, 0)) (h10 := (none, 0, 0)) (h11 := (none, 0, 0)) (h12 := (none, 0, 0)) (h13 := (none, 0, 0)) (h14 := (none, 0, 0)) (h18 := (none, 0, 0)) (h19 := (none, 0, 0)) (h29 := (none, 0, 0)) (h38 := (none, 0, 0)) (Nat.zero_le _) (SlAt.nil _ _ none 0 (fun _ => rfl)) (SlAt.nil _ _ none 0 (fun _ => rfl)) (SlAt.nil _ _ none 0 (fun _ => rfl)) (SlAt.nil _ _ none 0 (fun _ => rfl)) (SlAt.nil _ _ none 0 (fun _ => rfl)) (SlAt.nil _ _ none 0 (fun _ => rfl)) (SlAt.nil _ _ none 0 (fun _ => rfl)) (SlAt.nil _ _ none 0 (fun _ => rfl)) (SlAt.nil _ _ none 0 (fun _ => rfl)) (Nat.zero_le _) (Nat.zero_le _) (Nat.zero_le _) (SlAt.nil _ _ none 0 (fun _ => rfl)) (SlAt.nil _ _ none 0 (fun _ => rfl)) (Nat.zero_le _) (Nat.zero_le _) (SlAt.nil _ _ none 0 (fun _ => rfl)) (Nat.zero_le _) (Nat.zero_le _) (Nat.zero_le _) (Nat.zero_le _) hs (Nat.zero_le _) (SlAt.nil _ _ none 0 (fun _ => rfl))
theorem class_calls (s : ByteArray) (w : World) : Calls prog 45 #[.string s] w fun e w' => e = .returned (.agg (clsC 5 s).toArray) ∧ Below w.heap.size w w' := by
 have HT : Hid ((w.alloc (.cells (.int .i64 0 :: .string ⟨#[]⟩ :: .int .i64 0 :: .slice Option.none 0 0 :: .int .i64 0 :: .int .i64 0 :: .int .i64 0 :: .slice Option.none 0 0 :: .slice Option.none 0 0 :: .slice Option.none 0 0 :: .slice Option.none 0 0 :: .slice Option.none 0 0 :: .slice Option.none 0 0 :: .slice Option.none 0 0 :: .slice Option.none 0 0 :: .string ⟨#[]⟩ :: .string ⟨#[]⟩ :: .string ⟨#[]⟩ :: .slice Option.none 0 0 :: .slice Option.none 0 0 :: .bool false :: .int .i64 0 :: .int .i64 0 :: .int .i64 0 :: .int .i64 0 :: .int .i64 0 :: .string ⟨#[]⟩ :: .int .i64 0 :: .string ⟨#[]⟩ :: .slice Option.none 0 0 :: .string ⟨#[]⟩ :: .string ⟨#[]⟩ :: .int .i64 0 :: .string ⟨#[]⟩ :: .string ⟨#[]⟩ :: .string ⟨#[]⟩ :: .bool false :: .string ⟨#[]⟩ :: .slice Option.none 0 0 :: .int .i64 0 :: [] : List Value).toArray 46)).there w.heap.size 0 40) := ((Held.start w).room rfl (.int .i64 0 :: .string ⟨#[]⟩ :: .int .i64 0 :: .slice Option.none 0 0 :: .int .i64 0 :: .int .i64 0 :: .int .i64 0 :: .slice Option.none 0 0 :: .slice Option.none 0 0 :: .slice Option.none 0 0 :: .slice Option.none 0 0 :: .slice Option.none 0 0 :: .slice Option.none 0 0 :: .slice Option.none 0 0 :: .slice Option.none 0 0 :: .string ⟨#[]⟩ :: .string ⟨#[]⟩ :: .string ⟨#[]⟩ :: .slice Option.none 0 0 :: .slice Option.none 0 0 :: .bool false :: .int .i64 0 :: .int .i64 0 :: .int .i64 0 :: .int .i64 0 :: .int .i64 0 :: .string ⟨#[]⟩ :: .int .i64 0 :: .string ⟨#[]⟩ :: .slice Option.none 0 0 :: .string ⟨#[]⟩ :: .string ⟨#[]⟩ :: .int .i64 0 :: .string ⟨#[]⟩ :: .string ⟨#[]⟩ :: .string ⟨#[]⟩ :: .bool false :: .string ⟨#[]⟩ :: .slice Option.none 0 0 :: .int .i64 0 :: [] : List Value).toArray 46).there 0 rfl
 obtain ⟨u4, hu4⟩ : ∃ u4, u4 = (w.alloc (.cells (.int .i64 0 :: .string ⟨#[]⟩ :: .int .i64 0 :: .slice Option.none 0 0 :: .int .i64 0 :: .int .i64 0 :: .int .i64 0 :: .slice Option.none 0 0 :: .slice Option.none 0 0 :: .slice Option.none 0 0 :: .slice Option.none 0 0 :: .slice Option.none 0 0 :: .slice Option.none 0 0 :: .slice Option.none 0 0 :: .slice Option.none 0 0 :: .string ⟨#[]⟩ :: .string ⟨#[]⟩ :: .string ⟨#[]⟩ :: .slice Option.none 0 0 :: .slice Option.none 0 0 :: .bool false :: .int .i64 0 :: .int .i64 0 :: .int .i64 0 :: .int .i64 0 :: .int .i64 0 :: .string ⟨#[]⟩ :: .int .i64 0 :: .string ⟨#[]⟩ :: .slice Option.none 0 0 :: .string ⟨#[]⟩ :: .string ⟨#[]⟩ :: .int .i64 0 :: .string ⟨#[]⟩ :: .string ⟨#[]⟩ :: .string ⟨#[]⟩ :: .bool false :: .string ⟨#[]⟩ :: .slice Option.none 0 0 :: .int .i64 0 :: [] : List Value).toArray 46)).setCells w.heap.size 0 (.int .i64 5 :: .string ⟨#[]⟩ :: .int .i64 0 :: .slice Option.none 0 0 :: .int .i64 0 :: .int .i64 0 :: .int .i64 0 :: .slice Option.none 0 0 :: .slice Option.none 0 0 :: .slice Option.none 0 0 :: .slice Option.none 0 0 :: .slice Option.none 0 0 :: .slice Option.none 0 0 :: .slice Option.none 0 0 :: .slice Option.none 0 0 :: .string ⟨#[]⟩ :: .string ⟨#[]⟩ :: .string ⟨#[]⟩ :: .slice Option.none 0 0 :: .slice Option.none 0 0 :: .bool false :: .int .i64 0 :: .int .i64 0 :: .int .i64 0 :: .int .i64 0 :: .int .i64 0 :: .string ⟨#[]⟩ :: .int .i64 0 :: .string ⟨#[]⟩ :: .slice Option.none 0 0 :: .string ⟨#[]⟩ :: .string ⟨#[]⟩ :: .int .i64 0 :: .string ⟨#[]⟩ :: .string ⟨#[]⟩ :: .string s :: .bool false :: .string ⟨#[]⟩ :: .slice Option.none 0 0 :: .int .i64 0 :: []) := ⟨_, rfl⟩
 have HBE : Hid (Below w.heap.size w u4) := by rw [Hid, hu4]; exact below_setCells ((Below.refl _ w).alloc (Nat.le_refl _) _) (Nat.le_refl _)
 have HRG : Hid (u4.rangeAt w.heap.size 0 (.int .i64 5 :: .string ⟨#[]⟩ :: .int .i64 0 :: .slice Option.none 0 0 :: .int .i64 0 :: .int .i64 0 :: .int .i64 0 :: .slice Option.none 0 0 :: .slice Option.none 0 0 :: .slice Option.none 0 0 :: .slice Option.none 0 0 :: .slice Option.none 0 0 :: .slice Option.none 0 0 :: .slice Option.none 0 0 :: .slice Option.none 0 0 :: .string ⟨#[]⟩ :: .string ⟨#[]⟩ :: .string ⟨#[]⟩ :: .slice Option.none 0 0 :: .slice Option.none 0 0 :: .bool false :: .int .i64 0 :: .int .i64 0 :: .int .i64 0 :: .int .i64 0 :: .int .i64 0 :: .string ⟨#[]⟩ :: .int .i64 0 :: .string ⟨#[]⟩ :: .slice Option.none 0 0 :: .string ⟨#[]⟩ :: .string ⟨#[]⟩ :: .int .i64 0 :: .string ⟨#[]⟩ :: .string ⟨#[]⟩ :: .string s :: .bool false :: .string ⟨#[]⟩ :: .slice Option.none 0 0 :: .int .i64 0 :: [])) := by rw [Hid, hu4]; exact World.rangeAt_setCells_same _ _ _ _ HT.out
 have HU4 : Hid (u4 = (w.alloc (.cells (.int .i64 0 :: .string ⟨#[]⟩ :: .int .i64 0 :: .slice Option.none 0 0 :: .int .i64 0 :: .int .i64 0 :: .int .i64 0 :: .slice Option.none 0 0 :: .slice Option.none 0 0 :: .slice Option.none 0 0 :: .slice Option.none 0 0 :: .slice Option.none 0 0 :: .slice Option.none 0 0 :: .slice Option.none 0 0 :: .slice Option.none 0 0 :: .string ⟨#[]⟩ :: .string ⟨#[]⟩ :: .string ⟨#[]⟩ :: .slice Option.none 0 0 :: .slice Option.none 0 0 :: .bool false :: .int .i64 0 :: .int .i64 0 :: .int .i64 0 :: .int .i64 0 :: .int .i64 0 :: .string ⟨#[]⟩ :: .int .i64 0 :: .string ⟨#[]⟩ :: .slice Option.none 0 0 :: .string ⟨#[]⟩ :: .string ⟨#[]⟩ :: .int .i64 0 :: .string ⟨#[]⟩ :: .string ⟨#[]⟩ :: .string ⟨#[]⟩ :: .bool false :: .string ⟨#[]⟩ :: .slice Option.none 0 0 :: .int .i64 0 :: [] : List Value).toArray 46)).setCells w.heap.size 0 (.int .i64 5 :: .string ⟨#[]⟩ :: .int .i64 0 :: .slice Option.none 0 0 :: .int .i64 0 :: .int .i64 0 :: .int .i64 0 :: .slice Option.none 0 0 :: .slice Option.none 0 0 :: .slice Option.none 0 0 :: .slice Option.none 0 0 :: .slice Option.none 0 0 :: .slice Option.none 0 0 :: .slice Option.none 0 0 :: .slice Option.none 0 0 :: .string ⟨#[]⟩ :: .string ⟨#[]⟩ :: .string ⟨#[]⟩ :: .slice Option.none 0 0 :: .slice Option.none 0 0 :: .bool false :: .int .i64 0 :: .int .i64 0 :: .int .i64 0 :: .int .i64 0 :: .int .i64 0 :: .string ⟨#[]⟩ :: .int .i64 0 :: .string ⟨#[]⟩ :: .slice Option.none 0 0 :: .string ⟨#[]⟩ :: .string ⟨#[]⟩ :: .int .i64 0 :: .string ⟨#[]⟩ :: .string ⟨#[]⟩ :: .string s :: .bool false :: .string ⟨#[]⟩ :: .slice Option.none 0 0 :: .int .i64 0 :: [])) := hu4
 clear hu4
 go_enter func45, ntmps45
 go_wp2_with (first | (refine wpList_store_mid rfl 46 _ _ rfl w.heap.size 0 (.int .i64 5 :: .string ⟨#[]⟩ :: .int .i64 0 :: .slice Option.none 0 0 :: .int .i64 0 :: .int .i64 0 :: .int .i64 0 :: .slice Option.none 0 0 :: .slice Option.none 0 0 :: .slice Option.none 0 0 :: .slice Option.none 0 0 :: .slice Option.none 0 0 :: .slice Option.none 0 0 :: .slice Option.none 0 0 :: .slice Option.none 0 0 :: .string ⟨#[]⟩ :: .string ⟨#[]⟩ :: .string ⟨#[]⟩ :: .slice Option.none 0 0 :: .slice Option.none 0 0 :: .bool false :: .int .i64 0 :: .int .i64 0 :: .int .i64 0 :: .int .i64 0 :: .int .i64 0 :: .string ⟨#[]⟩ :: .int .i64 0 :: .string ⟨#[]⟩ :: .slice Option.none 0 0 :: .string ⟨#[]⟩ :: .string ⟨#[]⟩ :: .int .i64 0 :: .string ⟨#[]⟩ :: .string ⟨#[]⟩ :: .string s :: .bool false :: .string ⟨#[]⟩ :: .slice Option.none 0 0 :: .int .i64 0 :: [] : List Value).toArray rfl rfl HT.out infoObj (by simp [Value.oneCell']) ?_; refine wpl_at HU4.out ?_) | fail)
 refine bodyPost_ret (v := .agg (.int .i64 5 :: .string ⟨#[]⟩ :: .int .i64 0 :: .slice Option.none 0 0 :: .int .i64 0 :: .int .i64 0 :: .int .i64 0 :: .slice Option.none 0 0 :: .slice Option.none 0 0 :: .slice Option.none 0 0 :: .slice Option.none 0 0 :: .slice Option.none 0 0 :: .slice Option.none 0 0 :: .slice Option.none 0 0 :: .slice Option.none 0 0 :: .string ⟨#[]⟩ :: .string ⟨#[]⟩ :: .string ⟨#[]⟩ :: .slice Option.none 0 0 :: .slice Option.none 0 0 :: .bool false :: .int .i64 0 :: .int .i64 0 :: .int .i64 0 :: .int .i64 0 :: .int .i64 0 :: .string ⟨#[]⟩ :: .int .i64 0 :: .string ⟨#[]⟩ :: .slice Option.none 0 0 :: .string ⟨#[]⟩ :: .string ⟨#[]⟩ :: .int .i64 0 :: .string ⟨#[]⟩ :: .string ⟨#[]⟩ :: .string s :: .bool false :: .string ⟨#[]⟩ :: .slice Option.none 0 0 :: .int .i64 0 :: [] : List Value).toArray) (res_cell (p := 2) (ty := 46) rfl _ _ w.heap.size (.int .i64 5 :: .string ⟨#[]⟩ :: .int .i64 0 :: .slice Option.none 0 0 :: .int .i64 0 :: .int .i64 0 :: .int .i64 0 :: .slice Option.none 0 0 :: .slice Option.none 0 0 :: .slice Option.none 0 0 :: .slice Option.none 0 0 :: .slice Option.none 0 0 :: .slice Option.none 0 0 :: .slice Option.none 0 0 :: .slice Option.none 0 0 :: .string ⟨#[]⟩ :: .string ⟨#[]⟩ :: .string ⟨#[]⟩ :: .slice Option.none 0 0 :: .slice Option.none 0 0 :: .bool false :: .int .i64 0 :: .int .i64 0 :: .int .i64 0 :: .int .i64 0 :: .int .i64 0 :: .string ⟨#[]⟩ :: .int .i64 0 :: .string ⟨#[]⟩ :: .slice Option.none 0 0 :: .string ⟨#[]⟩ :: .string ⟨#[]⟩ :: .int .i64 0 :: .string ⟨#[]⟩ :: .string ⟨#[]⟩ :: .string s :: .bool false :: .string ⟨#[]⟩ :: .slice Option.none 0 0 :: .int .i64 0 :: []) _ rfl HRG.out underlying46 rfl infoObj) rfl ⟨rfl, HBE.out⟩
def StAt (w : World) (gs : List Value) (x : StateD) : Prop := RState (fun _ => True) w gs x
def ObAt (w : World) (cs : List Value) (o : ObjectD) : Prop := RObject (fun _ => True) w cs o
theorem StAt.on {w u : World} {gs : List Value} {x : StateD} (h : StAt w gs x) (hb : Below w.heap.size w u) : StAt u gs x := RState.firm.kept h (Kept.below hb)
theorem ObAt.on {w u : World} {gs : List Value} {x : ObjectD} (h : ObAt w gs x) (hb : Below w.heap.size w u) : ObAt u gs x := RObject.firm.kept h (Kept.below hb)
theorem StAt.len {w : World} {gs : List Value} {x : StateD} (h : StAt w gs x) : gs.length = 6 := RState.firm.len h
theorem StAt.one {w : World} {gs : List Value} {x : StateD} (h : StAt w gs x) : ∀ y ∈ gs, y.oneCell' = true := RState.firm.one h
theorem Put_law (ss cs : List Value) (x : StateD) (o : ObjectD) (w : World) (hs : StAt w ss x) (ho : ObAt w cs o) (hf : Fits (putO x o).1) : Calls prog 19 #[.agg ss.toArray, .agg cs.toArray] w fun e w' => ∃ gs, e = .returned (.tuple #[.agg gs.toArray, .bool (putO x o).2.1, .int .i64 (putO x o).2.2]) ∧ StAt w' gs (putO x o).1 ∧ Below w.heap.size w w' := by
 refine (Put_calls ss cs _ x o w hs ho).mono fun e w' h => ?_
 obtain ⟨gs, rfl, h1, h2⟩ := h.st
 exact ⟨gs, rfl, RState.firm.weak (h1.rstate hf) (fun _ _ _ => trivial), h2⟩
theorem noState_at (w : World) : StAt w [Z, Z, Z, Z, Z, Z] noState := noState_rep
def wst1 : StateD := ([], [], [], [], [(⟨#[98]⟩, false)], [])
def wst2 : StateD := ([], [], [], [], [(⟨#[97]⟩, false), (⟨#[98]⟩, false)], [])
theorem wput1 : putO noState (clsO 5 ⟨#[98]⟩) = (wst1, false, 0) := by kernel_rfl
theorem wput2 : putO wst1 (clsO 5 ⟨#[97]⟩) = (wst2, false, 0) := by kernel_rfl
theorem wchk1 : checkO (clsO 5 ⟨#[]⟩) = 40 := by kernel_rfl
theorem wchk2 : checkO (clsO 7 ⟨#[]⟩) = 2 := by kernel_rfl
theorem wfit1 : Fits wst1 := by simp [Fits, wst1]
theorem wfit2 : Fits wst2 := by simp [Fits, wst2]
end Go.Proofs.YtikncmcceeacmaaGreat

