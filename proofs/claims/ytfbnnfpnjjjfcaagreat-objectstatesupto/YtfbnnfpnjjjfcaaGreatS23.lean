/- object.kinds, object.othersBlank, and its like. No condition beyond what each says. -/
import Derived.Test.YtfbnnfpnjjjfcaaGreatS22
namespace Go.Proofs.YtfbnnfpnjjjfcaaGreat
set_option maxHeartbeats 16000000
set_option maxRecDepth 100000
open Tryz Go.RowKit
set_option linter.unusedSimpArgs false
def okO (x : ObjectD) (j : Nat) : Bool := match j with
 | 0 => (x.1 == 1) || blankPod x.2.1
 | 1 => (x.1 == 2) || blankNode x.2.2.1
 | 2 => (x.1 == 3) || blankVolume x.2.2.2.1
 | 3 => (x.1 == 4) || blankClaim x.2.2.2.2.1
 | 4 => (x.1 == 5) || blankClass x.2.2.2.2.2.1
 | 5 => (x.1 == 6) || blankBudget x.2.2.2.2.2.2
 | _ => true
def othersB (x : ObjectD) : Bool := allTo 6 (okO x)
theorem kinds_calls (w : World) : Calls prog 46 #[] w fun e w' => e = .returned (.slice (some ⟨w.heap.size, 0, none⟩) 6 6) ∧ w' = w.alloc (.cells #[.iface 136 (.agg #[.iface 132 (.agg #[])]), .iface 141 (.agg #[.iface 137 (.agg #[])]), .iface 146 (.agg #[.iface 142 (.agg #[])]), .iface 151 (.agg #[.iface 147 (.agg #[])]), .iface 156 (.agg #[.iface 152 (.agg #[])]), .iface 161 (.agg #[.iface 157 (.agg #[])])] 84) := by
 go_enter func46, ntmps46
 go_wp2_with fail
 go_ret
 exact ⟨rfl, rfl⟩
theorem othersBlank_calls (cs : List Value) (A : Where) (x : ObjectD) (w : World) (h : Hid (RObject A w cs x)) : Calls prog 34 #[.agg cs.toArray] w fun e w' => e = .returned (.bool (othersB x)) ∧ Below w.heap.size w w' := by
 have hi : (prog.info? 46).map (·.size) = some cs.length := by rw [RObject.firm.len h.out]; exact infoObj
 have H0 : Hid (cs[0]? = some (.int .i64 x.1)) := obj0 h.out
 obtain ⟨U0, hU0⟩ : ∃ U0, U0 = w.alloc (.cells cs.toArray 46) := ⟨_, rfl⟩
 have HS0 : Hid (U0.heap.size = w.heap.size + 1) := by rw [Hid, hU0]; simp
 have HH0 : Hid (Held w [(w.heap.size, cs)] [] U0) := by rw [Hid, hU0]; exact (Held.start w).push rfl cs _
 go_enter func34, ntmps34
 go_wp2_with fail
 rw [← hU0]
 clear hU0
 refine (kinds_calls _).mono ?_
 rintro e u1 ⟨rfl, hu1⟩
 have HH1 : Hid (Held w [(w.heap.size + 1, [.iface 136 (.agg #[.iface 132 (.agg #[])]), .iface 141 (.agg #[.iface 137 (.agg #[])]), .iface 146 (.agg #[.iface 142 (.agg #[])]), .iface 151 (.agg #[.iface 147 (.agg #[])]), .iface 156 (.agg #[.iface 152 (.agg #[])]), .iface 161 (.agg #[.iface 157 (.agg #[])])]), (w.heap.size, cs)] [] u1) := by rw [Hid, hu1]; exact HH0.out.push HS0.out [.iface 136 (.agg #[.iface 132 (.agg #[])]), .iface 141 (.agg #[.iface 137 (.agg #[])]), .iface 146 (.agg #[.iface 142 (.agg #[])]), .iface 151 (.agg #[.iface 147 (.agg #[])]), .iface 156 (.agg #[.iface 152 (.agg #[])]), .iface 161 (.agg #[.iface 157 (.agg #[])])] _
 rw [HS0.out]
 clear hu1 HH0 HS0
 go_wp2_with fail
 go_loopw [7] (fun i wr => ∃ k : Nat, k ≤ 6 ∧ i = .int .i64 k ∧ Hid (Held w [(w.heap.size + 1, [.iface 136 (.agg #[.iface 132 (.agg #[])]), .iface 141 (.agg #[.iface 137 (.agg #[])]), .iface 146 (.agg #[.iface 142 (.agg #[])]), .iface 151 (.agg #[.iface 147 (.agg #[])]), .iface 156 (.agg #[.iface 152 (.agg #[])]), .iface 161 (.agg #[.iface 157 (.agg #[])])]), (w.heap.size, cs)] [] wr) ∧ Hid (∀ j, j < k → okO x j = true)) (fun i _ => 6 - (intOf i).toNat)
 case atStart => exact ⟨0, Nat.zero_le _, rfl, HH1, fun j hj => absurd hj (Nat.not_lt_zero _)⟩
 case round =>
  obtain ⟨k, hk, rfl, hH, hall⟩ := hrel
  clear HH1
  have HR : Hid (wr.rangeAt w.heap.size 0 cs) := hH.out.get 1 rfl
  have hk0 : wr.cell? ⟨w.heap.size, 0, none⟩ = some (.int .i64 x.1) := by have := hH.out.cell 1 (b := w.heap.size) rfl 0 H0.out; exact this
  have hkl := hH.out.lt 1 (b := w.heap.size) rfl
  have HO : Hid (RObject A wr cs x) := RObject.firm.kept h.out (Kept.below hH.out.below)
  have hgo : ∀ m, m = k → okO x m = true → Hid (∀ j, j < k + 1 → okO x j = true) := fun m hm hb j hj => by
   rcases Nat.lt_succ_iff_lt_or_eq.1 hj with h' | h'
   ·
    exact hall.out j h'
   ·
    rw [h', ← hm]; exact hb
  have HGO : Hid (∀ m, m = k → okO x m = true → Hid (∀ j, j < k + 1 → okO x j = true)) := hgo
  have HBAD : Hid (k < 6 → okO x k = false → othersB x = false) := fun h1 h2 => allTo_false h1 h2
  have HEND : Hid (k = 6 → othersB x = true) := fun h1 => allTo_true (fun j hj => hall.out j (by omega))
  clear hall hgo
  have hcase : k = 0 ∨ k = 1 ∨ k = 2 ∨ k = 3 ∨ k = 4 ∨ k = 5 ∨ k = 6 := by omega
  clear hk
  rcases hcase with rfl | rfl | rfl | rfl | rfl | rfl | rfl
  ·
   have hc0 := hH.out.cell 0 (b := w.heap.size + 1) rfl 0 rfl
   have hcl := hH.out.lt 0 (b := w.heap.size + 1) rfl
   by_cases he : x.1 = 1
   ·
    have HG : Hid (∀ j, j < 0 + 1 → okO x j = true) := HGO.out 0 rfl (by simp [okO, he])
    have ht : ((1 : Int) != x.1) = false := by rw [he]; rfl
    clear HGO HBAD HEND he
    go_wp2_with fail
    go_roundw
    case rel => exact ⟨1, by omega, by go_num, hH, HG⟩
    case measure => simp [intOf]
   ·
    have ht : ((1 : Int) != x.1) = true := by rw [bne_iff_ne]; exact fun e => he e.symm
    have HC := Pod_oblank cs A x wr HO.out
    have HV : Hid (okO x 0 = blankPod x.2.1) := by simp [Hid, okO, he]
    generalize blankPod x.2.1 = r at HC HV
    clear he
    go_wp2_with (first | (refine BigFrame.wpList_want rfl (fun _ hKK => wp_load_mid 46 _ rfl w.heap.size 0 rfl cs _ HR.out underlying46 rfl hi (hKK _ _ ?_))) | fail)
    refine HC.mono ?_
    rintro e wr2 ⟨rfl, hb2⟩
    have HH2 : Hid (Held w [(w.heap.size + 1, [.iface 136 (.agg #[.iface 132 (.agg #[])]), .iface 141 (.agg #[.iface 137 (.agg #[])]), .iface 146 (.agg #[.iface 142 (.agg #[])]), .iface 151 (.agg #[.iface 147 (.agg #[])]), .iface 156 (.agg #[.iface 152 (.agg #[])]), .iface 161 (.agg #[.iface 157 (.agg #[])])]), (w.heap.size, cs)] [] wr2) := hH.out.on hb2
    cases r
    ·
     have HF : Hid (othersB x = false) := HBAD.out (by omega) HV.out
     clear HGO HBAD HEND hc0 hcl hk0 hkl
     go_wp2_with fail
     go_ret
     exact ⟨retb HF.out.symm, HH2.out.below⟩
    ·
     have HG : Hid (∀ j, j < 0 + 1 → okO x j = true) := HGO.out 0 rfl HV.out
     clear HGO HBAD HEND hc0 hcl hk0 hkl
     go_wp2_with fail
     go_roundw
     case rel => exact ⟨1, by omega, by go_num, HH2, HG⟩
     case measure => simp [intOf]
  ·
   have hc0 := hH.out.cell 0 (b := w.heap.size + 1) rfl 1 rfl
   have hcl := hH.out.lt 0 (b := w.heap.size + 1) rfl
   by_cases he : x.1 = 2
   ·
    have HG : Hid (∀ j, j < 1 + 1 → okO x j = true) := HGO.out 1 rfl (by simp [okO, he])
    have ht : ((2 : Int) != x.1) = false := by rw [he]; rfl
    clear HGO HBAD HEND he
    go_wp2_with fail
    go_roundw
    case rel => exact ⟨2, by omega, by go_num, hH, HG⟩
    case measure => simp [intOf]
   ·
    have ht : ((2 : Int) != x.1) = true := by rw [bne_iff_ne]; exact fun e => he e.symm
    have HC := Node_oblank cs A x wr HO.out
    have HV : Hid (okO x 1 = blankNode x.2.2.1) := by simp [Hid, okO, he]
    generalize blankNode x.2.2.1 = r at HC HV
    clear he
    go_wp2_with (first | (refine BigFrame.wpList_want rfl (fun _ hKK => wp_load_mid 46 _ rfl w.heap.size 0 rfl cs _ HR.out underlying46 rfl hi (hKK _ _ ?_))) | fail)
    refine HC.mono ?_
    rintro e wr2 ⟨rfl, hb2⟩
    have HH2 : Hid (Held w [(w.heap.size + 1, [.iface 136 (.agg #[.iface 132 (.agg #[])]), .iface 141 (.agg #[.iface 137 (.agg #[])]), .iface 146 (.agg #[.iface 142 (.agg #[])]), .iface 151 (.agg #[.iface 147 (.agg #[])]), .iface 156 (.agg #[.iface 152 (.agg #[])]), .iface 161 (.agg #[.iface 157 (.agg #[])])]), (w.heap.size, cs)] [] wr2) := hH.out.on hb2
    cases r
    ·
     have HF : Hid (othersB x = false) := HBAD.out (by omega) HV.out
     clear HGO HBAD HEND hc0 hcl hk0 hkl
     go_wp2_with fail
     go_ret
     exact ⟨retb HF.out.symm, HH2.out.below⟩
    ·
     have HG : Hid (∀ j, j < 1 + 1 → okO x j = true) := HGO.out 1 rfl HV.out
     clear HGO HBAD HEND hc0 hcl hk0 hkl
     go_wp2_with fail
     go_roundw
     case rel => exact ⟨2, by omega, by go_num, HH2, HG⟩
     case measure => simp [intOf]
  ·
   have hc0 := hH.out.cell 0 (b := w.heap.size + 1) rfl 2 rfl
   have hcl := hH.out.lt 0 (b := w.heap.size + 1) rfl
   by_cases he : x.1 = 3
   ·
    have HG : Hid (∀ j, j < 2 + 1 → okO x j = true) := HGO.out 2 rfl (by simp [okO, he])
    have ht : ((3 : Int) != x.1) = false := by rw [he]; rfl
    clear HGO HBAD HEND he
    go_wp2_with fail
    go_roundw
    case rel => exact ⟨3, by omega, by go_num, hH, HG⟩
    case measure => simp [intOf]
   ·
    have ht : ((3 : Int) != x.1) = true := by rw [bne_iff_ne]; exact fun e => he e.symm
    have HC := Volume_oblank cs A x wr HO.out
    have HV : Hid (okO x 2 = blankVolume x.2.2.2.1) := by simp [Hid, okO, he]
    generalize blankVolume x.2.2.2.1 = r at HC HV
    clear he
    go_wp2_with (first | (refine BigFrame.wpList_want rfl (fun _ hKK => wp_load_mid 46 _ rfl w.heap.size 0 rfl cs _ HR.out underlying46 rfl hi (hKK _ _ ?_))) | fail)
    refine HC.mono ?_
    rintro e wr2 ⟨rfl, hb2⟩
    have HH2 : Hid (Held w [(w.heap.size + 1, [.iface 136 (.agg #[.iface 132 (.agg #[])]), .iface 141 (.agg #[.iface 137 (.agg #[])]), .iface 146 (.agg #[.iface 142 (.agg #[])]), .iface 151 (.agg #[.iface 147 (.agg #[])]), .iface 156 (.agg #[.iface 152 (.agg #[])]), .iface 161 (.agg #[.iface 157 (.agg #[])])]), (w.heap.size, cs)] [] wr2) := hH.out.on hb2
    cases r
    ·
     have HF : Hid (othersB x = false) := HBAD.out (by omega) HV.out
     clear HGO HBAD HEND hc0 hcl hk0 hkl
     go_wp2_with fail
     go_ret
     exact ⟨retb HF.out.symm, HH2.out.below⟩
    ·
     have HG : Hid (∀ j, j < 2 + 1 → okO x j = true) := HGO.out 2 rfl HV.out
     clear HGO HBAD HEND hc0 hcl hk0 hkl
     go_wp2_with fail
     go_roundw
     case rel => exact ⟨3, by omega, by go_num, HH2, HG⟩
     case measure => simp [intOf]
  ·
   have hc0 := hH.out.cell 0 (b := w.heap.size + 1) rfl 3 rfl
   have hcl := hH.out.lt 0 (b := w.heap.size + 1) rfl
   by_cases he : x.1 = 4
   ·
    have HG : Hid (∀ j, j < 3 + 1 → okO x j = true) := HGO.out 3 rfl (by simp [okO, he])
    have ht : ((4 : Int) != x.1) = false := by rw [he]; rfl
    clear HGO HBAD HEND he
    go_wp2_with fail
    go_roundw
    case rel => exact ⟨4, by omega, by go_num, hH, HG⟩
    case measure => simp [intOf]
   ·
    have ht : ((4 : Int) != x.1) = true := by rw [bne_iff_ne]; exact fun e => he e.symm
    have HC := Claim_oblank cs A x wr HO.out
    have HV : Hid (okO x 3 = blankClaim x.2.2.2.2.1) := by simp [Hid, okO, he]
    generalize blankClaim x.2.2.2.2.1 = r at HC HV
    clear he
    go_wp2_with (first | (refine BigFrame.wpList_want rfl (fun _ hKK => wp_load_mid 46 _ rfl w.heap.size 0 rfl cs _ HR.out underlying46 rfl hi (hKK _ _ ?_))) | fail)
    refine HC.mono ?_
    rintro e wr2 ⟨rfl, hb2⟩
    have HH2 : Hid (Held w [(w.heap.size + 1, [.iface 136 (.agg #[.iface 132 (.agg #[])]), .iface 141 (.agg #[.iface 137 (.agg #[])]), .iface 146 (.agg #[.iface 142 (.agg #[])]), .iface 151 (.agg #[.iface 147 (.agg #[])]), .iface 156 (.agg #[.iface 152 (.agg #[])]), .iface 161 (.agg #[.iface 157 (.agg #[])])]), (w.heap.size, cs)] [] wr2) := hH.out.on hb2
    cases r
    ·
     have HF : Hid (othersB x = false) := HBAD.out (by omega) HV.out
     clear HGO HBAD HEND hc0 hcl hk0 hkl
     go_wp2_with fail
     go_ret
     exact ⟨retb HF.out.symm, HH2.out.below⟩
    ·
     have HG : Hid (∀ j, j < 3 + 1 → okO x j = true) := HGO.out 3 rfl HV.out
     clear HGO HBAD HEND hc0 hcl hk0 hkl
     go_wp2_with fail
     go_roundw
     case rel => exact ⟨4, by omega, by go_num, HH2, HG⟩
     case measure => simp [intOf]
  ·
   have hc0 := hH.out.cell 0 (b := w.heap.size + 1) rfl 4 rfl
   have hcl := hH.out.lt 0 (b := w.heap.size + 1) rfl
   by_cases he : x.1 = 5
   ·
    have HG : Hid (∀ j, j < 4 + 1 → okO x j = true) := HGO.out 4 rfl (by simp [okO, he])
    have ht : ((5 : Int) != x.1) = false := by rw [he]; rfl
    clear HGO HBAD HEND he
    go_wp2_with fail
    go_roundw
    case rel => exact ⟨5, by omega, by go_num, hH, HG⟩
    case measure => simp [intOf]
   ·
    have ht : ((5 : Int) != x.1) = true := by rw [bne_iff_ne]; exact fun e => he e.symm
    have HC := Class_oblank cs A x wr HO.out
    have HV : Hid (okO x 4 = blankClass x.2.2.2.2.2.1) := by simp [Hid, okO, he]
    generalize blankClass x.2.2.2.2.2.1 = r at HC HV
    clear he
    go_wp2_with (first | (refine BigFrame.wpList_want rfl (fun _ hKK => wp_load_mid 46 _ rfl w.heap.size 0 rfl cs _ HR.out underlying46 rfl hi (hKK _ _ ?_))) | fail)
    refine HC.mono ?_
    rintro e wr2 ⟨rfl, hb2⟩
    have HH2 : Hid (Held w [(w.heap.size + 1, [.iface 136 (.agg #[.iface 132 (.agg #[])]), .iface 141 (.agg #[.iface 137 (.agg #[])]), .iface 146 (.agg #[.iface 142 (.agg #[])]), .iface 151 (.agg #[.iface 147 (.agg #[])]), .iface 156 (.agg #[.iface 152 (.agg #[])]), .iface 161 (.agg #[.iface 157 (.agg #[])])]), (w.heap.size, cs)] [] wr2) := hH.out.on hb2
    cases r
    ·
     have HF : Hid (othersB x = false) := HBAD.out (by omega) HV.out
     clear HGO HBAD HEND hc0 hcl hk0 hkl
     go_wp2_with fail
     go_ret
     exact ⟨retb HF.out.symm, HH2.out.below⟩
    ·
     have HG : Hid (∀ j, j < 4 + 1 → okO x j = true) := HGO.out 4 rfl HV.out
     clear HGO HBAD HEND hc0 hcl hk0 hkl
     go_wp2_with fail
     go_roundw
     case rel => exact ⟨5, by omega, by go_num, HH2, HG⟩
     case measure => simp [intOf]
  ·
   have hc0 := hH.out.cell 0 (b := w.heap.size + 1) rfl 5 rfl
   have hcl := hH.out.lt 0 (b := w.heap.size + 1) rfl
   by_cases he : x.1 = 6
   ·
    have HG : Hid (∀ j, j < 5 + 1 → okO x j = true) := HGO.out 5 rfl (by simp [okO, he])
    have ht : ((6 : Int) != x.1) = false := by rw [he]; rfl
    clear HGO HBAD HEND he
    go_wp2_with fail
    go_roundw
    case rel => exact ⟨6, by omega, by go_num, hH, HG⟩
    case measure => simp [intOf]
   ·
    have ht : ((6 : Int) != x.1) = true := by rw [bne_iff_ne]; exact fun e => he e.symm
    have HC := Budget_oblank cs A x wr HO.out
    have HV : Hid (okO x 5 = blankBudget x.2.2.2.2.2.2) := by simp [Hid, okO, he]
    generalize blankBudget x.2.2.2.2.2.2 = r at HC HV
    clear he
    go_wp2_with (first | (refine BigFrame.wpList_want rfl (fun _ hKK => wp_load_mid 46 _ rfl w.heap.size 0 rfl cs _ HR.out underlying46 rfl hi (hKK _ _ ?_))) | fail)
    refine HC.mono ?_
    rintro e wr2 ⟨rfl, hb2⟩
    have HH2 : Hid (Held w [(w.heap.size + 1, [.iface 136 (.agg #[.iface 132 (.agg #[])]), .iface 141 (.agg #[.iface 137 (.agg #[])]), .iface 146 (.agg #[.iface 142 (.agg #[])]), .iface 151 (.agg #[.iface 147 (.agg #[])]), .iface 156 (.agg #[.iface 152 (.agg #[])]), .iface 161 (.agg #[.iface 157 (.agg #[])])]), (w.heap.size, cs)] [] wr2) := hH.out.on hb2
    cases r
    ·
     have HF : Hid (othersB x = false) := HBAD.out (by omega) HV.out
     clear HGO HBAD HEND hc0 hcl hk0 hkl
     go_wp2_with fail
     go_ret
     exact ⟨retb HF.out.symm, HH2.out.below⟩
    ·
     have HG : Hid (∀ j, j < 5 + 1 → okO x j = true) := HGO.out 5 rfl HV.out
     clear HGO HBAD HEND hc0 hcl hk0 hkl
     go_wp2_with fail
     go_roundw
     case rel => exact ⟨6, by omega, by go_num, HH2, HG⟩
     case measure => simp [intOf]
  ·
   have HF : Hid (othersB x = true) := HEND.out rfl
   clear HGO HBAD HEND
   go_wp2_with fail
   go_ret
   exact ⟨retb HF.out.symm, hH.out.below⟩
end Go.Proofs.YtfbnnfpnjjjfcaaGreat

