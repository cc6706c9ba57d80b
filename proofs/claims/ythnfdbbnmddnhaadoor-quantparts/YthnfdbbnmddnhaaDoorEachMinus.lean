/- quant.each with the method minus takes away member by member, and changes nothing that was there. No condition. -/
import Derived.Test.YthnfdbbnmddnhaaDoorRes
namespace Go.Proofs.YthnfdbbnmddnhaaDoor
open Go.RowKit

set_option maxHeartbeats 4000000 in
theorem each_minus (a b c x y z : Int) (w : World) : Calls Tryd.prog 39 #[.func (.func 41) #[] #[], .agg #[.int .i64 a, .int .i64 b, .int .i64 c], .agg #[.int .i64 x, .int .i64 y, .int .i64 z]] w fun e w' => e = .returned (.agg #[.int .i64 (subI a x), .int .i64 (subI b y), .int .i64 (subI c z)]) ∧ Below w.heap.size w w' := by
  go_enter Tryd.func39, Tryd.ntmps39
  go_upto_region 1 with fail
  go_cut [7, 8] (fun p q wx => ∃ B C : Nat, p = .pointer (some ⟨B, 0, none⟩) ∧ q = .pointer (some ⟨C, 0, none⟩) ∧ w.heap.size + 1 + 1 < B ∧ w.heap.size + 1 + 1 < C ∧ B < wx.heap.size ∧ C < wx.heap.size ∧ Holds3 wx B a b c ∧ Holds3 wx C x y z ∧ Holds3 wx (w.heap.size + 1 + 1) 0 0 0 ∧ wx.frozen? ⟨w.heap.size + 1 + 1, 0, none⟩ = false ∧ wx.frozen? ⟨w.heap.size + 1 + 1, 1, none⟩ = false ∧ wx.frozen? ⟨w.heap.size + 1 + 1, 2, none⟩ = false ∧ Below w.heap.size w wx)
  case first =>
    go_region_held3 (fun w' => w'.cell? ⟨w.heap.size, 0, none⟩ = some (.int .i64 a) ∧ w'.cell? ⟨w.heap.size, 1, none⟩ = some (.int .i64 b) ∧ w'.cell? ⟨w.heap.size, 2, none⟩ = some (.int .i64 c) ∧ w'.cell? ⟨w.heap.size + 1, 0, none⟩ = some (.int .i64 x) ∧ w'.cell? ⟨w.heap.size + 1, 1, none⟩ = some (.int .i64 y) ∧ w'.cell? ⟨w.heap.size + 1, 2, none⟩ = some (.int .i64 z)) ((refine ⟨?_, ?_, ?_, ?_, ?_, ?_⟩) <;> (simp [go_sem]; done))
      (first | (go_at_call 44; refine (split_calls _ _ _ _).mono ?_; rintro e w' ⟨rfl, rfl⟩))
    all_goals
      go_wp2_with fail
      go_meet
      refine ⟨_, _, rfl, rfl, ?_, ?_, ?_, ?_, ⟨?_, ?_, ?_⟩, ⟨?_, ?_, ?_⟩, ⟨?_, ?_, ?_⟩, ?_, ?_, ?_, ?_⟩
      all_goals first | omega | (simp [go_sem]; done) | (simp [go_sem]; omega) | go_grown
  case rest =>
    obtain ⟨B, C, rfl, rfl, hB, hC, hBl, hCl, ⟨hB0, hB1, hB2⟩, ⟨hC0, hC1, hC2⟩, ⟨hR0, hR1, hR2⟩, hf0, hf1, hf2, hbel⟩ := hcut
    have hRl : w.heap.size + 1 + 1 < wc.heap.size := by omega
    go_wp2_with fail
    refine wp_loop_rounds 4 ?_
    rw [rounds_succ]
    go_wp2_with fail
    go_region_held3 (fun w' => w'.cell? ⟨B, 0, none⟩ = some (.int .i64 a) ∧ w'.cell? ⟨B, 1, none⟩ = some (.int .i64 b) ∧ w'.cell? ⟨B, 2, none⟩ = some (.int .i64 c) ∧ w'.cell? ⟨C, 0, none⟩ = some (.int .i64 x) ∧ w'.cell? ⟨C, 1, none⟩ = some (.int .i64 y) ∧ w'.cell? ⟨C, 2, none⟩ = some (.int .i64 z)) ((refine ⟨?_, ?_, ?_, ?_, ?_, ?_⟩) <;> (simp [*, go_sem]; done))
      (first | (go_at_call 41; refine (minus_calls _ _ _).mono ?_; rintro e w' ⟨rfl, rfl⟩))
    rename_i hHeld1
    clear hHeld1
    go_wp2_with fail
    rw [rounds_succ]
    go_wp2_with fail
    go_region_held3 (fun w' => w'.cell? ⟨B, 0, none⟩ = some (.int .i64 a) ∧ w'.cell? ⟨B, 1, none⟩ = some (.int .i64 b) ∧ w'.cell? ⟨B, 2, none⟩ = some (.int .i64 c) ∧ w'.cell? ⟨C, 0, none⟩ = some (.int .i64 x) ∧ w'.cell? ⟨C, 1, none⟩ = some (.int .i64 y) ∧ w'.cell? ⟨C, 2, none⟩ = some (.int .i64 z)) ((refine ⟨?_, ?_, ?_, ?_, ?_, ?_⟩) <;> (simp [*, go_sem]; done))
      (first | (go_at_call 41; refine (minus_calls _ _ _).mono ?_; rintro e w' ⟨rfl, rfl⟩))
    rename_i hHeld1
    clear hHeld1
    go_wp2_with fail
    rw [rounds_succ]
    go_wp2_with fail
    go_region_held3 (fun w' => w'.cell? ⟨B, 0, none⟩ = some (.int .i64 a) ∧ w'.cell? ⟨B, 1, none⟩ = some (.int .i64 b) ∧ w'.cell? ⟨B, 2, none⟩ = some (.int .i64 c) ∧ w'.cell? ⟨C, 0, none⟩ = some (.int .i64 x) ∧ w'.cell? ⟨C, 1, none⟩ = some (.int .i64 y) ∧ w'.cell? ⟨C, 2, none⟩ = some (.int .i64 z)) ((refine ⟨?_, ?_, ?_, ?_, ?_, ?_⟩) <;> (simp [*, go_sem]; done))
      (first | (go_at_call 41; refine (minus_calls _ _ _).mono ?_; rintro e w' ⟨rfl, rfl⟩))
    rename_i hHeld1
    clear hHeld1
    go_wp2_with fail
    rw [rounds_succ]
    go_wp2_with fail
    refine (join_below _ _ _ _).mono ?_
    rintro e w1 ⟨rfl, hb⟩
    have hb' : Below wc.heap.size wc w1 := (((((Below.refl wc.heap.size wc).alloc (Nat.le_refl _) _).drew).drew).drew).trans (hb.mono (by simp))
    have r0 := (hb'.cell (p := ⟨w.heap.size + 1 + 1, 0, none⟩) hRl).trans hR0
    have r1 := (hb'.cell (p := ⟨w.heap.size + 1 + 1, 1, none⟩) hRl).trans hR1
    have r2 := (hb'.cell (p := ⟨w.heap.size + 1 + 1, 2, none⟩) hRl).trans hR2
    have f0 := (hb'.frozen (p := ⟨w.heap.size + 1 + 1, 0, none⟩) hRl).trans hf0
    have f1 := (hb'.frozen (p := ⟨w.heap.size + 1 + 1, 1, none⟩) hRl).trans hf1
    have f2 := (hb'.frozen (p := ⟨w.heap.size + 1 + 1, 2, none⟩) hRl).trans hf2
    have hz : Below w.heap.size w w1 := hbel.trans (hb'.mono hbel.size)
    clear hb hb' hR0 hR1 hR2 hf0 hf1 hf2
    go_wp2_with fail
    exact bodyPost_ret (v := .agg #[.int .i64 (subI a x), .int .i64 (subI b y), .int .i64 (subI c z)]) (by simp [results, Tryd.results39, go_sem, r0, r1, r2]) rfl ⟨rfl, ((hz.setCell (by simp; omega) _).setCell (by simp; omega) _).setCell (by simp; omega) _⟩
end Go.Proofs.YthnfdbbnmddnhaaDoor
