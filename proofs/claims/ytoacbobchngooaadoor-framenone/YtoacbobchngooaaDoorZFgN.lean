/- A frame that no call made. No condition. -/
import Derived.Test.YtoacbobchngooaaDoorQ15
import Derived.Test.YtoacbobchngooaaDoorQ06
namespace Go.Proofs.YtoacbobchngooaaDoor
open Go.RowKit Go.Maps
set_option linter.unusedSimpArgs false
set_option maxRecDepth 100000

/-- No frame: nil, or one with nothing in it. -/
def NoF (u : World) (v : Value) : Prop := v = .pointer none ∨ ∃ D, v = .pointer (some ⟨D, 0, none⟩) ∧ BoxL u D [.bool false, .slice none 0 0, .slice none 0 0]
theorem made_no {u : World} {v : Value} (h : NoF u v) : Calls Tryd.prog 30 #[v] u fun e w' => e = .returned (.bool false) ∧ w' = u := by
  rcases h with rfl | ⟨D, rfl, hb⟩
  · go_enter Tryd.func30, Tryd.ntmps30
    go_wp2_with fail
    go_ret
    exact ⟨rfl, rfl⟩
  · have d0 := (hb.2 0 _ rfl).1
    clear hb
    go_enter Tryd.func30, Tryd.ntmps30
    go_wp2_with fail
    go_ret
    exact ⟨rfl, rfl⟩
theorem run_no {u : World} {v : Value} (h : NoF u v) (pt : Int) : Calls Tryd.prog 14 #[v, .int .i64 pt] u fun e w' => e = .returned (.tuple #[.int .i64 0, .int .i64 1]) ∧ w' = u := by
  have hM := made_no h
  clear h
  go_enter Tryd.func14, Tryd.ntmps14
  go_wp2_with fail
  refine hM.mono ?_
  rintro e w1 ⟨rfl, rfl⟩
  clear hM
  go_wp2_with fail
  go_ret2
  exact ⟨rfl, rfl⟩
theorem reset_no {u : World} {v : Value} (h : NoF u v) : Calls Tryd.prog 11 #[v] u fun e w' => e = .returned (.tuple #[]) ∧ w' = u := by
  have hM := made_no h
  clear h
  go_enter Tryd.func11, Tryd.ntmps11
  go_wp2_with fail
  refine hM.mono ?_
  rintro e w1 ⟨rfl, rfl⟩
  clear hM
  go_wp2_with fail
  (try simp only [Exit.inBlock, Exit.then]); refine bodyPost_ret (results_none rfl _ _ _) rfl ?_
  exact ⟨rfl, rfl⟩
theorem calls_no {u : World} {v : Value} (h : NoF u v) : Calls Tryd.prog 16 #[v] u fun e w' => e = .returned (.slice none 0 0) ∧ w' = u := by
  have hM := made_no h
  clear h
  go_enter Tryd.func16, Tryd.ntmps16
  go_wp2_with fail
  refine hM.mono ?_
  rintro e w1 ⟨rfl, rfl⟩
  clear hM
  go_wp2_with fail
  go_ret
  exact ⟨rfl, rfl⟩
theorem scores_no {u : World} {v : Value} (h : NoF u v) : Calls Tryd.prog 19 #[v] u fun e w' => e = .returned (.slice none 0 0) ∧ w' = u := by
  have hM := made_no h
  clear h
  go_enter Tryd.func19, Tryd.ntmps19
  go_wp2_with fail
  refine hM.mono ?_
  rintro e w1 ⟨rfl, rfl⟩
  clear hM
  go_wp2_with fail
  go_ret
  exact ⟨rfl, rfl⟩
theorem clone_no {u : World} {v : Value} (h : NoF u v) : Calls Tryd.prog 13 #[v] u fun e w' => e = .returned (.pointer none) ∧ w' = u := by
  have hM := made_no h
  clear h
  go_enter Tryd.func13, Tryd.ntmps13
  go_wp2_with fail
  refine hM.mono ?_
  rintro e w1 ⟨rfl, rfl⟩
  clear hM
  go_wp2_with fail
  go_ret
  exact ⟨rfl, rfl⟩
theorem none_walk (pt : Int) (w : World) : Calls Tryd.prog 7 #[.int .i64 pt] w fun e w' => e = .returned (.bool true) ∧ Below w.heap.size w w' := by
  go_enter Tryd.func7, Tryd.ntmps7
  go_wp2_with fail
  refine (works17_calls frameOK w).mono ?_
  rintro e w1 ⟨rfl, b1⟩
  obtain ⟨W2, hW2⟩ : ∃ Z, Z = w1.alloc (.cells #[.bool false, .slice none 0 0, .slice none 0 0] 55) := ⟨_, rfl⟩
  have b2 : Below w1.heap.size w1 W2 := by rw [hW2]; exact (Below.refl _ _).alloc (Nat.le_refl _) _
  have q2 : BoxL W2 w1.heap.size [.bool false, .slice none 0 0, .slice none 0 0] := by rw [hW2]; exact BoxL.new w1 _ _
  have HW2 : Hid (w1.alloc (.cells #[.bool false, .slice none 0 0, .slice none 0 0] 55) = W2) := hW2.symm
  have HB : Hid (Below w.heap.size w W2) := on2 b1 b2
  have HA : Hid (NoF W2 (.pointer none)) := .inl rfl
  have HZ : Hid (NoF W2 (.pointer (some ⟨w1.heap.size, 0, none⟩))) := .inr ⟨_, rfl, q2⟩
  clear b1 hW2 b2 q2
  go_upto_region 5 with fail
  rw [HW2.out]
  generalize w1.heap.size = D at HZ ⊢
  clear HW2
  go_wp2_with fail
  --M1
  refine (run_no HA.out pt).mono ?_
  rintro e w5 ⟨rfl, rfl⟩
  go_wp2_with fail
  refine (run_no HZ.out pt).mono ?_
  rintro e w5 ⟨rfl, rfl⟩
  go_wp2_with fail
  refine (reset_no HA.out).mono ?_
  rintro e w5 ⟨rfl, rfl⟩
  go_wp2_with fail
  refine (reset_no HZ.out).mono ?_
  rintro e w5 ⟨rfl, rfl⟩
  go_wp2_with fail
  refine (calls_no HA.out).mono ?_
  rintro e w5 ⟨rfl, rfl⟩
  go_wp2_with fail
  refine (calls_no HZ.out).mono ?_
  rintro e w5 ⟨rfl, rfl⟩
  go_wp2_with fail
  refine (scores_no HA.out).mono ?_
  rintro e w5 ⟨rfl, rfl⟩
  go_wp2_with fail
  refine (scores_no HZ.out).mono ?_
  rintro e w5 ⟨rfl, rfl⟩
  go_wp2_with fail
  refine (clone_no HA.out).mono ?_
  rintro e w5 ⟨rfl, rfl⟩
  go_wp2_with fail
  refine (clone_no HZ.out).mono ?_
  rintro e w5 ⟨rfl, rfl⟩
  go_wp2_with fail
  go_ret
  exact ⟨rfl, HB.out⟩
end Go.Proofs.YtoacbobchngooaaDoor
