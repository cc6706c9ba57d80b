/- The document's watcher: List. Conditions: the watcher lies as is said of it. -/
import Derived.Test.YtnlmipgmakmbiaaWCut
namespace Go.Proofs.Ytnlmipgmakmbiaa
open Go.RowKit
set_option linter.unusedSimpArgs false
set_option maxRecDepth 100000

/-- What List answers, where the cursors stand then, and which marks there are. -/
def listP (At : List Int) (Off : List Bool) (k v : Int) : Int × List Int × List Bool := if (knB k && !decide (v < 0)) = true then (0, At.set k.toNat v, Off.set k.toNat false) else (2, At, Off)
set_option maxHeartbeats 8000000 in
theorem rList_calls (w : World) (p ga ca gb cb : Nat) (At : List Int) (Off : List Bool) (k v : Int) (u : World) (h : Rw7 w u p ga ca gb cb At Off) : Calls Try.prog 19 #[.pointer (some ⟨p, 0, none⟩), .int .i64 k, .int .i64 v] u fun e u' => e = .returned (.int .i64 (listP At Off k v).1) ∧ Rw7 w u' p ga ca gb cb (listP At Off k v).2.1 (listP At Off k v).2.2 ∧ Kept (Oth13 ga gb) u u' := by
  have hCk := rkind_calls k u
  have Hh : Hid (Rw7 w u p ga ca gb cb At Off) := h
  cases hk : knB k with
  | false =>
    have HR : Hid (listP At Off k v = (2, At, Off)) := by rw [Hid]; unfold listP; rw [hk]; rfl
    rw [hk] at hCk
    clear h
    go_enter Try.func19, Try.ntmps19
    go_wp2_with fail
    refine hCk.mono ?_
    rintro e u1 ⟨rfl, rfl⟩
    go_wp2_with fail
    go_ret
    exact ⟨by rw [HR.out]; rfl, by rw [HR.out]; exact Hh.out, Kept.refl _ _⟩
  | true =>
  rw [hk] at hCk
  by_cases hv : v < 0
  · have HR : Hid (listP At Off k v = (2, At, Off)) := by rw [Hid]; unfold listP; rw [hk, decide_eq_true hv]; rfl
    clear h
    go_enter Try.func19, Try.ntmps19
    go_wp2_with fail
    refine hCk.mono ?_
    rintro e u1 ⟨rfl, rfl⟩
    go_wp2_with fail
    go_ret
    exact ⟨by rw [HR.out]; rfl, by rw [HR.out]; exact Hh.out, Kept.refl _ _⟩
  · obtain ⟨k1, k2⟩ := kn_iff.1 hk
    obtain ⟨i, rfl⟩ : ∃ i : Nat, k = (i : Int) := ⟨k.toNat, by omega⟩
    have hi : i < 7 := by omega
    have hiz : (i : Int) < 7 := by omega
    have HR : Hid (listP At Off (i : Int) v = (0, At.set i v, Off.set i false)) := by rw [Hid]; unfold listP; rw [hk, decide_eq_false hv, Int.toNat_natCast]; rfl
    have HQ : Hid (∀ z, (∃ A B, Rw7 w z p ga ca gb cb A B) → z.cell? ⟨p, 0, none⟩ = some (.slice (some ⟨ga, 0, none⟩) 7 ca) ∧ z.cell? ⟨p, 1, none⟩ = some (.slice (some ⟨gb, 0, none⟩) 7 cb)) := fun z ⟨_, _, hz⟩ => hz.cells
    clear h hk
    go_enter Try.func19, Try.ntmps19
    go_wp2_with fail
    refine hCk.mono ?_
    rintro e u1 ⟨rfl, rfl⟩
    clear hCk
    go_upto_region 3 with fail
    have h0 : Rw7 w u1.drew p ga ca gb cb At Off ∧ Kept (Oth13 ga gb) u1 u1.drew := ⟨Hh.out.on (Below.refl _ _).drew, Kept.below (Below.refl _ _).drew⟩
    refine t0 (fun z => ∃ A B, Rw7 w z p ga ca gb cb A B) ⟨At, Off, h0.1⟩ (fun hHeld => ?_)
    generalize hwd : u1.drew = wd at hHeld h0 ⊢
    clear hwd
    try go_frame
    refine' tk 0 ?_ ?_; rotate_left
    · intro u hu; obtain ⟨f0, f1⟩ := HQ.out u hu; clear hu; go_simp; try with_reducible rfl
    try go_frame
    refine' tk 1 ?_ ?_; rotate_left
    · intro u hu; obtain ⟨f0, f1⟩ := HQ.out u hu; clear hu; go_simp; try with_reducible rfl
    try go_frame
    refine' tk 2 ?_ ?_; rotate_left
    · intro u hu; obtain ⟨f0, f1⟩ := HQ.out u hu; clear hu; go_simp; try with_reducible rfl
    try go_frame
    refine' tk 3 ?_ ?_; rotate_left
    · intro u hu; obtain ⟨f0, f1⟩ := HQ.out u hu; clear hu; go_simp; try with_reducible rfl
    try go_frame
    refine' tk 4 ?_ ?_; rotate_left
    · intro u hu; obtain ⟨f0, f1⟩ := HQ.out u hu; clear hu; go_simp; try with_reducible rfl
    try go_frame
    refine' tk 5 ?_ ?_; rotate_left
    · intro u hu; obtain ⟨f0, f1⟩ := HQ.out u hu; clear hu; go_simp; try with_reducible rfl
    try go_frame
    refine' tk 6 ?_ ?_; rotate_left
    · intro u hu; obtain ⟨f0, f1⟩ := HQ.out u hu; clear hu; go_simp; try with_reducible rfl
    try go_frame
    refine' tk 7 ?_ ?_; rotate_left
    · intro u hu; obtain ⟨f0, f1⟩ := HQ.out u hu; clear hu; go_simp; try with_reducible rfl
    try go_frame
    refine' tk 8 ?_ ?_; rotate_left
    · intro u hu; obtain ⟨f0, f1⟩ := HQ.out u hu; clear hu; go_simp; try with_reducible rfl
    try go_frame
    refine' tk 9 ?_ ?_; rotate_left
    · intro u hu; obtain ⟨f0, f1⟩ := HQ.out u hu; clear hu; go_simp; try with_reducible rfl
    try go_frame
    refine' tk 10 ?_ ?_; rotate_left
    · intro u hu; obtain ⟨f0, f1⟩ := HQ.out u hu; clear hu; go_simp; try with_reducible rfl
    try go_frame
    refine' tk 11 ?_ ?_; rotate_left
    · intro u hu; obtain ⟨f0, f1⟩ := HQ.out u hu; clear hu; go_simp; try with_reducible rfl
    try go_frame
    --M1
    obtain ⟨d0, d1⟩ := h0.1.readB hi
    have h1 := h0.1.setB hi false
    refine ts 12 (fun K hK => ?_)
    go_simp
    refine hK.out undef _ ⟨_, _, h1⟩ (fun hHeld2 => ?_)
    clear hK K hHeld; have hHeld := hHeld2; clear hHeld2
    try go_frame
    clear d0 d1
    refine' tk 13 ?_ ?_; rotate_left
    · intro u hu; obtain ⟨f0, f1⟩ := HQ.out u hu; clear hu; go_simp; try with_reducible rfl
    try go_frame
    --M2
    obtain ⟨d0, d1⟩ := h1.readA hi
    have h2 := h1.setA hi v
    refine ts 14 (fun K hK => ?_)
    go_simp
    refine hK.out undef _ ⟨_, _, h2⟩ (fun hHeld2 => ?_)
    clear hK K hHeld; have hHeld := hHeld2; clear hHeld2
    try go_frame
    refine tz ?_
    have HF : Hid (Rw7 w ((wd.setCell ⟨gb, i, none⟩ (.bool false)).setCell ⟨ga, i, none⟩ (.int .i64 v)) p ga ca gb cb (At.set i v) (Off.set i false) ∧ Kept (Oth13 ga gb) u1 ((wd.setCell ⟨gb, i, none⟩ (.bool false)).setCell ⟨ga, i, none⟩ (.int .i64 v))) := ⟨h2, (h0.2.trans (Kept.set (p := ⟨gb, i, none⟩) (fun h => h.2 rfl) _)).trans (Kept.set (p := ⟨ga, i, none⟩) (fun h => h.1 rfl) _)⟩
    clear h0 h1 h2 d0 d1 hHeld HQ
    go_wp2_with fail
    go_ret
    exact ⟨by rw [HR.out]; rfl, by rw [HR.out]; exact HF.out.1, HF.out.2⟩
end Go.Proofs.Ytnlmipgmakmbiaa
