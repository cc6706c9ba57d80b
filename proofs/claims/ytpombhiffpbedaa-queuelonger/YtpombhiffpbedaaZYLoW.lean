/- QueueLonger's walk. No condition. -/
import Derived.Test.YtpombhiffpbedaaQ18
namespace Go.Proofs.Ytpombhiffpbedaa
open Go.RowKit Go.Maps
set_option linter.unusedSimpArgs false
set_option maxRecDepth 100000

theorem delayY_mono {a b : Int} (h : a ≤ b) : delayY a ≤ delayY b := by unfold delayY; (repeat' split) <;> omega
theorem delayY_one {a : Int} (h : ¬ a < 1) : 1 ≤ delayY a := by unfold delayY; (repeat' split) <;> omega
set_option maxHeartbeats 8000000 in
theorem longer_walk (a b : Int) (w : World) (ha : a ≤ 9223372036854775807) (hb : b ≤ 9223372036854775807) : Calls Try.prog 6 #[.int .i64 a, .int .i64 b] w fun e w' => e = .returned (.bool true) ∧ Below w.heap.size w w' := by
  have hW := works14_calls w
  have hm : b < a ∨ delayY a ≤ delayY b := by
    rcases Int.lt_or_le b a with h | h
    · exact .inl h
    · exact .inr (delayY_mono h)
  have hr := delayY_in a
  have h1 : a < 1 ∨ 1 ≤ delayY a := by
    by_cases h : a < 1
    · exact .inl h
    · exact .inr (delayY_one h)
  have HA : Hid (∀ z, Calls Try.prog 21 #[.int .i64 a] z fun e u' => e = .returned (.int .i64 (delayY a)) ∧ u' = z) := fun z => ydelay_calls a ha z
  have HB : Hid (∀ z, Calls Try.prog 21 #[.int .i64 b] z fun e u' => e = .returned (.int .i64 (delayY b)) ∧ u' = z) := fun z => ydelay_calls b hb z
  generalize delayY a = x at hm hr h1 HA
  generalize delayY b = y at hm HB
  obtain ⟨hr0, hr1⟩ := hr
  clear ha hb
  by_cases hab : b < a
  · clear hm
    by_cases ha1 : a < 1
    · clear h1
      go_enter Try.func6, Try.ntmps6
      go_wp2_with fail
      refine hW.mono ?_
      rintro e w1 ⟨rfl, b1⟩
      clear hW
      have HB1 : Hid (Below w.heap.size w w1) := b1
      clear b1
      have hA := HA.out w1
      have hB := HB.out w1
      clear HA HB
      go_wp2_with fail
      refine hA.mono ?_
      rintro e w2 ⟨rfl, hw2⟩
      obtain rfl := hw2.symm
      clear hA
      go_wp2_with fail
      refine hB.mono ?_
      rintro e w3 ⟨rfl, hw3⟩
      obtain rfl := hw3.symm
      clear hB
      go_wp2_with fail
      go_ret
      exact ⟨rfl, HB1.out⟩
    · have h2 : 1 ≤ x := h1.resolve_left ha1
      clear h1
      go_enter Try.func6, Try.ntmps6
      go_wp2_with fail
      refine hW.mono ?_
      rintro e w1 ⟨rfl, b1⟩
      clear hW
      have HB1 : Hid (Below w.heap.size w w1) := b1
      clear b1
      have hA := HA.out w1
      have hB := HB.out w1
      clear HA HB
      go_wp2_with fail
      refine hA.mono ?_
      rintro e w2 ⟨rfl, hw2⟩
      obtain rfl := hw2.symm
      clear hA
      go_wp2_with fail
      refine hB.mono ?_
      rintro e w3 ⟨rfl, hw3⟩
      obtain rfl := hw3.symm
      clear hB
      go_wp2_with fail
      go_ret
      exact ⟨rfl, HB1.out⟩
  · have hxy : x ≤ y := hm.resolve_left hab
    clear hm
    by_cases ha1 : a < 1
    · clear h1
      go_enter Try.func6, Try.ntmps6
      go_wp2_with fail
      refine hW.mono ?_
      rintro e w1 ⟨rfl, b1⟩
      clear hW
      have HB1 : Hid (Below w.heap.size w w1) := b1
      clear b1
      have hA := HA.out w1
      have hB := HB.out w1
      clear HA HB
      go_wp2_with fail
      refine hA.mono ?_
      rintro e w2 ⟨rfl, hw2⟩
      obtain rfl := hw2.symm
      clear hA
      go_wp2_with fail
      refine hB.mono ?_
      rintro e w3 ⟨rfl, hw3⟩
      obtain rfl := hw3.symm
      clear hB
      go_wp2_with fail
      go_ret
      exact ⟨rfl, HB1.out⟩
    · have h2 : 1 ≤ x := h1.resolve_left ha1
      clear h1
      go_enter Try.func6, Try.ntmps6
      go_wp2_with fail
      refine hW.mono ?_
      rintro e w1 ⟨rfl, b1⟩
      clear hW
      have HB1 : Hid (Below w.heap.size w w1) := b1
      clear b1
      have hA := HA.out w1
      have hB := HB.out w1
      clear HA HB
      go_wp2_with fail
      refine hA.mono ?_
      rintro e w2 ⟨rfl, hw2⟩
      obtain rfl := hw2.symm
      clear hA
      go_wp2_with fail
      refine hB.mono ?_
      rintro e w3 ⟨rfl, hw3⟩
      obtain rfl := hw3.symm
      clear hB
      go_wp2_with fail
      go_ret
      exact ⟨rfl, HB1.out⟩
end Go.Proofs.Ytpombhiffpbedaa
